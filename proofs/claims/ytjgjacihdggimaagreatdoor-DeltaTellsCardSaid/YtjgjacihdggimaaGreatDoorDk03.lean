/- Texts joined: RwB, NdIk, NdMk, TpZ, TpS, TpB9, TpR, NdE, NfA, KpA. -/
import Derived.Test.YtjgjacihdggimaaGreatDoorDk02
import Derived.Test.YtjgjacihdggimaaGreatDoorDk01
import Derived.Deep.AppendLies
import Derived.Maps.AppendAt
import Derived.Lib.ItoaNum
import Derived.Lib.ItoaLen
import Derived.OwnWalk
set_option linter.all false
namespace Go.Proofs.YtjgjacihdggimaaGreatDoor
open Go.RowKit
def OwnR {α : Type} (E : TypeId) (n : Nat) (f : α → List Value) (base : Nat) (w : World) (v : Value) (L : List α) : Prop := w.ownsRow base E n v L.length (L.flatMap f)
section
variable {α : Type} {E : TypeId} {n : Nat} {f : α → List Value}
theorem flatR_at (hf : ∀ q, (f q).length = n) : ∀ (l : List α) (i : Nat) (q : α), l[i]? = some q → ∀ (j : Nat) (u : Value), (f q)[j]? = some u → (l.flatMap f)[i * n + j]? = some u
  | [], i, q, h, _, _, _ => by simp at h
  | p :: t, 0, q, h, j, u, hj => by
    simp at h; subst h
    rw [List.flatMap_cons, Nat.zero_mul, Nat.zero_add, List.getElem?_append_left (by exact (List.getElem?_eq_some_iff.1 hj).1)]
    exact hj
  | p :: t, i + 1, q, h, j, u, hj => by
    have := flatR_at hf t i q (by simpa using h) j u hj
    have e : (i + 1) * n + j - n = i * n + j := by rw [Nat.succ_mul]; omega
    rw [List.flatMap_cons, List.getElem?_append_right (by rw [hf, Nat.succ_mul]; omega), hf, e]
    exact this
theorem OwnR.shape {base : Nat} {w : World} {v : Value} {L : List α} (hf : ∀ q, (f q).length = n) (h : OwnR E n f base w v L) : ∃ (A : Option Addr) (cap : Nat), v = .slice A L.length cap ∧ L.length ≤ cap ∧ (L ≠ [] → ∃ g o, A = some ⟨g, o, none⟩ ∧ AtR f n w g o L) := by
  have h' := h
  rcases h.2 with ⟨rfl, hl⟩ | ⟨g, cap, cur, rfl, _, hh, hc, _⟩
  · refine ⟨none, 0, by rw [hl], by rw [hl]; exact Nat.le_refl _, fun hne => ?_⟩
    exact absurd (List.length_eq_zero_iff.1 hl) hne
  · refine ⟨_, cap, rfl, hc, fun _ => ⟨g, 0, rfl, fun i q hi j u hj => ?_⟩⟩
    have hlt : i < L.length := (List.getElem?_eq_some_iff.1 hi).1
    have hjn : j < n := by have := (List.getElem?_eq_some_iff.1 hj).1; rwa [hf] at this
    have hle : i * n + j < L.length * n := by
      have h1 : (i + 1) * n ≤ L.length * n := Nat.mul_le_mul_right n hlt
      rw [Nat.succ_mul] at h1
      omega
    rw [Nat.zero_add]
    exact (World.ownsRow.cellAt h' (i * n + j) (by first | exact hle | omega)).trans (flatR_at hf L i q hi j u hj)
def Apart (v u : Value) : Prop := ∀ k, v.ownBlock = some k → u.ownBlock = some k → False
theorem Apart.symm {v u : Value} (h : Apart v u) : Apart u v := fun k hv hu => h k hu hv
theorem Apart.nil (u : Value) : Apart (.slice none 0 0) u := fun k hv _ => by cases hv
theorem OwnR.beside {base : Nat} {w w' : World} {v u : Value} {L : List α} (h : OwnR E n f base w u L) (hg : w.grownBy w' v.ownBlock) (ha : Apart v u) : OwnR E n f base w' u L := by
  refine World.ownsRow.kept h hg ?_
  cases hu : u.ownBlock with
  | none => exact .inl rfl
  | some k => exact .inr fun e => ha k e.symm hu
theorem OwnR.apart {base : Nat} {w : World} {v v' u : Value} {L : List α} (h : OwnR E n f base w u L) (ha : Apart v u) (hat : v'.ownBlock = v.ownBlock ∨ v'.ownBlock = some (w.heap.size + 1)) : Apart v' u := fun k hv hu => by
  rcases hat with e | e
  · exact ha k (e ▸ hv) hu
  · have h1 := (World.ownsRow.lt h k hu).2
    rw [e] at hv
    cases hv
    omega
theorem OwnR.below {base : Nat} {w w' : World} {v : Value} {L : List α} (h : OwnR E n f base w v L) (hb : Below w.heap.size w w') : OwnR E n f base w' v L := own_below h hb
theorem wpList_append_row {S : TypeId} {i0 : TypeInfo} {z : Value} {nb : Nat}
    (w : World) {ops : Array Oper} {rest : List Oper} {o : Oper} {a : Act} {Q : Exit → Act → World → Prop} (hg : o.guard = none) (s x : Operand) (ho : o.op = .call { callee := .builtin .append, args := #[s, x], argTypes := #[S, S] }) {base : Nat} {v : Value} {X : List α}
    (hs : a.eval s = v) {w0 : World} {q : α} (hw : w = w0.alloc (.cells (f q).toArray E)) (hown : OwnR E n f base w0 v X) (hx : a.eval x = .slice (some ⟨w0.heap.size, 0, none⟩) 1 1)
    (hu : Tryz.prog.underlying S = some (.slice E)) (hi0 : Tryz.prog.info? E = some i0) (hz0 : i0.zero = some z) (hz1 : i0.size = n) (hz2 : i0.bytes = nb) (hzc : z.cells.size = n) (hn0 : 0 < n) (hnb : nb ≤ 100)
    (hf : ∀ q, (f q).length = n) (h1c : ∀ q, ∀ u ∈ f q, u.oneCell' = true) (hlen : X.length ≤ 1000000) (hbase : base ≤ w0.heap.size)
    (h : ∀ v' w', OwnR E n f base w' v' (X ++ [q]) → w0.grownBy w' v.ownBlock → (v'.ownBlock = v.ownBlock ∨ v'.ownBlock = some (w0.heap.size + 1)) → wpList Tryz.prog ops Q rest (a.put o.dst v') w') : wpList Tryz.prog ops Q (o :: rest) a w := by
  subst hw
  have hb : (w0.alloc (.cells (f q).toArray E)).heap[w0.heap.size]? = some (.cells (f q).toArray E) := (MapKept.heap_alloc w0 _).1
  have hroom : nb * (X.length + 1) ≤ 200000000 := by
    have : nb * (X.length + 1) ≤ 100 * (1000000 + 1) := Nat.mul_le_mul hnb (by omega)
    omega
  refine wpList_append_own_at _ hg s x S ho base E i0 z n nb hu hi0 hz0 hz1 hz2 hzc hn0 v X.length (X.flatMap f) hs (World.ownsRow.alloc hown _) ⟨w0.heap.size, 0, none⟩ 1 1 (f q) hx (by rw [hf, Nat.one_mul]) ?_ (h1c q) (by unfold maxLen; omega) ?_ (by simp; omega) fun v' w' hown' hg' _ hat => h v' w' ?_ ?_ (by simpa using hat)
  · intro j u hj
    exact World.news_of_block (cs := (f q).toArray) (t := E) (fr := (0, 0)) hb j u (by simpa using hj)
  · first
    | omega
    | (have e : nb * (X.length + 1) = (X.length + 1) * nb := Nat.mul_comm _ _; omega)
  · unfold OwnR
    rw [List.length_append, List.flatMap_append]
    show w'.ownsRow base _ n v' (X.length + 1) (X.flatMap f ++ [q].flatMap f)
    rw [List.flatMap_singleton]
    exact hown'
  · exact ⟨hg'.os, hg'.tape, hg'.output, Nat.le_trans (by simp) hg'.size, fun k hk hn => (hg'.block k (by simp; omega) hn).trans (Below.heap_alloc w0 _ k hk)⟩
theorem step_append_row {S : TypeId} {i0 : TypeInfo} {z : Value} {nb : Nat}
    {w : World} {ops : Array Oper} {o : Oper} {a : Act} {K : Act → World → Prop} {Q : Exit → Act → World → Prop} {E0 : Prop} (hg : o.guard = none) (s x : Operand) (ho : o.op = .call { callee := .builtin .append, args := #[s, x], argTypes := #[S, S] }) {base : Nat} {v : Value} {X : List α}
    (hs : a.eval s = v) (B : Nat) {q : α} (hx : a.eval x = .slice (some ⟨B, 0, none⟩) 1 1) (hown : OwnR E n f base w v X) (hb : w.heap[B]? = some (.cells (f q).toArray E))
    (hu : Tryz.prog.underlying S = some (.slice E)) (hi0 : Tryz.prog.info? E = some i0) (hz0 : i0.zero = some z) (hz1 : i0.size = n) (hz2 : i0.bytes = nb) (hzc : z.cells.size = n) (hn0 : 0 < n) (hnb : nb ≤ 100)
    (hf : ∀ q, (f q).length = n) (h1c : ∀ q, ∀ u ∈ f q, u.oneCell' = true) (hlen : X.length ≤ 1000000) (hbase : base ≤ w.heap.size)
    (h : ∀ g cap w', OwnR E n f base w' (.slice (some ⟨g, 0, none⟩) (X.length + 1) cap) (X ++ [q]) → w.grownBy w' v.ownBlock → (v.ownBlock = some g ∨ g = w.heap.size) → K (a.put o.dst (.slice (some ⟨g, 0, none⟩) (X.length + 1) cap)) w') :
    if Region.wanted o (yielded ops a.tmps) = true then Oper.wp Tryz.prog o a w K Q else E0 := by
  have hroom : nb * (X.length + 1) ≤ 200000000 := by
    have : nb * (X.length + 1) ≤ 100 * (1000000 + 1) := Nat.mul_le_mul hnb (by omega)
    omega
  refine step_append_lies _ hg s x S ho base E i0 z n nb hu hi0 hz0 hz1 hz2 hzc hn0 v X.length (X.flatMap f) hs hown ⟨B, 0, none⟩ 1 1 (f q) hx (by rw [hf, Nat.one_mul]) ?_ (h1c q) (by omega) (by unfold maxLen; omega) ?_ hbase w.heap.size rfl fun g cap w' hown' hg' hat _ => h g cap w' ?_ hg' hat
  · intro j u hj
    exact World.news_of_block (cs := (f q).toArray) (t := E) (fr := (0, 0)) hb j u (by simpa using hj)
  · first
    | omega
    | (have e : nb * (X.length + 1) = (X.length + 1) * nb := Nat.mul_comm _ _; omega)
  · unfold OwnR
    rw [List.length_append, List.flatMap_append]
    show w'.ownsRow base _ n _ (X.length + 1) (X.flatMap f ++ [q].flatMap f)
    rw [List.flatMap_singleton]
    exact hown'
theorem flatR_len (hf : ∀ q, (f q).length = n) : ∀ l : List α, (l.flatMap f).length = l.length * n
  | [] => by simp
  | q :: l => by rw [List.flatMap_cons, List.length_append, flatR_len hf l, hf, List.length_cons, Nat.succ_mul]; omega
theorem flatR_split (hf : ∀ q, (f q).length = n) (hn0 : 0 < n) {l : List α} {j : Nat} {u : Value} (h : (l.flatMap f)[j]? = some u) : ∃ i q k, l[i]? = some q ∧ (f q)[k]? = some u ∧ j = i * n + k := by
  have hl := (List.getElem?_eq_some_iff.1 h).1
  rw [flatR_len hf] at hl
  have hi : j / n < l.length := Nat.div_lt_of_lt_mul (by rw [Nat.mul_comm]; exact hl)
  have hk : j % n < n := Nat.mod_lt _ hn0
  have hq := List.getElem?_eq_getElem hi
  have hu : (f l[j / n])[j % n]? = some ((f l[j / n])[j % n]'(by rw [hf]; exact hk)) := List.getElem?_eq_getElem _
  have e : j / n * n + j % n = j := Nat.div_add_mod' j n
  have := flatR_at hf l (j / n) _ hq (j % n) _ hu
  rw [e, h] at this
  exact ⟨j / n, _, j % n, hq, by rw [hu, this], e.symm⟩
theorem wpList_append_rows {S : TypeId} {i0 : TypeInfo} {z : Value} {nb : Nat}
    {w : World} {ops : Array Oper} {rest : List Oper} {o : Oper} {a : Act} {Q : Exit → Act → World → Prop} (hg : o.guard = none) (s x : Operand) (ho : o.op = .call { callee := .builtin .append, args := #[s, x], argTypes := #[S, S] }) {base : Nat} {v : Value} {X : List α}
    (hs : a.eval s = v) (hown : OwnR E n f base w v X) {g2 o2 c2 : Nat} {L2 : List α} (hx : a.eval x = .slice (some ⟨g2, o2, none⟩) L2.length c2) (hL : AtR f n w g2 o2 L2) (h0 : 0 < L2.length) {N : Nat} (hN : X.length + L2.length = N) {Z : List α} (hZ : X ++ L2 = Z)
    (hu : Tryz.prog.underlying S = some (.slice E)) (hi0 : Tryz.prog.info? E = some i0) (hz0 : i0.zero = some z) (hz1 : i0.size = n) (hz2 : i0.bytes = nb) (hzc : z.cells.size = n) (hn0 : 0 < n) (hnb : nb ≤ 100)
    (hf : ∀ q, (f q).length = n) (h1c : ∀ q, ∀ u ∈ f q, u.oneCell' = true) (hlen : N ≤ 2000000) (hbase : base ≤ w.heap.size)
    (h : ∀ g cap w', OwnR E n f base w' (.slice (some ⟨g, 0, none⟩) N cap) Z → w.grownBy w' v.ownBlock → (v.ownBlock = some g ∨ g = w.heap.size) → g < w'.heap.size → wpList Tryz.prog ops Q rest (a.put o.dst (.slice (some ⟨g, 0, none⟩) N cap)) w') : wpList Tryz.prog ops Q (o :: rest) a w := by
  subst hN hZ
  have hroom : nb * (X.length + L2.length) ≤ 200000000 := by
    have : nb * (X.length + L2.length) ≤ 100 * 2000000 := Nat.mul_le_mul hnb hlen
    omega
  refine wpList_append_lies _ hg s x S ho base E i0 z n nb hu hi0 hz0 hz1 hz2 hzc hn0 v X.length (X.flatMap f) hs hown ⟨g2, o2, none⟩ L2.length c2 (L2.flatMap f) hx (flatR_len hf L2) ?_ ?_ h0 (by unfold maxLen; omega) ?_ hbase w.heap.size rfl fun g cap w' hown' hg' hat hlt => h g cap w' ?_ hg' hat hlt
  · intro j u hj
    obtain ⟨i, q, k, hi, hk, e⟩ := flatR_split hf hn0 hj
    have := hL i q hi k u hk
    rw [Go.WideShapes.add_plain, e, ← Nat.add_assoc]; exact this
  · intro u hu'
    obtain ⟨q, _, hq⟩ := List.mem_flatMap.1 hu'
    exact h1c q u hq
  · have e : nb * (X.length + L2.length) = (X.length + L2.length) * nb := Nat.mul_comm _ _
    omega
  · unfold OwnR
    rw [List.length_append, List.flatMap_append]
    exact hown'
theorem one_row (w : World) (q : α) : AtR f n (w.alloc (.cells (f q).toArray E)) w.heap.size 0 [q] := fun i p hi j u hj => by
  cases i with
  | succ i => simp at hi
  | zero =>
    obtain rfl : q = p := by simpa using hi
    rw [Nat.zero_mul, Nat.zero_add, cell_of_row _ _ j (f q).toArray E (0, 0) (MapKept.heap_alloc w _).1]
    simpa using hj
theorem own_lit0 (w : World) (base : Nat) (hb : base ≤ w.heap.size) : OwnR E n f base (w.alloc (.cells #[] E)) (.slice (some ⟨w.heap.size, 0, none⟩) 0 0) ([] : List α) :=
  World.ownsRow_lit w #[] 0 hb (by unfold maxLen; omega) (by simp)
theorem OwnR.at {base : Nat} {w : World} {g cap N : Nat} {L : List α} (hf : ∀ q, (f q).length = n) (h : OwnR E n f base w (.slice (some ⟨g, 0, none⟩) N cap) L) (hN : N = L.length) : AtR f n w g 0 L := fun i q hi j u hj => by
  subst hN
  have hlt : i < L.length := (List.getElem?_eq_some_iff.1 hi).1
  have hjn : j < n := by have := (List.getElem?_eq_some_iff.1 hj).1; rwa [hf] at this
  have hle : i * n + j < L.length * n := by
    have h1 : (i + 1) * n ≤ L.length * n := Nat.mul_le_mul_right n hlt
    rw [Nat.succ_mul] at h1
    omega
  rw [Nat.zero_add]
  exact (World.ownsRow.cellAt h (i * n + j) hle).trans (flatR_at hf L i q hi j u hj)
theorem run_append_nothing {P : Program} (w : World) (t ty e : TypeId) (i : TypeInfo) (ht : P.underlying t = some (.slice e)) (hi : P.info? e = some i) (B : Nat) (A : Option Addr) (c : Nat) :
    (Builtin.append_ #[t, t] ty #[.slice (some ⟨B, 0, none⟩) 0 0, .slice A 0 c]).run P w = .ok (.slice (some ⟨B, 0, none⟩) 0 0) w := by
  cases A <;> simp [Builtin.append_, run_underlying ht, sizeOf, typeInfo, hi, Builtin.lenOf, Builtin.firstCells, loadCells, loadCellsFrom, storeCells]
theorem step_append_nothing {P : Program} {w : World} {ops : Array Oper} {o : Oper} {a : Act} {K : Act → World → Prop} {Q : Exit → Act → World → Prop} {E : Prop} (hgd : o.guard = none) (s x : Operand) (t : TypeId)
    (ho : o.op = .call { callee := .builtin .append, args := #[s, x], argTypes := #[t, t] }) (e : TypeId) (i : TypeInfo) (ht : P.underlying t = some (.slice e)) (hi : P.info? e = some i) (B : Nat) (A : Option Addr) (c : Nat)
    (hs : a.eval s = .slice (some ⟨B, 0, none⟩) 0 0) (hx : a.eval x = .slice A 0 c) (h : K (a.put o.dst (.slice (some ⟨B, 0, none⟩) 0 0)) w) :
    if Region.wanted o (yielded ops a.tmps) = true then Oper.wp P o a w K Q else E := by
  have hw : Region.wanted o (yielded ops a.tmps) = true := by simp [Region.wanted, hgd]
  rw [if_pos hw]
  unfold Oper.wp execOp
  simp only [ho, Go.resolve, invoke, builtin, Sem.run_bind, Sem.run_pure, Result.andThen_ok, List.map_toArray, List.map_cons, List.map_nil, hs, hx, run_append_nothing w t o.type e i ht hi B A c]
  exact h
theorem wpList_append_nothing {P : Program} {w : World} {ops : Array Oper} {rest : List Oper} {o : Oper} {a : Act} {Q : Exit → Act → World → Prop} (hgd : o.guard = none) (s x : Operand) (t : TypeId)
    (ho : o.op = .call { callee := .builtin .append, args := #[s, x], argTypes := #[t, t] }) (e : TypeId) (i : TypeInfo) (ht : P.underlying t = some (.slice e)) (hi : P.info? e = some i) (B : Nat) (A : Option Addr) (c : Nat)
    (hs : a.eval s = .slice (some ⟨B, 0, none⟩) 0 0) (hx : a.eval x = .slice A 0 c) (h : wpList P ops Q rest (a.put o.dst (.slice (some ⟨B, 0, none⟩) 0 0)) w) : wpList P ops Q (o :: rest) a w := by
  refine wpList_plain hgd fun K' hK' => ?_
  unfold Oper.wp execOp
  simp only [ho, Go.resolve, invoke, builtin, Sem.run_bind, Sem.run_pure, Result.andThen_ok, List.map_toArray, List.map_cons, List.map_nil, hs, hx, run_append_nothing w t o.type e i ht hi B A c]
  exact hK' _ _ h
theorem step_append_rows {S : TypeId} {i0 : TypeInfo} {z : Value} {nb : Nat}
    {w : World} {ops : Array Oper} {o : Oper} {a : Act} {K : Act → World → Prop} {Q : Exit → Act → World → Prop} {E0 : Prop} (hg : o.guard = none) (s x : Operand) (ho : o.op = .call { callee := .builtin .append, args := #[s, x], argTypes := #[S, S] }) {base : Nat} {v : Value} {X : List α}
    (hs : a.eval s = v) (hown : OwnR E n f base w v X) {g2 o2 c2 : Nat} {L2 : List α} (hx : a.eval x = .slice (some ⟨g2, o2, none⟩) L2.length c2) (hL : AtR f n w g2 o2 L2) (h0 : 0 < L2.length) {N : Nat} (hN : X.length + L2.length = N) {Z : List α} (hZ : X ++ L2 = Z)
    (hu : Tryz.prog.underlying S = some (.slice E)) (hi0 : Tryz.prog.info? E = some i0) (hz0 : i0.zero = some z) (hz1 : i0.size = n) (hz2 : i0.bytes = nb) (hzc : z.cells.size = n) (hn0 : 0 < n) (hnb : nb ≤ 100)
    (hf : ∀ q, (f q).length = n) (h1c : ∀ q, ∀ u ∈ f q, u.oneCell' = true) (hlen : N ≤ 2000000) (hbase : base ≤ w.heap.size)
    (h : ∀ g cap w', OwnR E n f base w' (.slice (some ⟨g, 0, none⟩) N cap) Z → w.grownBy w' v.ownBlock → (v.ownBlock = some g ∨ g = w.heap.size) → g < w'.heap.size → K (a.put o.dst (.slice (some ⟨g, 0, none⟩) N cap)) w') :
    if Region.wanted o (yielded ops a.tmps) = true then Oper.wp Tryz.prog o a w K Q else E0 := by
  subst hN hZ
  have hroom : nb * (X.length + L2.length) ≤ 200000000 := by
    have : nb * (X.length + L2.length) ≤ 100 * 2000000 := Nat.mul_le_mul hnb hlen
    omega
  refine step_append_lies _ hg s x S ho base E i0 z n nb hu hi0 hz0 hz1 hz2 hzc hn0 v X.length (X.flatMap f) hs hown ⟨g2, o2, none⟩ L2.length c2 (L2.flatMap f) hx (flatR_len hf L2) ?_ ?_ h0 (by unfold maxLen; omega) ?_ hbase w.heap.size rfl fun g cap w' hown' hg' hat hlt => h g cap w' ?_ hg' hat hlt
  · intro j u hj
    obtain ⟨i, q, k, hi, hk, e⟩ := flatR_split hf hn0 hj
    have := hL i q hi k u hk
    rw [Go.WideShapes.add_plain, e, ← Nat.add_assoc]; exact this
  · intro u hu'
    obtain ⟨q, _, hq⟩ := List.mem_flatMap.1 hu'
    exact h1c q u hq
  · have e : nb * (X.length + L2.length) = (X.length + L2.length) * nb := Nat.mul_comm _ _
    omega
  · unfold OwnR
    rw [List.length_append, List.flatMap_append]
    exact hown'
theorem own_empty0 {w : World} {base B : Nat} (hb : base ≤ B) (h : w.heap[B]? = some (.cells #[] E (0, 0))) : OwnR E n f base w (.slice (some ⟨B, 0, none⟩) 0 0) ([] : List α) :=
  ⟨by simp, .inr ⟨B, 0, #[], rfl, hb, h, Nat.le_refl _, Nat.zero_le _, by simp, by simp⟩⟩
end
end Go.Proofs.YtjgjacihdggimaaGreatDoor
namespace Go.Proofs.YtjgjacihdggimaaGreatDoor
open Go.RowKit
theorem own_of {v : Value} {g k : Nat} (hv : v.ownBlock = some g) (h : v.ownBlock = some k) : k = g := Option.some.inj (h.symm.trans hv)
def nd0 : Nd := ⟨0, [], [], []⟩
end Go.Proofs.YtjgjacihdggimaaGreatDoor
namespace Go.Proofs.YtjgjacihdggimaaGreatDoor
open Go.RowKit
def getN (s : Sh) (h : Int) : Nd := (ndAt s h).getD nd0
def getE (s : Sh) (h : Int) : Int := if live s h = true then 0 else 4
end Go.Proofs.YtjgjacihdggimaaGreatDoor
namespace Go.Proofs.YtjgjacihdggimaaGreatDoor
theorem flL_app : ∀ (a b : List Tr) (out : List Nd) (refs : List Int), flL (a ++ b) out refs = flL b (flL a out refs).1 (flL a out refs).2
  | [], b, out, refs => by rw [List.nil_append, flL]
  | t :: a, b, out, refs => by rw [List.cons_append, flL, flL_app a b, flL]
theorem flL_mono (ts : List Tr) (n : Nat) (out : List Nd) (refs : List Int) : (flL (ts.take n) out refs).1.length ≤ (flL ts out refs).1.length := by
  have h := flL_app (ts.take n) (ts.drop n) out refs
  rw [List.take_append_drop] at h
  obtain ⟨m, e⟩ := flL_ext (ts.drop n) (flL (ts.take n) out refs).1 (flL (ts.take n) out refs).2
  rw [h, e, List.length_append]; omega
theorem fl_ge (k : Int) (nums : List Int) (text : List UInt8) (kids : List Tr) (out : List Nd) : (flL kids out []).1.length ≤ (fl (.mk k nums text kids) out).length := by
  rw [fl, List.length_append]; omega
mutual
def szT' : Tr → Nat
  | .mk _ _ _ kids => szL' kids + 1
def szL' : List Tr → Nat
  | [] => 0
  | t :: ts => szT' t + szL' ts
end
mutual
theorem fl_size : ∀ (t : Tr) (out : List Nd), (fl t out).length = out.length + szT' t
  | .mk k nums text kids, out => by rw [fl, List.length_append, flL_size kids out [], szT']; rfl
theorem flL_size : ∀ (ts : List Tr) (out : List Nd) (refs : List Int), (flL ts out refs).1.length = out.length + szL' ts
  | [], out, refs => by rw [flL, szL']; rfl
  | t :: ts, out, refs => by rw [flL, flL_size ts, fl_size t, szL']; omega
end
end Go.Proofs.YtjgjacihdggimaaGreatDoor
namespace Go.Proofs.YtjgjacihdggimaaGreatDoor
theorem atL_iff {s : Sh} : ∀ (ts : List Tr) (hs : List Int), AtL s ts hs ↔ hs.length = ts.length ∧ ∀ (i : Nat) (t : Tr) (h : Int), ts[i]? = some t → hs[i]? = some h → At s t h
  | [], hs => by
    rw [AtL]
    exact ⟨fun e => by subst e; exact ⟨rfl, fun i t h e => by simp at e⟩, fun e => List.length_eq_zero_iff.1 e.1⟩
  | t :: ts, [] => by
    rw [AtL]
    exact ⟨fun ⟨h, hs', e, _⟩ => (by cases e), fun e => by have := e.1; simp at this⟩
  | t :: ts, h :: hs => by
    rw [AtL]
    constructor
    · rintro ⟨h', hs', e, a, b⟩
      obtain ⟨rfl, rfl⟩ : h = h' ∧ hs = hs' := by injection e with a b; exact ⟨a, b⟩
      obtain ⟨b1, b2⟩ := (atL_iff ts hs).1 b
      refine ⟨by simp [b1], fun i u x hu hx => ?_⟩
      cases i with
      | zero =>
        obtain rfl : t = u := by simpa using hu
        obtain rfl : h = x := by simpa using hx
        exact a
      | succ i => exact b2 i u x (by simpa using hu) (by simpa using hx)
    · rintro ⟨e, hall⟩
      exact ⟨h, hs, rfl, hall 0 t h rfl rfl, (atL_iff ts hs).2 ⟨by simpa using e, fun i u x hu hx => hall (i + 1) u x (by simpa using hu) (by simpa using hx)⟩⟩
theorem at_get {s : Sh} {k : Int} (hk : k ≠ 0) (nums : List Int) (text : List UInt8) (kids : List Tr) (h : Int) : At s (.mk k nums text kids) h ↔ (getN s h).kind = k ∧ (getN s h).text = text ∧ (getN s h).nums = nums ∧ AtL s kids (getN s h).refs := by
  rw [At]
  unfold getN
  constructor
  · rintro ⟨hs, e, hl⟩
    rw [e]
    exact ⟨rfl, rfl, rfl, hl⟩
  · cases e : ndAt s h with
    | none =>
      rintro ⟨h1, _⟩
      exact absurd h1.symm hk
    | some n =>
      rintro ⟨h1, h2, h3, h4⟩
      refine ⟨n.refs, ?_, h4⟩
      obtain ⟨a, b, c, d⟩ := n
      simp only [Option.getD_some] at h1 h2 h3
      rw [h1, h2, h3]
mutual
def okT : Tr → Prop
  | .mk k _ _ kids => k ≠ 0 ∧ okTL kids
def okTL : List Tr → Prop
  | [] => True
  | t :: ts => okT t ∧ okTL ts
end
theorem okTL_at : ∀ {ts : List Tr}, okTL ts → ∀ t ∈ ts, okT t
  | u :: ts, h, t, ht => by
    rw [okTL] at h
    rcases List.mem_cons.1 ht with e | e
    · rw [e]; exact h.1
    · exact okTL_at h.2 t e
theorem okTL_of : ∀ {ts : List Tr}, (∀ t ∈ ts, okT t) → okTL ts
  | [], _ => by rw [okTL]; trivial
  | u :: ts, h => by rw [okTL]; exact ⟨h u (by simp), okTL_of fun t ht => h t (List.mem_cons_of_mem _ ht)⟩
theorem ok_leaf (x : En) : okT (leafT x) := by unfold leafT; rw [okT, okTL]; exact ⟨by decide, trivial⟩
theorem ok_buk (l : List En) : okT (bukT l) := by
  unfold bukT
  split
  · exact ok_leaf _
  · rw [okT]
    exact ⟨by decide, okTL_of fun t ht => by obtain ⟨x, _, rfl⟩ := List.mem_map.1 ht; exact ok_leaf x⟩
theorem ok_trK : ∀ (k : Nat) (l : List En), okT (trK k l)
  | 0, l => by rw [trK]; exact ok_buk l
  | k + 1, l => by
    rw [trK]
    split
    · exact ok_buk l
    · rw [okT]
      exact ⟨by decide, okTL_of fun t ht => by obtain ⟨x, _, rfl⟩ := List.mem_map.1 ht; exact ok_trK k x⟩
theorem flL_at {kids : List Tr} {i : Nat} {t : Tr} (hi : kids[i]? = some t) (out : List Nd) : ∃ o2 m, (flL kids out []).2[i]? = some (-((fl t o2).length : Int)) ∧ (flL kids out []).1 = fl t o2 ++ m := by
  obtain ⟨hl, he⟩ := List.getElem?_eq_some_iff.1 hi
  have hs : kids = kids.take i ++ (t :: kids.drop (i + 1)) := by
    rw [← he, ← List.drop_eq_getElem_cons hl, List.take_append_drop]
  obtain ⟨more, e1, hm⟩ := flL_refs (kids.take i) out []
  have h2 := flL_app (kids.take i) (t :: kids.drop (i + 1)) out []
  rw [← hs, flL] at h2
  obtain ⟨m, e2⟩ := flL_ext (kids.drop (i + 1)) (fl t (flL (kids.take i) out []).1) ((flL (kids.take i) out []).2 ++ [-((fl t (flL (kids.take i) out []).1).length : Int)])
  obtain ⟨more2, e3, _⟩ := flL_refs (kids.drop (i + 1)) (fl t (flL (kids.take i) out []).1) ((flL (kids.take i) out []).2 ++ [-((fl t (flL (kids.take i) out []).1).length : Int)])
  refine ⟨(flL (kids.take i) out []).1, m, ?_, by rw [h2, e2]⟩
  have hlen : (flL (kids.take i) out []).2.length = i := by rw [e1, List.nil_append, hm, List.length_take]; omega
  rw [h2, e3, List.append_assoc, List.getElem?_append_right (by omega), hlen, Nat.sub_self]
  rfl
theorem szT_mem : ∀ {ts : List Tr} {t : Tr}, t ∈ ts → szT' t ≤ szL' ts
  | u :: ts, t, h => by
    rw [szL']
    rcases List.mem_cons.1 h with e | e
    · rw [e]; omega
    · have := szT_mem e; omega
end Go.Proofs.YtjgjacihdggimaaGreatDoor
namespace Go.Proofs.YtjgjacihdggimaaGreatDoor
theorem entX_congr {f g : Txs} : ∀ {n : Nat}, (∀ k : Nat, k < n → f k = g k) → entX f n = entX g n
  | 0, _ => rfl
  | n + 1, h => by rw [entX, entX, entX_congr (n := n) (fun k hk => h k (by omega)), h n (by omega)]
end Go.Proofs.YtjgjacihdggimaaGreatDoor
namespace Go.Proofs.YtjgjacihdggimaaGreatDoor
theorem rdE_get (s : Sh) (x : Int) : rdE s x = if (getN s x).kind = 1 ∧ (getN s x).nums.length = 1 then some ⟨(getN s x).nums.headD 0, (getN s x).text⟩ else none := by
  unfold rdE getN
  cases e : ndAt s x with
  | none => rfl
  | some n => rfl
theorem read_has {room : Nat} {s : Sh} (hi : Inv room s) {h : Int} {f : Txs} (hf : ∀ k : Nat, k < 1024 → f k = readX s (reachA s [h]) k) {b : Bool} {l : List En} (hl : entX f 1024 = l) (hok : OkL l) (hb : b = true ↔ (l = [] ∧ h = 0) ∨ (l ≠ [] ∧ At s (trK 2 l) h)) :
    hasT s h = if b = true then some l else none := by
  have hbi : b = true ↔ IsT s h l := ⟨fun e => ⟨hok, hb.1 e⟩, fun e => hb.2 e.2⟩
  by_cases e : b = true
  · rw [if_pos e]; exact hasT_some (hbi.1 e)
  · rw [if_neg e]
    refine hasT_none fun m hm => e (hbi.2 ?_)
    have h1 : entX f 1024 = m := by
      rw [← ent_txL hm.1]
      exact entX_congr fun k hk => by rw [hf k hk, read_is hi hm k]
    rw [← hl, h1]; exact hm
end Go.Proofs.YtjgjacihdggimaaGreatDoor
namespace Go.Proofs.YtjgjacihdggimaaGreatDoor
def Eqv (s t : Sh) : Prop := ∀ h, ndAt s h = ndAt t h
theorem Eqv.refl (s : Sh) : Eqv s s := fun _ => rfl
theorem Eqv.symm {s t : Sh} (h : Eqv s t) : Eqv t s := fun x => (h x).symm
theorem Eqv.trans {s t u : Sh} (h : Eqv s t) (k : Eqv t u) : Eqv s u := fun x => (h x).trans (k x)
theorem Eqv.liveE {s t : Sh} (h : Eqv s t) (x : Int) : live s x = live t x := by
  show (ndAt s x).isSome = (ndAt t x).isSome
  rw [h x]
theorem at_some {s : Sh} {i : Nat} {n : Nd} : s[i]? = some (some n) ↔ ndAt s ((i : Int) + 1) = some n := by
  rw [ndAt_succ]
  cases s[i]? with
  | none => simp
  | some o => simp
theorem Eqv.fndE {s t : Sh} (h : Eqv s t) (x : Nd) : fnd s x = fnd t x := by
  by_cases e : fnd s x = 0
  · rw [e]
    exact (fnd_none fun j hj => fnd_zero e j (at_some.2 ((h _).trans (at_some.1 hj)))).symm
  · unfold fnd at e
    cases q : s.findIdx? (fun o => o == some x) with
    | none => rw [q] at e; exact absurd rfl e
    | some i =>
      rw [List.findIdx?_eq_some_iff_getElem] at q
      obtain ⟨hl, hx, hj⟩ := q
      have h1 : s[i]? = some (some x) := by rw [List.getElem?_eq_getElem hl]; simpa using hx
      have h2 : ∀ j : Nat, j < i → s[j]? ≠ some (some x) := fun j hji hq => by
        have := hj j hji
        obtain ⟨hjl, hjv⟩ := List.getElem?_eq_some_iff.1 hq
        rw [hjv] at this
        simp at this
      rw [fnd_at h1 h2]
      exact (fnd_at (at_some.2 ((h _).symm.trans (at_some.1 h1))) fun j hji hq => h2 j hji (at_some.2 ((h _).trans (at_some.1 hq)))).symm
theorem freeH_least {s : Sh} {h : Nat} (h1 : 1 ≤ h) (hd : live s (h : Int) = false) (hb : ∀ k : Nat, 1 ≤ k → k < h → live s (k : Int) = true) : freeH s = h := by
  have hp := freeH_pos s
  have hf : live s (freeH s : Int) = false := by unfold live; rw [freeH_dead]; rfl
  rcases Nat.lt_trichotomy (freeH s) h with e | e | e
  · rw [hb _ hp.1 e] at hf; cases hf
  · exact e
  · exfalso
    obtain ⟨j, rfl⟩ : ∃ j, h = j + 1 := ⟨h - 1, by omega⟩
    have hjl : j < s.length := by omega
    have hn : s[j]? = some none := by
      rw [show ((j + 1 : Nat) : Int) = (j : Int) + 1 by omega] at hd
      unfold live at hd
      rw [ndAt_succ, List.getElem?_eq_getElem hjl] at hd
      rw [List.getElem?_eq_getElem hjl]
      cases q : s[j] with
      | none => rfl
      | some n => rw [q] at hd; cases hd
    rcases freeH_cases s with ⟨i, hi, e'⟩ | ⟨_, hn'⟩
    · have hk := hb
      unfold freeH at e e'
      cases q : s.findIdx? (fun o => o.isNone) with
      | none => rw [List.findIdx?_eq_none_iff] at q; have := q _ (List.mem_of_getElem? hn); simp at this
      | some i' =>
        rw [q] at e
        rw [List.findIdx?_eq_some_iff_getElem] at q
        have := q.2.2 j (by simp at e; omega)
        obtain ⟨hjl', hjv⟩ := List.getElem?_eq_some_iff.1 hn
        rw [hjv] at this
        simp at this
    · exact hn' j hn
theorem freeH_below {s : Sh} {k : Nat} (h1 : 1 ≤ k) (hk : k < freeH s) : live s (k : Int) = true := by
  obtain ⟨j, rfl⟩ : ∃ j, k = j + 1 := ⟨k - 1, by omega⟩
  cases e : live s ((j + 1 : Nat) : Int) with
  | true => rfl
  | false =>
    exfalso
    have hp := freeH_pos s
    have hjl : j < s.length := by omega
    have hn : s[j]? = some none := by
      rw [show ((j + 1 : Nat) : Int) = (j : Int) + 1 by omega] at e
      unfold live at e
      rw [ndAt_succ, List.getElem?_eq_getElem hjl] at e
      rw [List.getElem?_eq_getElem hjl]
      cases q : s[j] with
      | none => rfl
      | some n => rw [q] at e; cases e
    unfold freeH at hk
    cases q : s.findIdx? (fun o => o.isNone) with
    | none => rw [List.findIdx?_eq_none_iff] at q; have := q _ (List.mem_of_getElem? hn); simp at this
    | some i' =>
      rw [q] at hk
      rw [List.findIdx?_eq_some_iff_getElem] at q
      have := q.2.2 j (by simp at hk; omega)
      obtain ⟨hjl', hjv⟩ := List.getElem?_eq_some_iff.1 hn
      rw [hjv] at this
      simp at this
theorem Eqv.free {s t : Sh} (h : Eqv s t) : freeH s = freeH t :=
  freeH_least (freeH_pos t).1 (by rw [h.liveE]; unfold live; rw [freeH_dead]; rfl) fun k h1 hk => by rw [h.liveE]; exact freeH_below h1 hk
theorem Eqv.setHE {s t : Sh} (h : Eqv s t) (x : Nd) : Eqv (setH s (freeH s) x) (setH t (freeH t) x) := fun k => by
  rw [setH_at, setH_at, h.free, h k]
theorem Eqv.one {room : Nat} {s t : Sh} (h : Eqv s t) (x : Nd) : (oneA room s x = none ∧ oneA room t x = none) ∨ ∃ s' t' k, oneA room s x = some (s', k) ∧ oneA room t x = some (t', k) ∧ Eqv s' t' := by
  unfold oneA
  rw [h.fndE, h.free]
  by_cases e : fnd t x ≠ 0
  · rw [if_pos e, if_pos e]; exact .inr ⟨_, _, _, rfl, rfl, h⟩
  · rw [if_neg e, if_neg e]
    by_cases e' : room < freeH t
    · rw [if_pos e', if_pos e']; exact .inl ⟨rfl, rfl⟩
    · rw [if_neg e', if_neg e']
      have := h.setHE x
      rw [h.free] at this
      exact .inr ⟨_, _, _, rfl, rfl, this⟩
theorem Eqv.putLE {room : Nat} : ∀ {l : List Nd} {s t : Sh} {out : List Int}, Eqv s t → (putL room s out l = none ∧ putL room t out l = none) ∨ ∃ s' t' o, putL room s out l = some (s', o) ∧ putL room t out l = some (t', o) ∧ Eqv s' t'
  | [], s, t, out, h => .inr ⟨s, t, out, rfl, rfl, h⟩
  | n :: l, s, t, out, h => by
    rw [putL, putL]
    rcases h.one (room := room) (asPut out n) with ⟨e1, e2⟩ | ⟨s', t', k, e1, e2, h'⟩
    · rw [e1, e2]; exact .inl ⟨rfl, rfl⟩
    · rw [e1, e2]; exact Eqv.putLE h'
theorem Eqv.wrong {s t : Sh} (h : Eqv s t) : ∀ (l : List Nd) (i : Nat), wrongF s i l = wrongF t i l
  | [], _ => rfl
  | n :: l, i => by
    rw [wrongF, wrongF, h.wrong l (i + 1)]
    congr 2
    have : okRef s i = okRef t i := funext fun r => by unfold okRef; rw [h.liveE]
    rw [this]
theorem Eqv.put {room : Nat} {s t : Sh} (h : Eqv s t) (l : List Nd) : Eqv (putA room s l).1 (putA room t l).1 ∧ (putA room s l).2 = (putA room t l).2 := by
  unfold putA
  rw [h.wrong]
  split
  · exact ⟨h, rfl⟩
  · rcases h.putLE (room := room) (l := l) (out := []) with ⟨e1, e2⟩ | ⟨s', t', o, e1, e2, h'⟩
    · rw [e1, e2]; exact ⟨h, rfl⟩
    · rw [e1, e2]; exact ⟨h', rfl⟩
theorem tru_pad : ∀ (l : List Bool) (k : Int) (m : Nat), tru k (l ++ List.replicate m false) = tru k l
  | [], k, 0 => rfl
  | [], k, m + 1 => by rw [List.nil_append, List.replicate_succ, tru]; exact tru_pad [] (k + 1) m
  | true :: l, k, m => by rw [List.cons_append, tru, tru, tru_pad l]
  | false :: l, k, m => by rw [List.cons_append, tru, tru, tru_pad l]
theorem liveA_range (s : Sh) (n : Nat) (hn : s.length ≤ n) : liveA s = tru 1 ((List.range n).map fun i : Nat => live s ((i : Int) + 1)) := by
  unfold liveA
  rw [liveF_tru, ← tru_pad (s.map Option.isSome) 1 (n - s.length)]
  congr 1
  apply List.ext_getElem?
  intro i
  by_cases hi : i < n
  · rw [List.getElem?_map, List.getElem?_range hi]
    show _ = some (live s ((i : Int) + 1))
    unfold live
    rw [ndAt_succ]
    by_cases hs : i < s.length
    · rw [List.getElem?_append_left (by simpa using hs), List.getElem?_map, List.getElem?_eq_getElem hs]; rfl
    · rw [List.getElem?_append_right (by simpa using hs), List.getElem?_replicate, if_pos (by simp; omega), List.getElem?_eq_none_iff.2 (by omega)]; rfl
  · rw [List.getElem?_eq_none_iff.2 (by simp; omega), List.getElem?_eq_none_iff.2 (by simp; omega)]
theorem Eqv.liveAE {s t : Sh} (h : Eqv s t) : liveA s = liveA t := by
  rw [liveA_range s (max s.length t.length) (by omega), liveA_range t (max s.length t.length) (by omega)]
  congr 2
  exact funext fun i => h.liveE _
theorem Eqv.rch {s t : Sh} (h : Eqv s t) {roots : List Int} {x : Int} (e : Rch s roots x) : Rch t roots x := by
  induction e with
  | root r hm hl => exact .root r hm (by rw [← h.liveE]; exact hl)
  | ref k r n _ hn hm hp ih => exact .ref k r n ih (by rw [← h k]; exact hn) hm hp
theorem Eqv.left {s t : Sh} (h : Eqv s t) (roots : List Int) : Eqv (leftA s roots) (leftA t roots) := fun x => by
  rw [left_at, left_at]
  by_cases e : Rch s roots x
  · rw [if_pos e, if_pos (h.rch e), h x]
  · rw [if_neg e, if_neg fun e' => e (h.symm.rch e')]
theorem Eqv.reach {s t : Sh} (h : Eqv s t) (roots : List Int) : reachA s roots = reachA t roots := (h.left roots).liveAE
theorem Eqv.sweep {s t : Sh} (h : Eqv s t) (roots : List Int) : Eqv (sweepA s roots).1 (sweepA t roots).1 ∧ (sweepA s roots).2 = (sweepA t roots).2 := by
  unfold sweepA
  have e : (fun r => decide (r = 0) || live s r) = (fun r => decide (r = 0) || live t r) := funext fun r => by rw [h.liveE]
  rw [e, h.liveAE, h.reach]
  split
  · exact ⟨h.left roots, rfl⟩
  · exact ⟨h, rfl⟩
end Go.Proofs.YtjgjacihdggimaaGreatDoor
namespace Go.Proofs.YtjgjacihdggimaaGreatDoor
open Go.Lib
theorem dec_val (u : Nat) : (decDigits u).foldl (fun a d => a * 10 + (d.toNat - 48)) 0 = u := by
  induction u using Nat.strongRecOn with
  | _ u ih =>
    by_cases h : u < 10
    · rw [decDigits, dif_pos h]
      show 0 * 10 + ((UInt8.ofNat (48 + u)).toNat - 48) = u
      rw [UInt8.toNat_ofNat']
      omega
    · rw [decDigits, dif_neg h, List.foldl_append, ih (u / 10) (by omega)]
      show u / 10 * 10 + ((UInt8.ofNat (48 + u % 10)).toNat - 48) = u
      rw [UInt8.toNat_ofNat']
      omega
theorem dec_mem (u : Nat) : ∀ d ∈ decDigits u, 48 ≤ d.toNat ∧ d.toNat ≤ 57 := by
  induction u using Nat.strongRecOn with
  | _ u ih =>
    by_cases h : u < 10
    · rw [decDigits, dif_pos h]
      intro d hd
      obtain rfl := List.mem_singleton.1 hd
      rw [UInt8.toNat_ofNat']
      omega
    · rw [decDigits, dif_neg h]
      intro d hd
      rcases List.mem_append.1 hd with hd | hd
      · exact ih (u / 10) (by omega) d hd
      · obtain rfl := List.mem_singleton.1 hd
        rw [UInt8.toNat_ofNat']
        omega
theorem dec_inj {u v : Nat} (h : decDigits u = decDigits v) : u = v := by rw [← dec_val u, h, dec_val]
theorem dec_head {u : Nat} {t : List UInt8} (h : decDigits u = 45 :: t) : False := by
  have := dec_mem u 45 (by rw [h]; exact List.mem_cons_self)
  have e : (45 : UInt8).toNat = 45 := rfl
  omega
theorem itoa_inj {a b : Int} (h : itoa a = itoa b) : a = b := by
  unfold itoa at h
  split at h <;> split at h
  · have := dec_inj (List.cons.inj h).2; omega
  · exact (dec_head h.symm).elim
  · exact (dec_head h).elim
  · have := dec_inj h; omega
theorem itoa_no (a : Int) : ∀ d ∈ itoa a, d ≠ 32 := by
  intro d hd e
  subst e
  have e : (32 : UInt8).toNat = 32 := rfl
  unfold itoa at hd
  split at hd
  · rcases List.mem_cons.1 hd with h | h
    · exact absurd h (by decide)
    · have := dec_mem _ _ h; omega
  · have := dec_mem _ _ hd; omega
def rowT (l : List Int) : List UInt8 := l.flatMap fun x => itoa x ++ [32]
theorem rowT_cons (x : Int) (l : List Int) : rowT (x :: l) = itoa x ++ 32 :: rowT l := by
  unfold rowT; rw [List.flatMap_cons, List.append_assoc]; rfl
theorem rowT_snoc (l : List Int) (x : Int) : rowT (l ++ [x]) = rowT l ++ (itoa x ++ [32]) := by
  unfold rowT; rw [List.flatMap_append, List.flatMap_singleton]
theorem sep_inj : ∀ {p q X Y : List UInt8}, (∀ d ∈ p, d ≠ 32) → (∀ d ∈ q, d ≠ 32) → p ++ 32 :: X = q ++ 32 :: Y → p = q ∧ X = Y
  | [], [], _, _, _, _, h => ⟨rfl, (List.cons.inj h).2⟩
  | [], b :: q, _, _, _, hq, h => absurd (List.cons.inj h).1.symm (hq b List.mem_cons_self)
  | a :: p, [], _, _, hp, _, h => absurd (List.cons.inj h).1 (hp a List.mem_cons_self)
  | a :: p, b :: q, X, Y, hp, hq, h => by
    obtain ⟨e, h'⟩ := List.cons.inj h
    obtain ⟨e1, e2⟩ := sep_inj (fun d hd => hp d (List.mem_cons_of_mem _ hd)) (fun d hd => hq d (List.mem_cons_of_mem _ hd)) h'
    exact ⟨by rw [e, e1], e2⟩
theorem rowT_inj : ∀ {l k : List Int}, rowT l = rowT k → l = k
  | [], [], _ => rfl
  | [], b :: k, h => by rw [rowT_cons] at h; exact absurd (congrArg List.length h) (by simp [rowT])
  | a :: l, [], h => by rw [rowT_cons] at h; exact absurd (congrArg List.length h) (by simp [rowT])
  | a :: l, b :: k, h => by
    rw [rowT_cons, rowT_cons] at h
    obtain ⟨e1, e2⟩ := sep_inj (itoa_no a) (itoa_no b) h
    rw [itoa_inj e1, rowT_inj e2]
theorem rowT_len : ∀ (l : List Int), (∀ x ∈ l, -9223372036854775808 ≤ x ∧ x ≤ 9223372036854775807) → (rowT l).length ≤ 22 * l.length
  | [], _ => by simp [rowT]
  | a :: l, h => by
    have h1 := itoa_length_le a (h a List.mem_cons_self).1 (h a List.mem_cons_self).2
    have h2 := rowT_len l fun x hx => h x (List.mem_cons_of_mem _ hx)
    rw [rowT_cons, List.length_append, List.length_cons, List.length_cons]
    omega
end Go.Proofs.YtjgjacihdggimaaGreatDoor
namespace Go.Proofs.YtjgjacihdggimaaGreatDoor
open Go.RowKit
structure Kept (w w' : World) (P : Nat → Prop) : Prop where
  size : w.heap.size ≤ w'.heap.size
  block : ∀ g, P g → g < w.heap.size → w'.heap[g]? = w.heap[g]?
theorem Kept.of_below {w w' : World} {P : Nat → Prop} (h : Below w.heap.size w w') : Kept w w' P := ⟨h.size, fun g _ hg => h.block g hg⟩
theorem Kept.trans {w w' w'' : World} {P : Nat → Prop} (h : Kept w w' P) (h' : Kept w' w'' P) : Kept w w'' P :=
  ⟨Nat.le_trans h.size h'.size, fun g hp hg => (h'.block g hp (Nat.lt_of_lt_of_le hg h.size)).trans (h.block g hp hg)⟩
theorem Kept.refl (w : World) (P : Nat → Prop) : Kept w w P := ⟨Nat.le_refl _, fun _ _ _ => rfl⟩
theorem Kept.cell {w w' : World} {P : Nat → Prop} (h : Kept w w' P) {g o : Nat} (hp : P g) {v : Value} (hv : w.cell? ⟨g, o, none⟩ = some v) : w'.cell? ⟨g, o, none⟩ = some v := by
  have hl : g < w.heap.size := Lib.lt_of_cell hv
  have hb := h.block g hp hl
  rw [← hv]
  unfold World.cell?
  simp only [hb]
end Go.Proofs.YtjgjacihdggimaaGreatDoor
