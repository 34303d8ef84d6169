/- Texts joined: RwB, NdIk, NdIm, NdI, NdKk. -/
import Derived.Test.YtjgadggehpmdkaaGreatDoorTj02
import Derived.Test.YtjgadggehpmdkaaGreatDoorTj01
import Derived.Deep.AppendLies
import Derived.Maps.AppendAt
set_option linter.all false
namespace Go.Proofs.YtjgadggehpmdkaaGreatDoor
open Go.RowKit
def OwnR {α : Type} (E : TypeId) (n : Nat) (f : α → List Value) (base : Nat) (w : World) (v : Value) (L : List α) : Prop := w.ownsRow base E n v L.length (L.flatMap f)
section
variable {α : Type} {E : TypeId} {n : Nat} {f : α → List Value}
theorem flatR_at (hf : ∀ q, (f q).length = n) : ∀ (l : List α) (i : Nat) (q : α), l[i]? = some q → ∀ (j : Nat) (u : Value), (f q)[j]? = some u → (l.flatMap f)[i * n + j]? = some u
  | [], i, q, h, _, _, _ => by simp at h
  | p :: t, 0, q, h, j, u, hj => by
    simp at h; subst h
    rw [List.flatMap_cons, Nat.zero_mul, Nat.zero_add, List.getElem?_append_left (by exact (List.getElem?_eq_some_iff.1 hj).1)]
    exact hj
  | p :: t, i + 1, q, h, j, u, hj => by
    have := flatR_at hf t i q (by simpa using h) j u hj
    have e : (i + 1) * n + j - n = i * n + j := by rw [Nat.succ_mul]; omega
    rw [List.flatMap_cons, List.getElem?_append_right (by rw [hf, Nat.succ_mul]; omega), hf, e]
    exact this
theorem OwnR.shape {base : Nat} {w : World} {v : Value} {L : List α} (hf : ∀ q, (f q).length = n) (h : OwnR E n f base w v L) : ∃ (A : Option Addr) (cap : Nat), v = .slice A L.length cap ∧ L.length ≤ cap ∧ (L ≠ [] → ∃ g o, A = some ⟨g, o, none⟩ ∧ AtR f n w g o L) := by
  have h' := h
  rcases h.2 with ⟨rfl, hl⟩ | ⟨g, cap, cur, rfl, _, hh, hc, _⟩
  · refine ⟨none, 0, by rw [hl], by rw [hl]; exact Nat.le_refl _, fun hne => ?_⟩
    exact absurd (List.length_eq_zero_iff.1 hl) hne
  · refine ⟨_, cap, rfl, hc, fun _ => ⟨g, 0, rfl, fun i q hi j u hj => ?_⟩⟩
    have hlt : i < L.length := (List.getElem?_eq_some_iff.1 hi).1
    have hjn : j < n := by have := (List.getElem?_eq_some_iff.1 hj).1; rwa [hf] at this
    have hle : i * n + j < L.length * n := by
      have h1 : (i + 1) * n ≤ L.length * n := Nat.mul_le_mul_right n hlt
      rw [Nat.succ_mul] at h1
      omega
    rw [Nat.zero_add]
    exact (World.ownsRow.cellAt h' (i * n + j) (by first | exact hle | omega)).trans (flatR_at hf L i q hi j u hj)
def Apart (v u : Value) : Prop := ∀ k, v.ownBlock = some k → u.ownBlock = some k → False
theorem Apart.symm {v u : Value} (h : Apart v u) : Apart u v := fun k hv hu => h k hu hv
theorem Apart.nil (u : Value) : Apart (.slice none 0 0) u := fun k hv _ => by cases hv
theorem OwnR.beside {base : Nat} {w w' : World} {v u : Value} {L : List α} (h : OwnR E n f base w u L) (hg : w.grownBy w' v.ownBlock) (ha : Apart v u) : OwnR E n f base w' u L := by
  refine World.ownsRow.kept h hg ?_
  cases hu : u.ownBlock with
  | none => exact .inl rfl
  | some k => exact .inr fun e => ha k e.symm hu
theorem OwnR.apart {base : Nat} {w : World} {v v' u : Value} {L : List α} (h : OwnR E n f base w u L) (ha : Apart v u) (hat : v'.ownBlock = v.ownBlock ∨ v'.ownBlock = some (w.heap.size + 1)) : Apart v' u := fun k hv hu => by
  rcases hat with e | e
  · exact ha k (e ▸ hv) hu
  · have h1 := (World.ownsRow.lt h k hu).2
    rw [e] at hv
    cases hv
    omega
theorem OwnR.below {base : Nat} {w w' : World} {v : Value} {L : List α} (h : OwnR E n f base w v L) (hb : Below w.heap.size w w') : OwnR E n f base w' v L := own_below h hb
theorem wpList_append_row {S : TypeId} {i0 : TypeInfo} {z : Value} {nb : Nat}
    (w : World) {ops : Array Oper} {rest : List Oper} {o : Oper} {a : Act} {Q : Exit → Act → World → Prop} (hg : o.guard = none) (s x : Operand) (ho : o.op = .call { callee := .builtin .append, args := #[s, x], argTypes := #[S, S] }) {base : Nat} {v : Value} {X : List α}
    (hs : a.eval s = v) {w0 : World} {q : α} (hw : w = w0.alloc (.cells (f q).toArray E)) (hown : OwnR E n f base w0 v X) (hx : a.eval x = .slice (some ⟨w0.heap.size, 0, none⟩) 1 1)
    (hu : Tryz.prog.underlying S = some (.slice E)) (hi0 : Tryz.prog.info? E = some i0) (hz0 : i0.zero = some z) (hz1 : i0.size = n) (hz2 : i0.bytes = nb) (hzc : z.cells.size = n) (hn0 : 0 < n) (hnb : nb ≤ 100)
    (hf : ∀ q, (f q).length = n) (h1c : ∀ q, ∀ u ∈ f q, u.oneCell' = true) (hlen : X.length ≤ 1000000) (hbase : base ≤ w0.heap.size)
    (h : ∀ v' w', OwnR E n f base w' v' (X ++ [q]) → w0.grownBy w' v.ownBlock → (v'.ownBlock = v.ownBlock ∨ v'.ownBlock = some (w0.heap.size + 1)) → wpList Tryz.prog ops Q rest (a.put o.dst v') w') : wpList Tryz.prog ops Q (o :: rest) a w := by
  subst hw
  have hb : (w0.alloc (.cells (f q).toArray E)).heap[w0.heap.size]? = some (.cells (f q).toArray E) := (MapKept.heap_alloc w0 _).1
  have hroom : nb * (X.length + 1) ≤ 200000000 := by
    have : nb * (X.length + 1) ≤ 100 * (1000000 + 1) := Nat.mul_le_mul hnb (by omega)
    omega
  refine wpList_append_own_at _ hg s x S ho base E i0 z n nb hu hi0 hz0 hz1 hz2 hzc hn0 v X.length (X.flatMap f) hs (World.ownsRow.alloc hown _) ⟨w0.heap.size, 0, none⟩ 1 1 (f q) hx (by rw [hf, Nat.one_mul]) ?_ (h1c q) (by unfold maxLen; omega) ?_ (by simp; omega) fun v' w' hown' hg' _ hat => h v' w' ?_ ?_ (by simpa using hat)
  · intro j u hj
    exact World.news_of_block (cs := (f q).toArray) (t := E) (fr := (0, 0)) hb j u (by simpa using hj)
  · first
    | omega
    | (have e : nb * (X.length + 1) = (X.length + 1) * nb := Nat.mul_comm _ _; omega)
  · unfold OwnR
    rw [List.length_append, List.flatMap_append]
    show w'.ownsRow base _ n v' (X.length + 1) (X.flatMap f ++ [q].flatMap f)
    rw [List.flatMap_singleton]
    exact hown'
  · exact ⟨hg'.os, hg'.tape, hg'.output, Nat.le_trans (by simp) hg'.size, fun k hk hn => (hg'.block k (by simp; omega) hn).trans (Below.heap_alloc w0 _ k hk)⟩
theorem step_append_row {S : TypeId} {i0 : TypeInfo} {z : Value} {nb : Nat}
    {w : World} {ops : Array Oper} {o : Oper} {a : Act} {K : Act → World → Prop} {Q : Exit → Act → World → Prop} {E0 : Prop} (hg : o.guard = none) (s x : Operand) (ho : o.op = .call { callee := .builtin .append, args := #[s, x], argTypes := #[S, S] }) {base : Nat} {v : Value} {X : List α}
    (hs : a.eval s = v) (B : Nat) {q : α} (hx : a.eval x = .slice (some ⟨B, 0, none⟩) 1 1) (hown : OwnR E n f base w v X) (hb : w.heap[B]? = some (.cells (f q).toArray E))
    (hu : Tryz.prog.underlying S = some (.slice E)) (hi0 : Tryz.prog.info? E = some i0) (hz0 : i0.zero = some z) (hz1 : i0.size = n) (hz2 : i0.bytes = nb) (hzc : z.cells.size = n) (hn0 : 0 < n) (hnb : nb ≤ 100)
    (hf : ∀ q, (f q).length = n) (h1c : ∀ q, ∀ u ∈ f q, u.oneCell' = true) (hlen : X.length ≤ 1000000) (hbase : base ≤ w.heap.size)
    (h : ∀ g cap w', OwnR E n f base w' (.slice (some ⟨g, 0, none⟩) (X.length + 1) cap) (X ++ [q]) → w.grownBy w' v.ownBlock → (v.ownBlock = some g ∨ g = w.heap.size) → K (a.put o.dst (.slice (some ⟨g, 0, none⟩) (X.length + 1) cap)) w') :
    if Region.wanted o (yielded ops a.tmps) = true then Oper.wp Tryz.prog o a w K Q else E0 := by
  have hroom : nb * (X.length + 1) ≤ 200000000 := by
    have : nb * (X.length + 1) ≤ 100 * (1000000 + 1) := Nat.mul_le_mul hnb (by omega)
    omega
  refine step_append_lies _ hg s x S ho base E i0 z n nb hu hi0 hz0 hz1 hz2 hzc hn0 v X.length (X.flatMap f) hs hown ⟨B, 0, none⟩ 1 1 (f q) hx (by rw [hf, Nat.one_mul]) ?_ (h1c q) (by omega) (by unfold maxLen; omega) ?_ hbase w.heap.size rfl fun g cap w' hown' hg' hat _ => h g cap w' ?_ hg' hat
  · intro j u hj
    exact World.news_of_block (cs := (f q).toArray) (t := E) (fr := (0, 0)) hb j u (by simpa using hj)
  · first
    | omega
    | (have e : nb * (X.length + 1) = (X.length + 1) * nb := Nat.mul_comm _ _; omega)
  · unfold OwnR
    rw [List.length_append, List.flatMap_append]
    show w'.ownsRow base _ n _ (X.length + 1) (X.flatMap f ++ [q].flatMap f)
    rw [List.flatMap_singleton]
    exact hown'
theorem flatR_len (hf : ∀ q, (f q).length = n) : ∀ l : List α, (l.flatMap f).length = l.length * n
  | [] => by simp
  | q :: l => by rw [List.flatMap_cons, List.length_append, flatR_len hf l, hf, List.length_cons, Nat.succ_mul]; omega
theorem flatR_split (hf : ∀ q, (f q).length = n) (hn0 : 0 < n) {l : List α} {j : Nat} {u : Value} (h : (l.flatMap f)[j]? = some u) : ∃ i q k, l[i]? = some q ∧ (f q)[k]? = some u ∧ j = i * n + k := by
  have hl := (List.getElem?_eq_some_iff.1 h).1
  rw [flatR_len hf] at hl
  have hi : j / n < l.length := Nat.div_lt_of_lt_mul (by rw [Nat.mul_comm]; exact hl)
  have hk : j % n < n := Nat.mod_lt _ hn0
  have hq := List.getElem?_eq_getElem hi
  have hu : (f l[j / n])[j % n]? = some ((f l[j / n])[j % n]'(by rw [hf]; exact hk)) := List.getElem?_eq_getElem _
  have e : j / n * n + j % n = j := Nat.div_add_mod' j n
  have := flatR_at hf l (j / n) _ hq (j % n) _ hu
  rw [e, h] at this
  exact ⟨j / n, _, j % n, hq, by rw [hu, this], e.symm⟩
theorem wpList_append_rows {S : TypeId} {i0 : TypeInfo} {z : Value} {nb : Nat}
    {w : World} {ops : Array Oper} {rest : List Oper} {o : Oper} {a : Act} {Q : Exit → Act → World → Prop} (hg : o.guard = none) (s x : Operand) (ho : o.op = .call { callee := .builtin .append, args := #[s, x], argTypes := #[S, S] }) {base : Nat} {v : Value} {X : List α}
    (hs : a.eval s = v) (hown : OwnR E n f base w v X) {g2 o2 c2 : Nat} {L2 : List α} (hx : a.eval x = .slice (some ⟨g2, o2, none⟩) L2.length c2) (hL : AtR f n w g2 o2 L2) (h0 : 0 < L2.length) {N : Nat} (hN : X.length + L2.length = N) {Z : List α} (hZ : X ++ L2 = Z)
    (hu : Tryz.prog.underlying S = some (.slice E)) (hi0 : Tryz.prog.info? E = some i0) (hz0 : i0.zero = some z) (hz1 : i0.size = n) (hz2 : i0.bytes = nb) (hzc : z.cells.size = n) (hn0 : 0 < n) (hnb : nb ≤ 100)
    (hf : ∀ q, (f q).length = n) (h1c : ∀ q, ∀ u ∈ f q, u.oneCell' = true) (hlen : N ≤ 2000000) (hbase : base ≤ w.heap.size)
    (h : ∀ g cap w', OwnR E n f base w' (.slice (some ⟨g, 0, none⟩) N cap) Z → w.grownBy w' v.ownBlock → (v.ownBlock = some g ∨ g = w.heap.size) → g < w'.heap.size → wpList Tryz.prog ops Q rest (a.put o.dst (.slice (some ⟨g, 0, none⟩) N cap)) w') : wpList Tryz.prog ops Q (o :: rest) a w := by
  subst hN hZ
  have hroom : nb * (X.length + L2.length) ≤ 200000000 := by
    have : nb * (X.length + L2.length) ≤ 100 * 2000000 := Nat.mul_le_mul hnb hlen
    omega
  refine wpList_append_lies _ hg s x S ho base E i0 z n nb hu hi0 hz0 hz1 hz2 hzc hn0 v X.length (X.flatMap f) hs hown ⟨g2, o2, none⟩ L2.length c2 (L2.flatMap f) hx (flatR_len hf L2) ?_ ?_ h0 (by unfold maxLen; omega) ?_ hbase w.heap.size rfl fun g cap w' hown' hg' hat hlt => h g cap w' ?_ hg' hat hlt
  · intro j u hj
    obtain ⟨i, q, k, hi, hk, e⟩ := flatR_split hf hn0 hj
    have := hL i q hi k u hk
    rw [Go.WideShapes.add_plain, e, ← Nat.add_assoc]; exact this
  · intro u hu'
    obtain ⟨q, _, hq⟩ := List.mem_flatMap.1 hu'
    exact h1c q u hq
  · have e : nb * (X.length + L2.length) = (X.length + L2.length) * nb := Nat.mul_comm _ _
    omega
  · unfold OwnR
    rw [List.length_append, List.flatMap_append]
    exact hown'
theorem one_row (w : World) (q : α) : AtR f n (w.alloc (.cells (f q).toArray E)) w.heap.size 0 [q] := fun i p hi j u hj => by
  cases i with
  | succ i => simp at hi
  | zero =>
    obtain rfl : q = p := by simpa using hi
    rw [Nat.zero_mul, Nat.zero_add, cell_of_row _ _ j (f q).toArray E (0, 0) (MapKept.heap_alloc w _).1]
    simpa using hj
theorem own_lit0 (w : World) (base : Nat) (hb : base ≤ w.heap.size) : OwnR E n f base (w.alloc (.cells #[] E)) (.slice (some ⟨w.heap.size, 0, none⟩) 0 0) ([] : List α) :=
  World.ownsRow_lit w #[] 0 hb (by unfold maxLen; omega) (by simp)
theorem OwnR.at {base : Nat} {w : World} {g cap N : Nat} {L : List α} (hf : ∀ q, (f q).length = n) (h : OwnR E n f base w (.slice (some ⟨g, 0, none⟩) N cap) L) (hN : N = L.length) : AtR f n w g 0 L := fun i q hi j u hj => by
  subst hN
  have hlt : i < L.length := (List.getElem?_eq_some_iff.1 hi).1
  have hjn : j < n := by have := (List.getElem?_eq_some_iff.1 hj).1; rwa [hf] at this
  have hle : i * n + j < L.length * n := by
    have h1 : (i + 1) * n ≤ L.length * n := Nat.mul_le_mul_right n hlt
    rw [Nat.succ_mul] at h1
    omega
  rw [Nat.zero_add]
  exact (World.ownsRow.cellAt h (i * n + j) hle).trans (flatR_at hf L i q hi j u hj)
theorem run_append_nothing {P : Program} (w : World) (t ty e : TypeId) (i : TypeInfo) (ht : P.underlying t = some (.slice e)) (hi : P.info? e = some i) (B : Nat) (A : Option Addr) (c : Nat) :
    (Builtin.append_ #[t, t] ty #[.slice (some ⟨B, 0, none⟩) 0 0, .slice A 0 c]).run P w = .ok (.slice (some ⟨B, 0, none⟩) 0 0) w := by
  cases A <;> simp [Builtin.append_, run_underlying ht, sizeOf, typeInfo, hi, Builtin.lenOf, Builtin.firstCells, loadCells, loadCellsFrom, storeCells]
theorem step_append_nothing {P : Program} {w : World} {ops : Array Oper} {o : Oper} {a : Act} {K : Act → World → Prop} {Q : Exit → Act → World → Prop} {E : Prop} (hgd : o.guard = none) (s x : Operand) (t : TypeId)
    (ho : o.op = .call { callee := .builtin .append, args := #[s, x], argTypes := #[t, t] }) (e : TypeId) (i : TypeInfo) (ht : P.underlying t = some (.slice e)) (hi : P.info? e = some i) (B : Nat) (A : Option Addr) (c : Nat)
    (hs : a.eval s = .slice (some ⟨B, 0, none⟩) 0 0) (hx : a.eval x = .slice A 0 c) (h : K (a.put o.dst (.slice (some ⟨B, 0, none⟩) 0 0)) w) :
    if Region.wanted o (yielded ops a.tmps) = true then Oper.wp P o a w K Q else E := by
  have hw : Region.wanted o (yielded ops a.tmps) = true := by simp [Region.wanted, hgd]
  rw [if_pos hw]
  unfold Oper.wp execOp
  simp only [ho, Go.resolve, invoke, builtin, Sem.run_bind, Sem.run_pure, Result.andThen_ok, List.map_toArray, List.map_cons, List.map_nil, hs, hx, run_append_nothing w t o.type e i ht hi B A c]
  exact h
theorem wpList_append_nothing {P : Program} {w : World} {ops : Array Oper} {rest : List Oper} {o : Oper} {a : Act} {Q : Exit → Act → World → Prop} (hgd : o.guard = none) (s x : Operand) (t : TypeId)
    (ho : o.op = .call { callee := .builtin .append, args := #[s, x], argTypes := #[t, t] }) (e : TypeId) (i : TypeInfo) (ht : P.underlying t = some (.slice e)) (hi : P.info? e = some i) (B : Nat) (A : Option Addr) (c : Nat)
    (hs : a.eval s = .slice (some ⟨B, 0, none⟩) 0 0) (hx : a.eval x = .slice A 0 c) (h : wpList P ops Q rest (a.put o.dst (.slice (some ⟨B, 0, none⟩) 0 0)) w) : wpList P ops Q (o :: rest) a w := by
  refine wpList_plain hgd fun K' hK' => ?_
  unfold Oper.wp execOp
  simp only [ho, Go.resolve, invoke, builtin, Sem.run_bind, Sem.run_pure, Result.andThen_ok, List.map_toArray, List.map_cons, List.map_nil, hs, hx, run_append_nothing w t o.type e i ht hi B A c]
  exact hK' _ _ h
theorem step_append_rows {S : TypeId} {i0 : TypeInfo} {z : Value} {nb : Nat}
    {w : World} {ops : Array Oper} {o : Oper} {a : Act} {K : Act → World → Prop} {Q : Exit → Act → World → Prop} {E0 : Prop} (hg : o.guard = none) (s x : Operand) (ho : o.op = .call { callee := .builtin .append, args := #[s, x], argTypes := #[S, S] }) {base : Nat} {v : Value} {X : List α}
    (hs : a.eval s = v) (hown : OwnR E n f base w v X) {g2 o2 c2 : Nat} {L2 : List α} (hx : a.eval x = .slice (some ⟨g2, o2, none⟩) L2.length c2) (hL : AtR f n w g2 o2 L2) (h0 : 0 < L2.length) {N : Nat} (hN : X.length + L2.length = N) {Z : List α} (hZ : X ++ L2 = Z)
    (hu : Tryz.prog.underlying S = some (.slice E)) (hi0 : Tryz.prog.info? E = some i0) (hz0 : i0.zero = some z) (hz1 : i0.size = n) (hz2 : i0.bytes = nb) (hzc : z.cells.size = n) (hn0 : 0 < n) (hnb : nb ≤ 100)
    (hf : ∀ q, (f q).length = n) (h1c : ∀ q, ∀ u ∈ f q, u.oneCell' = true) (hlen : N ≤ 2000000) (hbase : base ≤ w.heap.size)
    (h : ∀ g cap w', OwnR E n f base w' (.slice (some ⟨g, 0, none⟩) N cap) Z → w.grownBy w' v.ownBlock → (v.ownBlock = some g ∨ g = w.heap.size) → g < w'.heap.size → K (a.put o.dst (.slice (some ⟨g, 0, none⟩) N cap)) w') :
    if Region.wanted o (yielded ops a.tmps) = true then Oper.wp Tryz.prog o a w K Q else E0 := by
  subst hN hZ
  have hroom : nb * (X.length + L2.length) ≤ 200000000 := by
    have : nb * (X.length + L2.length) ≤ 100 * 2000000 := Nat.mul_le_mul hnb hlen
    omega
  refine step_append_lies _ hg s x S ho base E i0 z n nb hu hi0 hz0 hz1 hz2 hzc hn0 v X.length (X.flatMap f) hs hown ⟨g2, o2, none⟩ L2.length c2 (L2.flatMap f) hx (flatR_len hf L2) ?_ ?_ h0 (by unfold maxLen; omega) ?_ hbase w.heap.size rfl fun g cap w' hown' hg' hat hlt => h g cap w' ?_ hg' hat hlt
  · intro j u hj
    obtain ⟨i, q, k, hi, hk, e⟩ := flatR_split hf hn0 hj
    have := hL i q hi k u hk
    rw [Go.WideShapes.add_plain, e, ← Nat.add_assoc]; exact this
  · intro u hu'
    obtain ⟨q, _, hq⟩ := List.mem_flatMap.1 hu'
    exact h1c q u hq
  · have e : nb * (X.length + L2.length) = (X.length + L2.length) * nb := Nat.mul_comm _ _
    omega
  · unfold OwnR
    rw [List.length_append, List.flatMap_append]
    exact hown'
theorem own_empty0 {w : World} {base B : Nat} (hb : base ≤ B) (h : w.heap[B]? = some (.cells #[] E (0, 0))) : OwnR E n f base w (.slice (some ⟨B, 0, none⟩) 0 0) ([] : List α) :=
  ⟨by simp, .inr ⟨B, 0, #[], rfl, hb, h, Nat.le_refl _, Nat.zero_le _, by simp, by simp⟩⟩
end
end Go.Proofs.YtjgadggehpmdkaaGreatDoor
namespace Go.Proofs.YtjgadggehpmdkaaGreatDoor
open Go.RowKit
theorem own_of {v : Value} {g k : Nat} (hv : v.ownBlock = some g) (h : v.ownBlock = some k) : k = g := Option.some.inj (h.symm.trans hv)
def nd0 : Nd := ⟨0, [], [], []⟩
end Go.Proofs.YtjgadggehpmdkaaGreatDoor
namespace Go.Proofs.YtjgadggehpmdkaaGreatDoor
open Go.RowKit
def boV (b : Bool) : List Value := [.bool b]
section
variable {w : World} {bs : List Bool}
theorem atR_bits {g : Nat} (h : ∀ (i : Nat) (b : Bool), bs[i]? = some b → w.cell? ⟨g, i, none⟩ = some (.bool b)) : AtR boV 1 w g 0 bs := fun i b hi j u hj => by
  cases j with
  | succ j => simp [boV] at hj
  | zero =>
    obtain rfl : Value.bool b = u := by simpa [boV] using hj
    have := h i b hi
    rwa [Nat.zero_add, Nat.mul_one, Nat.add_zero]
theorem bits_atR {g : Nat} (h : AtR boV 1 w g 0 bs) : ∀ (i : Nat) (b : Bool), bs[i]? = some b → w.cell? ⟨g, i, none⟩ = some (.bool b) := fun i b hi => by
  have := h i b hi 0 _ rfl
  rwa [Nat.zero_add, Nat.mul_one, Nat.add_zero] at this
theorem atR_rows {g : Nat} {L : List NdM} (h : ∀ (i : Nat) (q : NdM), L[i]? = some q → At4 w g (i * 4) q.n q.A q.ca q.B q.cb) : AtR ndW 4 w g 0 L := fun i q hi j u hj => by
  obtain ⟨h0, h1, h2, h3⟩ := h i q hi
  rw [Nat.zero_add]
  match j with
  | 0 => obtain rfl : _ = u := by simpa [ndW] using hj
         exact h0
  | 1 => obtain rfl : _ = u := by simpa [ndW] using hj
         exact h1
  | 2 => obtain rfl : _ = u := by simpa [ndW] using hj
         exact h2
  | 3 => obtain rfl : _ = u := by simpa [ndW] using hj
         exact h3
  | j + 4 => simp [ndW] at hj
theorem rows_atR {g : Nat} {L : List NdM} (h : AtR ndW 4 w g 0 L) : ∀ (i : Nat) (q : NdM), L[i]? = some q → At4 w g (i * 4) q.n q.A q.ca q.B q.cb := fun i q hi => by
  have h0 := h i q hi 0 _ rfl
  have h1 := h i q hi 1 _ rfl
  have h2 := h i q hi 2 _ rfl
  have h3 := h i q hi 3 _ rfl
  rw [Nat.zero_add] at h0 h1 h2 h3
  exact ⟨h0, h1, h2, h3⟩
end
end Go.Proofs.YtjgadggehpmdkaaGreatDoor
namespace Go.Proofs.YtjgadggehpmdkaaGreatDoor
open Go.RowKit
theorem some_ne {v : Value} {g k : Nat} (hv : v.ownBlock = some g) (h : k ≠ g) : some k ≠ v.ownBlock := fun e => h (own_of hv e.symm)
theorem bool_info : (Tryz.prog.info? 4).map (fun i => (i.zero, i.size, i.bytes)) = some (some (.bool false), 1, 1) := by kernel_rfl
theorem rnode_info : (Tryz.prog.info? 102).map (fun i => (i.zero, i.size, i.bytes)) = some (some (.agg #[.int .i64 0, .slice none 0 0, .slice none 0 0, .string ⟨#[]⟩]), 4, 72) := by kernel_rfl
theorem boV_one : ∀ q : Bool, ∀ u ∈ boV q, u.oneCell' = true := by
  intro q u hu
  simp only [boV, List.mem_cons, List.not_mem_nil, or_false] at hu
  subst hu; rfl
theorem ndW_one : ∀ q : NdM, ∀ u ∈ ndW q, u.oneCell' = true := by
  intro q u hu
  simp only [ndW, List.mem_cons, List.not_mem_nil, or_false] at hu
  rcases hu with rfl | rfl | rfl | rfl <;> rfl
theorem grown_set (w : World) (p : Addr) (u : Value) : w.grownBy (w.setCell p u) (some p.block) := by
  have hb := (Below.refl 0 w).setCell (p := p) (Nat.zero_le _) u
  exact ⟨hb.os, hb.tape, hb.output, hb.size, fun k _ hk => Below.heap_setCell w p u k fun e => hk (by rw [e])⟩
def ndM0 : NdM := ⟨nd0, none, 0, none, 0⟩
theorem own_room {E : TypeId} {n base N cap g : Nat} {α : Type} {f : α → List Value} {w : World} {L : List α} (h : OwnR E n f base w (.slice (some ⟨g, 0, none⟩) N cap) L) : N ≤ cap := by
  rcases h.2 with ⟨e, _⟩ | ⟨g', cap', cur, hv, _, hh, hc, _, _, ht⟩
  · cases e
  · simp at hv
    obtain ⟨rfl, rfl, rfl⟩ := hv
    exact hc
section
variable {w w' : World} {P : Nat → Prop} {m gN cN gB cB room : Nat} {nds : List Nd} {bs : List Bool}
theorem RM.mc (h : RM w P m gN cN gB cB room nds bs) : MC w m room (.slice (some ⟨gN, 0, none⟩) nds.length cN) (.slice (some ⟨gB, 0, none⟩) bs.length cB) := ⟨h.c0, h.c1, h.c2, h.fM⟩
theorem full_at {i : Nat} (hno : ∀ j : Nat, (stOf nds bs)[j]? ≠ some none) (hl : nds.length = bs.length) (hi : i + 1 < bs.length) : bs[i + 1]? = some true := by
  have h1 := List.getElem?_eq_getElem (l := bs) hi
  have h2 := List.getElem?_eq_getElem (l := nds) (i := i + 1) (by omega)
  rw [h1]
  cases hb : bs[i + 1] with
  | true => rfl
  | false => exact absurd (st_at i h2 (by rw [h1, hb])) (hno i)
set_option maxHeartbeats 8000000 in
set_option maxRecDepth 10000 in
theorem rfree_grow (h : RM w P m gN cN gB cB room nds bs) (hno : ∀ j : Nat, (stOf nds bs)[j]? ≠ some none) (hr : bs.length ≤ room) :
    Calls Tryz.prog 69 #[.pointer (some ⟨m, 0, none⟩)] w fun e w' => ∃ gN' cN' gB' cB', e = .returned (.int .i64 (bs.length : Int)) ∧ RM w' (fun g => P g ∨ w.heap.size ≤ g) m gN' cN' gB' cB' room (nds ++ [nd0]) (bs ++ [false]) ∧ ButS (fun g => g = m) w w' ∧ w.heap.size ≤ gN' ∧ w.heap.size ≤ gB' := by
  obtain ⟨i0, hi0, hz0, hz1, hz2⟩ := info_parts bool_info
  obtain ⟨i1, hi1, hy0, hy1, hy2⟩ := info_parts rnode_info
  have HR := Lib.hid h
  have hcap := h.cap
  have hsm := h.small
  have hone := h.one
  have hlen := Lib.hid h.len
  have HF := Lib.hid (fun i hi => full_at (i := i) hno h.len hi)
  clear h hno
  go_enter Tryz.func69, Tryz.ntmps69
  go_wp2_with fail
  go_loopw [3] (fun vi wr => ∃ i : Nat, i + 1 ≤ bs.length ∧ vi = .int .i64 ((i : Int) + 1) ∧ wr = w) (fun vi _ => bs.length - (RowKit.intOf vi).toNat)
  case atStart => exact ⟨0, by omega, rfl, rfl⟩
  case round =>
    obtain ⟨i, hi, rfl, rfl⟩ := hrel
    have c0 := HR.out.c0
    have c1 := HR.out.c1
    have c2 := HR.out.c2
    by_cases hlt : i + 1 < bs.length
    · have q0 := HR.out.bits _ _ (HF.out i hlt)
      go_wp2_with fail
      go_roundw
      case rel => exact ⟨i + 1, by omega, by go_num, trivial⟩
      case measure => simp [RowKit.intOf]; omega
    · have hd : decide (room < bs.length) = false := decide_eq_false (by omega)
      go_wp2_with fail
      go_quiet (fail)
      have hD : Below wr.heap.size wr (wr.drewN nq) := below_drewN (Below.refl _ _) nq
      have HR1 := Lib.hid (HR.out.below hD)
      have HT1 : Hid (ButS (fun g => g = m) wr (wr.drewN nq)) := Lib.hid (ButS.of_below hD)
      have zs : (wr.drewN nq).heap.size = wr.heap.size := Nat.le_antisymm (by simp) hD.size
      have HZ := Lib.hid zs
      clear c0 c1 c2 hD zs
      generalize wr.drewN nq = W1 at *
      have c1 := HR1.out.c1
      have c2 := HR1.out.c2
      have zm := HR1.out.lM
      have HB1 := Lib.hid (atR_bits HR1.out.bits)
      obtain ⟨L, hLn, hLa, hLr⟩ := rows_list HR1.out.rows
      have HL1 := Lib.hid (And.intro hLn (And.intro (atR_rows hLa) hLr))
      have hLl : L.length = nds.length := by rw [← hLn, List.length_map]
      have HLl := Lib.hid hLl
      clear hLn hLa hLr hLl HR
      have hB : Below W1.heap.size W1 (W1.alloc (.cells #[] 4)) := (Below.refl _ _).alloc (Nat.le_refl _) _
      have HBB := Lib.hid hB
      clear hB
      go_wp2_with (at_builtin; refine of_stop ?_)
      refine stop_of ?_
      refine wpList_append_rows (f := boV) (n := 1) (E := 4) (nb := 1) rfl _ _ rfl rfl (own_lit0 W1 W1.heap.size (Nat.le_refl _)) rfl (fun i b hi j u hj => keep_cell HBB.out (HB1.out i b hi j u hj)) (by omega) (N := bs.length) (by simp) (Z := bs) rfl Tryz.underlying77 hi0 hz0 hz1 hz2 rfl (by decide) (by decide) (fun _ => rfl) boV_one (by omega) (by simp) ?_
      intro g1 k1 w2 ho2 hg2 hat2 hl2
      have ho2 := Lib.hid ho2
      have hz2' : W1.heap.size ≤ g1 := by rcases hat2 with e | e; exact Nat.le_of_eq (own_of (g := W1.heap.size) rfl e).symm; simp at e; omega
      have HM2 := Lib.hid ((HR1.out.mc.alloc (.cells #[] 4)).grown hg2 (some_ne (g := W1.heap.size) rfl (by omega)))
      have HT2 := Lib.hid ((HT1.out.alloc (.cells #[] 4)).grown hg2 (fun k hk => .inr (by have := own_of (g := W1.heap.size) rfl hk; have := HZ.out; omega)))
      have HG2 : Hid (Below W1.heap.size W1 w2) := Lib.hid (HBB.out.grown hg2 (by simp) (fun k hk => by have := own_of (g := W1.heap.size) rfl hk; omega))
      clear hg2 hat2 c1 c2
      have zg2 : W1.heap.size ≤ w2.heap.size := HG2.out.size
      go_wp2_with (at_builtin; refine of_stop ?_)
      refine stop_of ?_
      refine wpList_append_rows (f := boV) (n := 1) (E := 4) (nb := 1) rfl _ _ rfl rfl (OwnR.below ho2.out ((Below.refl _ _).alloc (Nat.le_refl _) _)) (L2 := [false]) rfl (one_row w2 false) (by decide) (N := bs.length + 1) rfl (Z := bs ++ [false]) rfl Tryz.underlying77 hi0 hz0 hz1 hz2 rfl (by decide) (by decide) (fun _ => rfl) boV_one (by omega) (by simp; omega) ?_
      intro g3 k3 w3 ho3 hg3 hat3 hl3
      have ho3 := Lib.hid ho3
      have hz3 : W1.heap.size ≤ g3 := by rcases hat3 with e | e; exact (by have := own_of (g := g1) rfl e; omega); simp at e; omega
      have HM3 := Lib.hid ((HM2.out.alloc (.cells #[.bool false] 4)).grown hg3 (some_ne (g := g1) rfl (by omega)))
      have HT3 := Lib.hid ((HT2.out.alloc (.cells #[.bool false] 4)).grown hg3 (fun k hk => .inr (by have := own_of (g := g1) rfl hk; have := HZ.out; omega)))
      have HG3 : Hid (Below W1.heap.size W1 w3) := Lib.hid ((HG2.out.alloc zg2 (.cells #[.bool false] 4)).grown hg3 (by simp; omega) (fun k hk => by have := own_of (g := g1) rfl hk; omega))
      have zg3 : W1.heap.size ≤ w3.heap.size := HG3.out.size
      clear hg3 hat3
      have d1 := HM3.out.c1
      have d2 := HM3.out.c2
      have dF := HM3.out.fM 2
      have zm3 := HM3.out.lt
      go_wp2_with (at_builtin; refine of_stop ?_)
      have HMs := Lib.hid (HM3.out.set2 (.slice (some ⟨g3, 0, none⟩) (bs.length + 1) k3))
      have HTs : Hid (ButS (fun g => g = m) wr (w3.setCell ⟨m, 2, none⟩ (.slice (some ⟨g3, 0, none⟩) (bs.length + 1) k3))) := Lib.hid (HT3.out.setCell (.inl rfl) _)
      have HWs : Hid (ButS (fun g => g = m) W1 (w3.setCell ⟨m, 2, none⟩ (.slice (some ⟨g3, 0, none⟩) (bs.length + 1) k3))) := Lib.hid ((ButS.of_below (P := fun g => g = m) HG3.out).setCell (p := ⟨m, 2, none⟩) (.inl rfl) _)
      have HOs : Hid (OwnR 4 1 boV W1.heap.size (w3.setCell ⟨m, 2, none⟩ (.slice (some ⟨g3, 0, none⟩) (bs.length + 1) k3)) (.slice (some ⟨g3, 0, none⟩) (bs.length + 1) k3) (bs ++ [false])) := Lib.hid (World.ownsRow.kept ho3.out (grown_set _ _ _) (.inr (fun e => absurd (own_of (g := g3) (k := m) rfl e) (by omega))))
      have zg4 := HWs.out.size
      have hW4 : (w3.setCell ⟨m, 2, none⟩ (.slice (some ⟨g3, 0, none⟩) (bs.length + 1) k3)).heap.size = w3.heap.size := by simp
      clear d1 d2 dF HM3 HT3 HG3 ho3 HM2 HT2 HG2 ho2
      generalize w3.setCell ⟨m, 2, none⟩ (.slice (some ⟨g3, 0, none⟩) (bs.length + 1) k3) = W4 at *
      rw [← hW4]
      clear hW4
      have zg3W : g3 < W4.heap.size := by have := (World.ownsRow.lt HOs.out g3 rfl).2; exact this
      refine stop_of ?_
      refine wpList_append_rows (f := ndW) (n := 4) (E := 102) (nb := 72) (X := ([] : List NdM)) (base := W4.heap.size) rfl _ _ rfl rfl (own_lit0 W4 W4.heap.size (Nat.le_refl _)) (L2 := L) (by rw [HLl.out]; rfl) (fun i q hi j u hj => (HWs.out.alloc _).cell (fun e => absurd e HR1.out.nMN.symm) (HL1.out.2.1 i q hi j u hj)) (by rw [HLl.out, hlen.out]; omega) (N := nds.length) (by rw [HLl.out]; simp) (Z := L) rfl Tryz.underlying63 hi1 hy0 hy1 hy2 rfl (by decide) (by decide) (fun _ => rfl) ndW_one (by rw [hlen.out]; omega) (by simp) ?_
      intro g5 k5 w5 ho5 hg5 hat5 hl5
      have ho5 := Lib.hid ho5
      have hz5 : W4.heap.size ≤ g5 := by rcases hat5 with e | e; exact Nat.le_of_eq (own_of (g := W4.heap.size) rfl e).symm; simp at e; omega
      have zm4 := HMs.out.lt
      have HM5 := Lib.hid ((HMs.out.alloc (.cells #[] 102)).grown hg5 (some_ne (g := W4.heap.size) rfl (by omega)))
      have HG5 : Hid (Below W4.heap.size W4 w5) := Lib.hid (((Below.refl _ _).alloc (Nat.le_refl _) (.cells #[] 102)).grown hg5 (by simp) (fun k hk => by have := own_of (g := W4.heap.size) rfl hk; omega))
      have zg5 := HG5.out.size
      clear hg5 hat5
      go_wp2_with (at_builtin; refine of_stop ?_)
      refine stop_of ?_
      refine wpList_append_rows (f := ndW) (n := 4) (E := 102) (nb := 72) rfl _ _ rfl rfl (OwnR.below ho5.out ((Below.refl _ _).alloc (Nat.le_refl _) _)) (L2 := [ndM0]) rfl (one_row w5 ndM0) (by decide) (N := nds.length + 1) (by rw [HLl.out]; rfl) (Z := L ++ [ndM0]) rfl Tryz.underlying63 hi1 hy0 hy1 hy2 rfl (by decide) (by decide) (fun _ => rfl) ndW_one (by rw [hlen.out]; omega) (by simp; omega) ?_
      intro g6 k6 w6 ho6 hg6 hat6 hl6
      have ho6 := Lib.hid ho6
      have hz6 : W4.heap.size ≤ g6 := by rcases hat6 with e | e; exact (by have := own_of (g := g5) rfl e; omega); simp at e; omega
      have HM6 := Lib.hid ((HM5.out.alloc (.cells (ndW ndM0).toArray 102)).grown hg6 (some_ne (g := g5) rfl (by omega)))
      have HG6 : Hid (Below W4.heap.size W4 w6) := Lib.hid ((HG5.out.alloc zg5 (.cells (ndW ndM0).toArray 102)).grown hg6 (by simp; omega) (fun k hk => by have := own_of (g := g5) rfl hk; omega))
      clear hg6 hat6
      have d1 := HM6.out.c1
      have d2 := HM6.out.c2
      have dF := HM6.out.fM 1
      have zm6 := HM6.out.lt
      go_wp2_with fail
      go_ret
      have hk3 : Below W4.heap.size W4 w6 := HG6.out
      refine ⟨g6, k6, g3, k3, rfl, ?_, (HTs.out.trans (ButS.of_below hk3)).setCell (.inl rfl) _, by have := HZ.out; omega, by have := HZ.out; omega⟩
      have hmc := HM6.out.set1 (.slice (some ⟨g6, 0, none⟩) (nds.length + 1) k6)
      have hW7 : ButS (fun g => g = m) W1 (w6.setCell ⟨m, 1, none⟩ (.slice (some ⟨g6, 0, none⟩) (nds.length + 1) k6)) := (HWs.out.trans (ButS.of_below hk3)).setCell (.inl rfl) _
      have hz := HZ.out
      have hlN := HR1.out.lN
      have hob : OwnR 4 1 boV W1.heap.size (w6.setCell ⟨m, 1, none⟩ (.slice (some ⟨g6, 0, none⟩) (nds.length + 1) k6)) (.slice (some ⟨g3, 0, none⟩) (bs.length + 1) k3) (bs ++ [false]) := World.ownsRow.kept (OwnR.below HOs.out hk3) (grown_set _ _ _) (.inr (fun e => absurd (own_of (g := g3) (k := m) rfl e) (by omega)))
      have hon : OwnR 102 4 ndW W4.heap.size (w6.setCell ⟨m, 1, none⟩ (.slice (some ⟨g6, 0, none⟩) (nds.length + 1) k6)) (.slice (some ⟨g6, 0, none⟩) (nds.length + 1) k6) (L ++ [ndM0]) := World.ownsRow.kept ho6.out (grown_set _ _ _) (.inr (fun e => absurd (own_of (g := g6) (k := m) rfl e) (by omega)))
      have hLr : ∀ q ∈ L ++ [ndM0], RowI (w6.setCell ⟨m, 1, none⟩ (.slice (some ⟨g6, 0, none⟩) (nds.length + 1) k6)) (fun g => (P g ∨ wr.heap.size ≤ g) ∧ g ≠ m ∧ g ≠ g6 ∧ g ≠ g3) q.A q.n.refs ∧ RowI (w6.setCell ⟨m, 1, none⟩ (.slice (some ⟨g6, 0, none⟩) (nds.length + 1) k6)) (fun g => (P g ∨ wr.heap.size ≤ g) ∧ g ≠ m ∧ g ≠ g6 ∧ g ≠ g3) q.B q.n.nums := by
        intro q hq
        rcases List.mem_append.1 hq with hq | hq
        · obtain ⟨r1, r2⟩ := HL1.out.2.2 q hq
          have hmo : ∀ g, (P g ∧ g ≠ m ∧ g ≠ gN ∧ g ≠ gB) → g < W1.heap.size → (P g ∨ wr.heap.size ≤ g) ∧ g ≠ m ∧ g ≠ g6 ∧ g ≠ g3 := fun g hg hl => ⟨.inl hg.1, hg.2.1, by omega, by omega⟩
          have hkq : Kept W1 (w6.setCell ⟨m, 1, none⟩ (.slice (some ⟨g6, 0, none⟩) (nds.length + 1) k6)) (fun g => (P g ∨ wr.heap.size ≤ g) ∧ g ≠ m ∧ g ≠ g6 ∧ g ≠ g3) := hW7.keptQ fun g hg => hg.2.1
          exact ⟨(r1.mono hmo).kept hkq, (r2.mono hmo).kept hkq⟩
        · obtain rfl : q = ndM0 := by simpa using hq
          exact ⟨.inl rfl, .inl rfl⟩
      have e1 : (nds ++ [nd0]).length = nds.length + 1 := by simp
      have e2 : (bs ++ [false]).length = bs.length + 1 := by simp
      have eL : (L ++ [ndM0]).map NdM.n = nds ++ [nd0] := by rw [List.map_append, HL1.out.1]; rfl
      have h7 := (World.ownsRow.lt hon g6 rfl).2
      have h8 := (World.ownsRow.lt hob g3 rfl).2
      exact ⟨hmc.c0, by rw [e1]; exact hmc.c1, by rw [e2]; exact hmc.c2, hmc.fM, World.ownsRow.frozenAt (by have := hon; unfold OwnR at this; rwa [show (L ++ [ndM0]).length = nds.length + 1 by rw [List.length_append, HLl.out]; rfl] at this), World.ownsRow.frozenAt (by have := hob; unfold OwnR at this; rwa [e2] at this), .inl HR1.out.pM, .inr (by omega), .inr (by omega), by omega, by omega, by omega, h7, h8,
        by rw [← eL]; exact list_rows (rows_atR (OwnR.at (fun _ => rfl) hon (by rw [List.length_append, HLl.out]; rfl))) hLr, bits_atR (OwnR.at (fun _ => rfl) hob e2.symm), by rw [e1, e2, hlen.out], by omega, by omega, hsm,
        fun n hn => by
          rcases List.mem_append.1 hn with hn | hn
          · exact HR1.out.wide n hn
          · obtain rfl : n = nd0 := by simpa using hn
            exact ⟨by decide, by decide⟩,
        by have hc := own_room hon; rw [e1]; exact hc⟩
set_option maxHeartbeats 4000000 in
set_option maxRecDepth 10000 in
theorem rfree_found (h : RM w P m gN cN gB cB room nds bs) {k : Nat} (hk : (stOf nds bs)[k]? = some none) (hno : ∀ j : Nat, j < k → (stOf nds bs)[j]? ≠ some none) :
    Calls Tryz.prog 69 #[.pointer (some ⟨m, 0, none⟩)] w fun e w' => e = .returned (.int .i64 ((k : Int) + 1)) ∧ w' = w := by
  have HR := Lib.hid h
  have hcap := h.cap
  have hsm := h.small
  have hkl : k + 1 < bs.length := by have := (List.getElem?_eq_some_iff.1 hk).1; rw [st_len h.len] at this; omega
  have hkf : bs[k + 1]? = some false := by
    have h1 := List.getElem?_eq_getElem (l := bs) hkl
    have h2 := List.getElem?_eq_getElem (l := nds) (i := k + 1) (by have := h.len; omega)
    rw [h1]
    cases hb : bs[k + 1] with
    | false => rfl
    | true => have := st_at k h2 (by rw [h1, hb]); rw [hk] at this; cases this
  have HF : Hid (∀ i, i < k → bs[i + 1]? = some true) := Lib.hid fun i hi => by
    have h1 := List.getElem?_eq_getElem (l := bs) (i := i + 1) (by omega)
    have h2 := List.getElem?_eq_getElem (l := nds) (i := i + 1) (by have := h.len; omega)
    rw [h1]
    cases hb : bs[i + 1] with
    | true => rfl
    | false => exact absurd (st_at i h2 (by rw [h1, hb])) (hno i hi)
  clear h hno hk
  go_enter Tryz.func69, Tryz.ntmps69
  go_wp2_with fail
  go_loopw [3] (fun vi wr => ∃ i : Nat, i ≤ k ∧ vi = .int .i64 ((i : Int) + 1) ∧ wr = w) (fun vi _ => bs.length - (RowKit.intOf vi).toNat)
  case atStart => exact ⟨0, by omega, rfl, rfl⟩
  case round =>
    obtain ⟨i, hi, rfl, rfl⟩ := hrel
    have c2 := HR.out.c2
    have hlt : i + 1 < bs.length := by omega
    by_cases hik : i < k
    · have q0 := HR.out.bits _ _ (HF.out i hik)
      clear hkf
      go_wp2_with fail
      go_roundw
      case rel => exact ⟨i + 1, by omega, by go_num, trivial⟩
      case measure => simp [RowKit.intOf]; omega
    · obtain rfl : i = k := by omega
      have q0 := HR.out.bits _ _ hkf
      clear hkf
      go_wp2_with fail
      go_ret
      exact ⟨rfl, rfl⟩
set_option maxHeartbeats 4000000 in
set_option maxRecDepth 10000 in
theorem rfree_full (h : RM w P m gN cN gB cB room nds bs) (hno : ∀ j : Nat, (stOf nds bs)[j]? ≠ some none) (hr : room < bs.length) :
    Calls Tryz.prog 69 #[.pointer (some ⟨m, 0, none⟩)] w fun e w' => e = .returned (.int .i64 0) ∧ Below w.heap.size w w' := by
  have HR := Lib.hid h
  have hcap := h.cap
  have hsm := h.small
  have hone := h.one
  have HF := Lib.hid (fun i hi => full_at (i := i) hno h.len hi)
  clear h hno
  go_enter Tryz.func69, Tryz.ntmps69
  go_wp2_with fail
  go_loopw [3] (fun vi wr => ∃ i : Nat, i + 1 ≤ bs.length ∧ vi = .int .i64 ((i : Int) + 1) ∧ wr = w) (fun vi _ => bs.length - (RowKit.intOf vi).toNat)
  case atStart => exact ⟨0, by omega, rfl, rfl⟩
  case round =>
    obtain ⟨i, hi, rfl, rfl⟩ := hrel
    have c0 := HR.out.c0
    have c2 := HR.out.c2
    by_cases hlt : i + 1 < bs.length
    · have q0 := HR.out.bits _ _ (HF.out i hlt)
      go_wp2_with fail
      go_roundw
      case rel => exact ⟨i + 1, by omega, by go_num, trivial⟩
      case measure => simp [RowKit.intOf]; omega
    · have hd : decide (room < bs.length) = true := decide_eq_true (by omega)
      go_wp2_with fail
      go_quiet (fail)
      go_wp2_with fail
      go_ret
      exact ⟨rfl, by first | exact Below.refl _ _ | exact below_drewN (Below.refl _ _) _⟩
end
end Go.Proofs.YtjgadggehpmdkaaGreatDoor
namespace Go.Proofs.YtjgadggehpmdkaaGreatDoor
open Go.RowKit
def set4 (w : World) (g o : Nat) (a b c d : Value) : World := (((w.setCell ⟨g, o, none⟩ a).setCell ⟨g, o + 1, none⟩ b).setCell ⟨g, o + 2, none⟩ c).setCell ⟨g, o + 3, none⟩ d
section
variable {w w' : World} {g o : Nat} {a b c d : Value}
theorem set4_far {p : Addr} (h : ∀ j, j < 4 → p ≠ ⟨g, o + j, none⟩) : (set4 w g o a b c d).cell? p = w.cell? p := by
  unfold set4
  rw [World.cell?_setCell_other _ _ _ _ (h 3 (by decide)).symm, World.cell?_setCell_other _ _ _ _ (h 2 (by decide)).symm, World.cell?_setCell_other _ _ _ _ (h 1 (by decide)).symm, World.cell?_setCell_other _ _ _ _ (show (⟨g, o, none⟩ : Addr) ≠ p from (h 0 (by decide)).symm)]
theorem set4_frozen (p : Addr) : (set4 w g o a b c d).frozen? p = w.frozen? p := by
  unfold set4
  rw [World.frozen?_setCell, World.frozen?_setCell, World.frozen?_setCell, World.frozen?_setCell]
theorem set4_size : (set4 w g o a b c d).heap.size = w.heap.size := by unfold set4; simp
theorem set4_near {u0 u1 u2 u3 : Value} (h0 : w.cell? ⟨g, o, none⟩ = some u0) (h1 : w.cell? ⟨g, o + 1, none⟩ = some u1) (h2 : w.cell? ⟨g, o + 2, none⟩ = some u2) (h3 : w.cell? ⟨g, o + 3, none⟩ = some u3) :
    (set4 w g o a b c d).cell? ⟨g, o, none⟩ = some a ∧ (set4 w g o a b c d).cell? ⟨g, o + 1, none⟩ = some b ∧ (set4 w g o a b c d).cell? ⟨g, o + 2, none⟩ = some c ∧ (set4 w g o a b c d).cell? ⟨g, o + 3, none⟩ = some d := by
  have ne : ∀ i j, i ≠ j → (⟨g, o + i, none⟩ : Addr) ≠ ⟨g, o + j, none⟩ := fun i j h e => h (by have := congrArg Addr.off e; simp at this; exact this)
  have n01 := ne 0 1 (by decide)
  have n02 := ne 0 2 (by decide)
  have n03 := ne 0 3 (by decide)
  have n12 := ne 1 2 (by decide)
  have n13 := ne 1 3 (by decide)
  have n23 := ne 2 3 (by decide)
  rw [Nat.add_zero] at n01 n02 n03
  unfold set4
  refine ⟨?_, ?_, ?_, ?_⟩
  · rw [World.cell?_setCell_other _ _ _ _ n03.symm, World.cell?_setCell_other _ _ _ _ n02.symm, World.cell?_setCell_other _ _ _ _ n01.symm]
    exact World.cell?_setCell_same _ _ _ h0
  · rw [World.cell?_setCell_other _ _ _ _ n13.symm, World.cell?_setCell_other _ _ _ _ n12.symm]
    exact World.cell?_setCell_same _ _ _ (by rw [World.cell?_setCell_other _ _ _ _ n01]; exact h1)
  · rw [World.cell?_setCell_other _ _ _ _ n23.symm]
    exact World.cell?_setCell_same _ _ _ (by rw [World.cell?_setCell_other _ _ _ _ n12, World.cell?_setCell_other _ _ _ _ n02]; exact h2)
  · exact World.cell?_setCell_same _ _ _ (by rw [World.cell?_setCell_other _ _ _ _ n23, World.cell?_setCell_other _ _ _ _ n13, World.cell?_setCell_other _ _ _ _ n03]; exact h3)
theorem ButS.set4 {P : Nat → Prop} {v : World} (h : ButS P v w) (hg : P g ∨ v.heap.size ≤ g) : ButS P v (set4 w g o a b c d) := by
  unfold Go.Proofs.YtjgadggehpmdkaaGreatDoor.set4
  exact (((h.setCell (p := ⟨g, o, none⟩) hg a).setCell (p := ⟨g, o + 1, none⟩) hg b).setCell (p := ⟨g, o + 2, none⟩) hg c).setCell (p := ⟨g, o + 3, none⟩) hg d
end
end Go.Proofs.YtjgadggehpmdkaaGreatDoor
