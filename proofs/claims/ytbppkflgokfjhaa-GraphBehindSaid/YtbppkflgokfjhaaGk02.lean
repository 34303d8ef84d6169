/- Texts joined: RwB, NdFk, GrC, GrJ, OpG, GpA, NdJk, GrD. -/
import Derived.Test.YtbppkflgokfjhaaGk01
import Derived.Deep.AppendLies
import Derived.Maps.AppendAt
import Derived.Deep.RegionLawGrows
set_option linter.all false
namespace Go.Proofs.Ytbppkflgokfjhaa
open Go.RowKit
def OwnR {α : Type} (E : TypeId) (n : Nat) (f : α → List Value) (base : Nat) (w : World) (v : Value) (L : List α) : Prop := w.ownsRow base E n v L.length (L.flatMap f)
section
variable {α : Type} {E : TypeId} {n : Nat} {f : α → List Value}
theorem flatR_at (hf : ∀ q, (f q).length = n) : ∀ (l : List α) (i : Nat) (q : α), l[i]? = some q → ∀ (j : Nat) (u : Value), (f q)[j]? = some u → (l.flatMap f)[i * n + j]? = some u
  | [], i, q, h, _, _, _ => by simp at h
  | p :: t, 0, q, h, j, u, hj => by
    simp at h; subst h
    rw [List.flatMap_cons, Nat.zero_mul, Nat.zero_add, List.getElem?_append_left (by exact (List.getElem?_eq_some_iff.1 hj).1)]
    exact hj
  | p :: t, i + 1, q, h, j, u, hj => by
    have := flatR_at hf t i q (by simpa using h) j u hj
    have e : (i + 1) * n + j - n = i * n + j := by rw [Nat.succ_mul]; omega
    rw [List.flatMap_cons, List.getElem?_append_right (by rw [hf, Nat.succ_mul]; omega), hf, e]
    exact this
theorem OwnR.shape {base : Nat} {w : World} {v : Value} {L : List α} (hf : ∀ q, (f q).length = n) (h : OwnR E n f base w v L) : ∃ (A : Option Addr) (cap : Nat), v = .slice A L.length cap ∧ L.length ≤ cap ∧ (L ≠ [] → ∃ g o, A = some ⟨g, o, none⟩ ∧ AtR f n w g o L) := by
  have h' := h
  rcases h.2 with ⟨rfl, hl⟩ | ⟨g, cap, cur, rfl, _, hh, hc, _⟩
  · refine ⟨none, 0, by rw [hl], by rw [hl]; exact Nat.le_refl _, fun hne => ?_⟩
    exact absurd (List.length_eq_zero_iff.1 hl) hne
  · refine ⟨_, cap, rfl, hc, fun _ => ⟨g, 0, rfl, fun i q hi j u hj => ?_⟩⟩
    have hlt : i < L.length := (List.getElem?_eq_some_iff.1 hi).1
    have hjn : j < n := by have := (List.getElem?_eq_some_iff.1 hj).1; rwa [hf] at this
    have hle : i * n + j < L.length * n := by
      have h1 : (i + 1) * n ≤ L.length * n := Nat.mul_le_mul_right n hlt
      rw [Nat.succ_mul] at h1
      omega
    rw [Nat.zero_add]
    exact (World.ownsRow.cellAt h' (i * n + j) (by first | exact hle | omega)).trans (flatR_at hf L i q hi j u hj)
def Apart (v u : Value) : Prop := ∀ k, v.ownBlock = some k → u.ownBlock = some k → False
theorem Apart.symm {v u : Value} (h : Apart v u) : Apart u v := fun k hv hu => h k hu hv
theorem Apart.nil (u : Value) : Apart (.slice none 0 0) u := fun k hv _ => by cases hv
theorem OwnR.beside {base : Nat} {w w' : World} {v u : Value} {L : List α} (h : OwnR E n f base w u L) (hg : w.grownBy w' v.ownBlock) (ha : Apart v u) : OwnR E n f base w' u L := by
  refine World.ownsRow.kept h hg ?_
  cases hu : u.ownBlock with
  | none => exact .inl rfl
  | some k => exact .inr fun e => ha k e.symm hu
theorem OwnR.apart {base : Nat} {w : World} {v v' u : Value} {L : List α} (h : OwnR E n f base w u L) (ha : Apart v u) (hat : v'.ownBlock = v.ownBlock ∨ v'.ownBlock = some (w.heap.size + 1)) : Apart v' u := fun k hv hu => by
  rcases hat with e | e
  · exact ha k (e ▸ hv) hu
  · have h1 := (World.ownsRow.lt h k hu).2
    rw [e] at hv
    cases hv
    omega
theorem OwnR.below {base : Nat} {w w' : World} {v : Value} {L : List α} (h : OwnR E n f base w v L) (hb : Below w.heap.size w w') : OwnR E n f base w' v L := own_below h hb
theorem wpList_append_row {S : TypeId} {i0 : TypeInfo} {z : Value} {nb : Nat}
    (w : World) {ops : Array Oper} {rest : List Oper} {o : Oper} {a : Act} {Q : Exit → Act → World → Prop} (hg : o.guard = none) (s x : Operand) (ho : o.op = .call { callee := .builtin .append, args := #[s, x], argTypes := #[S, S] }) {base : Nat} {v : Value} {X : List α}
    (hs : a.eval s = v) {w0 : World} {q : α} (hw : w = w0.alloc (.cells (f q).toArray E)) (hown : OwnR E n f base w0 v X) (hx : a.eval x = .slice (some ⟨w0.heap.size, 0, none⟩) 1 1)
    (hu : Try.prog.underlying S = some (.slice E)) (hi0 : Try.prog.info? E = some i0) (hz0 : i0.zero = some z) (hz1 : i0.size = n) (hz2 : i0.bytes = nb) (hzc : z.cells.size = n) (hn0 : 0 < n) (hnb : nb ≤ 100)
    (hf : ∀ q, (f q).length = n) (h1c : ∀ q, ∀ u ∈ f q, u.oneCell' = true) (hlen : X.length ≤ 1000000) (hbase : base ≤ w0.heap.size)
    (h : ∀ v' w', OwnR E n f base w' v' (X ++ [q]) → w0.grownBy w' v.ownBlock → (v'.ownBlock = v.ownBlock ∨ v'.ownBlock = some (w0.heap.size + 1)) → wpList Try.prog ops Q rest (a.put o.dst v') w') : wpList Try.prog ops Q (o :: rest) a w := by
  subst hw
  have hb : (w0.alloc (.cells (f q).toArray E)).heap[w0.heap.size]? = some (.cells (f q).toArray E) := (MapKept.heap_alloc w0 _).1
  have hroom : nb * (X.length + 1) ≤ 200000000 := by
    have : nb * (X.length + 1) ≤ 100 * (1000000 + 1) := Nat.mul_le_mul hnb (by omega)
    omega
  refine wpList_append_own_at _ hg s x S ho base E i0 z n nb hu hi0 hz0 hz1 hz2 hzc hn0 v X.length (X.flatMap f) hs (World.ownsRow.alloc hown _) ⟨w0.heap.size, 0, none⟩ 1 1 (f q) hx (by rw [hf, Nat.one_mul]) ?_ (h1c q) (by unfold maxLen; omega) ?_ (by simp; omega) fun v' w' hown' hg' _ hat => h v' w' ?_ ?_ (by simpa using hat)
  · intro j u hj
    exact World.news_of_block (cs := (f q).toArray) (t := E) (fr := (0, 0)) hb j u (by simpa using hj)
  · first
    | omega
    | (have e : nb * (X.length + 1) = (X.length + 1) * nb := Nat.mul_comm _ _; omega)
  · unfold OwnR
    rw [List.length_append, List.flatMap_append]
    show w'.ownsRow base _ n v' (X.length + 1) (X.flatMap f ++ [q].flatMap f)
    rw [List.flatMap_singleton]
    exact hown'
  · exact ⟨hg'.os, hg'.tape, hg'.output, Nat.le_trans (by simp) hg'.size, fun k hk hn => (hg'.block k (by simp; omega) hn).trans (Below.heap_alloc w0 _ k hk)⟩
theorem step_append_row {S : TypeId} {i0 : TypeInfo} {z : Value} {nb : Nat}
    {w : World} {ops : Array Oper} {o : Oper} {a : Act} {K : Act → World → Prop} {Q : Exit → Act → World → Prop} {E0 : Prop} (hg : o.guard = none) (s x : Operand) (ho : o.op = .call { callee := .builtin .append, args := #[s, x], argTypes := #[S, S] }) {base : Nat} {v : Value} {X : List α}
    (hs : a.eval s = v) (B : Nat) {q : α} (hx : a.eval x = .slice (some ⟨B, 0, none⟩) 1 1) (hown : OwnR E n f base w v X) (hb : w.heap[B]? = some (.cells (f q).toArray E))
    (hu : Try.prog.underlying S = some (.slice E)) (hi0 : Try.prog.info? E = some i0) (hz0 : i0.zero = some z) (hz1 : i0.size = n) (hz2 : i0.bytes = nb) (hzc : z.cells.size = n) (hn0 : 0 < n) (hnb : nb ≤ 100)
    (hf : ∀ q, (f q).length = n) (h1c : ∀ q, ∀ u ∈ f q, u.oneCell' = true) (hlen : X.length ≤ 1000000) (hbase : base ≤ w.heap.size)
    (h : ∀ g cap w', OwnR E n f base w' (.slice (some ⟨g, 0, none⟩) (X.length + 1) cap) (X ++ [q]) → w.grownBy w' v.ownBlock → (v.ownBlock = some g ∨ g = w.heap.size) → K (a.put o.dst (.slice (some ⟨g, 0, none⟩) (X.length + 1) cap)) w') :
    if Region.wanted o (yielded ops a.tmps) = true then Oper.wp Try.prog o a w K Q else E0 := by
  have hroom : nb * (X.length + 1) ≤ 200000000 := by
    have : nb * (X.length + 1) ≤ 100 * (1000000 + 1) := Nat.mul_le_mul hnb (by omega)
    omega
  refine step_append_lies _ hg s x S ho base E i0 z n nb hu hi0 hz0 hz1 hz2 hzc hn0 v X.length (X.flatMap f) hs hown ⟨B, 0, none⟩ 1 1 (f q) hx (by rw [hf, Nat.one_mul]) ?_ (h1c q) (by omega) (by unfold maxLen; omega) ?_ hbase w.heap.size rfl fun g cap w' hown' hg' hat _ => h g cap w' ?_ hg' hat
  · intro j u hj
    exact World.news_of_block (cs := (f q).toArray) (t := E) (fr := (0, 0)) hb j u (by simpa using hj)
  · first
    | omega
    | (have e : nb * (X.length + 1) = (X.length + 1) * nb := Nat.mul_comm _ _; omega)
  · unfold OwnR
    rw [List.length_append, List.flatMap_append]
    show w'.ownsRow base _ n _ (X.length + 1) (X.flatMap f ++ [q].flatMap f)
    rw [List.flatMap_singleton]
    exact hown'
theorem flatR_len (hf : ∀ q, (f q).length = n) : ∀ l : List α, (l.flatMap f).length = l.length * n
  | [] => by simp
  | q :: l => by rw [List.flatMap_cons, List.length_append, flatR_len hf l, hf, List.length_cons, Nat.succ_mul]; omega
theorem flatR_split (hf : ∀ q, (f q).length = n) (hn0 : 0 < n) {l : List α} {j : Nat} {u : Value} (h : (l.flatMap f)[j]? = some u) : ∃ i q k, l[i]? = some q ∧ (f q)[k]? = some u ∧ j = i * n + k := by
  have hl := (List.getElem?_eq_some_iff.1 h).1
  rw [flatR_len hf] at hl
  have hi : j / n < l.length := Nat.div_lt_of_lt_mul (by rw [Nat.mul_comm]; exact hl)
  have hk : j % n < n := Nat.mod_lt _ hn0
  have hq := List.getElem?_eq_getElem hi
  have hu : (f l[j / n])[j % n]? = some ((f l[j / n])[j % n]'(by rw [hf]; exact hk)) := List.getElem?_eq_getElem _
  have e : j / n * n + j % n = j := Nat.div_add_mod' j n
  have := flatR_at hf l (j / n) _ hq (j % n) _ hu
  rw [e, h] at this
  exact ⟨j / n, _, j % n, hq, by rw [hu, this], e.symm⟩
theorem wpList_append_rows {S : TypeId} {i0 : TypeInfo} {z : Value} {nb : Nat}
    {w : World} {ops : Array Oper} {rest : List Oper} {o : Oper} {a : Act} {Q : Exit → Act → World → Prop} (hg : o.guard = none) (s x : Operand) (ho : o.op = .call { callee := .builtin .append, args := #[s, x], argTypes := #[S, S] }) {base : Nat} {v : Value} {X : List α}
    (hs : a.eval s = v) (hown : OwnR E n f base w v X) {g2 o2 c2 : Nat} {L2 : List α} (hx : a.eval x = .slice (some ⟨g2, o2, none⟩) L2.length c2) (hL : AtR f n w g2 o2 L2) (h0 : 0 < L2.length) {N : Nat} (hN : X.length + L2.length = N) {Z : List α} (hZ : X ++ L2 = Z)
    (hu : Try.prog.underlying S = some (.slice E)) (hi0 : Try.prog.info? E = some i0) (hz0 : i0.zero = some z) (hz1 : i0.size = n) (hz2 : i0.bytes = nb) (hzc : z.cells.size = n) (hn0 : 0 < n) (hnb : nb ≤ 100)
    (hf : ∀ q, (f q).length = n) (h1c : ∀ q, ∀ u ∈ f q, u.oneCell' = true) (hlen : N ≤ 2000000) (hbase : base ≤ w.heap.size)
    (h : ∀ g cap w', OwnR E n f base w' (.slice (some ⟨g, 0, none⟩) N cap) Z → w.grownBy w' v.ownBlock → (v.ownBlock = some g ∨ g = w.heap.size) → g < w'.heap.size → wpList Try.prog ops Q rest (a.put o.dst (.slice (some ⟨g, 0, none⟩) N cap)) w') : wpList Try.prog ops Q (o :: rest) a w := by
  subst hN hZ
  have hroom : nb * (X.length + L2.length) ≤ 200000000 := by
    have : nb * (X.length + L2.length) ≤ 100 * 2000000 := Nat.mul_le_mul hnb hlen
    omega
  refine wpList_append_lies _ hg s x S ho base E i0 z n nb hu hi0 hz0 hz1 hz2 hzc hn0 v X.length (X.flatMap f) hs hown ⟨g2, o2, none⟩ L2.length c2 (L2.flatMap f) hx (flatR_len hf L2) ?_ ?_ h0 (by unfold maxLen; omega) ?_ hbase w.heap.size rfl fun g cap w' hown' hg' hat hlt => h g cap w' ?_ hg' hat hlt
  · intro j u hj
    obtain ⟨i, q, k, hi, hk, e⟩ := flatR_split hf hn0 hj
    have := hL i q hi k u hk
    rw [Go.WideShapes.add_plain, e, ← Nat.add_assoc]; exact this
  · intro u hu'
    obtain ⟨q, _, hq⟩ := List.mem_flatMap.1 hu'
    exact h1c q u hq
  · have e : nb * (X.length + L2.length) = (X.length + L2.length) * nb := Nat.mul_comm _ _
    omega
  · unfold OwnR
    rw [List.length_append, List.flatMap_append]
    exact hown'
theorem one_row (w : World) (q : α) : AtR f n (w.alloc (.cells (f q).toArray E)) w.heap.size 0 [q] := fun i p hi j u hj => by
  cases i with
  | succ i => simp at hi
  | zero =>
    obtain rfl : q = p := by simpa using hi
    rw [Nat.zero_mul, Nat.zero_add, cell_of_row _ _ j (f q).toArray E (0, 0) (MapKept.heap_alloc w _).1]
    simpa using hj
theorem own_lit0 (w : World) (base : Nat) (hb : base ≤ w.heap.size) : OwnR E n f base (w.alloc (.cells #[] E)) (.slice (some ⟨w.heap.size, 0, none⟩) 0 0) ([] : List α) :=
  World.ownsRow_lit w #[] 0 hb (by unfold maxLen; omega) (by simp)
theorem OwnR.at {base : Nat} {w : World} {g cap N : Nat} {L : List α} (hf : ∀ q, (f q).length = n) (h : OwnR E n f base w (.slice (some ⟨g, 0, none⟩) N cap) L) (hN : N = L.length) : AtR f n w g 0 L := fun i q hi j u hj => by
  subst hN
  have hlt : i < L.length := (List.getElem?_eq_some_iff.1 hi).1
  have hjn : j < n := by have := (List.getElem?_eq_some_iff.1 hj).1; rwa [hf] at this
  have hle : i * n + j < L.length * n := by
    have h1 : (i + 1) * n ≤ L.length * n := Nat.mul_le_mul_right n hlt
    rw [Nat.succ_mul] at h1
    omega
  rw [Nat.zero_add]
  exact (World.ownsRow.cellAt h (i * n + j) hle).trans (flatR_at hf L i q hi j u hj)
theorem run_append_nothing {P : Program} (w : World) (t ty e : TypeId) (i : TypeInfo) (ht : P.underlying t = some (.slice e)) (hi : P.info? e = some i) (B : Nat) (A : Option Addr) (c : Nat) :
    (Builtin.append_ #[t, t] ty #[.slice (some ⟨B, 0, none⟩) 0 0, .slice A 0 c]).run P w = .ok (.slice (some ⟨B, 0, none⟩) 0 0) w := by
  cases A <;> simp [Builtin.append_, run_underlying ht, sizeOf, typeInfo, hi, Builtin.lenOf, Builtin.firstCells, loadCells, loadCellsFrom, storeCells]
theorem step_append_nothing {P : Program} {w : World} {ops : Array Oper} {o : Oper} {a : Act} {K : Act → World → Prop} {Q : Exit → Act → World → Prop} {E : Prop} (hgd : o.guard = none) (s x : Operand) (t : TypeId)
    (ho : o.op = .call { callee := .builtin .append, args := #[s, x], argTypes := #[t, t] }) (e : TypeId) (i : TypeInfo) (ht : P.underlying t = some (.slice e)) (hi : P.info? e = some i) (B : Nat) (A : Option Addr) (c : Nat)
    (hs : a.eval s = .slice (some ⟨B, 0, none⟩) 0 0) (hx : a.eval x = .slice A 0 c) (h : K (a.put o.dst (.slice (some ⟨B, 0, none⟩) 0 0)) w) :
    if Region.wanted o (yielded ops a.tmps) = true then Oper.wp P o a w K Q else E := by
  have hw : Region.wanted o (yielded ops a.tmps) = true := by simp [Region.wanted, hgd]
  rw [if_pos hw]
  unfold Oper.wp execOp
  simp only [ho, Go.resolve, invoke, builtin, Sem.run_bind, Sem.run_pure, Result.andThen_ok, List.map_toArray, List.map_cons, List.map_nil, hs, hx, run_append_nothing w t o.type e i ht hi B A c]
  exact h
theorem wpList_append_nothing {P : Program} {w : World} {ops : Array Oper} {rest : List Oper} {o : Oper} {a : Act} {Q : Exit → Act → World → Prop} (hgd : o.guard = none) (s x : Operand) (t : TypeId)
    (ho : o.op = .call { callee := .builtin .append, args := #[s, x], argTypes := #[t, t] }) (e : TypeId) (i : TypeInfo) (ht : P.underlying t = some (.slice e)) (hi : P.info? e = some i) (B : Nat) (A : Option Addr) (c : Nat)
    (hs : a.eval s = .slice (some ⟨B, 0, none⟩) 0 0) (hx : a.eval x = .slice A 0 c) (h : wpList P ops Q rest (a.put o.dst (.slice (some ⟨B, 0, none⟩) 0 0)) w) : wpList P ops Q (o :: rest) a w := by
  refine wpList_plain hgd fun K' hK' => ?_
  unfold Oper.wp execOp
  simp only [ho, Go.resolve, invoke, builtin, Sem.run_bind, Sem.run_pure, Result.andThen_ok, List.map_toArray, List.map_cons, List.map_nil, hs, hx, run_append_nothing w t o.type e i ht hi B A c]
  exact hK' _ _ h
theorem step_append_rows {S : TypeId} {i0 : TypeInfo} {z : Value} {nb : Nat}
    {w : World} {ops : Array Oper} {o : Oper} {a : Act} {K : Act → World → Prop} {Q : Exit → Act → World → Prop} {E0 : Prop} (hg : o.guard = none) (s x : Operand) (ho : o.op = .call { callee := .builtin .append, args := #[s, x], argTypes := #[S, S] }) {base : Nat} {v : Value} {X : List α}
    (hs : a.eval s = v) (hown : OwnR E n f base w v X) {g2 o2 c2 : Nat} {L2 : List α} (hx : a.eval x = .slice (some ⟨g2, o2, none⟩) L2.length c2) (hL : AtR f n w g2 o2 L2) (h0 : 0 < L2.length) {N : Nat} (hN : X.length + L2.length = N) {Z : List α} (hZ : X ++ L2 = Z)
    (hu : Try.prog.underlying S = some (.slice E)) (hi0 : Try.prog.info? E = some i0) (hz0 : i0.zero = some z) (hz1 : i0.size = n) (hz2 : i0.bytes = nb) (hzc : z.cells.size = n) (hn0 : 0 < n) (hnb : nb ≤ 100)
    (hf : ∀ q, (f q).length = n) (h1c : ∀ q, ∀ u ∈ f q, u.oneCell' = true) (hlen : N ≤ 2000000) (hbase : base ≤ w.heap.size)
    (h : ∀ g cap w', OwnR E n f base w' (.slice (some ⟨g, 0, none⟩) N cap) Z → w.grownBy w' v.ownBlock → (v.ownBlock = some g ∨ g = w.heap.size) → g < w'.heap.size → K (a.put o.dst (.slice (some ⟨g, 0, none⟩) N cap)) w') :
    if Region.wanted o (yielded ops a.tmps) = true then Oper.wp Try.prog o a w K Q else E0 := by
  subst hN hZ
  have hroom : nb * (X.length + L2.length) ≤ 200000000 := by
    have : nb * (X.length + L2.length) ≤ 100 * 2000000 := Nat.mul_le_mul hnb hlen
    omega
  refine step_append_lies _ hg s x S ho base E i0 z n nb hu hi0 hz0 hz1 hz2 hzc hn0 v X.length (X.flatMap f) hs hown ⟨g2, o2, none⟩ L2.length c2 (L2.flatMap f) hx (flatR_len hf L2) ?_ ?_ h0 (by unfold maxLen; omega) ?_ hbase w.heap.size rfl fun g cap w' hown' hg' hat hlt => h g cap w' ?_ hg' hat hlt
  · intro j u hj
    obtain ⟨i, q, k, hi, hk, e⟩ := flatR_split hf hn0 hj
    have := hL i q hi k u hk
    rw [Go.WideShapes.add_plain, e, ← Nat.add_assoc]; exact this
  · intro u hu'
    obtain ⟨q, _, hq⟩ := List.mem_flatMap.1 hu'
    exact h1c q u hq
  · have e : nb * (X.length + L2.length) = (X.length + L2.length) * nb := Nat.mul_comm _ _
    omega
  · unfold OwnR
    rw [List.length_append, List.flatMap_append]
    exact hown'
theorem own_empty0 {w : World} {base B : Nat} (hb : base ≤ B) (h : w.heap[B]? = some (.cells #[] E (0, 0))) : OwnR E n f base w (.slice (some ⟨B, 0, none⟩) 0 0) ([] : List α) :=
  ⟨by simp, .inr ⟨B, 0, #[], rfl, hb, h, Nat.le_refl _, Nat.zero_le _, by simp, by simp⟩⟩
end
end Go.Proofs.Ytbppkflgokfjhaa
namespace Go.Proofs.Ytbppkflgokfjhaa
open Go.RowKit
theorem RowI.at {w : World} {P : Nat → Prop} {A : Option Addr} {l : List Int} (h : RowI w P A l) {i : Nat} (hi : i < l.length) : ∃ g o, A = some ⟨g, o, none⟩ ∧ P g ∧ g < w.heap.size ∧ ∀ (i : Nat) (x : Int), l[i]? = some x → w.cell? ⟨g, o + i, none⟩ = some (.int .i64 x) := by
  rcases h with rfl | h
  · simp at hi
  · exact h
end Go.Proofs.Ytbppkflgokfjhaa
namespace Go.Proofs.Ytbppkflgokfjhaa
open Go.RowKit
structure LkM where
  at_ : Int
  rd : List Int
  RA : Option Addr
  rc : Nat
deriving Inhabited
def LkM.k (q : LkM) : Lk := ⟨q.at_, q.rd⟩
def lkS (l : List LkM) : List Lk := l.map LkM.k
def RowL (w : World) (P : Nat → Prop) (A : Option Addr) (l : List LkM) : Prop := l = [] ∨ ∃ g o, A = some ⟨g, o, none⟩ ∧ P g ∧ g < w.heap.size ∧
  ∀ (i : Nat) (q : LkM), l[i]? = some q → (w.cell? ⟨g, o + i * 2, none⟩ = some (.int .i64 q.at_) ∧ w.cell? ⟨g, o + i * 2 + 1, none⟩ = some (.slice q.RA q.rd.length q.rc)) ∧ RowI w P q.RA q.rd
section
variable {w w' : World} {P Q : Nat → Prop} {A : Option Addr} {l : List LkM}
theorem RowL.kept (h : RowL w P A l) (hk : Kept w w' P) : RowL w' P A l := by
  rcases h with h | ⟨g, o, rfl, hp, hl, hc⟩
  · exact .inl h
  · refine .inr ⟨g, o, rfl, hp, Nat.lt_of_lt_of_le hl hk.size, fun i q hi => ?_⟩
    obtain ⟨⟨c0, c1⟩, hr⟩ := hc i q hi
    exact ⟨⟨hk.cell hp c0, hk.cell hp c1⟩, hr.kept hk⟩
theorem RowL.mono (h : RowL w P A l) (hpq : ∀ g, P g → g < w.heap.size → Q g) : RowL w Q A l := by
  rcases h with h | ⟨g, o, rfl, hp, hl, hc⟩
  · exact .inl h
  · refine .inr ⟨g, o, rfl, hpq g hp hl, hl, fun i q hi => ?_⟩
    obtain ⟨h3, hr⟩ := hc i q hi
    exact ⟨h3, hr.mono hpq⟩
theorem RowL.below (h : RowL w P A l) (hb : Below w.heap.size w w') : RowL w' P A l := h.kept (Kept.of_below hb)
theorem RowL.at (h : RowL w P A l) {i : Nat} (hi : i < l.length) : ∃ g o, A = some ⟨g, o, none⟩ ∧ P g ∧ g < w.heap.size ∧
    ∀ (i : Nat) (q : LkM), l[i]? = some q → (w.cell? ⟨g, o + i * 2, none⟩ = some (.int .i64 q.at_) ∧ w.cell? ⟨g, o + i * 2 + 1, none⟩ = some (.slice q.RA q.rd.length q.rc)) ∧ RowI w P q.RA q.rd := by
  rcases h with rfl | h
  · simp at hi
  · exact h
end
theorem allM_next {p : LkM → Prop} {l : List LkM} {i : Nat} {q : LkM} (hq : l[i]? = some q) (h : ∀ x ∈ l.take i, p x) (hp : p q) : ∀ x ∈ l.take (i + 1), p x := fun x hx => by
  rw [List.take_add_one, hq] at hx
  rcases List.mem_append.1 hx with e | e
  · exact h x e
  · obtain rfl : x = q := by simpa using e
    exact hp
theorem frozen_ofG {w : World} {X : Nat} {cs : Array Value} {T : TypeId} (h : w.heap[X]? = some (.cells cs T (0, 0))) (j : Nat) : w.frozen? ⟨X, j, none⟩ = false := by simp [World.frozen?, h]
end Go.Proofs.Ytbppkflgokfjhaa
namespace Go.Proofs.Ytbppkflgokfjhaa
open Go.RowKit
def idxI (l : List Int) (n : Int) : Int := if n ∈ l then (l.idxOf n : Int) else -1
theorem idx_ne {a n : Int} {l : List Int} (h : a ≠ n) : (a :: l).idxOf n = l.idxOf n + 1 := by
  rw [List.idxOf_cons, beq_eq_false_iff_ne.2 h]; rfl
theorem idx_at : ∀ {l : List Int} {i : Nat} {n : Int}, l[i]? = some n → n ∉ l.take i → l.idxOf n = i
  | [], i, n, h, _ => by simp at h
  | a :: l, 0, n, h, _ => by
    obtain rfl : a = n := by simpa using h
    exact List.idxOf_cons_self
  | a :: l, i + 1, n, h, hn => by
    rw [List.take_succ_cons] at hn
    have h1 : a ≠ n := fun e => hn (e ▸ List.mem_cons_self)
    rw [idx_ne h1, idx_at (by simpa using h) (fun q => hn (List.mem_cons_of_mem _ q))]
theorem idxI_yes {l : List Int} {n : Int} (h : n ∈ l) : idxI l n = (l.idxOf n : Int) := if_pos h
theorem idxI_no {l : List Int} {n : Int} (h : n ∉ l) : idxI l n = -1 := if_neg h
theorem idxI_at {l : List Int} {i : Nat} {n : Int} (h : l[i]? = some n) (hn : n ∉ l.take i) : idxI l n = (i : Int) := by
  rw [idxI_yes (List.mem_of_getElem? h), idx_at h hn]
theorem idxI_neg {l : List Int} {n : Int} : decide (idxI l n < 0) = !decide (n ∈ l) := by
  by_cases h : n ∈ l
  · rw [idxI_yes h, decide_eq_true h]; simp
  · rw [idxI_no h, decide_eq_false h]; rfl
theorem idxI_pos {l : List Int} {n : Int} : decide (0 ≤ idxI l n) = decide (n ∈ l) := by
  by_cases h : n ∈ l
  · rw [idxI_yes h, decide_eq_true h]; simp
  · rw [idxI_no h, decide_eq_false h]; rfl
theorem idx_take : ∀ {l : List Int} {i : Nat} {n : Int}, n ∈ l.take i → l.idxOf n < i
  | [], i, n, h => by simp at h
  | a :: l, 0, n, h => by simp at h
  | a :: l, i + 1, n, h => by
    rw [List.take_succ_cons] at h
    by_cases e : a = n
    · subst e
      rw [List.idxOf_cons_self]; omega
    · rw [idx_ne e]
      have : n ∈ l.take i := by
        rcases List.mem_cons.1 h with q | q
        · exact absurd q.symm e
        · exact q
      have := idx_take this
      omega
set_option maxHeartbeats 4000000 in
set_option maxRecDepth 10000 in
theorem ghasI_any (l : List Int) (A : Option Addr) (ca : Nat) (w : World) {P : Nat → Prop} (hl : RowI w P A l) (hll : l.length ≤ 1000000) (n : Int) :
    Calls Try.prog 19 #[.slice A l.length ca, .int .i64 n] w fun e w' => e = .returned (.int .i64 (idxI l n)) ∧ w' = w := by
  have HL := Lib.hid hl
  clear hl
  go_enter Try.func19, Try.ntmps19
  go_wp2_with fail
  go_loopw [5] (fun vi wr => ∃ i : Nat, i ≤ l.length ∧ vi = .int .i64 (i : Int) ∧ Hid (n ∉ l.take i) ∧ wr = w) (fun vi _ => l.length - (RowKit.intOf vi).toNat)
  case atStart => exact ⟨0, Nat.zero_le _, rfl, Lib.hid (by simp), rfl⟩
  case round =>
    obtain ⟨i, hi, rfl, HT, hw⟩ := hrel
    have hw' := hw.symm
    subst hw'
    clear hw
    by_cases hlt : i < l.length
    · obtain ⟨x, hx⟩ : ∃ x, l[i]? = some x := ⟨_, List.getElem?_eq_getElem hlt⟩
      obtain ⟨g, o, rfl, _, _, hat⟩ := HL.out.at hlt
      have q0 := hat i x hx
      have hI : (i : Int) < (l.length : Int) := by omega
      have hJ : (0 : Int) ≤ (i : Int) := by omega
      have HX := Lib.hid hx
      clear hat hx
      by_cases e : x = n
      · subst e
        have HE : Hid (idxI l x = (i : Int)) := Lib.hid (idxI_at HX.out HT.out)
        go_wp2_with fail
        go_ret
        exact ⟨by rw [HE.out]; rfl, rfl⟩
      · have d0 : (x == n) = false := by simpa using e
        have HT2 : Hid (n ∉ l.take (i + 1)) := Lib.hid (by
          rw [List.take_add_one, HX.out]
          intro h
          rcases List.mem_append.1 h with q | q
          · exact HT.out q
          · exact e (List.mem_singleton.1 q).symm)
        clear e
        go_wp2_with fail
        go_roundw
        case rel => exact ⟨i + 1, by omega, by go_num, HT2, by first | rfl | trivial⟩
        case measure => simp [RowKit.intOf]; omega
    · have hii : i = l.length := by omega
      subst hii
      have ht := HT.out
      rw [List.take_length] at ht
      have HE := Lib.hid (idxI_no ht)
      clear ht
      go_wp2_with fail
      go_ret
      exact ⟨by rw [HE.out]; rfl, rfl⟩
def FitsG (l : List LkM) (w : World) (e : Ending) (w' : World) : Prop := ∃ b, e = .returned (.bool b) ∧ (b = true → l.length ≤ 60 ∧ ∀ q ∈ l, q.rd.length ≤ 60) ∧ w' = w
theorem FitsG.no {l : List LkM} {w : World} {e : Ending} (h : e = .returned (.bool false)) : FitsG l w e w := ⟨false, h, fun e => (by cases e), rfl⟩
theorem FitsG.yes {l : List LkM} {w : World} {e : Ending} (h : e = .returned (.bool true)) (hf : l.length ≤ 60 ∧ ∀ q ∈ l, q.rd.length ≤ 60) : FitsG l w e w := ⟨true, h, fun _ => hf, rfl⟩
set_option maxHeartbeats 8000000 in
set_option maxRecDepth 10000 in
theorem gfits_any (l : List LkM) (A : Option Addr) (ca : Nat) (w : World) {P : Nat → Prop} (hl : RowL w P A l) (hll : l.length ≤ maxLen) (hrl : ∀ q ∈ l, q.rd.length ≤ maxLen) :
    Calls Try.prog 5 #[.slice A l.length ca] w fun e w' => FitsG l w e w' := by
  have HL := Lib.hid hl
  have HM := Lib.hid hrl
  unfold maxLen at hll
  clear hl hrl
  by_cases hbig : 60 < l.length
  · have hd : decide ((60 : Int) < (l.length : Int)) = true := decide_eq_true (by omega)
    go_enter Try.func5, Try.ntmps5
    go_wp2_with fail
    go_ret
    exact FitsG.no rfl
  · have hd : decide ((60 : Int) < (l.length : Int)) = false := decide_eq_false (by omega)
    have hl2 : l.length ≤ 60 := by omega
    go_enter Try.func5, Try.ntmps5
    go_wp2_with fail
    go_loopw [3] (fun vi wr => ∃ i : Nat, i ≤ l.length ∧ vi = .int .i64 (i : Int) ∧ Hid (∀ q ∈ l.take i, q.rd.length ≤ 60) ∧ wr = w) (fun vi _ => l.length - (RowKit.intOf vi).toNat)
    case atStart => exact ⟨0, Nat.zero_le _, rfl, Lib.hid (by simp), rfl⟩
    case round =>
      obtain ⟨i, hi, rfl, HT, hw⟩ := hrel
      have hw' := hw.symm
      subst hw'
      clear hw
      by_cases hlt : i < l.length
      · obtain ⟨q, hq⟩ : ∃ q, l[i]? = some q := ⟨_, List.getElem?_eq_getElem hlt⟩
        obtain ⟨g, o, rfl, _, _, hat⟩ := HL.out.at hlt
        obtain ⟨⟨q0, q1⟩, _⟩ := hat i q hq
        have hI : (i : Int) < (l.length : Int) := by omega
        have hJ : (0 : Int) ≤ (i : Int) := by omega
        have hqm := HM.out q (List.mem_of_getElem? hq)
        unfold maxLen at hqm
        have HX := Lib.hid (fun h => allM_next (p := fun q => q.rd.length ≤ 60) hq HT.out h)
        obtain ⟨an, rd, RA, rc⟩ := q
        have hqm : rd.length ≤ _ := hqm
        clear hat hq
        by_cases h3 : (60 : Int) < (rd.length : Int)
        · go_wp2_with fail
          go_ret
          exact FitsG.no rfl
        · have HT2 := Lib.hid (HX.out (by show rd.length ≤ 60; omega))
          clear HX
          go_wp2_with fail
          go_roundw
          case rel => exact ⟨i + 1, by omega, by go_num, HT2, by first | rfl | trivial⟩
          case measure => simp [RowKit.intOf]; omega
      · have hii : i = l.length := by omega
        subst hii
        have ht := HT.out
        rw [List.take_length] at ht
        have HE := Lib.hid ht
        clear ht
        go_wp2_with fail
        go_ret
        exact FitsG.yes rfl ⟨hl2, HE.out⟩
def lkW (q : LkM) : List Value := [.int .i64 q.at_, .slice q.RA q.rd.length q.rc]
end Go.Proofs.Ytbppkflgokfjhaa
namespace Go.Proofs.Ytbppkflgokfjhaa
open Go.ChangeShapes Go.WideShapes Go.RowKit Go.Deep
theorem cellsIntG : Try.prog.cellsOf 3 = 1 := by kernel_rfl
theorem cellsIntsG : Try.prog.cellsOf 23 = 1 := by kernel_rfl
theorem cellsLkG : Try.prog.cellsOf 41 = 2 := by kernel_rfl
section
variable {H : Type} {enc : TypeId × Value → H} {w : World} {base : Nat} {spare : Nat → Bool} {held : Bool}
set_option maxRecDepth 100000 in
theorem open_links {r : Reach} {b0 : Nat} {v : Value} {d : DataW H} {p : List MemPlace} (hv : Value.okWide Try.prog w r b0 22 v) (h : DataW.Trod enc Try.prog w base spare held 22 v d p) :
    ∃ (l : List LkM) (A : Option Addr) (cap : Nat), v = .slice A l.length cap ∧ l.length ≤ maxLen ∧ (∀ q ∈ l, q.rd.length ≤ maxLen) ∧ RowL w (fun _ => True) A l := by
  obtain ⟨l, A, cap, e, hl, ho, ha⟩ := open_rows lkW (fun q => q.rd.length ≤ maxLen ∧ RowI w (fun _ => True) q.RA q.rd) (fun _ => rfl) Try.underlying22 cellsLkG (by decide) (fun {fuel cs x} hl ht => by
    match cs, hl with
    | [c0, c1], _ =>
      obtain ⟨y0, y1, n, rfl, _, hy0, hy1⟩ := trod_struct2 Try.underlying41 ht
      simp only [cellsIntG, cellsIntsG] at hy0 hy1
      obtain ⟨a, e1, _, _⟩ := DataW.trod_int Try.underlying3 hy0
      obtain ⟨L, A1, k1, e2, r1, _, r3⟩ := trod_ints hy1
      simp at e1 e2
      subst e1 e2
      exact ⟨⟨a, L, A1, k1⟩, by simp [lkW], r1, r3⟩) hv h
  refine ⟨l, A, cap, e, hl, fun q hq => (ho q hq).1, ?_⟩
  cases l with
  | nil => exact .inl rfl
  | cons a l =>
    obtain ⟨g, o, rfl, hat⟩ := ha (by simp)
    refine .inr ⟨g, o, rfl, trivial, Lib.lt_of_cell (hat 0 a rfl 0 _ rfl), fun i q hi => ?_⟩
    exact ⟨⟨hat i q hi 0 _ rfl, hat i q hi 1 _ rfl⟩, (ho q (List.mem_of_getElem? hi)).2⟩
set_option maxRecDepth 100000 in
theorem open_ints {r : Reach} {b0 : Nat} {v : Value} {d : DataW H} {p : List MemPlace} (hv : Value.okWide Try.prog w r b0 23 v) (h : DataW.Trod enc Try.prog w base spare held 23 v d p) :
    ∃ (l : List Int) (A : Option Addr) (cap : Nat), v = .slice A l.length cap ∧ l.length ≤ maxLen ∧ B64s l ∧ RowI w (fun _ => True) A l := by
  obtain ⟨l, A, cap, e, hl, ho, ha⟩ := open_rows inW (fun x => -9223372036854775808 ≤ x ∧ x ≤ 9223372036854775807) (fun _ => rfl) Try.underlying23 cellsIntG (by decide) (fun {fuel cs x} hl ht => by
    match cs, hl with
    | [c0], _ =>
      obtain ⟨a, h0, _, wa⟩ := DataW.trod_int Try.underlying3 ht
      simp at h0
      subst h0
      have e1 : IntKind.i64.min = -9223372036854775808 := rfl
      have e2 : IntKind.i64.max = 9223372036854775807 := rfl
      simp [Lit.wf, e1, e2] at wa
      exact ⟨a, rfl, wa⟩) hv h
  exact ⟨l, A, cap, e, hl, ho, rowI_of ha⟩
set_option maxRecDepth 100000 in
theorem open_u16G {r : Reach} {b0 : Nat} {v : Value} {d : DataW H} {p : List MemPlace} (hv : Value.okWide Try.prog w r b0 39 v) (h : DataW.Trod enc Try.prog w base spare held 39 v d p) : ∃ n : Int, (0 ≤ n ∧ n ≤ 65535) ∧ v = .int .u16 n := by
  obtain ⟨a, e, _, _, wa⟩ := open_int Try.underlying39 hv h
  have e1 : IntKind.u16.min = 0 := rfl
  have e2 : IntKind.u16.max = 65535 := rfl
  simp [Lit.wf, e1, e2] at wa
  exact ⟨a, wa, e⟩
end
end Go.Proofs.Ytbppkflgokfjhaa
namespace Go.Proofs.Ytbppkflgokfjhaa
def Ed (L : List Lk) (n y : Int) : Prop := ∃ x ∈ L, x.at_ = n ∧ y ∈ x.rd
theorem hng_ed {L : List Lk} {on : List Int} {n : Int} : Hng L on n ↔ ∃ r, Ed L n r ∧ (r ∈ on ∨ Hng L on r) := by
  rw [hng_iff]
  constructor
  · rintro ⟨x, hx, e, r, hr, h⟩
    exact ⟨r, ⟨x, hx, e, hr⟩, h⟩
  · rintro ⟨r, ⟨x, hx, e, hr⟩, h⟩
    exact ⟨x, hx, e, r, hr, h⟩
theorem Ed.now {L : List Lk} {on : List Int} {n y : Int} (h : Ed L n y) (hy : y ∈ on) : Hng L on n := hng_ed.2 ⟨y, h, .inl hy⟩
theorem Ed.one {L : List Lk} {n y : Int} (h : Ed L n y) : Hng L [y] n := h.now (List.mem_singleton.2 rfl)
theorem Ed.more {L : List Lk} {on : List Int} {n y : Int} (h : Ed L n y) (hy : Hng L on y) : Hng L on n := hng_ed.2 ⟨y, h, .inr hy⟩
theorem Ed.node {L : List Lk} {n y : Int} (h : Ed L n y) : isN L n := by
  obtain ⟨x, hx, e, _⟩ := h
  exact ⟨x, hx, e⟩
theorem hng_ind {L : List Lk} {on : List Int} {P : Int → Prop} (h0 : ∀ x r, Ed L x r → r ∈ on → P x) (h1 : ∀ x r, Ed L x r → Hng L on r → P r → P x) {n : Int} (h : Hng L on n) : P n := by
  induction h with
  | now x hx r hr ho => exact h0 _ r ⟨x, hx, rfl, hr⟩ ho
  | more x hx r hr h ih => exact h1 _ r ⟨x, hx, rfl, hr⟩ h ih
def unm (L : List Lk) (M : Int → Bool) : List Lk := L.filter fun x => !M x.at_
theorem unm_mem {L : List Lk} {M : Int → Bool} {x : Lk} : x ∈ unm L M ↔ x ∈ L ∧ M x.at_ = false := by
  unfold unm
  rw [List.mem_filter]
  cases M x.at_ <;> simp
theorem unm_none (L : List Lk) : unm L (fun _ => false) = L := by
  unfold unm
  simp
theorem unm_len (L : List Lk) (M : Int → Bool) : (unm L M).length ≤ L.length := List.length_filter_le _ _
theorem ed_unm {L : List Lk} {M : Int → Bool} {n y : Int} : Ed (unm L M) n y ↔ Ed L n y ∧ M n = false := by
  constructor
  · rintro ⟨x, hx, rfl, hy⟩
    obtain ⟨h1, h2⟩ := unm_mem.1 hx
    exact ⟨⟨x, h1, rfl, hy⟩, h2⟩
  · rintro ⟨⟨x, hx, rfl, hy⟩, h⟩
    exact ⟨x, unm_mem.2 ⟨hx, h⟩, rfl, hy⟩
theorem isN_unm {L : List Lk} {M : Int → Bool} {n : Int} (h : isN (unm L M) n) : isN L n ∧ M n = false := by
  obtain ⟨x, hx, rfl⟩ := h
  obtain ⟨h1, h2⟩ := unm_mem.1 hx
  exact ⟨⟨x, h1, rfl⟩, h2⟩
structure HgI (L : List Lk) (M : Int → Bool) (on found : List Int) (M' : Int → Bool) : Prop where
  nd : found.Nodup
  hng : ∀ n ∈ found, Hng (unm L M) on n
  mark : ∀ n, M' n = (M n || decide (n ∈ found))
theorem HgI.start (L : List Lk) (M : Int → Bool) (on : List Int) : HgI L M on [] M := ⟨List.nodup_nil, fun n h => (by cases h), fun n => by simp⟩
theorem HgI.len {L : List Lk} {M M' : Int → Bool} {on found : List Int} (h : HgI L M on found M') : found.length ≤ L.length := Nat.le_trans (found_len (L := unm L M) h.nd fun n hn => hng_node (h.hng n hn)) (unm_len L M)
theorem HgI.un {L : List Lk} {M M' : Int → Bool} {on found : List Int} (h : HgI L M on found M') {n : Int} (hn : n ∈ found) : isN L n ∧ M n = false := isN_unm (hng_node (h.hng n hn))
def updB (M : Int → Bool) (n : Int) : Int → Bool := fun y => if y = n then true else M y
theorem HgI.step {L : List Lk} {M M' : Int → Bool} {on found : List Int} (h : HgI L M on found M') {r y : Int} (hr : Ed L r y) (hy : y ∈ on ++ found) (hm : M' r = false) : HgI L M on (found ++ [r]) (updB M' r) := by
  have h1 := h.mark r
  rw [hm] at h1
  obtain ⟨e1, e2⟩ := Bool.or_eq_false_iff.1 h1.symm
  refine ⟨List.nodup_append.2 ⟨h.nd, by simp, fun a ha b hb e => ?_⟩, fun n hn => ?_, fun n => ?_⟩
  · obtain rfl : b = r := by simpa using hb
    subst e
    exact absurd ha (by simpa using e2)
  · rcases List.mem_append.1 hn with q | q
    · exact h.hng n q
    · obtain rfl : n = r := by simpa using q
      have he : Ed (unm L M) n y := ed_unm.2 ⟨hr, e1⟩
      rcases List.mem_append.1 hy with c | c
      · exact he.now c
      · exact he.more (h.hng y c)
  · unfold updB
    by_cases e : n = r
    · subst e
      simp
    · rw [if_neg e, h.mark n]
      simp [e]
theorem HgI.done {L : List Lk} {M M' : Int → Bool} {on found : List Int} (h : HgI L M on found M') (hc : ∀ y ∈ on ++ found, ∀ r, Ed L r y → M' r = true) (n : Int) : n ∈ found ↔ Hng (unm L M) on n := by
  refine hang_done h.hng (fun x hx hr => ?_) n
  obtain ⟨r, hr, hor⟩ := hr
  obtain ⟨h1, h2⟩ := unm_mem.1 hx
  have := hc r (by rcases hor with q | q; exact List.mem_append.2 (.inl q); exact List.mem_append.2 (.inr q)) x.at_ ⟨x, h1, rfl, hr⟩
  rw [h.mark, h2, Bool.false_or] at this
  simpa using this
/- an order of numbers -/
def LdT (L : List Lk) (x z : Int) : Prop := x = z ∨ Hng L [z] x
theorem LdT.trans {L : List Lk} {x y z : Int} (h : LdT L x y) (h2 : LdT L y z) : LdT L x z := by
  rcases h with rfl | h
  · exact h2
  · rcases h2 with rfl | h2
    · exact .inr h
    · exact .inr (hng_trans h h2)
theorem LdT.hng {L : List Lk} {x y z : Int} (h : LdT L x y) (h2 : Hng L [z] y) : Hng L [z] x := by
  rcases h with rfl | h
  · exact h2
  · exact hng_trans h h2
theorem hng_ldt {L : List Lk} {x y z : Int} (h : Hng L [y] x) (h2 : LdT L y z) : Hng L [z] x := by
  rcases h2 with rfl | h2
  · exact h
  · exact hng_trans h h2
def FinL (L : List Lk) (l : List Int) : Prop := ∀ p x q, l = p ++ x :: q → ∀ y, Ed L x y → LdT L y x ∨ ∀ z, LdT L y z → z ∈ p
def Sc (L : List Lk) (x m : Int) : Prop := Hng L [m] x ∧ Hng L [x] m
theorem Sc.trans {L : List Lk} {x y z : Int} (h : Sc L x y) (h2 : Sc L y z) : Sc L x z := ⟨hng_trans h.1 h2.1, hng_trans h2.2 h.2⟩
theorem Sc.symm {L : List Lk} {x y : Int} (h : Sc L x y) : Sc L y x := ⟨h.2, h.1⟩
def MetK (L : List Lk) (l2 : List Int) (M : Int → Bool) : Prop := ∀ x, M x = true ↔ x ∈ l2 ∨ ∃ m ∈ l2, Sc L x m
theorem kos_step {L : List Lk} {l l1 l2 : List Int} {n : Int} {M : Int → Bool} (hF : FinL L l) (hall : ∀ x, isN L x → x ∈ l) (hd : l.Nodup) (hl : l = l1 ++ n :: l2) (hM : MetK L l2 M) (x : Int) : Hng (unm L M) [n] x ↔ M x = false ∧ Sc L x n := by
  have hno : ∀ v, M v = false → v ∉ l2 := fun v hv hm => by
    have := (hM v).2 (.inl hm)
    rw [hv] at this
    cases this
  constructor
  · intro h
    have key : ∀ x y, Ed L x y → M x = false → LdT L y n → (y = n ∨ Sc L y n) → Sc L x n := fun x y he hx hy hs => by
      have hyn : LdT L n y := by
        rcases hs with rfl | hs
        · exact .inl rfl
        · exact .inr hs.2
      have h1 : Hng L [n] x := hng_ldt he.one hy
      refine ⟨h1, ?_⟩
      have hxl := hall x he.node
      rw [hl] at hxl
      have hx2 := hno x hx
      rcases List.mem_append.1 hxl with q | q
      · obtain ⟨p, r, hp⟩ := List.append_of_mem q
        rcases hF p x (r ++ n :: l2) (by rw [hl, hp]; simp) y he with c | c
        · rcases hyn.trans c with rfl | c2
          · exact h1
          · exact c2
        · have hn := c n hy
          rw [hl, hp] at hd
          rw [List.append_assoc] at hd
          exact absurd rfl ((List.nodup_append.1 hd).2.2 n hn n (by simp))
      · rcases List.mem_cons.1 q with rfl | q
        · exact h1
        · exact absurd q hx2
    refine hng_ind (P := fun x => M x = false ∧ Sc L x n) (fun x r he hr => ?_) (fun x r he _ ih => ?_) h
    · obtain ⟨h1, h2⟩ := ed_unm.1 he
      obtain rfl : r = n := by simpa using hr
      exact ⟨h2, key x r h1 h2 (.inl rfl) (.inl rfl)⟩
    · obtain ⟨h1, h2⟩ := ed_unm.1 he
      exact ⟨h2, key x r h1 h2 (.inr ih.2.1) (.inr ih.2)⟩
  · rintro ⟨h1, h2, h3⟩
    refine hng_ind (P := fun v => Hng L [v] n → M v = false → Hng (unm L M) [n] v) (fun v r he hr _ hv => ?_) (fun v r he hr ih hv2 hv => ?_) h2 h3 h1
    · exact (ed_unm.2 ⟨he, hv⟩).now hr
    · have hrn : Hng L [r] n := hng_trans hv2 he.one
      refine (ed_unm.2 ⟨he, hv⟩).more (ih hrn ?_)
      cases e : M r with
      | false => rfl
      | true =>
        have hvr : Sc L v r := ⟨he.one, hng_trans hr hv2⟩
        have : M v = true := (hM v).2 (by
          rcases (hM r).1 e with q | ⟨m, hm, q⟩
          · exact .inr ⟨r, q, hvr⟩
          · exact .inr ⟨m, hm, hvr.trans q⟩)
        rw [hv] at this
        cases this
structure Kos (L : List Lk) (l2 C : List Int) (M : Int → Bool) : Prop where
  met : MetK L l2 M
  nd : C.Nodup
  mem : ∀ x, x ∈ C ↔ ∃ m ∈ l2, Sc L x m
theorem Kos.start (L : List Lk) : Kos L [] [] (fun _ => false) := ⟨fun x => by simp, List.nodup_nil, fun x => by simp⟩
theorem Kos.step {L : List Lk} {l l1 l2 C found : List Int} {n : Int} {M M' : Int → Bool} (h : Kos L l2 C M) (hF : FinL L l) (hall : ∀ x, isN L x → x ∈ l) (hd : l.Nodup) (hl : l = l1 ++ n :: l2) (hI : HgI L M [n] found M') (hf : ∀ x, x ∈ found ↔ Hng (unm L M) [n] x) : Kos L (n :: l2) (C ++ found) (updB M' n) := by
  have hk := kos_step hF hall hd hl h.met
  have hfd : ∀ x, x ∈ found ↔ M x = false ∧ Sc L x n := fun x => (hf x).trans (hk x)
  have hC : ∀ x, x ∈ C → M x = true := fun x hx => (h.met x).2 (.inr ((h.mem x).1 hx))
  refine ⟨fun x => ?_, List.nodup_append.2 ⟨h.nd, hI.nd, fun a ha b hb e => ?_⟩, fun x => ?_⟩
  · unfold updB
    by_cases e : x = n
    · rw [if_pos e]
      exact ⟨fun _ => .inl (by rw [e]; exact List.mem_cons_self), fun _ => rfl⟩
    · rw [if_neg e, hI.mark, Bool.or_eq_true, decide_eq_true_iff, h.met x, hfd x]
      constructor
      · rintro ((q | ⟨m, hm, q⟩) | q)
        · exact .inl (List.mem_cons_of_mem _ q)
        · exact .inr ⟨m, List.mem_cons_of_mem _ hm, q⟩
        · exact .inr ⟨n, List.mem_cons_self, q.2⟩
      · rintro (q | ⟨m, hm, q⟩)
        · rcases List.mem_cons.1 q with q | q
          · exact absurd q e
          · exact .inl (.inl q)
        · rcases List.mem_cons.1 hm with rfl | hm
          · cases hx : M x with
            | false => exact .inr ⟨rfl, q⟩
            | true => exact .inl ((h.met x).1 hx)
          · exact .inl (.inr ⟨m, hm, q⟩)
  · subst e
    have h1 := hC a ha
    rw [((hfd a).1 hb).1] at h1
    cases h1
  · rw [List.mem_append, h.mem x, hfd x]
    constructor
    · rintro (⟨m, hm, q⟩ | q)
      · exact ⟨m, List.mem_cons_of_mem _ hm, q⟩
      · exact ⟨n, List.mem_cons_self, q.2⟩
    · rintro ⟨m, hm, q⟩
      rcases List.mem_cons.1 hm with rfl | hm
      · cases hx : M x with
        | false => exact .inr ⟨rfl, q⟩
        | true =>
          rcases (h.met x).1 hx with c | c
          · exact .inl ⟨x, c, q.trans q.symm⟩
          · exact .inl c
      · exact .inl ⟨m, hm, q⟩
theorem Kos.all {L : List Lk} {l C : List Int} {M : Int → Bool} (h : Kos L l C M) (hall : ∀ x, isN L x → x ∈ l) (x : Int) : x ∈ C ↔ cycN L x := by
  rw [h.mem x]
  constructor
  · rintro ⟨m, _, q⟩
    exact hng_trans q.1 q.2
  · intro q
    exact ⟨x, hall x (hng_node q), q, q⟩
end Go.Proofs.Ytbppkflgokfjhaa
namespace Go.Proofs.Ytbppkflgokfjhaa
open Go.RowKit
theorem inW_one : ∀ q : Int, ∀ u ∈ inW q, u.oneCell' = true := by
  intro q u hu
  simp only [inW, List.mem_cons, List.not_mem_nil, or_false] at hu
  subst hu; rfl
end Go.Proofs.Ytbppkflgokfjhaa
namespace Go.Proofs.Ytbppkflgokfjhaa
open Go.RowKit
theorem gint_info : (Try.prog.info? 3).map (fun i => (i.zero, i.size, i.bytes)) = some (some (.int .i64 0), 1, 8) := by kernel_rfl
def GRow (w : World) (L : List Int) (e : Ending) (w' : World) : Prop := ∃ O co, e = .returned (.slice O L.length co) ∧ L.length ≤ co ∧ RowI w' (fun g => w.heap.size ≤ g) O L ∧ Below w.heap.size w w'
theorem own_rowG {E : TypeId} {base : Nat} {w : World} {v : Value} {L : List Int} (h : OwnR E 1 inW base w v L) : ∃ (A : Option Addr) (cap : Nat), v = .slice A L.length cap ∧ L.length ≤ cap ∧ RowI w (fun g => base ≤ g) A L := by
  obtain ⟨O, co, e, hk, hc⟩ := OwnR.shape (f := inW) (n := 1) (fun _ => rfl) h
  refine ⟨O, co, e, hk, ?_⟩
  by_cases hne : L = []
  · exact .inl hne
  · obtain ⟨g, o, e', hat⟩ := hc hne
    have hob : v.ownBlock = some g := by rw [e, e']; rfl
    have hl := World.ownsRow.lt h g hob
    exact .inr ⟨g, o, e', hl.1, hl.2, fun j x hj => by have := hat j x hj 0 _ rfl; simpa using this⟩
end Go.Proofs.Ytbppkflgokfjhaa
