/- Texts joined: RwB, NdFk, GrC, GrJ, OpG. -/
import Derived.Test.YtbppkflgokfjhaaGj01
import Derived.Deep.AppendLies
import Derived.Maps.AppendAt
import Derived.Deep.RegionLawGrows
set_option linter.all false
namespace Go.Proofs.Ytbppkflgokfjhaa
open Go.RowKit
def OwnR {α : Type} (E : TypeId) (n : Nat) (f : α → List Value) (base : Nat) (w : World) (v : Value) (L : List α) : Prop := w.ownsRow base E n v L.length (L.flatMap f)
section
variable {α : Type} {E : TypeId} {n : Nat} {f : α → List Value}
theorem flatR_at (hf : ∀ q, (f q).length = n) : ∀ (l : List α) (i : Nat) (q : α), l[i]? = some q → ∀ (j : Nat) (u : Value), (f q)[j]? = some u → (l.flatMap f)[i * n + j]? = some u
  | [], i, q, h, _, _, _ => by simp at h
  | p :: t, 0, q, h, j, u, hj => by
    simp at h; subst h
    rw [List.flatMap_cons, Nat.zero_mul, Nat.zero_add, List.getElem?_append_left (by exact (List.getElem?_eq_some_iff.1 hj).1)]
    exact hj
  | p :: t, i + 1, q, h, j, u, hj => by
    have := flatR_at hf t i q (by simpa using h) j u hj
    have e : (i + 1) * n + j - n = i * n + j := by rw [Nat.succ_mul]; omega
    rw [List.flatMap_cons, List.getElem?_append_right (by rw [hf, Nat.succ_mul]; omega), hf, e]
    exact this
theorem OwnR.shape {base : Nat} {w : World} {v : Value} {L : List α} (hf : ∀ q, (f q).length = n) (h : OwnR E n f base w v L) : ∃ (A : Option Addr) (cap : Nat), v = .slice A L.length cap ∧ L.length ≤ cap ∧ (L ≠ [] → ∃ g o, A = some ⟨g, o, none⟩ ∧ AtR f n w g o L) := by
  have h' := h
  rcases h.2 with ⟨rfl, hl⟩ | ⟨g, cap, cur, rfl, _, hh, hc, _⟩
  · refine ⟨none, 0, by rw [hl], by rw [hl]; exact Nat.le_refl _, fun hne => ?_⟩
    exact absurd (List.length_eq_zero_iff.1 hl) hne
  · refine ⟨_, cap, rfl, hc, fun _ => ⟨g, 0, rfl, fun i q hi j u hj => ?_⟩⟩
    have hlt : i < L.length := (List.getElem?_eq_some_iff.1 hi).1
    have hjn : j < n := by have := (List.getElem?_eq_some_iff.1 hj).1; rwa [hf] at this
    have hle : i * n + j < L.length * n := by
      have h1 : (i + 1) * n ≤ L.length * n := Nat.mul_le_mul_right n hlt
      rw [Nat.succ_mul] at h1
      omega
    rw [Nat.zero_add]
    exact (World.ownsRow.cellAt h' (i * n + j) (by first | exact hle | omega)).trans (flatR_at hf L i q hi j u hj)
def Apart (v u : Value) : Prop := ∀ k, v.ownBlock = some k → u.ownBlock = some k → False
theorem Apart.symm {v u : Value} (h : Apart v u) : Apart u v := fun k hv hu => h k hu hv
theorem Apart.nil (u : Value) : Apart (.slice none 0 0) u := fun k hv _ => by cases hv
theorem OwnR.beside {base : Nat} {w w' : World} {v u : Value} {L : List α} (h : OwnR E n f base w u L) (hg : w.grownBy w' v.ownBlock) (ha : Apart v u) : OwnR E n f base w' u L := by
  refine World.ownsRow.kept h hg ?_
  cases hu : u.ownBlock with
  | none => exact .inl rfl
  | some k => exact .inr fun e => ha k e.symm hu
theorem OwnR.apart {base : Nat} {w : World} {v v' u : Value} {L : List α} (h : OwnR E n f base w u L) (ha : Apart v u) (hat : v'.ownBlock = v.ownBlock ∨ v'.ownBlock = some (w.heap.size + 1)) : Apart v' u := fun k hv hu => by
  rcases hat with e | e
  · exact ha k (e ▸ hv) hu
  · have h1 := (World.ownsRow.lt h k hu).2
    rw [e] at hv
    cases hv
    omega
theorem OwnR.below {base : Nat} {w w' : World} {v : Value} {L : List α} (h : OwnR E n f base w v L) (hb : Below w.heap.size w w') : OwnR E n f base w' v L := own_below h hb
theorem wpList_append_row {S : TypeId} {i0 : TypeInfo} {z : Value} {nb : Nat}
    (w : World) {ops : Array Oper} {rest : List Oper} {o : Oper} {a : Act} {Q : Exit → Act → World → Prop} (hg : o.guard = none) (s x : Operand) (ho : o.op = .call { callee := .builtin .append, args := #[s, x], argTypes := #[S, S] }) {base : Nat} {v : Value} {X : List α}
    (hs : a.eval s = v) {w0 : World} {q : α} (hw : w = w0.alloc (.cells (f q).toArray E)) (hown : OwnR E n f base w0 v X) (hx : a.eval x = .slice (some ⟨w0.heap.size, 0, none⟩) 1 1)
    (hu : Try.prog.underlying S = some (.slice E)) (hi0 : Try.prog.info? E = some i0) (hz0 : i0.zero = some z) (hz1 : i0.size = n) (hz2 : i0.bytes = nb) (hzc : z.cells.size = n) (hn0 : 0 < n) (hnb : nb ≤ 100)
    (hf : ∀ q, (f q).length = n) (h1c : ∀ q, ∀ u ∈ f q, u.oneCell' = true) (hlen : X.length ≤ 1000000) (hbase : base ≤ w0.heap.size)
    (h : ∀ v' w', OwnR E n f base w' v' (X ++ [q]) → w0.grownBy w' v.ownBlock → (v'.ownBlock = v.ownBlock ∨ v'.ownBlock = some (w0.heap.size + 1)) → wpList Try.prog ops Q rest (a.put o.dst v') w') : wpList Try.prog ops Q (o :: rest) a w := by
  subst hw
  have hb : (w0.alloc (.cells (f q).toArray E)).heap[w0.heap.size]? = some (.cells (f q).toArray E) := (MapKept.heap_alloc w0 _).1
  have hroom : nb * (X.length + 1) ≤ 200000000 := by
    have : nb * (X.length + 1) ≤ 100 * (1000000 + 1) := Nat.mul_le_mul hnb (by omega)
    omega
  refine wpList_append_own_at _ hg s x S ho base E i0 z n nb hu hi0 hz0 hz1 hz2 hzc hn0 v X.length (X.flatMap f) hs (World.ownsRow.alloc hown _) ⟨w0.heap.size, 0, none⟩ 1 1 (f q) hx (by rw [hf, Nat.one_mul]) ?_ (h1c q) (by unfold maxLen; omega) ?_ (by simp; omega) fun v' w' hown' hg' _ hat => h v' w' ?_ ?_ (by simpa using hat)
  · intro j u hj
    exact World.news_of_block (cs := (f q).toArray) (t := E) (fr := (0, 0)) hb j u (by simpa using hj)
  · first
    | omega
    | (have e : nb * (X.length + 1) = (X.length + 1) * nb := Nat.mul_comm _ _; omega)
  · unfold OwnR
    rw [List.length_append, List.flatMap_append]
    show w'.ownsRow base _ n v' (X.length + 1) (X.flatMap f ++ [q].flatMap f)
    rw [List.flatMap_singleton]
    exact hown'
  · exact ⟨hg'.os, hg'.tape, hg'.output, Nat.le_trans (by simp) hg'.size, fun k hk hn => (hg'.block k (by simp; omega) hn).trans (Below.heap_alloc w0 _ k hk)⟩
theorem step_append_row {S : TypeId} {i0 : TypeInfo} {z : Value} {nb : Nat}
    {w : World} {ops : Array Oper} {o : Oper} {a : Act} {K : Act → World → Prop} {Q : Exit → Act → World → Prop} {E0 : Prop} (hg : o.guard = none) (s x : Operand) (ho : o.op = .call { callee := .builtin .append, args := #[s, x], argTypes := #[S, S] }) {base : Nat} {v : Value} {X : List α}
    (hs : a.eval s = v) (B : Nat) {q : α} (hx : a.eval x = .slice (some ⟨B, 0, none⟩) 1 1) (hown : OwnR E n f base w v X) (hb : w.heap[B]? = some (.cells (f q).toArray E))
    (hu : Try.prog.underlying S = some (.slice E)) (hi0 : Try.prog.info? E = some i0) (hz0 : i0.zero = some z) (hz1 : i0.size = n) (hz2 : i0.bytes = nb) (hzc : z.cells.size = n) (hn0 : 0 < n) (hnb : nb ≤ 100)
    (hf : ∀ q, (f q).length = n) (h1c : ∀ q, ∀ u ∈ f q, u.oneCell' = true) (hlen : X.length ≤ 1000000) (hbase : base ≤ w.heap.size)
    (h : ∀ g cap w', OwnR E n f base w' (.slice (some ⟨g, 0, none⟩) (X.length + 1) cap) (X ++ [q]) → w.grownBy w' v.ownBlock → (v.ownBlock = some g ∨ g = w.heap.size) → K (a.put o.dst (.slice (some ⟨g, 0, none⟩) (X.length + 1) cap)) w') :
    if Region.wanted o (yielded ops a.tmps) = true then Oper.wp Try.prog o a w K Q else E0 := by
  have hroom : nb * (X.length + 1) ≤ 200000000 := by
    have : nb * (X.length + 1) ≤ 100 * (1000000 + 1) := Nat.mul_le_mul hnb (by omega)
    omega
  refine step_append_lies _ hg s x S ho base E i0 z n nb hu hi0 hz0 hz1 hz2 hzc hn0 v X.length (X.flatMap f) hs hown ⟨B, 0, none⟩ 1 1 (f q) hx (by rw [hf, Nat.one_mul]) ?_ (h1c q) (by omega) (by unfold maxLen; omega) ?_ hbase w.heap.size rfl fun g cap w' hown' hg' hat _ => h g cap w' ?_ hg' hat
  · intro j u hj
    exact World.news_of_block (cs := (f q).toArray) (t := E) (fr := (0, 0)) hb j u (by simpa using hj)
  · first
    | omega
    | (have e : nb * (X.length + 1) = (X.length + 1) * nb := Nat.mul_comm _ _; omega)
  · unfold OwnR
    rw [List.length_append, List.flatMap_append]
    show w'.ownsRow base _ n _ (X.length + 1) (X.flatMap f ++ [q].flatMap f)
    rw [List.flatMap_singleton]
    exact hown'
theorem flatR_len (hf : ∀ q, (f q).length = n) : ∀ l : List α, (l.flatMap f).length = l.length * n
  | [] => by simp
  | q :: l => by rw [List.flatMap_cons, List.length_append, flatR_len hf l, hf, List.length_cons, Nat.succ_mul]; omega
theorem flatR_split (hf : ∀ q, (f q).length = n) (hn0 : 0 < n) {l : List α} {j : Nat} {u : Value} (h : (l.flatMap f)[j]? = some u) : ∃ i q k, l[i]? = some q ∧ (f q)[k]? = some u ∧ j = i * n + k := by
  have hl := (List.getElem?_eq_some_iff.1 h).1
  rw [flatR_len hf] at hl
  have hi : j / n < l.length := Nat.div_lt_of_lt_mul (by rw [Nat.mul_comm]; exact hl)
  have hk : j % n < n := Nat.mod_lt _ hn0
  have hq := List.getElem?_eq_getElem hi
  have hu : (f l[j / n])[j % n]? = some ((f l[j / n])[j % n]'(by rw [hf]; exact hk)) := List.getElem?_eq_getElem _
  have e : j / n * n + j % n = j := Nat.div_add_mod' j n
  have := flatR_at hf l (j / n) _ hq (j % n) _ hu
  rw [e, h] at this
  exact ⟨j / n, _, j % n, hq, by rw [hu, this], e.symm⟩
theorem wpList_append_rows {S : TypeId} {i0 : TypeInfo} {z : Value} {nb : Nat}
    {w : World} {ops : Array Oper} {rest : List Oper} {o : Oper} {a : Act} {Q : Exit → Act → World → Prop} (hg : o.guard = none) (s x : Operand) (ho : o.op = .call { callee := .builtin .append, args := #[s, x], argTypes := #[S, S] }) {base : Nat} {v : Value} {X : List α}
    (hs : a.eval s = v) (hown : OwnR E n f base w v X) {g2 o2 c2 : Nat} {L2 : List α} (hx : a.eval x = .slice (some ⟨g2, o2, none⟩) L2.length c2) (hL : AtR f n w g2 o2 L2) (h0 : 0 < L2.length) {N : Nat} (hN : X.length + L2.length = N) {Z : List α} (hZ : X ++ L2 = Z)
    (hu : Try.prog.underlying S = some (.slice E)) (hi0 : Try.prog.info? E = some i0) (hz0 : i0.zero = some z) (hz1 : i0.size = n) (hz2 : i0.bytes = nb) (hzc : z.cells.size = n) (hn0 : 0 < n) (hnb : nb ≤ 100)
    (hf : ∀ q, (f q).length = n) (h1c : ∀ q, ∀ u ∈ f q, u.oneCell' = true) (hlen : N ≤ 2000000) (hbase : base ≤ w.heap.size)
    (h : ∀ g cap w', OwnR E n f base w' (.slice (some ⟨g, 0, none⟩) N cap) Z → w.grownBy w' v.ownBlock → (v.ownBlock = some g ∨ g = w.heap.size) → g < w'.heap.size → wpList Try.prog ops Q rest (a.put o.dst (.slice (some ⟨g, 0, none⟩) N cap)) w') : wpList Try.prog ops Q (o :: rest) a w := by
  subst hN hZ
  have hroom : nb * (X.length + L2.length) ≤ 200000000 := by
    have : nb * (X.length + L2.length) ≤ 100 * 2000000 := Nat.mul_le_mul hnb hlen
    omega
  refine wpList_append_lies _ hg s x S ho base E i0 z n nb hu hi0 hz0 hz1 hz2 hzc hn0 v X.length (X.flatMap f) hs hown ⟨g2, o2, none⟩ L2.length c2 (L2.flatMap f) hx (flatR_len hf L2) ?_ ?_ h0 (by unfold maxLen; omega) ?_ hbase w.heap.size rfl fun g cap w' hown' hg' hat hlt => h g cap w' ?_ hg' hat hlt
  · intro j u hj
    obtain ⟨i, q, k, hi, hk, e⟩ := flatR_split hf hn0 hj
    have := hL i q hi k u hk
    rw [Go.WideShapes.add_plain, e, ← Nat.add_assoc]; exact this
  · intro u hu'
    obtain ⟨q, _, hq⟩ := List.mem_flatMap.1 hu'
    exact h1c q u hq
  · have e : nb * (X.length + L2.length) = (X.length + L2.length) * nb := Nat.mul_comm _ _
    omega
  · unfold OwnR
    rw [List.length_append, List.flatMap_append]
    exact hown'
theorem one_row (w : World) (q : α) : AtR f n (w.alloc (.cells (f q).toArray E)) w.heap.size 0 [q] := fun i p hi j u hj => by
  cases i with
  | succ i => simp at hi
  | zero =>
    obtain rfl : q = p := by simpa using hi
    rw [Nat.zero_mul, Nat.zero_add, cell_of_row _ _ j (f q).toArray E (0, 0) (MapKept.heap_alloc w _).1]
    simpa using hj
theorem own_lit0 (w : World) (base : Nat) (hb : base ≤ w.heap.size) : OwnR E n f base (w.alloc (.cells #[] E)) (.slice (some ⟨w.heap.size, 0, none⟩) 0 0) ([] : List α) :=
  World.ownsRow_lit w #[] 0 hb (by unfold maxLen; omega) (by simp)
theorem OwnR.at {base : Nat} {w : World} {g cap N : Nat} {L : List α} (hf : ∀ q, (f q).length = n) (h : OwnR E n f base w (.slice (some ⟨g, 0, none⟩) N cap) L) (hN : N = L.length) : AtR f n w g 0 L := fun i q hi j u hj => by
  subst hN
  have hlt : i < L.length := (List.getElem?_eq_some_iff.1 hi).1
  have hjn : j < n := by have := (List.getElem?_eq_some_iff.1 hj).1; rwa [hf] at this
  have hle : i * n + j < L.length * n := by
    have h1 : (i + 1) * n ≤ L.length * n := Nat.mul_le_mul_right n hlt
    rw [Nat.succ_mul] at h1
    omega
  rw [Nat.zero_add]
  exact (World.ownsRow.cellAt h (i * n + j) hle).trans (flatR_at hf L i q hi j u hj)
theorem run_append_nothing {P : Program} (w : World) (t ty e : TypeId) (i : TypeInfo) (ht : P.underlying t = some (.slice e)) (hi : P.info? e = some i) (B : Nat) (A : Option Addr) (c : Nat) :
    (Builtin.append_ #[t, t] ty #[.slice (some ⟨B, 0, none⟩) 0 0, .slice A 0 c]).run P w = .ok (.slice (some ⟨B, 0, none⟩) 0 0) w := by
  cases A <;> simp [Builtin.append_, run_underlying ht, sizeOf, typeInfo, hi, Builtin.lenOf, Builtin.firstCells, loadCells, loadCellsFrom, storeCells]
theorem step_append_nothing {P : Program} {w : World} {ops : Array Oper} {o : Oper} {a : Act} {K : Act → World → Prop} {Q : Exit → Act → World → Prop} {E : Prop} (hgd : o.guard = none) (s x : Operand) (t : TypeId)
    (ho : o.op = .call { callee := .builtin .append, args := #[s, x], argTypes := #[t, t] }) (e : TypeId) (i : TypeInfo) (ht : P.underlying t = some (.slice e)) (hi : P.info? e = some i) (B : Nat) (A : Option Addr) (c : Nat)
    (hs : a.eval s = .slice (some ⟨B, 0, none⟩) 0 0) (hx : a.eval x = .slice A 0 c) (h : K (a.put o.dst (.slice (some ⟨B, 0, none⟩) 0 0)) w) :
    if Region.wanted o (yielded ops a.tmps) = true then Oper.wp P o a w K Q else E := by
  have hw : Region.wanted o (yielded ops a.tmps) = true := by simp [Region.wanted, hgd]
  rw [if_pos hw]
  unfold Oper.wp execOp
  simp only [ho, Go.resolve, invoke, builtin, Sem.run_bind, Sem.run_pure, Result.andThen_ok, List.map_toArray, List.map_cons, List.map_nil, hs, hx, run_append_nothing w t o.type e i ht hi B A c]
  exact h
theorem wpList_append_nothing {P : Program} {w : World} {ops : Array Oper} {rest : List Oper} {o : Oper} {a : Act} {Q : Exit → Act → World → Prop} (hgd : o.guard = none) (s x : Operand) (t : TypeId)
    (ho : o.op = .call { callee := .builtin .append, args := #[s, x], argTypes := #[t, t] }) (e : TypeId) (i : TypeInfo) (ht : P.underlying t = some (.slice e)) (hi : P.info? e = some i) (B : Nat) (A : Option Addr) (c : Nat)
    (hs : a.eval s = .slice (some ⟨B, 0, none⟩) 0 0) (hx : a.eval x = .slice A 0 c) (h : wpList P ops Q rest (a.put o.dst (.slice (some ⟨B, 0, none⟩) 0 0)) w) : wpList P ops Q (o :: rest) a w := by
  refine wpList_plain hgd fun K' hK' => ?_
  unfold Oper.wp execOp
  simp only [ho, Go.resolve, invoke, builtin, Sem.run_bind, Sem.run_pure, Result.andThen_ok, List.map_toArray, List.map_cons, List.map_nil, hs, hx, run_append_nothing w t o.type e i ht hi B A c]
  exact hK' _ _ h
theorem step_append_rows {S : TypeId} {i0 : TypeInfo} {z : Value} {nb : Nat}
    {w : World} {ops : Array Oper} {o : Oper} {a : Act} {K : Act → World → Prop} {Q : Exit → Act → World → Prop} {E0 : Prop} (hg : o.guard = none) (s x : Operand) (ho : o.op = .call { callee := .builtin .append, args := #[s, x], argTypes := #[S, S] }) {base : Nat} {v : Value} {X : List α}
    (hs : a.eval s = v) (hown : OwnR E n f base w v X) {g2 o2 c2 : Nat} {L2 : List α} (hx : a.eval x = .slice (some ⟨g2, o2, none⟩) L2.length c2) (hL : AtR f n w g2 o2 L2) (h0 : 0 < L2.length) {N : Nat} (hN : X.length + L2.length = N) {Z : List α} (hZ : X ++ L2 = Z)
    (hu : Try.prog.underlying S = some (.slice E)) (hi0 : Try.prog.info? E = some i0) (hz0 : i0.zero = some z) (hz1 : i0.size = n) (hz2 : i0.bytes = nb) (hzc : z.cells.size = n) (hn0 : 0 < n) (hnb : nb ≤ 100)
    (hf : ∀ q, (f q).length = n) (h1c : ∀ q, ∀ u ∈ f q, u.oneCell' = true) (hlen : N ≤ 2000000) (hbase : base ≤ w.heap.size)
    (h : ∀ g cap w', OwnR E n f base w' (.slice (some ⟨g, 0, none⟩) N cap) Z → w.grownBy w' v.ownBlock → (v.ownBlock = some g ∨ g = w.heap.size) → g < w'.heap.size → K (a.put o.dst (.slice (some ⟨g, 0, none⟩) N cap)) w') :
    if Region.wanted o (yielded ops a.tmps) = true then Oper.wp Try.prog o a w K Q else E0 := by
  subst hN hZ
  have hroom : nb * (X.length + L2.length) ≤ 200000000 := by
    have : nb * (X.length + L2.length) ≤ 100 * 2000000 := Nat.mul_le_mul hnb hlen
    omega
  refine step_append_lies _ hg s x S ho base E i0 z n nb hu hi0 hz0 hz1 hz2 hzc hn0 v X.length (X.flatMap f) hs hown ⟨g2, o2, none⟩ L2.length c2 (L2.flatMap f) hx (flatR_len hf L2) ?_ ?_ h0 (by unfold maxLen; omega) ?_ hbase w.heap.size rfl fun g cap w' hown' hg' hat hlt => h g cap w' ?_ hg' hat hlt
  · intro j u hj
    obtain ⟨i, q, k, hi, hk, e⟩ := flatR_split hf hn0 hj
    have := hL i q hi k u hk
    rw [Go.WideShapes.add_plain, e, ← Nat.add_assoc]; exact this
  · intro u hu'
    obtain ⟨q, _, hq⟩ := List.mem_flatMap.1 hu'
    exact h1c q u hq
  · have e : nb * (X.length + L2.length) = (X.length + L2.length) * nb := Nat.mul_comm _ _
    omega
  · unfold OwnR
    rw [List.length_append, List.flatMap_append]
    exact hown'
theorem own_empty0 {w : World} {base B : Nat} (hb : base ≤ B) (h : w.heap[B]? = some (.cells #[] E (0, 0))) : OwnR E n f base w (.slice (some ⟨B, 0, none⟩) 0 0) ([] : List α) :=
  ⟨by simp, .inr ⟨B, 0, #[], rfl, hb, h, Nat.le_refl _, Nat.zero_le _, by simp, by simp⟩⟩
end
end Go.Proofs.Ytbppkflgokfjhaa
namespace Go.Proofs.Ytbppkflgokfjhaa
open Go.RowKit
theorem RowI.at {w : World} {P : Nat → Prop} {A : Option Addr} {l : List Int} (h : RowI w P A l) {i : Nat} (hi : i < l.length) : ∃ g o, A = some ⟨g, o, none⟩ ∧ P g ∧ g < w.heap.size ∧ ∀ (i : Nat) (x : Int), l[i]? = some x → w.cell? ⟨g, o + i, none⟩ = some (.int .i64 x) := by
  rcases h with rfl | h
  · simp at hi
  · exact h
end Go.Proofs.Ytbppkflgokfjhaa
namespace Go.Proofs.Ytbppkflgokfjhaa
open Go.RowKit
structure LkM where
  at_ : Int
  rd : List Int
  RA : Option Addr
  rc : Nat
deriving Inhabited
def LkM.k (q : LkM) : Lk := ⟨q.at_, q.rd⟩
def lkS (l : List LkM) : List Lk := l.map LkM.k
def RowL (w : World) (P : Nat → Prop) (A : Option Addr) (l : List LkM) : Prop := l = [] ∨ ∃ g o, A = some ⟨g, o, none⟩ ∧ P g ∧ g < w.heap.size ∧
  ∀ (i : Nat) (q : LkM), l[i]? = some q → (w.cell? ⟨g, o + i * 2, none⟩ = some (.int .i64 q.at_) ∧ w.cell? ⟨g, o + i * 2 + 1, none⟩ = some (.slice q.RA q.rd.length q.rc)) ∧ RowI w P q.RA q.rd
section
variable {w w' : World} {P Q : Nat → Prop} {A : Option Addr} {l : List LkM}
theorem RowL.kept (h : RowL w P A l) (hk : Kept w w' P) : RowL w' P A l := by
  rcases h with h | ⟨g, o, rfl, hp, hl, hc⟩
  · exact .inl h
  · refine .inr ⟨g, o, rfl, hp, Nat.lt_of_lt_of_le hl hk.size, fun i q hi => ?_⟩
    obtain ⟨⟨c0, c1⟩, hr⟩ := hc i q hi
    exact ⟨⟨hk.cell hp c0, hk.cell hp c1⟩, hr.kept hk⟩
theorem RowL.mono (h : RowL w P A l) (hpq : ∀ g, P g → g < w.heap.size → Q g) : RowL w Q A l := by
  rcases h with h | ⟨g, o, rfl, hp, hl, hc⟩
  · exact .inl h
  · refine .inr ⟨g, o, rfl, hpq g hp hl, hl, fun i q hi => ?_⟩
    obtain ⟨h3, hr⟩ := hc i q hi
    exact ⟨h3, hr.mono hpq⟩
theorem RowL.below (h : RowL w P A l) (hb : Below w.heap.size w w') : RowL w' P A l := h.kept (Kept.of_below hb)
theorem RowL.at (h : RowL w P A l) {i : Nat} (hi : i < l.length) : ∃ g o, A = some ⟨g, o, none⟩ ∧ P g ∧ g < w.heap.size ∧
    ∀ (i : Nat) (q : LkM), l[i]? = some q → (w.cell? ⟨g, o + i * 2, none⟩ = some (.int .i64 q.at_) ∧ w.cell? ⟨g, o + i * 2 + 1, none⟩ = some (.slice q.RA q.rd.length q.rc)) ∧ RowI w P q.RA q.rd := by
  rcases h with rfl | h
  · simp at hi
  · exact h
end
def findM (l : List LkM) (n : Int) : Option LkM := l.find? fun q => decide (q.at_ = n)
theorem findM_k (l : List LkM) (n : Int) : (findM l n).map LkM.k = findL (lkS l) n := by
  unfold findM findL lkS
  rw [List.find?_map]
  rfl
theorem findM_mem {l : List LkM} {n : Int} {q : LkM} (h : findM l n = some q) : q ∈ l ∧ q.at_ = n := by
  unfold findM at h
  exact ⟨List.mem_of_find?_eq_some h, by simpa using List.find?_some h⟩
theorem findM_node (l : List LkM) (n : Int) : (findM l n).isSome = true ↔ isN (lkS l) n := by
  rw [← findL_iff, ← findM_k, Option.isSome_map]
theorem findM_at {l : List LkM} {n : Int} {i : Nat} {q : LkM} (hq : l[i]? = some q) (hno : ∀ x ∈ l.take i, x.at_ ≠ n) (h : q.at_ = n) : findM l n = some q := by
  unfold findM
  obtain ⟨h1, rfl⟩ := List.getElem?_eq_some_iff.1 hq
  rw [List.find?_eq_some_iff_append]
  refine ⟨by simpa using h, l.take i, l.drop (i + 1), by rw [← List.drop_eq_getElem_cons h1, List.take_append_drop], fun a ha => by simpa using hno a ha⟩
theorem findM_none {l : List LkM} {n : Int} (hno : ∀ x ∈ l, x.at_ ≠ n) : findM l n = none := by
  unfold findM
  rw [List.find?_eq_none]
  intro x hx
  simpa using hno x hx
theorem allM_next {p : LkM → Prop} {l : List LkM} {i : Nat} {q : LkM} (hq : l[i]? = some q) (h : ∀ x ∈ l.take i, p x) (hp : p q) : ∀ x ∈ l.take (i + 1), p x := fun x hx => by
  rw [List.take_add_one, hq] at hx
  rcases List.mem_append.1 hx with e | e
  · exact h x e
  · obtain rfl : x = q := by simpa using e
    exact hp
theorem frozen_ofG {w : World} {X : Nat} {cs : Array Value} {T : TypeId} (h : w.heap[X]? = some (.cells cs T (0, 0))) (j : Nat) : w.frozen? ⟨X, j, none⟩ = false := by simp [World.frozen?, h]
def fndV : Option LkM → Value
  | some q => .tuple #[.agg #[.int .i64 q.at_, .slice q.RA q.rd.length q.rc], .bool true]
  | none => .tuple #[.agg #[.int .i64 0, .slice none 0 0], .bool false]
set_option maxHeartbeats 4000000 in
set_option maxRecDepth 10000 in
theorem gfind_any (l : List LkM) (A : Option Addr) (ca : Nat) (w : World) {P : Nat → Prop} (hl : RowL w P A l) (hll : l.length ≤ 1000000) (n : Int) :
    Calls Try.prog 25 #[.slice A l.length ca, .int .i64 n] w fun e w' => e = .returned (fndV (findM l n)) ∧ Below w.heap.size w w' := by
  have HL := Lib.hid hl
  have HF := Lib.hid (fun (i : Nat) (q : LkM) hq hno h => findM_at (l := l) (n := n) (i := i) (q := q) hq hno h)
  have HN := Lib.hid (fun hno => findM_none (l := l) (n := n) hno)
  clear hl
  generalize findM l n = F at *
  go_enter Try.func25, Try.ntmps25
  go_wp2_with fail
  have hba : Below w.heap.size w (w.alloc (.cells #[.int .i64 0, .slice none 0 0] 51)) := (Below.refl _ _).alloc (Nat.le_refl _) _
  have HBa := Lib.hid hba
  have HLa := Lib.hid (HL.out.below hba)
  have hz : w.heap.size < (w.alloc (.cells #[.int .i64 0, .slice none 0 0] 51)).heap.size := by simp
  have z0 : (w.alloc (.cells #[.int .i64 0, .slice none 0 0] 51)).cell? ⟨w.heap.size, 0, none⟩ = some (.int .i64 0) := by rw [Lib.cell_of_heap (heap_alloc_new w _)]; rfl
  have z1 : (w.alloc (.cells #[.int .i64 0, .slice none 0 0] 51)).cell? ⟨w.heap.size, 1, none⟩ = some (.slice none 0 0) := by rw [Lib.cell_of_heap (heap_alloc_new w _)]; rfl
  have f0 : (w.alloc (.cells #[.int .i64 0, .slice none 0 0] 51)).frozen? ⟨w.heap.size, 0, none⟩ = false := frozen_ofG (heap_alloc_new w _) 0
  have f1 : (w.alloc (.cells #[.int .i64 0, .slice none 0 0] 51)).frozen? ⟨w.heap.size, 1, none⟩ = false := frozen_ofG (heap_alloc_new w _) 1
  clear hba
  generalize w.alloc (.cells #[.int .i64 0, .slice none 0 0] 51) = W at *
  go_loopw [6] (fun vi wr => ∃ i : Nat, i ≤ l.length ∧ vi = .int .i64 (i : Int) ∧ Hid (∀ x ∈ l.take i, x.at_ ≠ n) ∧ wr = W) (fun vi _ => l.length - (RowKit.intOf vi).toNat)
  case atStart => exact ⟨0, Nat.zero_le _, rfl, Lib.hid (by simp), rfl⟩
  case round =>
    obtain ⟨i, hi, rfl, HT, hw⟩ := hrel
    have hw' := hw.symm
    subst hw'
    by_cases hlt : i < l.length
    · obtain ⟨q, hq⟩ : ∃ q, l[i]? = some q := ⟨_, List.getElem?_eq_getElem hlt⟩
      obtain ⟨g, o, rfl, _, hgl, hat⟩ := HLa.out.at hlt
      obtain ⟨⟨q0, q1⟩, _⟩ := hat i q hq
      have hI : (i : Int) < (l.length : Int) := by omega
      have hJ : (0 : Int) ≤ (i : Int) := by omega
      have HX := Lib.hid (fun h => HF.out i q hq HT.out h)
      have HQ := Lib.hid hq
      obtain ⟨an, rd, RA, rc⟩ := q
      clear hat hq
      by_cases e : an = n
      · have HE := Lib.hid (HX.out e)
        subst e
        clear HX
        go_wp2_with fail
        exact bodyPost_ret (v := .tuple #[.agg #[.int .i64 an, .slice RA rd.length rc], .bool true]) (by simp [results, Try.results25, go_sem, z0, z1, f0, f1]) rfl ⟨by rw [HE.out]; rfl, (HBa.out.setCell (p := ⟨w.heap.size, 0, none⟩) (Nat.le_refl _) _).setCell (p := ⟨w.heap.size, 1, none⟩) (Nat.le_refl _) _⟩
      · have d0 : (an == n) = false := by simpa using e
        have HT2 : Hid (∀ x ∈ l.take (i + 1), x.at_ ≠ n) := Lib.hid (allM_next (p := fun x => x.at_ ≠ n) HQ.out HT.out e)
        clear e HX
        go_wp2_with fail
        go_roundw
        case rel => exact ⟨i + 1, by omega, by go_num, HT2, by first | rfl | trivial⟩
        case measure => simp [RowKit.intOf]; omega
    · have hii : i = l.length := by omega
      subst hii
      have ht := HT.out
      rw [List.take_length] at ht
      have HE := Lib.hid (HN.out ht)
      clear ht
      go_wp2_with fail
      exact bodyPost_ret (v := .tuple #[.agg #[.int .i64 0, .slice none 0 0], .bool false]) (by simp [results, Try.results25, go_sem, z0, z1, f0, f1]) rfl ⟨by rw [HE.out]; rfl, (HBa.out.setCell (p := ⟨w.heap.size, 0, none⟩) (Nat.le_refl _) _).setCell (p := ⟨w.heap.size, 1, none⟩) (Nat.le_refl _) _⟩
set_option maxHeartbeats 4000000 in
set_option maxRecDepth 10000 in
theorem ghas_any (l : List Int) (A : Option Addr) (ca : Nat) (w : World) {P : Nat → Prop} (hl : RowI w P A l) (hll : l.length ≤ 1000000) (n : Int) :
    Calls Try.prog 30 #[.slice A l.length ca, .int .i64 n] w fun e w' => e = .returned (.bool (decide (n ∈ l))) ∧ w' = w := by
  have HL := Lib.hid hl
  clear hl
  go_enter Try.func30, Try.ntmps30
  go_wp2_with fail
  go_loopw [5] (fun vi wr => ∃ i : Nat, i ≤ l.length ∧ vi = .int .i64 (i : Int) ∧ Hid (n ∉ l.take i) ∧ wr = w) (fun vi _ => l.length - (RowKit.intOf vi).toNat)
  case atStart => exact ⟨0, Nat.zero_le _, rfl, Lib.hid (by simp), rfl⟩
  case round =>
    obtain ⟨i, hi, rfl, HT, hw⟩ := hrel
    have hw' := hw.symm
    subst hw'
    by_cases hlt : i < l.length
    · obtain ⟨x, hx⟩ : ∃ x, l[i]? = some x := ⟨_, List.getElem?_eq_getElem hlt⟩
      obtain ⟨g, o, rfl, _, _, hat⟩ := HL.out.at hlt
      have q0 := hat i x hx
      have hI : (i : Int) < (l.length : Int) := by omega
      have hJ : (0 : Int) ≤ (i : Int) := by omega
      have HX := Lib.hid hx
      clear hat hx
      by_cases e : x = n
      · subst e
        have HE : Hid (decide (x ∈ l) = true) := Lib.hid (decide_eq_true (List.mem_of_getElem? HX.out))
        go_wp2_with fail
        go_ret
        exact ⟨by rw [HE.out]; rfl, rfl⟩
      · have d0 : (x == n) = false := by simpa using e
        have HT2 : Hid (n ∉ l.take (i + 1)) := Lib.hid (by
          rw [List.take_add_one, HX.out]
          intro h
          rcases List.mem_append.1 h with q | q
          · exact HT.out q
          · exact e ((List.mem_singleton.1 q).symm))
        clear e
        go_wp2_with fail
        go_roundw
        case rel => exact ⟨i + 1, by omega, by go_num, HT2, by first | rfl | trivial⟩
        case measure => simp [RowKit.intOf]; omega
    · have hii : i = l.length := by omega
      subst hii
      have ht := HT.out
      rw [List.take_length] at ht
      have HE : Hid (decide (n ∈ l) = false) := Lib.hid (decide_eq_false ht)
      clear ht
      go_wp2_with fail
      go_ret
      exact ⟨by rw [HE.out]; rfl, rfl⟩
end Go.Proofs.Ytbppkflgokfjhaa
namespace Go.Proofs.Ytbppkflgokfjhaa
open Go.RowKit
def FitsG (l : List LkM) (w : World) (e : Ending) (w' : World) : Prop := ∃ b, e = .returned (.bool b) ∧ (b = true → l.length ≤ 60 ∧ ∀ q ∈ l, q.rd.length ≤ 60) ∧ w' = w
theorem FitsG.no {l : List LkM} {w : World} {e : Ending} (h : e = .returned (.bool false)) : FitsG l w e w := ⟨false, h, fun e => (by cases e), rfl⟩
theorem FitsG.yes {l : List LkM} {w : World} {e : Ending} (h : e = .returned (.bool true)) (hf : l.length ≤ 60 ∧ ∀ q ∈ l, q.rd.length ≤ 60) : FitsG l w e w := ⟨true, h, fun _ => hf, rfl⟩
set_option maxHeartbeats 8000000 in
set_option maxRecDepth 10000 in
theorem gfits_any (l : List LkM) (A : Option Addr) (ca : Nat) (w : World) {P : Nat → Prop} (hl : RowL w P A l) (hll : l.length ≤ maxLen) (hrl : ∀ q ∈ l, q.rd.length ≤ maxLen) :
    Calls Try.prog 5 #[.slice A l.length ca] w fun e w' => FitsG l w e w' := by
  have HL := Lib.hid hl
  have HM := Lib.hid hrl
  unfold maxLen at hll
  clear hl hrl
  by_cases hbig : 60 < l.length
  · have hd : decide ((60 : Int) < (l.length : Int)) = true := decide_eq_true (by omega)
    go_enter Try.func5, Try.ntmps5
    go_wp2_with fail
    go_ret
    exact FitsG.no rfl
  · have hd : decide ((60 : Int) < (l.length : Int)) = false := decide_eq_false (by omega)
    have hl2 : l.length ≤ 60 := by omega
    go_enter Try.func5, Try.ntmps5
    go_wp2_with fail
    go_loopw [3] (fun vi wr => ∃ i : Nat, i ≤ l.length ∧ vi = .int .i64 (i : Int) ∧ Hid (∀ q ∈ l.take i, q.rd.length ≤ 60) ∧ wr = w) (fun vi _ => l.length - (RowKit.intOf vi).toNat)
    case atStart => exact ⟨0, Nat.zero_le _, rfl, Lib.hid (by simp), rfl⟩
    case round =>
      obtain ⟨i, hi, rfl, HT, hw⟩ := hrel
      have hw' := hw.symm
      subst hw'
      clear hw
      by_cases hlt : i < l.length
      · obtain ⟨q, hq⟩ : ∃ q, l[i]? = some q := ⟨_, List.getElem?_eq_getElem hlt⟩
        obtain ⟨g, o, rfl, _, _, hat⟩ := HL.out.at hlt
        obtain ⟨⟨q0, q1⟩, _⟩ := hat i q hq
        have hI : (i : Int) < (l.length : Int) := by omega
        have hJ : (0 : Int) ≤ (i : Int) := by omega
        have hqm := HM.out q (List.mem_of_getElem? hq)
        unfold maxLen at hqm
        have HX := Lib.hid (fun h => allM_next (p := fun q => q.rd.length ≤ 60) hq HT.out h)
        obtain ⟨an, rd, RA, rc⟩ := q
        have hqm : rd.length ≤ _ := hqm
        clear hat hq
        by_cases h3 : (60 : Int) < (rd.length : Int)
        · go_wp2_with fail
          go_ret
          exact FitsG.no rfl
        · have HT2 := Lib.hid (HX.out (by show rd.length ≤ 60; omega))
          clear HX
          go_wp2_with fail
          go_roundw
          case rel => exact ⟨i + 1, by omega, by go_num, HT2, by first | rfl | trivial⟩
          case measure => simp [RowKit.intOf]; omega
      · have hii : i = l.length := by omega
        subst hii
        have ht := HT.out
        rw [List.take_length] at ht
        have HE := Lib.hid ht
        clear ht
        go_wp2_with fail
        go_ret
        exact FitsG.yes rfl ⟨hl2, HE.out⟩
def lkW (q : LkM) : List Value := [.int .i64 q.at_, .slice q.RA q.rd.length q.rc]
theorem lkW_one : ∀ q : LkM, ∀ u ∈ lkW q, u.oneCell' = true := by
  intro q u hu
  simp only [lkW, List.mem_cons, List.not_mem_nil, or_false] at hu
  rcases hu with rfl | rfl <;> rfl
theorem glk_info : (Try.prog.info? 51).map (fun i => (i.zero, i.size, i.bytes)) = some (some (.agg #[.int .i64 0, .slice none 0 0]), 2, 32) := by kernel_rfl
theorem own_rowL {E : TypeId} {base : Nat} {w : World} {v : Value} {l : List LkM} (h : OwnR E 2 lkW base w v l) (hr : ∀ q ∈ l, RowI w (fun _ => True) q.RA q.rd) : ∃ (A : Option Addr) (cap : Nat), v = .slice A l.length cap ∧ l.length ≤ cap ∧ RowL w (fun _ => True) A l := by
  obtain ⟨A, cap, rfl, hc, _⟩ := OwnR.shape (f := lkW) (fun _ => rfl) h
  refine ⟨A, cap, rfl, hc, ?_⟩
  rcases Nat.eq_zero_or_pos l.length with e | e
  · exact .inl (List.length_eq_zero_iff.1 e)
  · obtain ⟨g, cap', hv, hb, hg⟩ := World.ownsRow.form h e
    have ha := OwnR.at (f := lkW) (fun _ => rfl) (hv ▸ h) rfl
    simp at hv
    exact .inr ⟨g, 0, hv.1, trivial, hg, fun i q hi => ⟨⟨ha i q hi 0 _ rfl, ha i q hi 1 _ rfl⟩, hr q (List.mem_of_getElem? hi)⟩⟩
set_option maxHeartbeats 8000000 in
set_option maxRecDepth 10000 in
theorem gof_any (l : List LkM) (A : Option Addr) (ca : Nat) (w : World) {P : Nat → Prop} (hl : RowL w P A l) (hll : l.length ≤ 1000000) :
    Calls Try.prog 8 #[.slice A l.length ca] w fun e w' => ∃ O co, e = .returned (.slice O l.length co) ∧ l.length ≤ co ∧ RowL w' (fun _ => True) O l ∧ Below w.heap.size w w' := by
  obtain ⟨i0, hi0, hz0, hz1, hz2⟩ := info_parts glk_info
  have HL := Lib.hid hl
  have HRw := Lib.hid (fun (q : LkM) (hq : q ∈ l) => (show RowI w (fun _ => True) q.RA q.rd from by
    obtain ⟨i, hi⟩ := List.mem_iff_getElem?.1 hq
    obtain ⟨g, o, _, _, _, hat⟩ := hl.at (List.getElem?_eq_some_iff.1 hi).1
    exact (hat i q hi).2.mono fun _ _ _ => trivial))
  clear hl
  go_enter Try.func8, Try.ntmps8
  go_wp2_with fail
  go_loopw [3, 4] (fun v vi wr => ∃ (i : Nat), i ≤ l.length ∧ vi = .int .i64 (i : Int) ∧ Hid (OwnR 51 2 lkW w.heap.size wr v (l.take i)) ∧ Below w.heap.size w wr) (fun _ vi _ => l.length - (RowKit.intOf vi).toNat)
  case atStart => exact ⟨0, Nat.zero_le _, rfl, Lib.hid (by rw [List.take_zero]; exact World.ownsRow_nil _ _ _ _), Below.refl _ _⟩
  case round =>
    obtain ⟨i, hi, rfl, HO, hb⟩ := hrel
    by_cases hlt : i < l.length
    · obtain ⟨q, hq⟩ : ∃ q, l[i]? = some q := ⟨_, List.getElem?_eq_getElem hlt⟩
      obtain ⟨g, o, rfl, _, hgl, hat⟩ := HL.out.at hlt
      obtain ⟨⟨q0, q1⟩, _⟩ := hat i q hq
      have k0 := keep_cell hb q0
      have k1 := keep_cell hb q1
      have hI : (i : Int) < (l.length : Int) := by omega
      have hbs := hb.size
      have hsp : l.take (i + 1) = l.take i ++ [q] := by rw [List.take_add_one, hq]; rfl
      have HE := Lib.hid hsp
      have hlen : (l.take i).length = i := by rw [List.length_take]; omega
      have HLn := Lib.hid hlen
      obtain ⟨an, rd, RA, rc⟩ := q
      clear hat q0 q1 hq hsp hlen
      have HB := Lib.hid hb
      clear hb
      go_wp2_with fail
      go_region_law (first
        | (refine step_append_rows (f := lkW) (n := 2) (E := 51) (nb := 32) (X := l.take i) (base := w.heap.size) (by rfl) _ _ (by rfl) (by rfl) (OwnR.below HO.out (by with_reducible repeat' (first | exact Below.refl _ _ | exact Nat.le_refl _ | refine Below.drew ?_ | refine Below.alloc ?_ ?_ _))) (L2 := [(⟨an, rd, RA, rc⟩ : LkM)]) (by rfl) (by first | exact one_row _ (⟨an, rd, RA, rc⟩ : LkM) | exact one_row _ _) (by simp) (N := i + 1) (by rw [HLn.out]; rfl) (Z := l.take (i + 1)) HE.out.symm Try.underlying30 hi0 hz0 hz1 hz2 (by rfl) (by decide) (by decide) (fun _ => rfl) lkW_one (by first | omega | (simp; omega)) (by first | omega | (simp; done) | (simp; omega)) ?_; intro g4 k4 w4 ho4 hg4 hat4 hl4
           have hb4 : Below w.heap.size w w4 := HB.out.trans (Below.grown (by with_reducible repeat' (first | exact Below.refl _ _ | exact Nat.le_refl _ | exact hbs | refine Below.drew ?_ | refine Below.alloc ?_ ?_ _)) hg4 (by first | omega | (simp; done) | (simp; omega)) (fun k hk => (World.ownsRow.lt HO.out k hk).1))
           have HO4 := Lib.hid ho4
           clear ho4 hg4 hat4 hl4)
        | fail)
      all_goals
        go_wp2_with fail
        go_roundw
        case rel => exact ⟨i + 1, by omega, by go_num, HO4, hb4⟩
        case measure => simp [RowKit.intOf]; omega
    · have hii : i = l.length := by omega
      subst hii
      have hO := HO.out
      rw [List.take_length] at hO
      obtain ⟨O, co, hv, hc, hr⟩ := own_rowL hO (fun q hq => (HRw.out q hq).below hb)
      subst hv
      have HR := Lib.hid hr
      clear hr hO
      go_wp2_with fail
      go_ret
      exact ⟨O, co, rfl, hc, HR.out, hb⟩
end Go.Proofs.Ytbppkflgokfjhaa
namespace Go.Proofs.Ytbppkflgokfjhaa
open Go.ChangeShapes Go.WideShapes Go.RowKit Go.Deep
theorem cellsIntG : Try.prog.cellsOf 3 = 1 := by kernel_rfl
theorem cellsIntsG : Try.prog.cellsOf 23 = 1 := by kernel_rfl
theorem cellsLkG : Try.prog.cellsOf 41 = 2 := by kernel_rfl
section
variable {H : Type} {enc : TypeId × Value → H} {w : World} {base : Nat} {spare : Nat → Bool} {held : Bool}
set_option maxRecDepth 100000 in
theorem open_links {r : Reach} {b0 : Nat} {v : Value} {d : DataW H} {p : List MemPlace} (hv : Value.okWide Try.prog w r b0 22 v) (h : DataW.Trod enc Try.prog w base spare held 22 v d p) :
    ∃ (l : List LkM) (A : Option Addr) (cap : Nat), v = .slice A l.length cap ∧ l.length ≤ maxLen ∧ (∀ q ∈ l, q.rd.length ≤ maxLen) ∧ RowL w (fun _ => True) A l := by
  obtain ⟨l, A, cap, e, hl, ho, ha⟩ := open_rows lkW (fun q => q.rd.length ≤ maxLen ∧ RowI w (fun _ => True) q.RA q.rd) (fun _ => rfl) Try.underlying22 cellsLkG (by decide) (fun {fuel cs x} hl ht => by
    match cs, hl with
    | [c0, c1], _ =>
      obtain ⟨y0, y1, n, rfl, _, hy0, hy1⟩ := trod_struct2 Try.underlying41 ht
      simp only [cellsIntG, cellsIntsG] at hy0 hy1
      obtain ⟨a, e1, _, _⟩ := DataW.trod_int Try.underlying3 hy0
      obtain ⟨L, A1, k1, e2, r1, _, r3⟩ := trod_ints hy1
      simp at e1 e2
      subst e1 e2
      exact ⟨⟨a, L, A1, k1⟩, by simp [lkW], r1, r3⟩) hv h
  refine ⟨l, A, cap, e, hl, fun q hq => (ho q hq).1, ?_⟩
  cases l with
  | nil => exact .inl rfl
  | cons a l =>
    obtain ⟨g, o, rfl, hat⟩ := ha (by simp)
    refine .inr ⟨g, o, rfl, trivial, Lib.lt_of_cell (hat 0 a rfl 0 _ rfl), fun i q hi => ?_⟩
    exact ⟨⟨hat i q hi 0 _ rfl, hat i q hi 1 _ rfl⟩, (ho q (List.mem_of_getElem? hi)).2⟩
set_option maxRecDepth 100000 in
theorem open_ints {r : Reach} {b0 : Nat} {v : Value} {d : DataW H} {p : List MemPlace} (hv : Value.okWide Try.prog w r b0 23 v) (h : DataW.Trod enc Try.prog w base spare held 23 v d p) :
    ∃ (l : List Int) (A : Option Addr) (cap : Nat), v = .slice A l.length cap ∧ l.length ≤ maxLen ∧ B64s l ∧ RowI w (fun _ => True) A l := by
  obtain ⟨l, A, cap, e, hl, ho, ha⟩ := open_rows inW (fun x => -9223372036854775808 ≤ x ∧ x ≤ 9223372036854775807) (fun _ => rfl) Try.underlying23 cellsIntG (by decide) (fun {fuel cs x} hl ht => by
    match cs, hl with
    | [c0], _ =>
      obtain ⟨a, h0, _, wa⟩ := DataW.trod_int Try.underlying3 ht
      simp at h0
      subst h0
      have e1 : IntKind.i64.min = -9223372036854775808 := rfl
      have e2 : IntKind.i64.max = 9223372036854775807 := rfl
      simp [Lit.wf, e1, e2] at wa
      exact ⟨a, rfl, wa⟩) hv h
  exact ⟨l, A, cap, e, hl, ho, rowI_of ha⟩
set_option maxRecDepth 100000 in
theorem open_u16G {r : Reach} {b0 : Nat} {v : Value} {d : DataW H} {p : List MemPlace} (hv : Value.okWide Try.prog w r b0 39 v) (h : DataW.Trod enc Try.prog w base spare held 39 v d p) : ∃ n : Int, (0 ≤ n ∧ n ≤ 65535) ∧ v = .int .u16 n := by
  obtain ⟨a, e, _, _, wa⟩ := open_int Try.underlying39 hv h
  have e1 : IntKind.u16.min = 0 := rfl
  have e2 : IntKind.u16.max = 65535 := rfl
  simp [Lit.wf, e1, e2] at wa
  exact ⟨a, wa, e⟩
end
end Go.Proofs.Ytbppkflgokfjhaa
