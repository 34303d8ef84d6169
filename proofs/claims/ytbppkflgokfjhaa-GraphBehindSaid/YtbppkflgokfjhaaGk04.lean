/- Texts joined: GpS, NfU, GpT, RfA, GpR, GpV. -/
import Derived.Test.YtbppkflgokfjhaaGk03
import Derived.Test.YtbppkflgokfjhaaShelfG
import Derived.Test.YtbppkflgokfjhaaGk02
import Derived.RangeFuncNested
import Derived.RangeFuncBound
import Derived.RangeFuncCalls
import Derived.RangeFuncLeaves
import Derived.Below
import Derived.OwnWalk
import Derived.Lib.AtoiErrMem
import Derived.WalkKit
import Derived.Test.YtbppkflgokfjhaaProg
import Derived.Shelf.Abstract
import Derived.Shelf.RegionOpen
import Derived.OwnWalkIn
import Derived.TacticsInMore
import Derived.LoopNIn
import Derived.LoopIn
set_option linter.all false
namespace Go.Proofs.Ytbppkflgokfjhaa
open Go.RowKit Go.Maps Go.Sort
def RowH (w : World) (P : Nat → Prop) (A : Option Addr) (l : List Int) : Prop := l = [] ∨ ∃ g o, A = some ⟨g, o, none⟩ ∧ P g ∧ g < w.heap.size ∧ Holds (Value.int .i64) w g o l.toArray
theorem OwnR.lowerG {α : Type} {E : TypeId} {n : Nat} {f : α → List Value} {b b' : Nat} {w : World} {v : Value} {L : List α} (h : OwnR E n f b w v L) (hb : b' ≤ b) : OwnR E n f b' w v L := World.ownsRow.mono h hb
theorem holds_row {w : World} {g o : Nat} {l : List Int} (h : Holds (Value.int .i64) w g o l.toArray) {i : Nat} {x : Int} (hi : l[i]? = some x) : w.cell? ⟨g, o + i, none⟩ = some (.int .i64 x) := by
  obtain ⟨h1, h2⟩ := List.getElem?_eq_some_iff.1 hi
  have := (h i (by simpa using h1)).1
  rw [this]
  simp [h1, h2]
theorem holds_drop {w : World} {g o : Nat} {a b : List Int} (h : Holds (Value.int .i64) w g o (a ++ b).toArray) : Holds (Value.int .i64) w g (o + a.length) b.toArray := fun j hj => by
  have hj : j < b.length := by simpa using hj
  have := h (a.length + j) (by simp; omega)
  rw [← Nat.add_assoc] at this
  refine ⟨this.1.trans ?_, this.2⟩
  have h1 : a.length + j < (a ++ b).length := by simp; omega
  simp [hj, h1, List.getElem_append_right]
theorem RowH.row {w : World} {P : Nat → Prop} {A : Option Addr} {l : List Int} (h : RowH w P A l) : RowI w P A l := by
  rcases h with h | ⟨g, o, rfl, hp, hl, hh⟩
  · exact .inl h
  · exact .inr ⟨g, o, rfl, hp, hl, fun i x hi => holds_row hh hi⟩
theorem RowH.mono {w : World} {P Q : Nat → Prop} {A : Option Addr} {l : List Int} (h : RowH w P A l) (hpq : ∀ g, P g → g < w.heap.size → Q g) : RowH w Q A l := by
  rcases h with h | ⟨g, o, rfl, hp, hl, hh⟩
  · exact .inl h
  · exact .inr ⟨g, o, rfl, hpq g hp hl, hl, hh⟩
theorem RowH.kept {w w' : World} {P : Nat → Prop} {A : Option Addr} {l : List Int} (h : RowH w P A l) (hk : Kept w w' P) : RowH w' P A l := by
  rcases h with h | ⟨g, o, rfl, hp, hl, hh⟩
  · exact .inl h
  · refine .inr ⟨g, o, rfl, hp, Nat.lt_of_lt_of_le hl hk.size, fun j hj => ?_⟩
    have e := hk.block g hp hl
    exact ⟨(World.cell?_of_block (w := w) e).trans (hh j hj).1, (World.frozen?_of_block (w := w) e).trans (hh j hj).2⟩
theorem RowH.below {w w' : World} {P : Nat → Prop} {A : Option Addr} {l : List Int} (h : RowH w P A l) (hb : Below w.heap.size w w') : RowH w' P A l := h.kept (Kept.of_below hb)
theorem own_rowH {base : Nat} {w : World} {v : Value} {L : List Int} (h : OwnR 3 1 inW base w v L) : ∃ (A : Option Addr) (cap : Nat), v = .slice A L.length cap ∧ L.length ≤ cap ∧ (L ≠ [] → ∃ g, A = some ⟨g, 0, none⟩) ∧ RowH w (fun g => base ≤ g) A L := by
  obtain ⟨A, cap, e, hk, hr⟩ := own_rowG h
  refine ⟨A, cap, e, hk, ?_⟩
  rcases h.2 with ⟨e2, hl⟩ | ⟨g, cap2, cur, e2, hb, hh, hc, _⟩
  · exact ⟨fun hne => absurd (List.length_eq_zero_iff.1 hl) hne, .inl (List.length_eq_zero_iff.1 hl)⟩
  · have e3 : A = some ⟨g, 0, none⟩ := by
      rw [e] at e2
      injection e2
    refine ⟨fun _ => ⟨g, e3⟩, ?_⟩
    rcases hr with hr | ⟨g2, o2, e4, h1, h2, h3⟩
    · exact .inl hr
    · rw [e3] at e4
      cases e4
      refine .inr ⟨g, 0, e3, h1, h2, fun j hj => ⟨?_, by simp [World.frozen?, hh]⟩⟩
      have hj : j < L.length := by simpa using hj
      have := h3 j L[j] (List.getElem?_eq_getElem hj)
      rw [this]
      simp [hj]
theorem heap_putRow {w : World} {blk off n : Nat} {d : Array Int} {os : Array Obj} {k : Nat} (hk : k < w.heap.size) (hne : k ≠ blk) : (grow (putRow (Value.int .i64) (Sort.ahead w n) blk off d) os).heap[k]? = w.heap[k]? := by
  rw [Sort.heap_grow_old _ os (by show k < (w.heap.modify blk _).size; rw [Array.size_modify]; exact hk)]
  show (w.heap.modify blk _)[k]? = _
  rw [Array.getElem?_modify, if_neg (fun e => hne e.symm)]
theorem size_putRow {w : World} {blk off n : Nat} {d : Array Int} {os : Array Obj} : w.heap.size ≤ (grow (putRow (Value.int .i64) (Sort.ahead w n) blk off d) os).heap.size := by
  show w.heap.size ≤ (w.heap.modify blk _ ++ os).size
  rw [Array.size_append, Array.size_modify]; omega
theorem below_putRow {w : World} {blk off n base : Nat} {d : Array Int} {os : Array Obj} (hb : base ≤ blk) (hs : base ≤ w.heap.size) : Below base w (grow (putRow (Value.int .i64) (Sort.ahead w n) blk off d) os) :=
  ⟨rfl, rfl, rfl, size_putRow, fun k hk => heap_putRow (by omega) (by omega)⟩
theorem grow_none (w : World) : grow w #[] = w := by show { w with heap := w.heap ++ #[] } = w; rw [Array.append_empty]
theorem sort_row (l : List Int) (A : Option Addr) (c : Nat) (w : World) {P : Nat → Prop} (hl : RowH w P A l) (hll : l.length ≤ 1000000) (base : Nat) (hP : ∀ g, P g → base ≤ g) (hs : base ≤ w.heap.size) :
    Calls Try.prog 29 #[.slice A l.length c] w fun e w' => e = .returned (.tuple #[]) ∧ RowH w' P A (l.mergeSort leI) ∧ Below base w w' ∧ ∀ k, k < w.heap.size → (∀ o, A ≠ some ⟨k, o, none⟩) → w'.heap[k]? = w.heap[k]? := by
  rcases hl with rfl | ⟨g, o, rfl, hp, hg, hh⟩
  · refine (AnyM.slices_Sort_int_none Try.sortA A c w).mono ?_
    rintro e w' ⟨he, rfl⟩
    exact ⟨he, .inl (by simp), Below.refl _ _, fun _ _ _ => rfl⟩
  · refine (AnyM.slices_Sort_int Try.sortA g o c l w hh hg (by omega)).mono ?_
    rintro e w' ⟨he, n, os, rfl⟩
    refine ⟨he, .inr ⟨g, o, rfl, hp, Nat.lt_of_lt_of_le hg size_putRow, ?_⟩, below_putRow (hP g hp) hs, fun k hk hne => heap_putRow hk fun e => hne o (by rw [e])⟩
    refine holds_grow _ _ _ _ _ _ (by show g < (w.heap.modify g _).size; rw [Array.size_modify]; exact hg) ?_
    exact holds_putRow _ _ _ _ l.toArray _ (holds_ahead _ _ _ _ _ _ hh) (by simp)
theorem sort_is {l S : List Int} (hd : l.Nodup) (hS : S.Pairwise (· < ·)) (h : ∀ x, x ∈ l ↔ x ∈ S) : l.mergeSort leI = S := by
  have hp : S.Perm l := (List.perm_ext_iff_of_nodup (hS.imp fun {a b} hab => by omega) hd).2 fun x => (h x).symm
  rw [← mergeSort_of_perm_i hp, rise_sort hS]
end Go.Proofs.Ytbppkflgokfjhaa
namespace Go.Proofs.Ytbppkflgokfjhaa
open Go.RowKit
section
variable {α : Type} {E : TypeId} {n : Nat} {f : α → List Value}
theorem wpList_append_long {S : TypeId} {i0 : TypeInfo} {z : Value} {nb : Nat}
    {w : World} {ops : Array Oper} {rest : List Oper} {o : Oper} {a : Act} {Q : Exit → Act → World → Prop} (hg : o.guard = none) (s x : Operand) (ho : o.op = .call { callee := .builtin .append, args := #[s, x], argTypes := #[S, S] }) {base : Nat} {v : Value} {X : List α}
    (hs : a.eval s = v) (hown : OwnR E n f base w v X) {g2 o2 c2 : Nat} {L2 : List α} (hx : a.eval x = .slice (some ⟨g2, o2, none⟩) L2.length c2) (hL : AtR f n w g2 o2 L2) (h0 : 0 < L2.length) {N : Nat} (hN : X.length + L2.length = N) {Z : List α} (hZ : X ++ L2 = Z)
    (hu : Try.prog.underlying S = some (.slice E)) (hi0 : Try.prog.info? E = some i0) (hz0 : i0.zero = some z) (hz1 : i0.size = n) (hz2 : i0.bytes = nb) (hzc : z.cells.size = n) (hn0 : 0 < n)
    (hf : ∀ q, (f q).length = n) (h1c : ∀ q, ∀ u ∈ f q, u.oneCell' = true) (hroom : nb * (X.length + L2.length) ≤ 200000000) (hlen : X.length + L2.length ≤ 25000000) (hbase : base ≤ w.heap.size)
    (h : ∀ g cap w', OwnR E n f base w' (.slice (some ⟨g, 0, none⟩) N cap) Z → w.grownBy w' v.ownBlock → (v.ownBlock = some g ∨ g = w.heap.size) → g < w'.heap.size → wpList Try.prog ops Q rest (a.put o.dst (.slice (some ⟨g, 0, none⟩) N cap)) w') : wpList Try.prog ops Q (o :: rest) a w := by
  subst hN hZ
  refine wpList_append_lies _ hg s x S ho base E i0 z n nb hu hi0 hz0 hz1 hz2 hzc hn0 v X.length (X.flatMap f) hs hown ⟨g2, o2, none⟩ L2.length c2 (L2.flatMap f) hx (flatR_len hf L2) ?_ ?_ h0 (by unfold maxLen; omega) ?_ hbase w.heap.size rfl fun g cap w' hown' hg' hat hlt => h g cap w' ?_ hg' hat hlt
  · intro j u hj
    obtain ⟨i, q, k, hi, hk, e⟩ := flatR_split hf hn0 hj
    have := hL i q hi k u hk
    rw [Go.WideShapes.add_plain, e, ← Nat.add_assoc]; exact this
  · intro u hu'
    obtain ⟨q, _, hq⟩ := List.mem_flatMap.1 hu'
    exact h1c q u hq
  · have e : nb * (X.length + L2.length) = (X.length + L2.length) * nb := Nat.mul_comm _ _
    omega
  · unfold OwnR
    rw [List.length_append, List.flatMap_append]
    exact hown'
theorem OwnR.cut {base : Nat} {w : World} {A : Option Addr} {N cap : Nat} {L : List α} (hf : ∀ q, (f q).length = n) (h : OwnR E n f base w (.slice A N cap) L) (hne : 0 < L.length) (k : Nat) (hk : k ≤ L.length) : OwnR E n f base w (.slice A k cap) (L.take k) := by
  obtain ⟨h1, h2⟩ := h
  have hkl : (L.take k).length = k := by rw [List.length_take]; omega
  rcases h2 with ⟨_, hz⟩ | ⟨g, c, cur, e, h3, h4, h5, h6, h7, h8⟩
  · omega
  · simp only [Value.slice.injEq] at e
    obtain ⟨rfl, rfl, rfl⟩ := e
    refine ⟨by rw [flatR_len hf, hkl], .inr ⟨g, cap, cur, by rw [hkl], h3, h4, by omega, h6, h7, ?_⟩⟩
    rw [hkl]
    have e2 : (L.take k).flatMap f = (L.flatMap f).take (k * n) := by
      conv => rhs; rw [← List.take_append_drop k L, List.flatMap_append, List.take_append_of_le_length (by rw [flatR_len hf, hkl]; exact Nat.le_refl _), List.take_of_length_le (by rw [flatR_len hf, hkl]; exact Nat.le_refl _)]
    rw [e2, ← h8, List.take_take, Nat.min_eq_left (Nat.mul_le_mul_right n hk)]
end
end Go.Proofs.Ytbppkflgokfjhaa
namespace Go.Proofs.Ytbppkflgokfjhaa
open Go.RowKit Go.Maps Go.Sort
theorem run_append_same {P : Program} (w : World) (t ty e : TypeId) (i : TypeInfo) (ht : P.underlying t = some (.slice e)) (hi : P.info? e = some i) (s A : Option Addr) (N c c2 : Nat) (hN : N ≤ c) :
    (Builtin.append_ #[t, t] ty #[.slice s N c, .slice A 0 c2]).run P w = .ok (.slice s N c) w := by
  cases s <;> cases A <;> simp [Builtin.append_, run_underlying ht, sizeOf, typeInfo, hi, Builtin.lenOf, Builtin.firstCells, loadCells, loadCellsFrom, storeCells, hN]
theorem grown_refl (w : World) (r : Option Nat) : w.grownBy w r := ⟨rfl, rfl, rfl, Nat.le_refl _, fun _ _ _ => rfl⟩
section
variable {i0 : TypeInfo} {z : Value} {w : World} {ops : Array Oper} {rest : List Oper} {o : Oper} {a : Act} {K : Act → World → Prop} {Q : Exit → Act → World → Prop} {E0 : Prop} {base : Nat} {v : Value} {X L2 Z : List Int} {A2 : Option Addr} {c2 : Nat} {P : Nat → Prop}
theorem row_at {w : World} {P : Nat → Prop} {g o : Nat} {l : List Int} (h : ∀ (i : Nat) (x : Int), l[i]? = some x → w.cell? ⟨g, o + i, none⟩ = some (.int .i64 x)) : AtR inW 1 w g o l := fun i x hi j u hj => by
  cases j with
  | zero =>
    have := h i x hi
    rw [Nat.mul_one, Nat.add_zero, this]
    exact hj
  | succ j => simp [inW] at hj
theorem step_append_all (hg : o.guard = none) (s x : Operand) (ho : o.op = .call { callee := .builtin .append, args := #[s, x], argTypes := #[23, 23] })
    (hs : a.eval s = v) (hown : OwnR 3 1 inW base w v X) (hx : a.eval x = .slice A2 L2.length c2) (hL : RowI w P A2 L2) (hZ : X ++ L2 = Z)
    (hi0 : Try.prog.info? 3 = some i0) (hz0 : i0.zero = some z) (hz1 : i0.size = 1) (hz2 : i0.bytes = 8) (hzc : z.cells.size = 1) (hlen : Z.length ≤ 2000000) (hbase : base ≤ w.heap.size)
    (h : ∀ v' w', OwnR 3 1 inW base w' v' Z → w.grownBy w' v.ownBlock → (v'.ownBlock = v.ownBlock ∨ v'.ownBlock = some w.heap.size) → K (a.put o.dst v') w') :
    if Region.wanted o (yielded ops a.tmps) = true then Oper.wp Try.prog o a w K Q else E0 := by
  rcases hL with rfl | ⟨g2, o2, rfl, _, _, hc⟩
  · rw [List.append_nil] at hZ
    subst hZ
    obtain ⟨A, cap, e, hk, _⟩ := own_rowG hown
    have hw : Region.wanted o (yielded ops a.tmps) = true := by simp [Region.wanted, hg]
    rw [if_pos hw]
    unfold Oper.wp execOp
    have hx' : a.eval x = .slice A2 0 c2 := hx
    simp only [ho, Go.resolve, invoke, builtin, Sem.run_bind, Sem.run_pure, Result.andThen_ok, List.map_toArray, List.map_cons, List.map_nil, hs, hx', e, run_append_same w 23 o.type 3 i0 Try.underlying23 hi0 A A2 X.length cap c2 hk]
    have := h v w hown (grown_refl _ _) (.inl rfl)
    rw [e] at this
    exact this
  · by_cases hne : L2 = []
    · subst hne
      rw [List.append_nil] at hZ
      subst hZ
      obtain ⟨A, cap, e, hk, _⟩ := own_rowG hown
      have hw : Region.wanted o (yielded ops a.tmps) = true := by simp [Region.wanted, hg]
      rw [if_pos hw]
      unfold Oper.wp execOp
      have hx' : a.eval x = .slice (some ⟨g2, o2, none⟩) 0 c2 := hx
      simp only [ho, Go.resolve, invoke, builtin, Sem.run_bind, Sem.run_pure, Result.andThen_ok, List.map_toArray, List.map_cons, List.map_nil, hs, hx', e, run_append_same w 23 o.type 3 i0 Try.underlying23 hi0 A (some ⟨g2, o2, none⟩) X.length cap c2 hk]
      have := h v w hown (grown_refl _ _) (.inl rfl)
      rw [e] at this
      exact this
    · refine step_append_rows (f := inW) (n := 1) (E := 3) (nb := 8) (X := X) (base := base) hg s x ho hs hown (L2 := L2) hx (row_at (P := P) hc) (List.length_pos_iff.2 hne) (N := Z.length) (by rw [← hZ, List.length_append]) (Z := Z) hZ Try.underlying23 hi0 hz0 hz1 hz2 hzc (by decide) (by decide) (fun _ => rfl) inW_one hlen hbase fun g cap w' h1 h2 h3 _ => h _ w' h1 h2 ?_
      rcases h3 with h3 | h3
      · exact .inl h3.symm
      · exact .inr (by rw [h3]; rfl)
theorem wpList_append_all (hg : o.guard = none) (s x : Operand) (ho : o.op = .call { callee := .builtin .append, args := #[s, x], argTypes := #[23, 23] })
    (hs : a.eval s = v) (hown : OwnR 3 1 inW base w v X) (hx : a.eval x = .slice A2 L2.length c2) (hL : RowI w P A2 L2) (hZ : X ++ L2 = Z)
    (hi0 : Try.prog.info? 3 = some i0) (hz0 : i0.zero = some z) (hz1 : i0.size = 1) (hz2 : i0.bytes = 8) (hzc : z.cells.size = 1) (hlen : Z.length ≤ 2000000) (hbase : base ≤ w.heap.size)
    (h : ∀ v' w', OwnR 3 1 inW base w' v' Z → w.grownBy w' v.ownBlock → (v'.ownBlock = v.ownBlock ∨ v'.ownBlock = some w.heap.size) → wpList Try.prog ops Q rest (a.put o.dst v') w') : wpList Try.prog ops Q (o :: rest) a w := by
  have same : ∀ (A2 : Option Addr), a.eval x = .slice A2 0 c2 → X = Z → wpList Try.prog ops Q (o :: rest) a w := fun A2 hx' hZ => by
    subst hZ
    obtain ⟨A, cap, e, hk, _⟩ := own_rowG hown
    refine wpList_plain hg fun K' hK' => ?_
    unfold Oper.wp execOp
    simp only [ho, Go.resolve, invoke, builtin, Sem.run_bind, Sem.run_pure, Result.andThen_ok, List.map_toArray, List.map_cons, List.map_nil, hs, hx', e, run_append_same w 23 o.type 3 i0 Try.underlying23 hi0 A A2 X.length cap c2 hk]
    have := h v w hown (grown_refl _ _) (.inl rfl)
    rw [e] at this
    exact hK' _ _ this
  rcases hL with rfl | ⟨g2, o2, rfl, _, _, hc⟩
  · exact same _ hx (by rw [← hZ, List.append_nil])
  · by_cases hne : L2 = []
    · subst hne
      exact same _ hx (by rw [← hZ, List.append_nil])
    · refine wpList_append_rows (f := inW) (n := 1) (E := 3) (nb := 8) (X := X) (base := base) hg s x ho hs hown (L2 := L2) hx (row_at (P := P) hc) (List.length_pos_iff.2 hne) (N := Z.length) (by rw [← hZ, List.length_append]) (Z := Z) hZ Try.underlying23 hi0 hz0 hz1 hz2 hzc (by decide) (by decide) (fun _ => rfl) inW_one hlen hbase fun g cap w' h1 h2 h3 _ => h _ w' h1 h2 ?_
      rcases h3 with h3 | h3
      · exact .inl h3.symm
      · exact .inr (by rw [h3]; rfl)
end
theorem one_rowI (w : World) (q : Int) : RowI (w.alloc (.cells #[.int .i64 q] 3)) (fun _ => True) (some ⟨w.heap.size, 0, none⟩) [q] :=
  .inr ⟨w.heap.size, 0, rfl, trivial, by simp, fun i x hi => by
    have := one_row (f := inW) (E := 3) (n := 1) w q i x hi 0 _ rfl
    rw [show 0 + i = 0 + i * 1 + 0 from by omega]
    exact this⟩
end Go.Proofs.Ytbppkflgokfjhaa
namespace Go.Proofs.Ytbppkflgokfjhaa
open Go.RowKit
structure Sav (C : Nat → Prop) (w w' : World) : Prop where
  os : w'.os = w.os
  tape : w'.tape = w.tape
  output : w'.output = w.output
  size : w.heap.size ≤ w'.heap.size
  block : ∀ k, k < w.heap.size → ¬ C k → w'.heap[k]? = w.heap[k]?
theorem Sav.refl (C : Nat → Prop) (w : World) : Sav C w w := ⟨rfl, rfl, rfl, Nat.le_refl _, fun _ _ _ => rfl⟩
theorem Sav.trans {C : Nat → Prop} {a b c : World} (h : Sav C a b) (k : Sav C b c) : Sav C a c :=
  ⟨k.os.trans h.os, k.tape.trans h.tape, k.output.trans h.output, Nat.le_trans h.size k.size, fun i hi hn => (k.block i (Nat.lt_of_lt_of_le hi h.size) hn).trans (h.block i hi hn)⟩
theorem Sav.of_below {C : Nat → Prop} {w w' : World} (h : Below w.heap.size w w') : Sav C w w' := ⟨h.os, h.tape, h.output, h.size, fun k hk _ => h.block k hk⟩
theorem Sav.mono {C C' : Nat → Prop} {w w' : World} (h : Sav C w w') (hc : ∀ k, k < w.heap.size → C k → C' k) : Sav C' w w' := ⟨h.os, h.tape, h.output, h.size, fun k hk hn => h.block k hk fun hk' => hn (hc k hk hk')⟩
theorem Sav.below {C : Nat → Prop} {n : Nat} {w w' : World} (h : Sav C w w') (hn : ∀ k, k < n → ¬ C k) (hs : n ≤ w.heap.size) : Below n w w' := ⟨h.os, h.tape, h.output, h.size, fun k hk => h.block k (Nat.lt_of_lt_of_le hk hs) (hn k hk)⟩
theorem Sav.cell {C : Nat → Prop} {w w' : World} (h : Sav C w w') {p : Addr} {v : Value} (hn : ¬ C p.block) (hv : w.cell? p = some v) : w'.cell? p = some v := by
  rw [World.cell?_of_block (w := w) (h.block p.block (Lib.lt_of_cell hv) hn)]; exact hv
theorem Sav.frozen {C : Nat → Prop} {w w' : World} (h : Sav C w w') {p : Addr} (hn : ¬ C p.block) (hl : p.block < w.heap.size) (hv : w.frozen? p = false) : w'.frozen? p = false := by
  rw [World.frozen?_of_block (w := w) (h.block p.block hl hn)]; exact hv
theorem putObj_other {w : World} {r k : Nat} (o : Obj) (h : k ≠ r) : (w.putObj r o).heap[k]? = w.heap[k]? := World.putObj_heap_other h
theorem Sav.putObj {C : Nat → Prop} {a w : World} (h : Sav C a w) {r : Nat} (hr : C r ∨ a.heap.size ≤ r) (o : Obj) : Sav C a (w.putObj r o) :=
  ⟨h.os, h.tape, h.output, by rw [World.putObj_size]; exact h.size, fun k hk hn => by
    rw [putObj_other o (by rintro rfl; rcases hr with hr | hr; exact hn hr; omega)]
    exact h.block k hk hn⟩
theorem Sav.setCell {C : Nat → Prop} {a w : World} (h : Sav C a w) {g : Nat} (hr : C g ∨ a.heap.size ≤ g) (o : Nat) (u : Value) : Sav C a (w.setCell ⟨g, o, none⟩ u) := by
  have hb := (Below.refl 0 w).setCell (p := ⟨g, o, none⟩) (Nat.zero_le _) u
  refine ⟨hb.os.trans h.os, hb.tape.trans h.tape, hb.output.trans h.output, Nat.le_trans h.size hb.size, fun k hk hn => ?_⟩
  rw [Below.heap_setCell w ⟨g, o, none⟩ u k (by rcases hr with hr | hr; exact fun e => hn (e ▸ hr); exact fun e => by simp at e; omega)]
  exact h.block k hk hn
theorem Sav.alloc {C : Nat → Prop} {a w : World} (h : Sav C a w) (o : Obj) : Sav C a (w.alloc o) := h.trans (Sav.of_below ((Below.refl _ w).alloc (Nat.le_refl _) o))
theorem Sav.drew {C : Nat → Prop} {a w : World} (h : Sav C a w) : Sav C a w.drew := ⟨h.os, h.tape, h.output, h.size, h.block⟩
theorem below_putObj {B : Nat} {a w : World} (h : Below B a w) {r : Nat} (hr : B ≤ r) (o : Obj) : Below B a (w.putObj r o) :=
  ⟨h.os, h.tape, h.output, by rw [World.putObj_size]; exact h.size, fun k hk => by rw [putObj_other o (by omega)]; exact h.block k hk⟩
theorem Sav.from {C : Nat → Prop} {l : Nat} {w A B : World} (h : Sav C w A) (k : Sav (fun j => C j ∨ j = l) A B) (hl : w.heap.size ≤ l) : Sav C w B :=
  ⟨k.os.trans h.os, k.tape.trans h.tape, k.output.trans h.output, Nat.le_trans h.size k.size, fun i hi hn => (k.block i (Nat.lt_of_lt_of_le hi h.size) (by rintro (e | rfl); exact hn e; omega)).trans (h.block i hi hn)⟩

def leftR (C : Nat → Prop) (I : World → Prop) (Ix : Code → World → Prop) (W : World) : Exit → Act → World → Prop
  | .normal, _, B => Sav C W B ∧ I B
  | .ret, _, B => Sav C W B ∧ Ix .ret B
  | .exit id, _, B => Sav C W B ∧ Ix (.exit id) B
  | .goto t, _, B => Sav C W B ∧ Ix (.goto t) B
  | .panic _, _, _ => False
  | .outgrown, _, _ => False
theorem roundAny {m m' : Nat} {P : Program} {l : Nat} {f : FuncId} {tmps : Array Value} {assign body : Code} {w : World} {R : Ending → World → Prop} (h : RoundIn Fence.wide m P l f tmps assign body w R) : RoundIn Fence.wide m' P l f tmps assign body w R :=
  ⟨h.1, fun c cs _ => h.2 c cs (room_wide _)⟩

end Go.Proofs.Ytbppkflgokfjhaa
namespace Go.Proofs.Ytbppkflgokfjhaa
open Go.RowKit
def YieldsG {α : Type} (P : Program) (g : Nat) (lb : Array Value) (xs : List α) (enc : α → Array Value → Prop) (S : Nat → Prop) (w : World) : Prop :=
  ∀ (l : Nat) (C : Nat → Prop) (J : Nat → World → Prop) (Jx : World → Prop) (W : World), Below w.heap.size w W → (∀ k, C k → ¬ S k) →
    (∀ (m i : Nat) (x : α) (args : Array Value) (A : World), xs[i]? = some x → enc x args → Sav C W A → J i A →
      YieldAt Fence.wide m P l args A fun e B => Sav C A B ∧ (e = .returned (.bool true) ∧ J (i + 1) B ∨ e = .returned (.bool false) ∧ Jx B)) →
    J 0 W → Calls P g (#[.func (.yield l) #[] #[]] ++ lb) W fun e B => (∃ v, e = .returned v) ∧ Sav C W B ∧ (J xs.length B ∨ Jx B)
theorem wp_rangeG {α : Type} {P : Program} {n : Nat} {g : Operand} {ps : Array Tmp} {assign body : Code} {Q : Exit → Act → World → Prop} {a : Act} {w : World}
    {gf : Nat} {lb : Array Value} (hg : a.eval g = .func (.func gf) #[] lb) (eg : ∀ args w, (callFunc gf args).run P w = .ok (.enter gf args) w)
    {xs : List α} {enc : α → Array Value → Prop} {S : Nat → Prop} {w0 : World} (hseq : YieldsG P gf lb xs enc S w0) (hb0 : Below w0.heap.size w0 w) (hps : ∀ x args, enc x args → args.size = ps.size)
    (C : Nat → Prop) (hC : ∀ k, C k → (k < w.heap.size ∨ w.heap.size + 2 ≤ k) ∧ ¬ S k) (hS : ∀ k, S k → k < w.heap.size)
    (I : Nat → World → Prop) (Ix : Code → World → Prop) (hI : ∀ i A B, Below A.heap.size A B → I i A → I i B) (hI2 : ∀ i A l r o, A.heap[l]? = some (.loop r) → I i A → I i (A.putObj l o)) (hIx2 : ∀ c A l r o, A.heap[l]? = some (.loop r) → Ix c A → Ix c (A.putObj l o)) (h0 : I 0 w)
    (Ax : α → Act → World → Prop) (hAx : ∀ x a' W l r o, W.heap[l]? = some (.loop r) → Ax x a' W → Ax x a' (W.putObj l o))
    (hassign : ∀ (l i : Nat) (x : α) (args : Array Value) (W : World) (K : Act → World → Prop), xs[i]? = some x → enc x args → w.heap.size ≤ W.heap.size → (∀ a' W', Below W.heap.size W W' → Ax x a' W' → K a' W') →
      assign.wpIn (Fence.wide.inRound l) n P (Exit.then K (fun _ _ _ => False)) { tmps := (ps.zip args).foldl (fun t (p, v) => t.setIfInBounds p v) a.tmps, defers := [] } W)
    (hbody : ∀ (l i : Nat) (x : α) (a' : Act) (W : World), xs[i]? = some x → Sav C w W → w.heap.size + 2 ≤ W.heap.size → I i W → Ax x a' W → body.wpIn (Fence.wide.inRound l) n P (leftR C (I (i + 1)) Ix W) a' W)
    (hdone : ∀ (D : Nat) (W : World), w.heap.size ≤ D → Sav C w W → I xs.length W → W.heap[D]? = some (.deferred (some [])) → Q .normal { a with defers := { target := .collected D, args := #[] } :: a.defers } W)
    (hstop : ∀ (D : Nat) (c : Code) (W : World), w.heap.size ≤ D → Sav C w W → Ix c W → W.heap[D]? = some (.deferred (some [])) → c.wpIn Fence.wide n P Q { a with defers := { target := .collected D, args := #[] } :: a.defers } W) :
    (Code.rangeFunc g ps assign body).wpIn Fence.wide n P Q a w := by
  refine wpIn_rangeFunc ?_
  intro fn hfn
  obtain ⟨L, hL⟩ : ∃ L : LoopState → Option Code → Loop, L = fun st pe => { state := st, pending := pe, fn, tmps := a.tmps, params := ps, assign, body, defers := w.heap.size } := ⟨_, rfl⟩
  obtain ⟨V, hV⟩ : ∃ V, (w.alloc (.deferred (some []))).alloc (.loop (L .ready none)) = V := ⟨_, rfl⟩
  have hsz : V.heap.size = w.heap.size + 2 := by rw [← hV]; simp
  have hl0 : V.heap[w.heap.size + 1]? = some (.loop (L .ready none)) := by
    have := World.alloc_heap_new (w.alloc (.deferred (some []))) (.loop (L .ready none))
    rw [World.size_alloc] at this
    rw [← hV]; exact this
  have hd0 : V.heap[w.heap.size]? = some (.deferred (some [])) := by
    rw [← hV, Below.heap_alloc _ _ _ (by simp)]; exact World.alloc_heap_new w _
  have hbV : Below w.heap.size w V := by rw [← hV]; exact ((Below.refl _ w).alloc (Nat.le_refl _) _).alloc (by simp) _
  have hlen : ∀ k, C k → k ≠ w.heap.size + 1 ∧ k ≠ w.heap.size := fun k hk => by have := (hC k hk).1; omega
  refine ⟨w.heap.size + 1, [{ target := .collected w.heap.size, args := #[] }], V, { target := .fn (.func gf) lb, args := #[.func (.yield (w.heap.size + 1)) #[] #[]] }, V, gf, #[.func (.yield (w.heap.size + 1)) #[] #[]] ++ lb, V, ?_, ?_, fun _ _ => trivial, ?_, fun h => by simp [Fence.wide] at h, ?_⟩
  · rw [← hV, hL]; exact run_enterLoop_outer _ _ _ _ _
  · simp only [Go.resolve, hg]
    simp [go_sem]
  · simp [Go.invoke, go_sem, eg]
  refine callsIn_wide.2 ((hseq (w.heap.size + 1) (fun k => C k ∨ k = w.heap.size + 1)
    (fun i A => I i A ∧ A.heap[w.heap.size + 1]? = some (.loop (L .ready none)) ∧ A.heap[w.heap.size]? = some (.deferred (some [])))
    (fun A => ∃ c, Ix c A ∧ A.heap[w.heap.size + 1]? = some (.loop (L .done (some c))) ∧ A.heap[w.heap.size]? = some (.deferred (some []))) V (hb0.trans (hbV.mono hb0.size)) ?_ ?_ ?_).mono ?_)
  · rintro k (hk | rfl)
    · exact (hC k hk).2
    · exact fun h => by have := hS _ h; omega
  · rintro m i x args A hx he hs ⟨h1, h2, h3⟩
    have hy := run_yield (P := P) (args := args) h2 (by rw [hL]; exact hps x args he)
    rw [hL] at hy
    have hsw : Sav C w A := Sav.from (Sav.of_below hbV) hs (by omega)
    refine ⟨fn, _, assign, body, hy, roundAny (m := n) (roundIn_of_wpIn trivial (hassign _ i x args A _ hx he hsw.size fun a' A1 b1 hax => ?_))⟩
    have l1 : A1.heap[w.heap.size + 1]? = some (.loop (L .ready none)) := (b1.block _ (Array.getElem?_eq_some_iff.1 h2).1).trans h2
    have d1 : A1.heap[w.heap.size]? = some (.deferred (some [])) := (b1.block _ (Array.getElem?_eq_some_iff.1 h3).1).trans h3
    have q1 : w.heap.size + 1 < A1.heap.size := (Array.getElem?_eq_some_iff.1 l1).1
    refine ⟨_, run_beginRound l1 (by rw [hL]), ?_⟩
    obtain ⟨A2, hA2⟩ : ∃ A2, A1.putObj (w.heap.size + 1) (.loop { L .ready none with state := .busy }) = A2 := ⟨_, rfl⟩
    have l2 : A2.heap[w.heap.size + 1]? = some (.loop (L .busy none)) := by rw [← hA2, World.putObj_heap_same q1, hL]
    have d2 : A2.heap[w.heap.size]? = some (.deferred (some [])) := by rw [← hA2, putObj_other _ (by omega)]; exact d1
    have s2 : Sav (fun k => C k ∨ k = w.heap.size + 1) A A2 := by rw [← hA2]; exact (Sav.of_below b1).putObj (.inl (.inr rfl)) _
    have q2 : w.heap.size + 1 < A2.heap.size := (Array.getElem?_eq_some_iff.1 l2).1
    have i2 : I i A2 := by
      rw [← hA2]
      exact hI2 i A1 _ _ _ l1 (hI i A A1 b1 h1)
    have x2 : Ax x a' A2 := by rw [← hA2]; exact hAx x a' A1 _ _ _ l1 hax
    rw [hA2]
    refine wpIn_mono (hbody _ i x a' A2 hx (hsw.from s2 (by omega)) q2 i2 x2) ?_
    have fin : ∀ (j : Option Code) (B : World), Sav C A2 B → ∃ B', (Instr.endRound (w.heap.size + 1) j).run P B = .ok (.bool j.isNone) B' ∧ B'.heap[w.heap.size + 1]? = some (.loop (L (if j.isNone then .ready else .done) j)) ∧
        B'.heap[w.heap.size]? = some (.deferred (some [])) ∧ Sav (fun k => C k ∨ k = w.heap.size + 1) A B' ∧ (∀ k, I k B → I k B') ∧ (∀ c, Ix c B → Ix c B') := fun j B hB => by
      have l3 : B.heap[w.heap.size + 1]? = some (.loop (L .busy none)) := (hB.block _ q2 fun h => (hlen _ h).1 rfl).trans l2
      have d3 : B.heap[w.heap.size]? = some (.deferred (some [])) := (hB.block _ (by omega) fun h => (hlen _ h).2 rfl).trans d2
      have q3 : w.heap.size + 1 < B.heap.size := (Array.getElem?_eq_some_iff.1 l3).1
      refine ⟨_, run_endRound j l3, ?_, ?_, (s2.trans (hB.mono fun _ _ h => .inl h)).putObj (.inl (.inr rfl)) _, fun k hk => hI2 k B _ _ _ l3 hk, fun c hc => hIx2 c B _ _ _ l3 hc⟩
      · rw [World.putObj_heap_same q3, hL]
      · rw [putObj_other _ (by omega)]; exact d3
    rintro e a3 B hp
    cases e with
    | normal =>
      obtain ⟨hB, hi⟩ := hp
      obtain ⟨B', r, l4, d4, s4, b4, b5⟩ := fin none B hB
      exact ⟨_, B', r, s4, .inl ⟨rfl, b4 _ hi, l4, d4⟩⟩
    | ret =>
      obtain ⟨hB, hi⟩ := hp
      obtain ⟨B', r, l4, d4, s4, b4, b5⟩ := fin (some .ret) B hB
      exact ⟨_, B', r, s4, .inr ⟨rfl, .ret, b5 _ hi, l4, d4⟩⟩
    | exit id =>
      obtain ⟨hB, hi⟩ := hp
      obtain ⟨B', r, l4, d4, s4, b4, b5⟩ := fin (some (.exit id)) B hB
      exact ⟨_, B', r, s4, .inr ⟨rfl, .exit id, b5 _ hi, l4, d4⟩⟩
    | goto t =>
      obtain ⟨hB, hi⟩ := hp
      obtain ⟨B', r, l4, d4, s4, b4, b5⟩ := fin (some (.goto t)) B hB
      exact ⟨_, B', r, s4, .inr ⟨rfl, .goto t, b5 _ hi, l4, d4⟩⟩
    | panic ch => exact hp.elim
    | outgrown => exact hp.elim
  · exact ⟨hI 0 w V hbV h0, hl0, hd0⟩
  · rintro e B ⟨⟨v, rfl⟩, hs, hJ⟩
    have hsw : Sav C w B := Sav.from (Sav.of_below hbV) hs (by omega)
    rcases hJ with ⟨h1, h2, h3⟩ | ⟨c, h1, h2, h3⟩
    · exact ⟨none, _, by have := run_endLoop (P := P) h2 (by rw [hL]; simp); rw [hL] at this; exact this, hdone _ _ (Nat.le_refl _) (hsw.putObj (.inr (by omega)) _) (hI2 _ _ _ _ _ h2 h1) (by rw [putObj_other _ (by omega)]; exact h3)⟩
    · exact ⟨some c, _, by have := run_endLoop (P := P) h2 (by rw [hL]; simp); rw [hL] at this; exact this, hstop _ c _ (Nat.le_refl _) (hsw.putObj (.inr (by omega)) _) (hIx2 c _ _ _ _ h2 h1) (by rw [putObj_other _ (by omega)]; exact h3)⟩
end Go.Proofs.Ytbppkflgokfjhaa
namespace Go.Proofs.Ytbppkflgokfjhaa
open Go.RowKit Go.Maps Go.Sort Go.Shelf
attribute [local go_sem] Oper.semAt_some
set_option maxHeartbeats 2000000 in
set_option maxRecDepth 100000 in
theorem gback_any (A : Option Addr) (cap : Nat) (k : Nat) (w : World) :
    Calls Try.prog 26 #[.slice A k cap] w fun e w' => e = .returned (.func (.func 44) #[] #[.pointer (some ⟨w.heap.size, 0, none⟩)]) ∧ w' = w.alloc (.cells #[.slice A k cap] 23) := by
  go_enter Try.func26, Try.ntmps26
  go_wp2_with fail
  go_ret
  exact ⟨rfl, rfl⟩
theorem vintG {a b : Int} (h : a = b) : Value.int .i64 a = .int .i64 b := by rw [h]
def encG2 (q : Int) (args : Array Value) : Prop := ∃ i : Int, args = #[.int .i64 i, .int .i64 q]
def RowB (w : World) (A : Option Addr) (l : List Int) : Prop := l ≠ [] → ∃ g o, A = some ⟨g, o, none⟩ ∧ ∀ (i : Nat) (x : Int), l[i]? = some x → w.cell? ⟨g, o + i, none⟩ = some (.int .i64 x)
theorem RowB.below {w w' : World} {A : Option Addr} {l : List Int} (h : RowB w A l) (hb : Below w.heap.size w w') : RowB w' A l := fun hne => by
  obtain ⟨g, o, e, hc⟩ := h hne
  exact ⟨g, o, e, fun i x hi => keep_cell hb (hc i x hi)⟩
set_option maxHeartbeats 4000000 in
set_option maxRecDepth 100000 in
theorem gback_yields {l : List Int} (hl : l.length ≤ maxLen) {w : World} {Bs : Nat} {A : Option Addr} {cap : Nat} (hB : w.cell? ⟨Bs, 0, none⟩ = some (.slice A l.length cap)) (hc : RowB w A l) :
    YieldsG Try.prog 44 #[.pointer (some ⟨Bs, 0, none⟩)] l.reverse encG2 (fun k => k = Bs ∨ l ≠ [] ∧ ∃ o, A = some ⟨k, o, none⟩) w := by
  intro L C J Jx W hb hC hY h0
  show Calls Try.prog 44 #[.func (.yield L) #[] #[], .pointer (some ⟨Bs, 0, none⟩)] W _
  have hBW : W.cell? ⟨Bs, 0, none⟩ = some (.slice A l.length cap) := keep_cell hb hB
  have HC := Lib.hid (hc.below hb)
  have hnB : ¬ C Bs := fun h => hC Bs h (.inl rfl)
  unfold maxLen at hl
  clear hB hc
  refine (callsIn_wide (n := 9)).1 (callsIn_of_wp Try.func44 rfl trivial ?_ rfl)
  simp only [Try.ntmps44, List.size_toArray, List.length_cons, List.length_nil, Nat.reduceAdd, Nat.reduceSub, Array.replicate_succ, Array.replicate_zero, List.push_toArray, List.append_toArray, List.nil_append, List.cons_append]
  gi_wp2
  gi_loopw [3] (fun n wr => ∃ k : Nat, k ≤ l.length ∧ n = .int .i64 ((l.length : Int) - 1 - (k : Int)) ∧ Sav C W wr ∧ J k wr) (fun n _ => (RowKit.intOf n + 1).toNat)
  case atStart => exact ⟨0, Nat.zero_le _, vintG (by omega), Sav.refl _ _, h0⟩
  case round =>
    obtain ⟨k, hk, rfl, hs, hj⟩ := hrel
    have hbs : wr.cell? ⟨Bs, 0, none⟩ = some (.slice A l.length cap) := hs.cell hnB hBW
    by_cases hlt : k < l.length
    · obtain ⟨m, hm⟩ : ∃ m : Nat, l.length = m + 1 + k := ⟨l.length - 1 - k, by omega⟩
      obtain ⟨q, hq⟩ : ∃ q, l[m]? = some q := ⟨_, List.getElem?_eq_getElem (by omega)⟩
      have hx : l.reverse[k]? = some q := by rw [List.getElem?_reverse hlt, show l.length - 1 - k = m from by omega]; exact hq
      have hne : l ≠ [] := by rintro rfl; simp at hlt
      obtain ⟨g, o, rfl, hat⟩ := HC.out hne
      have hng : ¬ C g := fun h => hC g h (.inr ⟨hne, o, rfl⟩)
      have c0 : wr.cell? ⟨g, o + m, none⟩ = some (.int .i64 q) := hs.cell hng (hat m q hq)
      have em : (l.length : Int) - 1 - (k : Int) = (m : Int) := by omega
      rw [em]
      obtain ⟨fn, tmps, assign, bd, hy, hR⟩ := hY 8 k q _ wr hx ⟨(m : Int), rfl⟩ hs hj
      have HN : Hid ((m : Int) - 1 = (l.length : Int) - 1 - ((k + 1 : Nat) : Int)) := Lib.hid (by omega)
      have ml : m < l.length := by omega
      clear hat hq hx em hm
      gi_wp2
      refine RoundIn.mono hR ?_
      rintro e V2 ⟨hs2, ⟨rfl, hj2⟩ | ⟨rfl, hx2⟩⟩
      · have hs3 := hs.trans hs2
        clear hy hR c0
        gi_wp2
        go_roundw
        case rel => exact ⟨k + 1, by omega, vintG (by first | exact HN.out | omega), hs3, hj2⟩
        case measure => simp [RowKit.intOf]
      · have hs3 := hs.trans hs2
        gi_wp2
        refine bodyPost_ret (results_none rfl _ _ _) rfl ?_
        exact ⟨⟨_, rfl⟩, hs3, .inr hx2⟩
    · have hk2 : k = l.length := by omega
      subst hk2
      rw [show (l.length : Int) - 1 - (l.length : Int) = -1 from by omega]
      gi_wp2
      go_end0
      exact ⟨⟨_, rfl⟩, hs, .inl (by rw [List.length_reverse]; exact hj)⟩
theorem run_append_all {i0 : TypeInfo} {z : Value} {w : World} {base : Nat} {v : Value} {X L2 : List Int} {A2 : Option Addr} {c2 : Nat} {P : Nat → Prop} (ty : TypeId) (hown : OwnR 3 1 inW base w v X) (hL : RowI w P A2 L2)
    (hi0 : Try.prog.info? 3 = some i0) (hz0 : i0.zero = some z) (hz1 : i0.size = 1) (hz2 : i0.bytes = 8) (hzc : z.cells.size = 1) (hlen : X.length + L2.length ≤ 2000000) (hbase : base ≤ w.heap.size) :
    ∃ v' w', (Builtin.append_ #[23, 23] ty #[v, .slice A2 L2.length c2]).run Try.prog w = .ok v' w' ∧ OwnR 3 1 inW base w' v' (X ++ L2) ∧ w.grownBy w' v.ownBlock ∧ (v'.ownBlock = v.ownBlock ∨ v'.ownBlock = some w.heap.size) := by
  by_cases hne : L2 = []
  · subst hne
    obtain ⟨A, cap, e, hk, _⟩ := own_rowG hown
    refine ⟨v, w, ?_, by rw [List.append_nil]; exact hown, grown_refl _ _, .inl rfl⟩
    rw [e]
    exact run_append_same w 23 ty 3 i0 Try.underlying23 hi0 A A2 X.length cap c2 hk
  · rcases hL with h | ⟨g2, o2, rfl, _, _, hc⟩
    · exact absurd h hne
    · have hfl : (L2.flatMap inW).length = L2.length * 1 := flatR_len (f := inW) (n := 1) (fun _ => rfl) L2
      obtain ⟨g, cap, w', hr, h1, h2, h3, _⟩ := run_append_lies (P := Try.prog) (w := w) 23 ty base 3 i0 z 1 8 Try.underlying23 hi0 hz0 hz1 hz2 hzc (by decide) v X.length (X.flatMap inW) hown ⟨g2, o2, none⟩ L2.length c2 (L2.flatMap inW) hfl (fun j u hj => by
        obtain ⟨i, q, k, hi, hk, e⟩ := flatR_split (f := inW) (n := 1) (fun _ => rfl) (by decide) hj
        have := row_at (P := P) hc i q hi k u hk
        rw [Go.WideShapes.add_plain, e, ← Nat.add_assoc]; exact this) (fun u hu => by
        obtain ⟨q, _, hq⟩ := List.mem_flatMap.1 hu
        exact inW_one q u hq) (List.length_pos_iff.2 hne) (by unfold maxLen; omega) (by omega) hbase _ rfl
      refine ⟨_, w', hr, ?_, h2, ?_⟩
      · unfold OwnR
        rw [List.length_append, List.flatMap_append]
        exact h1
      · rcases h3 with h3 | h3
        · exact .inl h3.symm
        · exact .inr (by rw [h3]; rfl)
theorem stepIn_append {l n : Nat} {w w' : World} {ops : Array Oper} {o : Oper} {a : Act} {K : Act → World → Prop} {Q : Exit → Act → World → Prop} {E0 : Prop} (hg : o.guard = none) (s x : Operand) (t : TypeId) (ho : o.op = .call { callee := .builtin .append, args := #[s, x], argTypes := #[t, t] }) {v u r : Value}
    (hs : a.eval s = v) (hx : a.eval x = u) (hrun : (Builtin.append_ #[t, t] o.type #[v, u]).run Try.prog w = .ok r w') (h : K (a.put o.dst r) w') :
    if Region.wanted o (yielded ops a.tmps) = true then Oper.wpIn (Fence.wide.inRound l) n Try.prog o a w K Q else E0 := by
  have hw : Region.wanted o (yielded ops a.tmps) = true := by simp [Region.wanted, hg]
  rw [if_pos hw]
  refine ⟨fun f _ => trivial, ?_⟩
  rw [Fence.inRound_round, Oper.semAt_some _ _ _ (fun c => by rw [ho]; intro e; cases e)]
  unfold execOp
  simp only [ho, Go.resolve, invoke, builtin, Sem.run_bind, Sem.run_pure, Result.andThen_ok, List.map_toArray, List.map_cons, List.map_nil, hs, hx, hrun]
  exact h
end Go.Proofs.Ytbppkflgokfjhaa
