/- Texts joined: RuB, EwK, MoG, RfA. -/
import Derived.Test.YthaoalmhhgllmaaDoorMb21
import Derived.Test.YthaoalmhhgllmaaDoorMb10
import Derived.Test.YthaoalmhhgllmaaDoorMb04
import Derived.Test.YthaoalmhhgllmaaDoorMb13
import Derived.Test.YthaoalmhhgllmaaDoorMb07
import Derived.RangeFuncNested
import Derived.RangeFuncBound
import Derived.RangeFuncCalls
import Derived.RangeFuncLeaves
import Derived.Below
import Derived.OwnWalk
import Derived.Lib.AtoiErrMem
import Derived.WalkKit
import Derived.Test.YthaoalmhhgllmaaDoorProg
set_option linter.all false
namespace Go.Proofs.YthaoalmhhgllmaaDoor
open Go.RowKit
def PostRc (w : World) : PRes → Ending → World → Prop
  | .good t, e, w' => (∃ A ca, e = .returned (.tuple #[.agg #[.int .i64 t.kind, .int .i64 t.num, .int .i64 t.c1, .int .i64 t.r1, .int .i64 t.c2, .int .i64 t.r2, .string ⟨t.word.toArray⟩, .slice A t.kids.length ca], .int .i64 0, .int .i64 0]) ∧ KVc w' (fun b => w.heap.size ≤ b) t A ca) ∧ Below w.heap.size w w'
  | .fail a c, e, w' => e = .returned (.tuple #[.agg #[.int .i64 0, .int .i64 0, .int .i64 0, .int .i64 0, .int .i64 0, .int .i64 0, .string ⟨#[]⟩, .slice none 0 0], .int .i64 a, .int .i64 c]) ∧ Below w.heap.size w w'
set_option maxHeartbeats 2000000 in
set_option maxRecDepth 10000 in
theorem rparse_err (s : ByteArray) (hs : s.size ≤ 9223372036854775807) (w : World) {a c : Int} (h0 : (c != 0) = true) (h1 : ansP s.data.toList = a) (h2 : ansE s.data.toList = c) :
    Calls Tryd.prog 18 #[.string s] w (PostRc w (.fail a c)) := by
  have HSc := Lib.hid (fun w => lscan_any s hs w)
  rw [h1, h2] at HSc
  clear h1 h2
  go_enter Tryd.func18, Tryd.ntmps18
  go_wp2_with fail
  refine (HSc.out _).mono ?_; rintro e w1 ⟨v, rfl, hrow, b1⟩
  have k0 := keep_fresh b1 0 (v := .int .i64 0) rfl
  have k1 := keep_fresh b1 1 (v := .int .i64 0) rfl
  have k2 := keep_fresh b1 2 (v := .int .i64 0) rfl
  have k3 := keep_fresh b1 3 (v := .int .i64 0) rfl
  have k4 := keep_fresh b1 4 (v := .int .i64 0) rfl
  have k5 := keep_fresh b1 5 (v := .int .i64 0) rfl
  have k6 := keep_fresh b1 6 (v := .string ⟨#[]⟩) rfl
  have k7 := keep_fresh b1 7 (v := .slice none 0 0) rfl
  have f0 := fresh_frozen b1 0
  have f1 := fresh_frozen b1 1
  have f2 := fresh_frozen b1 2
  have f3 := fresh_frozen b1 3
  have f4 := fresh_frozen b1 4
  have f5 := fresh_frozen b1 5
  have f6 := fresh_frozen b1 6
  have f7 := fresh_frozen b1 7
  have h1 : Below w.heap.size w w1 := ((Below.refl _ _).alloc (Nat.le_refl _) _).trans (b1.mono (by simp))
  have z1 : w.heap.size < w1.heap.size := by have := b1.size; simp at this; omega
  clear b1 hrow
  go_wp2_with fail
  exact bodyPost_ret (v := .tuple #[.agg #[.int .i64 0, .int .i64 0, .int .i64 0, .int .i64 0, .int .i64 0, .int .i64 0, .string ⟨#[]⟩, .slice none 0 0], .int .i64 a, .int .i64 c]) (by simp [results, Tryd.results18, go_sem, k0, k1, k2, k3, k4, k5, k6, k7, z1]) rfl ⟨rfl, by
    with_reducible repeat' (first | exact h1 | refine Below.setCell ?_ (by exact Nat.le_refl w.heap.size) _ | refine Below.alloc ?_ (by first | omega | (simp; omega)) _)⟩
set_option maxHeartbeats 2000000 in
set_option maxRecDepth 10000 in
theorem rparse_bad (s : ByteArray) (hs : s.size ≤ 9223372036854775807) (w : World) (h2 : ansE s.data.toList = 0) (hL : (ansL s.data.toList).length ≤ 1000) (hG : GoodL (ansL s.data.toList)) {z : Nat} (hg : treeT (ansL s.data.toList) s.size = some (.bad z)) :
    Calls Tryd.prog 18 #[.string s] w (PostRc w (.fail (z : Int) 2)) := by
  have HSc := Lib.hid (fun w => lscan_any s hs w)
  rw [h2] at HSc
  have HL := Lib.hid (fun R A cap => (famR_all (R := R) (A := A) (cap := cap) (E := s.size) hL hG (8 * (ansL s.data.toList).length + 6) (by omega) (8 * (ansL s.data.toList).length + 6) (Nat.le_refl _)).l1)
  have HGT : Hid (goS (lineF (ansL s.data.toList) s.size (8 * (ansL s.data.toList).length + 6) 1) (.run 0) = toS (some (.bad z))) := Lib.hid (by rw [← hg]; rfl)
  generalize (ansL s.data.toList) = L at *
  clear h2 hg hG
  go_enter Tryd.func18, Tryd.ntmps18
  go_wp2_with fail
  refine (HSc.out _).mono ?_; rintro e w1 ⟨v, rfl, hrow, b1⟩
  have HK1 : Hid (C8 w1 w.heap.size (.int .i64 0) (.int .i64 0) (.int .i64 0) (.int .i64 0) (.int .i64 0) (.int .i64 0) (.string ⟨#[]⟩) (.slice none 0 0) ∧ F8 w1 w.heap.size) := Lib.hid ⟨⟨keep_fresh b1 0 rfl, keep_fresh b1 1 rfl, keep_fresh b1 2 rfl, keep_fresh b1 3 rfl, keep_fresh b1 4 rfl, keep_fresh b1 5 rfl, keep_fresh b1 6 rfl, keep_fresh b1 7 rfl⟩, fresh_frozen b1 0, fresh_frozen b1 1, fresh_frozen b1 2, fresh_frozen b1 3, fresh_frozen b1 4, fresh_frozen b1 5, fresh_frozen b1 6, fresh_frozen b1 7⟩
  have h1 : Below w.heap.size w w1 := ((Below.refl _ _).alloc (Nat.le_refl _) _).trans (b1.mono (by simp))
  have z1 : w.heap.size < w1.heap.size := by have := b1.size; simp at this; omega
  clear b1
  obtain ⟨A, cap, rfl, hA, hcm⟩ := tok_shape hrow
  unfold maxLen at hcm
  have HA := Lib.hid hA
  have H1 := Lib.hid h1
  clear hrow hA h1
  go_wp2_with fail
  obtain ⟨w2, hw2⟩ : ∃ w2, w2 = w1.alloc (.cells #[.slice A L.length cap, .int .i64 0, .int .i64 (s.size : Int), .bool false, .int .i64 0] 80) := ⟨_, rfl⟩
  rw [← hw2]
  have hb2 : Below w1.heap.size w1 w2 := by rw [hw2]; exact (Below.refl _ _).alloc (Nat.le_refl _) _
  have HR2 : Hid (RS w2 w1.heap.size A cap L s.size (.run 0)) := Lib.hid (by rw [hw2]; exact ⟨Nat.zero_le _, 0, ⟨by simp [go_sem], by simp [go_sem], by simp [go_sem], by simp [go_sem], by simp [go_sem], by simp [go_sem], by simp [go_sem], by simp [go_sem]⟩⟩)
  have z2 : w1.heap.size < w2.heap.size := by rw [hw2]; simp
  have HT2 : Hid (TK w2 w1.heap.size A L) := Lib.hid (by
    by_cases hl : L = []
    · exact .inl hl
    · obtain ⟨gg, hgA, hgl, _, hat⟩ := HA.out hl
      exact .inr ⟨gg, hgA, by omega, by omega, hat.but (R := w1.heap.size) (But.of_below hb2) (by omega)⟩)
  have HB2 : Hid (But w1.heap.size w w2) := Lib.hid ((But.of_below H1.out).trans (But.of_below hb2))
  have HK2 : Hid (C8 w2 w.heap.size (.int .i64 0) (.int .i64 0) (.int .i64 0) (.int .i64 0) (.int .i64 0) (.int .i64 0) (.string ⟨#[]⟩) (.slice none 0 0) ∧ F8 w2 w.heap.size) := Lib.hid ⟨c8_liftB (fun q v hv => keep_cell hb2 hv) HK1.out.1, f8_liftB (fun q hv => keep_frozen hb2 z1 hv) HK1.out.2⟩
  clear hb2 hw2 HK1 H1 HA
  refine (HL.out w1.heap.size A cap w2 (.run 0) _ HR2.out HT2.out HGT.out).mono ?_; rintro e w3 ⟨⟨c0, c1, c2, c3, c4, c5, cw, cA, cl, cc⟩, rfl, v3, r3, b3⟩
  have nK : w.heap.size ≠ w1.heap.size := by omega
  have zK2 : w.heap.size < w2.heap.size := by omega
  have HB3 : Hid (But w1.heap.size w w3) := Lib.hid (HB2.out.trans b3)
  have z3 : w1.heap.size < w3.heap.size := Nat.lt_of_lt_of_le z2 b3.size
  have zK3 : w.heap.size < w3.heap.size := by omega
  have HK3 : Hid (C8 w3 w.heap.size (.int .i64 0) (.int .i64 0) (.int .i64 0) (.int .i64 0) (.int .i64 0) (.int .i64 0) (.string ⟨#[]⟩) (.slice none 0 0) ∧ F8 w3 w.heap.size) := Lib.hid ⟨c8_liftB (fun q v hv => b3.cell nK hv) HK2.out.1, f8_liftB (fun q hv => b3.frozen nK zK2 hv) HK2.out.2⟩
  have HT3 : Hid (TK w3 w1.heap.size A L) := Lib.hid (HT2.out.but b3)
  have z23 : w2.heap.size ≤ w3.heap.size := b3.size
  have HV3 := Lib.hid v3
  clear v3 HK2 HR2 HT2 HB2 b3
  dsimp only [V8.val]
  have HR3 : Hid (RS w3 w1.heap.size A cap L s.size (.out z)) := Lib.hid r3
  obtain ⟨p', hc⟩ := r3
  have r0 := hc.c1
  have r3' := hc.c3
  have r4 := hc.c4
  clear hc
  by_cases hp : p' < (L.length : Int)
  · have dp : decide (p' < (L.length : Int)) = true := decide_eq_true hp
    go_wp2_with fail
    clear r0 r3' r4
    obtain ⟨w4, hw4⟩ : ∃ w4, w4 = w3.alloc (.cells #[.int .i64 c0, .int .i64 c1, .int .i64 c2, .int .i64 c3, .int .i64 c4, .int .i64 c5, .string cw, .slice cA cl cc] 29) := ⟨_, rfl⟩
    rw [← hw4]
    have hb4 : Below w3.heap.size w3 w4 := by rw [hw4]; exact (Below.refl _ _).alloc (Nat.le_refl _) _
    clear hw4
    refine (rfail_any (w := w4) (R := w1.heap.size) (A := A) (cap := cap) (L := L) (E := s.size) (st := .out z) hL (RS.below HR3.out hb4) (HT3.out.but (But.of_below hb4))).mono ?_; rintro e w5 ⟨rfl, r5, b5⟩
    have hb35 : But w1.heap.size w3 w5 := (But.of_below hb4).trans b5
    have HB5 : Hid (But w1.heap.size w w5) := Lib.hid (HB3.out.trans hb35)
    have z35 := hb35.size
    have zK5 : w.heap.size < w5.heap.size := by omega
    have zR5 : w1.heap.size < w5.heap.size := by omega
    have HK5 : Hid (C8 w5 w.heap.size (.int .i64 0) (.int .i64 0) (.int .i64 0) (.int .i64 0) (.int .i64 0) (.int .i64 0) (.string ⟨#[]⟩) (.slice none 0 0) ∧ F8 w5 w.heap.size) := Lib.hid ⟨c8_liftB (fun q v hv => hb35.cell nK hv) HK3.out.1, f8_liftB (fun q hv => hb35.frozen nK zK3 hv) HK3.out.2⟩
    clear hb4 b5 hb35 HK3 HB3 HT3
    
    obtain ⟨p5, hc5⟩ : ∃ p5 : Int, RC w5 w1.heap.size A cap L s.size p5 true (z : Int) := r5
    have r3' := hc5.c3
    have r4 := hc5.c4
    clear hc5
    obtain ⟨⟨k0, k1, k2, k3, k4, k5, k6, k7⟩, f0, f1, f2, f3, f4, f5, f6, f7⟩ := HK5.out
    go_wp2_with fail
    go_region
    all_goals go_wp2_with fail
    all_goals exact bodyPost_ret (v := .tuple #[.agg #[.int .i64 0, .int .i64 0, .int .i64 0, .int .i64 0, .int .i64 0, .int .i64 0, .string ⟨#[]⟩, .slice none 0 0], .int .i64 (z : Int), .int .i64 2]) (by simp [results, Tryd.results18, go_sem, k0, k1, k2, k3, k4, k5, k6, k7, zK5]) rfl ⟨rfl, by
      have hb := HB5.out.below (n := w.heap.size) (by omega) (Nat.le_refl _)
      with_reducible repeat' (first | exact hb | refine Below.setCell ?_ (by exact Nat.le_refl w.heap.size) _ | refine Below.drew ?_ | refine Below.alloc ?_ (by first | omega | (simp; omega)) _)⟩
  · have dp : decide (p' < (L.length : Int)) = false := decide_eq_false hp
    obtain ⟨⟨k0, k1, k2, k3, k4, k5, k6, k7⟩, f0, f1, f2, f3, f4, f5, f6, f7⟩ := HK3.out
    go_wp2_with fail
    go_region
    all_goals go_wp2_with fail
    all_goals exact bodyPost_ret (v := .tuple #[.agg #[.int .i64 0, .int .i64 0, .int .i64 0, .int .i64 0, .int .i64 0, .int .i64 0, .string ⟨#[]⟩, .slice none 0 0], .int .i64 (z : Int), .int .i64 2]) (by simp [results, Tryd.results18, go_sem, k0, k1, k2, k3, k4, k5, k6, k7, zK3]) rfl ⟨rfl, by
      have hb := HB3.out.below (n := w.heap.size) (by omega) (Nat.le_refl _)
      with_reducible repeat' (first | exact hb | refine Below.setCell ?_ (by exact Nat.le_refl w.heap.size) _ | refine Below.drew ?_ | refine Below.alloc ?_ (by first | omega | (simp; omega)) _)⟩
set_option maxHeartbeats 2000000 in
set_option maxRecDepth 10000 in
theorem rparse_more (s : ByteArray) (hs : s.size ≤ 9223372036854775807) (w : World) (h2 : ansE s.data.toList = 0) (hL : (ansL s.data.toList).length ≤ 1000) (hG : GoodL (ansL s.data.toList)) {t : Tr} {q : Nat} (hq : q < (ansL s.data.toList).length) (hg : treeT (ansL s.data.toList) s.size = some (.ok t q)) :
    Calls Tryd.prog 18 #[.string s] w (PostRc w (.fail (whr (ansL s.data.toList) s.size q : Int) 2)) := by
  have HSc := Lib.hid (fun w => lscan_any s hs w)
  rw [h2] at HSc
  have HL := Lib.hid (fun R A cap => (famR_all (R := R) (A := A) (cap := cap) (E := s.size) hL hG (8 * (ansL s.data.toList).length + 6) (by omega) (8 * (ansL s.data.toList).length + 6) (Nat.le_refl _)).l1)
  have HGT : Hid (goS (lineF (ansL s.data.toList) s.size (8 * (ansL s.data.toList).length + 6) 1) (.run 0) = toS (some (.ok t q))) := Lib.hid (by rw [← hg]; rfl)
  generalize (ansL s.data.toList) = L at *
  clear h2 hg hG
  go_enter Tryd.func18, Tryd.ntmps18
  go_wp2_with fail
  refine (HSc.out _).mono ?_; rintro e w1 ⟨v, rfl, hrow, b1⟩
  have HK1 : Hid (C8 w1 w.heap.size (.int .i64 0) (.int .i64 0) (.int .i64 0) (.int .i64 0) (.int .i64 0) (.int .i64 0) (.string ⟨#[]⟩) (.slice none 0 0) ∧ F8 w1 w.heap.size) := Lib.hid ⟨⟨keep_fresh b1 0 rfl, keep_fresh b1 1 rfl, keep_fresh b1 2 rfl, keep_fresh b1 3 rfl, keep_fresh b1 4 rfl, keep_fresh b1 5 rfl, keep_fresh b1 6 rfl, keep_fresh b1 7 rfl⟩, fresh_frozen b1 0, fresh_frozen b1 1, fresh_frozen b1 2, fresh_frozen b1 3, fresh_frozen b1 4, fresh_frozen b1 5, fresh_frozen b1 6, fresh_frozen b1 7⟩
  have h1 : Below w.heap.size w w1 := ((Below.refl _ _).alloc (Nat.le_refl _) _).trans (b1.mono (by simp))
  have z1 : w.heap.size < w1.heap.size := by have := b1.size; simp at this; omega
  clear b1
  obtain ⟨A, cap, rfl, hA, hcm⟩ := tok_shape hrow
  unfold maxLen at hcm
  have HA := Lib.hid hA
  have H1 := Lib.hid h1
  clear hrow hA h1
  go_wp2_with fail
  obtain ⟨w2, hw2⟩ : ∃ w2, w2 = w1.alloc (.cells #[.slice A L.length cap, .int .i64 0, .int .i64 (s.size : Int), .bool false, .int .i64 0] 80) := ⟨_, rfl⟩
  rw [← hw2]
  have hb2 : Below w1.heap.size w1 w2 := by rw [hw2]; exact (Below.refl _ _).alloc (Nat.le_refl _) _
  have HR2 : Hid (RS w2 w1.heap.size A cap L s.size (.run 0)) := Lib.hid (by rw [hw2]; exact ⟨Nat.zero_le _, 0, ⟨by simp [go_sem], by simp [go_sem], by simp [go_sem], by simp [go_sem], by simp [go_sem], by simp [go_sem], by simp [go_sem], by simp [go_sem]⟩⟩)
  have z2 : w1.heap.size < w2.heap.size := by rw [hw2]; simp
  have HT2 : Hid (TK w2 w1.heap.size A L) := Lib.hid (by
    by_cases hl : L = []
    · exact .inl hl
    · obtain ⟨gg, hgA, hgl, _, hat⟩ := HA.out hl
      exact .inr ⟨gg, hgA, by omega, by omega, hat.but (R := w1.heap.size) (But.of_below hb2) (by omega)⟩)
  have HB2 : Hid (But w1.heap.size w w2) := Lib.hid ((But.of_below H1.out).trans (But.of_below hb2))
  have HK2 : Hid (C8 w2 w.heap.size (.int .i64 0) (.int .i64 0) (.int .i64 0) (.int .i64 0) (.int .i64 0) (.int .i64 0) (.string ⟨#[]⟩) (.slice none 0 0) ∧ F8 w2 w.heap.size) := Lib.hid ⟨c8_liftB (fun q v hv => keep_cell hb2 hv) HK1.out.1, f8_liftB (fun q hv => keep_frozen hb2 z1 hv) HK1.out.2⟩
  clear hb2 hw2 HK1 H1 HA
  refine (HL.out w1.heap.size A cap w2 (.run 0) _ HR2.out HT2.out HGT.out).mono ?_; rintro e w3 ⟨⟨c0, c1, c2, c3, c4, c5, cw, cA, cl, cc⟩, rfl, v3, r3, b3⟩
  have nK : w.heap.size ≠ w1.heap.size := by omega
  have zK2 : w.heap.size < w2.heap.size := by omega
  have HB3 : Hid (But w1.heap.size w w3) := Lib.hid (HB2.out.trans b3)
  have z3 : w1.heap.size < w3.heap.size := Nat.lt_of_lt_of_le z2 b3.size
  have zK3 : w.heap.size < w3.heap.size := by omega
  have HK3 : Hid (C8 w3 w.heap.size (.int .i64 0) (.int .i64 0) (.int .i64 0) (.int .i64 0) (.int .i64 0) (.int .i64 0) (.string ⟨#[]⟩) (.slice none 0 0) ∧ F8 w3 w.heap.size) := Lib.hid ⟨c8_liftB (fun q v hv => b3.cell nK hv) HK2.out.1, f8_liftB (fun q hv => b3.frozen nK zK2 hv) HK2.out.2⟩
  have HT3 : Hid (TK w3 w1.heap.size A L) := Lib.hid (HT2.out.but b3)
  have z23 : w2.heap.size ≤ w3.heap.size := b3.size
  have HV3 := Lib.hid v3
  clear v3 HK2 HR2 HT2 HB2 b3
  dsimp only [V8.val]
  have HR3 : Hid (RS w3 w1.heap.size A cap L s.size (.run q)) := Lib.hid r3
  obtain ⟨hql, x', hc⟩ := r3
  have r0 := hc.c1
  have r3' := hc.c3
  clear hc
  have dp : decide ((q : Int) < (L.length : Int)) = true := decide_eq_true (by omega)
  go_wp2_with fail
  clear r0 r3'
  obtain ⟨w4, hw4⟩ : ∃ w4, w4 = w3.alloc (.cells #[.int .i64 c0, .int .i64 c1, .int .i64 c2, .int .i64 c3, .int .i64 c4, .int .i64 c5, .string cw, .slice cA cl cc] 29) := ⟨_, rfl⟩
  rw [← hw4]
  have hb4 : Below w3.heap.size w3 w4 := by rw [hw4]; exact (Below.refl _ _).alloc (Nat.le_refl _) _
  clear hw4
  refine (rfail_any (w := w4) (R := w1.heap.size) (A := A) (cap := cap) (L := L) (E := s.size) (st := .run q) hL (RS.below HR3.out hb4) (HT3.out.but (But.of_below hb4))).mono ?_; rintro e w5 ⟨rfl, r5, b5⟩
  have hb35 : But w1.heap.size w3 w5 := (But.of_below hb4).trans b5
  have HB5 : Hid (But w1.heap.size w w5) := Lib.hid (HB3.out.trans hb35)
  have z35 := hb35.size
  have zK5 : w.heap.size < w5.heap.size := by omega
  have zR5 : w1.heap.size < w5.heap.size := by omega
  have HK5 : Hid (C8 w5 w.heap.size (.int .i64 0) (.int .i64 0) (.int .i64 0) (.int .i64 0) (.int .i64 0) (.int .i64 0) (.string ⟨#[]⟩) (.slice none 0 0) ∧ F8 w5 w.heap.size) := Lib.hid ⟨c8_liftB (fun q v hv => hb35.cell nK hv) HK3.out.1, f8_liftB (fun q hv => hb35.frozen nK zK3 hv) HK3.out.2⟩
  clear hb4 b5 hb35 HK3 HB3 HT3
  
  obtain ⟨p5, hc5⟩ : ∃ p5 : Int, RC w5 w1.heap.size A cap L s.size p5 true (whr L s.size q : Int) := r5
  have r3' := hc5.c3
  have r4 := hc5.c4
  clear hc5
  obtain ⟨⟨k0, k1, k2, k3, k4, k5, k6, k7⟩, f0, f1, f2, f3, f4, f5, f6, f7⟩ := HK5.out
  go_wp2_with fail
  go_region
  all_goals go_wp2_with fail
  all_goals exact bodyPost_ret (v := .tuple #[.agg #[.int .i64 0, .int .i64 0, .int .i64 0, .int .i64 0, .int .i64 0, .int .i64 0, .string ⟨#[]⟩, .slice none 0 0], .int .i64 (whr L s.size q : Int), .int .i64 2]) (by simp [results, Tryd.results18, go_sem, k0, k1, k2, k3, k4, k5, k6, k7, zK5]) rfl ⟨rfl, by
    have hb := HB5.out.below (n := w.heap.size) (by omega) (Nat.le_refl _)
    with_reducible repeat' (first | exact hb | refine Below.setCell ?_ (by exact Nat.le_refl w.heap.size) _ | refine Below.drew ?_ | refine Below.alloc ?_ (by first | omega | (simp; omega)) _)⟩
set_option maxHeartbeats 2000000 in
set_option maxRecDepth 10000 in
theorem rparse_deep (s : ByteArray) (hs : s.size ≤ 9223372036854775807) (w : World) (h2 : ansE s.data.toList = 0) (hL : (ansL s.data.toList).length ≤ 1000) (hG : GoodL (ansL s.data.toList)) {t : Tr} (hw : Wid t) (hd : deepT t ≤ 1000000000) (h16 : decide ((16 : Int) < (deepT t : Int)) = true) (hg : treeT (ansL s.data.toList) s.size = some (.ok t (ansL s.data.toList).length)) :
    Calls Tryd.prog 18 #[.string s] w (PostRc w (.fail 0 6)) := by
  have HSc := Lib.hid (fun w => lscan_any s hs w)
  rw [h2] at HSc
  have HL := Lib.hid (fun R A cap => (famR_all (R := R) (A := A) (cap := cap) (E := s.size) hL hG (8 * (ansL s.data.toList).length + 6) (by omega) (8 * (ansL s.data.toList).length + 6) (Nat.le_refl _)).l1)
  have HGT : Hid (goS (lineF (ansL s.data.toList) s.size (8 * (ansL s.data.toList).length + 6) 1) (.run 0) = toS (some (.ok t (ansL s.data.toList).length))) := Lib.hid (by rw [← hg]; rfl)
  generalize (ansL s.data.toList) = L at *
  clear h2 hg hG
  go_enter Tryd.func18, Tryd.ntmps18
  go_wp2_with fail
  refine (HSc.out _).mono ?_; rintro e w1 ⟨v, rfl, hrow, b1⟩
  have HK1 : Hid (C8 w1 w.heap.size (.int .i64 0) (.int .i64 0) (.int .i64 0) (.int .i64 0) (.int .i64 0) (.int .i64 0) (.string ⟨#[]⟩) (.slice none 0 0) ∧ F8 w1 w.heap.size) := Lib.hid ⟨⟨keep_fresh b1 0 rfl, keep_fresh b1 1 rfl, keep_fresh b1 2 rfl, keep_fresh b1 3 rfl, keep_fresh b1 4 rfl, keep_fresh b1 5 rfl, keep_fresh b1 6 rfl, keep_fresh b1 7 rfl⟩, fresh_frozen b1 0, fresh_frozen b1 1, fresh_frozen b1 2, fresh_frozen b1 3, fresh_frozen b1 4, fresh_frozen b1 5, fresh_frozen b1 6, fresh_frozen b1 7⟩
  have h1 : Below w.heap.size w w1 := ((Below.refl _ _).alloc (Nat.le_refl _) _).trans (b1.mono (by simp))
  have z1 : w.heap.size < w1.heap.size := by have := b1.size; simp at this; omega
  clear b1
  obtain ⟨A, cap, rfl, hA, hcm⟩ := tok_shape hrow
  unfold maxLen at hcm
  have HA := Lib.hid hA
  have H1 := Lib.hid h1
  clear hrow hA h1
  go_wp2_with fail
  obtain ⟨w2, hw2⟩ : ∃ w2, w2 = w1.alloc (.cells #[.slice A L.length cap, .int .i64 0, .int .i64 (s.size : Int), .bool false, .int .i64 0] 80) := ⟨_, rfl⟩
  rw [← hw2]
  have hb2 : Below w1.heap.size w1 w2 := by rw [hw2]; exact (Below.refl _ _).alloc (Nat.le_refl _) _
  have HR2 : Hid (RS w2 w1.heap.size A cap L s.size (.run 0)) := Lib.hid (by rw [hw2]; exact ⟨Nat.zero_le _, 0, ⟨by simp [go_sem], by simp [go_sem], by simp [go_sem], by simp [go_sem], by simp [go_sem], by simp [go_sem], by simp [go_sem], by simp [go_sem]⟩⟩)
  have z2 : w1.heap.size < w2.heap.size := by rw [hw2]; simp
  have HT2 : Hid (TK w2 w1.heap.size A L) := Lib.hid (by
    by_cases hl : L = []
    · exact .inl hl
    · obtain ⟨gg, hgA, hgl, _, hat⟩ := HA.out hl
      exact .inr ⟨gg, hgA, by omega, by omega, hat.but (R := w1.heap.size) (But.of_below hb2) (by omega)⟩)
  have HB2 : Hid (But w1.heap.size w w2) := Lib.hid ((But.of_below H1.out).trans (But.of_below hb2))
  have HK2 : Hid (C8 w2 w.heap.size (.int .i64 0) (.int .i64 0) (.int .i64 0) (.int .i64 0) (.int .i64 0) (.int .i64 0) (.string ⟨#[]⟩) (.slice none 0 0) ∧ F8 w2 w.heap.size) := Lib.hid ⟨c8_liftB (fun q v hv => keep_cell hb2 hv) HK1.out.1, f8_liftB (fun q hv => keep_frozen hb2 z1 hv) HK1.out.2⟩
  clear hb2 hw2 HK1 H1 HA
  refine (HL.out w1.heap.size A cap w2 (.run 0) _ HR2.out HT2.out HGT.out).mono ?_; rintro e w3 ⟨⟨c0, c1, c2, c3, c4, c5, cw, cA, cl, cc⟩, rfl, v3, r3, b3⟩
  have nK : w.heap.size ≠ w1.heap.size := by omega
  have zK2 : w.heap.size < w2.heap.size := by omega
  have HB3 : Hid (But w1.heap.size w w3) := Lib.hid (HB2.out.trans b3)
  have z3 : w1.heap.size < w3.heap.size := Nat.lt_of_lt_of_le z2 b3.size
  have zK3 : w.heap.size < w3.heap.size := by omega
  have HK3 : Hid (C8 w3 w.heap.size (.int .i64 0) (.int .i64 0) (.int .i64 0) (.int .i64 0) (.int .i64 0) (.int .i64 0) (.string ⟨#[]⟩) (.slice none 0 0) ∧ F8 w3 w.heap.size) := Lib.hid ⟨c8_liftB (fun q v hv => b3.cell nK hv) HK2.out.1, f8_liftB (fun q hv => b3.frozen nK zK2 hv) HK2.out.2⟩
  have HT3 : Hid (TK w3 w1.heap.size A L) := Lib.hid (HT2.out.but b3)
  have z23 : w2.heap.size ≤ w3.heap.size := b3.size
  have HV3 := Lib.hid v3
  clear v3 HK2 HR2 HT2 HB2 b3
  obtain ⟨hql, x', hc⟩ := r3
  have r0 := hc.c1
  have r3' := hc.c3
  clear hc
  obtain ⟨A', ca', hx, hkv⟩ := HV3.out
  obtain ⟨rfl, rfl, rfl, rfl, rfl, rfl, rfl, rfl, rfl, rfl⟩ : c0 = t.kind ∧ c1 = t.num ∧ c2 = t.c1 ∧ c3 = t.r1 ∧ c4 = t.c2 ∧ c5 = t.r2 ∧ cw = ⟨t.word.toArray⟩ ∧ cA = A' ∧ cl = t.kids.length ∧ cc = ca' := by
    unfold tv8 at hx
    injection hx with h0 h1 h2 h3 h4 h5 h6 h7 h8 h9
    exact ⟨h0, h1, h2, h3, h4, h5, h6, h7, h8, h9⟩
  clear hx HV3
  have hlen := hw.len
  unfold maxLen at hlen
  have HKV := Lib.hid hkv
  have HD := Lib.hid (fun w hA => rdeep_any _ t (Nat.le_refl _) hd hw w (fun b => w2.heap.size ≤ b) cA cc hA)
  unfold tv at HD
  clear hkv hw
  dsimp only [V8.val]
  have dp : decide ((L.length : Int) < (L.length : Int)) = false := decide_eq_false (by omega)
  go_wp2_with fail
  clear r0 r3'
  obtain ⟨w4, hw4⟩ : ∃ w4, w4 = w3.alloc (.cells #[.int .i64 t.kind, .int .i64 t.num, .int .i64 t.c1, .int .i64 t.r1, .int .i64 t.c2, .int .i64 t.r2, .string ⟨t.word.toArray⟩, .slice cA t.kids.length cc] 29) := ⟨_, rfl⟩
  rw [← hw4]
  have hb4 : Below w3.heap.size w3 w4 := by rw [hw4]; exact (Below.refl _ _).alloc (Nat.le_refl _) _
  have HX4 : Hid (C8 w4 w3.heap.size (.int .i64 t.kind) (.int .i64 t.num) (.int .i64 t.c1) (.int .i64 t.r1) (.int .i64 t.c2) (.int .i64 t.r2) (.string ⟨t.word.toArray⟩) (.slice cA t.kids.length cc)) := Lib.hid (by rw [hw4]; exact cells8_of' (heap_alloc_new w3 _))
  have z4 : w3.heap.size < w4.heap.size := by rw [hw4]; simp
  clear hw4
  refine (HD.out w4 (HKV.out.stay (Kept.of_below hb4)).kv).mono ?_; rintro e w5 ⟨rfl, b5⟩
  have hb35 : Below w3.heap.size w3 w5 := hb4.trans (b5.mono hb4.size)
  have HB5 : Hid (But w1.heap.size w w5) := Lib.hid (HB3.out.trans (But.of_below hb35))
  have z45 := b5.size
  have zK5 : w.heap.size < w5.heap.size := by omega
  have zX5 : w3.heap.size < w5.heap.size := by omega
  have HK5 : Hid (C8 w5 w.heap.size (.int .i64 0) (.int .i64 0) (.int .i64 0) (.int .i64 0) (.int .i64 0) (.int .i64 0) (.string ⟨#[]⟩) (.slice none 0 0) ∧ F8 w5 w.heap.size) := Lib.hid ⟨c8_liftB (fun q v hv => keep_cell hb35 hv) HK3.out.1, f8_liftB (fun q hv => keep_frozen hb35 zK3 hv) HK3.out.2⟩
  have HKV5 := Lib.hid (HKV.out.stay (Kept.of_below hb35))
  have HX5 : C8 w5 w3.heap.size (.int .i64 t.kind) (.int .i64 t.num) (.int .i64 t.c1) (.int .i64 t.r1) (.int .i64 t.c2) (.int .i64 t.r2) (.string ⟨t.word.toArray⟩) (.slice cA t.kids.length cc) := c8_liftB (fun q v hv => keep_cell b5 hv) HX4.out
  obtain ⟨x0, x1, x2, x3, x4, x5, x6, x7⟩ := HX5
  clear hb4 b5 hb35 HK3 HB3 HT3 HX4 HKV
  obtain ⟨⟨k0, k1, k2, k3, k4, k5, k6, k7⟩, f0, f1, f2, f3, f4, f5, f6, f7⟩ := HK5.out
  go_wp2_with fail
  all_goals exact bodyPost_ret (v := .tuple #[.agg #[.int .i64 0, .int .i64 0, .int .i64 0, .int .i64 0, .int .i64 0, .int .i64 0, .string ⟨#[]⟩, .slice none 0 0], .int .i64 0, .int .i64 6]) (by simp [results, Tryd.results18, go_sem, k0, k1, k2, k3, k4, k5, k6, k7, zK5]) rfl ⟨rfl, by
    have hb := HB5.out.below (n := w.heap.size) (by omega) (Nat.le_refl _)
    with_reducible repeat' (first | exact hb | refine Below.setCell ?_ (by exact Nat.le_refl w.heap.size) _ | refine Below.drew ?_ | refine Below.alloc ?_ (by first | omega | (simp; omega)) _)⟩
set_option maxHeartbeats 2000000 in
set_option maxRecDepth 10000 in
theorem rparse_good (s : ByteArray) (hs : s.size ≤ 9223372036854775807) (w : World) (h2 : ansE s.data.toList = 0) (hL : (ansL s.data.toList).length ≤ 1000) (hG : GoodL (ansL s.data.toList)) {t : Tr} (hw : Wid t) (hd : deepT t ≤ 1000000000) (h16 : decide ((16 : Int) < (deepT t : Int)) = false) (hg : treeT (ansL s.data.toList) s.size = some (.ok t (ansL s.data.toList).length)) :
    Calls Tryd.prog 18 #[.string s] w (PostRc w (.good t)) := by
  have HSc := Lib.hid (fun w => lscan_any s hs w)
  rw [h2] at HSc
  have HL := Lib.hid (fun R A cap => (famR_all (R := R) (A := A) (cap := cap) (E := s.size) hL hG (8 * (ansL s.data.toList).length + 6) (by omega) (8 * (ansL s.data.toList).length + 6) (Nat.le_refl _)).l1)
  have HGT : Hid (goS (lineF (ansL s.data.toList) s.size (8 * (ansL s.data.toList).length + 6) 1) (.run 0) = toS (some (.ok t (ansL s.data.toList).length))) := Lib.hid (by rw [← hg]; rfl)
  generalize (ansL s.data.toList) = L at *
  clear h2 hg hG
  go_enter Tryd.func18, Tryd.ntmps18
  go_wp2_with fail
  refine (HSc.out _).mono ?_; rintro e w1 ⟨v, rfl, hrow, b1⟩
  have HK1 : Hid (C8 w1 w.heap.size (.int .i64 0) (.int .i64 0) (.int .i64 0) (.int .i64 0) (.int .i64 0) (.int .i64 0) (.string ⟨#[]⟩) (.slice none 0 0) ∧ F8 w1 w.heap.size) := Lib.hid ⟨⟨keep_fresh b1 0 rfl, keep_fresh b1 1 rfl, keep_fresh b1 2 rfl, keep_fresh b1 3 rfl, keep_fresh b1 4 rfl, keep_fresh b1 5 rfl, keep_fresh b1 6 rfl, keep_fresh b1 7 rfl⟩, fresh_frozen b1 0, fresh_frozen b1 1, fresh_frozen b1 2, fresh_frozen b1 3, fresh_frozen b1 4, fresh_frozen b1 5, fresh_frozen b1 6, fresh_frozen b1 7⟩
  have h1 : Below w.heap.size w w1 := ((Below.refl _ _).alloc (Nat.le_refl _) _).trans (b1.mono (by simp))
  have z1 : w.heap.size < w1.heap.size := by have := b1.size; simp at this; omega
  clear b1
  obtain ⟨A, cap, rfl, hA, hcm⟩ := tok_shape hrow
  unfold maxLen at hcm
  have HA := Lib.hid hA
  have H1 := Lib.hid h1
  clear hrow hA h1
  go_wp2_with fail
  obtain ⟨w2, hw2⟩ : ∃ w2, w2 = w1.alloc (.cells #[.slice A L.length cap, .int .i64 0, .int .i64 (s.size : Int), .bool false, .int .i64 0] 80) := ⟨_, rfl⟩
  rw [← hw2]
  have hb2 : Below w1.heap.size w1 w2 := by rw [hw2]; exact (Below.refl _ _).alloc (Nat.le_refl _) _
  have HR2 : Hid (RS w2 w1.heap.size A cap L s.size (.run 0)) := Lib.hid (by rw [hw2]; exact ⟨Nat.zero_le _, 0, ⟨by simp [go_sem], by simp [go_sem], by simp [go_sem], by simp [go_sem], by simp [go_sem], by simp [go_sem], by simp [go_sem], by simp [go_sem]⟩⟩)
  have z2 : w1.heap.size < w2.heap.size := by rw [hw2]; simp
  have HT2 : Hid (TK w2 w1.heap.size A L) := Lib.hid (by
    by_cases hl : L = []
    · exact .inl hl
    · obtain ⟨gg, hgA, hgl, _, hat⟩ := HA.out hl
      exact .inr ⟨gg, hgA, by omega, by omega, hat.but (R := w1.heap.size) (But.of_below hb2) (by omega)⟩)
  have HB2 : Hid (But w1.heap.size w w2) := Lib.hid ((But.of_below H1.out).trans (But.of_below hb2))
  have HK2 : Hid (C8 w2 w.heap.size (.int .i64 0) (.int .i64 0) (.int .i64 0) (.int .i64 0) (.int .i64 0) (.int .i64 0) (.string ⟨#[]⟩) (.slice none 0 0) ∧ F8 w2 w.heap.size) := Lib.hid ⟨c8_liftB (fun q v hv => keep_cell hb2 hv) HK1.out.1, f8_liftB (fun q hv => keep_frozen hb2 z1 hv) HK1.out.2⟩
  clear hb2 hw2 HK1 H1 HA
  refine (HL.out w1.heap.size A cap w2 (.run 0) _ HR2.out HT2.out HGT.out).mono ?_; rintro e w3 ⟨⟨c0, c1, c2, c3, c4, c5, cw, cA, cl, cc⟩, rfl, v3, r3, b3⟩
  have nK : w.heap.size ≠ w1.heap.size := by omega
  have zK2 : w.heap.size < w2.heap.size := by omega
  have HB3 : Hid (But w1.heap.size w w3) := Lib.hid (HB2.out.trans b3)
  have z3 : w1.heap.size < w3.heap.size := Nat.lt_of_lt_of_le z2 b3.size
  have zK3 : w.heap.size < w3.heap.size := by omega
  have HK3 : Hid (C8 w3 w.heap.size (.int .i64 0) (.int .i64 0) (.int .i64 0) (.int .i64 0) (.int .i64 0) (.int .i64 0) (.string ⟨#[]⟩) (.slice none 0 0) ∧ F8 w3 w.heap.size) := Lib.hid ⟨c8_liftB (fun q v hv => b3.cell nK hv) HK2.out.1, f8_liftB (fun q hv => b3.frozen nK zK2 hv) HK2.out.2⟩
  have HT3 : Hid (TK w3 w1.heap.size A L) := Lib.hid (HT2.out.but b3)
  have z23 : w2.heap.size ≤ w3.heap.size := b3.size
  have HV3 := Lib.hid v3
  clear v3 HK2 HR2 HT2 HB2 b3
  obtain ⟨hql, x', hc⟩ := r3
  have r0 := hc.c1
  have r3' := hc.c3
  clear hc
  obtain ⟨A', ca', hx, hkv⟩ := HV3.out
  obtain ⟨rfl, rfl, rfl, rfl, rfl, rfl, rfl, rfl, rfl, rfl⟩ : c0 = t.kind ∧ c1 = t.num ∧ c2 = t.c1 ∧ c3 = t.r1 ∧ c4 = t.c2 ∧ c5 = t.r2 ∧ cw = ⟨t.word.toArray⟩ ∧ cA = A' ∧ cl = t.kids.length ∧ cc = ca' := by
    unfold tv8 at hx
    injection hx with h0 h1 h2 h3 h4 h5 h6 h7 h8 h9
    exact ⟨h0, h1, h2, h3, h4, h5, h6, h7, h8, h9⟩
  clear hx HV3
  have hlen := hw.len
  unfold maxLen at hlen
  have HKV := Lib.hid hkv
  have HD := Lib.hid (fun w hA => rdeep_any _ t (Nat.le_refl _) hd hw w (fun b => w2.heap.size ≤ b) cA cc hA)
  unfold tv at HD
  clear hkv hw
  dsimp only [V8.val]
  have dp : decide ((L.length : Int) < (L.length : Int)) = false := decide_eq_false (by omega)
  go_wp2_with fail
  clear r0 r3'
  obtain ⟨w4, hw4⟩ : ∃ w4, w4 = w3.alloc (.cells #[.int .i64 t.kind, .int .i64 t.num, .int .i64 t.c1, .int .i64 t.r1, .int .i64 t.c2, .int .i64 t.r2, .string ⟨t.word.toArray⟩, .slice cA t.kids.length cc] 29) := ⟨_, rfl⟩
  rw [← hw4]
  have hb4 : Below w3.heap.size w3 w4 := by rw [hw4]; exact (Below.refl _ _).alloc (Nat.le_refl _) _
  have HX4 : Hid (C8 w4 w3.heap.size (.int .i64 t.kind) (.int .i64 t.num) (.int .i64 t.c1) (.int .i64 t.r1) (.int .i64 t.c2) (.int .i64 t.r2) (.string ⟨t.word.toArray⟩) (.slice cA t.kids.length cc)) := Lib.hid (by rw [hw4]; exact cells8_of' (heap_alloc_new w3 _))
  have z4 : w3.heap.size < w4.heap.size := by rw [hw4]; simp
  clear hw4
  refine (HD.out w4 (HKV.out.stay (Kept.of_below hb4)).kv).mono ?_; rintro e w5 ⟨rfl, b5⟩
  have hb35 : Below w3.heap.size w3 w5 := hb4.trans (b5.mono hb4.size)
  have HB5 : Hid (But w1.heap.size w w5) := Lib.hid (HB3.out.trans (But.of_below hb35))
  have z45 := b5.size
  have zK5 : w.heap.size < w5.heap.size := by omega
  have zX5 : w3.heap.size < w5.heap.size := by omega
  have HK5 : Hid (C8 w5 w.heap.size (.int .i64 0) (.int .i64 0) (.int .i64 0) (.int .i64 0) (.int .i64 0) (.int .i64 0) (.string ⟨#[]⟩) (.slice none 0 0) ∧ F8 w5 w.heap.size) := Lib.hid ⟨c8_liftB (fun q v hv => keep_cell hb35 hv) HK3.out.1, f8_liftB (fun q hv => keep_frozen hb35 zK3 hv) HK3.out.2⟩
  have HKV5 := Lib.hid (HKV.out.stay (Kept.of_below hb35))
  have HX5 : C8 w5 w3.heap.size (.int .i64 t.kind) (.int .i64 t.num) (.int .i64 t.c1) (.int .i64 t.r1) (.int .i64 t.c2) (.int .i64 t.r2) (.string ⟨t.word.toArray⟩) (.slice cA t.kids.length cc) := c8_liftB (fun q v hv => keep_cell b5 hv) HX4.out
  obtain ⟨x0, x1, x2, x3, x4, x5, x6, x7⟩ := HX5
  clear hb4 b5 hb35 HK3 HB3 HT3 HX4 HKV
  obtain ⟨⟨k0, k1, k2, k3, k4, k5, k6, k7⟩, f0, f1, f2, f3, f4, f5, f6, f7⟩ := HK5.out
  go_wp2_with fail
  exact bodyPost_ret (v := .tuple #[.agg #[.int .i64 t.kind, .int .i64 t.num, .int .i64 t.c1, .int .i64 t.r1, .int .i64 t.c2, .int .i64 t.r2, .string ⟨t.word.toArray⟩, .slice cA t.kids.length cc], .int .i64 0, .int .i64 0]) (by simp [results, Tryd.results18, go_sem, k0, k1, k2, k3, k4, k5, k6, k7, x0, x1, x2, x3, x4, x5, x6, x7, zK5, zX5]) rfl ⟨⟨cA, cc, rfl, by
    refine KVc.imp (fun b (hb : w2.heap.size ≤ b) => by show w.heap.size ≤ b; omega) (HKV5.out.stay ?_)
    with_reducible repeat' (first | exact Kept.refl _ _ | refine Kept.alloc ?_ _ | refine Kept.set ?_ (.inl (by show ¬ (w2.heap.size ≤ w.heap.size); omega)) _ _)⟩, by
    have hb := HB5.out.below (n := w.heap.size) (by omega) (Nat.le_refl _)
    with_reducible repeat' (first | exact hb | refine Below.setCell ?_ (by exact Nat.le_refl w.heap.size) _ | refine Below.alloc ?_ (by first | omega | (simp; omega)) _)⟩
theorem rparse_anyC (s : ByteArray) (hs : s.size ≤ 9223372036854775807) (w : World) :
    Calls Tryd.prog 18 #[.string s] w (PostRc w (parseL s.data.toList)) := by
  have hlen : s.data.toList.length = s.size := len_of s
  unfold parseL
  rw [hlen]
  by_cases h0 : ansE s.data.toList = 0
  · rw [if_neg (fun h => h h0)]
    have hl : s.data.toList.length ≤ 200 := by
      rcases Nat.lt_or_ge 200 s.data.toList.length with h | h
      · have e3 : ansE s.data.toList = 3 := if_pos h
        rw [e3] at h0; cases h0
      · exact h
    have hG := good_ans h0 hl
    have hL := ans_len s.data.toList
    obtain ⟨res, ht, hq⟩ := tree_some (ansL s.data.toList) s.size
    rw [ht]
    cases res with
    | bad z => exact rparse_bad s hs w h0 hL hG ht
    | ok t q =>
      dsimp only
      by_cases h1 : q < (ansL s.data.toList).length
      · rw [if_pos h1]
        exact rparse_more s hs w h0 hL hG h1 ht
      · rw [if_neg h1]
        have hqe : q = (ansL s.data.toList).length := by have := hq t q rfl; omega
        subst hqe
        obtain ⟨hw, hd⟩ := tree_wid hL ht
        by_cases h6 : 16 < deepT t
        · rw [if_pos h6]
          exact rparse_deep s hs w h0 hL hG hw hd (decide_eq_true (by omega)) ht
        · rw [if_neg h6]
          exact rparse_good s hs w h0 hL hG hw hd (decide_eq_false (by omega)) ht
  · rw [if_pos h0]
    exact rparse_err s hs w (by rw [bne_iff_ne]; exact h0) rfl rfl
end Go.Proofs.YthaoalmhhgllmaaDoor
namespace Go.Proofs.YthaoalmhhgllmaaDoor
open Go.RowKit
mutual
def okB : Tr → Bool
  | .mk _ n _ _ _ _ _ ks => decide (n ≤ 9223372036854775807) && decide (ks.length ≤ 1000000) && okLB ks
def okLB : List Tr → Bool
  | [] => true
  | t :: ts => okB t && okLB ts
end
mutual
theorem ok_wf : ∀ {t : Tr}, okB t = true → Wid t ∧ Fit t
  | .mk k n c r d s w ks, h => by
    rw [okB, Bool.and_eq_true, Bool.and_eq_true, decide_eq_true_iff, decide_eq_true_iff] at h
    have hl := okL_wf h.2
    exact ⟨.mk (Nat.le_trans h.1.2 (by decide)) fun t ht => (hl t ht).1, .mk h.1.1 fun t ht => (hl t ht).2⟩
theorem okL_wf : ∀ {l : List Tr}, okLB l = true → ∀ t ∈ l, Wid t ∧ Fit t
  | [], _, t, ht => by cases ht
  | u :: us, h, t, ht => by
    rw [okLB, Bool.and_eq_true] at h
    rcases List.mem_cons.1 ht with e | ht
    · rw [e]; exact ok_wf h.1
    · exact okL_wf h.2 t ht
end
end Go.Proofs.YthaoalmhhgllmaaDoor
namespace Go.Proofs.YthaoalmhhgllmaaDoor
open Go.RowKit
set_option maxHeartbeats 1000000 in
theorem mtold_any (x : Int) (w : World) : Calls Tryd.prog 24 #[.int .i64 x] w fun e w' => e = .returned (.int .i64 (cleanW x)) ∧ Below w.heap.size w w' := by
  by_cases h0 : x < 0
  · have d0 : decide (x < 0) = true := decide_eq_true h0
    have HE : Hid (cleanW x = 3) := Lib.hid (if_pos (.inl h0))
    clear h0
    go_enter Tryd.func24, Tryd.ntmps24
    go_wp2_with fail
    go_ret
    exact ⟨ret_int HE.out.symm, Below.refl _ _⟩
  · have d0 : decide (x < 0) = false := decide_eq_false h0
    by_cases h3 : 3 < x
    · have d3 : decide ((3 : Int) < x) = true := decide_eq_true h3
      have HE : Hid (cleanW x = 3) := Lib.hid (if_pos (.inr h3))
      clear h0 h3
      go_enter Tryd.func24, Tryd.ntmps24
      go_wp2_with fail
      go_ret
      exact ⟨ret_int HE.out.symm, Below.refl _ _⟩
    · have d3 : decide ((3 : Int) < x) = false := decide_eq_false h3
      have HE : Hid (cleanW x = x) := Lib.hid (if_neg (by omega))
      clear h0 h3
      go_enter Tryd.func24, Tryd.ntmps24
      go_wp2_with fail
      go_ret
      exact ⟨ret_int HE.out.symm, Below.refl _ _⟩
set_option maxHeartbeats 1000000 in
theorem mflip_any (x : Int) (w : World) : Calls Tryd.prog 12 #[.int .i64 x] w fun e w' => e = .returned (.int .i64 (flipW x)) ∧ Below w.heap.size w w' := by
  by_cases h1 : x = 1
  · have d1 : (x == 1) = true := by simpa using h1
    have HE : Hid (flipW x = 2) := Lib.hid (if_pos h1)
    clear h1
    go_enter Tryd.func12, Tryd.ntmps12
    go_wp2_with fail
    go_ret
    exact ⟨ret_int HE.out.symm, Below.refl _ _⟩
  · have d1 : (x == 1) = false := by simpa using h1
    by_cases h2 : x = 2
    · have d2 : (x == 2) = true := by simpa using h2
      have HE : Hid (flipW x = 1) := Lib.hid (by unfold flipW; rw [if_neg h1, if_pos h2])
      clear h1 h2
      go_enter Tryd.func12, Tryd.ntmps12
      go_wp2_with fail
      go_ret
      exact ⟨ret_int HE.out.symm, Below.refl _ _⟩
    · have d2 : (x == 2) = false := by simpa using h2
      have HE : Hid (flipW x = cleanW x) := Lib.hid (by unfold flipW; rw [if_neg h1, if_neg h2])
      have HC := Lib.hid (fun w => mtold_any x w)
      clear h1 h2
      go_enter Tryd.func12, Tryd.ntmps12
      go_wp2_with fail
      refine Calls.mono (HC.out _) ?_; rintro e w1 ⟨rfl, b1⟩
      go_wp2_with fail
      go_ret
      exact ⟨ret_int HE.out.symm, b1⟩
theorem joinW_z {a b : Int} (h : a = 0) : joinW a b = cleanW b := by subst h; unfold joinW; exact if_pos (.inl rfl)
theorem joinW_on {a b : Int} (ha : OkW a) (h : a ≠ 0) (h1 : cleanW b ≠ 0) (h2 : cleanW b ≠ a) : joinW a b = 3 := by
  unfold joinW
  rw [clean_ok ha, if_neg (by rintro (e | e); exact h e; exact h2 e.symm), if_neg h1]
theorem joinW_st {a b : Int} (ha : OkW a) (h : a ≠ 0) (h1 : ¬ (cleanW b ≠ 0 ∧ cleanW b ≠ a)) : joinW a b = a := by
  unfold joinW
  rw [clean_ok ha]
  by_cases e : cleanW b = 0
  · rw [e, if_neg (by rintro (e | e); exact h e; exact h e), if_pos rfl]
  · have e2 : cleanW b = a := by
      by_cases e3 : cleanW b = a
      · exact e3
      · exact absurd ⟨e, e3⟩ h1
    rw [if_pos (.inr e2.symm), e2]
set_option maxHeartbeats 4000000 in
theorem mjoin_any (l : List Int) (hl : l.length ≤ maxLen) (A : Option Addr) (cap : Nat) (w : World) (hc : ListI w A l) : Calls Tryd.prog 10 #[.slice A l.length cap] w fun e w' => e = .returned (.int .i64 (joinL l)) ∧ Below w.heap.size w w' := by
  have HC := Lib.hid hc
  unfold maxLen at hl
  clear hc
  go_enter Tryd.func10, Tryd.ntmps10
  go_wp2_with fail
  go_loopw [3, 8] (fun v n wr => ∃ i : Nat, i ≤ l.length ∧ n = .int .i64 (i : Int) ∧ v = .int .i64 (joinL (l.take i)) ∧ Below w.heap.size w wr) (fun _ n _ => l.length - (intOf n).toNat)
  case atStart => exact ⟨0, Nat.zero_le _, rfl, by rw [List.take_zero]; rfl, Below.refl _ _⟩
  case round =>
    obtain ⟨i, hi, rfl, rfl, hb⟩ := hrel
    by_cases hlt : i < l.length
    · obtain ⟨x, hx⟩ : ∃ x, l[i]? = some x := ⟨_, List.getElem?_eq_getElem hlt⟩
      obtain ⟨g, o, rfl, hat⟩ := (HC.out.below hb) (by rintro rfl; simp at hlt)
      have c0 := hat i x hx 0 _ rfl
      simp only [Nat.mul_one, Nat.add_zero] at c0
      have HT := Lib.hid (joinL_tk hx)
      have ho := ok_joinL (l.take i)
      have HTo := Lib.hid (fun w => mtold_any x w)
      have hz : joinL (l.take i) = 0 → Hid (joinL (l.take (i + 1)) = cleanW x) := fun e => Lib.hid (by rw [HT.out, joinW_z e])
      have hon : joinL (l.take i) ≠ 0 → cleanW x ≠ 0 → cleanW x ≠ joinL (l.take i) → Hid (joinL (l.take (i + 1)) = 3) := fun e e1 e2 => Lib.hid (by rw [HT.out, joinW_on ho e e1 e2])
      have hst : joinL (l.take i) ≠ 0 → ¬ (cleanW x ≠ 0 ∧ cleanW x ≠ joinL (l.take i)) → Hid (joinL (l.take (i + 1)) = joinL (l.take i)) := fun e e1 => Lib.hid (by rw [HT.out, joinW_st ho e e1])
      clear HT ho hat hx
      generalize joinL (l.take i) = J at *
      generalize cleanW x = Z at *
      by_cases j0 : J = 0
      · have d0 : (J == 0) = true := by simpa using j0
        have HK := hz j0
        clear hz hon hst j0
        go_wp2_with fail
        refine Calls.mono (HTo.out _) ?_; rintro e w1 ⟨rfl, b1⟩
        have h1 := hb.trans (b1.mono hb.size)
        clear b1 c0
        go_wp2_with fail
        go_roundw
        case rel => exact ⟨i + 1, by omega, by go_num, by rw [HK.out], h1⟩
        case measure => simp [intOf]; omega
      · have d0 : (J == 0) = false := by simpa using j0
        by_cases z0 : Z = 0
        · have dz : (Z != 0) = false := by simpa using z0
          have HK := hst j0 fun h => h.1 z0
          clear hz hon hst j0 z0
          go_wp2_with fail
          refine Calls.mono (HTo.out _) ?_; rintro e w1 ⟨rfl, b1⟩
          have h1 := hb.trans (b1.mono hb.size)
          clear b1 c0
          go_wp2_with fail
          go_roundw
          case rel => exact ⟨i + 1, by omega, by go_num, by rw [HK.out], h1⟩
          case measure => simp [intOf]; omega
        · have dz : (Z != 0) = true := by simpa using z0
          by_cases zj : Z = J
          · have dj : (Z != J) = false := by simpa using zj
            have HK := hst j0 fun h => h.2 zj
            clear hz hon hst j0 z0 zj
            go_wp2_with fail
            refine Calls.mono (HTo.out _) ?_; rintro e w1 ⟨rfl, b1⟩
            have h1 := hb.trans (b1.mono hb.size)
            clear b1 c0
            go_wp2_with fail
            go_roundw
            case rel => exact ⟨i + 1, by omega, by go_num, by rw [HK.out], h1⟩
            case measure => simp [intOf]; omega
          · have dj : (Z != J) = true := by simpa using zj
            have HK := hon j0 z0 zj
            clear hz hon hst j0 z0 zj
            go_wp2_with fail
            refine Calls.mono (HTo.out _) ?_; rintro e w1 ⟨rfl, b1⟩
            have h1 := hb.trans (b1.mono hb.size)
            clear b1 c0
            go_wp2_with fail
            go_roundw
            case rel => exact ⟨i + 1, by omega, by go_num, by rw [HK.out], h1⟩
            case measure => simp [intOf]; omega
    · have hii : i = l.length := by omega
      subst hii
      rw [List.take_length]
      go_wp2_with fail
      go_ret
      exact ⟨rfl, hb⟩
set_option maxHeartbeats 2000000 in
theorem mscaled_any (x s : Int) (w : World) : Calls Tryd.prog 53 #[.int .i64 x, .int .i64 s] w fun e w' => e = .returned (.int .i64 (byW x s)) ∧ Below w.heap.size w w' := by
  by_cases h : s < 0
  · have d : decide (s < 0) = true := decide_eq_true h
    have HE : Hid (byW x s = flipW x) := Lib.hid (if_pos h)
    clear h
    go_enter Tryd.func53, Tryd.ntmps53
    go_wp2_with fail
    refine Calls.mono (mflip_any x _) ?_; rintro e w1 ⟨rfl, b1⟩
    go_wp2_with fail
    go_ret
    exact ⟨ret_int HE.out.symm, b1⟩
  · have d : decide (s < 0) = false := decide_eq_false h
    have HE : Hid (byW x s = x) := Lib.hid (if_neg h)
    clear h
    go_enter Tryd.func53, Tryd.ntmps53
    go_wp2_with fail
    go_ret
    exact ⟨ret_int HE.out.symm, Below.refl _ _⟩
end Go.Proofs.YthaoalmhhgllmaaDoor
namespace Go.Proofs.YthaoalmhhgllmaaDoor
open Go.RowKit
structure Sav (C : Nat → Prop) (w w' : World) : Prop where
  os : w'.os = w.os
  tape : w'.tape = w.tape
  output : w'.output = w.output
  size : w.heap.size ≤ w'.heap.size
  block : ∀ k, k < w.heap.size → ¬ C k → w'.heap[k]? = w.heap[k]?
theorem Sav.refl (C : Nat → Prop) (w : World) : Sav C w w := ⟨rfl, rfl, rfl, Nat.le_refl _, fun _ _ _ => rfl⟩
theorem Sav.trans {C : Nat → Prop} {a b c : World} (h : Sav C a b) (k : Sav C b c) : Sav C a c :=
  ⟨k.os.trans h.os, k.tape.trans h.tape, k.output.trans h.output, Nat.le_trans h.size k.size, fun i hi hn => (k.block i (Nat.lt_of_lt_of_le hi h.size) hn).trans (h.block i hi hn)⟩
theorem Sav.of_below {C : Nat → Prop} {w w' : World} (h : Below w.heap.size w w') : Sav C w w' := ⟨h.os, h.tape, h.output, h.size, fun k hk _ => h.block k hk⟩
theorem Sav.mono {C C' : Nat → Prop} {w w' : World} (h : Sav C w w') (hc : ∀ k, k < w.heap.size → C k → C' k) : Sav C' w w' := ⟨h.os, h.tape, h.output, h.size, fun k hk hn => h.block k hk fun hk' => hn (hc k hk hk')⟩
theorem Sav.below {C : Nat → Prop} {n : Nat} {w w' : World} (h : Sav C w w') (hn : ∀ k, k < n → ¬ C k) (hs : n ≤ w.heap.size) : Below n w w' := ⟨h.os, h.tape, h.output, h.size, fun k hk => h.block k (Nat.lt_of_lt_of_le hk hs) (hn k hk)⟩
theorem Sav.cell {C : Nat → Prop} {w w' : World} (h : Sav C w w') {p : Addr} {v : Value} (hn : ¬ C p.block) (hv : w.cell? p = some v) : w'.cell? p = some v := by
  rw [World.cell?_of_block (w := w) (h.block p.block (Lib.lt_of_cell hv) hn)]; exact hv
theorem Sav.frozen {C : Nat → Prop} {w w' : World} (h : Sav C w w') {p : Addr} (hn : ¬ C p.block) (hl : p.block < w.heap.size) (hv : w.frozen? p = false) : w'.frozen? p = false := by
  rw [World.frozen?_of_block (w := w) (h.block p.block hl hn)]; exact hv
theorem putObj_other {w : World} {r k : Nat} (o : Obj) (h : k ≠ r) : (w.putObj r o).heap[k]? = w.heap[k]? := World.putObj_heap_other h
theorem Sav.putObj {C : Nat → Prop} {a w : World} (h : Sav C a w) {r : Nat} (hr : C r ∨ a.heap.size ≤ r) (o : Obj) : Sav C a (w.putObj r o) :=
  ⟨h.os, h.tape, h.output, by rw [World.putObj_size]; exact h.size, fun k hk hn => by
    rw [putObj_other o (by rintro rfl; rcases hr with hr | hr; exact hn hr; omega)]
    exact h.block k hk hn⟩
theorem Sav.setCell {C : Nat → Prop} {a w : World} (h : Sav C a w) {g : Nat} (hr : C g ∨ a.heap.size ≤ g) (o : Nat) (u : Value) : Sav C a (w.setCell ⟨g, o, none⟩ u) := by
  have hb := (Below.refl 0 w).setCell (p := ⟨g, o, none⟩) (Nat.zero_le _) u
  refine ⟨hb.os.trans h.os, hb.tape.trans h.tape, hb.output.trans h.output, Nat.le_trans h.size hb.size, fun k hk hn => ?_⟩
  rw [Below.heap_setCell w ⟨g, o, none⟩ u k (by rcases hr with hr | hr; exact fun e => hn (e ▸ hr); exact fun e => by simp at e; omega)]
  exact h.block k hk hn
theorem Sav.alloc {C : Nat → Prop} {a w : World} (h : Sav C a w) (o : Obj) : Sav C a (w.alloc o) := h.trans (Sav.of_below ((Below.refl _ w).alloc (Nat.le_refl _) o))
theorem Sav.drew {C : Nat → Prop} {a w : World} (h : Sav C a w) : Sav C a w.drew := ⟨h.os, h.tape, h.output, h.size, h.block⟩
theorem below_putObj {B : Nat} {a w : World} (h : Below B a w) {r : Nat} (hr : B ≤ r) (o : Obj) : Below B a (w.putObj r o) :=
  ⟨h.os, h.tape, h.output, by rw [World.putObj_size]; exact h.size, fun k hk => by rw [putObj_other o (by omega)]; exact h.block k hk⟩
theorem Sav.from {C : Nat → Prop} {l : Nat} {w A B : World} (h : Sav C w A) (k : Sav (fun j => C j ∨ j = l) A B) (hl : w.heap.size ≤ l) : Sav C w B :=
  ⟨k.os.trans h.os, k.tape.trans h.tape, k.output.trans h.output, Nat.le_trans h.size k.size, fun i hi hn => (k.block i (Nat.lt_of_lt_of_le hi h.size) (by rintro (e | rfl); exact hn e; omega)).trans (h.block i hi hn)⟩

def Yields {α : Type} (P : Program) (g : Nat) (lb : Array Value) (xs : List α) (enc : α → Array Value → Prop) (S : Nat → Prop) (w : World) : Prop :=
  ∀ (l : Nat) (C : Nat → Prop) (J : Nat → World → Prop) (Jx : World → Prop) (W : World), Below w.heap.size w W → (∀ k, C k → k < W.heap.size ∧ ¬ S k) →
    (∀ i A B, Below W.heap.size A B → J i A → J i B) → (∀ A B, Below W.heap.size A B → Jx A → Jx B) →
    (∀ (m i : Nat) (x : α) (args : Array Value) (A : World), xs[i]? = some x → enc x args → Sav C W A → J i A →
      YieldAt Fence.wide m P l args A fun e B => Sav C A B ∧ (e = .returned (.bool true) ∧ J (i + 1) B ∨ e = .returned (.bool false) ∧ Jx B)) →
    J 0 W → Calls P g (#[.func (.yield l) #[] #[]] ++ lb) W fun e B => (∃ v, e = .returned v) ∧ Sav C W B ∧ (J xs.length B ∨ Jx B)

def leftR (C : Nat → Prop) (I : World → Prop) (Ix : Code → World → Prop) (W : World) : Exit → Act → World → Prop
  | .normal, _, B => Sav C W B ∧ I B
  | .ret, _, B => Sav C W B ∧ Ix .ret B
  | .exit id, _, B => Sav C W B ∧ Ix (.exit id) B
  | .goto t, _, B => Sav C W B ∧ Ix (.goto t) B
  | .panic _, _, _ => False
  | .outgrown, _, _ => False
theorem roundAny {m m' : Nat} {P : Program} {l : Nat} {f : FuncId} {tmps : Array Value} {assign body : Code} {w : World} {R : Ending → World → Prop} (h : RoundIn Fence.wide m P l f tmps assign body w R) : RoundIn Fence.wide m' P l f tmps assign body w R :=
  ⟨h.1, fun c cs _ => h.2 c cs (room_wide _)⟩

theorem wp_range {α : Type} {P : Program} {n : Nat} {g : Operand} {ps : Array Tmp} {assign body : Code} {Q : Exit → Act → World → Prop} {a : Act} {w : World}
    {gf : Nat} {lb : Array Value} (hg : a.eval g = .func (.func gf) #[] lb) (eg : ∀ args w, (callFunc gf args).run P w = .ok (.enter gf args) w)
    {xs : List α} {enc : α → Array Value → Prop} {S : Nat → Prop} {w0 : World} (hseq : Yields P gf lb xs enc S w0) (hb0 : Below w0.heap.size w0 w) (hps : ∀ x args, enc x args → args.size = ps.size)
    (C : Nat → Prop) (hC : ∀ k, C k → k < w.heap.size ∧ ¬ S k) (hS : ∀ k, S k → k < w.heap.size)
    (I : Nat → World → Prop) (Ix : Code → World → Prop) (hI : ∀ i A B, Below w.heap.size A B → I i A → I i B) (hIx : ∀ c A B, Below w.heap.size A B → Ix c A → Ix c B) (h0 : I 0 w)
    (Ax : α → Act → World → Prop) (hAx : ∀ x a' W l r o, W.heap[l]? = some (.loop r) → Ax x a' W → Ax x a' (W.putObj l o))
    (hassign : ∀ (l i : Nat) (x : α) (args : Array Value) (W : World) (K : Act → World → Prop), xs[i]? = some x → enc x args → w.heap.size ≤ W.heap.size → (∀ a' W', Below W.heap.size W W' → Ax x a' W' → K a' W') →
      assign.wpIn (Fence.wide.inRound l) n P (Exit.then K (fun _ _ _ => False)) { tmps := (ps.zip args).foldl (fun t (p, v) => t.setIfInBounds p v) a.tmps, defers := [] } W)
    (hbody : ∀ (l i : Nat) (x : α) (a' : Act) (W : World), xs[i]? = some x → Sav C w W → I i W → Ax x a' W → body.wpIn (Fence.wide.inRound l) n P (leftR C (I (i + 1)) Ix W) a' W)
    (hdone : ∀ (D : Nat) (W : World), w.heap.size ≤ D → Sav C w W → I xs.length W → W.heap[D]? = some (.deferred (some [])) → Q .normal { a with defers := { target := .collected D, args := #[] } :: a.defers } W)
    (hstop : ∀ (D : Nat) (c : Code) (W : World), w.heap.size ≤ D → Sav C w W → Ix c W → W.heap[D]? = some (.deferred (some [])) → c.wpIn Fence.wide n P Q { a with defers := { target := .collected D, args := #[] } :: a.defers } W) :
    (Code.rangeFunc g ps assign body).wpIn Fence.wide n P Q a w := by
  refine wpIn_rangeFunc ?_
  intro fn hfn
  obtain ⟨L, hL⟩ : ∃ L : LoopState → Option Code → Loop, L = fun st pe => { state := st, pending := pe, fn, tmps := a.tmps, params := ps, assign, body, defers := w.heap.size } := ⟨_, rfl⟩
  obtain ⟨V, hV⟩ : ∃ V, (w.alloc (.deferred (some []))).alloc (.loop (L .ready none)) = V := ⟨_, rfl⟩
  have hsz : V.heap.size = w.heap.size + 2 := by rw [← hV]; simp
  have hl0 : V.heap[w.heap.size + 1]? = some (.loop (L .ready none)) := by
    have := World.alloc_heap_new (w.alloc (.deferred (some []))) (.loop (L .ready none))
    rw [World.size_alloc] at this
    rw [← hV]; exact this
  have hd0 : V.heap[w.heap.size]? = some (.deferred (some [])) := by
    rw [← hV, Below.heap_alloc _ _ _ (by simp)]; exact World.alloc_heap_new w _
  have hbV : Below w.heap.size w V := by rw [← hV]; exact ((Below.refl _ w).alloc (Nat.le_refl _) _).alloc (by simp) _
  have hlen : ∀ k, C k → k ≠ w.heap.size + 1 ∧ k ≠ w.heap.size := fun k hk => by have := (hC k hk).1; omega
  refine ⟨w.heap.size + 1, [{ target := .collected w.heap.size, args := #[] }], V, { target := .fn (.func gf) lb, args := #[.func (.yield (w.heap.size + 1)) #[] #[]] }, V, gf, #[.func (.yield (w.heap.size + 1)) #[] #[]] ++ lb, V, ?_, ?_, fun _ _ => trivial, ?_, fun h => by simp [Fence.wide] at h, ?_⟩
  · rw [← hV, hL]; exact run_enterLoop_outer _ _ _ _ _
  · simp only [resolve, hg]
    simp [go_sem]
  · simp [invoke, go_sem, eg]
  refine callsIn_wide.2 ((hseq (w.heap.size + 1) (fun k => C k ∨ k = w.heap.size + 1)
    (fun i A => I i A ∧ A.heap[w.heap.size + 1]? = some (.loop (L .ready none)) ∧ A.heap[w.heap.size]? = some (.deferred (some [])))
    (fun A => ∃ c, Ix c A ∧ A.heap[w.heap.size + 1]? = some (.loop (L .done (some c))) ∧ A.heap[w.heap.size]? = some (.deferred (some []))) V (hb0.trans (hbV.mono hb0.size)) ?_ ?_ ?_ ?_ ?_).mono ?_)
  · rintro k (hk | rfl)
    · exact ⟨by have := (hC k hk).1; omega, (hC k hk).2⟩
    · exact ⟨by omega, fun h => by have := hS _ h; omega⟩
  · rintro i A B hb ⟨h1, h2, h3⟩
    exact ⟨hI i A B (hb.mono (by omega)) h1, (hb.block _ (by omega)).trans h2, (hb.block _ (by omega)).trans h3⟩
  · rintro A B hb ⟨c, h1, h2, h3⟩
    exact ⟨c, hIx c A B (hb.mono (by omega)) h1, (hb.block _ (by omega)).trans h2, (hb.block _ (by omega)).trans h3⟩
  · rintro m i x args A hx he hs ⟨h1, h2, h3⟩
    have hy := run_yield (P := P) (args := args) h2 (by rw [hL]; exact hps x args he)
    rw [hL] at hy
    have hsw : Sav C w A := Sav.from (Sav.of_below hbV) hs (by omega)
    refine ⟨fn, _, assign, body, hy, roundAny (m := n) (roundIn_of_wpIn trivial (hassign _ i x args A _ hx he hsw.size fun a' A1 b1 hax => ?_))⟩
    have l1 : A1.heap[w.heap.size + 1]? = some (.loop (L .ready none)) := (b1.block _ (Array.getElem?_eq_some_iff.1 h2).1).trans h2
    have d1 : A1.heap[w.heap.size]? = some (.deferred (some [])) := (b1.block _ (Array.getElem?_eq_some_iff.1 h3).1).trans h3
    have q1 : w.heap.size + 1 < A1.heap.size := (Array.getElem?_eq_some_iff.1 l1).1
    refine ⟨_, run_beginRound l1 (by rw [hL]), ?_⟩
    obtain ⟨A2, hA2⟩ : ∃ A2, A1.putObj (w.heap.size + 1) (.loop { L .ready none with state := .busy }) = A2 := ⟨_, rfl⟩
    have l2 : A2.heap[w.heap.size + 1]? = some (.loop (L .busy none)) := by rw [← hA2, World.putObj_heap_same q1, hL]
    have d2 : A2.heap[w.heap.size]? = some (.deferred (some [])) := by rw [← hA2, putObj_other _ (by omega)]; exact d1
    have s2 : Sav (fun k => C k ∨ k = w.heap.size + 1) A A2 := by rw [← hA2]; exact (Sav.of_below b1).putObj (.inl (.inr rfl)) _
    have q2 : w.heap.size + 1 < A2.heap.size := (Array.getElem?_eq_some_iff.1 l2).1
    have i2 : I i A2 := by
      rw [← hA2]
      exact hI i A1 _ (below_putObj (Below.refl _ _) (by omega) _) (hI i A A1 (b1.mono hsw.size) h1)
    have x2 : Ax x a' A2 := by rw [← hA2]; exact hAx x a' A1 _ _ _ l1 hax
    rw [hA2]
    refine wpIn_mono (hbody _ i x a' A2 hx (hsw.from s2 (by omega)) i2 x2) ?_
    have fin : ∀ (j : Option Code) (B : World), Sav C A2 B → ∃ B', (Instr.endRound (w.heap.size + 1) j).run P B = .ok (.bool j.isNone) B' ∧ B'.heap[w.heap.size + 1]? = some (.loop (L (if j.isNone then .ready else .done) j)) ∧
        B'.heap[w.heap.size]? = some (.deferred (some [])) ∧ Sav (fun k => C k ∨ k = w.heap.size + 1) A B' ∧ Below w.heap.size B B' := fun j B hB => by
      have l3 : B.heap[w.heap.size + 1]? = some (.loop (L .busy none)) := (hB.block _ q2 fun h => (hlen _ h).1 rfl).trans l2
      have d3 : B.heap[w.heap.size]? = some (.deferred (some [])) := (hB.block _ (by omega) fun h => (hlen _ h).2 rfl).trans d2
      have q3 : w.heap.size + 1 < B.heap.size := (Array.getElem?_eq_some_iff.1 l3).1
      refine ⟨_, run_endRound j l3, ?_, ?_, (s2.trans (hB.mono fun _ _ h => .inl h)).putObj (.inl (.inr rfl)) _, below_putObj (Below.refl _ _) (by omega) _⟩
      · rw [World.putObj_heap_same q3, hL]
      · rw [putObj_other _ (by omega)]; exact d3
    rintro e a3 B hp
    cases e with
    | normal =>
      obtain ⟨hB, hi⟩ := hp
      obtain ⟨B', r, l4, d4, s4, b4⟩ := fin none B hB
      exact ⟨_, B', r, s4, .inl ⟨rfl, hI _ _ _ b4 hi, l4, d4⟩⟩
    | ret =>
      obtain ⟨hB, hi⟩ := hp
      obtain ⟨B', r, l4, d4, s4, b4⟩ := fin (some .ret) B hB
      exact ⟨_, B', r, s4, .inr ⟨rfl, .ret, hIx _ _ _ b4 hi, l4, d4⟩⟩
    | exit id =>
      obtain ⟨hB, hi⟩ := hp
      obtain ⟨B', r, l4, d4, s4, b4⟩ := fin (some (.exit id)) B hB
      exact ⟨_, B', r, s4, .inr ⟨rfl, .exit id, hIx _ _ _ b4 hi, l4, d4⟩⟩
    | goto t =>
      obtain ⟨hB, hi⟩ := hp
      obtain ⟨B', r, l4, d4, s4, b4⟩ := fin (some (.goto t)) B hB
      exact ⟨_, B', r, s4, .inr ⟨rfl, .goto t, hIx _ _ _ b4 hi, l4, d4⟩⟩
    | panic ch => exact hp.elim
    | outgrown => exact hp.elim
  · exact ⟨hI 0 w V hbV h0, hl0, hd0⟩
  · rintro e B ⟨⟨v, rfl⟩, hs, hJ⟩
    have hsw : Sav C w B := Sav.from (Sav.of_below hbV) hs (by omega)
    rcases hJ with ⟨h1, h2, h3⟩ | ⟨c, h1, h2, h3⟩
    · exact ⟨none, _, by have := run_endLoop (P := P) h2 (by rw [hL]; simp); rw [hL] at this; exact this, hdone _ _ (Nat.le_refl _) (hsw.putObj (.inr (by omega)) _) (hI _ _ _ (below_putObj (Below.refl _ _) (by omega) _) h1) (by rw [putObj_other _ (by omega)]; exact h3)⟩
    · exact ⟨some c, _, by have := run_endLoop (P := P) h2 (by rw [hL]; simp); rw [hL] at this; exact this, hstop _ c _ (Nat.le_refl _) (hsw.putObj (.inr (by omega)) _) (hIx c _ _ (below_putObj (Below.refl _ _) (by omega) _) h1) (by rw [putObj_other _ (by omega)]; exact h3)⟩
end Go.Proofs.YthaoalmhhgllmaaDoor
