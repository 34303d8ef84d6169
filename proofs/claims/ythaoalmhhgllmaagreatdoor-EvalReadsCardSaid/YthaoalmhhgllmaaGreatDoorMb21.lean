/- Texts joined: RuB, EwK, EwA, RefJ, PlG. -/
import Derived.Test.YthaoalmhhgllmaaGreatDoorMb20
import Derived.Test.YthaoalmhhgllmaaGreatDoorMb08
import Derived.Test.YthaoalmhhgllmaaGreatDoorMb04
import Derived.Test.YthaoalmhhgllmaaGreatDoorMb10
import Derived.Test.YthaoalmhhgllmaaGreatDoorMb12
import Derived.Test.YthaoalmhhgllmaaGreatDoorMb07
import Derived.Maps.OwnSet
import Derived.DeepKeys4
import Derived.Test.YthaoalmhhgllmaaGreatDoorMb02
import Derived.Test.YthaoalmhhgllmaaGreatDoorMb06
import Derived.OwnWalk
import Derived.Deep.Onto
set_option linter.all false
namespace Go.Proofs.YthaoalmhhgllmaaGreatDoor
open Go.RowKit
def PostR (w : World) : PRes → Ending → World → Prop
  | .good t, e, w' => (∃ A ca, e = .returned (.tuple #[.agg #[.int .i64 t.kind, .int .i64 t.num, .int .i64 t.c1, .int .i64 t.r1, .int .i64 t.c2, .int .i64 t.r2, .string ⟨t.word.toArray⟩, .slice A t.kids.length ca], .int .i64 0, .int .i64 0]) ∧ KV w' (fun b => w.heap.size ≤ b) t A) ∧ Below w.heap.size w w'
  | .fail a c, e, w' => e = .returned (.tuple #[.agg #[.int .i64 0, .int .i64 0, .int .i64 0, .int .i64 0, .int .i64 0, .int .i64 0, .string ⟨#[]⟩, .slice none 0 0], .int .i64 a, .int .i64 c]) ∧ Below w.heap.size w w'
set_option maxHeartbeats 2000000 in
set_option maxRecDepth 10000 in
theorem rparse_err (s : ByteArray) (hs : s.size ≤ 9223372036854775807) (w : World) {a c : Int} (h0 : (c != 0) = true) (h1 : ansP s.data.toList = a) (h2 : ansE s.data.toList = c) :
    Calls Tryz.prog 15 #[.string s] w (PostR w (.fail a c)) := by
  have HSc := Lib.hid (fun w => lscan_any s hs w)
  rw [h1, h2] at HSc
  clear h1 h2
  go_enter Tryz.func15, Tryz.ntmps15
  go_wp2_with fail
  refine (HSc.out _).mono ?_; rintro e w1 ⟨v, rfl, hrow, b1⟩
  have k0 := keep_fresh b1 0 (v := .int .i64 0) rfl
  have k1 := keep_fresh b1 1 (v := .int .i64 0) rfl
  have k2 := keep_fresh b1 2 (v := .int .i64 0) rfl
  have k3 := keep_fresh b1 3 (v := .int .i64 0) rfl
  have k4 := keep_fresh b1 4 (v := .int .i64 0) rfl
  have k5 := keep_fresh b1 5 (v := .int .i64 0) rfl
  have k6 := keep_fresh b1 6 (v := .string ⟨#[]⟩) rfl
  have k7 := keep_fresh b1 7 (v := .slice none 0 0) rfl
  have f0 := fresh_frozen b1 0
  have f1 := fresh_frozen b1 1
  have f2 := fresh_frozen b1 2
  have f3 := fresh_frozen b1 3
  have f4 := fresh_frozen b1 4
  have f5 := fresh_frozen b1 5
  have f6 := fresh_frozen b1 6
  have f7 := fresh_frozen b1 7
  have h1 : Below w.heap.size w w1 := ((Below.refl _ _).alloc (Nat.le_refl _) _).trans (b1.mono (by simp))
  have z1 : w.heap.size < w1.heap.size := by have := b1.size; simp at this; omega
  clear b1 hrow
  go_wp2_with fail
  exact bodyPost_ret (v := .tuple #[.agg #[.int .i64 0, .int .i64 0, .int .i64 0, .int .i64 0, .int .i64 0, .int .i64 0, .string ⟨#[]⟩, .slice none 0 0], .int .i64 a, .int .i64 c]) (by simp [results, Tryz.results15, go_sem, k0, k1, k2, k3, k4, k5, k6, k7, z1]) rfl ⟨rfl, by
    with_reducible repeat' (first | exact h1 | refine Below.setCell ?_ (by exact Nat.le_refl w.heap.size) _ | refine Below.alloc ?_ (by first | omega | (simp; omega)) _)⟩
set_option maxHeartbeats 2000000 in
set_option maxRecDepth 10000 in
theorem rparse_bad (s : ByteArray) (hs : s.size ≤ 9223372036854775807) (w : World) (h2 : ansE s.data.toList = 0) (hL : (ansL s.data.toList).length ≤ 1000) (hG : GoodL (ansL s.data.toList)) {z : Nat} (hg : treeT (ansL s.data.toList) s.size = some (.bad z)) :
    Calls Tryz.prog 15 #[.string s] w (PostR w (.fail (z : Int) 2)) := by
  have HSc := Lib.hid (fun w => lscan_any s hs w)
  rw [h2] at HSc
  have HL := Lib.hid (fun R A cap => (famR_all (R := R) (A := A) (cap := cap) (E := s.size) hL hG (8 * (ansL s.data.toList).length + 6) (by omega) (8 * (ansL s.data.toList).length + 6) (Nat.le_refl _)).l1)
  have HGT : Hid (goS (lineF (ansL s.data.toList) s.size (8 * (ansL s.data.toList).length + 6) 1) (.run 0) = toS (some (.bad z))) := Lib.hid (by rw [← hg]; rfl)
  generalize (ansL s.data.toList) = L at *
  clear h2 hg hG
  go_enter Tryz.func15, Tryz.ntmps15
  go_wp2_with fail
  refine (HSc.out _).mono ?_; rintro e w1 ⟨v, rfl, hrow, b1⟩
  have HK1 : Hid (C8 w1 w.heap.size (.int .i64 0) (.int .i64 0) (.int .i64 0) (.int .i64 0) (.int .i64 0) (.int .i64 0) (.string ⟨#[]⟩) (.slice none 0 0) ∧ F8 w1 w.heap.size) := Lib.hid ⟨⟨keep_fresh b1 0 rfl, keep_fresh b1 1 rfl, keep_fresh b1 2 rfl, keep_fresh b1 3 rfl, keep_fresh b1 4 rfl, keep_fresh b1 5 rfl, keep_fresh b1 6 rfl, keep_fresh b1 7 rfl⟩, fresh_frozen b1 0, fresh_frozen b1 1, fresh_frozen b1 2, fresh_frozen b1 3, fresh_frozen b1 4, fresh_frozen b1 5, fresh_frozen b1 6, fresh_frozen b1 7⟩
  have h1 : Below w.heap.size w w1 := ((Below.refl _ _).alloc (Nat.le_refl _) _).trans (b1.mono (by simp))
  have z1 : w.heap.size < w1.heap.size := by have := b1.size; simp at this; omega
  clear b1
  obtain ⟨A, cap, rfl, hA, hcm⟩ := tok_shape hrow
  unfold maxLen at hcm
  have HA := Lib.hid hA
  have H1 := Lib.hid h1
  clear hrow hA h1
  go_wp2_with fail
  obtain ⟨w2, hw2⟩ : ∃ w2, w2 = w1.alloc (.cells #[.slice A L.length cap, .int .i64 0, .int .i64 (s.size : Int), .bool false, .int .i64 0] 64) := ⟨_, rfl⟩
  rw [← hw2]
  have hb2 : Below w1.heap.size w1 w2 := by rw [hw2]; exact (Below.refl _ _).alloc (Nat.le_refl _) _
  have HR2 : Hid (RS w2 w1.heap.size A cap L s.size (.run 0)) := Lib.hid (by rw [hw2]; exact ⟨Nat.zero_le _, 0, ⟨by simp [go_sem], by simp [go_sem], by simp [go_sem], by simp [go_sem], by simp [go_sem], by simp [go_sem], by simp [go_sem], by simp [go_sem]⟩⟩)
  have z2 : w1.heap.size < w2.heap.size := by rw [hw2]; simp
  have HT2 : Hid (TK w2 w1.heap.size A L) := Lib.hid (by
    by_cases hl : L = []
    · exact .inl hl
    · obtain ⟨gg, hgA, hgl, _, hat⟩ := HA.out hl
      exact .inr ⟨gg, hgA, by omega, by omega, hat.but (R := w1.heap.size) (But.of_below hb2) (by omega)⟩)
  have HB2 : Hid (But w1.heap.size w w2) := Lib.hid ((But.of_below H1.out).trans (But.of_below hb2))
  have HK2 : Hid (C8 w2 w.heap.size (.int .i64 0) (.int .i64 0) (.int .i64 0) (.int .i64 0) (.int .i64 0) (.int .i64 0) (.string ⟨#[]⟩) (.slice none 0 0) ∧ F8 w2 w.heap.size) := Lib.hid ⟨c8_liftB (fun q v hv => keep_cell hb2 hv) HK1.out.1, f8_liftB (fun q hv => keep_frozen hb2 z1 hv) HK1.out.2⟩
  clear hb2 hw2 HK1 H1 HA
  refine (HL.out w1.heap.size A cap w2 (.run 0) _ HR2.out HT2.out HGT.out).mono ?_; rintro e w3 ⟨⟨c0, c1, c2, c3, c4, c5, cw, cA, cl, cc⟩, rfl, v3, r3, b3⟩
  have nK : w.heap.size ≠ w1.heap.size := by omega
  have zK2 : w.heap.size < w2.heap.size := by omega
  have HB3 : Hid (But w1.heap.size w w3) := Lib.hid (HB2.out.trans b3)
  have z3 : w1.heap.size < w3.heap.size := Nat.lt_of_lt_of_le z2 b3.size
  have zK3 : w.heap.size < w3.heap.size := by omega
  have HK3 : Hid (C8 w3 w.heap.size (.int .i64 0) (.int .i64 0) (.int .i64 0) (.int .i64 0) (.int .i64 0) (.int .i64 0) (.string ⟨#[]⟩) (.slice none 0 0) ∧ F8 w3 w.heap.size) := Lib.hid ⟨c8_liftB (fun q v hv => b3.cell nK hv) HK2.out.1, f8_liftB (fun q hv => b3.frozen nK zK2 hv) HK2.out.2⟩
  have HT3 : Hid (TK w3 w1.heap.size A L) := Lib.hid (HT2.out.but b3)
  have z23 : w2.heap.size ≤ w3.heap.size := b3.size
  have HV3 := Lib.hid v3
  clear v3 HK2 HR2 HT2 HB2 b3
  dsimp only [V8.val]
  have HR3 : Hid (RS w3 w1.heap.size A cap L s.size (.out z)) := Lib.hid r3
  obtain ⟨p', hc⟩ := r3
  have r0 := hc.c1
  have r3' := hc.c3
  have r4 := hc.c4
  clear hc
  by_cases hp : p' < (L.length : Int)
  · have dp : decide (p' < (L.length : Int)) = true := decide_eq_true hp
    go_wp2_with fail
    clear r0 r3' r4
    obtain ⟨w4, hw4⟩ : ∃ w4, w4 = w3.alloc (.cells #[.int .i64 c0, .int .i64 c1, .int .i64 c2, .int .i64 c3, .int .i64 c4, .int .i64 c5, .string cw, .slice cA cl cc] 29) := ⟨_, rfl⟩
    rw [← hw4]
    have hb4 : Below w3.heap.size w3 w4 := by rw [hw4]; exact (Below.refl _ _).alloc (Nat.le_refl _) _
    clear hw4
    refine (rfail_any (w := w4) (R := w1.heap.size) (A := A) (cap := cap) (L := L) (E := s.size) (st := .out z) hL (RS.below HR3.out hb4) (HT3.out.but (But.of_below hb4))).mono ?_; rintro e w5 ⟨rfl, r5, b5⟩
    have hb35 : But w1.heap.size w3 w5 := (But.of_below hb4).trans b5
    have HB5 : Hid (But w1.heap.size w w5) := Lib.hid (HB3.out.trans hb35)
    have z35 := hb35.size
    have zK5 : w.heap.size < w5.heap.size := by omega
    have zR5 : w1.heap.size < w5.heap.size := by omega
    have HK5 : Hid (C8 w5 w.heap.size (.int .i64 0) (.int .i64 0) (.int .i64 0) (.int .i64 0) (.int .i64 0) (.int .i64 0) (.string ⟨#[]⟩) (.slice none 0 0) ∧ F8 w5 w.heap.size) := Lib.hid ⟨c8_liftB (fun q v hv => hb35.cell nK hv) HK3.out.1, f8_liftB (fun q hv => hb35.frozen nK zK3 hv) HK3.out.2⟩
    clear hb4 b5 hb35 HK3 HB3 HT3
    
    obtain ⟨p5, hc5⟩ : ∃ p5 : Int, RC w5 w1.heap.size A cap L s.size p5 true (z : Int) := r5
    have r3' := hc5.c3
    have r4 := hc5.c4
    clear hc5
    obtain ⟨⟨k0, k1, k2, k3, k4, k5, k6, k7⟩, f0, f1, f2, f3, f4, f5, f6, f7⟩ := HK5.out
    go_wp2_with fail
    go_region
    all_goals go_wp2_with fail
    all_goals exact bodyPost_ret (v := .tuple #[.agg #[.int .i64 0, .int .i64 0, .int .i64 0, .int .i64 0, .int .i64 0, .int .i64 0, .string ⟨#[]⟩, .slice none 0 0], .int .i64 (z : Int), .int .i64 2]) (by simp [results, Tryz.results15, go_sem, k0, k1, k2, k3, k4, k5, k6, k7, zK5]) rfl ⟨rfl, by
      have hb := HB5.out.below (n := w.heap.size) (by omega) (Nat.le_refl _)
      with_reducible repeat' (first | exact hb | refine Below.setCell ?_ (by exact Nat.le_refl w.heap.size) _ | refine Below.drew ?_ | refine Below.alloc ?_ (by first | omega | (simp; omega)) _)⟩
  · have dp : decide (p' < (L.length : Int)) = false := decide_eq_false hp
    obtain ⟨⟨k0, k1, k2, k3, k4, k5, k6, k7⟩, f0, f1, f2, f3, f4, f5, f6, f7⟩ := HK3.out
    go_wp2_with fail
    go_region
    all_goals go_wp2_with fail
    all_goals exact bodyPost_ret (v := .tuple #[.agg #[.int .i64 0, .int .i64 0, .int .i64 0, .int .i64 0, .int .i64 0, .int .i64 0, .string ⟨#[]⟩, .slice none 0 0], .int .i64 (z : Int), .int .i64 2]) (by simp [results, Tryz.results15, go_sem, k0, k1, k2, k3, k4, k5, k6, k7, zK3]) rfl ⟨rfl, by
      have hb := HB3.out.below (n := w.heap.size) (by omega) (Nat.le_refl _)
      with_reducible repeat' (first | exact hb | refine Below.setCell ?_ (by exact Nat.le_refl w.heap.size) _ | refine Below.drew ?_ | refine Below.alloc ?_ (by first | omega | (simp; omega)) _)⟩
set_option maxHeartbeats 2000000 in
set_option maxRecDepth 10000 in
theorem rparse_more (s : ByteArray) (hs : s.size ≤ 9223372036854775807) (w : World) (h2 : ansE s.data.toList = 0) (hL : (ansL s.data.toList).length ≤ 1000) (hG : GoodL (ansL s.data.toList)) {t : Tr} {q : Nat} (hq : q < (ansL s.data.toList).length) (hg : treeT (ansL s.data.toList) s.size = some (.ok t q)) :
    Calls Tryz.prog 15 #[.string s] w (PostR w (.fail (whr (ansL s.data.toList) s.size q : Int) 2)) := by
  have HSc := Lib.hid (fun w => lscan_any s hs w)
  rw [h2] at HSc
  have HL := Lib.hid (fun R A cap => (famR_all (R := R) (A := A) (cap := cap) (E := s.size) hL hG (8 * (ansL s.data.toList).length + 6) (by omega) (8 * (ansL s.data.toList).length + 6) (Nat.le_refl _)).l1)
  have HGT : Hid (goS (lineF (ansL s.data.toList) s.size (8 * (ansL s.data.toList).length + 6) 1) (.run 0) = toS (some (.ok t q))) := Lib.hid (by rw [← hg]; rfl)
  generalize (ansL s.data.toList) = L at *
  clear h2 hg hG
  go_enter Tryz.func15, Tryz.ntmps15
  go_wp2_with fail
  refine (HSc.out _).mono ?_; rintro e w1 ⟨v, rfl, hrow, b1⟩
  have HK1 : Hid (C8 w1 w.heap.size (.int .i64 0) (.int .i64 0) (.int .i64 0) (.int .i64 0) (.int .i64 0) (.int .i64 0) (.string ⟨#[]⟩) (.slice none 0 0) ∧ F8 w1 w.heap.size) := Lib.hid ⟨⟨keep_fresh b1 0 rfl, keep_fresh b1 1 rfl, keep_fresh b1 2 rfl, keep_fresh b1 3 rfl, keep_fresh b1 4 rfl, keep_fresh b1 5 rfl, keep_fresh b1 6 rfl, keep_fresh b1 7 rfl⟩, fresh_frozen b1 0, fresh_frozen b1 1, fresh_frozen b1 2, fresh_frozen b1 3, fresh_frozen b1 4, fresh_frozen b1 5, fresh_frozen b1 6, fresh_frozen b1 7⟩
  have h1 : Below w.heap.size w w1 := ((Below.refl _ _).alloc (Nat.le_refl _) _).trans (b1.mono (by simp))
  have z1 : w.heap.size < w1.heap.size := by have := b1.size; simp at this; omega
  clear b1
  obtain ⟨A, cap, rfl, hA, hcm⟩ := tok_shape hrow
  unfold maxLen at hcm
  have HA := Lib.hid hA
  have H1 := Lib.hid h1
  clear hrow hA h1
  go_wp2_with fail
  obtain ⟨w2, hw2⟩ : ∃ w2, w2 = w1.alloc (.cells #[.slice A L.length cap, .int .i64 0, .int .i64 (s.size : Int), .bool false, .int .i64 0] 64) := ⟨_, rfl⟩
  rw [← hw2]
  have hb2 : Below w1.heap.size w1 w2 := by rw [hw2]; exact (Below.refl _ _).alloc (Nat.le_refl _) _
  have HR2 : Hid (RS w2 w1.heap.size A cap L s.size (.run 0)) := Lib.hid (by rw [hw2]; exact ⟨Nat.zero_le _, 0, ⟨by simp [go_sem], by simp [go_sem], by simp [go_sem], by simp [go_sem], by simp [go_sem], by simp [go_sem], by simp [go_sem], by simp [go_sem]⟩⟩)
  have z2 : w1.heap.size < w2.heap.size := by rw [hw2]; simp
  have HT2 : Hid (TK w2 w1.heap.size A L) := Lib.hid (by
    by_cases hl : L = []
    · exact .inl hl
    · obtain ⟨gg, hgA, hgl, _, hat⟩ := HA.out hl
      exact .inr ⟨gg, hgA, by omega, by omega, hat.but (R := w1.heap.size) (But.of_below hb2) (by omega)⟩)
  have HB2 : Hid (But w1.heap.size w w2) := Lib.hid ((But.of_below H1.out).trans (But.of_below hb2))
  have HK2 : Hid (C8 w2 w.heap.size (.int .i64 0) (.int .i64 0) (.int .i64 0) (.int .i64 0) (.int .i64 0) (.int .i64 0) (.string ⟨#[]⟩) (.slice none 0 0) ∧ F8 w2 w.heap.size) := Lib.hid ⟨c8_liftB (fun q v hv => keep_cell hb2 hv) HK1.out.1, f8_liftB (fun q hv => keep_frozen hb2 z1 hv) HK1.out.2⟩
  clear hb2 hw2 HK1 H1 HA
  refine (HL.out w1.heap.size A cap w2 (.run 0) _ HR2.out HT2.out HGT.out).mono ?_; rintro e w3 ⟨⟨c0, c1, c2, c3, c4, c5, cw, cA, cl, cc⟩, rfl, v3, r3, b3⟩
  have nK : w.heap.size ≠ w1.heap.size := by omega
  have zK2 : w.heap.size < w2.heap.size := by omega
  have HB3 : Hid (But w1.heap.size w w3) := Lib.hid (HB2.out.trans b3)
  have z3 : w1.heap.size < w3.heap.size := Nat.lt_of_lt_of_le z2 b3.size
  have zK3 : w.heap.size < w3.heap.size := by omega
  have HK3 : Hid (C8 w3 w.heap.size (.int .i64 0) (.int .i64 0) (.int .i64 0) (.int .i64 0) (.int .i64 0) (.int .i64 0) (.string ⟨#[]⟩) (.slice none 0 0) ∧ F8 w3 w.heap.size) := Lib.hid ⟨c8_liftB (fun q v hv => b3.cell nK hv) HK2.out.1, f8_liftB (fun q hv => b3.frozen nK zK2 hv) HK2.out.2⟩
  have HT3 : Hid (TK w3 w1.heap.size A L) := Lib.hid (HT2.out.but b3)
  have z23 : w2.heap.size ≤ w3.heap.size := b3.size
  have HV3 := Lib.hid v3
  clear v3 HK2 HR2 HT2 HB2 b3
  dsimp only [V8.val]
  have HR3 : Hid (RS w3 w1.heap.size A cap L s.size (.run q)) := Lib.hid r3
  obtain ⟨hql, x', hc⟩ := r3
  have r0 := hc.c1
  have r3' := hc.c3
  clear hc
  have dp : decide ((q : Int) < (L.length : Int)) = true := decide_eq_true (by omega)
  go_wp2_with fail
  clear r0 r3'
  obtain ⟨w4, hw4⟩ : ∃ w4, w4 = w3.alloc (.cells #[.int .i64 c0, .int .i64 c1, .int .i64 c2, .int .i64 c3, .int .i64 c4, .int .i64 c5, .string cw, .slice cA cl cc] 29) := ⟨_, rfl⟩
  rw [← hw4]
  have hb4 : Below w3.heap.size w3 w4 := by rw [hw4]; exact (Below.refl _ _).alloc (Nat.le_refl _) _
  clear hw4
  refine (rfail_any (w := w4) (R := w1.heap.size) (A := A) (cap := cap) (L := L) (E := s.size) (st := .run q) hL (RS.below HR3.out hb4) (HT3.out.but (But.of_below hb4))).mono ?_; rintro e w5 ⟨rfl, r5, b5⟩
  have hb35 : But w1.heap.size w3 w5 := (But.of_below hb4).trans b5
  have HB5 : Hid (But w1.heap.size w w5) := Lib.hid (HB3.out.trans hb35)
  have z35 := hb35.size
  have zK5 : w.heap.size < w5.heap.size := by omega
  have zR5 : w1.heap.size < w5.heap.size := by omega
  have HK5 : Hid (C8 w5 w.heap.size (.int .i64 0) (.int .i64 0) (.int .i64 0) (.int .i64 0) (.int .i64 0) (.int .i64 0) (.string ⟨#[]⟩) (.slice none 0 0) ∧ F8 w5 w.heap.size) := Lib.hid ⟨c8_liftB (fun q v hv => hb35.cell nK hv) HK3.out.1, f8_liftB (fun q hv => hb35.frozen nK zK3 hv) HK3.out.2⟩
  clear hb4 b5 hb35 HK3 HB3 HT3
  
  obtain ⟨p5, hc5⟩ : ∃ p5 : Int, RC w5 w1.heap.size A cap L s.size p5 true (whr L s.size q : Int) := r5
  have r3' := hc5.c3
  have r4 := hc5.c4
  clear hc5
  obtain ⟨⟨k0, k1, k2, k3, k4, k5, k6, k7⟩, f0, f1, f2, f3, f4, f5, f6, f7⟩ := HK5.out
  go_wp2_with fail
  go_region
  all_goals go_wp2_with fail
  all_goals exact bodyPost_ret (v := .tuple #[.agg #[.int .i64 0, .int .i64 0, .int .i64 0, .int .i64 0, .int .i64 0, .int .i64 0, .string ⟨#[]⟩, .slice none 0 0], .int .i64 (whr L s.size q : Int), .int .i64 2]) (by simp [results, Tryz.results15, go_sem, k0, k1, k2, k3, k4, k5, k6, k7, zK5]) rfl ⟨rfl, by
    have hb := HB5.out.below (n := w.heap.size) (by omega) (Nat.le_refl _)
    with_reducible repeat' (first | exact hb | refine Below.setCell ?_ (by exact Nat.le_refl w.heap.size) _ | refine Below.drew ?_ | refine Below.alloc ?_ (by first | omega | (simp; omega)) _)⟩
set_option maxHeartbeats 2000000 in
set_option maxRecDepth 10000 in
theorem rparse_deep (s : ByteArray) (hs : s.size ≤ 9223372036854775807) (w : World) (h2 : ansE s.data.toList = 0) (hL : (ansL s.data.toList).length ≤ 1000) (hG : GoodL (ansL s.data.toList)) {t : Tr} (hw : Wid t) (hd : deepT t ≤ 1000000000) (h16 : decide ((16 : Int) < (deepT t : Int)) = true) (hg : treeT (ansL s.data.toList) s.size = some (.ok t (ansL s.data.toList).length)) :
    Calls Tryz.prog 15 #[.string s] w (PostR w (.fail 0 6)) := by
  have HSc := Lib.hid (fun w => lscan_any s hs w)
  rw [h2] at HSc
  have HL := Lib.hid (fun R A cap => (famR_all (R := R) (A := A) (cap := cap) (E := s.size) hL hG (8 * (ansL s.data.toList).length + 6) (by omega) (8 * (ansL s.data.toList).length + 6) (Nat.le_refl _)).l1)
  have HGT : Hid (goS (lineF (ansL s.data.toList) s.size (8 * (ansL s.data.toList).length + 6) 1) (.run 0) = toS (some (.ok t (ansL s.data.toList).length))) := Lib.hid (by rw [← hg]; rfl)
  generalize (ansL s.data.toList) = L at *
  clear h2 hg hG
  go_enter Tryz.func15, Tryz.ntmps15
  go_wp2_with fail
  refine (HSc.out _).mono ?_; rintro e w1 ⟨v, rfl, hrow, b1⟩
  have HK1 : Hid (C8 w1 w.heap.size (.int .i64 0) (.int .i64 0) (.int .i64 0) (.int .i64 0) (.int .i64 0) (.int .i64 0) (.string ⟨#[]⟩) (.slice none 0 0) ∧ F8 w1 w.heap.size) := Lib.hid ⟨⟨keep_fresh b1 0 rfl, keep_fresh b1 1 rfl, keep_fresh b1 2 rfl, keep_fresh b1 3 rfl, keep_fresh b1 4 rfl, keep_fresh b1 5 rfl, keep_fresh b1 6 rfl, keep_fresh b1 7 rfl⟩, fresh_frozen b1 0, fresh_frozen b1 1, fresh_frozen b1 2, fresh_frozen b1 3, fresh_frozen b1 4, fresh_frozen b1 5, fresh_frozen b1 6, fresh_frozen b1 7⟩
  have h1 : Below w.heap.size w w1 := ((Below.refl _ _).alloc (Nat.le_refl _) _).trans (b1.mono (by simp))
  have z1 : w.heap.size < w1.heap.size := by have := b1.size; simp at this; omega
  clear b1
  obtain ⟨A, cap, rfl, hA, hcm⟩ := tok_shape hrow
  unfold maxLen at hcm
  have HA := Lib.hid hA
  have H1 := Lib.hid h1
  clear hrow hA h1
  go_wp2_with fail
  obtain ⟨w2, hw2⟩ : ∃ w2, w2 = w1.alloc (.cells #[.slice A L.length cap, .int .i64 0, .int .i64 (s.size : Int), .bool false, .int .i64 0] 64) := ⟨_, rfl⟩
  rw [← hw2]
  have hb2 : Below w1.heap.size w1 w2 := by rw [hw2]; exact (Below.refl _ _).alloc (Nat.le_refl _) _
  have HR2 : Hid (RS w2 w1.heap.size A cap L s.size (.run 0)) := Lib.hid (by rw [hw2]; exact ⟨Nat.zero_le _, 0, ⟨by simp [go_sem], by simp [go_sem], by simp [go_sem], by simp [go_sem], by simp [go_sem], by simp [go_sem], by simp [go_sem], by simp [go_sem]⟩⟩)
  have z2 : w1.heap.size < w2.heap.size := by rw [hw2]; simp
  have HT2 : Hid (TK w2 w1.heap.size A L) := Lib.hid (by
    by_cases hl : L = []
    · exact .inl hl
    · obtain ⟨gg, hgA, hgl, _, hat⟩ := HA.out hl
      exact .inr ⟨gg, hgA, by omega, by omega, hat.but (R := w1.heap.size) (But.of_below hb2) (by omega)⟩)
  have HB2 : Hid (But w1.heap.size w w2) := Lib.hid ((But.of_below H1.out).trans (But.of_below hb2))
  have HK2 : Hid (C8 w2 w.heap.size (.int .i64 0) (.int .i64 0) (.int .i64 0) (.int .i64 0) (.int .i64 0) (.int .i64 0) (.string ⟨#[]⟩) (.slice none 0 0) ∧ F8 w2 w.heap.size) := Lib.hid ⟨c8_liftB (fun q v hv => keep_cell hb2 hv) HK1.out.1, f8_liftB (fun q hv => keep_frozen hb2 z1 hv) HK1.out.2⟩
  clear hb2 hw2 HK1 H1 HA
  refine (HL.out w1.heap.size A cap w2 (.run 0) _ HR2.out HT2.out HGT.out).mono ?_; rintro e w3 ⟨⟨c0, c1, c2, c3, c4, c5, cw, cA, cl, cc⟩, rfl, v3, r3, b3⟩
  have nK : w.heap.size ≠ w1.heap.size := by omega
  have zK2 : w.heap.size < w2.heap.size := by omega
  have HB3 : Hid (But w1.heap.size w w3) := Lib.hid (HB2.out.trans b3)
  have z3 : w1.heap.size < w3.heap.size := Nat.lt_of_lt_of_le z2 b3.size
  have zK3 : w.heap.size < w3.heap.size := by omega
  have HK3 : Hid (C8 w3 w.heap.size (.int .i64 0) (.int .i64 0) (.int .i64 0) (.int .i64 0) (.int .i64 0) (.int .i64 0) (.string ⟨#[]⟩) (.slice none 0 0) ∧ F8 w3 w.heap.size) := Lib.hid ⟨c8_liftB (fun q v hv => b3.cell nK hv) HK2.out.1, f8_liftB (fun q hv => b3.frozen nK zK2 hv) HK2.out.2⟩
  have HT3 : Hid (TK w3 w1.heap.size A L) := Lib.hid (HT2.out.but b3)
  have z23 : w2.heap.size ≤ w3.heap.size := b3.size
  have HV3 := Lib.hid v3
  clear v3 HK2 HR2 HT2 HB2 b3
  obtain ⟨hql, x', hc⟩ := r3
  have r0 := hc.c1
  have r3' := hc.c3
  clear hc
  obtain ⟨A', ca', hx, hkv⟩ := HV3.out
  obtain ⟨rfl, rfl, rfl, rfl, rfl, rfl, rfl, rfl, rfl, rfl⟩ : c0 = t.kind ∧ c1 = t.num ∧ c2 = t.c1 ∧ c3 = t.r1 ∧ c4 = t.c2 ∧ c5 = t.r2 ∧ cw = ⟨t.word.toArray⟩ ∧ cA = A' ∧ cl = t.kids.length ∧ cc = ca' := by
    unfold tv8 at hx
    injection hx with h0 h1 h2 h3 h4 h5 h6 h7 h8 h9
    exact ⟨h0, h1, h2, h3, h4, h5, h6, h7, h8, h9⟩
  clear hx HV3
  have hlen := hw.len
  unfold maxLen at hlen
  have HKV := Lib.hid hkv
  have HD := Lib.hid (fun w hA => rdeep_any _ t (Nat.le_refl _) hd hw w (fun b => w2.heap.size ≤ b) cA cc hA)
  unfold tv at HD
  clear hkv hw
  dsimp only [V8.val]
  have dp : decide ((L.length : Int) < (L.length : Int)) = false := decide_eq_false (by omega)
  go_wp2_with fail
  clear r0 r3'
  obtain ⟨w4, hw4⟩ : ∃ w4, w4 = w3.alloc (.cells #[.int .i64 t.kind, .int .i64 t.num, .int .i64 t.c1, .int .i64 t.r1, .int .i64 t.c2, .int .i64 t.r2, .string ⟨t.word.toArray⟩, .slice cA t.kids.length cc] 29) := ⟨_, rfl⟩
  rw [← hw4]
  have hb4 : Below w3.heap.size w3 w4 := by rw [hw4]; exact (Below.refl _ _).alloc (Nat.le_refl _) _
  have HX4 : Hid (C8 w4 w3.heap.size (.int .i64 t.kind) (.int .i64 t.num) (.int .i64 t.c1) (.int .i64 t.r1) (.int .i64 t.c2) (.int .i64 t.r2) (.string ⟨t.word.toArray⟩) (.slice cA t.kids.length cc)) := Lib.hid (by rw [hw4]; exact cells8_of' (heap_alloc_new w3 _))
  have z4 : w3.heap.size < w4.heap.size := by rw [hw4]; simp
  clear hw4
  refine (HD.out w4 (HKV.out.kept (Kept.of_below hb4))).mono ?_; rintro e w5 ⟨rfl, b5⟩
  have hb35 : Below w3.heap.size w3 w5 := hb4.trans (b5.mono hb4.size)
  have HB5 : Hid (But w1.heap.size w w5) := Lib.hid (HB3.out.trans (But.of_below hb35))
  have z45 := b5.size
  have zK5 : w.heap.size < w5.heap.size := by omega
  have zX5 : w3.heap.size < w5.heap.size := by omega
  have HK5 : Hid (C8 w5 w.heap.size (.int .i64 0) (.int .i64 0) (.int .i64 0) (.int .i64 0) (.int .i64 0) (.int .i64 0) (.string ⟨#[]⟩) (.slice none 0 0) ∧ F8 w5 w.heap.size) := Lib.hid ⟨c8_liftB (fun q v hv => keep_cell hb35 hv) HK3.out.1, f8_liftB (fun q hv => keep_frozen hb35 zK3 hv) HK3.out.2⟩
  have HKV5 := Lib.hid (HKV.out.kept (Kept.of_below hb35))
  have HX5 : C8 w5 w3.heap.size (.int .i64 t.kind) (.int .i64 t.num) (.int .i64 t.c1) (.int .i64 t.r1) (.int .i64 t.c2) (.int .i64 t.r2) (.string ⟨t.word.toArray⟩) (.slice cA t.kids.length cc) := c8_liftB (fun q v hv => keep_cell b5 hv) HX4.out
  obtain ⟨x0, x1, x2, x3, x4, x5, x6, x7⟩ := HX5
  clear hb4 b5 hb35 HK3 HB3 HT3 HX4 HKV
  obtain ⟨⟨k0, k1, k2, k3, k4, k5, k6, k7⟩, f0, f1, f2, f3, f4, f5, f6, f7⟩ := HK5.out
  go_wp2_with fail
  all_goals exact bodyPost_ret (v := .tuple #[.agg #[.int .i64 0, .int .i64 0, .int .i64 0, .int .i64 0, .int .i64 0, .int .i64 0, .string ⟨#[]⟩, .slice none 0 0], .int .i64 0, .int .i64 6]) (by simp [results, Tryz.results15, go_sem, k0, k1, k2, k3, k4, k5, k6, k7, zK5]) rfl ⟨rfl, by
    have hb := HB5.out.below (n := w.heap.size) (by omega) (Nat.le_refl _)
    with_reducible repeat' (first | exact hb | refine Below.setCell ?_ (by exact Nat.le_refl w.heap.size) _ | refine Below.drew ?_ | refine Below.alloc ?_ (by first | omega | (simp; omega)) _)⟩
set_option maxHeartbeats 2000000 in
set_option maxRecDepth 10000 in
theorem rparse_good (s : ByteArray) (hs : s.size ≤ 9223372036854775807) (w : World) (h2 : ansE s.data.toList = 0) (hL : (ansL s.data.toList).length ≤ 1000) (hG : GoodL (ansL s.data.toList)) {t : Tr} (hw : Wid t) (hd : deepT t ≤ 1000000000) (h16 : decide ((16 : Int) < (deepT t : Int)) = false) (hg : treeT (ansL s.data.toList) s.size = some (.ok t (ansL s.data.toList).length)) :
    Calls Tryz.prog 15 #[.string s] w (PostR w (.good t)) := by
  have HSc := Lib.hid (fun w => lscan_any s hs w)
  rw [h2] at HSc
  have HL := Lib.hid (fun R A cap => (famR_all (R := R) (A := A) (cap := cap) (E := s.size) hL hG (8 * (ansL s.data.toList).length + 6) (by omega) (8 * (ansL s.data.toList).length + 6) (Nat.le_refl _)).l1)
  have HGT : Hid (goS (lineF (ansL s.data.toList) s.size (8 * (ansL s.data.toList).length + 6) 1) (.run 0) = toS (some (.ok t (ansL s.data.toList).length))) := Lib.hid (by rw [← hg]; rfl)
  generalize (ansL s.data.toList) = L at *
  clear h2 hg hG
  go_enter Tryz.func15, Tryz.ntmps15
  go_wp2_with fail
  refine (HSc.out _).mono ?_; rintro e w1 ⟨v, rfl, hrow, b1⟩
  have HK1 : Hid (C8 w1 w.heap.size (.int .i64 0) (.int .i64 0) (.int .i64 0) (.int .i64 0) (.int .i64 0) (.int .i64 0) (.string ⟨#[]⟩) (.slice none 0 0) ∧ F8 w1 w.heap.size) := Lib.hid ⟨⟨keep_fresh b1 0 rfl, keep_fresh b1 1 rfl, keep_fresh b1 2 rfl, keep_fresh b1 3 rfl, keep_fresh b1 4 rfl, keep_fresh b1 5 rfl, keep_fresh b1 6 rfl, keep_fresh b1 7 rfl⟩, fresh_frozen b1 0, fresh_frozen b1 1, fresh_frozen b1 2, fresh_frozen b1 3, fresh_frozen b1 4, fresh_frozen b1 5, fresh_frozen b1 6, fresh_frozen b1 7⟩
  have h1 : Below w.heap.size w w1 := ((Below.refl _ _).alloc (Nat.le_refl _) _).trans (b1.mono (by simp))
  have z1 : w.heap.size < w1.heap.size := by have := b1.size; simp at this; omega
  clear b1
  obtain ⟨A, cap, rfl, hA, hcm⟩ := tok_shape hrow
  unfold maxLen at hcm
  have HA := Lib.hid hA
  have H1 := Lib.hid h1
  clear hrow hA h1
  go_wp2_with fail
  obtain ⟨w2, hw2⟩ : ∃ w2, w2 = w1.alloc (.cells #[.slice A L.length cap, .int .i64 0, .int .i64 (s.size : Int), .bool false, .int .i64 0] 64) := ⟨_, rfl⟩
  rw [← hw2]
  have hb2 : Below w1.heap.size w1 w2 := by rw [hw2]; exact (Below.refl _ _).alloc (Nat.le_refl _) _
  have HR2 : Hid (RS w2 w1.heap.size A cap L s.size (.run 0)) := Lib.hid (by rw [hw2]; exact ⟨Nat.zero_le _, 0, ⟨by simp [go_sem], by simp [go_sem], by simp [go_sem], by simp [go_sem], by simp [go_sem], by simp [go_sem], by simp [go_sem], by simp [go_sem]⟩⟩)
  have z2 : w1.heap.size < w2.heap.size := by rw [hw2]; simp
  have HT2 : Hid (TK w2 w1.heap.size A L) := Lib.hid (by
    by_cases hl : L = []
    · exact .inl hl
    · obtain ⟨gg, hgA, hgl, _, hat⟩ := HA.out hl
      exact .inr ⟨gg, hgA, by omega, by omega, hat.but (R := w1.heap.size) (But.of_below hb2) (by omega)⟩)
  have HB2 : Hid (But w1.heap.size w w2) := Lib.hid ((But.of_below H1.out).trans (But.of_below hb2))
  have HK2 : Hid (C8 w2 w.heap.size (.int .i64 0) (.int .i64 0) (.int .i64 0) (.int .i64 0) (.int .i64 0) (.int .i64 0) (.string ⟨#[]⟩) (.slice none 0 0) ∧ F8 w2 w.heap.size) := Lib.hid ⟨c8_liftB (fun q v hv => keep_cell hb2 hv) HK1.out.1, f8_liftB (fun q hv => keep_frozen hb2 z1 hv) HK1.out.2⟩
  clear hb2 hw2 HK1 H1 HA
  refine (HL.out w1.heap.size A cap w2 (.run 0) _ HR2.out HT2.out HGT.out).mono ?_; rintro e w3 ⟨⟨c0, c1, c2, c3, c4, c5, cw, cA, cl, cc⟩, rfl, v3, r3, b3⟩
  have nK : w.heap.size ≠ w1.heap.size := by omega
  have zK2 : w.heap.size < w2.heap.size := by omega
  have HB3 : Hid (But w1.heap.size w w3) := Lib.hid (HB2.out.trans b3)
  have z3 : w1.heap.size < w3.heap.size := Nat.lt_of_lt_of_le z2 b3.size
  have zK3 : w.heap.size < w3.heap.size := by omega
  have HK3 : Hid (C8 w3 w.heap.size (.int .i64 0) (.int .i64 0) (.int .i64 0) (.int .i64 0) (.int .i64 0) (.int .i64 0) (.string ⟨#[]⟩) (.slice none 0 0) ∧ F8 w3 w.heap.size) := Lib.hid ⟨c8_liftB (fun q v hv => b3.cell nK hv) HK2.out.1, f8_liftB (fun q hv => b3.frozen nK zK2 hv) HK2.out.2⟩
  have HT3 : Hid (TK w3 w1.heap.size A L) := Lib.hid (HT2.out.but b3)
  have z23 : w2.heap.size ≤ w3.heap.size := b3.size
  have HV3 := Lib.hid v3
  clear v3 HK2 HR2 HT2 HB2 b3
  obtain ⟨hql, x', hc⟩ := r3
  have r0 := hc.c1
  have r3' := hc.c3
  clear hc
  obtain ⟨A', ca', hx, hkv⟩ := HV3.out
  obtain ⟨rfl, rfl, rfl, rfl, rfl, rfl, rfl, rfl, rfl, rfl⟩ : c0 = t.kind ∧ c1 = t.num ∧ c2 = t.c1 ∧ c3 = t.r1 ∧ c4 = t.c2 ∧ c5 = t.r2 ∧ cw = ⟨t.word.toArray⟩ ∧ cA = A' ∧ cl = t.kids.length ∧ cc = ca' := by
    unfold tv8 at hx
    injection hx with h0 h1 h2 h3 h4 h5 h6 h7 h8 h9
    exact ⟨h0, h1, h2, h3, h4, h5, h6, h7, h8, h9⟩
  clear hx HV3
  have hlen := hw.len
  unfold maxLen at hlen
  have HKV := Lib.hid hkv
  have HD := Lib.hid (fun w hA => rdeep_any _ t (Nat.le_refl _) hd hw w (fun b => w2.heap.size ≤ b) cA cc hA)
  unfold tv at HD
  clear hkv hw
  dsimp only [V8.val]
  have dp : decide ((L.length : Int) < (L.length : Int)) = false := decide_eq_false (by omega)
  go_wp2_with fail
  clear r0 r3'
  obtain ⟨w4, hw4⟩ : ∃ w4, w4 = w3.alloc (.cells #[.int .i64 t.kind, .int .i64 t.num, .int .i64 t.c1, .int .i64 t.r1, .int .i64 t.c2, .int .i64 t.r2, .string ⟨t.word.toArray⟩, .slice cA t.kids.length cc] 29) := ⟨_, rfl⟩
  rw [← hw4]
  have hb4 : Below w3.heap.size w3 w4 := by rw [hw4]; exact (Below.refl _ _).alloc (Nat.le_refl _) _
  have HX4 : Hid (C8 w4 w3.heap.size (.int .i64 t.kind) (.int .i64 t.num) (.int .i64 t.c1) (.int .i64 t.r1) (.int .i64 t.c2) (.int .i64 t.r2) (.string ⟨t.word.toArray⟩) (.slice cA t.kids.length cc)) := Lib.hid (by rw [hw4]; exact cells8_of' (heap_alloc_new w3 _))
  have z4 : w3.heap.size < w4.heap.size := by rw [hw4]; simp
  clear hw4
  refine (HD.out w4 (HKV.out.kept (Kept.of_below hb4))).mono ?_; rintro e w5 ⟨rfl, b5⟩
  have hb35 : Below w3.heap.size w3 w5 := hb4.trans (b5.mono hb4.size)
  have HB5 : Hid (But w1.heap.size w w5) := Lib.hid (HB3.out.trans (But.of_below hb35))
  have z45 := b5.size
  have zK5 : w.heap.size < w5.heap.size := by omega
  have zX5 : w3.heap.size < w5.heap.size := by omega
  have HK5 : Hid (C8 w5 w.heap.size (.int .i64 0) (.int .i64 0) (.int .i64 0) (.int .i64 0) (.int .i64 0) (.int .i64 0) (.string ⟨#[]⟩) (.slice none 0 0) ∧ F8 w5 w.heap.size) := Lib.hid ⟨c8_liftB (fun q v hv => keep_cell hb35 hv) HK3.out.1, f8_liftB (fun q hv => keep_frozen hb35 zK3 hv) HK3.out.2⟩
  have HKV5 := Lib.hid (HKV.out.kept (Kept.of_below hb35))
  have HX5 : C8 w5 w3.heap.size (.int .i64 t.kind) (.int .i64 t.num) (.int .i64 t.c1) (.int .i64 t.r1) (.int .i64 t.c2) (.int .i64 t.r2) (.string ⟨t.word.toArray⟩) (.slice cA t.kids.length cc) := c8_liftB (fun q v hv => keep_cell b5 hv) HX4.out
  obtain ⟨x0, x1, x2, x3, x4, x5, x6, x7⟩ := HX5
  clear hb4 b5 hb35 HK3 HB3 HT3 HX4 HKV
  obtain ⟨⟨k0, k1, k2, k3, k4, k5, k6, k7⟩, f0, f1, f2, f3, f4, f5, f6, f7⟩ := HK5.out
  go_wp2_with fail
  exact bodyPost_ret (v := .tuple #[.agg #[.int .i64 t.kind, .int .i64 t.num, .int .i64 t.c1, .int .i64 t.r1, .int .i64 t.c2, .int .i64 t.r2, .string ⟨t.word.toArray⟩, .slice cA t.kids.length cc], .int .i64 0, .int .i64 0]) (by simp [results, Tryz.results15, go_sem, k0, k1, k2, k3, k4, k5, k6, k7, x0, x1, x2, x3, x4, x5, x6, x7, zK5, zX5]) rfl ⟨⟨cA, cc, rfl, by
    refine KV.imp (fun b (hb : w2.heap.size ≤ b) => by show w.heap.size ≤ b; omega) (HKV5.out.kept ?_)
    with_reducible repeat' (first | exact Kept.refl _ _ | refine Kept.alloc ?_ _ | refine Kept.set ?_ (.inl (by show ¬ (w2.heap.size ≤ w.heap.size); omega)) _ _)⟩, by
    have hb := HB5.out.below (n := w.heap.size) (by omega) (Nat.le_refl _)
    with_reducible repeat' (first | exact hb | refine Below.setCell ?_ (by exact Nat.le_refl w.heap.size) _ | refine Below.alloc ?_ (by first | omega | (simp; omega)) _)⟩
theorem rparse_any (s : ByteArray) (hs : s.size ≤ 9223372036854775807) (w : World) :
    Calls Tryz.prog 15 #[.string s] w (PostR w (parseL s.data.toList)) := by
  have hlen : s.data.toList.length = s.size := len_of s
  unfold parseL
  rw [hlen]
  by_cases h0 : ansE s.data.toList = 0
  · rw [if_neg (fun h => h h0)]
    have hl : s.data.toList.length ≤ 200 := by
      rcases Nat.lt_or_ge 200 s.data.toList.length with h | h
      · have e3 : ansE s.data.toList = 3 := if_pos h
        rw [e3] at h0; cases h0
      · exact h
    have hG := good_ans h0 hl
    have hL := ans_len s.data.toList
    obtain ⟨res, ht, hq⟩ := tree_some (ansL s.data.toList) s.size
    rw [ht]
    cases res with
    | bad z => exact rparse_bad s hs w h0 hL hG ht
    | ok t q =>
      dsimp only
      by_cases h1 : q < (ansL s.data.toList).length
      · rw [if_pos h1]
        exact rparse_more s hs w h0 hL hG h1 ht
      · rw [if_neg h1]
        have hqe : q = (ansL s.data.toList).length := by have := hq t q rfl; omega
        subst hqe
        obtain ⟨hw, hd⟩ := tree_wid hL ht
        by_cases h6 : 16 < deepT t
        · rw [if_pos h6]
          exact rparse_deep s hs w h0 hL hG hw hd (decide_eq_true (by omega)) ht
        · rw [if_neg h6]
          exact rparse_good s hs w h0 hL hG hw hd (decide_eq_false (by omega)) ht
  · rw [if_pos h0]
    exact rparse_err s hs w (by rw [bne_iff_ne]; exact h0) rfl rfl
end Go.Proofs.YthaoalmhhgllmaaGreatDoor
namespace Go.Proofs.YthaoalmhhgllmaaGreatDoor
open Go.RowKit
def tx7 : List UInt8 := [73, 70, 40, 67, 79, 85, 78, 84, 40, 65, 49, 58, 67, 49, 41, 61, 50, 44, 83, 85, 77, 40, 65, 49, 58, 67, 49, 44, 45, 49, 41, 42, 77, 65, 88, 40, 66, 50, 44, 65, 50, 58, 65, 57, 41, 44, 49, 47, 48, 41]
def tr7 : Tr := callT [73, 70] [opT [61] (callT [67, 79, 85, 78, 84] [spanT 0 0 2 0]) (numT 2), opT [42] (callT [83, 85, 77] [spanT 0 0 2 0, negT (numT 1)]) (callT [77, 65, 88] [readT 1 1, spanT 0 1 0 8]), opT [47] (numT 1) (numT 0)]
theorem live_p : parseL tx7 = .good tr7 := by kernel_rfl
def c71 : List Cel := [⟨0, 0, 5, 0⟩, ⟨2, 0, 7, 0⟩, ⟨0, 3, 3, 0⟩]
def c72 : List Cel := [⟨2, 0, 7, 0⟩, ⟨0, 3, 3, 0⟩]
def c73 : List Cel := [⟨0, 0, 0, 4⟩, ⟨0, 0, 5, 0⟩, ⟨2, 0, 7, 0⟩, ⟨0, 3, 3, 0⟩]
theorem live_1 : ofV c71 tr7 = (33, 0) := by kernel_rfl
theorem live_2 : ofV c72 tr7 = (0, 2) := by kernel_rfl
theorem live_3 : ofV c73 tr7 = (0, 4) := by kernel_rfl
theorem live_c : ∀ l ∈ [c71, c72, c73], ∀ q ∈ l, B64 q.n ∧ B64 q.c ∧ B64 q.r := by
  intro l hl q hq
  unfold B64
  simp only [List.mem_cons, List.not_mem_nil, or_false] at hl
  rcases hl with rfl | rfl | rfl <;> (simp only [c71, c72, c73, List.mem_cons, List.not_mem_nil, or_false] at hq)
  · rcases hq with rfl | rfl | rfl <;> decide
  · rcases hq with rfl | rfl <;> decide
  · rcases hq with rfl | rfl | rfl | rfl <;> decide
mutual
def okB : Tr → Bool
  | .mk _ n _ _ _ _ _ ks => decide (n ≤ 9223372036854775807) && decide (ks.length ≤ 1000000) && okLB ks
def okLB : List Tr → Bool
  | [] => true
  | t :: ts => okB t && okLB ts
end
mutual
theorem ok_wf : ∀ {t : Tr}, okB t = true → Wid t ∧ Fit t
  | .mk k n c r d s w ks, h => by
    rw [okB, Bool.and_eq_true, Bool.and_eq_true, decide_eq_true_iff, decide_eq_true_iff] at h
    have hl := okL_wf h.2
    exact ⟨.mk (Nat.le_trans h.1.2 (by decide)) fun t ht => (hl t ht).1, .mk h.1.1 fun t ht => (hl t ht).2⟩
theorem okL_wf : ∀ {l : List Tr}, okLB l = true → ∀ t ∈ l, Wid t ∧ Fit t
  | [], _, t, ht => by cases ht
  | u :: us, h, t, ht => by
    rw [okLB, Bool.and_eq_true] at h
    rcases List.mem_cons.1 ht with e | ht
    · rw [e]; exact ok_wf h.1
    · exact okL_wf h.2 t ht
end
theorem live_w : Wid tr7 ∧ Fit tr7 := ok_wf (by decide)
theorem live_n : cntT tr7 ≤ 1000000 := by decide
end Go.Proofs.YthaoalmhhgllmaaGreatDoor
namespace Go.Proofs.YthaoalmhhgllmaaGreatDoor
open Go.RowKit Go.Maps Go.Deep
theorem placeKeyed : Keyed Tryz.prog 24 := Keyed.of_law (deep_law_laid laidOutT (m := 2) (by omega) (of_decide_eq_true (by kernel_rfl)) (by kernel_rfl) (by rw [Tryz.underlying24]))
def kP (x y : Int) : Lit := .string (keyBytes [.int .i64 x, .int .i64 y])
theorem wf64 {x : Int} (h : B64 x) : (Lit.int .i64 x).wf = true := by
  have e1 : IntKind.i64.min = -9223372036854775808 := rfl
  have e2 : IntKind.i64.max = 9223372036854775807 := rfl
  unfold B64 at h
  simp [Lit.wf, e1, e2]
  omega
set_option maxRecDepth 100000 in
theorem key_of {x y : Int} (hx : B64 x) (hy : B64 y) : keyOf Tryz.prog 24 (.agg #[.int .i64 x, .int .i64 y]) = some (kP x y) := by
  have h1 : Tryz.prog.keyType 24 = true := by kernel_rfl
  have h2 : (Value.agg #[.int .i64 x, .int .i64 y]).formed Tryz.prog 24 = true := by
    simp [Value.formed, Tryz.underlying24, cells_place]
  obtain ⟨d, hd⟩ : ∃ d, Tryz.prog.types.size = d + 1 := ⟨Tryz.prog.types.size - 1, by kernel_rfl⟩
  have h3 : Tryz.prog.keyLits (Tryz.prog.types.size + 1) 24 [.int .i64 x, .int .i64 y] = some [.int .i64 x, .int .i64 y] := by
    rw [hd]
    simp [Program.keyLits, Tryz.underlying24, Tryz.underlying3, cells_place, cells_int, wf64 hx, wf64 hy]
  unfold keyOf
  rw [Tryz.underlying24]
  simp only [h1, h2, Bool.and_self, if_true]
  show (Tryz.prog.keyLits (Tryz.prog.types.size + 1) 24 [.int .i64 x, .int .i64 y]).map _ = _
  rw [h3]; rfl
theorem kP_inj {x y p q : Int} (hx : B64 x) (hy : B64 y) (hp : B64 p) (hq : B64 q) (h : kP x y = kP p q) : x = p ∧ y = q := by
  have h1 := key_of hx hy
  rw [h] at h1
  have := placeKeyed.inj h1 (key_of hp hq)
  simpa using this
def litV (n f : Int) : DataW Unit := .agg [.lit (.int .i64 n), .lit (.int .i64 f)]
def pairElem (v : Value) : Option (DataW Unit × List MemPlace) := match v with
  | .agg a => (match a.toList with
    | [.int .i64 n, .int .i64 f] => some (litV n f, [])
    | _ => none)
  | _ => none
theorem pairElem_mk (n f : Int) : pairElem (.agg #[.int .i64 n, .int .i64 f]) = some (litV n f, []) := rfl
theorem pairElem_inv {v : Value} {n f : Int} {ps : List MemPlace} (h : pairElem v = some (litV n f, ps)) : v = .agg #[.int .i64 n, .int .i64 f] := by
  unfold pairElem at h
  split at h
  · rename_i a
    split at h
    · rename_i m g hl
      unfold litV at h
      simp only [Option.some.injEq, Prod.mk.injEq, DataW.agg.injEq, List.cons.injEq, DataW.lit.injEq, Lit.int.injEq, true_and, and_true] at h
      obtain ⟨⟨rfl, rfl⟩, _⟩ := h
      obtain ⟨l⟩ := a
      simp only at hl
      rw [hl]
    · cases h
  · cases h
theorem pairZero (w : World) : (zeroValue 35).run Tryz.prog w = .ok (.agg #[.int .i64 0, .int .i64 0]) w := by kernel_rfl
def MapC (w : World) (b : Nat) (l : List Cel) : Prop := ∃ (n : Nat) (D : DataW Unit), n ≤ l.length ∧ w.ownsMap Tryz.prog 24 pairElem b n D ∧ ∀ x y, B64 x → B64 y → D.atKey (kP x y) (litV 0 0) = litV (oN (cAt x y l)) (oF (cAt x y l)) ∧ has D (kP x y) = (cAt x y l).isSome
theorem MapC.below {w w' : World} {b : Nat} {l : List Cel} (h : MapC w b l) (hb : Below w.heap.size w w') : MapC w' b l := by
  obtain ⟨n, D, h1, h2, h3⟩ := h
  exact ⟨n, D, h1, h2.kept (grown_of_below hb none) (by simp), h3⟩
theorem MapC.lt {w : World} {b : Nat} {l : List Cel} (h : MapC w b l) : b < w.heap.size := by
  obtain ⟨n, D, h1, h2, h3⟩ := h
  exact h2.lt
theorem MapC.made (w : World) : MapC (w.alloc (.map #[] 0)) w.heap.size [] := ⟨0, .map [], Nat.le_refl _, World.ownsMap_made w Tryz.prog 24 pairElem, fun _ _ _ _ => ⟨rfl, rfl⟩⟩
theorem cAt_put {l : List Cel} {q : Cel} (x y : Int) : cAt x y (l ++ [q]) = (cAt x y l).or (if q.c = x ∧ q.r = y then some (aloneV q) else none) := by rw [cAt_app, cAt_one]
theorem MapC.old {w : World} {b : Nat} {l : List Cel} {q : Cel} (h : MapC w b l) (hq : (cAt q.c q.r l).isSome = true) : MapC w b (l ++ [q]) := by
  obtain ⟨n, D, h1, h2, h3⟩ := h
  refine ⟨n, D, by simp; omega, h2, fun x y hx hy => ?_⟩
  have e : cAt x y (l ++ [q]) = cAt x y l := by
    rw [cAt_put]
    by_cases hp : q.c = x ∧ q.r = y
    · obtain ⟨rfl, rfl⟩ := hp
      cases hc : cAt q.c q.r l with
      | none => rw [hc] at hq; cases hq
      | some v => rfl
    · rw [if_neg hp, Option.or_none]
  rw [e]; exact h3 x y hx hy
theorem map_put {D : DataW Unit} {l : List Cel} {q : Cel} (hD : IsMap D) (hb : B64 q.c ∧ B64 q.r) (h3 : ∀ x y, B64 x → B64 y → D.atKey (kP x y) (litV 0 0) = litV (oN (cAt x y l)) (oF (cAt x y l)) ∧ has D (kP x y) = (cAt x y l).isSome) (hq : (cAt q.c q.r l).isSome = false) :
    ∀ x y, B64 x → B64 y → (D.put (kP q.c q.r) (litV (aloneV q).1 (aloneV q).2)).atKey (kP x y) (litV 0 0) = litV (oN (cAt x y (l ++ [q]))) (oF (cAt x y (l ++ [q]))) ∧ has (D.put (kP q.c q.r) (litV (aloneV q).1 (aloneV q).2)) (kP x y) = (cAt x y (l ++ [q])).isSome := by
  intro x y hx hy
  rw [cAt_put]
  by_cases hp : q.c = x ∧ q.r = y
  · obtain ⟨rfl, rfl⟩ := hp
    have hn : cAt q.c q.r l = none := by
      cases hc : cAt q.c q.r l with
      | none => rfl
      | some v => rw [hc] at hq; cases hq
    rw [hn, if_pos ⟨rfl, rfl⟩, atKey_put_same hD (placeKeyed.key (key_of hb.1 hb.2)), has_put_same hD (placeKeyed.key (key_of hb.1 hb.2))]
    exact ⟨rfl, rfl⟩
  · have hne : kP x y ≠ kP q.c q.r := fun e => by
      obtain ⟨e1, e2⟩ := kP_inj hx hy hb.1 hb.2 e
      exact hp ⟨e1.symm, e2.symm⟩
    rw [if_neg hp, Option.or_none, atKey_put_other hne, has_put_other hne]
    exact h3 x y hx hy
section
variable (w : World) {ops : Array Oper} {rest : List Oper} {o : Oper} {a : Act} {Q : Exit → Act → World → Prop}
theorem wpList_cells_ok (hg : o.guard = none) (m x : Operand) (hop : o.op = Op.lookup 52 m x true) {b : Nat} {l : List Cel} (hm : a.eval m = .map (some b)) (hM : MapC w b l) {p q n f : Int} {s : Bool} (hp : B64 p) (hq : B64 q)
    (hx : a.eval x = .agg #[.int .i64 p, .int .i64 q]) (h1 : oN (cAt p q l) = n) (h2 : oF (cAt p q l) = f) (h3 : (cAt p q l).isSome = s)
    (hK : wpList Tryz.prog ops Q rest (a.put o.dst (.tuple #[.agg #[.int .i64 n, .int .i64 f], .bool s])) w) : wpList Tryz.prog ops Q (o :: rest) a w := by
  obtain ⟨k, D, _, hown, hD⟩ := hM
  obtain ⟨e1, e2⟩ := hD p q hp hq
  refine wpList_lookup_own_ok w hg m x 52 hop 24 35 placeKeyed Tryz.underlying52 pairElem (pairZero w) (litV 0 0) [] rfl b k D hm hown _ _ hx (key_of hp hq) fun v ps hv => ?_
  rw [e1] at hv
  have := pairElem_inv hv
  subst this
  rw [e2, h1, h2, h3]
  exact hK
theorem wpList_cells (hg : o.guard = none) (m x : Operand) (hop : o.op = Op.lookup 52 m x false) {b : Nat} {l : List Cel} (hm : a.eval m = .map (some b)) (hM : MapC w b l) {p q n f : Int} (hp : B64 p) (hq : B64 q)
    (hx : a.eval x = .agg #[.int .i64 p, .int .i64 q]) (h1 : oN (cAt p q l) = n) (h2 : oF (cAt p q l) = f)
    (hK : wpList Tryz.prog ops Q rest (a.put o.dst (.agg #[.int .i64 n, .int .i64 f])) w) : wpList Tryz.prog ops Q (o :: rest) a w := by
  obtain ⟨k, D, _, hown, hD⟩ := hM
  obtain ⟨e1, e2⟩ := hD p q hp hq
  refine wpList_plain hg fun K' hK' => ?_
  obtain ⟨v, ps, hrun, hv⟩ := hown.lookup placeKeyed Tryz.underlying52 (pairZero w) (zd := litV 0 0) (zp := []) rfl (key_of hp hq)
  rw [e1] at hv
  have := pairElem_inv hv
  subst this
  rw [h1, h2] at hrun
  unfold Oper.wp
  simp [execOp, hop, hm, hx, hrun, Result.andThen]
  exact hK' _ _ hK
end
theorem MapC.put {w : World} {b : Nat} {l : List Cel} {q : Cel} (hM : MapC w b l) (hl : l.length < maxLen) (hb : B64 q.c ∧ B64 q.r) (hq : (cAt q.c q.r l).isSome = false) :
    ∃ w', (Instr.mapUpdate 52 (.map (some b)) (.agg #[.int .i64 q.c, .int .i64 q.r]) (.agg #[.int .i64 (aloneV q).1, .int .i64 (aloneV q).2])).run Tryz.prog w = .ok () w' ∧ MapC w' b (l ++ [q]) ∧ w.grownBy w' (some b) := by
  obtain ⟨k, D, hkl, hown, hD⟩ := hM
  obtain ⟨w', hrun, r1, r2⟩ := hown.update placeKeyed Tryz.underlying52 (by omega) (key_of hb.1 hb.2) (pairElem_mk (aloneV q).1 (aloneV q).2)
  exact ⟨w', hrun, ⟨k + 1, _, by simp; omega, r1, map_put hown.isMap hb hD hq⟩, r2⟩
end Go.Proofs.YthaoalmhhgllmaaGreatDoor
namespace Go.Proofs.YthaoalmhhgllmaaGreatDoor
theorem hasB_iff (a b c d x y : Int) : hasB a b c d x y = true ↔ wholeB a b c d = true ∧ a ≤ x ∧ x ≤ c ∧ b ≤ y ∧ y ≤ d := by
  unfold hasB; simp
end Go.Proofs.YthaoalmhhgllmaaGreatDoor
namespace Go.Proofs.YthaoalmhhgllmaaGreatDoor
open Go.RowKit
theorem cellsTo_skip {a b c d : Int} {i : Nat} : ∀ n : Nat, (∀ j, i ≤ j → j < i + n → hasB a b c d (atC (j : Int)) (atR (j : Int)) = false) → cellsTo a b c d (i + n) = cellsTo a b c d i
  | 0, _ => rfl
  | n + 1, h => by
    have h1 := cellsTo_skip (a := a) (b := b) (c := c) (d := d) (i := i) n fun j h1 h2 => h j h1 (by omega)
    rw [← h1]
    exact cellsTo_no (h (i + n) (by omega) (by omega))
theorem cellsTo_eq {a b c d : Int} {i k : Nat} (hk : i ≤ k) (h : ∀ j, i ≤ j → j < k → hasB a b c d (atC (j : Int)) (atR (j : Int)) = false) : cellsTo a b c d i = cellsTo a b c d k := by
  obtain ⟨n, rfl⟩ := Nat.exists_eq_add_of_le hk
  exact (cellsTo_skip n h).symm
theorem has_not {a b c d : Int} {j : Nat} (hj : j < 1024) (h : ¬ (a ≤ (j : Int) % 16 ∧ (j : Int) % 16 ≤ c ∧ b ≤ (j : Int) / 16 ∧ (j : Int) / 16 ≤ d)) : hasB a b c d (atC (j : Int)) (atR (j : Int)) = false := by
  rw [atC_of j hj, atR_of j hj]
  cases hx : hasB a b c d ((j : Int) % 16) ((j : Int) / 16) with
  | false => rfl
  | true => exact absurd ((hasB_iff _ _ _ _ _ _).1 hx).2 h
theorem cells_none {a b c d : Int} (hw : wholeB a b c d = false) : cellsTo a b c d 1024 = [] := by
  refine (cellsTo_eq (i := 0) (Nat.zero_le _) fun j _ _ => ?_).symm
  unfold hasB
  rw [hw, Bool.false_and]

set_option maxHeartbeats 400000 in
theorem pcells_no (a b c d : Int) (w : World) (hW : wholeB a b c d = false) :
    Calls Tryz.prog 119 #[.agg #[.int .i64 a, .int .i64 b, .int .i64 c, .int .i64 d]] w fun e w' => ∃ v, e = .returned v ∧
      w'.ownsRow w.heap.size 24 2 v (cellsTo a b c d 1024).length (cells2 (cellsTo a b c d 1024)) ∧ Below w.heap.size w w' := by
  have HC := Lib.hid (cells_none hW)
  have HW := Lib.hid (pwhole_any a b c d)
  rw [hW] at HW
  rw [HC.out]
  clear hW
  go_enter Tryz.func119, Tryz.ntmps119
  go_wp2_with fail
  refine (HW.out _).mono ?_; rintro e w1 ⟨rfl, b1⟩
  have h1 : Below w.heap.size w w1 := ((Below.refl _ _).alloc (Nat.le_refl _) _).trans (b1.mono (by simp))
  clear b1
  go_wp2_with fail
  go_ret
  exact ⟨_, rfl, World.ownsRow_nil _ _ _ _, h1⟩

set_option maxHeartbeats 2000000 in
set_option maxRecDepth 10000 in
theorem pcells_yes (a b c d : Nat) (w : World) (hW : wholeB a b c d = true) :
    Calls Tryz.prog 119 #[.agg #[.int .i64 a, .int .i64 b, .int .i64 c, .int .i64 d]] w fun e w' => ∃ v, e = .returned v ∧
      w'.ownsRow w.heap.size 24 2 v (cellsTo a b c d 1024).length (cells2 (cellsTo a b c d 1024)) ∧ Below w.heap.size w w' := by
  obtain ⟨i0, hi0, hz0, hz1, hz2⟩ := info_parts place_info
  have HI := Lib.hid hi0
  have HZ0 := Lib.hid hz0
  have HZ1 := Lib.hid hz1
  have HZ2 := Lib.hid hz2
  clear hi0 hz0 hz1 hz2
  have HW := Lib.hid (pwhole_any a b c d)
  have hq := (wholeB_iff _ _ _ _).1 hW
  have Hhas : Hid (∀ j : Nat, j < 1024 → (a : Int) ≤ (j : Int) % 16 → (j : Int) % 16 ≤ c → (b : Int) ≤ (j : Int) / 16 → (j : Int) / 16 ≤ d → hasB a b c d (atC (j : Int)) (atR (j : Int)) = true) :=
    Lib.hid fun j hj h1 h2 h3 h4 => by rw [atC_of j hj, atR_of j hj]; exact (hasB_iff _ _ _ _ _ _).2 ⟨hW, h1, h2, h3, h4⟩
  rw [hW] at HW
  clear hW
  have ha : a ≤ 15 := by omega
  have hb : b ≤ 63 := by omega
  have hc : c ≤ 15 := by omega
  have hd : d ≤ 63 := by omega
  have hac : a ≤ c := by omega
  have hbd : b ≤ d := by omega
  clear hq
  have HE0 : Hid (cellsTo a b c d (16 * b) = []) := Lib.hid (cellsTo_eq (i := 0) (Nat.zero_le _) fun j _ h2 => has_not (by omega) (by omega)).symm
  have HEd : Hid (cellsTo a b c d (16 * (d + 1)) = cellsTo a b c d 1024) := Lib.hid (cellsTo_eq (by omega) fun j h1 h2 => has_not (by omega) (by omega))
  have HEs : Hid (∀ row : Nat, b ≤ row → row ≤ d → cellsTo a b c d (16 * row) = cellsTo a b c d (16 * row + a)) := Lib.hid fun row h1 h2 => cellsTo_eq (by omega) fun j h3 h4 => has_not (by omega) (by omega)
  have HEe : Hid (∀ row : Nat, b ≤ row → row ≤ d → cellsTo a b c d (16 * row + (c + 1)) = cellsTo a b c d (16 * (row + 1))) := Lib.hid fun row h1 h2 => cellsTo_eq (by omega) fun j h3 h4 => has_not (by omega) (by omega)
  have HEy : Hid (∀ row col : Nat, b ≤ row → row ≤ d → a ≤ col → col ≤ c → cellsTo a b c d (16 * row + (col + 1)) = cellsTo a b c d (16 * row + col) ++ [((col : Int), (row : Int))]) := Lib.hid fun row col h1 h2 h3 h4 => by
    have hj : 16 * row + col < 1024 := by omega
    have h := cellsTo_yes (Hhas.out (16 * row + col) hj (by omega) (by omega) (by omega) (by omega))
    rw [atC_of _ hj, atR_of _ hj] at h
    have e1 : ((16 * row + col : Nat) : Int) % 16 = (col : Int) := by omega
    have e2 : ((16 * row + col : Nat) : Int) / 16 = (row : Int) := by omega
    rw [e1, e2] at h
    exact h
  clear Hhas
  go_enter Tryz.func119, Tryz.ntmps119
  go_wp2_with fail
  refine (HW.out _).mono ?_; rintro e w1 ⟨rfl, b1⟩
  have j0 := keep_fresh b1 0 (v := .int .i64 a) rfl
  have j1 := keep_fresh b1 1 (v := .int .i64 b) rfl
  have j2 := keep_fresh b1 2 (v := .int .i64 c) rfl
  have j3 := keep_fresh b1 3 (v := .int .i64 d) rfl
  have h1 : Below w.heap.size w w1 := ((Below.refl _ _).alloc (Nat.le_refl _) _).trans (b1.mono (by simp))
  clear b1
  go_wp2_with fail
  go_loopw [3, 4] (fun v n wr => ∃ row : Nat, b ≤ row ∧ row ≤ d + 1 ∧ n = .int .i64 row ∧ wr.ownsRow w1.heap.size 24 2 v (cellsTo a b c d (16 * row)).length (cells2 (cellsTo a b c d (16 * row))) ∧
      Below w1.heap.size w1 wr) (fun _ n _ => leftG n)
  case atStart => exact ⟨b, Nat.le_refl _, by omega, rfl, by rw [HE0.out]; exact World.ownsRow_nil _ _ _ _, Below.refl _ _⟩
  case round =>
    obtain ⟨row, hr0, hr1, rfl, hown, hb0⟩ := hrel
    have HO := Lib.hid hown
    have HB := Lib.hid hb0
    have k0 := keep_cell hb0 j0
    have k2 := keep_cell hb0 j2
    have k3 := keep_cell hb0 j3
    clear hown hb0
    by_cases hlt : row ≤ d
    · have HES := Lib.hid (HEs.out row hr0 hlt)
      have HEE := Lib.hid (HEe.out row hr0 hlt)
      go_wp2_with fail
      go_loopw [3, 5] (fun v n wq => ∃ col : Nat, a ≤ col ∧ col ≤ c + 1 ∧ n = .int .i64 col ∧ wq.ownsRow w1.heap.size 24 2 v (cellsTo a b c d (16 * row + col)).length (cells2 (cellsTo a b c d (16 * row + col))) ∧
          Below w1.heap.size w1 wq) (fun _ n _ => leftG n)
      case atStart => exact ⟨a, Nat.le_refl _, by omega, rfl, by rw [← HES.out]; exact HO.out, HB.out⟩
      case round =>
        obtain ⟨col, hc0, hc1, rfl, hown, hb0⟩ := hrel
        have HO2 := Lib.hid hown
        have HB2 := Lib.hid hb0
        have hlen := cellsTo_le a b c d (16 * row + col)
        have m2 := keep_cell hb0 j2
        have zq := hb0.size
        clear hown hb0
        by_cases hle : col ≤ c
        · have HY := Lib.hid (HEy.out row col hr0 hlt hc0 hle)
          go_wp2_with (at_builtin
                       refine wpList_append_own _ rfl _ _ 39 rfl w1.heap.size 24 i0 (.agg #[.int .i64 0, .int .i64 0]) 2 16 Tryz.underlying39 HI.out HZ0.out HZ1.out HZ2.out rfl (by decide) _ _ _ rfl (HO2.out.alloc _)
                         ⟨wr.heap.size, 0, none⟩ 1 1 [.int .i64 col, .int .i64 row] rfl rfl ?c1 ?c2 ?c3 ?c4 ?c5 ?_)
          case c1 =>
            intro j u hj
            match j, hj with
            | 0, hj => simp at hj; subst hj; simp [Addr.add]
            | 1, hj => simp at hj; subst hj; simp [Addr.add]
          case c2 => intro u hu; simp at hu; rcases hu with rfl | rfl <;> rfl
          case c3 => unfold maxLen; omega
          case c4 => omega
          case c5 => simp; omega
          intro v' w4 hown4 hg4 _
          rw [← cells2_snoc] at hown4
          have e5 : (cellsTo a b c d (16 * row + col)).length + 1 = (cellsTo a b c d (16 * row + (col + 1))).length := by rw [HY.out]; simp
          rw [e5, ← HY.out] at hown4
          have HO4 := Lib.hid hown4
          clear hown4 e5
          have hb4 : Below w1.heap.size w1 w4 := (HB2.out.alloc zq _).grown hg4 (by simp; omega) (fun g hgg => (HO2.out.lt g hgg).1)
          clear hg4
          go_wp2_with fail
          go_roundw
          case rel => exact ⟨col + 1, by omega, by omega, by go_num, HO4.out, hb4⟩
          case measure => simp [leftG, intOf]; omega
        · have hce : col = c + 1 := by omega
          subst hce
          have HO3 : Hid (wr.ownsRow w1.heap.size 24 2 _ (cellsTo a b c d (16 * (row + 1))).length (cells2 (cellsTo a b c d (16 * (row + 1))))) := Lib.hid (by rw [← HEE.out]; exact HO2.out)
          go_wp2_with fail
          go_roundw
          case rel => exact ⟨row + 1, by omega, by omega, by go_num, HO3.out, HB2.out⟩
          case measure => simp [leftG, intOf]; omega
    · have hre : row = d + 1 := by omega
      subst hre
      have HO3 : Hid (wr.ownsRow w1.heap.size 24 2 _ (cellsTo a b c d 1024).length (cells2 (cellsTo a b c d 1024))) := Lib.hid (by rw [← HEd.out]; exact HO.out)
      have h2 := h1.trans (HB.out.mono h1.size)
      have hz := h1.size
      go_wp2_with fail
      go_ret
      exact ⟨_, rfl, HO3.out.mono hz, h2⟩

theorem pcells_any (a b c d : Int) (w : World) :
    Calls Tryz.prog 119 #[.agg #[.int .i64 a, .int .i64 b, .int .i64 c, .int .i64 d]] w fun e w' => ∃ v, e = .returned v ∧
      w'.ownsRow w.heap.size 24 2 v (cellsTo a b c d 1024).length (cells2 (cellsTo a b c d 1024)) ∧ Below w.heap.size w w' := by
  cases hW : wholeB a b c d with
  | false => exact pcells_no a b c d w hW
  | true =>
    have hq := (wholeB_iff _ _ _ _).1 hW
    obtain ⟨a', rfl⟩ := Int.eq_ofNat_of_zero_le hq.1.1
    obtain ⟨b', rfl⟩ := Int.eq_ofNat_of_zero_le hq.1.2.2.1
    obtain ⟨c', rfl⟩ := Int.eq_ofNat_of_zero_le hq.2.1.1
    obtain ⟨d', rfl⟩ := Int.eq_ofNat_of_zero_le hq.2.1.2.2.1
    exact pcells_yes a' b' c' d' w hW
end Go.Proofs.YthaoalmhhgllmaaGreatDoor
