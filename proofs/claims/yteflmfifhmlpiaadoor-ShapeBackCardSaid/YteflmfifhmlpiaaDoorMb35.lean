/- Texts joined: RuB. -/
import Derived.Test.YteflmfifhmlpiaaDoorMb34
import Derived.Test.YteflmfifhmlpiaaDoorMa17
import Derived.Test.YteflmfifhmlpiaaDoorMa05
set_option linter.all false
set_option linter.unusedVariables false
set_option linter.unusedSimpArgs false
namespace Go.Proofs.YteflmfifhmlpiaaDoor
open Go.RowKit

def PostR (w : World) : PRes → Ending → World → Prop
  | .good t, e, w' => (∃ A ca, e = .returned (.tuple #[.agg #[.int .i64 t.kind, .int .i64 t.num, .int .i64 t.c1, .int .i64 t.r1, .int .i64 t.c2, .int .i64 t.r2, .string ⟨t.word.toArray⟩, .slice A t.kids.length ca], .int .i64 0, .int .i64 0]) ∧ KV w' (fun b => w.heap.size ≤ b) t A) ∧ Below w.heap.size w w'
  | .fail a c, e, w' => e = .returned (.tuple #[.agg #[.int .i64 0, .int .i64 0, .int .i64 0, .int .i64 0, .int .i64 0, .int .i64 0, .string ⟨#[]⟩, .slice none 0 0], .int .i64 a, .int .i64 c]) ∧ Below w.heap.size w w'
set_option maxHeartbeats 2000000 in
set_option maxRecDepth 10000 in
theorem rparse_err (s : ByteArray) (hs : s.size ≤ 9223372036854775807) (w : World) {a c : Int} (h0 : (c != 0) = true) (h1 : ansP s.data.toList = a) (h2 : ansE s.data.toList = c) :
    Calls Tryd.prog 23 #[.string s] w (PostR w (.fail a c)) := by
  have HSc := Lib.hid (fun w => lscan_any s hs w)
  rw [h1, h2] at HSc
  clear h1 h2
  go_enter Tryd.func23, Tryd.ntmps23
  go_wp2_with fail
  refine (HSc.out _).mono ?_; rintro e w1 ⟨v, rfl, hrow, b1⟩
  have k0 := keep_fresh b1 0 (v := .int .i64 0) rfl
  have k1 := keep_fresh b1 1 (v := .int .i64 0) rfl
  have k2 := keep_fresh b1 2 (v := .int .i64 0) rfl
  have k3 := keep_fresh b1 3 (v := .int .i64 0) rfl
  have k4 := keep_fresh b1 4 (v := .int .i64 0) rfl
  have k5 := keep_fresh b1 5 (v := .int .i64 0) rfl
  have k6 := keep_fresh b1 6 (v := .string ⟨#[]⟩) rfl
  have k7 := keep_fresh b1 7 (v := .slice none 0 0) rfl
  have f0 := fresh_frozen b1 0
  have f1 := fresh_frozen b1 1
  have f2 := fresh_frozen b1 2
  have f3 := fresh_frozen b1 3
  have f4 := fresh_frozen b1 4
  have f5 := fresh_frozen b1 5
  have f6 := fresh_frozen b1 6
  have f7 := fresh_frozen b1 7
  have h1 : Below w.heap.size w w1 := ((Below.refl _ _).alloc (Nat.le_refl _) _).trans (b1.mono (by simp))
  have z1 : w.heap.size < w1.heap.size := by have := b1.size; simp at this; omega
  clear b1 hrow
  go_wp2_with fail
  exact bodyPost_ret (v := .tuple #[.agg #[.int .i64 0, .int .i64 0, .int .i64 0, .int .i64 0, .int .i64 0, .int .i64 0, .string ⟨#[]⟩, .slice none 0 0], .int .i64 a, .int .i64 c]) (by simp [results, Tryd.results23, go_sem, k0, k1, k2, k3, k4, k5, k6, k7, z1]) rfl ⟨rfl, by
    with_reducible repeat' (first | exact h1 | refine Below.setCell ?_ (by exact Nat.le_refl w.heap.size) _ | refine Below.alloc ?_ (by first | omega | (simp; omega)) _)⟩
set_option maxHeartbeats 2000000 in
set_option maxRecDepth 10000 in
theorem rparse_bad (s : ByteArray) (hs : s.size ≤ 9223372036854775807) (w : World) (h2 : ansE s.data.toList = 0) (hL : (ansL s.data.toList).length ≤ 1000) (hG : GoodL (ansL s.data.toList)) {z : Nat} (hg : treeT (ansL s.data.toList) s.size = some (.bad z)) :
    Calls Tryd.prog 23 #[.string s] w (PostR w (.fail (z : Int) 2)) := by
  have HSc := Lib.hid (fun w => lscan_any s hs w)
  rw [h2] at HSc
  have HL := Lib.hid (fun R A cap => (famR_all (R := R) (A := A) (cap := cap) (E := s.size) hL hG (8 * (ansL s.data.toList).length + 6) (by omega) (8 * (ansL s.data.toList).length + 6) (Nat.le_refl _)).l1)
  have HGT : Hid (goS (lineF (ansL s.data.toList) s.size (8 * (ansL s.data.toList).length + 6) 1) (.run 0) = toS (some (.bad z))) := Lib.hid (by rw [← hg]; rfl)
  generalize (ansL s.data.toList) = L at *
  clear h2 hg hG
  go_enter Tryd.func23, Tryd.ntmps23
  go_wp2_with fail
  refine (HSc.out _).mono ?_; rintro e w1 ⟨v, rfl, hrow, b1⟩
  have HK1 : Hid (C8 w1 w.heap.size (.int .i64 0) (.int .i64 0) (.int .i64 0) (.int .i64 0) (.int .i64 0) (.int .i64 0) (.string ⟨#[]⟩) (.slice none 0 0) ∧ F8 w1 w.heap.size) := Lib.hid ⟨⟨keep_fresh b1 0 rfl, keep_fresh b1 1 rfl, keep_fresh b1 2 rfl, keep_fresh b1 3 rfl, keep_fresh b1 4 rfl, keep_fresh b1 5 rfl, keep_fresh b1 6 rfl, keep_fresh b1 7 rfl⟩, fresh_frozen b1 0, fresh_frozen b1 1, fresh_frozen b1 2, fresh_frozen b1 3, fresh_frozen b1 4, fresh_frozen b1 5, fresh_frozen b1 6, fresh_frozen b1 7⟩
  have h1 : Below w.heap.size w w1 := ((Below.refl _ _).alloc (Nat.le_refl _) _).trans (b1.mono (by simp))
  have z1 : w.heap.size < w1.heap.size := by have := b1.size; simp at this; omega
  clear b1
  obtain ⟨A, cap, rfl, hA, hcm⟩ := tok_shape hrow
  unfold maxLen at hcm
  have HA := Lib.hid hA
  have H1 := Lib.hid h1
  clear hrow hA h1
  go_wp2_with fail
  obtain ⟨w2, hw2⟩ : ∃ w2, w2 = w1.alloc (.cells #[.slice A L.length cap, .int .i64 0, .int .i64 (s.size : Int), .bool false, .int .i64 0] 67) := ⟨_, rfl⟩
  rw [← hw2]
  have hb2 : Below w1.heap.size w1 w2 := by rw [hw2]; exact (Below.refl _ _).alloc (Nat.le_refl _) _
  have HR2 : Hid (RS w2 w1.heap.size A cap L s.size (.run 0)) := Lib.hid (by rw [hw2]; exact ⟨Nat.zero_le _, 0, ⟨by simp [go_sem], by simp [go_sem], by simp [go_sem], by simp [go_sem], by simp [go_sem], by simp [go_sem], by simp [go_sem], by simp [go_sem]⟩⟩)
  have z2 : w1.heap.size < w2.heap.size := by rw [hw2]; simp
  have HT2 : Hid (TK w2 w1.heap.size A L) := Lib.hid (by
    by_cases hl : L = []
    · exact .inl hl
    · obtain ⟨gg, hgA, hgl, _, hat⟩ := HA.out hl
      exact .inr ⟨gg, hgA, by omega, by omega, hat.but (R := w1.heap.size) (But.of_below hb2) (by omega)⟩)
  have HB2 : Hid (But w1.heap.size w w2) := Lib.hid ((But.of_below H1.out).trans (But.of_below hb2))
  have HK2 : Hid (C8 w2 w.heap.size (.int .i64 0) (.int .i64 0) (.int .i64 0) (.int .i64 0) (.int .i64 0) (.int .i64 0) (.string ⟨#[]⟩) (.slice none 0 0) ∧ F8 w2 w.heap.size) := Lib.hid ⟨c8_liftB (fun q v hv => keep_cell hb2 hv) HK1.out.1, f8_liftB (fun q hv => keep_frozen hb2 z1 hv) HK1.out.2⟩
  clear hb2 hw2 HK1 H1 HA
  refine (HL.out w1.heap.size A cap w2 (.run 0) _ HR2.out HT2.out HGT.out).mono ?_; rintro e w3 ⟨⟨c0, c1, c2, c3, c4, c5, cw, cA, cl, cc⟩, rfl, v3, r3, b3⟩
  have nK : w.heap.size ≠ w1.heap.size := by omega
  have zK2 : w.heap.size < w2.heap.size := by omega
  have HB3 : Hid (But w1.heap.size w w3) := Lib.hid (HB2.out.trans b3)
  have z3 : w1.heap.size < w3.heap.size := Nat.lt_of_lt_of_le z2 b3.size
  have zK3 : w.heap.size < w3.heap.size := by omega
  have HK3 : Hid (C8 w3 w.heap.size (.int .i64 0) (.int .i64 0) (.int .i64 0) (.int .i64 0) (.int .i64 0) (.int .i64 0) (.string ⟨#[]⟩) (.slice none 0 0) ∧ F8 w3 w.heap.size) := Lib.hid ⟨c8_liftB (fun q v hv => b3.cell nK hv) HK2.out.1, f8_liftB (fun q hv => b3.frozen nK zK2 hv) HK2.out.2⟩
  have HT3 : Hid (TK w3 w1.heap.size A L) := Lib.hid (HT2.out.but b3)
  have z23 : w2.heap.size ≤ w3.heap.size := b3.size
  have HV3 := Lib.hid v3
  clear v3 HK2 HR2 HT2 HB2 b3
  dsimp only [V8.val]
  have HR3 : Hid (RS w3 w1.heap.size A cap L s.size (.out z)) := Lib.hid r3
  obtain ⟨p', hc⟩ := r3
  have r0 := hc.c1
  have r3' := hc.c3
  have r4 := hc.c4
  clear hc
  by_cases hp : p' < (L.length : Int)
  · have dp : decide (p' < (L.length : Int)) = true := decide_eq_true hp
    go_wp2_with fail
    clear r0 r3' r4
    obtain ⟨w4, hw4⟩ : ∃ w4, w4 = w3.alloc (.cells #[.int .i64 c0, .int .i64 c1, .int .i64 c2, .int .i64 c3, .int .i64 c4, .int .i64 c5, .string cw, .slice cA cl cc] 29) := ⟨_, rfl⟩
    rw [← hw4]
    have hb4 : Below w3.heap.size w3 w4 := by rw [hw4]; exact (Below.refl _ _).alloc (Nat.le_refl _) _
    clear hw4
    refine (rfail_any (w := w4) (R := w1.heap.size) (A := A) (cap := cap) (L := L) (E := s.size) (st := .out z) hL (RS.below HR3.out hb4) (HT3.out.but (But.of_below hb4))).mono ?_; rintro e w5 ⟨rfl, r5, b5⟩
    have hb35 : But w1.heap.size w3 w5 := (But.of_below hb4).trans b5
    have HB5 : Hid (But w1.heap.size w w5) := Lib.hid (HB3.out.trans hb35)
    have z35 := hb35.size
    have zK5 : w.heap.size < w5.heap.size := by omega
    have zR5 : w1.heap.size < w5.heap.size := by omega
    have HK5 : Hid (C8 w5 w.heap.size (.int .i64 0) (.int .i64 0) (.int .i64 0) (.int .i64 0) (.int .i64 0) (.int .i64 0) (.string ⟨#[]⟩) (.slice none 0 0) ∧ F8 w5 w.heap.size) := Lib.hid ⟨c8_liftB (fun q v hv => hb35.cell nK hv) HK3.out.1, f8_liftB (fun q hv => hb35.frozen nK zK3 hv) HK3.out.2⟩
    clear hb4 b5 hb35 HK3 HB3 HT3
    
    obtain ⟨p5, hc5⟩ : ∃ p5 : Int, RC w5 w1.heap.size A cap L s.size p5 true (z : Int) := r5
    have r3' := hc5.c3
    have r4 := hc5.c4
    clear hc5
    obtain ⟨⟨k0, k1, k2, k3, k4, k5, k6, k7⟩, f0, f1, f2, f3, f4, f5, f6, f7⟩ := HK5.out
    go_wp2_with fail
    go_region
    all_goals go_wp2_with fail
    all_goals exact bodyPost_ret (v := .tuple #[.agg #[.int .i64 0, .int .i64 0, .int .i64 0, .int .i64 0, .int .i64 0, .int .i64 0, .string ⟨#[]⟩, .slice none 0 0], .int .i64 (z : Int), .int .i64 2]) (by simp [results, Tryd.results23, go_sem, k0, k1, k2, k3, k4, k5, k6, k7, zK5]) rfl ⟨rfl, by
      have hb := HB5.out.below (n := w.heap.size) (by omega) (Nat.le_refl _)
      with_reducible repeat' (first | exact hb | refine Below.setCell ?_ (by exact Nat.le_refl w.heap.size) _ | refine Below.drew ?_ | refine Below.alloc ?_ (by first | omega | (simp; omega)) _)⟩
  · have dp : decide (p' < (L.length : Int)) = false := decide_eq_false hp
    obtain ⟨⟨k0, k1, k2, k3, k4, k5, k6, k7⟩, f0, f1, f2, f3, f4, f5, f6, f7⟩ := HK3.out
    go_wp2_with fail
    go_region
    all_goals go_wp2_with fail
    all_goals exact bodyPost_ret (v := .tuple #[.agg #[.int .i64 0, .int .i64 0, .int .i64 0, .int .i64 0, .int .i64 0, .int .i64 0, .string ⟨#[]⟩, .slice none 0 0], .int .i64 (z : Int), .int .i64 2]) (by simp [results, Tryd.results23, go_sem, k0, k1, k2, k3, k4, k5, k6, k7, zK3]) rfl ⟨rfl, by
      have hb := HB3.out.below (n := w.heap.size) (by omega) (Nat.le_refl _)
      with_reducible repeat' (first | exact hb | refine Below.setCell ?_ (by exact Nat.le_refl w.heap.size) _ | refine Below.drew ?_ | refine Below.alloc ?_ (by first | omega | (simp; omega)) _)⟩
set_option maxHeartbeats 2000000 in
set_option maxRecDepth 10000 in
theorem rparse_more (s : ByteArray) (hs : s.size ≤ 9223372036854775807) (w : World) (h2 : ansE s.data.toList = 0) (hL : (ansL s.data.toList).length ≤ 1000) (hG : GoodL (ansL s.data.toList)) {t : Tr} {q : Nat} (hq : q < (ansL s.data.toList).length) (hg : treeT (ansL s.data.toList) s.size = some (.ok t q)) :
    Calls Tryd.prog 23 #[.string s] w (PostR w (.fail (whr (ansL s.data.toList) s.size q : Int) 2)) := by
  have HSc := Lib.hid (fun w => lscan_any s hs w)
  rw [h2] at HSc
  have HL := Lib.hid (fun R A cap => (famR_all (R := R) (A := A) (cap := cap) (E := s.size) hL hG (8 * (ansL s.data.toList).length + 6) (by omega) (8 * (ansL s.data.toList).length + 6) (Nat.le_refl _)).l1)
  have HGT : Hid (goS (lineF (ansL s.data.toList) s.size (8 * (ansL s.data.toList).length + 6) 1) (.run 0) = toS (some (.ok t q))) := Lib.hid (by rw [← hg]; rfl)
  generalize (ansL s.data.toList) = L at *
  clear h2 hg hG
  go_enter Tryd.func23, Tryd.ntmps23
  go_wp2_with fail
  refine (HSc.out _).mono ?_; rintro e w1 ⟨v, rfl, hrow, b1⟩
  have HK1 : Hid (C8 w1 w.heap.size (.int .i64 0) (.int .i64 0) (.int .i64 0) (.int .i64 0) (.int .i64 0) (.int .i64 0) (.string ⟨#[]⟩) (.slice none 0 0) ∧ F8 w1 w.heap.size) := Lib.hid ⟨⟨keep_fresh b1 0 rfl, keep_fresh b1 1 rfl, keep_fresh b1 2 rfl, keep_fresh b1 3 rfl, keep_fresh b1 4 rfl, keep_fresh b1 5 rfl, keep_fresh b1 6 rfl, keep_fresh b1 7 rfl⟩, fresh_frozen b1 0, fresh_frozen b1 1, fresh_frozen b1 2, fresh_frozen b1 3, fresh_frozen b1 4, fresh_frozen b1 5, fresh_frozen b1 6, fresh_frozen b1 7⟩
  have h1 : Below w.heap.size w w1 := ((Below.refl _ _).alloc (Nat.le_refl _) _).trans (b1.mono (by simp))
  have z1 : w.heap.size < w1.heap.size := by have := b1.size; simp at this; omega
  clear b1
  obtain ⟨A, cap, rfl, hA, hcm⟩ := tok_shape hrow
  unfold maxLen at hcm
  have HA := Lib.hid hA
  have H1 := Lib.hid h1
  clear hrow hA h1
  go_wp2_with fail
  obtain ⟨w2, hw2⟩ : ∃ w2, w2 = w1.alloc (.cells #[.slice A L.length cap, .int .i64 0, .int .i64 (s.size : Int), .bool false, .int .i64 0] 67) := ⟨_, rfl⟩
  rw [← hw2]
  have hb2 : Below w1.heap.size w1 w2 := by rw [hw2]; exact (Below.refl _ _).alloc (Nat.le_refl _) _
  have HR2 : Hid (RS w2 w1.heap.size A cap L s.size (.run 0)) := Lib.hid (by rw [hw2]; exact ⟨Nat.zero_le _, 0, ⟨by simp [go_sem], by simp [go_sem], by simp [go_sem], by simp [go_sem], by simp [go_sem], by simp [go_sem], by simp [go_sem], by simp [go_sem]⟩⟩)
  have z2 : w1.heap.size < w2.heap.size := by rw [hw2]; simp
  have HT2 : Hid (TK w2 w1.heap.size A L) := Lib.hid (by
    by_cases hl : L = []
    · exact .inl hl
    · obtain ⟨gg, hgA, hgl, _, hat⟩ := HA.out hl
      exact .inr ⟨gg, hgA, by omega, by omega, hat.but (R := w1.heap.size) (But.of_below hb2) (by omega)⟩)
  have HB2 : Hid (But w1.heap.size w w2) := Lib.hid ((But.of_below H1.out).trans (But.of_below hb2))
  have HK2 : Hid (C8 w2 w.heap.size (.int .i64 0) (.int .i64 0) (.int .i64 0) (.int .i64 0) (.int .i64 0) (.int .i64 0) (.string ⟨#[]⟩) (.slice none 0 0) ∧ F8 w2 w.heap.size) := Lib.hid ⟨c8_liftB (fun q v hv => keep_cell hb2 hv) HK1.out.1, f8_liftB (fun q hv => keep_frozen hb2 z1 hv) HK1.out.2⟩
  clear hb2 hw2 HK1 H1 HA
  refine (HL.out w1.heap.size A cap w2 (.run 0) _ HR2.out HT2.out HGT.out).mono ?_; rintro e w3 ⟨⟨c0, c1, c2, c3, c4, c5, cw, cA, cl, cc⟩, rfl, v3, r3, b3⟩
  have nK : w.heap.size ≠ w1.heap.size := by omega
  have zK2 : w.heap.size < w2.heap.size := by omega
  have HB3 : Hid (But w1.heap.size w w3) := Lib.hid (HB2.out.trans b3)
  have z3 : w1.heap.size < w3.heap.size := Nat.lt_of_lt_of_le z2 b3.size
  have zK3 : w.heap.size < w3.heap.size := by omega
  have HK3 : Hid (C8 w3 w.heap.size (.int .i64 0) (.int .i64 0) (.int .i64 0) (.int .i64 0) (.int .i64 0) (.int .i64 0) (.string ⟨#[]⟩) (.slice none 0 0) ∧ F8 w3 w.heap.size) := Lib.hid ⟨c8_liftB (fun q v hv => b3.cell nK hv) HK2.out.1, f8_liftB (fun q hv => b3.frozen nK zK2 hv) HK2.out.2⟩
  have HT3 : Hid (TK w3 w1.heap.size A L) := Lib.hid (HT2.out.but b3)
  have z23 : w2.heap.size ≤ w3.heap.size := b3.size
  have HV3 := Lib.hid v3
  clear v3 HK2 HR2 HT2 HB2 b3
  dsimp only [V8.val]
  have HR3 : Hid (RS w3 w1.heap.size A cap L s.size (.run q)) := Lib.hid r3
  obtain ⟨hql, x', hc⟩ := r3
  have r0 := hc.c1
  have r3' := hc.c3
  clear hc
  have dp : decide ((q : Int) < (L.length : Int)) = true := decide_eq_true (by omega)
  go_wp2_with fail
  clear r0 r3'
  obtain ⟨w4, hw4⟩ : ∃ w4, w4 = w3.alloc (.cells #[.int .i64 c0, .int .i64 c1, .int .i64 c2, .int .i64 c3, .int .i64 c4, .int .i64 c5, .string cw, .slice cA cl cc] 29) := ⟨_, rfl⟩
  rw [← hw4]
  have hb4 : Below w3.heap.size w3 w4 := by rw [hw4]; exact (Below.refl _ _).alloc (Nat.le_refl _) _
  clear hw4
  refine (rfail_any (w := w4) (R := w1.heap.size) (A := A) (cap := cap) (L := L) (E := s.size) (st := .run q) hL (RS.below HR3.out hb4) (HT3.out.but (But.of_below hb4))).mono ?_; rintro e w5 ⟨rfl, r5, b5⟩
  have hb35 : But w1.heap.size w3 w5 := (But.of_below hb4).trans b5
  have HB5 : Hid (But w1.heap.size w w5) := Lib.hid (HB3.out.trans hb35)
  have z35 := hb35.size
  have zK5 : w.heap.size < w5.heap.size := by omega
  have zR5 : w1.heap.size < w5.heap.size := by omega
  have HK5 : Hid (C8 w5 w.heap.size (.int .i64 0) (.int .i64 0) (.int .i64 0) (.int .i64 0) (.int .i64 0) (.int .i64 0) (.string ⟨#[]⟩) (.slice none 0 0) ∧ F8 w5 w.heap.size) := Lib.hid ⟨c8_liftB (fun q v hv => hb35.cell nK hv) HK3.out.1, f8_liftB (fun q hv => hb35.frozen nK zK3 hv) HK3.out.2⟩
  clear hb4 b5 hb35 HK3 HB3 HT3
  
  obtain ⟨p5, hc5⟩ : ∃ p5 : Int, RC w5 w1.heap.size A cap L s.size p5 true (whr L s.size q : Int) := r5
  have r3' := hc5.c3
  have r4 := hc5.c4
  clear hc5
  obtain ⟨⟨k0, k1, k2, k3, k4, k5, k6, k7⟩, f0, f1, f2, f3, f4, f5, f6, f7⟩ := HK5.out
  go_wp2_with fail
  go_region
  all_goals go_wp2_with fail
  all_goals exact bodyPost_ret (v := .tuple #[.agg #[.int .i64 0, .int .i64 0, .int .i64 0, .int .i64 0, .int .i64 0, .int .i64 0, .string ⟨#[]⟩, .slice none 0 0], .int .i64 (whr L s.size q : Int), .int .i64 2]) (by simp [results, Tryd.results23, go_sem, k0, k1, k2, k3, k4, k5, k6, k7, zK5]) rfl ⟨rfl, by
    have hb := HB5.out.below (n := w.heap.size) (by omega) (Nat.le_refl _)
    with_reducible repeat' (first | exact hb | refine Below.setCell ?_ (by exact Nat.le_refl w.heap.size) _ | refine Below.drew ?_ | refine Below.alloc ?_ (by first | omega | (simp; omega)) _)⟩
set_option maxHeartbeats 2000000 in
set_option maxRecDepth 10000 in
theorem rparse_deep (s : ByteArray) (hs : s.size ≤ 9223372036854775807) (w : World) (h2 : ansE s.data.toList = 0) (hL : (ansL s.data.toList).length ≤ 1000) (hG : GoodL (ansL s.data.toList)) {t : Tr} (hw : Wid t) (hd : deepT t ≤ 1000000000) (h16 : decide ((16 : Int) < (deepT t : Int)) = true) (hg : treeT (ansL s.data.toList) s.size = some (.ok t (ansL s.data.toList).length)) :
    Calls Tryd.prog 23 #[.string s] w (PostR w (.fail 0 6)) := by
  have HSc := Lib.hid (fun w => lscan_any s hs w)
  rw [h2] at HSc
  have HL := Lib.hid (fun R A cap => (famR_all (R := R) (A := A) (cap := cap) (E := s.size) hL hG (8 * (ansL s.data.toList).length + 6) (by omega) (8 * (ansL s.data.toList).length + 6) (Nat.le_refl _)).l1)
  have HGT : Hid (goS (lineF (ansL s.data.toList) s.size (8 * (ansL s.data.toList).length + 6) 1) (.run 0) = toS (some (.ok t (ansL s.data.toList).length))) := Lib.hid (by rw [← hg]; rfl)
  generalize (ansL s.data.toList) = L at *
  clear h2 hg hG
  go_enter Tryd.func23, Tryd.ntmps23
  go_wp2_with fail
  refine (HSc.out _).mono ?_; rintro e w1 ⟨v, rfl, hrow, b1⟩
  have HK1 : Hid (C8 w1 w.heap.size (.int .i64 0) (.int .i64 0) (.int .i64 0) (.int .i64 0) (.int .i64 0) (.int .i64 0) (.string ⟨#[]⟩) (.slice none 0 0) ∧ F8 w1 w.heap.size) := Lib.hid ⟨⟨keep_fresh b1 0 rfl, keep_fresh b1 1 rfl, keep_fresh b1 2 rfl, keep_fresh b1 3 rfl, keep_fresh b1 4 rfl, keep_fresh b1 5 rfl, keep_fresh b1 6 rfl, keep_fresh b1 7 rfl⟩, fresh_frozen b1 0, fresh_frozen b1 1, fresh_frozen b1 2, fresh_frozen b1 3, fresh_frozen b1 4, fresh_frozen b1 5, fresh_frozen b1 6, fresh_frozen b1 7⟩
  have h1 : Below w.heap.size w w1 := ((Below.refl _ _).alloc (Nat.le_refl _) _).trans (b1.mono (by simp))
  have z1 : w.heap.size < w1.heap.size := by have := b1.size; simp at this; omega
  clear b1
  obtain ⟨A, cap, rfl, hA, hcm⟩ := tok_shape hrow
  unfold maxLen at hcm
  have HA := Lib.hid hA
  have H1 := Lib.hid h1
  clear hrow hA h1
  go_wp2_with fail
  obtain ⟨w2, hw2⟩ : ∃ w2, w2 = w1.alloc (.cells #[.slice A L.length cap, .int .i64 0, .int .i64 (s.size : Int), .bool false, .int .i64 0] 67) := ⟨_, rfl⟩
  rw [← hw2]
  have hb2 : Below w1.heap.size w1 w2 := by rw [hw2]; exact (Below.refl _ _).alloc (Nat.le_refl _) _
  have HR2 : Hid (RS w2 w1.heap.size A cap L s.size (.run 0)) := Lib.hid (by rw [hw2]; exact ⟨Nat.zero_le _, 0, ⟨by simp [go_sem], by simp [go_sem], by simp [go_sem], by simp [go_sem], by simp [go_sem], by simp [go_sem], by simp [go_sem], by simp [go_sem]⟩⟩)
  have z2 : w1.heap.size < w2.heap.size := by rw [hw2]; simp
  have HT2 : Hid (TK w2 w1.heap.size A L) := Lib.hid (by
    by_cases hl : L = []
    · exact .inl hl
    · obtain ⟨gg, hgA, hgl, _, hat⟩ := HA.out hl
      exact .inr ⟨gg, hgA, by omega, by omega, hat.but (R := w1.heap.size) (But.of_below hb2) (by omega)⟩)
  have HB2 : Hid (But w1.heap.size w w2) := Lib.hid ((But.of_below H1.out).trans (But.of_below hb2))
  have HK2 : Hid (C8 w2 w.heap.size (.int .i64 0) (.int .i64 0) (.int .i64 0) (.int .i64 0) (.int .i64 0) (.int .i64 0) (.string ⟨#[]⟩) (.slice none 0 0) ∧ F8 w2 w.heap.size) := Lib.hid ⟨c8_liftB (fun q v hv => keep_cell hb2 hv) HK1.out.1, f8_liftB (fun q hv => keep_frozen hb2 z1 hv) HK1.out.2⟩
  clear hb2 hw2 HK1 H1 HA
  refine (HL.out w1.heap.size A cap w2 (.run 0) _ HR2.out HT2.out HGT.out).mono ?_; rintro e w3 ⟨⟨c0, c1, c2, c3, c4, c5, cw, cA, cl, cc⟩, rfl, v3, r3, b3⟩
  have nK : w.heap.size ≠ w1.heap.size := by omega
  have zK2 : w.heap.size < w2.heap.size := by omega
  have HB3 : Hid (But w1.heap.size w w3) := Lib.hid (HB2.out.trans b3)
  have z3 : w1.heap.size < w3.heap.size := Nat.lt_of_lt_of_le z2 b3.size
  have zK3 : w.heap.size < w3.heap.size := by omega
  have HK3 : Hid (C8 w3 w.heap.size (.int .i64 0) (.int .i64 0) (.int .i64 0) (.int .i64 0) (.int .i64 0) (.int .i64 0) (.string ⟨#[]⟩) (.slice none 0 0) ∧ F8 w3 w.heap.size) := Lib.hid ⟨c8_liftB (fun q v hv => b3.cell nK hv) HK2.out.1, f8_liftB (fun q hv => b3.frozen nK zK2 hv) HK2.out.2⟩
  have HT3 : Hid (TK w3 w1.heap.size A L) := Lib.hid (HT2.out.but b3)
  have z23 : w2.heap.size ≤ w3.heap.size := b3.size
  have HV3 := Lib.hid v3
  clear v3 HK2 HR2 HT2 HB2 b3
  obtain ⟨hql, x', hc⟩ := r3
  have r0 := hc.c1
  have r3' := hc.c3
  clear hc
  obtain ⟨A', ca', hx, hkv⟩ := HV3.out
  obtain ⟨rfl, rfl, rfl, rfl, rfl, rfl, rfl, rfl, rfl, rfl⟩ : c0 = t.kind ∧ c1 = t.num ∧ c2 = t.c1 ∧ c3 = t.r1 ∧ c4 = t.c2 ∧ c5 = t.r2 ∧ cw = ⟨t.word.toArray⟩ ∧ cA = A' ∧ cl = t.kids.length ∧ cc = ca' := by
    unfold tv8 at hx
    injection hx with h0 h1 h2 h3 h4 h5 h6 h7 h8 h9
    exact ⟨h0, h1, h2, h3, h4, h5, h6, h7, h8, h9⟩
  clear hx HV3
  have hlen := hw.len
  unfold maxLen at hlen
  have HKV := Lib.hid hkv
  have HD := Lib.hid (fun w hA => rdeep_any _ t (Nat.le_refl _) hd hw w (fun b => w2.heap.size ≤ b) cA cc hA)
  unfold tv at HD
  clear hkv hw
  dsimp only [V8.val]
  have dp : decide ((L.length : Int) < (L.length : Int)) = false := decide_eq_false (by omega)
  go_wp2_with fail
  clear r0 r3'
  obtain ⟨w4, hw4⟩ : ∃ w4, w4 = w3.alloc (.cells #[.int .i64 t.kind, .int .i64 t.num, .int .i64 t.c1, .int .i64 t.r1, .int .i64 t.c2, .int .i64 t.r2, .string ⟨t.word.toArray⟩, .slice cA t.kids.length cc] 29) := ⟨_, rfl⟩
  rw [← hw4]
  have hb4 : Below w3.heap.size w3 w4 := by rw [hw4]; exact (Below.refl _ _).alloc (Nat.le_refl _) _
  have HX4 : Hid (C8 w4 w3.heap.size (.int .i64 t.kind) (.int .i64 t.num) (.int .i64 t.c1) (.int .i64 t.r1) (.int .i64 t.c2) (.int .i64 t.r2) (.string ⟨t.word.toArray⟩) (.slice cA t.kids.length cc)) := Lib.hid (by rw [hw4]; exact cells8_of' (heap_alloc_new w3 _))
  have z4 : w3.heap.size < w4.heap.size := by rw [hw4]; simp
  clear hw4
  refine (HD.out w4 (HKV.out.kept (Kept.of_below hb4))).mono ?_; rintro e w5 ⟨rfl, b5⟩
  have hb35 : Below w3.heap.size w3 w5 := hb4.trans (b5.mono hb4.size)
  have HB5 : Hid (But w1.heap.size w w5) := Lib.hid (HB3.out.trans (But.of_below hb35))
  have z45 := b5.size
  have zK5 : w.heap.size < w5.heap.size := by omega
  have zX5 : w3.heap.size < w5.heap.size := by omega
  have HK5 : Hid (C8 w5 w.heap.size (.int .i64 0) (.int .i64 0) (.int .i64 0) (.int .i64 0) (.int .i64 0) (.int .i64 0) (.string ⟨#[]⟩) (.slice none 0 0) ∧ F8 w5 w.heap.size) := Lib.hid ⟨c8_liftB (fun q v hv => keep_cell hb35 hv) HK3.out.1, f8_liftB (fun q hv => keep_frozen hb35 zK3 hv) HK3.out.2⟩
  have HKV5 := Lib.hid (HKV.out.kept (Kept.of_below hb35))
  have HX5 : C8 w5 w3.heap.size (.int .i64 t.kind) (.int .i64 t.num) (.int .i64 t.c1) (.int .i64 t.r1) (.int .i64 t.c2) (.int .i64 t.r2) (.string ⟨t.word.toArray⟩) (.slice cA t.kids.length cc) := c8_liftB (fun q v hv => keep_cell b5 hv) HX4.out
  obtain ⟨x0, x1, x2, x3, x4, x5, x6, x7⟩ := HX5
  clear hb4 b5 hb35 HK3 HB3 HT3 HX4 HKV
  obtain ⟨⟨k0, k1, k2, k3, k4, k5, k6, k7⟩, f0, f1, f2, f3, f4, f5, f6, f7⟩ := HK5.out
  go_wp2_with fail
  all_goals exact bodyPost_ret (v := .tuple #[.agg #[.int .i64 0, .int .i64 0, .int .i64 0, .int .i64 0, .int .i64 0, .int .i64 0, .string ⟨#[]⟩, .slice none 0 0], .int .i64 0, .int .i64 6]) (by simp [results, Tryd.results23, go_sem, k0, k1, k2, k3, k4, k5, k6, k7, zK5]) rfl ⟨rfl, by
    have hb := HB5.out.below (n := w.heap.size) (by omega) (Nat.le_refl _)
    with_reducible repeat' (first | exact hb | refine Below.setCell ?_ (by exact Nat.le_refl w.heap.size) _ | refine Below.drew ?_ | refine Below.alloc ?_ (by first | omega | (simp; omega)) _)⟩
set_option maxHeartbeats 2000000 in
set_option maxRecDepth 10000 in
theorem rparse_good (s : ByteArray) (hs : s.size ≤ 9223372036854775807) (w : World) (h2 : ansE s.data.toList = 0) (hL : (ansL s.data.toList).length ≤ 1000) (hG : GoodL (ansL s.data.toList)) {t : Tr} (hw : Wid t) (hd : deepT t ≤ 1000000000) (h16 : decide ((16 : Int) < (deepT t : Int)) = false) (hg : treeT (ansL s.data.toList) s.size = some (.ok t (ansL s.data.toList).length)) :
    Calls Tryd.prog 23 #[.string s] w (PostR w (.good t)) := by
  have HSc := Lib.hid (fun w => lscan_any s hs w)
  rw [h2] at HSc
  have HL := Lib.hid (fun R A cap => (famR_all (R := R) (A := A) (cap := cap) (E := s.size) hL hG (8 * (ansL s.data.toList).length + 6) (by omega) (8 * (ansL s.data.toList).length + 6) (Nat.le_refl _)).l1)
  have HGT : Hid (goS (lineF (ansL s.data.toList) s.size (8 * (ansL s.data.toList).length + 6) 1) (.run 0) = toS (some (.ok t (ansL s.data.toList).length))) := Lib.hid (by rw [← hg]; rfl)
  generalize (ansL s.data.toList) = L at *
  clear h2 hg hG
  go_enter Tryd.func23, Tryd.ntmps23
  go_wp2_with fail
  refine (HSc.out _).mono ?_; rintro e w1 ⟨v, rfl, hrow, b1⟩
  have HK1 : Hid (C8 w1 w.heap.size (.int .i64 0) (.int .i64 0) (.int .i64 0) (.int .i64 0) (.int .i64 0) (.int .i64 0) (.string ⟨#[]⟩) (.slice none 0 0) ∧ F8 w1 w.heap.size) := Lib.hid ⟨⟨keep_fresh b1 0 rfl, keep_fresh b1 1 rfl, keep_fresh b1 2 rfl, keep_fresh b1 3 rfl, keep_fresh b1 4 rfl, keep_fresh b1 5 rfl, keep_fresh b1 6 rfl, keep_fresh b1 7 rfl⟩, fresh_frozen b1 0, fresh_frozen b1 1, fresh_frozen b1 2, fresh_frozen b1 3, fresh_frozen b1 4, fresh_frozen b1 5, fresh_frozen b1 6, fresh_frozen b1 7⟩
  have h1 : Below w.heap.size w w1 := ((Below.refl _ _).alloc (Nat.le_refl _) _).trans (b1.mono (by simp))
  have z1 : w.heap.size < w1.heap.size := by have := b1.size; simp at this; omega
  clear b1
  obtain ⟨A, cap, rfl, hA, hcm⟩ := tok_shape hrow
  unfold maxLen at hcm
  have HA := Lib.hid hA
  have H1 := Lib.hid h1
  clear hrow hA h1
  go_wp2_with fail
  obtain ⟨w2, hw2⟩ : ∃ w2, w2 = w1.alloc (.cells #[.slice A L.length cap, .int .i64 0, .int .i64 (s.size : Int), .bool false, .int .i64 0] 67) := ⟨_, rfl⟩
  rw [← hw2]
  have hb2 : Below w1.heap.size w1 w2 := by rw [hw2]; exact (Below.refl _ _).alloc (Nat.le_refl _) _
  have HR2 : Hid (RS w2 w1.heap.size A cap L s.size (.run 0)) := Lib.hid (by rw [hw2]; exact ⟨Nat.zero_le _, 0, ⟨by simp [go_sem], by simp [go_sem], by simp [go_sem], by simp [go_sem], by simp [go_sem], by simp [go_sem], by simp [go_sem], by simp [go_sem]⟩⟩)
  have z2 : w1.heap.size < w2.heap.size := by rw [hw2]; simp
  have HT2 : Hid (TK w2 w1.heap.size A L) := Lib.hid (by
    by_cases hl : L = []
    · exact .inl hl
    · obtain ⟨gg, hgA, hgl, _, hat⟩ := HA.out hl
      exact .inr ⟨gg, hgA, by omega, by omega, hat.but (R := w1.heap.size) (But.of_below hb2) (by omega)⟩)
  have HB2 : Hid (But w1.heap.size w w2) := Lib.hid ((But.of_below H1.out).trans (But.of_below hb2))
  have HK2 : Hid (C8 w2 w.heap.size (.int .i64 0) (.int .i64 0) (.int .i64 0) (.int .i64 0) (.int .i64 0) (.int .i64 0) (.string ⟨#[]⟩) (.slice none 0 0) ∧ F8 w2 w.heap.size) := Lib.hid ⟨c8_liftB (fun q v hv => keep_cell hb2 hv) HK1.out.1, f8_liftB (fun q hv => keep_frozen hb2 z1 hv) HK1.out.2⟩
  clear hb2 hw2 HK1 H1 HA
  refine (HL.out w1.heap.size A cap w2 (.run 0) _ HR2.out HT2.out HGT.out).mono ?_; rintro e w3 ⟨⟨c0, c1, c2, c3, c4, c5, cw, cA, cl, cc⟩, rfl, v3, r3, b3⟩
  have nK : w.heap.size ≠ w1.heap.size := by omega
  have zK2 : w.heap.size < w2.heap.size := by omega
  have HB3 : Hid (But w1.heap.size w w3) := Lib.hid (HB2.out.trans b3)
  have z3 : w1.heap.size < w3.heap.size := Nat.lt_of_lt_of_le z2 b3.size
  have zK3 : w.heap.size < w3.heap.size := by omega
  have HK3 : Hid (C8 w3 w.heap.size (.int .i64 0) (.int .i64 0) (.int .i64 0) (.int .i64 0) (.int .i64 0) (.int .i64 0) (.string ⟨#[]⟩) (.slice none 0 0) ∧ F8 w3 w.heap.size) := Lib.hid ⟨c8_liftB (fun q v hv => b3.cell nK hv) HK2.out.1, f8_liftB (fun q hv => b3.frozen nK zK2 hv) HK2.out.2⟩
  have HT3 : Hid (TK w3 w1.heap.size A L) := Lib.hid (HT2.out.but b3)
  have z23 : w2.heap.size ≤ w3.heap.size := b3.size
  have HV3 := Lib.hid v3
  clear v3 HK2 HR2 HT2 HB2 b3
  obtain ⟨hql, x', hc⟩ := r3
  have r0 := hc.c1
  have r3' := hc.c3
  clear hc
  obtain ⟨A', ca', hx, hkv⟩ := HV3.out
  obtain ⟨rfl, rfl, rfl, rfl, rfl, rfl, rfl, rfl, rfl, rfl⟩ : c0 = t.kind ∧ c1 = t.num ∧ c2 = t.c1 ∧ c3 = t.r1 ∧ c4 = t.c2 ∧ c5 = t.r2 ∧ cw = ⟨t.word.toArray⟩ ∧ cA = A' ∧ cl = t.kids.length ∧ cc = ca' := by
    unfold tv8 at hx
    injection hx with h0 h1 h2 h3 h4 h5 h6 h7 h8 h9
    exact ⟨h0, h1, h2, h3, h4, h5, h6, h7, h8, h9⟩
  clear hx HV3
  have hlen := hw.len
  unfold maxLen at hlen
  have HKV := Lib.hid hkv
  have HD := Lib.hid (fun w hA => rdeep_any _ t (Nat.le_refl _) hd hw w (fun b => w2.heap.size ≤ b) cA cc hA)
  unfold tv at HD
  clear hkv hw
  dsimp only [V8.val]
  have dp : decide ((L.length : Int) < (L.length : Int)) = false := decide_eq_false (by omega)
  go_wp2_with fail
  clear r0 r3'
  obtain ⟨w4, hw4⟩ : ∃ w4, w4 = w3.alloc (.cells #[.int .i64 t.kind, .int .i64 t.num, .int .i64 t.c1, .int .i64 t.r1, .int .i64 t.c2, .int .i64 t.r2, .string ⟨t.word.toArray⟩, .slice cA t.kids.length cc] 29) := ⟨_, rfl⟩
  rw [← hw4]
  have hb4 : Below w3.heap.size w3 w4 := by rw [hw4]; exact (Below.refl _ _).alloc (Nat.le_refl _) _
  have HX4 : Hid (C8 w4 w3.heap.size (.int .i64 t.kind) (.int .i64 t.num) (.int .i64 t.c1) (.int .i64 t.r1) (.int .i64 t.c2) (.int .i64 t.r2) (.string ⟨t.word.toArray⟩) (.slice cA t.kids.length cc)) := Lib.hid (by rw [hw4]; exact cells8_of' (heap_alloc_new w3 _))
  have z4 : w3.heap.size < w4.heap.size := by rw [hw4]; simp
  clear hw4
  refine (HD.out w4 (HKV.out.kept (Kept.of_below hb4))).mono ?_; rintro e w5 ⟨rfl, b5⟩
  have hb35 : Below w3.heap.size w3 w5 := hb4.trans (b5.mono hb4.size)
  have HB5 : Hid (But w1.heap.size w w5) := Lib.hid (HB3.out.trans (But.of_below hb35))
  have z45 := b5.size
  have zK5 : w.heap.size < w5.heap.size := by omega
  have zX5 : w3.heap.size < w5.heap.size := by omega
  have HK5 : Hid (C8 w5 w.heap.size (.int .i64 0) (.int .i64 0) (.int .i64 0) (.int .i64 0) (.int .i64 0) (.int .i64 0) (.string ⟨#[]⟩) (.slice none 0 0) ∧ F8 w5 w.heap.size) := Lib.hid ⟨c8_liftB (fun q v hv => keep_cell hb35 hv) HK3.out.1, f8_liftB (fun q hv => keep_frozen hb35 zK3 hv) HK3.out.2⟩
  have HKV5 := Lib.hid (HKV.out.kept (Kept.of_below hb35))
  have HX5 : C8 w5 w3.heap.size (.int .i64 t.kind) (.int .i64 t.num) (.int .i64 t.c1) (.int .i64 t.r1) (.int .i64 t.c2) (.int .i64 t.r2) (.string ⟨t.word.toArray⟩) (.slice cA t.kids.length cc) := c8_liftB (fun q v hv => keep_cell b5 hv) HX4.out
  obtain ⟨x0, x1, x2, x3, x4, x5, x6, x7⟩ := HX5
  clear hb4 b5 hb35 HK3 HB3 HT3 HX4 HKV
  obtain ⟨⟨k0, k1, k2, k3, k4, k5, k6, k7⟩, f0, f1, f2, f3, f4, f5, f6, f7⟩ := HK5.out
  go_wp2_with fail
  exact bodyPost_ret (v := .tuple #[.agg #[.int .i64 t.kind, .int .i64 t.num, .int .i64 t.c1, .int .i64 t.r1, .int .i64 t.c2, .int .i64 t.r2, .string ⟨t.word.toArray⟩, .slice cA t.kids.length cc], .int .i64 0, .int .i64 0]) (by simp [results, Tryd.results23, go_sem, k0, k1, k2, k3, k4, k5, k6, k7, x0, x1, x2, x3, x4, x5, x6, x7, zK5, zX5]) rfl ⟨⟨cA, cc, rfl, by
    refine KV.imp (fun b (hb : w2.heap.size ≤ b) => by show w.heap.size ≤ b; omega) (HKV5.out.kept ?_)
    with_reducible repeat' (first | exact Kept.refl _ _ | refine Kept.alloc ?_ _ | refine Kept.set ?_ (.inl (by show ¬ (w2.heap.size ≤ w.heap.size); omega)) _ _)⟩, by
    have hb := HB5.out.below (n := w.heap.size) (by omega) (Nat.le_refl _)
    with_reducible repeat' (first | exact hb | refine Below.setCell ?_ (by exact Nat.le_refl w.heap.size) _ | refine Below.alloc ?_ (by first | omega | (simp; omega)) _)⟩
theorem rparse_any (s : ByteArray) (hs : s.size ≤ 9223372036854775807) (w : World) :
    Calls Tryd.prog 23 #[.string s] w (PostR w (parseL s.data.toList)) := by
  have hlen : s.data.toList.length = s.size := len_of s
  unfold parseL
  rw [hlen]
  by_cases h0 : ansE s.data.toList = 0
  · rw [if_neg (fun h => h h0)]
    have hl : s.data.toList.length ≤ 200 := by
      rcases Nat.lt_or_ge 200 s.data.toList.length with h | h
      · have e3 : ansE s.data.toList = 3 := if_pos h
        rw [e3] at h0; cases h0
      · exact h
    have hG := good_ans h0 hl
    have hL := ans_len s.data.toList
    obtain ⟨res, ht, hq⟩ := tree_some (ansL s.data.toList) s.size
    rw [ht]
    cases res with
    | bad z => exact rparse_bad s hs w h0 hL hG ht
    | ok t q =>
      dsimp only
      by_cases h1 : q < (ansL s.data.toList).length
      · rw [if_pos h1]
        exact rparse_more s hs w h0 hL hG h1 ht
      · rw [if_neg h1]
        have hqe : q = (ansL s.data.toList).length := by have := hq t q rfl; omega
        subst hqe
        obtain ⟨hw, hd⟩ := tree_wid hL ht
        by_cases h6 : 16 < deepT t
        · rw [if_pos h6]
          exact rparse_deep s hs w h0 hL hG hw hd (decide_eq_true (by omega)) ht
        · rw [if_neg h6]
          exact rparse_good s hs w h0 hL hG hw hd (decide_eq_false (by omega)) ht
  · rw [if_pos h0]
    exact rparse_err s hs w (by rw [bne_iff_ne]; exact h0) rfl rfl
end Go.Proofs.YteflmfifhmlpiaaDoor
