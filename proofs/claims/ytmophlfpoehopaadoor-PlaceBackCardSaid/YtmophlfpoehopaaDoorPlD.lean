/- place's own ranges: the lesser and the greater of two places, the range of both, whether a range may be. -/
import Derived.Test.YtmophlfpoehopaaDoorPlC
import Derived.Deep.RegionHeld3
namespace Go.Proofs.YtmophlfpoehopaaDoor
open Go.RowKit

set_option maxHeartbeats 400000 in
theorem plower_any (a b c d : Int) (w : World) :
    Calls Tryd.prog 39 #[.agg #[.int .i64 a, .int .i64 b], .agg #[.int .i64 c, .int .i64 d]] w fun e w' => e = .returned (.agg #[.int .i64 (min a c), .int .i64 (min b d)]) ∧ Below w.heap.size w w' := by
  go_enter Tryd.func39, Tryd.ntmps39
  go_wp2_with fail
  all_goals
    exact bodyPost_ret (v := .agg #[.int .i64 (min a c), .int .i64 (min b d)]) (by simp [results, Tryd.results39, go_sem] <;> omega) rfl
      ⟨rfl, ((((Below.refl _ _).alloc (Nat.le_refl _) _).alloc (by simp) _).alloc (by simp; omega) _)⟩
set_option maxHeartbeats 400000 in
theorem pupper_any (a b c d : Int) (w : World) :
    Calls Tryd.prog 40 #[.agg #[.int .i64 a, .int .i64 b], .agg #[.int .i64 c, .int .i64 d]] w fun e w' => e = .returned (.agg #[.int .i64 (max a c), .int .i64 (max b d)]) ∧ Below w.heap.size w w' := by
  go_enter Tryd.func40, Tryd.ntmps40
  go_wp2_with fail
  all_goals
    exact bodyPost_ret (v := .agg #[.int .i64 (max a c), .int .i64 (max b d)]) (by simp [results, Tryd.results40, go_sem] <;> omega) rfl
      ⟨rfl, ((((Below.refl _ _).alloc (Nat.le_refl _) _).alloc (by simp) _).alloc (by simp; omega) _)⟩

set_option maxHeartbeats 1000000 in
theorem pspan_no (a b c d : Int) (w : World) (h : spB a b c d = false) :
    Calls Tryd.prog 21 #[.agg #[.int .i64 a, .int .i64 b], .agg #[.int .i64 c, .int .i64 d]] w fun e w' => e = .returned (.tuple #[.agg #[.int .i64 0, .int .i64 0, .int .i64 0, .int .i64 0], .bool false]) ∧ Below w.heap.size w w' := by
  have HP := Lib.hid (pright_any a b)
  have HQ := Lib.hid (pright_any c d)
  unfold spB at h
  cases hp : rightB a b with
  | false =>
    rw [hp] at HP
    clear hp h
    go_enter Tryd.func21, Tryd.ntmps21
    go_wp2_with fail
    refine (HP.out _).mono ?_; rintro e w1 ⟨rfl, b1⟩
    have k0 := keep_cell b1 (p := ⟨w.heap.size + 1 + 1, 0, none⟩) (v := .int .i64 0) (by simp [go_sem])
    have k1 := keep_cell b1 (p := ⟨w.heap.size + 1 + 1, 1, none⟩) (v := .int .i64 0) (by simp [go_sem])
    have k2 := keep_cell b1 (p := ⟨w.heap.size + 1 + 1, 2, none⟩) (v := .int .i64 0) (by simp [go_sem])
    have k3 := keep_cell b1 (p := ⟨w.heap.size + 1 + 1, 3, none⟩) (v := .int .i64 0) (by simp [go_sem])
    have f0 := keep_frozen b1 (p := ⟨w.heap.size + 1 + 1, 0, none⟩) (by simp) (by simp [go_sem])
    have f1 := keep_frozen b1 (p := ⟨w.heap.size + 1 + 1, 1, none⟩) (by simp) (by simp [go_sem])
    have f2 := keep_frozen b1 (p := ⟨w.heap.size + 1 + 1, 2, none⟩) (by simp) (by simp [go_sem])
    have f3 := keep_frozen b1 (p := ⟨w.heap.size + 1 + 1, 3, none⟩) (by simp) (by simp [go_sem])
    have h1 : Below w.heap.size w w1 := ((((Below.refl _ _).alloc (Nat.le_refl _) _).alloc (by simp) _).alloc (by simp; omega) _).trans (b1.mono (by simp; omega))
    clear b1
    go_wp2_with fail
    exact bodyPost_ret (v := .tuple #[.agg #[.int .i64 0, .int .i64 0, .int .i64 0, .int .i64 0], .bool false]) (by simp [results, Tryd.results21, go_sem, k0, k1, k2, k3]) rfl
      ⟨rfl, (((h1.setCell (by simp; omega) _).setCell (by simp; omega) _).setCell (by simp; omega) _).setCell (by simp; omega) _⟩
  | true =>
    have hq : rightB c d = false := by rw [hp, Bool.true_and] at h; exact h
    rw [hp] at HP
    rw [hq] at HQ
    clear hp hq h
    go_enter Tryd.func21, Tryd.ntmps21
    go_wp2_with fail
    refine (HP.out _).mono ?_; rintro e w1 ⟨rfl, b1⟩
    have k0 := keep_cell b1 (p := ⟨w.heap.size + 1 + 1, 0, none⟩) (v := .int .i64 0) (by simp [go_sem])
    have k1 := keep_cell b1 (p := ⟨w.heap.size + 1 + 1, 1, none⟩) (v := .int .i64 0) (by simp [go_sem])
    have k2 := keep_cell b1 (p := ⟨w.heap.size + 1 + 1, 2, none⟩) (v := .int .i64 0) (by simp [go_sem])
    have k3 := keep_cell b1 (p := ⟨w.heap.size + 1 + 1, 3, none⟩) (v := .int .i64 0) (by simp [go_sem])
    have k6 := keep_cell b1 (p := ⟨w.heap.size + 1, 0, none⟩) (v := .int .i64 c) (by simp [go_sem])
    have k7 := keep_cell b1 (p := ⟨w.heap.size + 1, 1, none⟩) (v := .int .i64 d) (by simp [go_sem])
    have f0 := keep_frozen b1 (p := ⟨w.heap.size + 1 + 1, 0, none⟩) (by simp) (by simp [go_sem])
    have f1 := keep_frozen b1 (p := ⟨w.heap.size + 1 + 1, 1, none⟩) (by simp) (by simp [go_sem])
    have f2 := keep_frozen b1 (p := ⟨w.heap.size + 1 + 1, 2, none⟩) (by simp) (by simp [go_sem])
    have f3 := keep_frozen b1 (p := ⟨w.heap.size + 1 + 1, 3, none⟩) (by simp) (by simp [go_sem])
    have z1 : w.heap.size + 1 + 1 < w1.heap.size := by have := b1.size; simp at this; omega
    have h1 : Below w.heap.size w w1 := ((((Below.refl _ _).alloc (Nat.le_refl _) _).alloc (by simp) _).alloc (by simp; omega) _).trans (b1.mono (by simp; omega))
    clear b1
    go_wp2_with fail
    refine (HQ.out _).mono ?_; rintro e w2 ⟨rfl, b2⟩
    have m0 := keep_cell b2 k0
    have m1 := keep_cell b2 k1
    have m2 := keep_cell b2 k2
    have m3 := keep_cell b2 k3
    have g0 := keep_frozen b2 z1 f0
    have g1 := keep_frozen b2 z1 f1
    have g2 := keep_frozen b2 z1 f2
    have g3 := keep_frozen b2 z1 f3
    have h2 := h1.trans (b2.mono h1.size)
    clear k0 k1 k2 k3 k6 k7 f0 f1 f2 f3 b2
    go_wp2_with fail
    exact bodyPost_ret (v := .tuple #[.agg #[.int .i64 0, .int .i64 0, .int .i64 0, .int .i64 0], .bool false]) (by simp [results, Tryd.results21, go_sem, m0, m1, m2, m3]) rfl
      ⟨rfl, (((h2.setCell (by simp; omega) _).setCell (by simp; omega) _).setCell (by simp; omega) _).setCell (by simp; omega) _⟩

set_option maxHeartbeats 2000000 in
theorem pspan_yes (a b c d : Int) (w : World) (hp : rightB a b = true) (hq : rightB c d = true) :
    Calls Tryd.prog 21 #[.agg #[.int .i64 a, .int .i64 b], .agg #[.int .i64 c, .int .i64 d]] w fun e w' => e = .returned (.tuple #[.agg #[.int .i64 (min a c), .int .i64 (min b d), .int .i64 (max a c), .int .i64 (max b d)], .bool true]) ∧ Below w.heap.size w w' := by
  have HP := Lib.hid (pright_any a b)
  have HQ := Lib.hid (pright_any c d)
  have HL := Lib.hid (plower_any a b c d)
  have HU := Lib.hid (pupper_any a b c d)
  rw [hp] at HP
  rw [hq] at HQ
  clear hp hq
  generalize min a c = X0 at *
  generalize min b d = X1 at *
  generalize max a c = X2 at *
  generalize max b d = X3 at *
  go_enter Tryd.func21, Tryd.ntmps21
  go_wp2_with fail
  refine (HP.out _).mono ?_; rintro e w1 ⟨rfl, b1⟩
  have k0 := keep_cell b1 (p := ⟨w.heap.size + 1 + 1, 0, none⟩) (v := .int .i64 0) (by simp [go_sem])
  have k1 := keep_cell b1 (p := ⟨w.heap.size + 1 + 1, 1, none⟩) (v := .int .i64 0) (by simp [go_sem])
  have k2 := keep_cell b1 (p := ⟨w.heap.size + 1 + 1, 2, none⟩) (v := .int .i64 0) (by simp [go_sem])
  have k3 := keep_cell b1 (p := ⟨w.heap.size + 1 + 1, 3, none⟩) (v := .int .i64 0) (by simp [go_sem])
  have k4 := keep_cell b1 (p := ⟨w.heap.size, 0, none⟩) (v := .int .i64 a) (by simp [go_sem])
  have k5 := keep_cell b1 (p := ⟨w.heap.size, 1, none⟩) (v := .int .i64 b) (by simp [go_sem])
  have k6 := keep_cell b1 (p := ⟨w.heap.size + 1, 0, none⟩) (v := .int .i64 c) (by simp [go_sem])
  have k7 := keep_cell b1 (p := ⟨w.heap.size + 1, 1, none⟩) (v := .int .i64 d) (by simp [go_sem])
  have f0 := keep_frozen b1 (p := ⟨w.heap.size + 1 + 1, 0, none⟩) (by simp) (by simp [go_sem])
  have f1 := keep_frozen b1 (p := ⟨w.heap.size + 1 + 1, 1, none⟩) (by simp) (by simp [go_sem])
  have f2 := keep_frozen b1 (p := ⟨w.heap.size + 1 + 1, 2, none⟩) (by simp) (by simp [go_sem])
  have f3 := keep_frozen b1 (p := ⟨w.heap.size + 1 + 1, 3, none⟩) (by simp) (by simp [go_sem])
  have z1 : w.heap.size + 1 + 1 < w1.heap.size := by have := b1.size; simp at this; omega
  have h1 : Below w.heap.size w w1 := ((((Below.refl _ _).alloc (Nat.le_refl _) _).alloc (by simp) _).alloc (by simp; omega) _).trans (b1.mono (by simp; omega))
  clear b1
  go_wp2_with fail
  refine (HQ.out _).mono ?_; rintro e w2 ⟨rfl, b2⟩
  have m0 := keep_cell b2 k0
  have m1 := keep_cell b2 k1
  have m2 := keep_cell b2 k2
  have m3 := keep_cell b2 k3
  have m4 := keep_cell b2 k4
  have m5 := keep_cell b2 k5
  have m6 := keep_cell b2 k6
  have m7 := keep_cell b2 k7
  have g0 := keep_frozen b2 z1 f0
  have g1 := keep_frozen b2 z1 f1
  have g2 := keep_frozen b2 z1 f2
  have g3 := keep_frozen b2 z1 f3
  have z2 : w.heap.size + 1 + 1 < w2.heap.size := by have := b2.size; omega
  have h2 := h1.trans (b2.mono h1.size)
  clear k0 k1 k2 k3 k4 k5 k6 k7 f0 f1 f2 f3 b2
  have hne : w.heap.size + 1 + 1 ≠ w.heap.size := by omega
  go_wp2_with fail
  go_region_held3 (fun w' => w'.cell? ⟨w.heap.size, 0, none⟩ = some (.int .i64 a) ∧ w'.cell? ⟨w.heap.size, 1, none⟩ = some (.int .i64 b) ∧ w'.cell? ⟨w.heap.size + 1, 0, none⟩ = some (.int .i64 c) ∧ w'.cell? ⟨w.heap.size + 1, 1, none⟩ = some (.int .i64 d))
    (first | with_reducible exact ⟨m4, m5, m6, m7⟩ | with_reducible exact ⟨o4, o5, o6, o7⟩ | with_reducible exact ⟨q4, q5, q6, q7⟩ | go_keep)
    (first
    | (go_at_call 39; refine (HL.out _).mono ?_; rintro e w3 ⟨rfl, b3⟩
       have B3 : Below w2.heap.size w2 w3 := (Below.refl _ w2).drew.trans b3
       have o0 := keep_cell B3 m0
       have o1 := keep_cell B3 m1
       have o2 := keep_cell B3 m2
       have o3 := keep_cell B3 m3
       have o4 := keep_cell B3 m4
       have o5 := keep_cell B3 m5
       have o6 := keep_cell B3 m6
       have o7 := keep_cell B3 m7
       have p0 := keep_frozen B3 z2 g0
       have p1 := keep_frozen B3 z2 g1
       have p2 := keep_frozen B3 z2 g2
       have p3 := keep_frozen B3 z2 g3
       have h3 := h2.trans (B3.mono h2.size))
    | (go_at_call 40; refine (HU.out _).mono ?_; rintro e w4 ⟨rfl, b4⟩
       have B4 : Below w2.heap.size w2 w4 := B3.trans (b4.mono B3.size)
       have q0 := keep_cell B4 m0
       have q1 := keep_cell B4 m1
       have q2 := keep_cell B4 m2
       have q3 := keep_cell B4 m3
       have q4 := keep_cell B4 m4
       have q5 := keep_cell B4 m5
       have q6 := keep_cell B4 m6
       have q7 := keep_cell B4 m7
       have r0 := keep_frozen B4 z2 g0
       have r1 := keep_frozen B4 z2 g1
       have r2 := keep_frozen B4 z2 g2
       have r3 := keep_frozen B4 z2 g3
       have h4 := h2.trans (B4.mono h2.size)))
  all_goals
    go_wp2
    exact bodyPost_ret (v := .tuple #[.agg #[.int .i64 X0, .int .i64 X1, .int .i64 X2, .int .i64 X3], .bool true]) (by simp [results, Tryd.results21, go_sem, q0, q1, q2, q3]) rfl
      ⟨rfl, (((h4.setCell (by simp; omega) _).setCell (by simp; omega) _).setCell (by simp; omega) _).setCell (by simp; omega) _⟩

theorem pspan_any (a b c d : Int) (w : World) :
    Calls Tryd.prog 21 #[.agg #[.int .i64 a, .int .i64 b], .agg #[.int .i64 c, .int .i64 d]] w fun e w' => e = .returned (.tuple #[.agg #[.int .i64 (spN (spB a b c d) (min a c)), .int .i64 (spN (spB a b c d) (min b d)), .int .i64 (spN (spB a b c d) (max a c)), .int .i64 (spN (spB a b c d) (max b d))], .bool (spB a b c d)]) ∧ Below w.heap.size w w' := by
  cases h : spB a b c d with
  | false => exact pspan_no a b c d w h
  | true =>
    have h' := h
    unfold spB at h'
    rw [Bool.and_eq_true] at h'
    exact pspan_yes a b c d w h'.1 h'.2

set_option maxHeartbeats 1000000 in
theorem pwhole_any (a b c d : Int) (w : World) :
    Calls Tryd.prog 28 #[.agg #[.int .i64 a, .int .i64 b, .int .i64 c, .int .i64 d]] w fun e w' => e = .returned (.bool (wholeB a b c d)) ∧ Below w.heap.size w w' := by
  have HF := Lib.hid (pright_any a b)
  have HT := Lib.hid (pright_any c d)
  cases hf : rightB a b with
  | false =>
    have e1 := Lib.hid (show wholeB a b c d = false from by unfold wholeB; rw [hf]; rfl)
    rw [hf] at HF
    clear hf
    go_enter Tryd.func28, Tryd.ntmps28
    go_wp2_with fail
    refine (HF.out _).mono ?_; rintro e w1 ⟨rfl, b1⟩
    have h1 : Below w.heap.size w w1 := ((Below.refl _ _).alloc (Nat.le_refl _) _).trans (b1.mono (by simp))
    clear b1
    go_wp2_with fail
    go_ret
    exact ⟨ret_bool e1.out.symm, h1⟩
  | true =>
    rw [hf] at HF
    cases ht : rightB c d with
    | false =>
      have e1 := Lib.hid (show wholeB a b c d = false from by unfold wholeB; rw [hf, ht]; rfl)
      rw [ht] at HT
      clear hf ht
      go_enter Tryd.func28, Tryd.ntmps28
      go_wp2_with fail
      refine (HF.out _).mono ?_; rintro e w1 ⟨rfl, b1⟩
      have k2 := keep_fresh b1 2 (v := .int .i64 c) rfl
      have k3 := keep_fresh b1 3 (v := .int .i64 d) rfl
      go_wp2_with fail
      refine (HT.out _).mono ?_; rintro e w2 ⟨rfl, b2⟩
      have h1 : Below w.heap.size w w1 := ((Below.refl _ _).alloc (Nat.le_refl _) _).trans (b1.mono (by simp))
      have h2 := h1.trans (b2.mono h1.size)
      clear k2 k3 b1 b2
      go_wp2_with fail
      go_ret
      exact ⟨ret_bool e1.out.symm, h2⟩
    | true =>
      have e1 := Lib.hid (show wholeB a b c d = (decide (a ≤ c) && decide (b ≤ d)) from by unfold wholeB; rw [hf, ht]; rfl)
      rw [ht] at HT
      clear hf ht
      go_enter Tryd.func28, Tryd.ntmps28
      go_wp2_with fail
      refine (HF.out _).mono ?_; rintro e w1 ⟨rfl, b1⟩
      have j0 := keep_fresh b1 0 (v := .int .i64 a) rfl
      have j1 := keep_fresh b1 1 (v := .int .i64 b) rfl
      have j2 := keep_fresh b1 2 (v := .int .i64 c) rfl
      have j3 := keep_fresh b1 3 (v := .int .i64 d) rfl
      go_wp2_with fail
      refine (HT.out _).mono ?_; rintro e w2 ⟨rfl, b2⟩
      have k0 := keep_cell b2 j0
      have k1 := keep_cell b2 j1
      have k2 := keep_cell b2 j2
      have k3 := keep_cell b2 j3
      have h1 : Below w.heap.size w w1 := ((Below.refl _ _).alloc (Nat.le_refl _) _).trans (b1.mono (by simp))
      have h2 := h1.trans (b2.mono h1.size)
      clear j0 j1 j2 j3 b1 b2
      by_cases hac : a ≤ c
      · have d1 : decide (a ≤ c) = true := decide_eq_true hac
        rw [d1, Bool.true_and] at e1
        clear hac
        go_wp2_with fail
        go_ret
        exact ⟨ret_bool e1.out.symm, h2⟩
      · have d1 : decide (a ≤ c) = false := decide_eq_false hac
        rw [d1, Bool.false_and] at e1
        clear hac
        go_wp2_with fail
        go_ret
        exact ⟨ret_bool e1.out.symm, h2⟩
end Go.Proofs.YtmophlfpoehopaaDoor
