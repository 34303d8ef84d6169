/- place's own moves: through complex numbers and back. -/
import Derived.Test.YtmophlfpoehopaaDoorPlA
import Derived.Deep.RegionWith
namespace Go.Proofs.YtmophlfpoehopaaDoor
open Go.RowKit

theorem c16 : fl 16 = 4625196817309499392 := by decide +kernel
theorem c64 : fl 64 = 4634204016564240384 := by decide +kernel
/-- a number, if it is told; else 0 -/
def ifB (b : Bool) (n : Int) : Int := if b = true then n else 0

theorem conv_int (src dst : TypeId) (b : Nat) (n : Int) (hs : (Tryd.prog.underlying src).isSome = true) (hd : Tryd.prog.underlying dst = some (.int .i64)) (h : floatToIntVal .f64 b .i64 = some n) (w : World) :
    (convert src dst (.float .f64 b)).run Tryd.prog w = .ok (.int .i64 n) w := run_convert_float_int w src dst .f64 .i64 b n hs hd h

set_option maxHeartbeats 400000 in
theorem placed_any (a b : Nat) (A B : Bool) (hA : (geZ a && ltE a (fl 16)) = A) (hB : (geZ b && ltE b (fl 64)) = B) (C R : Int)
    (hC : A = true → floatToIntVal .f64 a .i64 = some C) (hR : B = true → floatToIntVal .f64 b .i64 = some R) (w : World) :
    Calls Tryd.prog 36 #[.complex .f64 a b] w fun e w' => e = .returned (.tuple #[.agg #[.int .i64 (ifB (A && B) C), .int .i64 (ifB (A && B) R)], .bool (A && B)]) ∧ Below w.heap.size w w' := by
  have HA := Lib.hid (within_any a (fl 16))
  have HB := Lib.hid (within_any b (fl 64))
  rw [hA, c16] at HA
  rw [hB, c64] at HB
  clear hA hB
  cases A with
  | false =>
    clear hC hR
    go_enter Tryd.func36, Tryd.ntmps36
    go_wp2_with fail
    refine (HA.out _).mono ?_; rintro e w1 ⟨rfl, rfl⟩
    go_wp2_with fail
    exact bodyPost_ret (v := .tuple #[.agg #[.int .i64 0, .int .i64 0], .bool false]) (by simp [results, Tryd.results36, go_sem]) rfl
      ⟨rfl, (Below.refl _ _).alloc (Nat.le_refl _) _⟩
  | true =>
    cases B with
    | false =>
      clear hC hR
      go_enter Tryd.func36, Tryd.ntmps36
      go_wp2_with fail
      refine (HA.out _).mono ?_; rintro e w1 ⟨rfl, rfl⟩
      go_wp2_with fail
      refine (HB.out _).mono ?_; rintro e w1 ⟨rfl, rfl⟩
      go_wp2_with fail
      exact bodyPost_ret (v := .tuple #[.agg #[.int .i64 0, .int .i64 0], .bool false]) (by simp [results, Tryd.results36, go_sem]) rfl
        ⟨rfl, (Below.refl _ _).alloc (Nat.le_refl _) _⟩
    | true =>
      have h1 := fun w => conv_int 55 3 a C (by rw [Tryd.underlying55]; rfl) Tryd.underlying3 (hC rfl) w
      have h2 := fun w => conv_int 55 3 b R (by rw [Tryd.underlying55]; rfl) Tryd.underlying3 (hR rfl) w
      clear hC hR
      go_enter Tryd.func36, Tryd.ntmps36
      go_wp2_with fail
      refine (HA.out _).mono ?_; rintro e w1 ⟨rfl, rfl⟩
      go_wp2_with fail
      refine (HB.out _).mono ?_; rintro e w1 ⟨rfl, rfl⟩
      go_wp2_with fail
      exact bodyPost_ret (v := .tuple #[.agg #[.int .i64 C, .int .i64 R], .bool true]) (by simp [results, Tryd.results36, go_sem]) rfl
        ⟨rfl, (Below.refl _ _).alloc (Nat.le_refl _) _⟩

/-- a column so much on -/
theorem col_sum (c x : Int) (h0 : 0 ≤ c) (h1 : c ≤ 15) (hl : -9223372036854775808 ≤ x) (hu : x ≤ 9223372036854775807) :
    ∃ z, Ieee.double.add (fl c) (fl x) = some z ∧ (geZ z && ltE z (fl 16)) = decide (0 ≤ c + x ∧ c + x ≤ 15) ∧ (decide (0 ≤ c + x ∧ c + x ≤ 15) = true → floatToIntVal .f64 z .i64 = some (c + x)) := by
  by_cases hx : x < -64 ∨ 64 < x
  · obtain ⟨z, hz, hn⟩ := far_not c x h0 (by omega) hx hl hu
    have hd : decide (0 ≤ c + x ∧ c + x ≤ 15) = false := decide_eq_false (by omega)
    refine ⟨z, hz, ?_, fun h => ?_⟩
    · rw [hd]
      rcases hn with h | ⟨h, _⟩
      · rw [h]; rfl
      · rw [h, Bool.and_false]
    · rw [hd] at h; cases h
  · obtain ⟨a, b, _, d⟩ := near_is (c + x) (by omega) (by omega)
    refine ⟨_, add_near c x h0 (by omega) (by omega) (by omega), ?_, fun _ => d⟩
    rw [a, b, Bool.eq_iff_iff, Bool.and_eq_true, decide_eq_true_eq, decide_eq_true_eq, decide_eq_true_eq]
    omega
/-- a row so much on -/
theorem row_sum (r y : Int) (h0 : 0 ≤ r) (h1 : r ≤ 63) (hl : -9223372036854775808 ≤ y) (hu : y ≤ 9223372036854775807) :
    ∃ z, Ieee.double.add (fl r) (fl y) = some z ∧ (geZ z && ltE z (fl 64)) = decide (0 ≤ r + y ∧ r + y ≤ 63) ∧ (decide (0 ≤ r + y ∧ r + y ≤ 63) = true → floatToIntVal .f64 z .i64 = some (r + y)) := by
  by_cases hx : y < -64 ∨ 64 < y
  · obtain ⟨z, hz, hn⟩ := far_not r y h0 h1 hx hl hu
    have hd : decide (0 ≤ r + y ∧ r + y ≤ 63) = false := decide_eq_false (by omega)
    refine ⟨z, hz, ?_, fun h => ?_⟩
    · rw [hd]
      rcases hn with h | ⟨_, h⟩
      · rw [h]; rfl
      · rw [h, Bool.and_false]
    · rw [hd] at h; cases h
  · obtain ⟨a, _, b, d⟩ := near_is (r + y) (by omega) (by omega)
    refine ⟨_, add_near r y h0 h1 (by omega) (by omega), ?_, fun _ => d⟩
    rw [a, b, Bool.eq_iff_iff, Bool.and_eq_true, decide_eq_true_eq, decide_eq_true_eq, decide_eq_true_eq]
    omega
theorem right_and (c r : Int) : (decide (0 ≤ c ∧ c ≤ 15) && decide (0 ≤ r ∧ r ≤ 63)) = rightB c r := by
  unfold rightB
  rw [Bool.eq_iff_iff, Bool.and_eq_true, decide_eq_true_eq, decide_eq_true_eq, decide_eq_true_eq]
  omega

set_option maxHeartbeats 1000000 in
theorem pmirror_any (c r : Int) (w : World) :
    Calls Tryd.prog 19 #[.agg #[.int .i64 c, .int .i64 r]] w fun e w' => e = .returned (.tuple #[.agg #[.int .i64 (mirC c r), .int .i64 (mirR c r)], .bool (mirB c r)]) ∧ Below w.heap.size w w' := by
  have HP := Lib.hid (pright_any c r)
  cases hp : rightB c r with
  | false =>
    have e0 : mirB c r = false := by unfold mirB; rw [hp]; rfl
    have e1 := Lib.hid (show mirC c r = 0 from if_neg (by rw [e0]; decide))
    have e2 := Lib.hid (show mirR c r = 0 from if_neg (by rw [e0]; decide))
    have e3 := Lib.hid e0
    rw [hp] at HP
    clear hp e0
    go_enter Tryd.func19, Tryd.ntmps19
    go_wp2_with fail
    refine (HP.out _).mono ?_; rintro e w1 ⟨rfl, b1⟩
    have k0 := keep_cell b1 (p := ⟨w.heap.size + 1, 0, none⟩) (v := .int .i64 0) (by simp [go_sem])
    have k1 := keep_cell b1 (p := ⟨w.heap.size + 1, 1, none⟩) (v := .int .i64 0) (by simp [go_sem])
    have f0 := keep_frozen b1 (p := ⟨w.heap.size + 1, 0, none⟩) (by simp) (by simp [go_sem])
    have f1 := keep_frozen b1 (p := ⟨w.heap.size + 1, 1, none⟩) (by simp) (by simp [go_sem])
    have h1 : Below w.heap.size w w1 := (((Below.refl _ _).alloc (Nat.le_refl _) _).alloc (by simp) _).trans (b1.mono (by simp; omega))
    go_wp2_with fail
    exact bodyPost_ret (v := .tuple #[.agg #[.int .i64 0, .int .i64 0], .bool false]) (by simp [results, Tryd.results19, go_sem, k0, k1]) rfl
      ⟨by rw [e1.out, e2.out, e3.out], (h1.setCell (by simp) _).setCell (by simp) _⟩
  | true =>
    obtain ⟨c0, c1, r0, r1⟩ := (rightB_iff c r).1 hp
    obtain ⟨na, nb, _, nd⟩ := near_is r (by omega) (by omega)
    obtain ⟨ma, _, mb, md⟩ := near_is c (by omega) (by omega)
    have HQ := Lib.hid (placed_any (fl r) (fl c) (decide (0 ≤ r ∧ r ≤ 15)) (decide (0 ≤ c ∧ c ≤ 63))
      (by rw [na, nb, Bool.eq_iff_iff, Bool.and_eq_true, decide_eq_true_eq, decide_eq_true_eq, decide_eq_true_eq]; omega)
      (by rw [ma, mb, Bool.eq_iff_iff, Bool.and_eq_true, decide_eq_true_eq, decide_eq_true_eq, decide_eq_true_eq]; omega) r c (fun _ => nd) (fun _ => md))
    rw [right_and] at HQ
    have e0 : rightB r c = mirB c r := by unfold mirB; rw [hp]; rfl
    rw [e0] at HQ
    have e1 := Lib.hid (show mirC c r = ifB (mirB c r) r from rfl)
    have e2 := Lib.hid (show mirR c r = ifB (mirB c r) c from rfl)
    rw [hp] at HP
    clear hp e0 na nb nd ma mb md
    generalize ifB (mirB c r) r = X at *
    generalize ifB (mirB c r) c = Y at *
    generalize mirB c r = Z at *
    go_enter Tryd.func19, Tryd.ntmps19
    go_wp2_with fail
    refine (HP.out _).mono ?_; rintro e w1 ⟨rfl, b1⟩
    have k0 := keep_cell b1 (p := ⟨w.heap.size + 1, 0, none⟩) (v := .int .i64 0) (by simp [go_sem])
    have k1 := keep_cell b1 (p := ⟨w.heap.size + 1, 1, none⟩) (v := .int .i64 0) (by simp [go_sem])
    have k2 := keep_cell b1 (p := ⟨w.heap.size, 0, none⟩) (v := .int .i64 c) (by simp [go_sem])
    have k3 := keep_cell b1 (p := ⟨w.heap.size, 1, none⟩) (v := .int .i64 r) (by simp [go_sem])
    have f0 := keep_frozen b1 (p := ⟨w.heap.size + 1, 0, none⟩) (by simp) (by simp [go_sem])
    have f1 := keep_frozen b1 (p := ⟨w.heap.size + 1, 1, none⟩) (by simp) (by simp [go_sem])
    have h1 : Below w.heap.size w w1 := (((Below.refl _ _).alloc (Nat.le_refl _) _).alloc (by simp) _).trans (b1.mono (by simp; omega))
    have z1 : w.heap.size + 1 < w1.heap.size := by have := b1.size; simp at this; omega
    clear b1
    go_wp2_with fail
    refine (plane_any _ _ _).mono ?_; rintro e w2 ⟨rfl, rfl⟩
    go_wp2_with fail
    refine (HQ.out _).mono ?_; rintro e w2 ⟨rfl, b2⟩
    have m0 := keep_cell b2 (p := ⟨w.heap.size + 1, 0, none⟩) (v := .int .i64 0) (by simp [go_sem, z1, k0])
    have m1 := keep_cell b2 (p := ⟨w.heap.size + 1, 1, none⟩) (v := .int .i64 0) (by simp [go_sem, z1, k1])
    have g0 := keep_frozen b2 (p := ⟨w.heap.size + 1, 0, none⟩) (by simp; omega) (by simp [go_sem, z1, f0])
    have g1 := keep_frozen b2 (p := ⟨w.heap.size + 1, 1, none⟩) (by simp; omega) (by simp [go_sem, z1, f1])
    have h2 : Below w.heap.size w w2 := (h1.alloc (by omega) _).trans (b2.mono (by simp; omega))
    clear k0 k1 k2 k3 f0 f1 b2
    go_wp2_with fail
    exact bodyPost_ret (v := .tuple #[.agg #[.int .i64 X, .int .i64 Y], .bool Z]) (by simp [results, Tryd.results19, go_sem, m0, m1]) rfl
      ⟨by rw [e1.out, e2.out], (h2.setCell (by simp) _).setCell (by simp) _⟩
end Go.Proofs.YtmophlfpoehopaaDoor
