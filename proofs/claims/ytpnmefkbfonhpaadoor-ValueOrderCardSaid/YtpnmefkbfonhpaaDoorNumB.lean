/- The contracts of the document's own answers on numbers: by sizes and signs. -/
import Derived.Test.YtpnmefkbfonhpaaDoorProg
import Derived.Test.YtpnmefkbfonhpaaDoorPl
import Derived.WalkKit
import Derived.WalkSpells
import Derived.WalkLawsBesides
import Derived.Lib.Hide
import Derived.Test.YtpnmefkbfonhpaaDoorNumS
namespace Go.Proofs.YtpnmefkbfonhpaaDoor
open Go.RowKit

set_option maxHeartbeats 400000 in
theorem signed_any (u : Int) (m : Bool) (h0 : 0 ≤ u) (w : World) :
    Calls Tryd.prog 41 #[.int .u64 u, .bool m] w fun e w' => e = .returned (.tuple #[.int .i64 (keep (inI (sgn m u)) (sgn m u)), .bool (inI (sgn m u))]) ∧ w = w' := by
  cases m
  · rw [sgn_pos]
    go_enter Tryd.func41, Tryd.ntmps41
    go_wp2
    · go_ret2
      exact ⟨ret_pair' (none_is (by unfold B64; omega)), rfl⟩
    · go_ret2
      exact ⟨ret_pair' (some_is (by unfold B64; omega)), rfl⟩
  · rw [sgn_neg]
    go_enter Tryd.func41, Tryd.ntmps41
    go_wp2
    · go_ret2
      have h : u = 9223372036854775808 := by simpa using ‹(u == 9223372036854775808) = true›
      subst h
      exact ⟨ret_pair' (some_is (by unfold B64; omega)), rfl⟩
    · go_ret2
      have h : u ≠ 9223372036854775808 := by simpa using ‹(u == 9223372036854775808) = false›
      exact ⟨ret_pair' (none_is (by unfold B64; omega)), rfl⟩
    · go_ret2
      exact ⟨ret_pair' (some_is (by unfold B64; omega)), rfl⟩
set_option maxHeartbeats 400000 in
theorem both_any (x y : Int) (m : Bool) (hx : 0 ≤ x) (hx' : x ≤ 9223372036854775808) (hy : 0 ≤ y) (hy' : y ≤ 9223372036854775808) (w : World) :
    Calls Tryd.prog 67 #[.int .u64 x, .int .u64 y, .bool m] w fun e w' => e = .returned (.tuple #[.int .i64 (keep (inI (sgn m (x + y))) (sgn m (x + y))), .bool (inI (sgn m (x + y)))]) ∧ w = w' := by
  by_cases h : 9223372036854775808 - y < x
  · go_enter Tryd.func67, Tryd.ntmps67
    go_wp2_with fail
    go_ret2
    exact ⟨ret_pair' (none_is (by unfold sgn B64; split <;> omega)), rfl⟩
  · go_enter Tryd.func67, Tryd.ntmps67
    go_wp2_with fail
    refine (signed_any _ _ (by omega) _).mono ?_
    rintro e w1 ⟨rfl, rfl⟩
    go_wp2_with fail
    go_ret2
    exact ⟨rfl, rfl⟩


set_option maxHeartbeats 2000000 in
theorem radd_any (a b : Int) (ha : B64 a) (hb : B64 b) (w : World) :
    Calls Tryd.prog 56 #[.int .i64 a, .int .i64 b] w fun e w' => e = .returned (.tuple #[.int .i64 (keep (inI (a + b)) (a + b)), .bool (inI (a + b))]) ∧ w = w' := by
  obtain ⟨a0, a1⟩ := absI_bd ha
  obtain ⟨b0, b1⟩ := absI_bd hb
  have HA := Lib.hid (size_any a ha)
  have HB := Lib.hid (size_any b hb)
  clear ha hb
  by_cases h1 : a < 0 <;> by_cases h2 : b < 0
  · have hs : sgn true (absI a + absI b) = a + b := by rw [sgn_neg, absI_neg h1, absI_neg h2]; omega
    rw [← hs]
    have HC := Lib.hid (both_any (absI a) (absI b) true a0 a1 b0 b1)
    have d1 : decide (a < 0) = true := decide_eq_true h1
    have d2 : decide (b < 0) = true := decide_eq_true h2
    clear hs h1 h2
    go_enter Tryd.func56, Tryd.ntmps56
    go_wp2_with fail
    refine (HA.out _).mono ?_; rintro e w1 ⟨rfl, rfl⟩
    go_wp2_with fail
    refine (HB.out _).mono ?_; rintro e w1 ⟨rfl, rfl⟩
    go_wp2_with fail
    refine (HC.out _).mono ?_; rintro e w1 ⟨rfl, rfl⟩
    go_wp2_with fail
    go_ret2
    exact ⟨rfl, rfl⟩
  · by_cases h3 : absI b ≤ absI a
    · have hs : sgn true (absI a - absI b) = a + b := by rw [sgn_neg, absI_neg h1, absI_pos h2]; omega
      rw [← hs]
      have HC := Lib.hid (signed_any (absI a - absI b) true (by omega))
      have d1 : decide (a < 0) = true := decide_eq_true h1
      have d2 : decide (b < 0) = false := decide_eq_false h2
      clear hs h1 h2
      go_enter Tryd.func56, Tryd.ntmps56
      go_wp2_with fail
      refine (HA.out _).mono ?_; rintro e w1 ⟨rfl, rfl⟩
      go_wp2_with fail
      refine (HB.out _).mono ?_; rintro e w1 ⟨rfl, rfl⟩
      go_wp2_with fail
      refine (HC.out _).mono ?_; rintro e w1 ⟨rfl, rfl⟩
      go_wp2_with fail
      go_ret2
      exact ⟨rfl, rfl⟩
    · have hs : sgn false (absI b - absI a) = a + b := by rw [sgn_pos, absI_neg h1, absI_pos h2]; omega
      rw [← hs]
      have HC := Lib.hid (signed_any (absI b - absI a) false (by omega))
      have d1 : decide (a < 0) = true := decide_eq_true h1
      have d2 : decide (b < 0) = false := decide_eq_false h2
      clear hs h1 h2
      go_enter Tryd.func56, Tryd.ntmps56
      go_wp2_with fail
      refine (HA.out _).mono ?_; rintro e w1 ⟨rfl, rfl⟩
      go_wp2_with fail
      refine (HB.out _).mono ?_; rintro e w1 ⟨rfl, rfl⟩
      go_wp2_with fail
      refine (HC.out _).mono ?_; rintro e w1 ⟨rfl, rfl⟩
      go_wp2_with fail
      go_ret2
      exact ⟨rfl, rfl⟩
  · by_cases h3 : absI b ≤ absI a
    · have hs : sgn false (absI a - absI b) = a + b := by rw [sgn_pos, absI_pos h1, absI_neg h2]; omega
      rw [← hs]
      have HC := Lib.hid (signed_any (absI a - absI b) false (by omega))
      have d1 : decide (a < 0) = false := decide_eq_false h1
      have d2 : decide (b < 0) = true := decide_eq_true h2
      clear hs h1 h2
      go_enter Tryd.func56, Tryd.ntmps56
      go_wp2_with fail
      refine (HA.out _).mono ?_; rintro e w1 ⟨rfl, rfl⟩
      go_wp2_with fail
      refine (HB.out _).mono ?_; rintro e w1 ⟨rfl, rfl⟩
      go_wp2_with fail
      refine (HC.out _).mono ?_; rintro e w1 ⟨rfl, rfl⟩
      go_wp2_with fail
      go_ret2
      exact ⟨rfl, rfl⟩
    · have hs : sgn true (absI b - absI a) = a + b := by rw [sgn_neg, absI_pos h1, absI_neg h2]; omega
      rw [← hs]
      have HC := Lib.hid (signed_any (absI b - absI a) true (by omega))
      have d1 : decide (a < 0) = false := decide_eq_false h1
      have d2 : decide (b < 0) = true := decide_eq_true h2
      clear hs h1 h2
      go_enter Tryd.func56, Tryd.ntmps56
      go_wp2_with fail
      refine (HA.out _).mono ?_; rintro e w1 ⟨rfl, rfl⟩
      go_wp2_with fail
      refine (HB.out _).mono ?_; rintro e w1 ⟨rfl, rfl⟩
      go_wp2_with fail
      refine (HC.out _).mono ?_; rintro e w1 ⟨rfl, rfl⟩
      go_wp2_with fail
      go_ret2
      exact ⟨rfl, rfl⟩
  · have hs : sgn false (absI a + absI b) = a + b := by rw [sgn_pos, absI_pos h1, absI_pos h2]
    rw [← hs]
    have HC := Lib.hid (both_any (absI a) (absI b) false a0 a1 b0 b1)
    have d1 : decide (a < 0) = false := decide_eq_false h1
    have d2 : decide (b < 0) = false := decide_eq_false h2
    clear hs h1 h2
    go_enter Tryd.func56, Tryd.ntmps56
    go_wp2_with fail
    refine (HA.out _).mono ?_; rintro e w1 ⟨rfl, rfl⟩
    go_wp2_with fail
    refine (HB.out _).mono ?_; rintro e w1 ⟨rfl, rfl⟩
    go_wp2_with fail
    refine (HC.out _).mono ?_; rintro e w1 ⟨rfl, rfl⟩
    go_wp2_with fail
    go_ret2
    exact ⟨rfl, rfl⟩

set_option maxHeartbeats 2000000 in
theorem rsub_any (a b : Int) (ha : B64 a) (hb : B64 b) (w : World) :
    Calls Tryd.prog 57 #[.int .i64 a, .int .i64 b] w fun e w' => e = .returned (.tuple #[.int .i64 (keep (inI (a - b)) (a - b)), .bool (inI (a - b))]) ∧ w = w' := by
  obtain ⟨a0, a1⟩ := absI_bd ha
  obtain ⟨b0, b1⟩ := absI_bd hb
  have HA := Lib.hid (size_any a ha)
  have HB := Lib.hid (size_any b hb)
  clear ha hb
  by_cases h1 : a < 0 <;> by_cases h2 : b < 0
  · by_cases h3 : absI b ≤ absI a
    · have hs : sgn true (absI a - absI b) = a - b := by rw [sgn_neg, absI_neg h1, absI_neg h2]; omega
      rw [← hs]
      have HC := Lib.hid (signed_any (absI a - absI b) true (by omega))
      have d1 : decide (a < 0) = true := decide_eq_true h1
      have d3 : decide (0 ≤ a) = false := decide_eq_false (by omega)
      have d2 : decide (b < 0) = true := decide_eq_true h2
      clear hs h1 h2
      go_enter Tryd.func57, Tryd.ntmps57
      go_wp2_with fail
      refine (HA.out _).mono ?_; rintro e w1 ⟨rfl, rfl⟩
      go_wp2_with fail
      refine (HB.out _).mono ?_; rintro e w1 ⟨rfl, rfl⟩
      go_wp2_with fail
      refine (HC.out _).mono ?_; rintro e w1 ⟨rfl, rfl⟩
      go_wp2_with fail
      go_ret2
      exact ⟨rfl, rfl⟩
    · have hs : sgn false (absI b - absI a) = a - b := by rw [sgn_pos, absI_neg h1, absI_neg h2]; omega
      rw [← hs]
      have HC := Lib.hid (signed_any (absI b - absI a) false (by omega))
      have d1 : decide (a < 0) = true := decide_eq_true h1
      have d3 : decide (0 ≤ a) = false := decide_eq_false (by omega)
      have d2 : decide (b < 0) = true := decide_eq_true h2
      clear hs h1 h2
      go_enter Tryd.func57, Tryd.ntmps57
      go_wp2_with fail
      refine (HA.out _).mono ?_; rintro e w1 ⟨rfl, rfl⟩
      go_wp2_with fail
      refine (HB.out _).mono ?_; rintro e w1 ⟨rfl, rfl⟩
      go_wp2_with fail
      refine (HC.out _).mono ?_; rintro e w1 ⟨rfl, rfl⟩
      go_wp2_with fail
      go_ret2
      exact ⟨rfl, rfl⟩
  · have hs : sgn true (absI a + absI b) = a - b := by rw [sgn_neg, absI_neg h1, absI_pos h2]; omega
    rw [← hs]
    have HC := Lib.hid (both_any (absI a) (absI b) true a0 a1 b0 b1)
    have d1 : decide (a < 0) = true := decide_eq_true h1
    have d3 : decide (0 ≤ a) = false := decide_eq_false (by omega)
    have d2 : decide (b < 0) = false := decide_eq_false h2
    clear hs h1 h2
    go_enter Tryd.func57, Tryd.ntmps57
    go_wp2_with fail
    refine (HA.out _).mono ?_; rintro e w1 ⟨rfl, rfl⟩
    go_wp2_with fail
    refine (HB.out _).mono ?_; rintro e w1 ⟨rfl, rfl⟩
    go_wp2_with fail
    refine (HC.out _).mono ?_; rintro e w1 ⟨rfl, rfl⟩
    go_wp2_with fail
    go_ret2
    exact ⟨rfl, rfl⟩
  · have hs : sgn false (absI a + absI b) = a - b := by rw [sgn_pos, absI_pos h1, absI_neg h2]; omega
    rw [← hs]
    have HC := Lib.hid (both_any (absI a) (absI b) false a0 a1 b0 b1)
    have d1 : decide (a < 0) = false := decide_eq_false h1
    have d3 : decide (0 ≤ a) = true := decide_eq_true (by omega)
    have d2 : decide (b < 0) = true := decide_eq_true h2
    clear hs h1 h2
    go_enter Tryd.func57, Tryd.ntmps57
    go_wp2_with fail
    refine (HA.out _).mono ?_; rintro e w1 ⟨rfl, rfl⟩
    go_wp2_with fail
    refine (HB.out _).mono ?_; rintro e w1 ⟨rfl, rfl⟩
    go_wp2_with fail
    refine (HC.out _).mono ?_; rintro e w1 ⟨rfl, rfl⟩
    go_wp2_with fail
    go_ret2
    exact ⟨rfl, rfl⟩
  · by_cases h3 : absI b ≤ absI a
    · have hs : sgn false (absI a - absI b) = a - b := by rw [sgn_pos, absI_pos h1, absI_pos h2]
      rw [← hs]
      have HC := Lib.hid (signed_any (absI a - absI b) false (by omega))
      have d1 : decide (a < 0) = false := decide_eq_false h1
      have d3 : decide (0 ≤ a) = true := decide_eq_true (by omega)
      have d2 : decide (b < 0) = false := decide_eq_false h2
      clear hs h1 h2
      go_enter Tryd.func57, Tryd.ntmps57
      go_wp2_with fail
      refine (HA.out _).mono ?_; rintro e w1 ⟨rfl, rfl⟩
      go_wp2_with fail
      refine (HB.out _).mono ?_; rintro e w1 ⟨rfl, rfl⟩
      go_wp2_with fail
      refine (HC.out _).mono ?_; rintro e w1 ⟨rfl, rfl⟩
      go_wp2_with fail
      go_ret2
      exact ⟨rfl, rfl⟩
    · have hs : sgn true (absI b - absI a) = a - b := by rw [sgn_neg, absI_pos h1, absI_pos h2]; omega
      rw [← hs]
      have HC := Lib.hid (signed_any (absI b - absI a) true (by omega))
      have d1 : decide (a < 0) = false := decide_eq_false h1
      have d3 : decide (0 ≤ a) = true := decide_eq_true (by omega)
      have d2 : decide (b < 0) = false := decide_eq_false h2
      clear hs h1 h2
      go_enter Tryd.func57, Tryd.ntmps57
      go_wp2_with fail
      refine (HA.out _).mono ?_; rintro e w1 ⟨rfl, rfl⟩
      go_wp2_with fail
      refine (HB.out _).mono ?_; rintro e w1 ⟨rfl, rfl⟩
      go_wp2_with fail
      refine (HC.out _).mono ?_; rintro e w1 ⟨rfl, rfl⟩
      go_wp2_with fail
      go_ret2
      exact ⟨rfl, rfl⟩
end Go.Proofs.YtpnmefkbfonhpaaDoor
