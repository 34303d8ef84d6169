/- The contracts of the document's own answers on numbers: by sizes and signs: quotients, products. -/
import Derived.Test.YtpnmefkbfonhpaaDoorProg
import Derived.Test.YtpnmefkbfonhpaaDoorPl
import Derived.WalkKit
import Derived.WalkSpells
import Derived.WalkLawsBesides
import Derived.Lib.Hide
import Derived.Test.YtpnmefkbfonhpaaDoorNumB
import Derived.Deep.RegionWith
import Derived.WalkSmall
namespace Go.Proofs.YtpnmefkbfonhpaaDoor
open Go.RowKit

set_option maxHeartbeats 400000 in
theorem rdiv_zero (a : Int) (w : World) :
    Calls Tryd.prog 59 #[.int .i64 a, .int .i64 0] w fun e w' => e = .returned (.tuple #[.int .i64 0, .bool false]) ∧ w = w' := by
  go_enter Tryd.func59, Tryd.ntmps59
  go_wp2
  go_ret2
  exact ⟨rfl, rfl⟩
set_option maxHeartbeats 400000 in
theorem rdiv_any (a b : Int) (ha : B64 a) (hb : B64 b) (h0 : b ≠ 0) (w : World) :
    Calls Tryd.prog 59 #[.int .i64 a, .int .i64 b] w fun e w' => e = .returned (.tuple #[.int .i64 (keep (inI (a.tdiv b)) (a.tdiv b)), .bool (inI (a.tdiv b))]) ∧ w = w' := by
  obtain ⟨a0, a1⟩ := absI_bd ha
  obtain ⟨b0, b1⟩ := absI_bd hb
  have b2 : 0 < absI b := by unfold absI; split <;> omega
  have HA := Lib.hid (size_any a ha)
  have HB := Lib.hid (size_any b hb)
  have hz : (b == 0) = false := by simpa using h0
  rw [← tdiv_sgn a b]
  have HC := Lib.hid (signed_any (absI a / absI b) (decide (a < 0) != decide (b < 0)) (Int.ediv_nonneg a0 b0))
  clear ha hb
  go_enter Tryd.func59, Tryd.ntmps59
  go_wp2_with fail
  refine (HA.out _).mono ?_; rintro e w1 ⟨rfl, rfl⟩
  go_wp2_with fail
  refine (HB.out _).mono ?_; rintro e w1 ⟨rfl, rfl⟩
  go_wp2_with fail
  refine (HC.out _).mono ?_; rintro e w1 ⟨rfl, rfl⟩
  go_wp2_with fail
  go_ret2
  exact ⟨rfl, rfl⟩

set_option maxHeartbeats 1000000 in
theorem rmul_any (a b : Int) (ha : B64 a) (hb : B64 b) (w : World) :
    Calls Tryd.prog 58 #[.int .i64 a, .int .i64 b] w fun e w' => e = .returned (.tuple #[.int .i64 (keep (inI (a * b)) (a * b)), .bool (inI (a * b))]) ∧ w = w' := by
  obtain ⟨a0, a1⟩ := absI_bd ha
  obtain ⟨b0, b1⟩ := absI_bd hb
  have HA := Lib.hid (size_any a ha)
  have HB := Lib.hid (size_any b hb)
  by_cases h : absI a ≠ 0 ∧ 9223372036854775808 / absI a < absI b
  · have hn : ¬ B64 (a * b) := by
      rw [← mul_sgn a b]
      obtain ⟨h1, h2⟩ := h
      have := (Int.ediv_lt_iff_lt_mul (by omega)).1 h2
      rw [Int.mul_comm] at this
      generalize absI a * absI b = p at this
      unfold B64 sgn; split <;> omega
    have HN := Lib.hid (none_is hn)
    obtain ⟨h1, h2⟩ := h
    have h3 : 0 < absI a := by omega
    clear ha hb hn
    go_enter Tryd.func58, Tryd.ntmps58
    go_wp2_with fail
    refine (HA.out _).mono ?_; rintro e w1 ⟨rfl, rfl⟩
    go_wp2_with fail
    refine (HB.out _).mono ?_; rintro e w1 ⟨rfl, rfl⟩
    go_wp2_with fail
    go_ret2
    exact ⟨ret_pair' HN.out, rfl⟩
  · have p0 : 0 ≤ absI a * absI b := Int.mul_nonneg a0 b0
    have p1 : absI a * absI b ≤ 9223372036854775808 := by
      by_cases hx : absI a = 0
      · rw [hx]; omega
      · have hy : absI b ≤ 9223372036854775808 / absI a := by omega
        have := (Int.le_ediv_iff_mul_le (by omega)).1 hy
        rwa [Int.mul_comm] at this
    have HC := Lib.hid (signed_any (absI a * absI b) (decide (a < 0) != decide (b < 0)) p0)
    rw [← mul_sgn a b]
    clear ha hb
    by_cases hx : absI a = 0
    · have h3 : (absI a != 0) = false := by simpa using hx
      clear h hx
      go_enter Tryd.func58, Tryd.ntmps58
      go_wp2_with fail
      refine (HA.out _).mono ?_; rintro e w1 ⟨rfl, rfl⟩
      go_wp2_with fail
      refine (HB.out _).mono ?_; rintro e w1 ⟨rfl, rfl⟩
      go_wp2_with fail
      refine (HC.out _).mono ?_; rintro e w1 ⟨rfl, rfl⟩
      go_wp2_with fail
      go_ret2
      exact ⟨rfl, rfl⟩
    · have h3 : (absI a != 0) = true := by simpa using hx
      have h4 : ¬ 9223372036854775808 / absI a < absI b := fun h5 => h ⟨hx, h5⟩
      have h5 : 0 < absI a := by omega
      clear h hx
      go_enter Tryd.func58, Tryd.ntmps58
      go_wp2_with fail
      refine (HA.out _).mono ?_; rintro e w1 ⟨rfl, rfl⟩
      go_wp2_with fail
      refine (HB.out _).mono ?_; rintro e w1 ⟨rfl, rfl⟩
      go_wp2_with fail
      refine (HC.out _).mono ?_; rintro e w1 ⟨rfl, rfl⟩
      go_wp2_with fail
      go_ret2
      exact ⟨rfl, rfl⟩
end Go.Proofs.YtpnmefkbfonhpaaDoor
