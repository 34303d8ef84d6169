/- The statements' live question has the answer true. -/
import Derived.Test.YtcloiebamamfbaaDoorNumT
namespace Go.Proofs.YtcloiebamamfbaaDoor
open Go.RowKit

theorem a_add1 (w : World) : Calls Tryd.prog 6 #[.int .i64 9223372036854775806, .int .i64 1] w fun e w' => e = .returned (.tuple #[.int .i64 9223372036854775807, .bool true]) ∧ Below w.heap.size w w' :=
  (add_any 9223372036854775806 1 (by unfold B64; omega) (by unfold B64; omega) w).mono fun _ _ ⟨he, hb⟩ => ⟨he.trans (ret_pair (by decide) (by decide)), hb⟩
theorem a_add2 (w : World) : Calls Tryd.prog 6 #[.int .i64 9223372036854775807, .int .i64 1] w fun e w' => e = .returned (.tuple #[.int .i64 0, .bool false]) ∧ Below w.heap.size w w' :=
  (add_any 9223372036854775807 1 (by unfold B64; omega) (by unfold B64; omega) w).mono fun _ _ ⟨he, hb⟩ => ⟨he.trans (ret_pair (by decide) (by decide)), hb⟩
theorem a_mul (w : World) : Calls Tryd.prog 10 #[.int .i64 (-4611686018427387904), .int .i64 2] w fun e w' => e = .returned (.tuple #[.int .i64 (-9223372036854775808), .bool true]) ∧ Below w.heap.size w w' :=
  (mul_any (-4611686018427387904) 2 (by unfold B64; omega) (by unfold B64; omega) w).mono fun _ _ ⟨he, hb⟩ => ⟨he.trans (ret_pair (by decide) (by decide)), hb⟩
theorem a_div (w : World) : Calls Tryd.prog 12 #[.int .i64 (-7), .int .i64 2] w fun e w' => e = .returned (.tuple #[.int .i64 (-3), .bool true]) ∧ Below w.heap.size w w' :=
  (div_any (-7) 2 (by unfold B64; omega) (by unfold B64; omega) (by omega) w).mono fun _ _ ⟨he, hb⟩ => ⟨he.trans (ret_pair (by decide) (by decide)), hb⟩
theorem a_neg (w : World) : Calls Tryd.prog 14 #[.int .i64 (-9223372036854775808)] w fun e w' => e = .returned (.tuple #[.int .i64 0, .bool false]) ∧ Below w.heap.size w w' :=
  (neg_any (-9223372036854775808) (by unfold B64; omega) w).mono fun _ _ ⟨he, hb⟩ => ⟨he.trans (ret_pair (by decide) (by decide)), hb⟩

theorem i12 : Lib.itoa (-12) = [45, 49, 50] := by
  have h : Lib.decDigits 12 = [49, 50] := digits_of_dec 2 [49, 50] 12 rfl (by decide) (by decide) (.inl (by decide))
  have e := Lib.itoa_neg 12 (by omega)
  rw [h] at e
  exact e
theorem iLeast : Lib.itoa (-9223372036854775808) = [45, 57, 50, 50, 51, 51, 55, 50, 48, 51, 54, 56, 53, 52, 55, 55, 53, 56, 48, 56] := by
  have h : Lib.decDigits 9223372036854775808 = [57, 50, 50, 51, 51, 55, 50, 48, 51, 54, 56, 53, 52, 55, 55, 53, 56, 48, 56] :=
    digits_of_dec 19 [57, 50, 50, 51, 51, 55, 50, 48, 51, 54, 56, 53, 52, 55, 55, 53, 56, 48, 56] 9223372036854775808 rfl (by decide) (by decide) (.inl (by decide))
  have e := Lib.itoa_neg 9223372036854775808 (by omega)
  rw [h] at e
  exact e
theorem a_parse1 (w : World) (hE : Env w) : Calls Tryd.prog 17 #[.string ⟨#[45, 49, 50]⟩] w fun e w' => e = .returned (.tuple #[.int .i64 (-12), .bool true]) ∧ Below w.heap.size w w' :=
  (parse_any ⟨#[45, 49, 50]⟩ (by show 3 ≤ 281474976710656; omega) w hE).mono fun _ _ ⟨he, hb⟩ =>
    have hp := p_some (l := [45, 49, 50]) (n := -12) (by unfold B64; omega) i12
    ⟨he.trans (ret_pair hp.1 hp.2), hb⟩
theorem a_parse2 (w : World) (hE : Env w) : Calls Tryd.prog 17 #[.string ⟨#[48, 49, 50]⟩] w fun e w' => e = .returned (.tuple #[.int .i64 0, .bool false]) ∧ Below w.heap.size w w' :=
  (parse_any ⟨#[48, 49, 50]⟩ (by show 3 ≤ 281474976710656; omega) w hE).mono fun _ _ ⟨he, hb⟩ =>
    have hp := p_bad (l := [48, 49, 50]) (.inr (.inr (.inl ⟨by decide, .inr (by decide)⟩)))
    ⟨he.trans (ret_pair hp.1 hp.2), hb⟩
theorem a_text (w : World) (hE : Env w) : Calls Tryd.prog 18 #[.int .i64 (-9223372036854775808)] w fun e w' => e = .returned (.string ⟨#[45, 57, 50, 50, 51, 51, 55, 50, 48, 51, 54, 56, 53, 52, 55, 55, 53, 56, 48, 56]⟩) ∧ Below w.heap.size w w' :=
  (text_any (-9223372036854775808) (by unfold B64; omega) w hE).mono fun _ _ ⟨he, hb⟩ => ⟨he.trans (by rw [iLeast]), hb⟩

set_option maxHeartbeats 1000000 in
theorem alive_any (w : World) (hE : Env w) : Calls Tryd.prog 16 #[] w fun e w' => e = .returned (.bool true) ∧ Below w.heap.size w w' := by
  have HE := Lib.hid hE
  clear hE
  go_enter Tryd.func16, Tryd.ntmps16
  go_wp2_with fail
  refine (a_add1 _).mono ?_; rintro e w1 ⟨rfl, h1⟩
  go_wp2_with fail
  refine (a_add2 _).mono ?_; rintro e w2 ⟨rfl, h2⟩
  go_wp2_with fail
  refine (a_mul _).mono ?_; rintro e w3 ⟨rfl, h3⟩
  go_wp2_with fail
  refine (a_div _).mono ?_; rintro e w4 ⟨rfl, h4⟩
  go_wp2_with fail
  refine (a_neg _).mono ?_; rintro e w5 ⟨rfl, h5⟩
  have h05 := h1.trans ((h2.mono h1.size).trans ((h3.mono (Nat.le_trans h1.size h2.size)).trans ((h4.mono (Nat.le_trans h1.size (Nat.le_trans h2.size h3.size))).trans (h5.mono (Nat.le_trans h1.size (Nat.le_trans h2.size (Nat.le_trans h3.size h4.size)))))))
  have HE5 := Lib.hid (HE.out.below h05)
  clear h1 h2 h3 h4 h5
  go_wp2_with fail
  refine (a_parse1 _ HE5.out).mono ?_; rintro e w6 ⟨rfl, h6⟩
  have HE6 := Lib.hid (HE5.out.below h6)
  go_wp2_with fail
  refine (a_parse2 _ HE6.out).mono ?_; rintro e w7 ⟨rfl, h7⟩
  have HE7 := Lib.hid (HE6.out.below h7)
  go_wp2_with fail
  refine (a_text _ HE7.out).mono ?_; rintro e w8 ⟨rfl, h8⟩
  have h08 := h05.trans ((h6.mono h05.size).trans ((h7.mono (Nat.le_trans h05.size h6.size)).trans (h8.mono (Nat.le_trans h05.size (Nat.le_trans h6.size h7.size)))))
  clear h05 h6 h7 h8
  go_wp2_with fail
  go_ret
  exact ⟨rfl, h08⟩
end Go.Proofs.YtcloiebamamfbaaDoor
