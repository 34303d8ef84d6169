/- The statements' live question on places has the answer true. -/
import Derived.Test.YtmophlfpoehopaaDoorPlE
import Derived.Test.YtmophlfpoehopaaDoorPlF
import Derived.Test.YtmophlfpoehopaaDoorPlG
import Derived.Test.YtmophlfpoehopaaDoorPlH
import Derived.Test.YtmophlfpoehopaaDoorPlJ
import Derived.Test.YtmophlfpoehopaaDoorRefI
namespace Go.Proofs.YtmophlfpoehopaaDoor
open Go.RowKit

theorem d64 : Lib.decDigits 64 = [54, 52] := digits_of_dec 2 [54, 52] 64 rfl (by decide) (by decide) (.inl (by decide))
theorem d1 : Lib.decDigits 1 = [49] := digits_of_dec 1 [49] 1 rfl (by decide) (by decide) (.inl (by decide))
theorem i3 : Lib.itoa 3 = [51] := by
  have h : Lib.decDigits 3 = [51] := digits_of_dec 1 [51] 3 rfl (by decide) (by decide) (.inl (by decide))
  have e := Lib.itoa_nonneg 3
  rw [h] at e
  exact e
theorem i1 : Lib.itoa 1 = [49] := by
  have e := Lib.itoa_nonneg 1
  rw [d1] at e
  exact e
theorem a_parse1 (w : World) : Calls Tryd.prog 7 #[.string ⟨#[80, 54, 52]⟩] w fun e w' => e = .returned (.tuple #[.agg #[.int .i64 15, .int .i64 63], .int .i64 0]) ∧ Below w.heap.size w w' :=
  (pparse_any ⟨#[80, 54, 52]⟩ (by show 3 ≤ 9223372036854775807; omega) w).mono fun _ _ ⟨he, hb⟩ =>
    have hp := parse_yes (ch := 80) (ds := [54, 52]) (u := 64) (by decide) (by decide) (by decide) (by decide) (by decide) d64
    ⟨he.trans (ret_place hp.1 hp.2.1 hp.2.2), hb⟩
theorem a_parse2 (w : World) : Calls Tryd.prog 7 #[.string ⟨#[81, 49]⟩] w fun e w' => e = .returned (.tuple #[.agg #[.int .i64 0, .int .i64 0], .int .i64 4]) ∧ Below w.heap.size w w' :=
  (pparse_any ⟨#[81, 49]⟩ (by show 2 ≤ 9223372036854775807; omega) w).mono fun _ _ ⟨he, hb⟩ =>
    have hp := parse_no (ch := 81) (ds := [49]) (u := 1) (by decide) (.inl (by decide)) d1
    ⟨he.trans (ret_place hp.1 hp.2.1 hp.2.2), hb⟩
theorem a_parse3 (w : World) : Calls Tryd.prog 7 #[.string ⟨#[65, 48, 49]⟩] w fun e w' => e = .returned (.tuple #[.agg #[.int .i64 0, .int .i64 0], .int .i64 2]) ∧ Below w.heap.size w w' :=
  (pparse_any ⟨#[65, 48, 49]⟩ (by show 3 ≤ 9223372036854775807; omega) w).mono fun _ _ ⟨he, hb⟩ =>
    have hp := parse_form (l := [65, 48, 49]) (by decide)
    ⟨he.trans (ret_place hp.1 hp.2.1 hp.2.2), hb⟩
theorem a_move (w : World) : Calls Tryd.prog 17 #[.agg #[.int .i64 15, .int .i64 63], .agg #[.int .i64 (-15), .int .i64 (-61)]] w fun e w' => e = .returned (.tuple #[.agg #[.int .i64 0, .int .i64 2], .bool true]) ∧ Below w.heap.size w w' :=
  pmove_any 15 63 (-15) (-61) w (by omega) (by omega)
theorem a_mirror1 (w : World) : Calls Tryd.prog 19 #[.agg #[.int .i64 0, .int .i64 2]] w fun e w' => e = .returned (.tuple #[.agg #[.int .i64 2, .int .i64 0], .bool true]) ∧ Below w.heap.size w w' := pmirror_any 0 2 w
theorem a_mirror2 (w : World) : Calls Tryd.prog 19 #[.agg #[.int .i64 15, .int .i64 63]] w fun e w' => e = .returned (.tuple #[.agg #[.int .i64 0, .int .i64 0], .bool false]) ∧ Below w.heap.size w w' := pmirror_any 15 63 w
theorem a_span (w : World) : Calls Tryd.prog 21 #[.agg #[.int .i64 2, .int .i64 0], .agg #[.int .i64 1, .int .i64 3]] w fun e w' => e = .returned (.tuple #[.agg #[.int .i64 1, .int .i64 0, .int .i64 2, .int .i64 3], .bool true]) ∧ Below w.heap.size w w' := pspan_any 2 0 1 3 w
theorem cells8 : cellsTo 1 0 2 3 1024 = [(1, 0), (2, 0), (1, 1), (2, 1), (1, 2), (2, 2), (1, 3), (2, 3)] := by decide +kernel
def Cells8 (W : World) (e : Ending) (w' : World) : Prop := ∃ g cap : Nat, e = .returned (.slice (some ⟨g, 0, none⟩) 8 cap) ∧ (w'.cell? ⟨g, 0, none⟩ = some (.int .i64 1) ∧ w'.cell? ⟨g, 1, none⟩ = some (.int .i64 0) ∧ w'.cell? ⟨g, 14, none⟩ = some (.int .i64 2) ∧ w'.cell? ⟨g, 15, none⟩ = some (.int .i64 3)) ∧ Below W.heap.size W w'
theorem a_cells (w : World) : Calls Tryd.prog 26 #[.agg #[.int .i64 1, .int .i64 0, .int .i64 2, .int .i64 3]] w (Cells8 w) :=
  (pcells_any 1 0 2 3 w).mono fun _ w' ⟨v, he, ho, hb⟩ => by
    rw [cells8] at ho
    obtain ⟨A, cap, rfl, hA⟩ := own_shape ho
    obtain ⟨g, rfl, _, hat⟩ := hA 0 (by simp)
    have q0 := hat 0 1 0 rfl
    have q7 := hat 7 2 3 rfl
    exact ⟨g, cap, he, ⟨q0.1, q0.2, q7.1, q7.2⟩, hb⟩
theorem a_index (w : World) : Calls Tryd.prog 15 #[.agg #[.int .i64 15, .int .i64 63]] w fun e w' => e = .returned (.int .i64 1023) ∧ Below w.heap.size w w' := pindex_any 15 63 w
theorem a_text1 (w : World) (hE : EnvI w) : Calls Tryd.prog 13 #[.agg #[.int .i64 0, .int .i64 2]] w fun e w' => e = .returned (.string ⟨#[65, 51]⟩) ∧ Below w.heap.size w w' :=
  (ptext_any 0 2 w hE).mono fun _ _ ⟨he, hb⟩ => ⟨he.trans (ret_str (by
    have e : placeText 0 2 = letter 0 :: Lib.itoa 3 := if_pos (by decide)
    rw [e, i3]; rfl)), hb⟩
theorem a_text2 (w : World) (hE : EnvI w) : Calls Tryd.prog 13 #[.agg #[.int .i64 2, .int .i64 0]] w fun e w' => e = .returned (.string ⟨#[67, 49]⟩) ∧ Below w.heap.size w w' :=
  (ptext_any 2 0 w hE).mono fun _ _ ⟨he, hb⟩ => ⟨he.trans (ret_str (by
    have e : placeText 2 0 = letter 2 :: Lib.itoa 1 := if_pos (by decide)
    rw [e, i1]; rfl)), hb⟩
theorem a_has (w : World) : Calls Tryd.prog 30 #[.agg #[.int .i64 1, .int .i64 0, .int .i64 2, .int .i64 3], .agg #[.int .i64 2, .int .i64 0]] w fun e w' => e = .returned (.bool true) ∧ Below w.heap.size w w' := phas_any 1 0 2 3 2 0 w

set_option maxHeartbeats 2000000 in
set_option maxRecDepth 100000 in
theorem alive_any (w : World) (hE : EnvI w) : Calls Tryd.prog 6 #[] w fun e w' => e = .returned (.bool true) ∧ Below w.heap.size w w' := by
  have HE := Lib.hid hE
  have hE1 := fun W => show _ = Result.ok (Value.bool true) W from eql_place 1 0 1 0 W
  have hG1 := fun op X Y W => guard_place op X Y #[.int .i64 1, .int .i64 0] #[.int .i64 1, .int .i64 0] W
  have hE2 := fun W => show _ = Result.ok (Value.bool true) W from eql_place 2 3 2 3 W
  have hG2 := fun op X Y W => guard_place op X Y #[.int .i64 2, .int .i64 3] #[.int .i64 2, .int .i64 3] W
  clear hE
  go_enter Tryd.func6, Tryd.ntmps6
  go_wp2_with fail
  refine (a_parse1 _).mono ?_; rintro e w1 ⟨rfl, b1⟩
  have B1 : Below w.heap.size w w1 := b1
  have h1 : Below w.heap.size w w1 := B1
  clear b1 B1
  go_wp2_with fail
  refine (a_parse2 _).mono ?_; rintro e w2 ⟨rfl, b2⟩
  have B2 : Below w1.heap.size w1 w2 := below_alloc (Below.refl _ _) b2
  have c2_p0 := keep_fresh b2 0 (v := .int .i64 15) rfl
  have c2_p1 := keep_fresh b2 1 (v := .int .i64 63) rfl
  have z2_p : w1.heap.size < w2.heap.size := Lib.lt_of_cell c2_p0
  have h2 := h1.trans (B2.mono h1.size)
  clear b2 B2 h1
  go_wp2_with fail
  refine (a_parse3 _).mono ?_; rintro e w3 ⟨rfl, b3⟩
  have B3 : Below w2.heap.size w2 w3 := below_alloc (Below.refl _ _) b3
  have c3_p0 := keep_cell B3 c2_p0
  have c3_p1 := keep_cell B3 c2_p1
  have c3_x0 := keep_fresh b3 0 (v := .int .i64 0) rfl
  have c3_x1 := keep_fresh b3 1 (v := .int .i64 0) rfl
  have z3_p : w1.heap.size < w3.heap.size := Lib.lt_of_cell c3_p0
  have z3_x : w2.heap.size < w3.heap.size := Lib.lt_of_cell c3_x0
  have h3 := h2.trans (B3.mono h2.size)
  clear b3 B3 h2
  go_wp2_with fail
  refine (a_move _).mono ?_; rintro e w4 ⟨rfl, b4⟩
  have B4 : Below w3.heap.size w3 w4 := below_alloc (Below.refl _ _) b4
  have c4_p0 := keep_cell B4 c3_p0
  have c4_p1 := keep_cell B4 c3_p1
  have c4_y0 := keep_fresh b4 0 (v := .int .i64 0) rfl
  have c4_y1 := keep_fresh b4 1 (v := .int .i64 0) rfl
  have z4_p : w1.heap.size < w4.heap.size := Lib.lt_of_cell c4_p0
  have z4_y : w3.heap.size < w4.heap.size := Lib.lt_of_cell c4_y0
  have h4 := h3.trans (B4.mono h3.size)
  clear b4 B4 h3
  clear c4_y0 c4_y1 z4_y
  go_wp2_with fail
  refine (a_mirror1 _).mono ?_; rintro e w5 ⟨rfl, b5⟩
  have B5 : Below w4.heap.size w4 w5 := below_alloc (Below.refl _ _) b5
  have c5_p0 := keep_cell B5 c4_p0
  have c5_p1 := keep_cell B5 c4_p1
  have c5_q0 := keep_fresh b5 0 (v := .int .i64 0) rfl
  have c5_q1 := keep_fresh b5 1 (v := .int .i64 2) rfl
  have z5_p : w1.heap.size < w5.heap.size := Lib.lt_of_cell c5_p0
  have z5_q : w4.heap.size < w5.heap.size := Lib.lt_of_cell c5_q0
  have h5 := h4.trans (B5.mono h4.size)
  clear b5 B5 h4
  go_wp2_with fail
  refine (a_mirror2 _).mono ?_; rintro e w6 ⟨rfl, b6⟩
  have B6 : Below w5.heap.size w5 w6 := below_alloc (Below.refl _ _) b6
  have c6_p0 := keep_cell B6 c5_p0
  have c6_p1 := keep_cell B6 c5_p1
  have c6_q0 := keep_cell B6 c5_q0
  have c6_q1 := keep_cell B6 c5_q1
  have c6_m0 := keep_fresh b6 0 (v := .int .i64 2) rfl
  have c6_m1 := keep_fresh b6 1 (v := .int .i64 0) rfl
  have z6_p : w1.heap.size < w6.heap.size := Lib.lt_of_cell c6_p0
  have z6_q : w4.heap.size < w6.heap.size := Lib.lt_of_cell c6_q0
  have z6_m : w5.heap.size < w6.heap.size := Lib.lt_of_cell c6_m0
  have h6 := h5.trans (B6.mono h5.size)
  clear b6 B6 h5
  go_wp2_with fail
  refine (a_span _).mono ?_; rintro e w7 ⟨rfl, b7⟩
  have B7 : Below w6.heap.size w6 w7 := below_alloc (Below.refl _ _) b7
  have c7_p0 := keep_cell B7 c6_p0
  have c7_p1 := keep_cell B7 c6_p1
  have c7_q0 := keep_cell B7 c6_q0
  have c7_q1 := keep_cell B7 c6_q1
  have c7_m0 := keep_cell B7 c6_m0
  have c7_m1 := keep_cell B7 c6_m1
  have c7_n0 := keep_fresh b7 0 (v := .int .i64 0) rfl
  have c7_n1 := keep_fresh b7 1 (v := .int .i64 0) rfl
  have z7_p : w1.heap.size < w7.heap.size := Lib.lt_of_cell c7_p0
  have z7_q : w4.heap.size < w7.heap.size := Lib.lt_of_cell c7_q0
  have z7_m : w5.heap.size < w7.heap.size := Lib.lt_of_cell c7_m0
  have z7_n : w6.heap.size < w7.heap.size := Lib.lt_of_cell c7_n0
  have h7 := h6.trans (B7.mono h6.size)
  clear b7 B7 h6
  clear c7_n0 c7_n1 z7_n
  go_wp2_with fail
  refine (a_cells _).mono ?_; rintro e w8 ⟨g, cap, rfl, ⟨l8_0, l8_1, l8_14, l8_15⟩, b8⟩
  have B8 : Below w7.heap.size w7 w8 := below_alloc (Below.refl _ _) b8
  have c8_p0 := keep_cell B8 c7_p0
  have c8_p1 := keep_cell B8 c7_p1
  have c8_q0 := keep_cell B8 c7_q0
  have c8_q1 := keep_cell B8 c7_q1
  have c8_m0 := keep_cell B8 c7_m0
  have c8_m1 := keep_cell B8 c7_m1
  have c8_r0 := keep_fresh b8 0 (v := .int .i64 1) rfl
  have c8_r1 := keep_fresh b8 1 (v := .int .i64 0) rfl
  have c8_r2 := keep_fresh b8 2 (v := .int .i64 2) rfl
  have c8_r3 := keep_fresh b8 3 (v := .int .i64 3) rfl
  have z8_p : w1.heap.size < w8.heap.size := Lib.lt_of_cell c8_p0
  have z8_q : w4.heap.size < w8.heap.size := Lib.lt_of_cell c8_q0
  have z8_m : w5.heap.size < w8.heap.size := Lib.lt_of_cell c8_m0
  have z8_r : w7.heap.size < w8.heap.size := Lib.lt_of_cell c8_r0
  have h8 := h7.trans (B8.mono h7.size)
  clear b8 B8 h7
  have HEk := Lib.hid (HE.out.below h8)
  go_wp2_with fail
  refine (a_index _).mono ?_; rintro e w9 ⟨rfl, b9⟩
  have B9 : Below w8.heap.size w8 w9 := b9
  have c9_p0 := keep_cell B9 c8_p0
  have c9_p1 := keep_cell B9 c8_p1
  have c9_q0 := keep_cell B9 c8_q0
  have c9_q1 := keep_cell B9 c8_q1
  have c9_m0 := keep_cell B9 c8_m0
  have c9_m1 := keep_cell B9 c8_m1
  have c9_r0 := keep_cell B9 c8_r0
  have c9_r1 := keep_cell B9 c8_r1
  have c9_r2 := keep_cell B9 c8_r2
  have c9_r3 := keep_cell B9 c8_r3
  have z9_p : w1.heap.size < w9.heap.size := Lib.lt_of_cell c9_p0
  have z9_q : w4.heap.size < w9.heap.size := Lib.lt_of_cell c9_q0
  have z9_m : w5.heap.size < w9.heap.size := Lib.lt_of_cell c9_m0
  have z9_r : w7.heap.size < w9.heap.size := Lib.lt_of_cell c9_r0
  have h9 := h8.trans (B9.mono h8.size)
  have l9_0 := keep_cell B9 l8_0
  have l9_1 := keep_cell B9 l8_1
  have l9_14 := keep_cell B9 l8_14
  have l9_15 := keep_cell B9 l8_15
  have HE9 := Lib.hid (HE.out.below h9)
  clear b9 B9 h8
  clear c9_p0 c9_p1 z9_p
  go_wp2_with fail
  refine (a_text1 _ HE9.out).mono ?_; rintro e w10 ⟨rfl, b10⟩
  have B10 : Below w9.heap.size w9 w10 := b10
  have c10_q0 := keep_cell B10 c9_q0
  have c10_q1 := keep_cell B10 c9_q1
  have c10_m0 := keep_cell B10 c9_m0
  have c10_m1 := keep_cell B10 c9_m1
  have c10_r0 := keep_cell B10 c9_r0
  have c10_r1 := keep_cell B10 c9_r1
  have c10_r2 := keep_cell B10 c9_r2
  have c10_r3 := keep_cell B10 c9_r3
  have z10_q : w4.heap.size < w10.heap.size := Lib.lt_of_cell c10_q0
  have z10_m : w5.heap.size < w10.heap.size := Lib.lt_of_cell c10_m0
  have z10_r : w7.heap.size < w10.heap.size := Lib.lt_of_cell c10_r0
  have h10 := h9.trans (B10.mono h9.size)
  have l10_0 := keep_cell B10 l9_0
  have l10_1 := keep_cell B10 l9_1
  have l10_14 := keep_cell B10 l9_14
  have l10_15 := keep_cell B10 l9_15
  have HE10 := Lib.hid (HE.out.below h10)
  clear b10 B10 h9
  clear c10_q0 c10_q1 z10_q
  go_wp2_with fail
  refine (a_text2 _ HE10.out).mono ?_; rintro e w11 ⟨rfl, b11⟩
  have B11 : Below w10.heap.size w10 w11 := b11
  have c11_m0 := keep_cell B11 c10_m0
  have c11_m1 := keep_cell B11 c10_m1
  have c11_r0 := keep_cell B11 c10_r0
  have c11_r1 := keep_cell B11 c10_r1
  have c11_r2 := keep_cell B11 c10_r2
  have c11_r3 := keep_cell B11 c10_r3
  have z11_m : w5.heap.size < w11.heap.size := Lib.lt_of_cell c11_m0
  have z11_r : w7.heap.size < w11.heap.size := Lib.lt_of_cell c11_r0
  have h11 := h10.trans (B11.mono h10.size)
  have l11_0 := keep_cell B11 l10_0
  have l11_1 := keep_cell B11 l10_1
  have l11_14 := keep_cell B11 l10_14
  have l11_15 := keep_cell B11 l10_15
  have HE11 := Lib.hid (HE.out.below h11)
  clear b11 B11 h10
  go_wp2_with fail
  refine (a_has _).mono ?_; rintro e w12 ⟨rfl, b12⟩
  have B12 : Below w11.heap.size w11 w12 := b12
  have c12_m0 := keep_cell B12 c11_m0
  have c12_m1 := keep_cell B12 c11_m1
  have c12_r0 := keep_cell B12 c11_r0
  have c12_r1 := keep_cell B12 c11_r1
  have c12_r2 := keep_cell B12 c11_r2
  have c12_r3 := keep_cell B12 c11_r3
  have z12_m : w5.heap.size < w12.heap.size := Lib.lt_of_cell c12_m0
  have z12_r : w7.heap.size < w12.heap.size := Lib.lt_of_cell c12_r0
  have h12 := h11.trans (B12.mono h11.size)
  go_wp2_with fail
  go_ret
  exact ⟨rfl, h12⟩
end Go.Proofs.YtmophlfpoehopaaDoor
