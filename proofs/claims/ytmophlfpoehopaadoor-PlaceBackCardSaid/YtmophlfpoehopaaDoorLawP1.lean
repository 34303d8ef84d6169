/- The walk of the statement that holds places, their texts, indexes and moves against the document's own answers. -/
import Derived.Test.YtmophlfpoehopaaDoorPlK
import Derived.Test.YtmophlfpoehopaaDoorPlC
import Derived.Test.YtmophlfpoehopaaDoorRefF
import Derived.Test.YtmophlfpoehopaaDoorRefE
namespace Go.Proofs.YtmophlfpoehopaaDoor
open Go.RowKit

theorem neq_self (x y : Int) (W : World) : (binOp .neq 23 (.agg #[.int .i64 x, .int .i64 y]) (.agg #[.int .i64 x, .int .i64 y])).run Tryd.prog W = .ok (.bool false) W := by
  rw [neq_place]; simp
theorem eql_self (x y : Int) (W : World) : (binOp .eql 23 (.agg #[.int .i64 x, .int .i64 y]) (.agg #[.int .i64 x, .int .i64 y])).run Tryd.prog W = .ok (.bool true) W := by
  rw [eql_place]; simp

set_option maxHeartbeats 400000 in
theorem ptells_long (c r x y : Int) (s : ByteArray) (w : World) (hl : 300 < s.size) (hs : s.size ≤ 9223372036854775807) (hE : EnvI w) :
    Calls Tryd.prog 3 #[.agg #[.int .i64 c, .int .i64 r], .agg #[.int .i64 x, .int .i64 y], .string s] w fun e w' => e = .returned (.bool true) ∧ Below w.heap.size w w' := by
  have HE := Lib.hid hE
  have d0 : decide ((300 : Int) < (s.size : Int)) = true := decide_eq_true (by omega)
  clear hE hl
  go_enter Tryd.func3, Tryd.ntmps3
  go_wp2_with fail
  have h0 := (((Below.refl w.heap.size w).alloc (Nat.le_refl _) (.cells #[.int .i64 c, .int .i64 r] 23)).alloc (by simp) (.cells #[.int .i64 x, .int .i64 y] 23))
  have HE0 := Lib.hid (HE.out.below h0)
  refine (alive_any _ HE0.out).mono ?_; rintro e w1 ⟨rfl, b1⟩
  go_wp2_with fail
  go_ret
  exact ⟨rfl, h0.trans (b1.mono h0.size)⟩

set_option maxHeartbeats 4000000 in
set_option maxRecDepth 100000 in
theorem ptells_short (c r x y : Int) (s : ByteArray) (w : World) (hl : s.size ≤ 300) (hx : -9223372036854775808 ≤ x ∧ x ≤ 9223372036854775807) (hy : -9223372036854775808 ≤ y ∧ y ≤ 9223372036854775807) (hE : EnvI w) :
    Calls Tryd.prog 3 #[.agg #[.int .i64 c, .int .i64 r], .agg #[.int .i64 x, .int .i64 y], .string s] w fun e w' => e = .returned (.bool true) ∧ Below w.heap.size w w' := by
  have HE := Lib.hid hE
  have H1 := Lib.hid (pparse_any s (by omega))
  have H2 := Lib.hid (rparse2_any s (by omega))
  have H3 := Lib.hid (pat_any x)
  have H4 := Lib.hid (rat_any x)
  have H5 := Lib.hid (pright_any c r)
  have H6 := Lib.hid (rright_any c r)
  have H7 := Lib.hid (ptext_any c r)
  have H8 := Lib.hid (rtext2_any c r)
  have H9 := Lib.hid (pindex_any c r)
  have H10 := Lib.hid (rindex_any c r)
  have H11 := Lib.hid (fun w => pmove_any c r x y w hx hy)
  have H12 := Lib.hid (rmove_any c r x y)
  have H13 := Lib.hid (pmirror_any c r)
  have H14 := Lib.hid (rmirror_any c r)
  have d0 : decide ((300 : Int) < (s.size : Int)) = false := decide_eq_false (by omega)
  clear hE hl hx hy
  generalize prC s.data.toList = PC at *
  generalize prR s.data.toList = PR at *
  generalize prE s.data.toList = PE at *
  generalize atC x = AC at *
  generalize atR x = AR at *
  generalize idxB x = AB at *
  generalize rightB c r = RB at *
  generalize placeText c r = TX at *
  generalize idxN c r = IN at *
  generalize mvC c r x y = MC at *
  generalize mvR c r x y = MR at *
  generalize mvB c r x y = MB at *
  generalize mirC c r = NC at *
  generalize mirR c r = NR at *
  generalize mirB c r = NB at *
  have hN1 := neq_self PC PR
  have hG1 := fun op X Y W => guard_place op X Y #[.int .i64 PC, .int .i64 PR] #[.int .i64 PC, .int .i64 PR] W
  have hN2 := neq_self AC AR
  have hG2 := fun op X Y W => guard_place op X Y #[.int .i64 AC, .int .i64 AR] #[.int .i64 AC, .int .i64 AR] W
  have hN3 := eql_self MC MR
  have hG3 := fun op X Y W => guard_place op X Y #[.int .i64 MC, .int .i64 MR] #[.int .i64 MC, .int .i64 MR] W
  have hN4 := eql_self NC NR
  have hG4 := fun op X Y W => guard_place op X Y #[.int .i64 NC, .int .i64 NR] #[.int .i64 NC, .int .i64 NR] W
  go_enter Tryd.func3, Tryd.ntmps3
  go_wp2_with fail
  have h0 := (((Below.refl w.heap.size w).alloc (Nat.le_refl _) (.cells #[.int .i64 c, .int .i64 r] 23)).alloc (by simp) (.cells #[.int .i64 x, .int .i64 y] 23))
  have c0_p0 : ((w.alloc (.cells #[.int .i64 c, .int .i64 r] 23)).alloc (.cells #[.int .i64 x, .int .i64 y] 23)).cell? ⟨w.heap.size, 0, none⟩ = some (.int .i64 c) := by simp [go_sem]
  have c0_p1 : ((w.alloc (.cells #[.int .i64 c, .int .i64 r] 23)).alloc (.cells #[.int .i64 x, .int .i64 y] 23)).cell? ⟨w.heap.size, 1, none⟩ = some (.int .i64 r) := by simp [go_sem]
  have z0_p : w.heap.size < ((w.alloc (.cells #[.int .i64 c, .int .i64 r] 23)).alloc (.cells #[.int .i64 x, .int .i64 y] 23)).heap.size := Lib.lt_of_cell c0_p0
  have c0_v0 : ((w.alloc (.cells #[.int .i64 c, .int .i64 r] 23)).alloc (.cells #[.int .i64 x, .int .i64 y] 23)).cell? ⟨w.heap.size + 1, 0, none⟩ = some (.int .i64 x) := by simp [go_sem]
  have c0_v1 : ((w.alloc (.cells #[.int .i64 c, .int .i64 r] 23)).alloc (.cells #[.int .i64 x, .int .i64 y] 23)).cell? ⟨w.heap.size + 1, 1, none⟩ = some (.int .i64 y) := by simp [go_sem]
  have z0_v : w.heap.size + 1 < ((w.alloc (.cells #[.int .i64 c, .int .i64 r] 23)).alloc (.cells #[.int .i64 x, .int .i64 y] 23)).heap.size := Lib.lt_of_cell c0_v0
  generalize (w.alloc (.cells #[.int .i64 c, .int .i64 r] 23)).alloc (.cells #[.int .i64 x, .int .i64 y] 23) = w0 at *
  refine (H1.out _).mono ?_; rintro e w1 ⟨rfl, b1⟩
  have B1 : Below w0.heap.size w0 w1 := b1
  have c1_p0 := keep_cell B1 c0_p0
  have c1_p1 := keep_cell B1 c0_p1
  have c1_v0 := keep_cell B1 c0_v0
  have c1_v1 := keep_cell B1 c0_v1
  have z1_p : w.heap.size < w1.heap.size := Lib.lt_of_cell c1_p0
  have z1_v : w.heap.size + 1 < w1.heap.size := Lib.lt_of_cell c1_v0
  have h1 := h0.trans (B1.mono h0.size)
  clear b1 B1 h0
  go_wp2_with fail
  refine (H2.out _).mono ?_; rintro e w2 ⟨rfl, b2⟩
  have B2 : Below w1.heap.size w1 w2 := below_alloc (Below.refl _ _) b2
  have c2_p0 := keep_cell B2 c1_p0
  have c2_p1 := keep_cell B2 c1_p1
  have c2_v0 := keep_cell B2 c1_v0
  have c2_v1 := keep_cell B2 c1_v1
  have c2_a0 := keep_fresh b2 0 (v := .int .i64 PC) rfl
  have c2_a1 := keep_fresh b2 1 (v := .int .i64 PR) rfl
  have z2_p : w.heap.size < w2.heap.size := Lib.lt_of_cell c2_p0
  have z2_v : w.heap.size + 1 < w2.heap.size := Lib.lt_of_cell c2_v0
  have z2_a : w1.heap.size < w2.heap.size := Lib.lt_of_cell c2_a0
  have h2 := h1.trans (B2.mono h1.size)
  clear b2 B2 h1
  go_wp2_with fail
  refine (H3.out _).mono ?_; rintro e w3 ⟨rfl, b3⟩
  have B3 : Below w2.heap.size w2 w3 := below_alloc (Below.refl _ _) b3
  have c3_p0 := keep_cell B3 c2_p0
  have c3_p1 := keep_cell B3 c2_p1
  have c3_v0 := keep_cell B3 c2_v0
  have c3_v1 := keep_cell B3 c2_v1
  have c3_a0 := keep_cell B3 c2_a0
  have c3_a1 := keep_cell B3 c2_a1
  have c3_b0 := keep_fresh b3 0 (v := .int .i64 PC) rfl
  have c3_b1 := keep_fresh b3 1 (v := .int .i64 PR) rfl
  have z3_p : w.heap.size < w3.heap.size := Lib.lt_of_cell c3_p0
  have z3_v : w.heap.size + 1 < w3.heap.size := Lib.lt_of_cell c3_v0
  have z3_a : w1.heap.size < w3.heap.size := Lib.lt_of_cell c3_a0
  have z3_b : w2.heap.size < w3.heap.size := Lib.lt_of_cell c3_b0
  have h3 := h2.trans (B3.mono h2.size)
  clear b3 B3 h2
  go_wp2_with fail
  refine (H4.out _).mono ?_; rintro e w4 ⟨rfl, b4⟩
  have B4 : Below w3.heap.size w3 w4 := below_alloc (Below.refl _ _) b4
  have c4_p0 := keep_cell B4 c3_p0
  have c4_p1 := keep_cell B4 c3_p1
  have c4_v0 := keep_cell B4 c3_v0
  have c4_v1 := keep_cell B4 c3_v1
  have c4_a0 := keep_cell B4 c3_a0
  have c4_a1 := keep_cell B4 c3_a1
  have c4_b0 := keep_cell B4 c3_b0
  have c4_b1 := keep_cell B4 c3_b1
  have c4_c0 := keep_fresh b4 0 (v := .int .i64 AC) rfl
  have c4_c1 := keep_fresh b4 1 (v := .int .i64 AR) rfl
  have z4_p : w.heap.size < w4.heap.size := Lib.lt_of_cell c4_p0
  have z4_v : w.heap.size + 1 < w4.heap.size := Lib.lt_of_cell c4_v0
  have z4_a : w1.heap.size < w4.heap.size := Lib.lt_of_cell c4_a0
  have z4_b : w2.heap.size < w4.heap.size := Lib.lt_of_cell c4_b0
  have z4_c : w3.heap.size < w4.heap.size := Lib.lt_of_cell c4_c0
  have h4 := h3.trans (B4.mono h3.size)
  clear b4 B4 h3
  go_wp2_with fail
  have B5 : Below w4.heap.size w4 (w4.alloc (.cells #[.int .i64 AC, .int .i64 AR] 23)) := (Below.refl _ _).alloc (Nat.le_refl _) _
  have c5_p0 := keep_cell B5 c4_p0
  have c5_p1 := keep_cell B5 c4_p1
  have c5_v0 := keep_cell B5 c4_v0
  have c5_v1 := keep_cell B5 c4_v1
  have c5_a0 := keep_cell B5 c4_a0
  have c5_a1 := keep_cell B5 c4_a1
  have c5_b0 := keep_cell B5 c4_b0
  have c5_b1 := keep_cell B5 c4_b1
  have c5_c0 := keep_cell B5 c4_c0
  have c5_c1 := keep_cell B5 c4_c1
  have c5_d0 : (w4.alloc (.cells #[.int .i64 AC, .int .i64 AR] 23)).cell? ⟨w4.heap.size, 0, none⟩ = some (.int .i64 AC) := by simp [go_sem]
  have c5_d1 : (w4.alloc (.cells #[.int .i64 AC, .int .i64 AR] 23)).cell? ⟨w4.heap.size, 1, none⟩ = some (.int .i64 AR) := by simp [go_sem]
  have z5_p : w.heap.size < (w4.alloc (.cells #[.int .i64 AC, .int .i64 AR] 23)).heap.size := Lib.lt_of_cell c5_p0
  have z5_v : w.heap.size + 1 < (w4.alloc (.cells #[.int .i64 AC, .int .i64 AR] 23)).heap.size := Lib.lt_of_cell c5_v0
  have z5_a : w1.heap.size < (w4.alloc (.cells #[.int .i64 AC, .int .i64 AR] 23)).heap.size := Lib.lt_of_cell c5_a0
  have z5_b : w2.heap.size < (w4.alloc (.cells #[.int .i64 AC, .int .i64 AR] 23)).heap.size := Lib.lt_of_cell c5_b0
  have z5_c : w3.heap.size < (w4.alloc (.cells #[.int .i64 AC, .int .i64 AR] 23)).heap.size := Lib.lt_of_cell c5_c0
  have z5_d : w4.heap.size < (w4.alloc (.cells #[.int .i64 AC, .int .i64 AR] 23)).heap.size := Lib.lt_of_cell c5_d0
  have h5 := h4.trans (B5.mono h4.size)
  clear B5 h4
  generalize w4.alloc (.cells #[.int .i64 AC, .int .i64 AR] 23) = w5 at *
  have HEa := Lib.hid (HE.out.below h5)
  go_region_held3 (fun w' => w'.cell? ⟨w.heap.size, 0, none⟩ = some (.int .i64 c) ∧ w'.cell? ⟨w.heap.size, 1, none⟩ = some (.int .i64 r) ∧ w'.cell? ⟨w1.heap.size, 0, none⟩ = some (.int .i64 PC) ∧ w'.cell? ⟨w1.heap.size, 1, none⟩ = some (.int .i64 PR) ∧ w'.cell? ⟨w2.heap.size, 0, none⟩ = some (.int .i64 PC) ∧ w'.cell? ⟨w2.heap.size, 1, none⟩ = some (.int .i64 PR) ∧ w'.cell? ⟨w3.heap.size, 0, none⟩ = some (.int .i64 AC) ∧ w'.cell? ⟨w3.heap.size, 1, none⟩ = some (.int .i64 AR) ∧ w'.cell? ⟨w4.heap.size, 0, none⟩ = some (.int .i64 AC) ∧ w'.cell? ⟨w4.heap.size, 1, none⟩ = some (.int .i64 AR))
    (first | (simp only [World.cell?_drew]; with_reducible exact ⟨c5_p0, c5_p1, c5_a0, c5_a1, c5_b0, c5_b1, c5_c0, c5_c1, c5_d0, c5_d1⟩) | with_reducible exact ⟨c6_p0, c6_p1, c6_a0, c6_a1, c6_b0, c6_b1, c6_c0, c6_c1, c6_d0, c6_d1⟩ | with_reducible exact ⟨c7_p0, c7_p1, c7_a0, c7_a1, c7_b0, c7_b1, c7_c0, c7_c1, c7_d0, c7_d1⟩ | with_reducible exact ⟨c8_p0, c8_p1, c8_a0, c8_a1, c8_b0, c8_b1, c8_c0, c8_c1, c8_d0, c8_d1⟩ | with_reducible exact ⟨c9_p0, c9_p1, c9_a0, c9_a1, c9_b0, c9_b1, c9_c0, c9_c1, c9_d0, c9_d1⟩ | with_reducible exact ⟨c10_p0, c10_p1, c10_a0, c10_a1, c10_b0, c10_b1, c10_c0, c10_c1, c10_d0, c10_d1⟩ | with_reducible exact ⟨c11_p0, c11_p1, c11_a0, c11_a1, c11_b0, c11_b1, c11_c0, c11_c1, c11_d0, c11_d1⟩ | fail)
    (first
    | (go_at_call 11; refine (H5.out _).mono ?_; rintro e w6 ⟨rfl, b6⟩
       have B6 : Below w5.heap.size w5 w6 := (Below.refl _ w5).drew.trans b6
       have c6_p0 := keep_cell B6 c5_p0
       have c6_p1 := keep_cell B6 c5_p1
       have c6_v0 := keep_cell B6 c5_v0
       have c6_v1 := keep_cell B6 c5_v1
       have c6_a0 := keep_cell B6 c5_a0
       have c6_a1 := keep_cell B6 c5_a1
       have c6_b0 := keep_cell B6 c5_b0
       have c6_b1 := keep_cell B6 c5_b1
       have c6_c0 := keep_cell B6 c5_c0
       have c6_c1 := keep_cell B6 c5_c1
       have c6_d0 := keep_cell B6 c5_d0
       have c6_d1 := keep_cell B6 c5_d1
       have h6 := h5.trans (B6.mono h5.size))
    | (go_at_call 12; refine (H6.out _).mono ?_; rintro e w7 ⟨rfl, b7⟩
       have B7 : Below w6.heap.size w6 w7 := b7
       have c7_p0 := keep_cell B7 c6_p0
       have c7_p1 := keep_cell B7 c6_p1
       have c7_v0 := keep_cell B7 c6_v0
       have c7_v1 := keep_cell B7 c6_v1
       have c7_a0 := keep_cell B7 c6_a0
       have c7_a1 := keep_cell B7 c6_a1
       have c7_b0 := keep_cell B7 c6_b0
       have c7_b1 := keep_cell B7 c6_b1
       have c7_c0 := keep_cell B7 c6_c0
       have c7_c1 := keep_cell B7 c6_c1
       have c7_d0 := keep_cell B7 c6_d0
       have c7_d1 := keep_cell B7 c6_d1
       have HEb := Lib.hid (HEa.out.below (B6.trans (B7.mono B6.size)))
       have h7 := h6.trans (B7.mono h6.size))
    | (go_at_call 13; refine (H7.out _ HEb.out).mono ?_; rintro e w8 ⟨rfl, b8⟩
       have B8 : Below w7.heap.size w7 w8 := b8
       have c8_p0 := keep_cell B8 c7_p0
       have c8_p1 := keep_cell B8 c7_p1
       have c8_v0 := keep_cell B8 c7_v0
       have c8_v1 := keep_cell B8 c7_v1
       have c8_a0 := keep_cell B8 c7_a0
       have c8_a1 := keep_cell B8 c7_a1
       have c8_b0 := keep_cell B8 c7_b0
       have c8_b1 := keep_cell B8 c7_b1
       have c8_c0 := keep_cell B8 c7_c0
       have c8_c1 := keep_cell B8 c7_c1
       have c8_d0 := keep_cell B8 c7_d0
       have c8_d1 := keep_cell B8 c7_d1
       have h8 := h7.trans (B8.mono h7.size))
    | (go_at_call 14; refine (H8.out _).mono ?_; rintro e w9 ⟨rfl, b9⟩
       have B9 : Below w8.heap.size w8 w9 := b9
       have c9_p0 := keep_cell B9 c8_p0
       have c9_p1 := keep_cell B9 c8_p1
       have c9_v0 := keep_cell B9 c8_v0
       have c9_v1 := keep_cell B9 c8_v1
       have c9_a0 := keep_cell B9 c8_a0
       have c9_a1 := keep_cell B9 c8_a1
       have c9_b0 := keep_cell B9 c8_b0
       have c9_b1 := keep_cell B9 c8_b1
       have c9_c0 := keep_cell B9 c8_c0
       have c9_c1 := keep_cell B9 c8_c1
       have c9_d0 := keep_cell B9 c8_d0
       have c9_d1 := keep_cell B9 c8_d1
       have h9 := h8.trans (B9.mono h8.size))
    | (go_at_call 15; refine (H9.out _).mono ?_; rintro e w10 ⟨rfl, b10⟩
       have B10 : Below w9.heap.size w9 w10 := b10
       have c10_p0 := keep_cell B10 c9_p0
       have c10_p1 := keep_cell B10 c9_p1
       have c10_v0 := keep_cell B10 c9_v0
       have c10_v1 := keep_cell B10 c9_v1
       have c10_a0 := keep_cell B10 c9_a0
       have c10_a1 := keep_cell B10 c9_a1
       have c10_b0 := keep_cell B10 c9_b0
       have c10_b1 := keep_cell B10 c9_b1
       have c10_c0 := keep_cell B10 c9_c0
       have c10_c1 := keep_cell B10 c9_c1
       have c10_d0 := keep_cell B10 c9_d0
       have c10_d1 := keep_cell B10 c9_d1
       have h10 := h9.trans (B10.mono h9.size))
    | (go_at_call 16; refine (H10.out _).mono ?_; rintro e w11 ⟨rfl, b11⟩
       have B11 : Below w10.heap.size w10 w11 := b11
       have c11_p0 := keep_cell B11 c10_p0
       have c11_p1 := keep_cell B11 c10_p1
       have c11_v0 := keep_cell B11 c10_v0
       have c11_v1 := keep_cell B11 c10_v1
       have c11_a0 := keep_cell B11 c10_a0
       have c11_a1 := keep_cell B11 c10_a1
       have c11_b0 := keep_cell B11 c10_b0
       have c11_b1 := keep_cell B11 c10_b1
       have c11_c0 := keep_cell B11 c10_c0
       have c11_c1 := keep_cell B11 c10_c1
       have c11_d0 := keep_cell B11 c10_d0
       have c11_d1 := keep_cell B11 c10_d1
       have h11 := h10.trans (B11.mono h10.size)))
  have z11_p : w.heap.size < w11.heap.size := Lib.lt_of_cell c11_p0
  have z11_v : w.heap.size + 1 < w11.heap.size := Lib.lt_of_cell c11_v0
  have z11_a : w1.heap.size < w11.heap.size := Lib.lt_of_cell c11_a0
  have z11_b : w2.heap.size < w11.heap.size := Lib.lt_of_cell c11_b0
  have z11_c : w3.heap.size < w11.heap.size := Lib.lt_of_cell c11_c0
  have z11_d : w4.heap.size < w11.heap.size := Lib.lt_of_cell c11_d0
  clear c5_p0 c5_p1 c5_v0 c5_v1 c5_a0 c5_a1 c5_b0 c5_b1 c5_c0 c5_c1 c5_d0 c5_d1 c6_p0 c6_p1 c6_v0 c6_v1 c6_a0 c6_a1 c6_b0 c6_b1 c6_c0 c6_c1 c6_d0 c6_d1 c7_p0 c7_p1 c7_v0 c7_v1 c7_a0 c7_a1 c7_b0 c7_b1 c7_c0 c7_c1 c7_d0 c7_d1 c8_p0 c8_p1 c8_v0 c8_v1 c8_a0 c8_a1 c8_b0 c8_b1 c8_c0 c8_c1 c8_d0 c8_d1 c9_p0 c9_p1 c9_v0 c9_v1 c9_a0 c9_a1 c9_b0 c9_b1 c9_c0 c9_c1 c9_d0 c9_d1 c10_p0 c10_p1 c10_v0 c10_v1 c10_a0 c10_a1 c10_b0 c10_b1 c10_c0 c10_c1 c10_d0 c10_d1 z5_p z5_v z5_a z5_b z5_c z5_d h5 h6 h7 h8 h9 h10 b6 b7 b8 b9 b10 b11 B6 B7 B8 B9 B10 B11
  clear c11_a0 c11_a1 z11_a
  clear c11_b0 c11_b1 z11_b
  clear c11_c0 c11_c1 z11_c
  clear c11_d0 c11_d1 z11_d
  go_wp2_with fail
  refine (H11.out _).mono ?_; rintro e w12 ⟨rfl, b12⟩
  have B12 : Below w11.heap.size w11 w12 := b12
  have c12_p0 := keep_cell B12 c11_p0
  have c12_p1 := keep_cell B12 c11_p1
  have c12_v0 := keep_cell B12 c11_v0
  have c12_v1 := keep_cell B12 c11_v1
  have z12_p : w.heap.size < w12.heap.size := Lib.lt_of_cell c12_p0
  have z12_v : w.heap.size + 1 < w12.heap.size := Lib.lt_of_cell c12_v0
  have h12 := h11.trans (B12.mono h11.size)
  clear b12 B12 h11
  go_wp2_with fail
  refine (H12.out _).mono ?_; rintro e w13 ⟨rfl, b13⟩
  have B13 : Below w12.heap.size w12 w13 := below_alloc (Below.refl _ _) b13
  have c13_p0 := keep_cell B13 c12_p0
  have c13_p1 := keep_cell B13 c12_p1
  have c13_v0 := keep_cell B13 c12_v0
  have c13_v1 := keep_cell B13 c12_v1
  have c13_m0 := keep_fresh b13 0 (v := .int .i64 MC) rfl
  have c13_m1 := keep_fresh b13 1 (v := .int .i64 MR) rfl
  have z13_p : w.heap.size < w13.heap.size := Lib.lt_of_cell c13_p0
  have z13_v : w.heap.size + 1 < w13.heap.size := Lib.lt_of_cell c13_v0
  have z13_m : w12.heap.size < w13.heap.size := Lib.lt_of_cell c13_m0
  have h13 := h12.trans (B13.mono h12.size)
  clear b13 B13 h12
  go_wp2_with fail
  refine (H13.out _).mono ?_; rintro e w14 ⟨rfl, b14⟩
  have B14 : Below w13.heap.size w13 w14 := below_alloc (Below.refl _ _) b14
  have c14_p0 := keep_cell B14 c13_p0
  have c14_p1 := keep_cell B14 c13_p1
  have c14_v0 := keep_cell B14 c13_v0
  have c14_v1 := keep_cell B14 c13_v1
  have c14_m0 := keep_cell B14 c13_m0
  have c14_m1 := keep_cell B14 c13_m1
  have c14_n0 := keep_fresh b14 0 (v := .int .i64 MC) rfl
  have c14_n1 := keep_fresh b14 1 (v := .int .i64 MR) rfl
  have z14_p : w.heap.size < w14.heap.size := Lib.lt_of_cell c14_p0
  have z14_v : w.heap.size + 1 < w14.heap.size := Lib.lt_of_cell c14_v0
  have z14_m : w12.heap.size < w14.heap.size := Lib.lt_of_cell c14_m0
  have z14_n : w13.heap.size < w14.heap.size := Lib.lt_of_cell c14_n0
  have h14 := h13.trans (B14.mono h13.size)
  clear b14 B14 h13
  go_wp2_with fail
  refine (H14.out _).mono ?_; rintro e w15 ⟨rfl, b15⟩
  have B15 : Below w14.heap.size w14 w15 := below_alloc (Below.refl _ _) b15
  have c15_p0 := keep_cell B15 c14_p0
  have c15_p1 := keep_cell B15 c14_p1
  have c15_v0 := keep_cell B15 c14_v0
  have c15_v1 := keep_cell B15 c14_v1
  have c15_m0 := keep_cell B15 c14_m0
  have c15_m1 := keep_cell B15 c14_m1
  have c15_n0 := keep_cell B15 c14_n0
  have c15_n1 := keep_cell B15 c14_n1
  have c15_x0 := keep_fresh b15 0 (v := .int .i64 NC) rfl
  have c15_x1 := keep_fresh b15 1 (v := .int .i64 NR) rfl
  have z15_p : w.heap.size < w15.heap.size := Lib.lt_of_cell c15_p0
  have z15_v : w.heap.size + 1 < w15.heap.size := Lib.lt_of_cell c15_v0
  have z15_m : w12.heap.size < w15.heap.size := Lib.lt_of_cell c15_m0
  have z15_n : w13.heap.size < w15.heap.size := Lib.lt_of_cell c15_n0
  have z15_x : w14.heap.size < w15.heap.size := Lib.lt_of_cell c15_x0
  have h15 := h14.trans (B15.mono h14.size)
  clear b15 B15 h14
  go_wp2_with fail
  have B16 : Below w15.heap.size w15 (w15.alloc (.cells #[.int .i64 NC, .int .i64 NR] 23)) := (Below.refl _ _).alloc (Nat.le_refl _) _
  have c16_p0 := keep_cell B16 c15_p0
  have c16_p1 := keep_cell B16 c15_p1
  have c16_v0 := keep_cell B16 c15_v0
  have c16_v1 := keep_cell B16 c15_v1
  have c16_m0 := keep_cell B16 c15_m0
  have c16_m1 := keep_cell B16 c15_m1
  have c16_n0 := keep_cell B16 c15_n0
  have c16_n1 := keep_cell B16 c15_n1
  have c16_x0 := keep_cell B16 c15_x0
  have c16_x1 := keep_cell B16 c15_x1
  have c16_y0 : (w15.alloc (.cells #[.int .i64 NC, .int .i64 NR] 23)).cell? ⟨w15.heap.size, 0, none⟩ = some (.int .i64 NC) := by simp [go_sem]
  have c16_y1 : (w15.alloc (.cells #[.int .i64 NC, .int .i64 NR] 23)).cell? ⟨w15.heap.size, 1, none⟩ = some (.int .i64 NR) := by simp [go_sem]
  have z16_p : w.heap.size < (w15.alloc (.cells #[.int .i64 NC, .int .i64 NR] 23)).heap.size := Lib.lt_of_cell c16_p0
  have z16_v : w.heap.size + 1 < (w15.alloc (.cells #[.int .i64 NC, .int .i64 NR] 23)).heap.size := Lib.lt_of_cell c16_v0
  have z16_m : w12.heap.size < (w15.alloc (.cells #[.int .i64 NC, .int .i64 NR] 23)).heap.size := Lib.lt_of_cell c16_m0
  have z16_n : w13.heap.size < (w15.alloc (.cells #[.int .i64 NC, .int .i64 NR] 23)).heap.size := Lib.lt_of_cell c16_n0
  have z16_x : w14.heap.size < (w15.alloc (.cells #[.int .i64 NC, .int .i64 NR] 23)).heap.size := Lib.lt_of_cell c16_x0
  have z16_y : w15.heap.size < (w15.alloc (.cells #[.int .i64 NC, .int .i64 NR] 23)).heap.size := Lib.lt_of_cell c16_y0
  have h16 := h15.trans (B16.mono h15.size)
  clear B16 h15
  generalize w15.alloc (.cells #[.int .i64 NC, .int .i64 NR] 23) = w16 at *
  have HEz := Lib.hid (HE.out.below h16)
  refine (alive_any _ HEz.out).mono ?_; rintro e w17 ⟨rfl, b17⟩
  have B17 : Below w16.heap.size w16 w17 := b17
  have c17_p0 := keep_cell B17 c16_p0
  have c17_p1 := keep_cell B17 c16_p1
  have c17_v0 := keep_cell B17 c16_v0
  have c17_v1 := keep_cell B17 c16_v1
  have c17_m0 := keep_cell B17 c16_m0
  have c17_m1 := keep_cell B17 c16_m1
  have c17_n0 := keep_cell B17 c16_n0
  have c17_n1 := keep_cell B17 c16_n1
  have c17_x0 := keep_cell B17 c16_x0
  have c17_x1 := keep_cell B17 c16_x1
  have c17_y0 := keep_cell B17 c16_y0
  have c17_y1 := keep_cell B17 c16_y1
  have z17_p : w.heap.size < w17.heap.size := Lib.lt_of_cell c17_p0
  have z17_v : w.heap.size + 1 < w17.heap.size := Lib.lt_of_cell c17_v0
  have z17_m : w12.heap.size < w17.heap.size := Lib.lt_of_cell c17_m0
  have z17_n : w13.heap.size < w17.heap.size := Lib.lt_of_cell c17_n0
  have z17_x : w14.heap.size < w17.heap.size := Lib.lt_of_cell c17_x0
  have z17_y : w15.heap.size < w17.heap.size := Lib.lt_of_cell c17_y0
  have h17 := h16.trans (B17.mono h16.size)
  clear b17 B17 h16
  go_wp2_with fail
  go_ret
  exact ⟨rfl, h17⟩

theorem ptells_any (c r x y : Int) (s : ByteArray) (w : World) (hs : s.size ≤ 9223372036854775807) (hx : -9223372036854775808 ≤ x ∧ x ≤ 9223372036854775807) (hy : -9223372036854775808 ≤ y ∧ y ≤ 9223372036854775807) (hE : EnvI w) :
    Calls Tryd.prog 3 #[.agg #[.int .i64 c, .int .i64 r], .agg #[.int .i64 x, .int .i64 y], .string s] w fun e w' => e = .returned (.bool true) ∧ Below w.heap.size w w' := by
  by_cases hl : s.size ≤ 300
  · exact ptells_short c r x y s w hl hx hy hE
  · exact ptells_long c r x y s w (by omega) hs hE
end Go.Proofs.YtmophlfpoehopaaDoor
