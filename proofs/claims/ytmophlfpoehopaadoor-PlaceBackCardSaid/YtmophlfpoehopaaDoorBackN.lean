/- The walk there and back, where the place may not be moved. -/
import Derived.Test.YtmophlfpoehopaaDoorBackD
namespace Go.Proofs.YtmophlfpoehopaaDoor
open Go.RowKit

set_option maxHeartbeats 4000000 in
set_option maxRecDepth 100000 in
theorem back_nc (i k I K x y pc pr qc qr mc mr S0 S1 S2 S3 : Int) (TX : List UInt8) (N : Nat) (w : World) (hI : i % 1024 = I) (hK : k % 1024 = K) (i0 : 0 ≤ i) (i1 : i ≤ 65535) (k0 : 0 ≤ k) (k1 : k ≤ 65535) (_I0 : 0 ≤ I) (_I1 : I ≤ 1023) (_K0 : 0 ≤ K) (_K1 : K ≤ 1023) (_pc0 : 0 ≤ pc) (_pc1 : pc ≤ 15) (_pr0 : 0 ≤ pr) (_pr1 : pr ≤ 63) (s0 : 0 ≤ S0) (s1 : 0 ≤ S1) (s2 : S2 ≤ 15) (s3 : S3 ≤ 63) (s4 : S0 ≤ S2) (s5 : S1 ≤ S3)
    (C1 : AtC I pc pr) (C2 : AtC K qc qr) (C3 : TextC pc pr TX) (C4 : ParseC TX pc pr) (C5 : IndexC pc pr I) (C6 : MoveC pc pr x y mc mr false) (r16 : pr < 16) (C8 : MirC pc pr pr pc true) (C9 : MirC pr pc pc pr true)
    (C10 : SpanC pc pr qc qr S0 S1 S2 S3) (C11 : HasC S0 S1 S2 S3 pc pr) (C12 : HasC S0 S1 S2 S3 qc qr) (C13 : CellsC S0 S1 S2 S3 N) (hN : IntKind.i64.wrap ((S2 - S0 + 1) * (S3 - S1 + 1)) = (N : Int)) (hE : EnvI w) :
    Calls Tryd.prog 5 #[.int .u16 i, .agg #[.int .i64 x, .int .i64 y], .int .u16 k] w fun e w' => e = .returned (.bool true) ∧ Below w.heap.size w w' := by
  have HE := Lib.hid hE
  clear hE
  have hN1 := neq_self pc pr
  have hG1 := fun op X Y W => guard_place op X Y #[.int .i64 pc, .int .i64 pr] #[.int .i64 pc, .int .i64 pr] W
  go_enter Tryd.func5, Tryd.ntmps5
  go_wp2_with fail
  have h0 := ((Below.refl w.heap.size w).alloc (Nat.le_refl _) (.cells #[.int .i64 x, .int .i64 y] 23))
  have c0_v0 : (w.alloc (.cells #[.int .i64 x, .int .i64 y] 23)).cell? ⟨w.heap.size, 0, none⟩ = some (.int .i64 x) := by simp [go_sem]
  have c0_v1 : (w.alloc (.cells #[.int .i64 x, .int .i64 y] 23)).cell? ⟨w.heap.size, 1, none⟩ = some (.int .i64 y) := by simp [go_sem]
  have z0_v : w.heap.size < (w.alloc (.cells #[.int .i64 x, .int .i64 y] 23)).heap.size := Lib.lt_of_cell c0_v0
  generalize w.alloc (.cells #[.int .i64 x, .int .i64 y] 23) = w0 at *
  refine (C1 _).mono ?_; rintro e w1 ⟨rfl, b1⟩
  have B1 : Below w0.heap.size w0 w1 := b1
  have c1_v0 := keep_cell B1 c0_v0
  have c1_v1 := keep_cell B1 c0_v1
  have z1_v : w.heap.size < w1.heap.size := Lib.lt_of_cell c1_v0
  have h1 := h0.trans (B1.mono h0.size)
  clear b1 B1 h0
  go_wp2_with fail
  refine (C2 _).mono ?_; rintro e w2 ⟨rfl, b2⟩
  have B2 : Below w1.heap.size w1 w2 := below_alloc (Below.refl _ _) b2
  have c2_v0 := keep_cell B2 c1_v0
  have c2_v1 := keep_cell B2 c1_v1
  have c2_p0 := keep_fresh b2 0 (v := .int .i64 pc) rfl
  have c2_p1 := keep_fresh b2 1 (v := .int .i64 pr) rfl
  have z2_v : w.heap.size < w2.heap.size := Lib.lt_of_cell c2_v0
  have z2_p : w1.heap.size < w2.heap.size := Lib.lt_of_cell c2_p0
  have h2 := h1.trans (B2.mono h1.size)
  clear b2 B2 h1
  go_wp2_with fail
  refine (C3 _ (by exact HE.out.below (h2.alloc h2.size _))).mono ?_; rintro e w3 ⟨rfl, b3⟩
  have B3 : Below w2.heap.size w2 w3 := below_alloc (Below.refl _ _) b3
  have c3_v0 := keep_cell B3 c2_v0
  have c3_v1 := keep_cell B3 c2_v1
  have c3_p0 := keep_cell B3 c2_p0
  have c3_p1 := keep_cell B3 c2_p1
  have c3_q0 := keep_fresh b3 0 (v := .int .i64 qc) rfl
  have c3_q1 := keep_fresh b3 1 (v := .int .i64 qr) rfl
  have z3_v : w.heap.size < w3.heap.size := Lib.lt_of_cell c3_v0
  have z3_p : w1.heap.size < w3.heap.size := Lib.lt_of_cell c3_p0
  have z3_q : w2.heap.size < w3.heap.size := Lib.lt_of_cell c3_q0
  have h3 := h2.trans (B3.mono h2.size)
  clear b3 B3 h2
  go_wp2_with fail
  refine (C4 _).mono ?_; rintro e w4 ⟨rfl, b4⟩
  have B4 : Below w3.heap.size w3 w4 := b4
  have c4_v0 := keep_cell B4 c3_v0
  have c4_v1 := keep_cell B4 c3_v1
  have c4_p0 := keep_cell B4 c3_p0
  have c4_p1 := keep_cell B4 c3_p1
  have c4_q0 := keep_cell B4 c3_q0
  have c4_q1 := keep_cell B4 c3_q1
  have z4_v : w.heap.size < w4.heap.size := Lib.lt_of_cell c4_v0
  have z4_p : w1.heap.size < w4.heap.size := Lib.lt_of_cell c4_p0
  have z4_q : w2.heap.size < w4.heap.size := Lib.lt_of_cell c4_q0
  have h4 := h3.trans (B4.mono h3.size)
  clear b4 B4 h3
  go_wp2_with fail
  refine (C5 _).mono ?_; rintro e w5 ⟨rfl, b5⟩
  have B5 : Below w4.heap.size w4 w5 := below_alloc (Below.refl _ _) b5
  have c5_v0 := keep_cell B5 c4_v0
  have c5_v1 := keep_cell B5 c4_v1
  have c5_p0 := keep_cell B5 c4_p0
  have c5_p1 := keep_cell B5 c4_p1
  have c5_q0 := keep_cell B5 c4_q0
  have c5_q1 := keep_cell B5 c4_q1
  have c5_s0 := keep_fresh b5 0 (v := .int .i64 pc) rfl
  have c5_s1 := keep_fresh b5 1 (v := .int .i64 pr) rfl
  have z5_v : w.heap.size < w5.heap.size := Lib.lt_of_cell c5_v0
  have z5_p : w1.heap.size < w5.heap.size := Lib.lt_of_cell c5_p0
  have z5_q : w2.heap.size < w5.heap.size := Lib.lt_of_cell c5_q0
  have z5_s : w4.heap.size < w5.heap.size := Lib.lt_of_cell c5_s0
  have h5 := h4.trans (B5.mono h4.size)
  clear b5 B5 h4
  go_wp2_with fail
  refine (C6 _).mono ?_; rintro e w6 ⟨rfl, b6⟩
  have B6 : Below w5.heap.size w5 w6 := b6
  have c6_v0 := keep_cell B6 c5_v0
  have c6_v1 := keep_cell B6 c5_v1
  have c6_p0 := keep_cell B6 c5_p0
  have c6_p1 := keep_cell B6 c5_p1
  have c6_q0 := keep_cell B6 c5_q0
  have c6_q1 := keep_cell B6 c5_q1
  have c6_s0 := keep_cell B6 c5_s0
  have c6_s1 := keep_cell B6 c5_s1
  have z6_v : w.heap.size < w6.heap.size := Lib.lt_of_cell c6_v0
  have z6_p : w1.heap.size < w6.heap.size := Lib.lt_of_cell c6_p0
  have z6_q : w2.heap.size < w6.heap.size := Lib.lt_of_cell c6_q0
  have z6_s : w4.heap.size < w6.heap.size := Lib.lt_of_cell c6_s0
  have h6 := h5.trans (B6.mono h5.size)
  clear b6 B6 h5
  clear c6_s0 c6_s1 z6_s
  go_wp2_with fail
  refine (C8 _).mono ?_; rintro e w7 ⟨rfl, b7⟩
  have B7 : Below w6.heap.size w6 w7 := below_alloc (Below.refl _ _) b7
  have c7_v0 := keep_cell B7 c6_v0
  have c7_v1 := keep_cell B7 c6_v1
  have c7_p0 := keep_cell B7 c6_p0
  have c7_p1 := keep_cell B7 c6_p1
  have c7_q0 := keep_cell B7 c6_q0
  have c7_q1 := keep_cell B7 c6_q1
  have c7_m0 := keep_fresh b7 0 (v := .int .i64 mc) rfl
  have c7_m1 := keep_fresh b7 1 (v := .int .i64 mr) rfl
  have z7_v : w.heap.size < w7.heap.size := Lib.lt_of_cell c7_v0
  have z7_p : w1.heap.size < w7.heap.size := Lib.lt_of_cell c7_p0
  have z7_q : w2.heap.size < w7.heap.size := Lib.lt_of_cell c7_q0
  have z7_m : w6.heap.size < w7.heap.size := Lib.lt_of_cell c7_m0
  have h7 := h6.trans (B7.mono h6.size)
  clear b7 B7 h6
  go_wp2_with fail
  refine (C9 _).mono ?_; rintro e w8 ⟨rfl, b8⟩
  have B8 : Below w7.heap.size w7 w8 := below_alloc (Below.refl _ _) b8
  have c8_v0 := keep_cell B8 c7_v0
  have c8_v1 := keep_cell B8 c7_v1
  have c8_p0 := keep_cell B8 c7_p0
  have c8_p1 := keep_cell B8 c7_p1
  have c8_q0 := keep_cell B8 c7_q0
  have c8_q1 := keep_cell B8 c7_q1
  have c8_m0 := keep_cell B8 c7_m0
  have c8_m1 := keep_cell B8 c7_m1
  have c8_x0 := keep_fresh b8 0 (v := .int .i64 pr) rfl
  have c8_x1 := keep_fresh b8 1 (v := .int .i64 pc) rfl
  have z8_v : w.heap.size < w8.heap.size := Lib.lt_of_cell c8_v0
  have z8_p : w1.heap.size < w8.heap.size := Lib.lt_of_cell c8_p0
  have z8_q : w2.heap.size < w8.heap.size := Lib.lt_of_cell c8_q0
  have z8_m : w6.heap.size < w8.heap.size := Lib.lt_of_cell c8_m0
  have z8_x : w7.heap.size < w8.heap.size := Lib.lt_of_cell c8_x0
  have h8 := h7.trans (B8.mono h7.size)
  clear b8 B8 h7
  clear c8_m0 c8_m1 z8_m
  clear c8_v0 c8_v1 z8_v
  go_wp2_with fail
  refine (C10 _).mono ?_; rintro e w9 ⟨rfl, b9⟩
  have B9 : Below w8.heap.size w8 w9 := below_alloc (Below.refl _ _) b9
  have c9_p0 := keep_cell B9 c8_p0
  have c9_p1 := keep_cell B9 c8_p1
  have c9_q0 := keep_cell B9 c8_q0
  have c9_q1 := keep_cell B9 c8_q1
  have c9_x0 := keep_cell B9 c8_x0
  have c9_x1 := keep_cell B9 c8_x1
  have c9_y0 := keep_fresh b9 0 (v := .int .i64 pc) rfl
  have c9_y1 := keep_fresh b9 1 (v := .int .i64 pr) rfl
  have z9_p : w1.heap.size < w9.heap.size := Lib.lt_of_cell c9_p0
  have z9_q : w2.heap.size < w9.heap.size := Lib.lt_of_cell c9_q0
  have z9_x : w7.heap.size < w9.heap.size := Lib.lt_of_cell c9_x0
  have z9_y : w8.heap.size < w9.heap.size := Lib.lt_of_cell c9_y0
  have h9 := h8.trans (B9.mono h8.size)
  clear b9 B9 h8
  clear c9_x0 c9_x1 z9_x
  go_wp2_with fail
  have B10 : Below w9.heap.size w9 (w9.alloc (.cells #[.int .i64 S0, .int .i64 S1, .int .i64 S2, .int .i64 S3] 37)) := (Below.refl _ _).alloc (Nat.le_refl _) _
  have c10_p0 := keep_cell B10 c9_p0
  have c10_p1 := keep_cell B10 c9_p1
  have c10_q0 := keep_cell B10 c9_q0
  have c10_q1 := keep_cell B10 c9_q1
  have c10_y0 := keep_cell B10 c9_y0
  have c10_y1 := keep_cell B10 c9_y1
  have c10_r0 : (w9.alloc (.cells #[.int .i64 S0, .int .i64 S1, .int .i64 S2, .int .i64 S3] 37)).cell? ⟨w9.heap.size, 0, none⟩ = some (.int .i64 S0) := by simp [go_sem]
  have c10_r1 : (w9.alloc (.cells #[.int .i64 S0, .int .i64 S1, .int .i64 S2, .int .i64 S3] 37)).cell? ⟨w9.heap.size, 1, none⟩ = some (.int .i64 S1) := by simp [go_sem]
  have c10_r2 : (w9.alloc (.cells #[.int .i64 S0, .int .i64 S1, .int .i64 S2, .int .i64 S3] 37)).cell? ⟨w9.heap.size, 2, none⟩ = some (.int .i64 S2) := by simp [go_sem]
  have c10_r3 : (w9.alloc (.cells #[.int .i64 S0, .int .i64 S1, .int .i64 S2, .int .i64 S3] 37)).cell? ⟨w9.heap.size, 3, none⟩ = some (.int .i64 S3) := by simp [go_sem]
  have z10_p : w1.heap.size < (w9.alloc (.cells #[.int .i64 S0, .int .i64 S1, .int .i64 S2, .int .i64 S3] 37)).heap.size := Lib.lt_of_cell c10_p0
  have z10_q : w2.heap.size < (w9.alloc (.cells #[.int .i64 S0, .int .i64 S1, .int .i64 S2, .int .i64 S3] 37)).heap.size := Lib.lt_of_cell c10_q0
  have z10_y : w8.heap.size < (w9.alloc (.cells #[.int .i64 S0, .int .i64 S1, .int .i64 S2, .int .i64 S3] 37)).heap.size := Lib.lt_of_cell c10_y0
  have z10_r : w9.heap.size < (w9.alloc (.cells #[.int .i64 S0, .int .i64 S1, .int .i64 S2, .int .i64 S3] 37)).heap.size := Lib.lt_of_cell c10_r0
  have h10 := h9.trans (B10.mono h9.size)
  clear B10 h9
  generalize w9.alloc (.cells #[.int .i64 S0, .int .i64 S1, .int .i64 S2, .int .i64 S3] 37) = w10 at *
  clear c10_y0 c10_y1 z10_y
  have HEz := Lib.hid (HE.out.below h10)
  refine (alive_any _ HEz.out).mono ?_; rintro e w11 ⟨rfl, b11⟩
  have B11 : Below w10.heap.size w10 w11 := b11
  have c11_p0 := keep_cell B11 c10_p0
  have c11_p1 := keep_cell B11 c10_p1
  have c11_q0 := keep_cell B11 c10_q0
  have c11_q1 := keep_cell B11 c10_q1
  have c11_r0 := keep_cell B11 c10_r0
  have c11_r1 := keep_cell B11 c10_r1
  have c11_r2 := keep_cell B11 c10_r2
  have c11_r3 := keep_cell B11 c10_r3
  have z11_p : w1.heap.size < w11.heap.size := Lib.lt_of_cell c11_p0
  have z11_q : w2.heap.size < w11.heap.size := Lib.lt_of_cell c11_q0
  have z11_r : w9.heap.size < w11.heap.size := Lib.lt_of_cell c11_r0
  have h11 := h10.trans (B11.mono h10.size)
  clear b11 B11 h10
  go_wp2_with fail
  refine (C11 _).mono ?_; rintro e w12 ⟨rfl, b12⟩
  have B12 : Below w11.heap.size w11 w12 := b12
  have c12_p0 := keep_cell B12 c11_p0
  have c12_p1 := keep_cell B12 c11_p1
  have c12_q0 := keep_cell B12 c11_q0
  have c12_q1 := keep_cell B12 c11_q1
  have c12_r0 := keep_cell B12 c11_r0
  have c12_r1 := keep_cell B12 c11_r1
  have c12_r2 := keep_cell B12 c11_r2
  have c12_r3 := keep_cell B12 c11_r3
  have z12_p : w1.heap.size < w12.heap.size := Lib.lt_of_cell c12_p0
  have z12_q : w2.heap.size < w12.heap.size := Lib.lt_of_cell c12_q0
  have z12_r : w9.heap.size < w12.heap.size := Lib.lt_of_cell c12_r0
  have h12 := h11.trans (B12.mono h11.size)
  clear b12 B12 h11
  go_wp2_with fail
  refine (C12 _).mono ?_; rintro e w13 ⟨rfl, b13⟩
  have B13 : Below w12.heap.size w12 w13 := b13
  have c13_p0 := keep_cell B13 c12_p0
  have c13_p1 := keep_cell B13 c12_p1
  have c13_q0 := keep_cell B13 c12_q0
  have c13_q1 := keep_cell B13 c12_q1
  have c13_r0 := keep_cell B13 c12_r0
  have c13_r1 := keep_cell B13 c12_r1
  have c13_r2 := keep_cell B13 c12_r2
  have c13_r3 := keep_cell B13 c12_r3
  have z13_p : w1.heap.size < w13.heap.size := Lib.lt_of_cell c13_p0
  have z13_q : w2.heap.size < w13.heap.size := Lib.lt_of_cell c13_q0
  have z13_r : w9.heap.size < w13.heap.size := Lib.lt_of_cell c13_r0
  have h13 := h12.trans (B13.mono h12.size)
  clear b13 B13 h12
  go_wp2_with fail
  refine (C13 _).mono ?_; rintro e w14 ⟨AA, cap, rfl, b14⟩
  have h14 := h13.trans (b14.mono h13.size)
  go_wp2_with fail
  go_ret
  exact ⟨rfl, h14⟩

set_option maxHeartbeats 4000000 in
set_option maxRecDepth 100000 in
theorem back_nd (i k I K x y pc pr qc qr mc mr S0 S1 S2 S3 : Int) (TX : List UInt8) (N : Nat) (w : World) (hI : i % 1024 = I) (hK : k % 1024 = K) (i0 : 0 ≤ i) (i1 : i ≤ 65535) (k0 : 0 ≤ k) (k1 : k ≤ 65535) (_I0 : 0 ≤ I) (_I1 : I ≤ 1023) (_K0 : 0 ≤ K) (_K1 : K ≤ 1023) (_pc0 : 0 ≤ pc) (_pc1 : pc ≤ 15) (_pr0 : 0 ≤ pr) (_pr1 : pr ≤ 63) (s0 : 0 ≤ S0) (s1 : 0 ≤ S1) (s2 : S2 ≤ 15) (s3 : S3 ≤ 63) (s4 : S0 ≤ S2) (s5 : S1 ≤ S3)
    (C1 : AtC I pc pr) (C2 : AtC K qc qr) (C3 : TextC pc pr TX) (C4 : ParseC TX pc pr) (C5 : IndexC pc pr I) (C6 : MoveC pc pr x y mc mr false) (r16 : 16 ≤ pr) (C8 : MirC pc pr 0 0 false) (C9 : MirC 0 0 0 0 true)
    (C10 : SpanC pc pr qc qr S0 S1 S2 S3) (C11 : HasC S0 S1 S2 S3 pc pr) (C12 : HasC S0 S1 S2 S3 qc qr) (C13 : CellsC S0 S1 S2 S3 N) (hN : IntKind.i64.wrap ((S2 - S0 + 1) * (S3 - S1 + 1)) = (N : Int)) (hE : EnvI w) :
    Calls Tryd.prog 5 #[.int .u16 i, .agg #[.int .i64 x, .int .i64 y], .int .u16 k] w fun e w' => e = .returned (.bool true) ∧ Below w.heap.size w w' := by
  have HE := Lib.hid hE
  clear hE
  have hN1 := neq_self pc pr
  have hG1 := fun op X Y W => guard_place op X Y #[.int .i64 pc, .int .i64 pr] #[.int .i64 pc, .int .i64 pr] W
  go_enter Tryd.func5, Tryd.ntmps5
  go_wp2_with fail
  have h0 := ((Below.refl w.heap.size w).alloc (Nat.le_refl _) (.cells #[.int .i64 x, .int .i64 y] 23))
  have c0_v0 : (w.alloc (.cells #[.int .i64 x, .int .i64 y] 23)).cell? ⟨w.heap.size, 0, none⟩ = some (.int .i64 x) := by simp [go_sem]
  have c0_v1 : (w.alloc (.cells #[.int .i64 x, .int .i64 y] 23)).cell? ⟨w.heap.size, 1, none⟩ = some (.int .i64 y) := by simp [go_sem]
  have z0_v : w.heap.size < (w.alloc (.cells #[.int .i64 x, .int .i64 y] 23)).heap.size := Lib.lt_of_cell c0_v0
  generalize w.alloc (.cells #[.int .i64 x, .int .i64 y] 23) = w0 at *
  refine (C1 _).mono ?_; rintro e w1 ⟨rfl, b1⟩
  have B1 : Below w0.heap.size w0 w1 := b1
  have c1_v0 := keep_cell B1 c0_v0
  have c1_v1 := keep_cell B1 c0_v1
  have z1_v : w.heap.size < w1.heap.size := Lib.lt_of_cell c1_v0
  have h1 := h0.trans (B1.mono h0.size)
  clear b1 B1 h0
  go_wp2_with fail
  refine (C2 _).mono ?_; rintro e w2 ⟨rfl, b2⟩
  have B2 : Below w1.heap.size w1 w2 := below_alloc (Below.refl _ _) b2
  have c2_v0 := keep_cell B2 c1_v0
  have c2_v1 := keep_cell B2 c1_v1
  have c2_p0 := keep_fresh b2 0 (v := .int .i64 pc) rfl
  have c2_p1 := keep_fresh b2 1 (v := .int .i64 pr) rfl
  have z2_v : w.heap.size < w2.heap.size := Lib.lt_of_cell c2_v0
  have z2_p : w1.heap.size < w2.heap.size := Lib.lt_of_cell c2_p0
  have h2 := h1.trans (B2.mono h1.size)
  clear b2 B2 h1
  go_wp2_with fail
  refine (C3 _ (by exact HE.out.below (h2.alloc h2.size _))).mono ?_; rintro e w3 ⟨rfl, b3⟩
  have B3 : Below w2.heap.size w2 w3 := below_alloc (Below.refl _ _) b3
  have c3_v0 := keep_cell B3 c2_v0
  have c3_v1 := keep_cell B3 c2_v1
  have c3_p0 := keep_cell B3 c2_p0
  have c3_p1 := keep_cell B3 c2_p1
  have c3_q0 := keep_fresh b3 0 (v := .int .i64 qc) rfl
  have c3_q1 := keep_fresh b3 1 (v := .int .i64 qr) rfl
  have z3_v : w.heap.size < w3.heap.size := Lib.lt_of_cell c3_v0
  have z3_p : w1.heap.size < w3.heap.size := Lib.lt_of_cell c3_p0
  have z3_q : w2.heap.size < w3.heap.size := Lib.lt_of_cell c3_q0
  have h3 := h2.trans (B3.mono h2.size)
  clear b3 B3 h2
  go_wp2_with fail
  refine (C4 _).mono ?_; rintro e w4 ⟨rfl, b4⟩
  have B4 : Below w3.heap.size w3 w4 := b4
  have c4_v0 := keep_cell B4 c3_v0
  have c4_v1 := keep_cell B4 c3_v1
  have c4_p0 := keep_cell B4 c3_p0
  have c4_p1 := keep_cell B4 c3_p1
  have c4_q0 := keep_cell B4 c3_q0
  have c4_q1 := keep_cell B4 c3_q1
  have z4_v : w.heap.size < w4.heap.size := Lib.lt_of_cell c4_v0
  have z4_p : w1.heap.size < w4.heap.size := Lib.lt_of_cell c4_p0
  have z4_q : w2.heap.size < w4.heap.size := Lib.lt_of_cell c4_q0
  have h4 := h3.trans (B4.mono h3.size)
  clear b4 B4 h3
  go_wp2_with fail
  refine (C5 _).mono ?_; rintro e w5 ⟨rfl, b5⟩
  have B5 : Below w4.heap.size w4 w5 := below_alloc (Below.refl _ _) b5
  have c5_v0 := keep_cell B5 c4_v0
  have c5_v1 := keep_cell B5 c4_v1
  have c5_p0 := keep_cell B5 c4_p0
  have c5_p1 := keep_cell B5 c4_p1
  have c5_q0 := keep_cell B5 c4_q0
  have c5_q1 := keep_cell B5 c4_q1
  have c5_s0 := keep_fresh b5 0 (v := .int .i64 pc) rfl
  have c5_s1 := keep_fresh b5 1 (v := .int .i64 pr) rfl
  have z5_v : w.heap.size < w5.heap.size := Lib.lt_of_cell c5_v0
  have z5_p : w1.heap.size < w5.heap.size := Lib.lt_of_cell c5_p0
  have z5_q : w2.heap.size < w5.heap.size := Lib.lt_of_cell c5_q0
  have z5_s : w4.heap.size < w5.heap.size := Lib.lt_of_cell c5_s0
  have h5 := h4.trans (B5.mono h4.size)
  clear b5 B5 h4
  go_wp2_with fail
  refine (C6 _).mono ?_; rintro e w6 ⟨rfl, b6⟩
  have B6 : Below w5.heap.size w5 w6 := b6
  have c6_v0 := keep_cell B6 c5_v0
  have c6_v1 := keep_cell B6 c5_v1
  have c6_p0 := keep_cell B6 c5_p0
  have c6_p1 := keep_cell B6 c5_p1
  have c6_q0 := keep_cell B6 c5_q0
  have c6_q1 := keep_cell B6 c5_q1
  have c6_s0 := keep_cell B6 c5_s0
  have c6_s1 := keep_cell B6 c5_s1
  have z6_v : w.heap.size < w6.heap.size := Lib.lt_of_cell c6_v0
  have z6_p : w1.heap.size < w6.heap.size := Lib.lt_of_cell c6_p0
  have z6_q : w2.heap.size < w6.heap.size := Lib.lt_of_cell c6_q0
  have z6_s : w4.heap.size < w6.heap.size := Lib.lt_of_cell c6_s0
  have h6 := h5.trans (B6.mono h5.size)
  clear b6 B6 h5
  clear c6_s0 c6_s1 z6_s
  go_wp2_with fail
  refine (C8 _).mono ?_; rintro e w7 ⟨rfl, b7⟩
  have B7 : Below w6.heap.size w6 w7 := below_alloc (Below.refl _ _) b7
  have c7_v0 := keep_cell B7 c6_v0
  have c7_v1 := keep_cell B7 c6_v1
  have c7_p0 := keep_cell B7 c6_p0
  have c7_p1 := keep_cell B7 c6_p1
  have c7_q0 := keep_cell B7 c6_q0
  have c7_q1 := keep_cell B7 c6_q1
  have c7_m0 := keep_fresh b7 0 (v := .int .i64 mc) rfl
  have c7_m1 := keep_fresh b7 1 (v := .int .i64 mr) rfl
  have z7_v : w.heap.size < w7.heap.size := Lib.lt_of_cell c7_v0
  have z7_p : w1.heap.size < w7.heap.size := Lib.lt_of_cell c7_p0
  have z7_q : w2.heap.size < w7.heap.size := Lib.lt_of_cell c7_q0
  have z7_m : w6.heap.size < w7.heap.size := Lib.lt_of_cell c7_m0
  have h7 := h6.trans (B7.mono h6.size)
  clear b7 B7 h6
  go_wp2_with fail
  refine (C9 _).mono ?_; rintro e w8 ⟨rfl, b8⟩
  have B8 : Below w7.heap.size w7 w8 := below_alloc (Below.refl _ _) b8
  have c8_v0 := keep_cell B8 c7_v0
  have c8_v1 := keep_cell B8 c7_v1
  have c8_p0 := keep_cell B8 c7_p0
  have c8_p1 := keep_cell B8 c7_p1
  have c8_q0 := keep_cell B8 c7_q0
  have c8_q1 := keep_cell B8 c7_q1
  have c8_m0 := keep_cell B8 c7_m0
  have c8_m1 := keep_cell B8 c7_m1
  have c8_x0 := keep_fresh b8 0 (v := .int .i64 0) rfl
  have c8_x1 := keep_fresh b8 1 (v := .int .i64 0) rfl
  have z8_v : w.heap.size < w8.heap.size := Lib.lt_of_cell c8_v0
  have z8_p : w1.heap.size < w8.heap.size := Lib.lt_of_cell c8_p0
  have z8_q : w2.heap.size < w8.heap.size := Lib.lt_of_cell c8_q0
  have z8_m : w6.heap.size < w8.heap.size := Lib.lt_of_cell c8_m0
  have z8_x : w7.heap.size < w8.heap.size := Lib.lt_of_cell c8_x0
  have h8 := h7.trans (B8.mono h7.size)
  clear b8 B8 h7
  clear c8_m0 c8_m1 z8_m
  clear c8_v0 c8_v1 z8_v
  go_wp2_with fail
  refine (C10 _).mono ?_; rintro e w9 ⟨rfl, b9⟩
  have B9 : Below w8.heap.size w8 w9 := below_alloc (Below.refl _ _) b9
  have c9_p0 := keep_cell B9 c8_p0
  have c9_p1 := keep_cell B9 c8_p1
  have c9_q0 := keep_cell B9 c8_q0
  have c9_q1 := keep_cell B9 c8_q1
  have c9_x0 := keep_cell B9 c8_x0
  have c9_x1 := keep_cell B9 c8_x1
  have c9_y0 := keep_fresh b9 0 (v := .int .i64 0) rfl
  have c9_y1 := keep_fresh b9 1 (v := .int .i64 0) rfl
  have z9_p : w1.heap.size < w9.heap.size := Lib.lt_of_cell c9_p0
  have z9_q : w2.heap.size < w9.heap.size := Lib.lt_of_cell c9_q0
  have z9_x : w7.heap.size < w9.heap.size := Lib.lt_of_cell c9_x0
  have z9_y : w8.heap.size < w9.heap.size := Lib.lt_of_cell c9_y0
  have h9 := h8.trans (B9.mono h8.size)
  clear b9 B9 h8
  clear c9_x0 c9_x1 z9_x
  go_wp2_with fail
  have B10 : Below w9.heap.size w9 (w9.alloc (.cells #[.int .i64 S0, .int .i64 S1, .int .i64 S2, .int .i64 S3] 37)) := (Below.refl _ _).alloc (Nat.le_refl _) _
  have c10_p0 := keep_cell B10 c9_p0
  have c10_p1 := keep_cell B10 c9_p1
  have c10_q0 := keep_cell B10 c9_q0
  have c10_q1 := keep_cell B10 c9_q1
  have c10_y0 := keep_cell B10 c9_y0
  have c10_y1 := keep_cell B10 c9_y1
  have c10_r0 : (w9.alloc (.cells #[.int .i64 S0, .int .i64 S1, .int .i64 S2, .int .i64 S3] 37)).cell? ⟨w9.heap.size, 0, none⟩ = some (.int .i64 S0) := by simp [go_sem]
  have c10_r1 : (w9.alloc (.cells #[.int .i64 S0, .int .i64 S1, .int .i64 S2, .int .i64 S3] 37)).cell? ⟨w9.heap.size, 1, none⟩ = some (.int .i64 S1) := by simp [go_sem]
  have c10_r2 : (w9.alloc (.cells #[.int .i64 S0, .int .i64 S1, .int .i64 S2, .int .i64 S3] 37)).cell? ⟨w9.heap.size, 2, none⟩ = some (.int .i64 S2) := by simp [go_sem]
  have c10_r3 : (w9.alloc (.cells #[.int .i64 S0, .int .i64 S1, .int .i64 S2, .int .i64 S3] 37)).cell? ⟨w9.heap.size, 3, none⟩ = some (.int .i64 S3) := by simp [go_sem]
  have z10_p : w1.heap.size < (w9.alloc (.cells #[.int .i64 S0, .int .i64 S1, .int .i64 S2, .int .i64 S3] 37)).heap.size := Lib.lt_of_cell c10_p0
  have z10_q : w2.heap.size < (w9.alloc (.cells #[.int .i64 S0, .int .i64 S1, .int .i64 S2, .int .i64 S3] 37)).heap.size := Lib.lt_of_cell c10_q0
  have z10_y : w8.heap.size < (w9.alloc (.cells #[.int .i64 S0, .int .i64 S1, .int .i64 S2, .int .i64 S3] 37)).heap.size := Lib.lt_of_cell c10_y0
  have z10_r : w9.heap.size < (w9.alloc (.cells #[.int .i64 S0, .int .i64 S1, .int .i64 S2, .int .i64 S3] 37)).heap.size := Lib.lt_of_cell c10_r0
  have h10 := h9.trans (B10.mono h9.size)
  clear B10 h9
  generalize w9.alloc (.cells #[.int .i64 S0, .int .i64 S1, .int .i64 S2, .int .i64 S3] 37) = w10 at *
  clear c10_y0 c10_y1 z10_y
  have HEz := Lib.hid (HE.out.below h10)
  refine (alive_any _ HEz.out).mono ?_; rintro e w11 ⟨rfl, b11⟩
  have B11 : Below w10.heap.size w10 w11 := b11
  have c11_p0 := keep_cell B11 c10_p0
  have c11_p1 := keep_cell B11 c10_p1
  have c11_q0 := keep_cell B11 c10_q0
  have c11_q1 := keep_cell B11 c10_q1
  have c11_r0 := keep_cell B11 c10_r0
  have c11_r1 := keep_cell B11 c10_r1
  have c11_r2 := keep_cell B11 c10_r2
  have c11_r3 := keep_cell B11 c10_r3
  have z11_p : w1.heap.size < w11.heap.size := Lib.lt_of_cell c11_p0
  have z11_q : w2.heap.size < w11.heap.size := Lib.lt_of_cell c11_q0
  have z11_r : w9.heap.size < w11.heap.size := Lib.lt_of_cell c11_r0
  have h11 := h10.trans (B11.mono h10.size)
  clear b11 B11 h10
  go_wp2_with fail
  refine (C11 _).mono ?_; rintro e w12 ⟨rfl, b12⟩
  have B12 : Below w11.heap.size w11 w12 := b12
  have c12_p0 := keep_cell B12 c11_p0
  have c12_p1 := keep_cell B12 c11_p1
  have c12_q0 := keep_cell B12 c11_q0
  have c12_q1 := keep_cell B12 c11_q1
  have c12_r0 := keep_cell B12 c11_r0
  have c12_r1 := keep_cell B12 c11_r1
  have c12_r2 := keep_cell B12 c11_r2
  have c12_r3 := keep_cell B12 c11_r3
  have z12_p : w1.heap.size < w12.heap.size := Lib.lt_of_cell c12_p0
  have z12_q : w2.heap.size < w12.heap.size := Lib.lt_of_cell c12_q0
  have z12_r : w9.heap.size < w12.heap.size := Lib.lt_of_cell c12_r0
  have h12 := h11.trans (B12.mono h11.size)
  clear b12 B12 h11
  go_wp2_with fail
  refine (C12 _).mono ?_; rintro e w13 ⟨rfl, b13⟩
  have B13 : Below w12.heap.size w12 w13 := b13
  have c13_p0 := keep_cell B13 c12_p0
  have c13_p1 := keep_cell B13 c12_p1
  have c13_q0 := keep_cell B13 c12_q0
  have c13_q1 := keep_cell B13 c12_q1
  have c13_r0 := keep_cell B13 c12_r0
  have c13_r1 := keep_cell B13 c12_r1
  have c13_r2 := keep_cell B13 c12_r2
  have c13_r3 := keep_cell B13 c12_r3
  have z13_p : w1.heap.size < w13.heap.size := Lib.lt_of_cell c13_p0
  have z13_q : w2.heap.size < w13.heap.size := Lib.lt_of_cell c13_q0
  have z13_r : w9.heap.size < w13.heap.size := Lib.lt_of_cell c13_r0
  have h13 := h12.trans (B13.mono h12.size)
  clear b13 B13 h12
  go_wp2_with fail
  refine (C13 _).mono ?_; rintro e w14 ⟨AA, cap, rfl, b14⟩
  have h14 := h13.trans (b14.mono h13.size)
  go_wp2_with fail
  go_ret
  exact ⟨rfl, h14⟩

end Go.Proofs.YtmophlfpoehopaaDoor
