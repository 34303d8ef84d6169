/- The walk of the statement that holds ranges against the document's own answers. -/
import Derived.Test.YtmophlfpoehopaaDoorPlK
import Derived.Test.YtmophlfpoehopaaDoorPlE
import Derived.Test.YtmophlfpoehopaaDoorPlF
import Derived.Test.YtmophlfpoehopaaDoorPlG
import Derived.Test.YtmophlfpoehopaaDoorRefF
import Derived.Test.YtmophlfpoehopaaDoorRefJ
namespace Go.Proofs.YtmophlfpoehopaaDoor
open Go.RowKit

theorem rangeGuard : Tryd.prog.eqGuardType Tryd.prog.depth 37 = false := by kernel_rfl
theorem rangeStood : Tryd.prog.stoodInHeld 37 = false := by kernel_rfl
theorem rangeStruct : Tryd.prog.underlying 37 = some (.struct (Tryd.prog.fieldsOf 37)) := by kernel_rfl
theorem guard_range (op : BinOp) (X Y : Operand) (xs ys : Array Value) (W : World) : (eqGuard op 37 X Y (.agg xs) (.agg ys)).run Tryd.prog W = .ok () W := run_eqGuard_agg W op 37 X Y xs ys rangeGuard
theorem eql_rself (a b c d : Int) (W : World) : (binOp .eql 37 (.agg #[.int .i64 a, .int .i64 b, .int .i64 c, .int .i64 d]) (.agg #[.int .i64 a, .int .i64 b, .int .i64 c, .int .i64 d])).run Tryd.prog W = .ok (.bool true) W := by
  rw [run_eql_struct, run_equalIn_agg W 9999 37 _ _ rangeStruct rangeStood]
  simp [go_sem]
theorem ret_range {a b c d a' b' c' d' : Int} {x x' : Bool} (h0 : a = a') (h1 : b = b') (h2 : c = c') (h3 : d = d') (h4 : x = x') :
    Ending.returned (.tuple #[.agg #[.int .i64 a, .int .i64 b, .int .i64 c, .int .i64 d], .bool x]) = .returned (.tuple #[.agg #[.int .i64 a', .int .i64 b', .int .i64 c', .int .i64 d'], .bool x']) := by rw [h0, h1, h2, h3, h4]
/-- The document's own Meet comes to the same numbers. -/
theorem rmeet_is (a b c d e f g h : Int) (w : World) :
    Calls Tryd.prog 24 #[.agg #[.int .i64 a, .int .i64 b, .int .i64 c, .int .i64 d], .agg #[.int .i64 e, .int .i64 f, .int .i64 g, .int .i64 h]] w fun en w' =>
      en = .returned (.tuple #[.agg #[.int .i64 (spN (meetB a b c d e f g h) (max a e)), .int .i64 (spN (meetB a b c d e f g h) (max b f)), .int .i64 (spN (meetB a b c d e f g h) (min c g)), .int .i64 (spN (meetB a b c d e f g h) (min d h))], .bool (meetB a b c d e f g h)]) ∧ Below w.heap.size w w' :=
  (rmeet_any a b c d e f g h w).mono fun _ _ ⟨he, hb⟩ => ⟨he.trans (by
    cases hm : meetB a b c d e f g h with
    | true =>
      obtain ⟨h1, h2, h3⟩ := mt_some hm
      exact ret_range (by rw [h1]; rfl) (by rw [h1]; rfl) (by rw [h2]; rfl) (by rw [h2]; rfl) h3
    | false =>
      rw [mt_none hm]
      rfl), hb⟩
theorem same_is {w : World} {base base' : Nat} {va vb : Value} (l : List (Int × Int)) (ha : w.ownsRow base 23 2 va l.length (cells2 l)) (hb : w.ownsRow base' 23 2 vb l.length (cells2 l)) :
    Calls Tryd.prog 25 #[va, vb] w fun e w' => e = .returned (.bool true) ∧ ∃ n, w.drewN n = w' :=
  (rsame_any l l ha hb).mono fun _ _ ⟨he, n, hw⟩ => ⟨he.trans (ret_bool (decide_eq_true rfl)), n, hw.symm⟩

set_option maxHeartbeats 4000000 in
set_option maxRecDepth 100000 in
theorem ranges_any (a b c d e f g h x y : Int) (w : World) (hE : EnvI w) :
    Calls Tryd.prog 4 #[.agg #[.int .i64 a, .int .i64 b, .int .i64 c, .int .i64 d], .agg #[.int .i64 e, .int .i64 f, .int .i64 g, .int .i64 h], .agg #[.int .i64 x, .int .i64 y]] w fun en w' => en = .returned (.bool true) ∧ Below w.heap.size w w' := by
  have HE := Lib.hid hE
  have H1 := Lib.hid (pspan_any a b g h)
  have H2 := Lib.hid (rspan_any a b g h)
  have H3 := Lib.hid (pmeet_any a b c d e f g h)
  have H4 := Lib.hid (rmeet_is a b c d e f g h)
  have H5 := Lib.hid (pcells_any a b c d)
  have H6 := Lib.hid (rcells_any a b c d)
  have H7 := Lib.hid (pwhole_any a b c d)
  have H8 := Lib.hid (rwhole_any a b c d)
  have H9 := Lib.hid (phas_any a b c d x y)
  have H10 := Lib.hid (rhas_any a b c d x y)
  clear hE
  generalize spN (spB a b g h) (min a g) = S0 at *
  generalize spN (spB a b g h) (min b h) = S1 at *
  generalize spN (spB a b g h) (max a g) = S2 at *
  generalize spN (spB a b g h) (max b h) = S3 at *
  generalize spB a b g h = SB at *
  generalize spN (meetB a b c d e f g h) (max a e) = M0 at *
  generalize spN (meetB a b c d e f g h) (max b f) = M1 at *
  generalize spN (meetB a b c d e f g h) (min c g) = M2 at *
  generalize spN (meetB a b c d e f g h) (min d h) = M3 at *
  generalize meetB a b c d e f g h = MB at *
  generalize cellsTo a b c d 1024 = L at *
  generalize wholeB a b c d = WB at *
  generalize hasB a b c d x y = HB at *
  have hN1 := eql_rself S0 S1 S2 S3
  have hG1 := fun op X Y W => guard_range op X Y #[.int .i64 S0, .int .i64 S1, .int .i64 S2, .int .i64 S3] #[.int .i64 S0, .int .i64 S1, .int .i64 S2, .int .i64 S3] W
  have hN2 := eql_rself M0 M1 M2 M3
  have hG2 := fun op X Y W => guard_range op X Y #[.int .i64 M0, .int .i64 M1, .int .i64 M2, .int .i64 M3] #[.int .i64 M0, .int .i64 M1, .int .i64 M2, .int .i64 M3] W
  go_enter Tryd.func4, Tryd.ntmps4
  go_wp2_with fail
  have h0 := ((((Below.refl w.heap.size w).alloc (Nat.le_refl _) (.cells #[.int .i64 a, .int .i64 b, .int .i64 c, .int .i64 d] 37)).alloc (by simp) (.cells #[.int .i64 e, .int .i64 f, .int .i64 g, .int .i64 h] 37)).alloc (by simp; omega) (.cells #[.int .i64 x, .int .i64 y] 23))
  have c0_r0 : (((w.alloc (.cells #[.int .i64 a, .int .i64 b, .int .i64 c, .int .i64 d] 37)).alloc (.cells #[.int .i64 e, .int .i64 f, .int .i64 g, .int .i64 h] 37)).alloc (.cells #[.int .i64 x, .int .i64 y] 23)).cell? ⟨w.heap.size, 0, none⟩ = some (.int .i64 a) := by simp [go_sem]
  have c0_r1 : (((w.alloc (.cells #[.int .i64 a, .int .i64 b, .int .i64 c, .int .i64 d] 37)).alloc (.cells #[.int .i64 e, .int .i64 f, .int .i64 g, .int .i64 h] 37)).alloc (.cells #[.int .i64 x, .int .i64 y] 23)).cell? ⟨w.heap.size, 1, none⟩ = some (.int .i64 b) := by simp [go_sem]
  have c0_r2 : (((w.alloc (.cells #[.int .i64 a, .int .i64 b, .int .i64 c, .int .i64 d] 37)).alloc (.cells #[.int .i64 e, .int .i64 f, .int .i64 g, .int .i64 h] 37)).alloc (.cells #[.int .i64 x, .int .i64 y] 23)).cell? ⟨w.heap.size, 2, none⟩ = some (.int .i64 c) := by simp [go_sem]
  have c0_r3 : (((w.alloc (.cells #[.int .i64 a, .int .i64 b, .int .i64 c, .int .i64 d] 37)).alloc (.cells #[.int .i64 e, .int .i64 f, .int .i64 g, .int .i64 h] 37)).alloc (.cells #[.int .i64 x, .int .i64 y] 23)).cell? ⟨w.heap.size, 3, none⟩ = some (.int .i64 d) := by simp [go_sem]
  have z0_r : w.heap.size < (((w.alloc (.cells #[.int .i64 a, .int .i64 b, .int .i64 c, .int .i64 d] 37)).alloc (.cells #[.int .i64 e, .int .i64 f, .int .i64 g, .int .i64 h] 37)).alloc (.cells #[.int .i64 x, .int .i64 y] 23)).heap.size := Lib.lt_of_cell c0_r0
  have c0_s0 : (((w.alloc (.cells #[.int .i64 a, .int .i64 b, .int .i64 c, .int .i64 d] 37)).alloc (.cells #[.int .i64 e, .int .i64 f, .int .i64 g, .int .i64 h] 37)).alloc (.cells #[.int .i64 x, .int .i64 y] 23)).cell? ⟨w.heap.size + 1, 0, none⟩ = some (.int .i64 e) := by simp [go_sem]
  have c0_s1 : (((w.alloc (.cells #[.int .i64 a, .int .i64 b, .int .i64 c, .int .i64 d] 37)).alloc (.cells #[.int .i64 e, .int .i64 f, .int .i64 g, .int .i64 h] 37)).alloc (.cells #[.int .i64 x, .int .i64 y] 23)).cell? ⟨w.heap.size + 1, 1, none⟩ = some (.int .i64 f) := by simp [go_sem]
  have c0_s2 : (((w.alloc (.cells #[.int .i64 a, .int .i64 b, .int .i64 c, .int .i64 d] 37)).alloc (.cells #[.int .i64 e, .int .i64 f, .int .i64 g, .int .i64 h] 37)).alloc (.cells #[.int .i64 x, .int .i64 y] 23)).cell? ⟨w.heap.size + 1, 2, none⟩ = some (.int .i64 g) := by simp [go_sem]
  have c0_s3 : (((w.alloc (.cells #[.int .i64 a, .int .i64 b, .int .i64 c, .int .i64 d] 37)).alloc (.cells #[.int .i64 e, .int .i64 f, .int .i64 g, .int .i64 h] 37)).alloc (.cells #[.int .i64 x, .int .i64 y] 23)).cell? ⟨w.heap.size + 1, 3, none⟩ = some (.int .i64 h) := by simp [go_sem]
  have z0_s : w.heap.size + 1 < (((w.alloc (.cells #[.int .i64 a, .int .i64 b, .int .i64 c, .int .i64 d] 37)).alloc (.cells #[.int .i64 e, .int .i64 f, .int .i64 g, .int .i64 h] 37)).alloc (.cells #[.int .i64 x, .int .i64 y] 23)).heap.size := Lib.lt_of_cell c0_s0
  have c0_p0 : (((w.alloc (.cells #[.int .i64 a, .int .i64 b, .int .i64 c, .int .i64 d] 37)).alloc (.cells #[.int .i64 e, .int .i64 f, .int .i64 g, .int .i64 h] 37)).alloc (.cells #[.int .i64 x, .int .i64 y] 23)).cell? ⟨w.heap.size + 1 + 1, 0, none⟩ = some (.int .i64 x) := by simp [go_sem]
  have c0_p1 : (((w.alloc (.cells #[.int .i64 a, .int .i64 b, .int .i64 c, .int .i64 d] 37)).alloc (.cells #[.int .i64 e, .int .i64 f, .int .i64 g, .int .i64 h] 37)).alloc (.cells #[.int .i64 x, .int .i64 y] 23)).cell? ⟨w.heap.size + 1 + 1, 1, none⟩ = some (.int .i64 y) := by simp [go_sem]
  have z0_p : w.heap.size + 1 + 1 < (((w.alloc (.cells #[.int .i64 a, .int .i64 b, .int .i64 c, .int .i64 d] 37)).alloc (.cells #[.int .i64 e, .int .i64 f, .int .i64 g, .int .i64 h] 37)).alloc (.cells #[.int .i64 x, .int .i64 y] 23)).heap.size := Lib.lt_of_cell c0_p0
  generalize ((w.alloc (.cells #[.int .i64 a, .int .i64 b, .int .i64 c, .int .i64 d] 37)).alloc (.cells #[.int .i64 e, .int .i64 f, .int .i64 g, .int .i64 h] 37)).alloc (.cells #[.int .i64 x, .int .i64 y] 23) = w0 at *
  refine (H1.out _).mono ?_; rintro e w1 ⟨rfl, b1⟩
  have B1 : Below w0.heap.size w0 w1 := b1
  have c1_r0 := keep_cell B1 c0_r0
  have c1_r1 := keep_cell B1 c0_r1
  have c1_r2 := keep_cell B1 c0_r2
  have c1_r3 := keep_cell B1 c0_r3
  have c1_s0 := keep_cell B1 c0_s0
  have c1_s1 := keep_cell B1 c0_s1
  have c1_s2 := keep_cell B1 c0_s2
  have c1_s3 := keep_cell B1 c0_s3
  have c1_p0 := keep_cell B1 c0_p0
  have c1_p1 := keep_cell B1 c0_p1
  have z1_r : w.heap.size < w1.heap.size := Lib.lt_of_cell c1_r0
  have z1_s : w.heap.size + 1 < w1.heap.size := Lib.lt_of_cell c1_s0
  have z1_p : w.heap.size + 1 + 1 < w1.heap.size := Lib.lt_of_cell c1_p0
  have h1 := h0.trans (B1.mono h0.size)
  clear b1 B1 h0
  go_wp2_with fail
  refine (H2.out _).mono ?_; rintro e w2 ⟨rfl, b2⟩
  have B2 : Below w1.heap.size w1 w2 := below_alloc (Below.refl _ _) b2
  have c2_r0 := keep_cell B2 c1_r0
  have c2_r1 := keep_cell B2 c1_r1
  have c2_r2 := keep_cell B2 c1_r2
  have c2_r3 := keep_cell B2 c1_r3
  have c2_s0 := keep_cell B2 c1_s0
  have c2_s1 := keep_cell B2 c1_s1
  have c2_s2 := keep_cell B2 c1_s2
  have c2_s3 := keep_cell B2 c1_s3
  have c2_p0 := keep_cell B2 c1_p0
  have c2_p1 := keep_cell B2 c1_p1
  have c2_A0 := keep_fresh b2 0 (v := .int .i64 S0) rfl
  have c2_A1 := keep_fresh b2 1 (v := .int .i64 S1) rfl
  have c2_A2 := keep_fresh b2 2 (v := .int .i64 S2) rfl
  have c2_A3 := keep_fresh b2 3 (v := .int .i64 S3) rfl
  have z2_r : w.heap.size < w2.heap.size := Lib.lt_of_cell c2_r0
  have z2_s : w.heap.size + 1 < w2.heap.size := Lib.lt_of_cell c2_s0
  have z2_p : w.heap.size + 1 + 1 < w2.heap.size := Lib.lt_of_cell c2_p0
  have z2_A : w1.heap.size < w2.heap.size := Lib.lt_of_cell c2_A0
  have h2 := h1.trans (B2.mono h1.size)
  clear b2 B2 h1
  go_wp2_with fail
  refine (H3.out _).mono ?_; rintro e w3 ⟨rfl, b3⟩
  have B3 : Below w2.heap.size w2 w3 := below_alloc (Below.refl _ _) b3
  have c3_r0 := keep_cell B3 c2_r0
  have c3_r1 := keep_cell B3 c2_r1
  have c3_r2 := keep_cell B3 c2_r2
  have c3_r3 := keep_cell B3 c2_r3
  have c3_s0 := keep_cell B3 c2_s0
  have c3_s1 := keep_cell B3 c2_s1
  have c3_s2 := keep_cell B3 c2_s2
  have c3_s3 := keep_cell B3 c2_s3
  have c3_p0 := keep_cell B3 c2_p0
  have c3_p1 := keep_cell B3 c2_p1
  have c3_A0 := keep_cell B3 c2_A0
  have c3_A1 := keep_cell B3 c2_A1
  have c3_A2 := keep_cell B3 c2_A2
  have c3_A3 := keep_cell B3 c2_A3
  have c3_B0 := keep_fresh b3 0 (v := .int .i64 S0) rfl
  have c3_B1 := keep_fresh b3 1 (v := .int .i64 S1) rfl
  have c3_B2 := keep_fresh b3 2 (v := .int .i64 S2) rfl
  have c3_B3 := keep_fresh b3 3 (v := .int .i64 S3) rfl
  have z3_r : w.heap.size < w3.heap.size := Lib.lt_of_cell c3_r0
  have z3_s : w.heap.size + 1 < w3.heap.size := Lib.lt_of_cell c3_s0
  have z3_p : w.heap.size + 1 + 1 < w3.heap.size := Lib.lt_of_cell c3_p0
  have z3_A : w1.heap.size < w3.heap.size := Lib.lt_of_cell c3_A0
  have z3_B : w2.heap.size < w3.heap.size := Lib.lt_of_cell c3_B0
  have h3 := h2.trans (B3.mono h2.size)
  clear b3 B3 h2
  go_wp2_with fail
  refine (H4.out _).mono ?_; rintro e w4 ⟨rfl, b4⟩
  have B4 : Below w3.heap.size w3 w4 := below_alloc (Below.refl _ _) b4
  have c4_r0 := keep_cell B4 c3_r0
  have c4_r1 := keep_cell B4 c3_r1
  have c4_r2 := keep_cell B4 c3_r2
  have c4_r3 := keep_cell B4 c3_r3
  have c4_s0 := keep_cell B4 c3_s0
  have c4_s1 := keep_cell B4 c3_s1
  have c4_s2 := keep_cell B4 c3_s2
  have c4_s3 := keep_cell B4 c3_s3
  have c4_p0 := keep_cell B4 c3_p0
  have c4_p1 := keep_cell B4 c3_p1
  have c4_A0 := keep_cell B4 c3_A0
  have c4_A1 := keep_cell B4 c3_A1
  have c4_A2 := keep_cell B4 c3_A2
  have c4_A3 := keep_cell B4 c3_A3
  have c4_B0 := keep_cell B4 c3_B0
  have c4_B1 := keep_cell B4 c3_B1
  have c4_B2 := keep_cell B4 c3_B2
  have c4_B3 := keep_cell B4 c3_B3
  have c4_C0 := keep_fresh b4 0 (v := .int .i64 M0) rfl
  have c4_C1 := keep_fresh b4 1 (v := .int .i64 M1) rfl
  have c4_C2 := keep_fresh b4 2 (v := .int .i64 M2) rfl
  have c4_C3 := keep_fresh b4 3 (v := .int .i64 M3) rfl
  have z4_r : w.heap.size < w4.heap.size := Lib.lt_of_cell c4_r0
  have z4_s : w.heap.size + 1 < w4.heap.size := Lib.lt_of_cell c4_s0
  have z4_p : w.heap.size + 1 + 1 < w4.heap.size := Lib.lt_of_cell c4_p0
  have z4_A : w1.heap.size < w4.heap.size := Lib.lt_of_cell c4_A0
  have z4_B : w2.heap.size < w4.heap.size := Lib.lt_of_cell c4_B0
  have z4_C : w3.heap.size < w4.heap.size := Lib.lt_of_cell c4_C0
  have h4 := h3.trans (B4.mono h3.size)
  clear b4 B4 h3
  go_wp2_with fail
  have B5 : Below w4.heap.size w4 (w4.alloc (.cells #[.int .i64 M0, .int .i64 M1, .int .i64 M2, .int .i64 M3] 37)) := (Below.refl _ _).alloc (Nat.le_refl _) _
  have c5_r0 := keep_cell B5 c4_r0
  have c5_r1 := keep_cell B5 c4_r1
  have c5_r2 := keep_cell B5 c4_r2
  have c5_r3 := keep_cell B5 c4_r3
  have c5_s0 := keep_cell B5 c4_s0
  have c5_s1 := keep_cell B5 c4_s1
  have c5_s2 := keep_cell B5 c4_s2
  have c5_s3 := keep_cell B5 c4_s3
  have c5_p0 := keep_cell B5 c4_p0
  have c5_p1 := keep_cell B5 c4_p1
  have c5_A0 := keep_cell B5 c4_A0
  have c5_A1 := keep_cell B5 c4_A1
  have c5_A2 := keep_cell B5 c4_A2
  have c5_A3 := keep_cell B5 c4_A3
  have c5_B0 := keep_cell B5 c4_B0
  have c5_B1 := keep_cell B5 c4_B1
  have c5_B2 := keep_cell B5 c4_B2
  have c5_B3 := keep_cell B5 c4_B3
  have c5_C0 := keep_cell B5 c4_C0
  have c5_C1 := keep_cell B5 c4_C1
  have c5_C2 := keep_cell B5 c4_C2
  have c5_C3 := keep_cell B5 c4_C3
  have c5_D0 : (w4.alloc (.cells #[.int .i64 M0, .int .i64 M1, .int .i64 M2, .int .i64 M3] 37)).cell? ⟨w4.heap.size, 0, none⟩ = some (.int .i64 M0) := by simp [go_sem]
  have c5_D1 : (w4.alloc (.cells #[.int .i64 M0, .int .i64 M1, .int .i64 M2, .int .i64 M3] 37)).cell? ⟨w4.heap.size, 1, none⟩ = some (.int .i64 M1) := by simp [go_sem]
  have c5_D2 : (w4.alloc (.cells #[.int .i64 M0, .int .i64 M1, .int .i64 M2, .int .i64 M3] 37)).cell? ⟨w4.heap.size, 2, none⟩ = some (.int .i64 M2) := by simp [go_sem]
  have c5_D3 : (w4.alloc (.cells #[.int .i64 M0, .int .i64 M1, .int .i64 M2, .int .i64 M3] 37)).cell? ⟨w4.heap.size, 3, none⟩ = some (.int .i64 M3) := by simp [go_sem]
  have z5_r : w.heap.size < (w4.alloc (.cells #[.int .i64 M0, .int .i64 M1, .int .i64 M2, .int .i64 M3] 37)).heap.size := Lib.lt_of_cell c5_r0
  have z5_s : w.heap.size + 1 < (w4.alloc (.cells #[.int .i64 M0, .int .i64 M1, .int .i64 M2, .int .i64 M3] 37)).heap.size := Lib.lt_of_cell c5_s0
  have z5_p : w.heap.size + 1 + 1 < (w4.alloc (.cells #[.int .i64 M0, .int .i64 M1, .int .i64 M2, .int .i64 M3] 37)).heap.size := Lib.lt_of_cell c5_p0
  have z5_A : w1.heap.size < (w4.alloc (.cells #[.int .i64 M0, .int .i64 M1, .int .i64 M2, .int .i64 M3] 37)).heap.size := Lib.lt_of_cell c5_A0
  have z5_B : w2.heap.size < (w4.alloc (.cells #[.int .i64 M0, .int .i64 M1, .int .i64 M2, .int .i64 M3] 37)).heap.size := Lib.lt_of_cell c5_B0
  have z5_C : w3.heap.size < (w4.alloc (.cells #[.int .i64 M0, .int .i64 M1, .int .i64 M2, .int .i64 M3] 37)).heap.size := Lib.lt_of_cell c5_C0
  have z5_D : w4.heap.size < (w4.alloc (.cells #[.int .i64 M0, .int .i64 M1, .int .i64 M2, .int .i64 M3] 37)).heap.size := Lib.lt_of_cell c5_D0
  have h5 := h4.trans (B5.mono h4.size)
  clear B5 h4
  generalize w4.alloc (.cells #[.int .i64 M0, .int .i64 M1, .int .i64 M2, .int .i64 M3] 37) = w5 at *
  clear c5_s0 c5_s1 c5_s2 c5_s3 z5_s
  go_region_held3 (fun w' => w'.cell? ⟨w.heap.size, 0, none⟩ = some (.int .i64 a) ∧ w'.cell? ⟨w.heap.size, 1, none⟩ = some (.int .i64 b) ∧ w'.cell? ⟨w.heap.size, 2, none⟩ = some (.int .i64 c) ∧ w'.cell? ⟨w.heap.size, 3, none⟩ = some (.int .i64 d))
    (first | (simp only [World.cell?_drew]; with_reducible exact ⟨c5_r0, c5_r1, c5_r2, c5_r3⟩) | with_reducible exact ⟨c6_r0, c6_r1, c6_r2, c6_r3⟩ | with_reducible exact ⟨c7_r0, c7_r1, c7_r2, c7_r3⟩ | (simp only [World.cell?_drewN]; with_reducible exact ⟨c7_r0, c7_r1, c7_r2, c7_r3⟩))
    (first
    | (go_at_call 26; refine (H5.out _).mono ?_; rintro en w6 ⟨v6, rfl, oa, b6⟩
       have B6 : Below w5.heap.size w5 w6 := (Below.refl _ w5).drew.trans b6
       have c6_r0 := keep_cell B6 c5_r0
       have c6_r1 := keep_cell B6 c5_r1
       have c6_r2 := keep_cell B6 c5_r2
       have c6_r3 := keep_cell B6 c5_r3
       have c6_p0 := keep_cell B6 c5_p0
       have c6_p1 := keep_cell B6 c5_p1
       have c6_A0 := keep_cell B6 c5_A0
       have c6_A1 := keep_cell B6 c5_A1
       have c6_A2 := keep_cell B6 c5_A2
       have c6_A3 := keep_cell B6 c5_A3
       have c6_B0 := keep_cell B6 c5_B0
       have c6_B1 := keep_cell B6 c5_B1
       have c6_B2 := keep_cell B6 c5_B2
       have c6_B3 := keep_cell B6 c5_B3
       have c6_C0 := keep_cell B6 c5_C0
       have c6_C1 := keep_cell B6 c5_C1
       have c6_C2 := keep_cell B6 c5_C2
       have c6_C3 := keep_cell B6 c5_C3
       have c6_D0 := keep_cell B6 c5_D0
       have c6_D1 := keep_cell B6 c5_D1
       have c6_D2 := keep_cell B6 c5_D2
       have c6_D3 := keep_cell B6 c5_D3
       have HOa := Lib.hid oa
       clear oa
       have h6 := h5.trans (B6.mono h5.size))
    | (go_at_call 27; refine (H6.out _).mono ?_; rintro en w7 ⟨v7, rfl, ob, b7⟩
       have B7 : Below w6.heap.size w6 w7 := b7
       have c7_r0 := keep_cell B7 c6_r0
       have c7_r1 := keep_cell B7 c6_r1
       have c7_r2 := keep_cell B7 c6_r2
       have c7_r3 := keep_cell B7 c6_r3
       have c7_p0 := keep_cell B7 c6_p0
       have c7_p1 := keep_cell B7 c6_p1
       have c7_A0 := keep_cell B7 c6_A0
       have c7_A1 := keep_cell B7 c6_A1
       have c7_A2 := keep_cell B7 c6_A2
       have c7_A3 := keep_cell B7 c6_A3
       have c7_B0 := keep_cell B7 c6_B0
       have c7_B1 := keep_cell B7 c6_B1
       have c7_B2 := keep_cell B7 c6_B2
       have c7_B3 := keep_cell B7 c6_B3
       have c7_C0 := keep_cell B7 c6_C0
       have c7_C1 := keep_cell B7 c6_C1
       have c7_C2 := keep_cell B7 c6_C2
       have c7_C3 := keep_cell B7 c6_C3
       have c7_D0 := keep_cell B7 c6_D0
       have c7_D1 := keep_cell B7 c6_D1
       have c7_D2 := keep_cell B7 c6_D2
       have c7_D3 := keep_cell B7 c6_D3
       have HOb := Lib.hid ob
       have HOc := Lib.hid (own_below HOa.out b7)
       clear ob
       have h7 := h6.trans (B7.mono h6.size))
    | (go_at_call 25; refine (same_is L HOc.out HOb.out).mono ?_; rintro en w8 ⟨rfl, nn, rfl⟩))
  clear c5_r0 c5_r1 c5_r2 c5_r3 c5_p0 c5_p1 c5_A0 c5_A1 c5_A2 c5_A3 c5_B0 c5_B1 c5_B2 c5_B3 c5_C0 c5_C1 c5_C2 c5_C3 c5_D0 c5_D1 c5_D2 c5_D3 c6_r0 c6_r1 c6_r2 c6_r3 c6_p0 c6_p1 c6_A0 c6_A1 c6_A2 c6_A3 c6_B0 c6_B1 c6_B2 c6_B3 c6_C0 c6_C1 c6_C2 c6_C3 c6_D0 c6_D1 c6_D2 c6_D3 h5 h6 b6 b7 B6 B7 z5_r z5_p z5_A z5_B z5_C z5_D
  go_wp2_with fail
  have B8 : Below w7.heap.size w7 (w7.drewN nn) := below_drewN (Below.refl _ _) nn
  have c8_r0 := keep_cell B8 c7_r0
  have c8_r1 := keep_cell B8 c7_r1
  have c8_r2 := keep_cell B8 c7_r2
  have c8_r3 := keep_cell B8 c7_r3
  have z8_r : w.heap.size < (w7.drewN nn).heap.size := Lib.lt_of_cell c8_r0
  have c8_p0 := keep_cell B8 c7_p0
  have c8_p1 := keep_cell B8 c7_p1
  have z8_p : w.heap.size + 1 + 1 < (w7.drewN nn).heap.size := Lib.lt_of_cell c8_p0
  have c8_A0 := keep_cell B8 c7_A0
  have c8_A1 := keep_cell B8 c7_A1
  have c8_A2 := keep_cell B8 c7_A2
  have c8_A3 := keep_cell B8 c7_A3
  have z8_A : w1.heap.size < (w7.drewN nn).heap.size := Lib.lt_of_cell c8_A0
  have c8_B0 := keep_cell B8 c7_B0
  have c8_B1 := keep_cell B8 c7_B1
  have c8_B2 := keep_cell B8 c7_B2
  have c8_B3 := keep_cell B8 c7_B3
  have z8_B : w2.heap.size < (w7.drewN nn).heap.size := Lib.lt_of_cell c8_B0
  have c8_C0 := keep_cell B8 c7_C0
  have c8_C1 := keep_cell B8 c7_C1
  have c8_C2 := keep_cell B8 c7_C2
  have c8_C3 := keep_cell B8 c7_C3
  have z8_C : w3.heap.size < (w7.drewN nn).heap.size := Lib.lt_of_cell c8_C0
  have c8_D0 := keep_cell B8 c7_D0
  have c8_D1 := keep_cell B8 c7_D1
  have c8_D2 := keep_cell B8 c7_D2
  have c8_D3 := keep_cell B8 c7_D3
  have z8_D : w4.heap.size < (w7.drewN nn).heap.size := Lib.lt_of_cell c8_D0
  have h8 := h7.trans (B8.mono h7.size)
  clear c7_r0 c7_r1 c7_r2 c7_r3 c7_p0 c7_p1 c7_A0 c7_A1 c7_A2 c7_A3 c7_B0 c7_B1 c7_B2 c7_B3 c7_C0 c7_C1 c7_C2 c7_C3 c7_D0 c7_D1 c7_D2 c7_D3 h7 B8 HOa HOb HOc
  generalize w7.drewN nn = w8 at *
  have HEa : Hid (EnvI w8.drew) := Lib.hid ⟨(HE.out.below h8).tab⟩
  go_region_held3 (fun w' => w'.cell? ⟨w.heap.size, 0, none⟩ = some (.int .i64 a) ∧ w'.cell? ⟨w.heap.size, 1, none⟩ = some (.int .i64 b) ∧ w'.cell? ⟨w.heap.size, 2, none⟩ = some (.int .i64 c) ∧ w'.cell? ⟨w.heap.size, 3, none⟩ = some (.int .i64 d) ∧ w'.cell? ⟨w.heap.size + 1 + 1, 0, none⟩ = some (.int .i64 x) ∧ w'.cell? ⟨w.heap.size + 1 + 1, 1, none⟩ = some (.int .i64 y) ∧ w'.cell? ⟨w1.heap.size, 0, none⟩ = some (.int .i64 S0) ∧ w'.cell? ⟨w1.heap.size, 1, none⟩ = some (.int .i64 S1) ∧ w'.cell? ⟨w1.heap.size, 2, none⟩ = some (.int .i64 S2) ∧ w'.cell? ⟨w1.heap.size, 3, none⟩ = some (.int .i64 S3) ∧ w'.cell? ⟨w2.heap.size, 0, none⟩ = some (.int .i64 S0) ∧ w'.cell? ⟨w2.heap.size, 1, none⟩ = some (.int .i64 S1) ∧ w'.cell? ⟨w2.heap.size, 2, none⟩ = some (.int .i64 S2) ∧ w'.cell? ⟨w2.heap.size, 3, none⟩ = some (.int .i64 S3) ∧ w'.cell? ⟨w3.heap.size, 0, none⟩ = some (.int .i64 M0) ∧ w'.cell? ⟨w3.heap.size, 1, none⟩ = some (.int .i64 M1) ∧ w'.cell? ⟨w3.heap.size, 2, none⟩ = some (.int .i64 M2) ∧ w'.cell? ⟨w3.heap.size, 3, none⟩ = some (.int .i64 M3) ∧ w'.cell? ⟨w4.heap.size, 0, none⟩ = some (.int .i64 M0) ∧ w'.cell? ⟨w4.heap.size, 1, none⟩ = some (.int .i64 M1) ∧ w'.cell? ⟨w4.heap.size, 2, none⟩ = some (.int .i64 M2) ∧ w'.cell? ⟨w4.heap.size, 3, none⟩ = some (.int .i64 M3))
    (first | (simp only [World.cell?_drew]; with_reducible exact ⟨c8_r0, c8_r1, c8_r2, c8_r3, c8_p0, c8_p1, c8_A0, c8_A1, c8_A2, c8_A3, c8_B0, c8_B1, c8_B2, c8_B3, c8_C0, c8_C1, c8_C2, c8_C3, c8_D0, c8_D1, c8_D2, c8_D3⟩) | with_reducible exact ⟨c9_r0, c9_r1, c9_r2, c9_r3, c9_p0, c9_p1, c9_A0, c9_A1, c9_A2, c9_A3, c9_B0, c9_B1, c9_B2, c9_B3, c9_C0, c9_C1, c9_C2, c9_C3, c9_D0, c9_D1, c9_D2, c9_D3⟩ | with_reducible exact ⟨c10_r0, c10_r1, c10_r2, c10_r3, c10_p0, c10_p1, c10_A0, c10_A1, c10_A2, c10_A3, c10_B0, c10_B1, c10_B2, c10_B3, c10_C0, c10_C1, c10_C2, c10_C3, c10_D0, c10_D1, c10_D2, c10_D3⟩ | with_reducible exact ⟨c11_r0, c11_r1, c11_r2, c11_r3, c11_p0, c11_p1, c11_A0, c11_A1, c11_A2, c11_A3, c11_B0, c11_B1, c11_B2, c11_B3, c11_C0, c11_C1, c11_C2, c11_C3, c11_D0, c11_D1, c11_D2, c11_D3⟩ | with_reducible exact ⟨c12_r0, c12_r1, c12_r2, c12_r3, c12_p0, c12_p1, c12_A0, c12_A1, c12_A2, c12_A3, c12_B0, c12_B1, c12_B2, c12_B3, c12_C0, c12_C1, c12_C2, c12_C3, c12_D0, c12_D1, c12_D2, c12_D3⟩ | with_reducible exact ⟨c13_r0, c13_r1, c13_r2, c13_r3, c13_p0, c13_p1, c13_A0, c13_A1, c13_A2, c13_A3, c13_B0, c13_B1, c13_B2, c13_B3, c13_C0, c13_C1, c13_C2, c13_C3, c13_D0, c13_D1, c13_D2, c13_D3⟩ | fail)
    (first
    | (go_at_call 6; refine (alive_any _ HEa.out).mono ?_; rintro e w9 ⟨rfl, b9⟩
       have B9 : Below w8.heap.size w8 w9 := (Below.refl _ w8).drew.trans b9
       have c9_r0 := keep_cell B9 c8_r0
       have c9_r1 := keep_cell B9 c8_r1
       have c9_r2 := keep_cell B9 c8_r2
       have c9_r3 := keep_cell B9 c8_r3
       have c9_p0 := keep_cell B9 c8_p0
       have c9_p1 := keep_cell B9 c8_p1
       have c9_A0 := keep_cell B9 c8_A0
       have c9_A1 := keep_cell B9 c8_A1
       have c9_A2 := keep_cell B9 c8_A2
       have c9_A3 := keep_cell B9 c8_A3
       have c9_B0 := keep_cell B9 c8_B0
       have c9_B1 := keep_cell B9 c8_B1
       have c9_B2 := keep_cell B9 c8_B2
       have c9_B3 := keep_cell B9 c8_B3
       have c9_C0 := keep_cell B9 c8_C0
       have c9_C1 := keep_cell B9 c8_C1
       have c9_C2 := keep_cell B9 c8_C2
       have c9_C3 := keep_cell B9 c8_C3
       have c9_D0 := keep_cell B9 c8_D0
       have c9_D1 := keep_cell B9 c8_D1
       have c9_D2 := keep_cell B9 c8_D2
       have c9_D3 := keep_cell B9 c8_D3
       have h9 := h8.trans (B9.mono h8.size))
    | (go_at_call 28; refine (H7.out _).mono ?_; rintro e w10 ⟨rfl, b10⟩
       have B10 : Below w9.heap.size w9 w10 := b10
       have c10_r0 := keep_cell B10 c9_r0
       have c10_r1 := keep_cell B10 c9_r1
       have c10_r2 := keep_cell B10 c9_r2
       have c10_r3 := keep_cell B10 c9_r3
       have c10_p0 := keep_cell B10 c9_p0
       have c10_p1 := keep_cell B10 c9_p1
       have c10_A0 := keep_cell B10 c9_A0
       have c10_A1 := keep_cell B10 c9_A1
       have c10_A2 := keep_cell B10 c9_A2
       have c10_A3 := keep_cell B10 c9_A3
       have c10_B0 := keep_cell B10 c9_B0
       have c10_B1 := keep_cell B10 c9_B1
       have c10_B2 := keep_cell B10 c9_B2
       have c10_B3 := keep_cell B10 c9_B3
       have c10_C0 := keep_cell B10 c9_C0
       have c10_C1 := keep_cell B10 c9_C1
       have c10_C2 := keep_cell B10 c9_C2
       have c10_C3 := keep_cell B10 c9_C3
       have c10_D0 := keep_cell B10 c9_D0
       have c10_D1 := keep_cell B10 c9_D1
       have c10_D2 := keep_cell B10 c9_D2
       have c10_D3 := keep_cell B10 c9_D3
       have h10 := h9.trans (B10.mono h9.size))
    | (go_at_call 29; refine (H8.out _).mono ?_; rintro e w11 ⟨rfl, b11⟩
       have B11 : Below w10.heap.size w10 w11 := b11
       have c11_r0 := keep_cell B11 c10_r0
       have c11_r1 := keep_cell B11 c10_r1
       have c11_r2 := keep_cell B11 c10_r2
       have c11_r3 := keep_cell B11 c10_r3
       have c11_p0 := keep_cell B11 c10_p0
       have c11_p1 := keep_cell B11 c10_p1
       have c11_A0 := keep_cell B11 c10_A0
       have c11_A1 := keep_cell B11 c10_A1
       have c11_A2 := keep_cell B11 c10_A2
       have c11_A3 := keep_cell B11 c10_A3
       have c11_B0 := keep_cell B11 c10_B0
       have c11_B1 := keep_cell B11 c10_B1
       have c11_B2 := keep_cell B11 c10_B2
       have c11_B3 := keep_cell B11 c10_B3
       have c11_C0 := keep_cell B11 c10_C0
       have c11_C1 := keep_cell B11 c10_C1
       have c11_C2 := keep_cell B11 c10_C2
       have c11_C3 := keep_cell B11 c10_C3
       have c11_D0 := keep_cell B11 c10_D0
       have c11_D1 := keep_cell B11 c10_D1
       have c11_D2 := keep_cell B11 c10_D2
       have c11_D3 := keep_cell B11 c10_D3
       have h11 := h10.trans (B11.mono h10.size))
    | (go_at_call 30; refine (H9.out _).mono ?_; rintro e w12 ⟨rfl, b12⟩
       have B12 : Below w11.heap.size w11 w12 := b12
       have c12_r0 := keep_cell B12 c11_r0
       have c12_r1 := keep_cell B12 c11_r1
       have c12_r2 := keep_cell B12 c11_r2
       have c12_r3 := keep_cell B12 c11_r3
       have c12_p0 := keep_cell B12 c11_p0
       have c12_p1 := keep_cell B12 c11_p1
       have c12_A0 := keep_cell B12 c11_A0
       have c12_A1 := keep_cell B12 c11_A1
       have c12_A2 := keep_cell B12 c11_A2
       have c12_A3 := keep_cell B12 c11_A3
       have c12_B0 := keep_cell B12 c11_B0
       have c12_B1 := keep_cell B12 c11_B1
       have c12_B2 := keep_cell B12 c11_B2
       have c12_B3 := keep_cell B12 c11_B3
       have c12_C0 := keep_cell B12 c11_C0
       have c12_C1 := keep_cell B12 c11_C1
       have c12_C2 := keep_cell B12 c11_C2
       have c12_C3 := keep_cell B12 c11_C3
       have c12_D0 := keep_cell B12 c11_D0
       have c12_D1 := keep_cell B12 c11_D1
       have c12_D2 := keep_cell B12 c11_D2
       have c12_D3 := keep_cell B12 c11_D3
       have h12 := h11.trans (B12.mono h11.size))
    | (go_at_call 31; refine (H10.out _).mono ?_; rintro e w13 ⟨rfl, b13⟩
       have B13 : Below w12.heap.size w12 w13 := b13
       have c13_r0 := keep_cell B13 c12_r0
       have c13_r1 := keep_cell B13 c12_r1
       have c13_r2 := keep_cell B13 c12_r2
       have c13_r3 := keep_cell B13 c12_r3
       have c13_p0 := keep_cell B13 c12_p0
       have c13_p1 := keep_cell B13 c12_p1
       have c13_A0 := keep_cell B13 c12_A0
       have c13_A1 := keep_cell B13 c12_A1
       have c13_A2 := keep_cell B13 c12_A2
       have c13_A3 := keep_cell B13 c12_A3
       have c13_B0 := keep_cell B13 c12_B0
       have c13_B1 := keep_cell B13 c12_B1
       have c13_B2 := keep_cell B13 c12_B2
       have c13_B3 := keep_cell B13 c12_B3
       have c13_C0 := keep_cell B13 c12_C0
       have c13_C1 := keep_cell B13 c12_C1
       have c13_C2 := keep_cell B13 c12_C2
       have c13_C3 := keep_cell B13 c12_C3
       have c13_D0 := keep_cell B13 c12_D0
       have c13_D1 := keep_cell B13 c12_D1
       have c13_D2 := keep_cell B13 c12_D2
       have c13_D3 := keep_cell B13 c12_D3
       have h13 := h12.trans (B13.mono h12.size)))
  have z13_r : w.heap.size < w13.heap.size := Lib.lt_of_cell c13_r0
  have z13_p : w.heap.size + 1 + 1 < w13.heap.size := Lib.lt_of_cell c13_p0
  have z13_A : w1.heap.size < w13.heap.size := Lib.lt_of_cell c13_A0
  have z13_B : w2.heap.size < w13.heap.size := Lib.lt_of_cell c13_B0
  have z13_C : w3.heap.size < w13.heap.size := Lib.lt_of_cell c13_C0
  have z13_D : w4.heap.size < w13.heap.size := Lib.lt_of_cell c13_D0
  clear c8_r0 c8_r1 c8_r2 c8_r3 c8_p0 c8_p1 c8_A0 c8_A1 c8_A2 c8_A3 c8_B0 c8_B1 c8_B2 c8_B3 c8_C0 c8_C1 c8_C2 c8_C3 c8_D0 c8_D1 c8_D2 c8_D3 c9_r0 c9_r1 c9_r2 c9_r3 c9_p0 c9_p1 c9_A0 c9_A1 c9_A2 c9_A3 c9_B0 c9_B1 c9_B2 c9_B3 c9_C0 c9_C1 c9_C2 c9_C3 c9_D0 c9_D1 c9_D2 c9_D3 c10_r0 c10_r1 c10_r2 c10_r3 c10_p0 c10_p1 c10_A0 c10_A1 c10_A2 c10_A3 c10_B0 c10_B1 c10_B2 c10_B3 c10_C0 c10_C1 c10_C2 c10_C3 c10_D0 c10_D1 c10_D2 c10_D3 c11_r0 c11_r1 c11_r2 c11_r3 c11_p0 c11_p1 c11_A0 c11_A1 c11_A2 c11_A3 c11_B0 c11_B1 c11_B2 c11_B3 c11_C0 c11_C1 c11_C2 c11_C3 c11_D0 c11_D1 c11_D2 c11_D3 c12_r0 c12_r1 c12_r2 c12_r3 c12_p0 c12_p1 c12_A0 c12_A1 c12_A2 c12_A3 c12_B0 c12_B1 c12_B2 c12_B3 c12_C0 c12_C1 c12_C2 c12_C3 c12_D0 c12_D1 c12_D2 c12_D3 z8_r z8_p z8_A z8_B z8_C z8_D h8 h9 h10 h11 h12 b9 b10 b11 b12 b13 B9 B10 B11 B12 B13
  go_wp2_with fail
  go_ret
  exact ⟨rfl, h13⟩
end Go.Proofs.YtmophlfpoehopaaDoor
