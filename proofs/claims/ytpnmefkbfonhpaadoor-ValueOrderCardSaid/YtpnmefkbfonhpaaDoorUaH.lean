/- The statements' live question on values has the answer true. -/
import Derived.Test.YtpnmefkbfonhpaaDoorUaG
namespace Go.Proofs.YtpnmefkbfonhpaaDoor
open Go.RowKit

/-- the cells of a list of values -/
def cellsV (l : List (Int × Int)) : List Value := l.flatMap fun p => [.int .i64 p.1, .int .i64 p.2]
theorem cellsV_at : ∀ (l : List (Int × Int)) (i : Nat) (x y : Int), l[i]? = some (x, y) → (cellsV l)[i * 2]? = some (.int .i64 x) ∧ (cellsV l)[i * 2 + 1]? = some (.int .i64 y)
  | [], i, x, y, h => by simp at h
  | p :: t, 0, x, y, h => by
    simp at h; subst h
    exact ⟨rfl, rfl⟩
  | p :: t, i + 1, x, y, h => by
    have := cellsV_at t i x y (by simpa using h)
    have e1 : (i + 1) * 2 = i * 2 + 2 := by omega
    have e : cellsV (p :: t) = .int .i64 p.1 :: .int .i64 p.2 :: cellsV t := rfl
    rw [e, e1, List.getElem?_cons_succ, List.getElem?_cons_succ, List.getElem?_cons_succ, List.getElem?_cons_succ]
    exact this
theorem atV_fresh (W : World) (l : List (Int × Int)) (T : TypeId) : AtV (W.alloc (.cells (cellsV l).toArray T)) W.heap.size 0 l := by
  intro i x y hi
  obtain ⟨h1, h2⟩ := cellsV_at l i x y hi
  rw [Nat.zero_add]
  constructor
  · rw [cell_of_row _ _ (i * 2) _ T (0, 0) (heap_alloc_new W _)]; simpa using h1
  · rw [cell_of_row _ _ (i * 2 + 1) _ T (0, 0) (heap_alloc_new W _)]; simpa using h2
theorem listV_fresh (W : World) (l : List (Int × Int)) (T : TypeId) : ListV (W.alloc (.cells (cellsV l).toArray T)) (some ⟨W.heap.size, 0, none⟩) l := fun _ => ⟨_, _, rfl, atV_fresh W l T⟩

theorem ret_do {a b c d : Int} {s t : Bool} (h : a = c) (k : b = d) (j : s = t) : Ending.returned (.tuple #[.agg #[.int .i64 a, .int .i64 b], .bool s]) = .returned (.tuple #[.agg #[.int .i64 c, .int .i64 d], .bool t]) := by rw [h, k, j]
theorem ret_v {a b c d : Int} (h : a = c) (k : b = d) : Ending.returned (.agg #[.int .i64 a, .int .i64 b]) = .returned (.agg #[.int .i64 c, .int .i64 d]) := by rw [h, k]
theorem a_do1 (w : World) : Calls Tryd.prog 9 #[.string ⟨#[47]⟩, .agg #[.int .i64 7, .int .i64 0], .agg #[.int .i64 0, .int .i64 0]] w fun e w' => e = .returned (.tuple #[.agg #[.int .i64 0, .int .i64 2], .bool true]) ∧ Below w.heap.size w w' :=
  (udo_any ⟨#[47]⟩ (by show [47].length ≤ maxLen; unfold maxLen; decide) 7 0 0 0 (by unfold B64; omega) (by unfold B64; omega) w).mono fun _ _ ⟨he, hb⟩ => ⟨he.trans (ret_do (by decide) (by decide) (by decide)), hb⟩
theorem a_do2 (w : World) : Calls Tryd.prog 9 #[.string ⟨#[43]⟩, .agg #[.int .i64 0, .int .i64 2], .agg #[.int .i64 0, .int .i64 4]] w fun e w' => e = .returned (.tuple #[.agg #[.int .i64 0, .int .i64 2], .bool true]) ∧ Below w.heap.size w w' :=
  (udo_any ⟨#[43]⟩ (by show [43].length ≤ maxLen; unfold maxLen; decide) 0 2 0 4 (by unfold B64; omega) (by unfold B64; omega) w).mono fun _ _ ⟨he, hb⟩ => ⟨he.trans (ret_do (by decide) (by decide) (by decide)), hb⟩
theorem a_do3 (w : World) : Calls Tryd.prog 9 #[.string ⟨#[60, 61]⟩, .agg #[.int .i64 3, .int .i64 0], .agg #[.int .i64 3, .int .i64 0]] w fun e w' => e = .returned (.tuple #[.agg #[.int .i64 1, .int .i64 0], .bool true]) ∧ Below w.heap.size w w' :=
  (udo_any ⟨#[60, 61]⟩ (by show [60, 61].length ≤ maxLen; unfold maxLen; decide) 3 0 3 0 (by unfold B64; omega) (by unfold B64; omega) w).mono fun _ _ ⟨he, hb⟩ => ⟨he.trans (ret_do (by decide) (by decide) (by decide)), hb⟩
theorem a_do4 (w : World) : Calls Tryd.prog 9 #[.string ⟨#[61, 62]⟩, .agg #[.int .i64 0, .int .i64 2], .agg #[.int .i64 0, .int .i64 2]] w fun e w' => e = .returned (.tuple #[.agg #[.int .i64 0, .int .i64 0], .bool false]) ∧ Below w.heap.size w w' :=
  (udo_any ⟨#[61, 62]⟩ (by show [61, 62].length ≤ maxLen; unfold maxLen; decide) 0 2 0 2 (by unfold B64; omega) (by unfold B64; omega) w).mono fun _ _ ⟨he, hb⟩ => ⟨he.trans (ret_do (by decide) (by decide) (by decide)), hb⟩
theorem a_parse (w : World) (hE : EnvV w) : Calls Tryd.prog 7 #[.string ⟨#[35, 67, 89, 67, 76, 69]⟩] w fun e w' => e = .returned (.tuple #[.agg #[.int .i64 0, .int .i64 4], .bool true]) ∧ Below w.heap.size w w' :=
  (uparse_any ⟨#[35, 67, 89, 67, 76, 69]⟩ (by show 6 ≤ 300; omega) w hE).mono fun _ _ ⟨he, hb⟩ => ⟨he.trans (ret_do rfl (by decide) rfl), hb⟩
theorem a_top (W : World) (b : Nat) (hs : W.heap.size = b) : Calls Tryd.prog 21 #[.slice (some ⟨b, 0, none⟩) 2 2] (W.alloc (.cells #[.int .i64 (-4), .int .i64 0, .int .i64 (-2), .int .i64 0] 24)) fun e w' =>
    e = .returned (.agg #[.int .i64 (-2), .int .i64 0]) ∧ Below (W.alloc (.cells #[.int .i64 (-4), .int .i64 0, .int .i64 (-2), .int .i64 0] 24)).heap.size (W.alloc (.cells #[.int .i64 (-4), .int .i64 0, .int .i64 (-2), .int .i64 0] 24)) w' :=
  hs ▸ (ugreatest_any [(-4, 0), (-2, 0)] (by unfold maxLen; decide) (by unfold B64; simp) (some ⟨W.heap.size, 0, none⟩) 2 _ (listV_fresh W [(-4, 0), (-2, 0)] 24)).mono fun _ _ ⟨he, hb⟩ => ⟨he.trans (ret_v (by decide) (by decide)), hb⟩
theorem a_sum (W : World) (b : Nat) (hs : W.heap.size = b) : Calls Tryd.prog 17 #[.slice (some ⟨b, 0, none⟩) 3 3] (W.alloc (.cells #[.int .i64 9223372036854775807, .int .i64 0, .int .i64 1, .int .i64 0, .int .i64 0, .int .i64 3] 24)) fun e w' =>
    e = .returned (.agg #[.int .i64 0, .int .i64 1]) ∧ Below (W.alloc (.cells #[.int .i64 9223372036854775807, .int .i64 0, .int .i64 1, .int .i64 0, .int .i64 0, .int .i64 3] 24)).heap.size (W.alloc (.cells #[.int .i64 9223372036854775807, .int .i64 0, .int .i64 1, .int .i64 0, .int .i64 0, .int .i64 3] 24)) w' :=
  hs ▸ (usum_any [(9223372036854775807, 0), (1, 0), (0, 3)] (by unfold maxLen; decide) (by unfold B64; simp) (some ⟨W.heap.size, 0, none⟩) 3 _ (listV_fresh W [(9223372036854775807, 0), (1, 0), (0, 3)] 24)).mono fun _ _ ⟨he, hb⟩ => ⟨he.trans (ret_v (by decide) (by decide)), hb⟩
theorem a_text (w : World) (hE : EnvV w) : Calls Tryd.prog 13 #[.agg #[.int .i64 0, .int .i64 1]] w fun e w' => e = .returned (.string ⟨#[35, 79, 86, 69, 82]⟩) ∧ Below w.heap.size w w' :=
  (utext_any 0 1 (by unfold B64; omega) w hE).mono fun _ _ ⟨he, hb⟩ => ⟨he.trans (ret_str rfl), hb⟩
theorem a_neg (w : World) : Calls Tryd.prog 15 #[.agg #[.int .i64 (-2), .int .i64 0]] w fun e w' => e = .returned (.agg #[.int .i64 2, .int .i64 0]) ∧ Below w.heap.size w w' :=
  (uneg_any (-2) 0 (by unfold B64; omega) w).mono fun _ _ ⟨he, hb⟩ => ⟨he.trans (ret_v (by decide) (by decide)), hb⟩

set_option maxHeartbeats 2000000 in
set_option maxRecDepth 100000 in
theorem valive_any (w : World) (hE : EnvV w) : Calls Tryd.prog 6 #[] w fun e w' => e = .returned (.bool true) ∧ Below w.heap.size w w' := by
  have HE := Lib.hid hE
  clear hE
  have hfl : ∀ W : World, (Instr.field 24 (.agg #[.int .i64 2, .int .i64 0]) 0).run Tryd.prog W = .ok (.int .i64 2) W := fun _ => by kernel_rfl
  go_enter Tryd.func6, Tryd.ntmps6
  go_wp2_with fail
  refine (a_do1 _).mono ?_; rintro e w1 ⟨rfl, b1⟩
  have B1 : Below w.heap.size w w1 := b1
  have h1 : Below w.heap.size w w1 := B1
  clear b1 B1
  go_wp2_with fail
  refine (a_do2 _).mono ?_; rintro e w2 ⟨rfl, b2⟩
  have B2 : Below w1.heap.size w1 w2 := below_alloc (Below.refl _ _) b2
  have c2_a0 := keep_fresh b2 0 (v := .int .i64 0) rfl
  have c2_a1 := keep_fresh b2 1 (v := .int .i64 2) rfl
  have z2_a : w1.heap.size < w2.heap.size := Lib.lt_of_cell c2_a0
  have h2 := h1.trans (B2.mono h1.size)
  clear b2 B2 h1
  go_wp2_with fail
  refine (a_do3 _).mono ?_; rintro e w3 ⟨rfl, b3⟩
  have B3 : Below w2.heap.size w2 w3 := below_alloc (Below.refl _ _) b3
  have c3_a0 := keep_cell B3 c2_a0
  have c3_a1 := keep_cell B3 c2_a1
  have c3_b0 := keep_fresh b3 0 (v := .int .i64 0) rfl
  have c3_b1 := keep_fresh b3 1 (v := .int .i64 2) rfl
  have z3_a : w1.heap.size < w3.heap.size := Lib.lt_of_cell c3_a0
  have z3_b : w2.heap.size < w3.heap.size := Lib.lt_of_cell c3_b0
  have h3 := h2.trans (B3.mono h2.size)
  clear b3 B3 h2
  go_wp2_with fail
  refine (a_do4 _).mono ?_; rintro e w4 ⟨rfl, b4⟩
  have B4 : Below w3.heap.size w3 w4 := below_alloc (Below.refl _ _) b4
  have c4_a0 := keep_cell B4 c3_a0
  have c4_a1 := keep_cell B4 c3_a1
  have c4_b0 := keep_cell B4 c3_b0
  have c4_b1 := keep_cell B4 c3_b1
  have c4_c0 := keep_fresh b4 0 (v := .int .i64 1) rfl
  have c4_c1 := keep_fresh b4 1 (v := .int .i64 0) rfl
  have z4_a : w1.heap.size < w4.heap.size := Lib.lt_of_cell c4_a0
  have z4_b : w2.heap.size < w4.heap.size := Lib.lt_of_cell c4_b0
  have z4_c : w3.heap.size < w4.heap.size := Lib.lt_of_cell c4_c0
  have h4 := h3.trans (B4.mono h3.size)
  clear b4 B4 h3
  go_wp2_with fail
  have B5 : Below w4.heap.size w4 (w4.alloc (.cells #[.int .i64 0, .int .i64 0] 24)) := (Below.refl _ _).alloc (Nat.le_refl _) _
  have c5_a0 := keep_cell B5 c4_a0
  have c5_a1 := keep_cell B5 c4_a1
  have c5_b0 := keep_cell B5 c4_b0
  have c5_b1 := keep_cell B5 c4_b1
  have c5_c0 := keep_cell B5 c4_c0
  have c5_c1 := keep_cell B5 c4_c1
  have c5_d0 : (w4.alloc (.cells #[.int .i64 0, .int .i64 0] 24)).cell? ⟨w4.heap.size, 0, none⟩ = some (.int .i64 0) := by simp [go_sem]
  have c5_d1 : (w4.alloc (.cells #[.int .i64 0, .int .i64 0] 24)).cell? ⟨w4.heap.size, 1, none⟩ = some (.int .i64 0) := by simp [go_sem]
  have z5_a : w1.heap.size < (w4.alloc (.cells #[.int .i64 0, .int .i64 0] 24)).heap.size := Lib.lt_of_cell c5_a0
  have z5_b : w2.heap.size < (w4.alloc (.cells #[.int .i64 0, .int .i64 0] 24)).heap.size := Lib.lt_of_cell c5_b0
  have z5_c : w3.heap.size < (w4.alloc (.cells #[.int .i64 0, .int .i64 0] 24)).heap.size := Lib.lt_of_cell c5_c0
  have z5_d : w4.heap.size < (w4.alloc (.cells #[.int .i64 0, .int .i64 0] 24)).heap.size := Lib.lt_of_cell c5_d0
  have h5 := h4.trans (B5.mono h4.size)
  clear B5 h4
  generalize w4.alloc (.cells #[.int .i64 0, .int .i64 0] 24) = w5 at *
  clear c5_d0 c5_d1 z5_d
  have HE5 := Lib.hid (HE.out.below h5)
  refine (a_parse _ HE5.out).mono ?_; rintro e w6 ⟨rfl, b6⟩
  have B6 : Below w5.heap.size w5 w6 := b6
  have c6_a0 := keep_cell B6 c5_a0
  have c6_a1 := keep_cell B6 c5_a1
  have c6_b0 := keep_cell B6 c5_b0
  have c6_b1 := keep_cell B6 c5_b1
  have c6_c0 := keep_cell B6 c5_c0
  have c6_c1 := keep_cell B6 c5_c1
  have z6_a : w1.heap.size < w6.heap.size := Lib.lt_of_cell c6_a0
  have z6_b : w2.heap.size < w6.heap.size := Lib.lt_of_cell c6_b0
  have z6_c : w3.heap.size < w6.heap.size := Lib.lt_of_cell c6_c0
  have h6 := h5.trans (B6.mono h5.size)
  clear b6 B6 h5
  go_wp2_with fail
  have S7 : (w6.alloc (.cells #[.int .i64 0, .int .i64 4] 24)).heap.size = w6.heap.size + 1 := by simp
  have B7 : Below w6.heap.size w6 (w6.alloc (.cells #[.int .i64 0, .int .i64 4] 24)) := (Below.refl _ _).alloc (Nat.le_refl _) _
  have c7_a0 := keep_cell B7 c6_a0
  have c7_a1 := keep_cell B7 c6_a1
  have c7_b0 := keep_cell B7 c6_b0
  have c7_b1 := keep_cell B7 c6_b1
  have c7_c0 := keep_cell B7 c6_c0
  have c7_c1 := keep_cell B7 c6_c1
  have c7_v0 : (w6.alloc (.cells #[.int .i64 0, .int .i64 4] 24)).cell? ⟨w6.heap.size, 0, none⟩ = some (.int .i64 0) := by simp [go_sem]
  have c7_v1 : (w6.alloc (.cells #[.int .i64 0, .int .i64 4] 24)).cell? ⟨w6.heap.size, 1, none⟩ = some (.int .i64 4) := by simp [go_sem]
  have z7_a : w1.heap.size < (w6.alloc (.cells #[.int .i64 0, .int .i64 4] 24)).heap.size := Lib.lt_of_cell c7_a0
  have z7_b : w2.heap.size < (w6.alloc (.cells #[.int .i64 0, .int .i64 4] 24)).heap.size := Lib.lt_of_cell c7_b0
  have z7_c : w3.heap.size < (w6.alloc (.cells #[.int .i64 0, .int .i64 4] 24)).heap.size := Lib.lt_of_cell c7_c0
  have z7_v : w6.heap.size < (w6.alloc (.cells #[.int .i64 0, .int .i64 4] 24)).heap.size := Lib.lt_of_cell c7_v0
  have h7 := h6.trans (B7.mono h6.size)
  clear B7 h6
  generalize w6.alloc (.cells #[.int .i64 0, .int .i64 4] 24) = w7 at *
  refine (a_top _ _ S7).mono ?_; rintro e w8 ⟨rfl, b8⟩
  have B8 : Below w7.heap.size w7 w8 := below_alloc (Below.refl _ _) b8
  have c8_a0 := keep_cell B8 c7_a0
  have c8_a1 := keep_cell B8 c7_a1
  have c8_b0 := keep_cell B8 c7_b0
  have c8_b1 := keep_cell B8 c7_b1
  have c8_c0 := keep_cell B8 c7_c0
  have c8_c1 := keep_cell B8 c7_c1
  have c8_v0 := keep_cell B8 c7_v0
  have c8_v1 := keep_cell B8 c7_v1
  have c8_l0 := keep_fresh b8 0 (v := .int .i64 (-4)) rfl
  have c8_l1 := keep_fresh b8 1 (v := .int .i64 0) rfl
  have c8_l2 := keep_fresh b8 2 (v := .int .i64 (-2)) rfl
  have c8_l3 := keep_fresh b8 3 (v := .int .i64 0) rfl
  have z8_a : w1.heap.size < w8.heap.size := Lib.lt_of_cell c8_a0
  have z8_b : w2.heap.size < w8.heap.size := Lib.lt_of_cell c8_b0
  have z8_c : w3.heap.size < w8.heap.size := Lib.lt_of_cell c8_c0
  have z8_v : w6.heap.size < w8.heap.size := Lib.lt_of_cell c8_v0
  have z8_l : w7.heap.size < w8.heap.size := Lib.lt_of_cell c8_l0
  have h8 := h7.trans (B8.mono h7.size)
  clear b8 B8 h7
  clear c8_l0 c8_l1 c8_l2 c8_l3 z8_l
  go_wp2_with fail
  have S9 : (w8.alloc (.cells #[.int .i64 (-2), .int .i64 0] 24)).heap.size = w8.heap.size + 1 := by simp
  have B9 : Below w8.heap.size w8 (w8.alloc (.cells #[.int .i64 (-2), .int .i64 0] 24)) := (Below.refl _ _).alloc (Nat.le_refl _) _
  have c9_a0 := keep_cell B9 c8_a0
  have c9_a1 := keep_cell B9 c8_a1
  have c9_b0 := keep_cell B9 c8_b0
  have c9_b1 := keep_cell B9 c8_b1
  have c9_c0 := keep_cell B9 c8_c0
  have c9_c1 := keep_cell B9 c8_c1
  have c9_v0 := keep_cell B9 c8_v0
  have c9_v1 := keep_cell B9 c8_v1
  have c9_m0 : (w8.alloc (.cells #[.int .i64 (-2), .int .i64 0] 24)).cell? ⟨w8.heap.size, 0, none⟩ = some (.int .i64 (-2)) := by simp [go_sem]
  have c9_m1 : (w8.alloc (.cells #[.int .i64 (-2), .int .i64 0] 24)).cell? ⟨w8.heap.size, 1, none⟩ = some (.int .i64 0) := by simp [go_sem]
  have z9_a : w1.heap.size < (w8.alloc (.cells #[.int .i64 (-2), .int .i64 0] 24)).heap.size := Lib.lt_of_cell c9_a0
  have z9_b : w2.heap.size < (w8.alloc (.cells #[.int .i64 (-2), .int .i64 0] 24)).heap.size := Lib.lt_of_cell c9_b0
  have z9_c : w3.heap.size < (w8.alloc (.cells #[.int .i64 (-2), .int .i64 0] 24)).heap.size := Lib.lt_of_cell c9_c0
  have z9_v : w6.heap.size < (w8.alloc (.cells #[.int .i64 (-2), .int .i64 0] 24)).heap.size := Lib.lt_of_cell c9_v0
  have z9_m : w8.heap.size < (w8.alloc (.cells #[.int .i64 (-2), .int .i64 0] 24)).heap.size := Lib.lt_of_cell c9_m0
  have h9 := h8.trans (B9.mono h8.size)
  clear B9 h8
  generalize w8.alloc (.cells #[.int .i64 (-2), .int .i64 0] 24) = w9 at *
  refine (a_sum _ _ S9).mono ?_; rintro e w10 ⟨rfl, b10⟩
  have B10 : Below w9.heap.size w9 w10 := below_alloc (Below.refl _ _) b10
  have c10_a0 := keep_cell B10 c9_a0
  have c10_a1 := keep_cell B10 c9_a1
  have c10_b0 := keep_cell B10 c9_b0
  have c10_b1 := keep_cell B10 c9_b1
  have c10_c0 := keep_cell B10 c9_c0
  have c10_c1 := keep_cell B10 c9_c1
  have c10_v0 := keep_cell B10 c9_v0
  have c10_v1 := keep_cell B10 c9_v1
  have c10_m0 := keep_cell B10 c9_m0
  have c10_m1 := keep_cell B10 c9_m1
  have c10_l0 := keep_fresh b10 0 (v := .int .i64 9223372036854775807) rfl
  have c10_l1 := keep_fresh b10 1 (v := .int .i64 0) rfl
  have c10_l2 := keep_fresh b10 2 (v := .int .i64 1) rfl
  have c10_l3 := keep_fresh b10 3 (v := .int .i64 0) rfl
  have c10_l4 := keep_fresh b10 4 (v := .int .i64 0) rfl
  have c10_l5 := keep_fresh b10 5 (v := .int .i64 3) rfl
  have z10_a : w1.heap.size < w10.heap.size := Lib.lt_of_cell c10_a0
  have z10_b : w2.heap.size < w10.heap.size := Lib.lt_of_cell c10_b0
  have z10_c : w3.heap.size < w10.heap.size := Lib.lt_of_cell c10_c0
  have z10_v : w6.heap.size < w10.heap.size := Lib.lt_of_cell c10_v0
  have z10_m : w8.heap.size < w10.heap.size := Lib.lt_of_cell c10_m0
  have z10_l : w9.heap.size < w10.heap.size := Lib.lt_of_cell c10_l0
  have h10 := h9.trans (B10.mono h9.size)
  clear b10 B10 h9
  clear c10_l0 c10_l1 c10_l2 c10_l3 c10_l4 c10_l5 z10_l
  go_wp2_with fail
  have B11 : Below w10.heap.size w10 (w10.alloc (.cells #[.int .i64 0, .int .i64 1] 24)) := (Below.refl _ _).alloc (Nat.le_refl _) _
  have c11_a0 := keep_cell B11 c10_a0
  have c11_a1 := keep_cell B11 c10_a1
  have c11_b0 := keep_cell B11 c10_b0
  have c11_b1 := keep_cell B11 c10_b1
  have c11_c0 := keep_cell B11 c10_c0
  have c11_c1 := keep_cell B11 c10_c1
  have c11_v0 := keep_cell B11 c10_v0
  have c11_v1 := keep_cell B11 c10_v1
  have c11_m0 := keep_cell B11 c10_m0
  have c11_m1 := keep_cell B11 c10_m1
  have c11_n0 : (w10.alloc (.cells #[.int .i64 0, .int .i64 1] 24)).cell? ⟨w10.heap.size, 0, none⟩ = some (.int .i64 0) := by simp [go_sem]
  have c11_n1 : (w10.alloc (.cells #[.int .i64 0, .int .i64 1] 24)).cell? ⟨w10.heap.size, 1, none⟩ = some (.int .i64 1) := by simp [go_sem]
  have z11_a : w1.heap.size < (w10.alloc (.cells #[.int .i64 0, .int .i64 1] 24)).heap.size := Lib.lt_of_cell c11_a0
  have z11_b : w2.heap.size < (w10.alloc (.cells #[.int .i64 0, .int .i64 1] 24)).heap.size := Lib.lt_of_cell c11_b0
  have z11_c : w3.heap.size < (w10.alloc (.cells #[.int .i64 0, .int .i64 1] 24)).heap.size := Lib.lt_of_cell c11_c0
  have z11_v : w6.heap.size < (w10.alloc (.cells #[.int .i64 0, .int .i64 1] 24)).heap.size := Lib.lt_of_cell c11_v0
  have z11_m : w8.heap.size < (w10.alloc (.cells #[.int .i64 0, .int .i64 1] 24)).heap.size := Lib.lt_of_cell c11_m0
  have z11_n : w10.heap.size < (w10.alloc (.cells #[.int .i64 0, .int .i64 1] 24)).heap.size := Lib.lt_of_cell c11_n0
  have h11 := h10.trans (B11.mono h10.size)
  clear B11 h10
  generalize w10.alloc (.cells #[.int .i64 0, .int .i64 1] 24) = w11 at *
  have HE11 := Lib.hid (HE.out.below h11)
  refine (a_text _ HE11.out).mono ?_; rintro e w12 ⟨rfl, b12⟩
  have B12 : Below w11.heap.size w11 w12 := b12
  have c12_a0 := keep_cell B12 c11_a0
  have c12_a1 := keep_cell B12 c11_a1
  have c12_b0 := keep_cell B12 c11_b0
  have c12_b1 := keep_cell B12 c11_b1
  have c12_c0 := keep_cell B12 c11_c0
  have c12_c1 := keep_cell B12 c11_c1
  have c12_v0 := keep_cell B12 c11_v0
  have c12_v1 := keep_cell B12 c11_v1
  have c12_m0 := keep_cell B12 c11_m0
  have c12_m1 := keep_cell B12 c11_m1
  have c12_n0 := keep_cell B12 c11_n0
  have c12_n1 := keep_cell B12 c11_n1
  have z12_a : w1.heap.size < w12.heap.size := Lib.lt_of_cell c12_a0
  have z12_b : w2.heap.size < w12.heap.size := Lib.lt_of_cell c12_b0
  have z12_c : w3.heap.size < w12.heap.size := Lib.lt_of_cell c12_c0
  have z12_v : w6.heap.size < w12.heap.size := Lib.lt_of_cell c12_v0
  have z12_m : w8.heap.size < w12.heap.size := Lib.lt_of_cell c12_m0
  have z12_n : w10.heap.size < w12.heap.size := Lib.lt_of_cell c12_n0
  have h12 := h11.trans (B12.mono h11.size)
  clear b12 B12 h11
  go_wp2_with fail
  refine (a_neg _).mono ?_; rintro e w13 ⟨rfl, b13⟩
  have B13 : Below w12.heap.size w12 w13 := b13
  have c13_a0 := keep_cell B13 c12_a0
  have c13_a1 := keep_cell B13 c12_a1
  have c13_b0 := keep_cell B13 c12_b0
  have c13_b1 := keep_cell B13 c12_b1
  have c13_c0 := keep_cell B13 c12_c0
  have c13_c1 := keep_cell B13 c12_c1
  have c13_v0 := keep_cell B13 c12_v0
  have c13_v1 := keep_cell B13 c12_v1
  have c13_m0 := keep_cell B13 c12_m0
  have c13_m1 := keep_cell B13 c12_m1
  have c13_n0 := keep_cell B13 c12_n0
  have c13_n1 := keep_cell B13 c12_n1
  have z13_a : w1.heap.size < w13.heap.size := Lib.lt_of_cell c13_a0
  have z13_b : w2.heap.size < w13.heap.size := Lib.lt_of_cell c13_b0
  have z13_c : w3.heap.size < w13.heap.size := Lib.lt_of_cell c13_c0
  have z13_v : w6.heap.size < w13.heap.size := Lib.lt_of_cell c13_v0
  have z13_m : w8.heap.size < w13.heap.size := Lib.lt_of_cell c13_m0
  have z13_n : w10.heap.size < w13.heap.size := Lib.lt_of_cell c13_n0
  have h13 := h12.trans (B13.mono h12.size)
  clear b13 B13 h12
  go_wp2_with fail
  go_ret
  exact ⟨rfl, h13⟩
end Go.Proofs.YtpnmefkbfonhpaaDoor
