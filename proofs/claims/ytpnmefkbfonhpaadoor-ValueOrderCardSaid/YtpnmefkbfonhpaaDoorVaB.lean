/- The document's own answers on values: what an op makes of two numbers. -/
import Derived.Test.YtpnmefkbfonhpaaDoorVaA
import Derived.Test.YtpnmefkbfonhpaaDoorNumC
namespace Go.Proofs.YtpnmefkbfonhpaaDoor
open Go.RowKit

/-- what a sum, a difference, a product, a quotient comes to, as a value -/
def vTold (n : Int) : Int × Int := (tNum (inI n) (keep (inI n) n), tFault (inI n))
/-- what an op makes of two numbers; none: it is no op -/
def vOp (l : List UInt8) (a b : Int) : Option (Int × Int) :=
  if l = [43] then some (vTold (a + b)) else if l = [45] then some (vTold (a - b)) else if l = [42] then some (vTold (a * b))
  else if l = [47] then some (if b = 0 then (0, 2) else vTold (a.tdiv b))
  else if l = [60] then some (tru (decide (a < b)), 0) else if l = [60, 61] then some (tru (decide (a ≤ b)), 0) else if l = [61] then some (tru (a == b), 0)
  else if l = [60, 62] then some (tru (a != b), 0) else if l = [62, 61] then some (tru (decide (b ≤ a)), 0) else if l = [62] then some (tru (decide (b < a)), 0) else none
/-- its number, its fault, and whether it is one -/
def oNum (o : Option (Int × Int)) : Int := match o with | some p => p.1 | none => 0
def oFault (o : Option (Int × Int)) : Int := match o with | some p => p.2 | none => 0
def NumbersC (s : ByteArray) (a b : Int) : Prop := ∀ w, Calls Tryd.prog 27 #[.string s, .int .i64 a, .int .i64 b] w fun e w' =>
  e = .returned (.tuple #[.agg #[.int .i64 (oNum (vOp s.data.toList a b)), .int .i64 (oFault (vOp s.data.toList a b))], .bool (vOp s.data.toList a b).isSome]) ∧ Below w.heap.size w w'

set_option maxHeartbeats 1000000 in
theorem num_add (a b : Int) (ha : B64 a) (hb : B64 b) : NumbersC ⟨#[43]⟩ a b := by
  intro w
  have H := Lib.hid (radd_any a b ha hb)
  have ho : vOp [43] a b = some (vTold (a + b)) := rfl
  rw [show (⟨#[43]⟩ : ByteArray).data.toList = [43] from rfl, ho]
  clear ho ha hb
  have hz1 : True := trivial

  go_enter Tryd.func27, Tryd.ntmps27
  go_wp2_with fail
  refine (H.out _).mono ?_; rintro e w1 ⟨rfl, rfl⟩
  go_wp2_with fail
  refine (vtold_any _ _ _).mono ?_; rintro e w1 ⟨rfl, B⟩
  have k0 := keep_cell B (p := ⟨w.heap.size, 0, none⟩) (v := .int .i64 0) (by simp [go_sem])
  have k1 := keep_cell B (p := ⟨w.heap.size, 1, none⟩) (v := .int .i64 0) (by simp [go_sem])
  have f0 := keep_frozen B (p := ⟨w.heap.size, 0, none⟩) (by simp) (by simp [go_sem])
  have f1 := keep_frozen B (p := ⟨w.heap.size, 1, none⟩) (by simp) (by simp [go_sem])
  have h1 : Below w.heap.size w w1 := ((Below.refl _ _).alloc (Nat.le_refl _) _).trans (B.mono (by simp))
  clear B
  go_wp2_with fail
  exact bodyPost_ret (v := .tuple #[.agg #[.int .i64 (tNum (inI (a + b)) (keep (inI (a + b)) (a + b))), .int .i64 (tFault (inI (a + b)))], .bool true]) (by simp [results, Tryd.results27, go_sem, k0, k1]) rfl
    ⟨rfl, (h1.setCell (by simp) _).setCell (by simp) _⟩

set_option maxHeartbeats 1000000 in
theorem num_sub (a b : Int) (ha : B64 a) (hb : B64 b) : NumbersC ⟨#[45]⟩ a b := by
  intro w
  have H := Lib.hid (rsub_any a b ha hb)
  have ho : vOp [45] a b = some (vTold (a - b)) := rfl
  rw [show (⟨#[45]⟩ : ByteArray).data.toList = [45] from rfl, ho]
  clear ho ha hb
  have hz1 : True := trivial

  go_enter Tryd.func27, Tryd.ntmps27
  go_wp2_with fail
  refine (H.out _).mono ?_; rintro e w1 ⟨rfl, rfl⟩
  go_wp2_with fail
  refine (vtold_any _ _ _).mono ?_; rintro e w1 ⟨rfl, B⟩
  have k0 := keep_cell B (p := ⟨w.heap.size, 0, none⟩) (v := .int .i64 0) (by simp [go_sem])
  have k1 := keep_cell B (p := ⟨w.heap.size, 1, none⟩) (v := .int .i64 0) (by simp [go_sem])
  have f0 := keep_frozen B (p := ⟨w.heap.size, 0, none⟩) (by simp) (by simp [go_sem])
  have f1 := keep_frozen B (p := ⟨w.heap.size, 1, none⟩) (by simp) (by simp [go_sem])
  have h1 : Below w.heap.size w w1 := ((Below.refl _ _).alloc (Nat.le_refl _) _).trans (B.mono (by simp))
  clear B
  go_wp2_with fail
  exact bodyPost_ret (v := .tuple #[.agg #[.int .i64 (tNum (inI (a - b)) (keep (inI (a - b)) (a - b))), .int .i64 (tFault (inI (a - b)))], .bool true]) (by simp [results, Tryd.results27, go_sem, k0, k1]) rfl
    ⟨rfl, (h1.setCell (by simp) _).setCell (by simp) _⟩

set_option maxHeartbeats 1000000 in
theorem num_mul (a b : Int) (ha : B64 a) (hb : B64 b) : NumbersC ⟨#[42]⟩ a b := by
  intro w
  have H := Lib.hid (rmul_any a b ha hb)
  have ho : vOp [42] a b = some (vTold (a * b)) := rfl
  rw [show (⟨#[42]⟩ : ByteArray).data.toList = [42] from rfl, ho]
  clear ho ha hb
  have hz1 : True := trivial

  go_enter Tryd.func27, Tryd.ntmps27
  go_wp2_with fail
  refine (H.out _).mono ?_; rintro e w1 ⟨rfl, rfl⟩
  go_wp2_with fail
  refine (vtold_any _ _ _).mono ?_; rintro e w1 ⟨rfl, B⟩
  have k0 := keep_cell B (p := ⟨w.heap.size, 0, none⟩) (v := .int .i64 0) (by simp [go_sem])
  have k1 := keep_cell B (p := ⟨w.heap.size, 1, none⟩) (v := .int .i64 0) (by simp [go_sem])
  have f0 := keep_frozen B (p := ⟨w.heap.size, 0, none⟩) (by simp) (by simp [go_sem])
  have f1 := keep_frozen B (p := ⟨w.heap.size, 1, none⟩) (by simp) (by simp [go_sem])
  have h1 : Below w.heap.size w w1 := ((Below.refl _ _).alloc (Nat.le_refl _) _).trans (B.mono (by simp))
  clear B
  go_wp2_with fail
  exact bodyPost_ret (v := .tuple #[.agg #[.int .i64 (tNum (inI (a * b)) (keep (inI (a * b)) (a * b))), .int .i64 (tFault (inI (a * b)))], .bool true]) (by simp [results, Tryd.results27, go_sem, k0, k1]) rfl
    ⟨rfl, (h1.setCell (by simp) _).setCell (by simp) _⟩

set_option maxHeartbeats 1000000 in
theorem num_div (a b : Int) (ha : B64 a) (hb : B64 b) (hz : b ≠ 0) : NumbersC ⟨#[47]⟩ a b := by
  intro w
  have H := Lib.hid (rdiv_any a b ha hb hz)
  have ho : vOp [47] a b = some (vTold (a.tdiv b)) := by show some (if b = 0 then _ else _) = _; rw [if_neg hz]
  rw [show (⟨#[47]⟩ : ByteArray).data.toList = [47] from rfl, ho]
  clear ho ha hb
  have hz1 : (b == 0) = false := by rw [beq_eq_false_iff_ne]; exact hz
  clear hz
  go_enter Tryd.func27, Tryd.ntmps27
  go_wp2_with fail
  refine (H.out _).mono ?_; rintro e w1 ⟨rfl, rfl⟩
  go_wp2_with fail
  refine (vtold_any _ _ _).mono ?_; rintro e w1 ⟨rfl, B⟩
  have k0 := keep_cell B (p := ⟨w.heap.size, 0, none⟩) (v := .int .i64 0) (by simp [go_sem])
  have k1 := keep_cell B (p := ⟨w.heap.size, 1, none⟩) (v := .int .i64 0) (by simp [go_sem])
  have f0 := keep_frozen B (p := ⟨w.heap.size, 0, none⟩) (by simp) (by simp [go_sem])
  have f1 := keep_frozen B (p := ⟨w.heap.size, 1, none⟩) (by simp) (by simp [go_sem])
  have h1 : Below w.heap.size w w1 := ((Below.refl _ _).alloc (Nat.le_refl _) _).trans (B.mono (by simp))
  clear B
  go_wp2_with fail
  exact bodyPost_ret (v := .tuple #[.agg #[.int .i64 (tNum (inI (a.tdiv b)) (keep (inI (a.tdiv b)) (a.tdiv b))), .int .i64 (tFault (inI (a.tdiv b)))], .bool true]) (by simp [results, Tryd.results27, go_sem, k0, k1]) rfl
    ⟨rfl, (h1.setCell (by simp) _).setCell (by simp) _⟩

set_option maxHeartbeats 1000000 in
theorem num_div0 (a : Int) : NumbersC ⟨#[47]⟩ a 0 := by
  intro w
  go_enter Tryd.func27, Tryd.ntmps27
  go_wp2_with fail
  exact bodyPost_ret (v := .tuple #[.agg #[.int .i64 0, .int .i64 2], .bool true]) (by simp [results, Tryd.results27, go_sem]) rfl
    ⟨rfl, (Below.refl _ _).alloc (Nat.le_refl _) _⟩
set_option maxHeartbeats 1000000 in
theorem num_lt (a b : Int) : NumbersC ⟨#[60]⟩ a b := by
  intro w
  go_enter Tryd.func27, Tryd.ntmps27
  go_wp2_with fail
  refine (vtruth_any (decide (a < b)) _).mono ?_; rintro e w1 ⟨rfl, B⟩
  have k0 := keep_cell B (p := ⟨w.heap.size, 0, none⟩) (v := .int .i64 0) (by simp [go_sem])
  have k1 := keep_cell B (p := ⟨w.heap.size, 1, none⟩) (v := .int .i64 0) (by simp [go_sem])
  have f0 := keep_frozen B (p := ⟨w.heap.size, 0, none⟩) (by simp) (by simp [go_sem])
  have f1 := keep_frozen B (p := ⟨w.heap.size, 1, none⟩) (by simp) (by simp [go_sem])
  have h1 : Below w.heap.size w w1 := ((Below.refl _ _).alloc (Nat.le_refl _) _).trans (B.mono (by simp))
  clear B
  go_wp2_with fail
  exact bodyPost_ret (v := .tuple #[.agg #[.int .i64 (tru (decide (a < b))), .int .i64 (0)], .bool true]) (by simp [results, Tryd.results27, go_sem, k0, k1]) rfl
    ⟨rfl, (h1.setCell (by simp) _).setCell (by simp) _⟩

set_option maxHeartbeats 1000000 in
theorem num_le (a b : Int) : NumbersC ⟨#[60, 61]⟩ a b := by
  intro w
  go_enter Tryd.func27, Tryd.ntmps27
  go_wp2_with fail
  refine (vtruth_any (decide (a ≤ b)) _).mono ?_; rintro e w1 ⟨rfl, B⟩
  have k0 := keep_cell B (p := ⟨w.heap.size, 0, none⟩) (v := .int .i64 0) (by simp [go_sem])
  have k1 := keep_cell B (p := ⟨w.heap.size, 1, none⟩) (v := .int .i64 0) (by simp [go_sem])
  have f0 := keep_frozen B (p := ⟨w.heap.size, 0, none⟩) (by simp) (by simp [go_sem])
  have f1 := keep_frozen B (p := ⟨w.heap.size, 1, none⟩) (by simp) (by simp [go_sem])
  have h1 : Below w.heap.size w w1 := ((Below.refl _ _).alloc (Nat.le_refl _) _).trans (B.mono (by simp))
  clear B
  go_wp2_with fail
  exact bodyPost_ret (v := .tuple #[.agg #[.int .i64 (tru (decide (a ≤ b))), .int .i64 (0)], .bool true]) (by simp [results, Tryd.results27, go_sem, k0, k1]) rfl
    ⟨rfl, (h1.setCell (by simp) _).setCell (by simp) _⟩

set_option maxHeartbeats 1000000 in
theorem num_eq (a b : Int) : NumbersC ⟨#[61]⟩ a b := by
  intro w
  go_enter Tryd.func27, Tryd.ntmps27
  go_wp2_with fail
  refine (vtruth_any (a == b) _).mono ?_; rintro e w1 ⟨rfl, B⟩
  have k0 := keep_cell B (p := ⟨w.heap.size, 0, none⟩) (v := .int .i64 0) (by simp [go_sem])
  have k1 := keep_cell B (p := ⟨w.heap.size, 1, none⟩) (v := .int .i64 0) (by simp [go_sem])
  have f0 := keep_frozen B (p := ⟨w.heap.size, 0, none⟩) (by simp) (by simp [go_sem])
  have f1 := keep_frozen B (p := ⟨w.heap.size, 1, none⟩) (by simp) (by simp [go_sem])
  have h1 : Below w.heap.size w w1 := ((Below.refl _ _).alloc (Nat.le_refl _) _).trans (B.mono (by simp))
  clear B
  go_wp2_with fail
  exact bodyPost_ret (v := .tuple #[.agg #[.int .i64 (tru (a == b)), .int .i64 (0)], .bool true]) (by simp [results, Tryd.results27, go_sem, k0, k1]) rfl
    ⟨rfl, (h1.setCell (by simp) _).setCell (by simp) _⟩

set_option maxHeartbeats 1000000 in
theorem num_ne (a b : Int) : NumbersC ⟨#[60, 62]⟩ a b := by
  intro w
  go_enter Tryd.func27, Tryd.ntmps27
  go_wp2_with fail
  refine (vtruth_any (a != b) _).mono ?_; rintro e w1 ⟨rfl, B⟩
  have k0 := keep_cell B (p := ⟨w.heap.size, 0, none⟩) (v := .int .i64 0) (by simp [go_sem])
  have k1 := keep_cell B (p := ⟨w.heap.size, 1, none⟩) (v := .int .i64 0) (by simp [go_sem])
  have f0 := keep_frozen B (p := ⟨w.heap.size, 0, none⟩) (by simp) (by simp [go_sem])
  have f1 := keep_frozen B (p := ⟨w.heap.size, 1, none⟩) (by simp) (by simp [go_sem])
  have h1 : Below w.heap.size w w1 := ((Below.refl _ _).alloc (Nat.le_refl _) _).trans (B.mono (by simp))
  clear B
  go_wp2_with fail
  exact bodyPost_ret (v := .tuple #[.agg #[.int .i64 (tru (a != b)), .int .i64 (0)], .bool true]) (by simp [results, Tryd.results27, go_sem, k0, k1]) rfl
    ⟨rfl, (h1.setCell (by simp) _).setCell (by simp) _⟩

set_option maxHeartbeats 1000000 in
theorem num_ge (a b : Int) : NumbersC ⟨#[62, 61]⟩ a b := by
  intro w
  go_enter Tryd.func27, Tryd.ntmps27
  go_wp2_with fail
  refine (vtruth_any (decide (b ≤ a)) _).mono ?_; rintro e w1 ⟨rfl, B⟩
  have k0 := keep_cell B (p := ⟨w.heap.size, 0, none⟩) (v := .int .i64 0) (by simp [go_sem])
  have k1 := keep_cell B (p := ⟨w.heap.size, 1, none⟩) (v := .int .i64 0) (by simp [go_sem])
  have f0 := keep_frozen B (p := ⟨w.heap.size, 0, none⟩) (by simp) (by simp [go_sem])
  have f1 := keep_frozen B (p := ⟨w.heap.size, 1, none⟩) (by simp) (by simp [go_sem])
  have h1 : Below w.heap.size w w1 := ((Below.refl _ _).alloc (Nat.le_refl _) _).trans (B.mono (by simp))
  clear B
  go_wp2_with fail
  exact bodyPost_ret (v := .tuple #[.agg #[.int .i64 (tru (decide (b ≤ a))), .int .i64 (0)], .bool true]) (by simp [results, Tryd.results27, go_sem, k0, k1]) rfl
    ⟨rfl, (h1.setCell (by simp) _).setCell (by simp) _⟩

set_option maxHeartbeats 1000000 in
theorem num_gt (a b : Int) : NumbersC ⟨#[62]⟩ a b := by
  intro w
  go_enter Tryd.func27, Tryd.ntmps27
  go_wp2_with fail
  refine (vtruth_any (decide (b < a)) _).mono ?_; rintro e w1 ⟨rfl, B⟩
  have k0 := keep_cell B (p := ⟨w.heap.size, 0, none⟩) (v := .int .i64 0) (by simp [go_sem])
  have k1 := keep_cell B (p := ⟨w.heap.size, 1, none⟩) (v := .int .i64 0) (by simp [go_sem])
  have f0 := keep_frozen B (p := ⟨w.heap.size, 0, none⟩) (by simp) (by simp [go_sem])
  have f1 := keep_frozen B (p := ⟨w.heap.size, 1, none⟩) (by simp) (by simp [go_sem])
  have h1 : Below w.heap.size w w1 := ((Below.refl _ _).alloc (Nat.le_refl _) _).trans (B.mono (by simp))
  clear B
  go_wp2_with fail
  exact bodyPost_ret (v := .tuple #[.agg #[.int .i64 (tru (decide (b < a))), .int .i64 (0)], .bool true]) (by simp [results, Tryd.results27, go_sem, k0, k1]) rfl
    ⟨rfl, (h1.setCell (by simp) _).setCell (by simp) _⟩

set_option maxHeartbeats 1000000 in
theorem num_none (s : ByteArray) (a b : Int) (h0 : s.data.toList ≠ [43]) (h1 : s.data.toList ≠ [45]) (h2 : s.data.toList ≠ [42]) (h3 : s.data.toList ≠ [47]) (h4 : s.data.toList ≠ [60]) (h5 : s.data.toList ≠ [60, 61]) (h6 : s.data.toList ≠ [61]) (h7 : s.data.toList ≠ [60, 62]) (h8 : s.data.toList ≠ [62, 61]) (h9 : s.data.toList ≠ [62]) : NumbersC s a b := by
  intro w
  have ho : vOp s.data.toList a b = none := by unfold vOp; simp only [h0, h1, h2, h3, h4, h5, h6, h7, h8, h9, if_false]
  rw [ho]
  clear ho
  have d0 : (s.toList == [43]) = false := by rw [ByteArray.toList_eq, beq_eq_false_iff_ne]; exact h0
  have d1 : (s.toList == [45]) = false := by rw [ByteArray.toList_eq, beq_eq_false_iff_ne]; exact h1
  have d2 : (s.toList == [42]) = false := by rw [ByteArray.toList_eq, beq_eq_false_iff_ne]; exact h2
  have d3 : (s.toList == [47]) = false := by rw [ByteArray.toList_eq, beq_eq_false_iff_ne]; exact h3
  have d4 : (s.toList == [60]) = false := by rw [ByteArray.toList_eq, beq_eq_false_iff_ne]; exact h4
  have d5 : (s.toList == [60, 61]) = false := by rw [ByteArray.toList_eq, beq_eq_false_iff_ne]; exact h5
  have d6 : (s.toList == [61]) = false := by rw [ByteArray.toList_eq, beq_eq_false_iff_ne]; exact h6
  have d7 : (s.toList == [60, 62]) = false := by rw [ByteArray.toList_eq, beq_eq_false_iff_ne]; exact h7
  have d8 : (s.toList == [62, 61]) = false := by rw [ByteArray.toList_eq, beq_eq_false_iff_ne]; exact h8
  have d9 : (s.toList == [62]) = false := by rw [ByteArray.toList_eq, beq_eq_false_iff_ne]; exact h9
  clear h0 h1 h2 h3 h4 h5 h6 h7 h8 h9
  go_enter Tryd.func27, Tryd.ntmps27
  go_wp2_with fail
  exact bodyPost_ret (v := .tuple #[.agg #[.int .i64 0, .int .i64 0], .bool false]) (by simp [results, Tryd.results27, go_sem]) rfl
    ⟨rfl, (Below.refl _ _).alloc (Nat.le_refl _) _⟩
theorem numbers_any (s : ByteArray) (a b : Int) (ha : B64 a) (hb : B64 b) : NumbersC s a b := by
  have eqs : ∀ l : List UInt8, s.data.toList = l → s = ⟨l.toArray⟩ := fun l h => by
    obtain ⟨d⟩ := s
    simp only at h
    rw [← h]
  by_cases h0 : s.data.toList = [43]
  · rw [eqs _ h0]; exact num_add a b ha hb
  by_cases h1 : s.data.toList = [45]
  · rw [eqs _ h1]; exact num_sub a b ha hb
  by_cases h2 : s.data.toList = [42]
  · rw [eqs _ h2]; exact num_mul a b ha hb
  by_cases h3 : s.data.toList = [47]
  · rw [eqs _ h3]
    by_cases hz : b = 0
    · subst hz; exact num_div0 a
    · exact num_div a b ha hb hz
  by_cases h4 : s.data.toList = [60]
  · rw [eqs _ h4]; exact num_lt a b
  by_cases h5 : s.data.toList = [60, 61]
  · rw [eqs _ h5]; exact num_le a b
  by_cases h6 : s.data.toList = [61]
  · rw [eqs _ h6]; exact num_eq a b
  by_cases h7 : s.data.toList = [60, 62]
  · rw [eqs _ h7]; exact num_ne a b
  by_cases h8 : s.data.toList = [62, 61]
  · rw [eqs _ h8]; exact num_ge a b
  by_cases h9 : s.data.toList = [62]
  · rw [eqs _ h9]; exact num_gt a b
  exact num_none s a b h0 h1 h2 h3 h4 h5 h6 h7 h8 h9
end Go.Proofs.YtpnmefkbfonhpaaDoor
