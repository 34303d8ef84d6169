/- The document's own answers on places: which may be, their index, and moves. -/
import Derived.Test.YtjfmmnebhmlkeaaDoorNumD
import Derived.Test.YtjfmmnebhmlkeaaDoorMem
import Derived.Deep.CutRange
import Derived.WalkSmall
import Derived.Lib.AtoiErrMem
namespace Go.Proofs.YtjfmmnebhmlkeaaDoor
open Go.RowKit

/-- may a place be? -/
def rightB (c r : Int) : Bool := decide (0 ≤ c ∧ c ≤ 15 ∧ 0 ≤ r ∧ r ≤ 63)
/-- a number, if it is told; else 0 -/
theorem rightB_iff (c r : Int) : rightB c r = true ↔ 0 ≤ c ∧ c ≤ 15 ∧ 0 ≤ r ∧ r ≤ 63 := by unfold rightB; simp
theorem rightB_not (c r : Int) : rightB c r = false ↔ ¬ (0 ≤ c ∧ c ≤ 15 ∧ 0 ≤ r ∧ r ≤ 63) := by unfold rightB; simp

set_option maxHeartbeats 400000 in
theorem rright_any (c r : Int) (w : World) :
    Calls Tryd.prog 42 #[.agg #[.int .i64 c, .int .i64 r]] w fun e w' => e = .returned (.bool (rightB c r)) ∧ Below w.heap.size w w' := by
  go_enter Tryd.func42, Tryd.ntmps42
  go_wp2_with fail
  all_goals go_ret
  · exact ⟨ret_bool (bool_iff (by rw [rightB_iff]; simp; omega)), (Below.refl _ _).alloc (Nat.le_refl _) _⟩
  · exact ⟨ret_bool ((rightB_not _ _).2 (by omega)).symm, (Below.refl _ _).alloc (Nat.le_refl _) _⟩
  · exact ⟨ret_bool ((rightB_not _ _).2 (by omega)).symm, (Below.refl _ _).alloc (Nat.le_refl _) _⟩
  · exact ⟨ret_bool ((rightB_not _ _).2 (by omega)).symm, (Below.refl _ _).alloc (Nat.le_refl _) _⟩

/-- an index that a place has -/
def idxB (i : Int) : Bool := decide (0 ≤ i ∧ i ≤ 1023)
/-- the place with an index: (0, 0), if there is none -/
def atC (i : Int) : Int := if 0 ≤ i ∧ i ≤ 1023 then i % 16 else 0
def atR (i : Int) : Int := if 0 ≤ i ∧ i ≤ 1023 then i / 16 else 0
set_option maxHeartbeats 400000 in
theorem rat_any (i : Int) (w : World) :
    Calls Tryd.prog 32 #[.int .i64 i] w fun e w' => e = .returned (.tuple #[.agg #[.int .i64 (atC i), .int .i64 (atR i)], .bool (idxB i)]) ∧ Below w.heap.size w w' := by
  by_cases h : 0 ≤ i ∧ i ≤ 1023
  · have e1 := Lib.hid (show atC i = i % 16 from if_pos h)
    have e2 := Lib.hid (show atR i = i / 16 from if_pos h)
    have e3 := Lib.hid (show idxB i = true from decide_eq_true h)
    obtain ⟨h1, h2⟩ := h
    go_enter Tryd.func32, Tryd.ntmps32
    go_wp2_with fail
    exact bodyPost_ret (v := .tuple #[.agg #[.int .i64 (i % 16), .int .i64 (i / 16)], .bool true]) (by simp [results, Tryd.results32, go_sem]) rfl
      ⟨by rw [e1.out, e2.out, e3.out], (Below.refl _ _).alloc (Nat.le_refl _) _⟩
  · have e1 := Lib.hid (show atC i = 0 from if_neg h)
    have e2 := Lib.hid (show atR i = 0 from if_neg h)
    have e3 := Lib.hid (show idxB i = false from decide_eq_false h)
    by_cases h1 : i < 0
    · clear h
      go_enter Tryd.func32, Tryd.ntmps32
      go_wp2_with fail
      exact bodyPost_ret (v := .tuple #[.agg #[.int .i64 0, .int .i64 0], .bool false]) (by simp [results, Tryd.results32, go_sem]) rfl
        ⟨by rw [e1.out, e2.out, e3.out], (Below.refl _ _).alloc (Nat.le_refl _) _⟩
    · have h2 : 1023 < i := by omega
      clear h
      go_enter Tryd.func32, Tryd.ntmps32
      go_wp2_with fail
      exact bodyPost_ret (v := .tuple #[.agg #[.int .i64 0, .int .i64 0], .bool false]) (by simp [results, Tryd.results32, go_sem]) rfl
        ⟨by rw [e1.out, e2.out, e3.out], (Below.refl _ _).alloc (Nat.le_refl _) _⟩

theorem atC_of (j : Nat) (h : j < 1024) : atC (j : Int) = (j : Int) % 16 := if_pos (by omega)
theorem atR_of (j : Nat) (h : j < 1024) : atR (j : Int) = (j : Int) / 16 := if_pos (by omega)
end Go.Proofs.YtjfmmnebhmlkeaaDoor
