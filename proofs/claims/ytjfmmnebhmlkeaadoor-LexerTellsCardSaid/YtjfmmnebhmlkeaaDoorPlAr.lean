/- place's own test whether a place may be. -/
import Derived.Test.YtjfmmnebhmlkeaaDoorRefA
import Derived.WalkLawsBesides
namespace Go.Proofs.YtjfmmnebhmlkeaaDoor
open Go.RowKit

set_option maxHeartbeats 400000 in
theorem pright_any (c r : Int) (w : World) :
    Calls Tryd.prog 37 #[.agg #[.int .i64 c, .int .i64 r]] w fun e w' => e = .returned (.bool (rightB c r)) ∧ Below w.heap.size w w' := by
  go_enter Tryd.func37, Tryd.ntmps37
  go_wp2_with fail
  all_goals go_ret
  · exact ⟨ret_bool (bool_iff (by rw [rightB_iff]; simp; omega)), (Below.refl _ _).alloc (Nat.le_refl _) _⟩
  · exact ⟨ret_bool ((rightB_not _ _).2 (by omega)).symm, (Below.refl _ _).alloc (Nat.le_refl _) _⟩
  · exact ⟨ret_bool ((rightB_not _ _).2 (by omega)).symm, (Below.refl _ _).alloc (Nat.le_refl _) _⟩
  · exact ⟨ret_bool ((rightB_not _ _).2 (by omega)).symm, (Below.refl _ _).alloc (Nat.le_refl _) _⟩
end Go.Proofs.YtjfmmnebhmlkeaaDoor
