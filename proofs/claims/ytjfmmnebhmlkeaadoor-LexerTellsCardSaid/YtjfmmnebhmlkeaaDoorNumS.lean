/- How far a number is from 0: the document's own way. -/
import Derived.Test.YtjfmmnebhmlkeaaDoorProg
import Derived.Test.YtjfmmnebhmlkeaaDoorPl
import Derived.Test.YtjfmmnebhmlkeaaDoorRet
import Derived.WalkKit
import Derived.WalkSpells
import Derived.WalkLawsBesides
import Derived.Lib.Hide
namespace Go.Proofs.YtjfmmnebhmlkeaaDoor
open Go.RowKit



set_option maxHeartbeats 400000 in
theorem size_any (a : Int) (ha : B64 a) (w : World) :
    Calls Tryd.prog 51 #[.int .i64 a] w fun e w' => e = .returned (.int .u64 (absI a)) ∧ w = w' := by
  by_cases h : a < 0
  · go_enter Tryd.func51, Tryd.ntmps51
    go_wp2
    go_ret
    exact ⟨ret_u64 (by rw [absI_neg h]; unfold B64 at ha; simp only [IntKind.wrap_u64, wrap64]; omega), rfl⟩
  · go_enter Tryd.func51, Tryd.ntmps51
    go_wp2
    go_ret
    exact ⟨ret_u64 (by rw [absI_pos (by omega)]; unfold B64 at ha; simp only [IntKind.wrap_u64]; omega), rfl⟩
end Go.Proofs.YtjfmmnebhmlkeaaDoor
