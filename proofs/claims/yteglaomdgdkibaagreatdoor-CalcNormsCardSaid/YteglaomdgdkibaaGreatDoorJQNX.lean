/- Short ways to say what is said often. -/
import Derived.OwnWalk
import Derived.WalkKit
set_option linter.all false
set_option maxHeartbeats 0
set_option maxRecDepth 99999
namespace Go.Proofs.YteglaomdgdkibaaGreatDoor
open Go.RowKit
variable {p:Prop}
def qjj(h:p:=by
 go_enter Tryz.func10,Tryz.ntmps10;go_wp2_with fail;refine (HN.out _).mono ?_;rintro e w1 ⟨rfl,rfl⟩;go_wp2_with fail;go_ret3
 exact ⟨rfl,qb⟩):p:=h
end Go.Proofs.YteglaomdgdkibaaGreatDoor
