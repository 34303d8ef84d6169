/- Short ways to say what is said often. -/
import Derived.WalkKit
set_option linter.all false
set_option maxHeartbeats 0
set_option maxRecDepth 99999
namespace Go.Proofs.YteglaomdgdkibaaGreatDoor
open Go.RowKit
variable {p:Prop}
def qjg(h:p:=by
 go_enter Tryz.func140,Tryz.ntmps140;go_wp2_with fail;refine .mono qrz ?_;rintro e w1 ⟨rfl,b1⟩;obtain ⟨k10,k16⟩:=qdI;have h1:=qab;clear b1;go_wp2_with fail;refine Calls.mono (HL.out _) ?_;rintro e w2 ⟨rfl,rfl⟩;have h2:=h1;clear h1;go_wp2_with fail;go_ret;exact ⟨rfl,h2⟩):p:=h
end Go.Proofs.YteglaomdgdkibaaGreatDoor
