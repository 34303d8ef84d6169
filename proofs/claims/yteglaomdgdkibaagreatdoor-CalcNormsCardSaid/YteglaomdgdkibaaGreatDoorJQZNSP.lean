/- Short ways to say what is said often. -/
import Derived.RowKit
import Derived.Below
import Derived.Lib.Hide
set_option linter.all false
set_option maxHeartbeats 0
set_option maxRecDepth 99999
namespace Go.Proofs.YteglaomdgdkibaaGreatDoor
open Go.RowKit
variable {p:Prop}
def qsK(h:p:=by
 cases t with
 |mk k n c r d s w ks=>
  have:ee (.mk k n c r d s w ks)=(if k=0 then decide (0<=n) else if k=1 then rightB c r&&(c==d&&r==s) else if k=2 then true else if k=3 then dj ks 1 else if k=4 then decide (0<=(lvl w:Int) - 1)&&dj ks 2 else if k=5 then fV w ks else if k=6 then bW c r d s else false):=rfl;change ¬k=0 at h0
  change ¬k=1 at h1
  change ¬k=2 at h2
  change ¬k=3 at h3
  change ¬k=4 at h4
  change ¬k=5 at h5
  change ¬k=6 at h6
  rw [this,if_neg h0,if_neg h1,if_neg h2,if_neg h3,if_neg h4,if_neg h5,if_neg h6] at hso;cases hso):p:=h
end Go.Proofs.YteglaomdgdkibaaGreatDoor
