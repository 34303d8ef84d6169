import Derived.Test.YteglaomdgdkibaaGreatDoorRows
import Derived.WalkKit
import Derived.JoinedCond
set_option linter.all false
set_option maxRecDepth 99999
namespace Go.Proofs.YteglaomdgdkibaaGreatDoor.CaNorms
open Go.ChangeShapes Go.WideShapes Go.ChangeAt Go.RowKit
open Go.ChangeMaps (open_string shut_string)
theorem sa1:Tryz.pinned.checked.prog.funcNamed Rows.calcNormsRow.func=some 3:=by kernel_rfl
theorem sa2:joinedFacts Tryz.pinned.checked.prog 3 Tryz.f3 (OpenSpec.ofChange Rows.calcNormsSpec).bare Rows.calcNormsRow=true:=by kernel_rfl
end Go.Proofs.YteglaomdgdkibaaGreatDoor.CaNorms
