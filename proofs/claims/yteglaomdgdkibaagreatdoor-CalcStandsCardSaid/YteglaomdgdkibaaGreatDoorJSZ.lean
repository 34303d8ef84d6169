import Derived.Test.YteglaomdgdkibaaGreatDoorRows
import Derived.WalkKit
import Derived.JoinedCond
set_option linter.all false
set_option maxRecDepth 99999
namespace Go.Proofs.YteglaomdgdkibaaGreatDoor.CaStands
open Go.ChangeShapes Go.WideShapes Go.ChangeAt Go.RowKit
theorem sa1:Tryz.pinned.checked.prog.funcNamed Rows.calcStandsRow.func=some 5:=by kernel_rfl
theorem sa2:joinedFacts Tryz.pinned.checked.prog 5 Tryz.f5 (OpenSpec.ofChange Rows.calcStandsSpec).bare Rows.calcStandsRow=true:=by kernel_rfl
end Go.Proofs.YteglaomdgdkibaaGreatDoor.CaStands
