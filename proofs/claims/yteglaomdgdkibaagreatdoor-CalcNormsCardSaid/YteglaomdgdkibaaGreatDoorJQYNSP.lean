/- Short ways to say what is said often. -/
import Derived.RowKit
import Derived.Below
import Derived.Lib.Hide
set_option linter.all false
set_option maxHeartbeats 0
set_option maxRecDepth 99999
namespace Go.Proofs.YteglaomdgdkibaaGreatDoor
open Go.RowKit
variable {p:Prop}
def qsL(h:p:=by with_reducible repeat' (first|exact qb|exact B3|exact B2|exact B1|exact qd|exact B3.size|exact B2.size|exact B1.size|refine Below.drew ?_|refine Below.alloc ?_ ?_ _|refine Below.setCell ?_ ?_ _)):p:=h
def qsM(h:p:=by with_reducible repeat' (first|exact qb|exact qd|refine Below.drew ?_|refine Below.alloc ?_ ?_ _|refine D5 ?_|refine Kc ?_)):p:=h
def qsN(h:p:=by with_reducible repeat' (first|exact qb|exact qd|refine Below.drew ?_)):p:=h
def qsO(h:p:=by with_reducible repeat' (first|exact qb|exact qd|refine Below.drew ?_|refine Below.alloc ?_ ?_ _|refine pY ?_|refine uD ?_)):p:=h
def qsP(h:p:=by with_reducible repeat' (first|exact qb|refine Below.drew ?_)):p:=h
def qsQ(h:p:=by with_reducible repeat' (first|exact qb|exact qd|refine Below.drew ?_|refine below_drewN ?_ _)):p:=h
def qsR(h:p:=by with_reducible repeat' (first|exact qb|refine Below.alloc ?_ qoj _|refine Below.drew ?_)):p:=h
def qsS(h:p:=by with_reducible repeat' (first|exact qd|refine D5 ?_|refine Kc ?_)):p:=h
end Go.Proofs.YteglaomdgdkibaaGreatDoor
