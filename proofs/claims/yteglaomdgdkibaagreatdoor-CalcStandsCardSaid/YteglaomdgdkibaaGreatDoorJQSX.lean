/- Short ways to say what is said often. -/
import Derived.Deep.QuietTactic
import Derived.WalkKit
set_option linter.all false
set_option maxHeartbeats 0
set_option maxRecDepth 99999
namespace Go.Proofs.YteglaomdgdkibaaGreatDoor
open Go.RowKit
variable {p:Prop}
def qiP(h:p:=by
 go_wp2_with fail;go_quiet (fail)
 go_wp2_with fail;go_quiet (fail)
 go_wp2_with fail;go_roundw
 case rel=>exact ⟨i+1,qoq,qnG,HEnd.out _ (by repeat (first|exact qb|refine below_drewN ?_ _))⟩
 case measure=>simp [RowKit.intOf];omega):p:=h
def qiR(h:p:=by
 have e0:o+0*2=o:=by omega
 clear hS hxy HP;rw [e0] at a0 a1;clear e0;go_wp2_with fail;go_quiet (fail)
 go_wp2_with fail;go_roundw
 case rel=>exact ⟨0+1,x,qoq,qnG,qf ⟨fun h=>by omega,fun _=>HS.out⟩,((below_drewN hb _).setCell qns _).setCell qns _,(by simpa using z1),qrp,qrq,qrr,qrs,qpk,qpl,qrt,qpm⟩
 case measure=>simp [jv,RowKit.intOf];omega):p:=h
def qiT(h:p:=by
 clear hS hxy HP h0;go_wp2_with fail;go_quiet (fail)
 go_wp2_with fail;go_roundw
 case rel=>exact ⟨i+1,x,qoq,qnG,qf ⟨fun h=>by omega,fun _=>HS.out⟩,((below_drewN hb _).setCell qns _).setCell qns _,(by simpa using z1),qrp,qrq,qrr,qrs,qpk,qpl,qrt,qpm⟩
 case measure=>simp [jv,RowKit.intOf];omega):p:=h
def qiV(h:p:=by
 clear hS hxy HP h0;go_wp2_with fail;go_quiet (fail)
 go_wp2_with fail;go_roundw
 case rel=>exact ⟨i+1,a,qoq,qnG,qf ⟨fun h=>by omega,fun _=>HS.out⟩,below_drewN hb _,(by simpa using z1),qrp,qrq,qrr,qrs,qpk,qpl,qrt,qpm⟩
 case measure=>simp [jv,RowKit.intOf];omega):p:=h
def qjS(h:p:=by
 go_wp2_with fail;go_quiet (fail)
 go_wp2_with fail;go_roundw
 case rel=>exact ⟨i+1,qoq,qnG,HN2,below_drewN hb _⟩
 case measure=>simp [RowKit.intOf];omega):p:=h
end Go.Proofs.YteglaomdgdkibaaGreatDoor
