/- Short ways to say what is said often. -/
import Derived.WalkKit
set_option linter.all false
set_option maxHeartbeats 0
set_option maxRecDepth 99999
namespace Go.Proofs.YteglaomdgdkibaaGreatDoor
open Go.RowKit
variable {p:Prop}
def qio(h:p:=by
 go_wp2_with fail;refine (HA.out _).mono ?_;rintro e w1 ⟨rfl,rfl⟩;go_wp2_with fail;refine (HB.out _).mono ?_;rintro e w1 ⟨rfl,rfl⟩;go_wp2_with fail;refine .mono qrE ?_;rintro e w1 ⟨rfl,rfl⟩;go_wp2_with fail;go_ret2;exact ⟨rfl,rfl⟩):p:=h
def qjw(h:p:=by
 clear hs h1 h2;go_enter Tryz.func216,Tryz.ntmps216;exact qio):p:=h
def qjx(h:p:=by
 clear hs h1 h2;go_enter Tryz.func217,Tryz.ntmps217;exact qio):p:=h
def qjE(h:p:=by
 clear hS hT hxy hy HP;go_wp2_with fail
 exact bodyPost_ret (v:=.agg #[.int .i64 0,.int .i64 y]) qqD rfl
  ⟨qnI,(hb.setCell qns _).setCell qns _⟩):p:=h
def qjL(h:p:=by
 clear HP;go_wp2_with fail
 exact bodyPost_ret (v:=.agg #[.int .i64 a,.int .i64 0]) qqD rfl
  ⟨qnI,(hb.setCell qns _).setCell qns _⟩):p:=h
def qmu(h:p:=by
 clear h hx;go_enter Tryz.func218,Tryz.ntmps218;exact qio):p:=h
end Go.Proofs.YteglaomdgdkibaaGreatDoor
