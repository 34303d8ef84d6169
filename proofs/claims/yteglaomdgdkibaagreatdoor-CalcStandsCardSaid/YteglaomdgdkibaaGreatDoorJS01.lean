import Derived.Test.YteglaomdgdkibaaGreatDoorJNS20
import Derived.Test.YteglaomdgdkibaaGreatDoorJQNSP
import Derived.Test.YteglaomdgdkibaaGreatDoorJQNSW
import Derived.Test.YteglaomdgdkibaaGreatDoorJQSP
import Derived.Test.YteglaomdgdkibaaGreatDoorJQSW
import Derived.Test.YteglaomdgdkibaaGreatDoorJQSX
set_option linter.all false
set_option maxHeartbeats 0
set_option maxRecDepth 99999
namespace Go.Proofs.YteglaomdgdkibaaGreatDoor
open Go.RowKit
open Value renaming int→ZZ,string→Zx,slice→Zw,agg→Zu
open IntKind renaming i64→ZY
open Ending renaming returned→ZX
open RowKit renaming Below→Z2
open Go renaming World→Z3
open Tryz
open Tryz renaming prog→ZW
open Option renaming some→ZV,none→ZU
open Bool renaming false→Zz,true→Zy
variable {l:List (Int×Int)}{P:Nat->Prop}{G:Int->Int->Int×Int}{p:Int×Int}{x y:Int}
theorem below_alloc {W0 W w1:Z3} {o:Obj} (B:Z2 W0.heap.size W0 W) (b:Z2 (W.alloc o).heap.size (W.alloc o) w1):Z2 W0.heap.size W0 w1:=
 (B.alloc B.size o).trans (b.mono (by have:=B.size;simp;omega))
theorem gK {a:Int} (ha:B64 a):0<=aC a/\aC a<=9223372036854775808:=by
 unfold aC B64 at*;split<;>omega
theorem G5 (a b:Int):sgn (decide (a<0) !=decide (b<0)) (aC a / aC b)=a.tdiv b:=by
 by_cases h1:a<0<;>by_cases h2:b<0
 ·rw [bF h1,bF h2,decide_eq_true h1,decide_eq_true h2]
  rw [<-Int.tdiv_eq_ediv_of_nonneg qoq,Int.neg_tdiv,Int.tdiv_neg];simp [sgn]
 ·rw [bF h1,bE h2,decide_eq_true h1,decide_eq_false h2]
  rw [<-Int.tdiv_eq_ediv_of_nonneg qoq,Int.neg_tdiv];simp [sgn]
 ·rw [bE h1,bF h2,decide_eq_false h1,decide_eq_true h2]
  rw [<-Int.tdiv_eq_ediv_of_nonneg qoq,Int.tdiv_neg];simp [sgn]
 ·rw [bE h1,bE h2,decide_eq_false h1,decide_eq_false h2]
  rw [<-Int.tdiv_eq_ediv_of_nonneg qoq];simp [sgn]
theorem zj (a b:Int):sgn (decide (a<0) !=decide (b<0)) (aC a*aC b)=a*b:=by
 by_cases h1:a<0<;>by_cases h2:b<0
 ·rw [bF h1,bF h2,decide_eq_true h1,decide_eq_true h2,Int.neg_mul_neg];simp [sgn]
 ·rw [bF h1,bE h2,decide_eq_true h1,decide_eq_false h2,Int.neg_mul];simp [sgn]
 ·rw [bE h1,bF h2,decide_eq_false h1,decide_eq_true h2,Int.mul_neg];simp [sgn]
 ·rw [bE h1,bE h2,decide_eq_false h1,decide_eq_false h2];simp [sgn]
theorem Db (n:Int) (ok:Bool) (w:Z3):
 Calls ZW 215 #[ZZ ZY n,.bool ok] w fun e w'=>e=ZX (Zu #[ZZ ZY (gD ok n),ZZ ZY (eu ok)])/\Z2 w.heap.size w w':=by
 cases ok
 ·go_enter func215,ntmps215
  go_wp2_with fail;exact bodyPost_ret (v:=Zu #[ZZ ZY 0,ZZ ZY 1]) qqV rfl ⟨rfl,qa⟩
 ·go_enter func215,ntmps215
  go_wp2_with fail;exact bodyPost_ret (v:=Zu #[ZZ ZY n,ZZ ZY 0]) qqV rfl ⟨rfl,qa⟩
theorem fX (b:Bool) (w:Z3):
 Calls ZW 220 #[.bool b] w fun e w'=>e=ZX (Zu #[ZZ ZY (tru b),ZZ ZY 0])/\Z2 w.heap.size w w':=by
 cases b
 ·go_enter func220,ntmps220
  go_wp2_with fail;exact bodyPost_ret (v:=Zu #[ZZ ZY 0,ZZ ZY 0]) qqW rfl ⟨rfl,qa⟩
 ·go_enter func220,ntmps220
  go_wp2_with fail;exact bodyPost_ret (v:=Zu #[ZZ ZY 1,ZZ ZY 0]) qqW rfl ⟨rfl,qa⟩
theorem ly (x y:Int) (m:Bool) (hx:0<=x) (hx':x<=9223372036854775808) (hy:0<=y) (hy':y<=9223372036854775808) (w:Z3):
 Calls ZW 267 #[.int .u64 x,.int .u64 y,.bool m] w fun e w'=>e=ZX (.tuple #[ZZ ZY (ci (inI (sgn m (x+y))) (sgn m (x+y))),.bool (inI (sgn m (x+y)))])/\w=w':=by
 by_cases h:9223372036854775808 - y<x
 ·go_enter func267,ntmps267
  go_wp2_with fail;go_ret2;exact ⟨gS (ld (by unfold sgn B64;split<;>omega)),rfl⟩
 ·go_enter func267,ntmps267
  go_wp2_with fail;refine (cK _ _ qoq _).mono ?_;rintro e w1 ⟨rfl,rfl⟩;go_wp2_with fail;exact qjf


theorem GL (a b:Int) (ha:B64 a) (hb:B64 b) (w:Z3):
 Calls ZW 216 #[ZZ ZY a,ZZ ZY b] w fun e w'=>e=ZX (.tuple #[ZZ ZY (ci (inI (a+b)) (a+b)),.bool (inI (a+b))])/\w=w':=by
 obtain ⟨a0,a1⟩:=gK ha;obtain ⟨b0,b1⟩:=gK hb;obtain ⟨HA,HB⟩:=qfm;clear ha hb;by_cases h1:a<0<;>by_cases h2:b<0
 ·have hs:sgn Zy (aC a+aC b)=a+b:=by rw [gI,bF h1,bF h2];omega
  rw [<-hs];have HC:=qf (ly (aC a) (aC b) Zy a0 a1 b0 b1);have d1:=qdl;have d2:=qdm;exact qjw
 ·by_cases h3:aC b<=aC a
  ·have hs:sgn Zy (aC a - aC b)=a+b:=by rw [gI,bF h1,bE h2];omega
   rw [<-hs];have HC:=qf (cK (aC a - aC b) Zy qoq);have d1:=qdl;have d2:=qdg;exact qjw
  ·have hs:sgn Zz (aC b - aC a)=a+b:=by rw [gQ,bF h1,bE h2];omega
   rw [<-hs];have HC:=qf (cK (aC b - aC a) Zz qoq);have d1:=qdl;have d2:=qdg;exact qjw
 ·by_cases h3:aC b<=aC a
  ·have hs:sgn Zz (aC a - aC b)=a+b:=by rw [gQ,bE h1,bF h2];omega
   rw [<-hs];have HC:=qf (cK (aC a - aC b) Zz qoq);have d1:=qdh;have d2:=qdm;exact qjw
  ·have hs:sgn Zy (aC b - aC a)=a+b:=by rw [gI,bE h1,bF h2];omega
   rw [<-hs];have HC:=qf (cK (aC b - aC a) Zy qoq);have d1:=qdh;have d2:=qdm;exact qjw
 ·have hs:sgn Zz (aC a+aC b)=a+b:=by rw [gQ,bE h1,bE h2]
  rw [<-hs];have HC:=qf (ly (aC a) (aC b) Zz a0 a1 b0 b1);have d1:=qdh;have d2:=qdg;exact qjw

theorem Ic (a b:Int) (ha:B64 a) (hb:B64 b) (w:Z3):
 Calls ZW 217 #[ZZ ZY a,ZZ ZY b] w fun e w'=>e=ZX (.tuple #[ZZ ZY (ci (inI (a - b)) (a - b)),.bool (inI (a - b))])/\w=w':=by
 obtain ⟨a0,a1⟩:=gK ha;obtain ⟨b0,b1⟩:=gK hb;obtain ⟨HA,HB⟩:=qfm;clear ha hb;by_cases h1:a<0<;>by_cases h2:b<0
 ·by_cases h3:aC b<=aC a
  ·have hs:sgn Zy (aC a - aC b)=a - b:=by rw [gI,bF h1,bF h2];omega
   rw [<-hs];have HC:=qf (cK (aC a - aC b) Zy qoq);exact qmq
  ·have hs:sgn Zz (aC b - aC a)=a - b:=by rw [gQ,bF h1,bF h2];omega
   rw [<-hs];have HC:=qf (cK (aC b - aC a) Zz qoq);exact qmq
 ·have hs:sgn Zy (aC a+aC b)=a - b:=by rw [gI,bF h1,bE h2];omega
  rw [<-hs];have HC:=qf (ly (aC a) (aC b) Zy a0 a1 b0 b1);have d1:=qdl;have d3:=qft;have d2:=qdg;exact qjx
 ·have hs:sgn Zz (aC a+aC b)=a - b:=by rw [gQ,bE h1,bF h2];omega
  rw [<-hs];have HC:=qf (ly (aC a) (aC b) Zz a0 a1 b0 b1);have d1:=qdh;have d3:=qfB;have d2:=qdm;exact qjx
 ·by_cases h3:aC b<=aC a
  ·have hs:sgn Zz (aC a - aC b)=a - b:=by rw [gQ,bE h1,bE h2]
   rw [<-hs];have HC:=qf (cK (aC a - aC b) Zz qoq);exact qmr
  ·have hs:sgn Zy (aC b - aC a)=a - b:=by rw [gI,bE h1,bE h2];omega
   rw [<-hs];have HC:=qf (cK (aC b - aC a) Zy qoq);exact qmr
theorem GH (a b:Int) (ha:B64 a) (hb:B64 b) (h0:b≠0) (w:Z3):
 Calls ZW 219 #[ZZ ZY a,ZZ ZY b] w fun e w'=>e=ZX (.tuple #[ZZ ZY (ci (inI (a.tdiv b)) (a.tdiv b)),.bool (inI (a.tdiv b))])/\w=w':=by
 obtain ⟨a0,a1⟩:=gK ha;obtain ⟨b0,b1⟩:=gK hb;have b2:0<aC b:=(by unfold aC;split<;>omega);obtain ⟨HA,HB⟩:=qfm;have hz:=qgS;rw [<-G5 a b];have HC:=qf (cK (aC a / aC b) (decide (a<0) !=decide (b<0)) (Int.ediv_nonneg a0 b0));clear ha hb;go_enter func219,ntmps219;go_wp2_with fail;refine (HA.out _).mono ?_;rintro e w1 ⟨rfl,rfl⟩;go_wp2_with fail;refine (HB.out _).mono ?_;rintro e w1 ⟨rfl,rfl⟩;go_wp2_with fail;refine .mono qrE ?_;rintro e w1 ⟨rfl,rfl⟩;go_wp2_with fail;go_ret2;exact ⟨rfl,rfl⟩

theorem JX (a b:Int) (ha:B64 a) (hb:B64 b) (w:Z3):
 Calls ZW 218 #[ZZ ZY a,ZZ ZY b] w fun e w'=>e=ZX (.tuple #[ZZ ZY (ci (inI (a*b)) (a*b)),.bool (inI (a*b))])/\w=w':=by
 obtain ⟨a0,a1⟩:=gK ha;obtain ⟨b0,b1⟩:=gK hb;obtain ⟨HA,HB⟩:=qfm;by_cases h:aC a≠0/\9223372036854775808 / aC a<aC b
 ·have hn:¬B64 (a*b):=by
   rw [<-zj a b];obtain ⟨h1,h2⟩:=h;have:=(Int.ediv_lt_iff_lt_mul qoq).1 h2;rw [Int.mul_comm] at this;generalize aC a*aC b=p at this;unfold B64 sgn;split<;>omega
  have HN:=qf (ld hn);obtain ⟨h1,h2⟩:=h;have h3:0<aC a:=qoq;clear ha hb hn;go_enter func218,ntmps218;go_wp2_with fail;refine (HA.out _).mono ?_;rintro e w1 ⟨rfl,rfl⟩;go_wp2_with fail;refine (HB.out _).mono ?_;rintro e w1 ⟨rfl,rfl⟩;go_wp2_with fail;go_ret2;exact ⟨gS HN.out,rfl⟩
 ·have p0:0<=aC a*aC b:=Int.mul_nonneg a0 b0
  have p1:aC a*aC b<=9223372036854775808:=by
   by_cases hx:aC a=0
   ·rw [hx];omega
   ·have hy:aC b<=9223372036854775808 / aC a:=by omega
    have:=(Int.le_ediv_iff_mul_le qoq).1 hy;rwa [Int.mul_comm] at this
  have HC:=qf (cK (aC a*aC b) (decide (a<0) !=decide (b<0)) p0);rw [<-zj a b];clear ha hb;by_cases hx:aC a=0
  ·have h3:(aC a !=0)=Zz:=by simpa using hx
   exact qmu
  ·have h3:(aC a !=0)=Zy:=by simpa using hx
   have h4:¬9223372036854775808 / aC a<aC b:=fun h5=>h ⟨hx,h5⟩
   have h5:0<aC a:=qoq;exact qmu
def cV (s:ByteArray) (a b:Int):Prop:=∀w,Calls ZW 162 #[.string s,ZZ ZY a,ZZ ZY b] w fun e w'=>
 e=ZX (.tuple #[Zu #[ZZ ZY (mI (vOp s.data.toList a b)),ZZ ZY (mJ (vOp s.data.toList a b))],.bool (vOp s.data.toList a b).isSome])/\Z2 w.heap.size w w'

theorem LW (a b:Int) (ha:B64 a) (hb:B64 b):cV ⟨#[43]⟩ a b:=by
 intro w;have H:=qf (GL a b ha hb);have ho:vOp [43] a b=ZV (cJ (a+b)):=rfl;rw [show (⟨#[43]⟩:ByteArray).data.toList=[43] from rfl,ho];have hz1:True:=trivial;clear ho ha hb;go_enter func162,ntmps162;go_wp2_with fail;refine .mono qrz ?_;rintro e w1 ⟨rfl,rfl⟩;go_wp2_with fail;refine .mono qsp ?_;rintro e w1 ⟨rfl,B⟩;obtain ⟨k0,k1,f0,f1,h1⟩:=qz;clear B;go_wp2_with fail
 exact bodyPost_ret (v:=.tuple #[Zu #[ZZ ZY (gD (inI (a+b)) (ci (inI (a+b)) (a+b))),ZZ ZY (eu (inI (a+b)))],.bool Zy]) qnJ rfl
  ⟨rfl,(h1.setCell qns _).setCell qns _⟩

theorem K3 (a b:Int) (ha:B64 a) (hb:B64 b):cV ⟨#[45]⟩ a b:=by
 intro w;have H:=qf (Ic a b ha hb);have ho:vOp [45] a b=ZV (cJ (a - b)):=rfl;rw [show (⟨#[45]⟩:ByteArray).data.toList=[45] from rfl,ho];have hz1:True:=trivial;clear ho ha hb;go_enter func162,ntmps162;go_wp2_with fail;refine .mono qrz ?_;rintro e w1 ⟨rfl,rfl⟩;go_wp2_with fail;refine .mono qsp ?_;rintro e w1 ⟨rfl,B⟩;obtain ⟨k0,k1,f0,f1,h1⟩:=qz;clear B;go_wp2_with fail
 exact bodyPost_ret (v:=.tuple #[Zu #[ZZ ZY (gD (inI (a - b)) (ci (inI (a - b)) (a - b))),ZZ ZY (eu (inI (a - b)))],.bool Zy]) qnJ rfl
  ⟨rfl,(h1.setCell qns _).setCell qns _⟩

theorem KX (a b:Int) (ha:B64 a) (hb:B64 b):cV ⟨#[42]⟩ a b:=by
 intro w;have H:=qf (JX a b ha hb);have ho:vOp [42] a b=ZV (cJ (a*b)):=rfl;rw [show (⟨#[42]⟩:ByteArray).data.toList=[42] from rfl,ho];have hz1:True:=trivial;clear ho ha hb;go_enter func162,ntmps162;go_wp2_with fail;refine .mono qrz ?_;rintro e w1 ⟨rfl,rfl⟩;go_wp2_with fail;refine .mono qsp ?_;rintro e w1 ⟨rfl,B⟩;obtain ⟨k0,k1,f0,f1,h1⟩:=qz;clear B;go_wp2_with fail
 exact bodyPost_ret (v:=.tuple #[Zu #[ZZ ZY (gD (inI (a*b)) (ci (inI (a*b)) (a*b))),ZZ ZY (eu (inI (a*b)))],.bool Zy]) qnJ rfl
  ⟨rfl,(h1.setCell qns _).setCell qns _⟩

theorem Lp (a b:Int) (ha:B64 a) (hb:B64 b) (hz:b≠0):cV ⟨#[47]⟩ a b:=by
 intro w;have H:=qf (GH a b ha hb hz);have ho:vOp [47] a b=ZV (cJ (a.tdiv b)):=(by show ZV (if b=0 then _ else _)=_;rw [if_neg hz]);rw [show (⟨#[47]⟩:ByteArray).data.toList=[47] from rfl,ho];have hz1:=qid;clear ho ha hb hz;go_enter func162,ntmps162;go_wp2_with fail;refine .mono qrz ?_;rintro e w1 ⟨rfl,rfl⟩;go_wp2_with fail;refine .mono qsp ?_;rintro e w1 ⟨rfl,B⟩;obtain ⟨k0,k1,f0,f1,h1⟩:=qz;clear B;go_wp2_with fail
 exact bodyPost_ret (v:=.tuple #[Zu #[ZZ ZY (gD (inI (a.tdiv b)) (ci (inI (a.tdiv b)) (a.tdiv b))),ZZ ZY (eu (inI (a.tdiv b)))],.bool Zy]) qnJ rfl
  ⟨rfl,(h1.setCell qns _).setCell qns _⟩

theorem IV (a:Int):cV ⟨#[47]⟩ a 0:=by
 intro w;go_enter func162,ntmps162;go_wp2_with fail
 exact bodyPost_ret (v:=.tuple #[Zu #[ZZ ZY 0,ZZ ZY 2],.bool Zy]) qqX rfl
  ⟨rfl,qa⟩
theorem Oe (a b:Int):cV ⟨#[60]⟩ a b:=by
 intro w;go_enter func162,ntmps162;go_wp2_with fail;refine (fX (decide (a<b)) _).mono ?_;rintro e w1 ⟨rfl,B⟩;obtain ⟨k0,k1,f0,f1,h1⟩:=qz;clear B;go_wp2_with fail
 exact bodyPost_ret (v:=.tuple #[Zu #[ZZ ZY (tru (decide (a<b))),ZZ ZY (0)],.bool Zy]) qnJ rfl
  ⟨rfl,(h1.setCell qns _).setCell qns _⟩

theorem Oi (a b:Int):cV ⟨#[60,61]⟩ a b:=by
 intro w;go_enter func162,ntmps162;go_wp2_with fail;refine (fX (decide (a<=b)) _).mono ?_;rintro e w1 ⟨rfl,B⟩;obtain ⟨k0,k1,f0,f1,h1⟩:=qz;clear B;go_wp2_with fail
 exact bodyPost_ret (v:=.tuple #[Zu #[ZZ ZY (tru (decide (a<=b))),ZZ ZY (0)],.bool Zy]) qnJ rfl
  ⟨rfl,(h1.setCell qns _).setCell qns _⟩

theorem MU (a b:Int):cV ⟨#[61]⟩ a b:=by
 intro w;go_enter func162,ntmps162;go_wp2_with fail;refine (fX (a==b) _).mono ?_;rintro e w1 ⟨rfl,B⟩;obtain ⟨k0,k1,f0,f1,h1⟩:=qz;clear B;go_wp2_with fail
 exact bodyPost_ret (v:=.tuple #[Zu #[ZZ ZY (tru (a==b)),ZZ ZY (0)],.bool Zy]) qnJ rfl
  ⟨rfl,(h1.setCell qns _).setCell qns _⟩

theorem MY (a b:Int):cV ⟨#[60,62]⟩ a b:=by
 intro w;go_enter func162,ntmps162;go_wp2_with fail;refine (fX (a !=b) _).mono ?_;rintro e w1 ⟨rfl,B⟩;obtain ⟨k0,k1,f0,f1,h1⟩:=qz;clear B;go_wp2_with fail
 exact bodyPost_ret (v:=.tuple #[Zu #[ZZ ZY (tru (a !=b)),ZZ ZY (0)],.bool Zy]) qnJ rfl
  ⟨rfl,(h1.setCell qns _).setCell qns _⟩

theorem Oo (a b:Int):cV ⟨#[62,61]⟩ a b:=by
 intro w;go_enter func162,ntmps162;go_wp2_with fail;refine (fX (decide (b<=a)) _).mono ?_;rintro e w1 ⟨rfl,B⟩;obtain ⟨k0,k1,f0,f1,h1⟩:=qz;clear B;go_wp2_with fail
 exact bodyPost_ret (v:=.tuple #[Zu #[ZZ ZY (tru (decide (b<=a))),ZZ ZY (0)],.bool Zy]) qnJ rfl
  ⟨rfl,(h1.setCell qns _).setCell qns _⟩

theorem Ny (a b:Int):cV ⟨#[62]⟩ a b:=by
 intro w;go_enter func162,ntmps162;go_wp2_with fail;refine (fX (decide (b<a)) _).mono ?_;rintro e w1 ⟨rfl,B⟩;obtain ⟨k0,k1,f0,f1,h1⟩:=qz;clear B;go_wp2_with fail
 exact bodyPost_ret (v:=.tuple #[Zu #[ZZ ZY (tru (decide (b<a))),ZZ ZY (0)],.bool Zy]) qnJ rfl
  ⟨rfl,(h1.setCell qns _).setCell qns _⟩

theorem IE (s:ByteArray) (a b:Int) (h0:s.data.toList≠[43]) (h1:s.data.toList≠[45]) (h2:s.data.toList≠[42]) (h3:s.data.toList≠[47]) (h4:s.data.toList≠[60]) (h5:s.data.toList≠[60,61]) (h6:s.data.toList≠[61]) (h7:s.data.toList≠[60,62]) (h8:s.data.toList≠[62,61]) (h9:s.data.toList≠[62]):cV s a b:=by
 intro w;have ho:vOp s.data.toList a b=ZU:=(by unfold vOp;simp only [h0,h1,h2,h3,h4,h5,h6,h7,h8,h9,if_false]);rw [ho];have d0:(s.toList==[43])=Zz:=(by rw [ByteArray.toList_eq,beq_eq_false_iff_ne];exact h0);have d1:(s.toList==[45])=Zz:=(by rw [ByteArray.toList_eq,beq_eq_false_iff_ne];exact h1);have d2:(s.toList==[42])=Zz:=(by rw [ByteArray.toList_eq,beq_eq_false_iff_ne];exact h2);have d3:(s.toList==[47])=Zz:=(by rw [ByteArray.toList_eq,beq_eq_false_iff_ne];exact h3);have d4:(s.toList==[60])=Zz:=(by rw [ByteArray.toList_eq,beq_eq_false_iff_ne];exact h4);have d5:(s.toList==[60,61])=Zz:=(by rw [ByteArray.toList_eq,beq_eq_false_iff_ne];exact h5);have d6:(s.toList==[61])=Zz:=(by rw [ByteArray.toList_eq,beq_eq_false_iff_ne];exact h6);have d7:(s.toList==[60,62])=Zz:=(by rw [ByteArray.toList_eq,beq_eq_false_iff_ne];exact h7);have d8:(s.toList==[62,61])=Zz:=(by rw [ByteArray.toList_eq,beq_eq_false_iff_ne];exact h8);have d9:(s.toList==[62])=Zz:=(by rw [ByteArray.toList_eq,beq_eq_false_iff_ne];exact h9);clear ho h0 h1 h2 h3 h4 h5 h6 h7 h8 h9;go_enter func162,ntmps162;go_wp2_with fail
 exact bodyPost_ret (v:=.tuple #[Zu #[ZZ ZY 0,ZZ ZY 0],.bool Zz]) qqX rfl
  ⟨rfl,qa⟩
theorem yn (s:ByteArray) (a b:Int) (ha:B64 a) (hb:B64 b):cV s a b:=by
 have eqs:∀l:List UInt8,s.data.toList=l->s=⟨l.toArray⟩:=fun l h=>by
  obtain ⟨d⟩:=s;simp only at h;rw [<-h]
 by_cases h0:s.data.toList=[43]
 ·rw [eqs _ h0];exact LW a b ha hb
 by_cases h1:s.data.toList=[45]
 ·rw [eqs _ h1];exact K3 a b ha hb
 by_cases h2:s.data.toList=[42]
 ·rw [eqs _ h2];exact KX a b ha hb
 by_cases h3:s.data.toList=[47]
 ·rw [eqs _ h3]
  by_cases hz:b=0
  ·subst hz;exact IV a
  ·exact Lp a b ha hb hz
 by_cases h4:s.data.toList=[60]
 ·rw [eqs _ h4];exact Oe a b
 by_cases h5:s.data.toList=[60,61]
 ·rw [eqs _ h5];exact Oi a b
 by_cases h6:s.data.toList=[61]
 ·rw [eqs _ h6];exact MU a b
 by_cases h7:s.data.toList=[60,62]
 ·rw [eqs _ h7];exact MY a b
 by_cases h8:s.data.toList=[62,61]
 ·rw [eqs _ h8];exact Oo a b
 by_cases h9:s.data.toList=[62]
 ·rw [eqs _ h9];exact Ny a b
 exact IE s a b h0 h1 h2 h3 h4 h5 h6 h7 h8 h9
theorem sv (s:ByteArray) (n f m g:Int) (hn:B64 n) (hm:B64 m) (w:Z3):
 Calls ZW 112 #[.string s,Zu #[ZZ ZY n,ZZ ZY f],Zu #[ZZ ZY m,ZZ ZY g]] w fun e w'=>
  e=ZX (.tuple #[Zu #[ZZ ZY (cQ s.data.toList n f m g),ZZ ZY (cd s.data.toList n f m g)],.bool (vOp s.data.toList n m).isSome])/\Z2 w.heap.size w w':=by
 have H:=qf (yn s n m hn hm);unfold cV at H;have hX:vOp s.data.toList n m=ZU->mI (vOp s.data.toList n m)=0:=fun h=>by rw [h];rfl
 unfold cQ cd;have hZ:(vOp s.data.toList n m).isSome=Zz->mI (vOp s.data.toList n m)=0:=fun h=>hX (by cases ho:vOp s.data.toList n m with|none=>rfl|some p=>rw [ho] at h;cases h)
 clear hX hn hm;generalize mI (vOp s.data.toList n m)=X at*;generalize mJ (vOp s.data.toList n m)=Y at*;generalize (vOp s.data.toList n m).isSome=Z at*;have HZ:=qf hZ;clear hZ;cases Z with
 |false=>
  have hx0:=HZ.out rfl;subst hx0;have e1:(if f=0/\g=0 then (0:Int) else 0)=0:=(by split<;>rfl);rw [e1];clear e1;go_enter func112,ntmps112;go_wp2_with fail;refine .mono qrz ?_;rintro e w1 ⟨rfl,b1⟩;obtain ⟨k0,k1⟩:=qbx;obtain ⟨f0,f1,z1⟩:=qaV;have h1:=qct;clear b1;go_wp2_with fail
  exact bodyPost_ret (v:=.tuple #[Zu #[ZZ ZY 0,ZZ ZY 0],.bool Zz]) qoL rfl
   ⟨rfl,((h1.setCell qnu _).setCell qnu _).alloc qpA _⟩
 |true=>
  have HR:Hid ((if f=0/\g=0 then X else 0)=(if f=0 then (if g=0 then X else 0) else 0)):=qf (by by_cases a:f=0<;>by_cases b:g=0<;>simp [a,b]);rw [HR.out];clear HR HZ;by_cases hf:f=0
  ·subst hf
   by_cases hg:g=0
   ·subst hg
    go_enter func112,ntmps112;go_wp2_with fail;refine .mono qrz ?_;rintro e w1 ⟨rfl,b1⟩;obtain ⟨k0,k1⟩:=qbx;have k2:=qgi;have k3:=aa b1 (p:=⟨w.heap.size+1,1,ZU⟩) (v:=ZZ ZY 0) qnp;obtain ⟨f0,f1,z1⟩:=qaV;have z2:w.heap.size+1<w1.heap.size:=qoq;have z3:=qgO;have h1:=qct;clear b1;go_wp2_with fail
    exact bodyPost_ret (v:=.tuple #[Zu #[ZZ ZY X,ZZ ZY Y],.bool Zy]) qoL rfl
     ⟨rfl,((h1.setCell qnu _).setCell qnu _).alloc qpA _⟩
   ·have d2:(g !=0)=Zy:=by rw [bne_iff_ne];exact hg
    rw [if_pos rfl,if_neg hg,if_pos rfl,if_pos rfl,if_neg hg];clear hg;go_enter func112,ntmps112;go_wp2_with fail;refine .mono qrz ?_;rintro e w1 ⟨rfl,b1⟩;obtain ⟨k0,k1⟩:=qbx;have k2:=qgi;have k3:=aa b1 (p:=⟨w.heap.size+1,1,ZU⟩) (v:=ZZ ZY g) qnp;obtain ⟨f0,f1,z1⟩:=qaV;have z2:w.heap.size+1<w1.heap.size:=qoq;have z3:=qgO;have h1:=qct;clear b1;go_wp2_with fail
    exact bodyPost_ret (v:=.tuple #[Zu #[ZZ ZY 0,ZZ ZY g],.bool Zy]) qoL rfl
     ⟨rfl,((h1.setCell qnu _).setCell qnu _).alloc qpA _⟩
  ·have d2:(f !=0)=Zy:=by rw [bne_iff_ne];exact hf
   rw [if_neg hf,if_pos rfl,if_neg hf];clear hf;go_enter func112,ntmps112;go_wp2_with fail;refine .mono qrz ?_;rintro e w1 ⟨rfl,b1⟩;obtain ⟨k0,k1⟩:=qbx;have k2:=aa b1 (p:=⟨w.heap.size,1,ZU⟩) (v:=ZZ ZY f) qnp;obtain ⟨f0,f1,z1⟩:=qaV;have z3:=qgO;have h1:=qct;clear b1;go_wp2_with fail
   exact bodyPost_ret (v:=.tuple #[Zu #[ZZ ZY 0,ZZ ZY f],.bool Zy]) qoL rfl
    ⟨rfl,((h1.setCell qnu _).setCell qnu _).alloc qpA _⟩

theorem Hv (n f:Int) (hn:B64 n) (w:Z3):
 Calls ZW 111 #[Zu #[ZZ ZY n,ZZ ZY f]] w fun e w'=>e=ZX (Zu #[ZZ ZY (cQ [45] 0 0 n f),ZZ ZY (cd [45] 0 0 n f)])/\Z2 w.heap.size w w':=by
 have H:=qf (sv ⟨#[45]⟩ 0 0 n f qnY hn);clear hn;rw [show (⟨#[45]⟩:ByteArray).data.toList=[45] from rfl] at H;generalize cQ [45] 0 0 n f=X at*;generalize cd [45] 0 0 n f=Y at*;go_enter func111,ntmps111;go_wp2_with fail;refine .mono qrz ?_;rintro e w1 ⟨rfl,b1⟩;obtain ⟨k0,k1,f0,f1⟩:=qcj;have z1:w.heap.size+1<w1.heap.size:=qpI;have h1:=qcQ;clear b1;go_wp2_with fail
 exact bodyPost_ret (v:=Zu #[ZZ ZY X,ZZ ZY Y]) (by simp [results,results111,go_sem,k0,k1,z1]) rfl
  ⟨rfl,((h1.setCell qns _).setCell qns _).alloc qpA _⟩
theorem GY (a b c d x y:Int) (w:Z3):
 Calls ZW 146 #[Zu #[ZZ ZY a,ZZ ZY b,ZZ ZY c,ZZ ZY d],Zu #[ZZ ZY x,ZZ ZY y]] w fun e w'=>e=ZX (.bool (dM a b c d x y))/\Z2 w.heap.size w w':=by
 have HW:=qf (rk a b c d);cases hw:bW a b c d with
 |false=>
  have e1:=qf (show dM a b c d x y=Zz from by unfold dM;rw [hw];rfl);rw [hw] at HW;clear hw;go_enter func146,ntmps146;go_wp2_with fail;refine (HW.out _).mono ?_;rintro e w1 ⟨rfl,b1⟩;have h1:=qcQ;exact qmv
 |true=>
  have e1:=qf (show dM a b c d x y=decide (a<=x/\x<=c/\b<=y/\y<=d) from by unfold dM;rw [hw];rfl);rw [hw] at HW;clear hw;go_enter func146,ntmps146;go_wp2_with fail;refine (HW.out _).mono ?_;rintro e w1 ⟨rfl,b1⟩;have k0:=aa b1 (p:=⟨w.heap.size,0,ZU⟩) (v:=ZZ ZY a) qnp;have k1:=aa b1 (p:=⟨w.heap.size,1,ZU⟩) (v:=ZZ ZY b) qnp;have k2:=aa b1 (p:=⟨w.heap.size,2,ZU⟩) (v:=ZZ ZY c) qnp;have k3:=aa b1 (p:=⟨w.heap.size,3,ZU⟩) (v:=ZZ ZY d) qnp;have k4:=aa b1 (p:=⟨w.heap.size+1,0,ZU⟩) (v:=ZZ ZY x) qnp;have k5:=aa b1 (p:=⟨w.heap.size+1,1,ZU⟩) (v:=ZZ ZY y) qnp;have h1:=qcQ;clear b1;go_wp2_with fail;all_goals go_ret
  ·exact ⟨aK (Eq.trans (decide_eq_decide.2 qoq) e1.out.symm),h1⟩
  ·exact qnc
  ·exact qnc
  ·exact qnc
theorem Ch:prog.eqGuardType prog.depth 28=Zz:=by kernel_rfl
theorem Ag:prog.stoodInHeld 28=Zz:=by kernel_rfl
theorem yi:prog.underlying 28=ZV (.struct (prog.fieldsOf 28)):=by kernel_rfl
theorem yD (op:BinOp) (X Y:Operand) (xs ys:Array Value) (W:Z3):(eqGuard op 28 X Y (.agg xs) (.agg ys)).run ZW W=.ok () W:=run_eqGuard_agg W op 28 X Y xs ys Ch
theorem CK (a b c d:Int) (w:Z3):
 Calls ZW 221 #[Zu #[ZZ ZY a,ZZ ZY b,ZZ ZY c,ZZ ZY d]] w fun e w'=>∃v,e=ZX v/\
  w'.ownsRow w.heap.size 28 2 v (ax a b c d 1024).length (bj (ax a b c d 1024))/\Z2 w.heap.size w w':=by
 obtain ⟨i0,hi0,hz0,hz1,hz2⟩:=info_parts lM;obtain ⟨HI,HZ0,HZ1,HZ2⟩:=qbC;clear hi0 hz0 hz1 hz2;go_enter func221,ntmps221;go_wp2_with fail
 go_loopw [3,4] (fun v n wr=>∃i:Nat,i<=1024/\n=ZZ ZY i/\wr.ownsRow (w.heap.size+1) 28 2 v (ax a b c d i).length (bj (ax a b c d i))/\
  Z2 (w.heap.size+1) (w.alloc (.cells #[ZZ ZY a,ZZ ZY b,ZZ ZY c,ZZ ZY d] 30)) wr) (fun _ n _=>nP n)
 case atStart=>exact qmT
 case round=>
  obtain ⟨i,hi,rfl,hown,hb⟩:=hrel;have HO:=qf hown;have hlen:=ia a b c d i;have k0:wr.cell? ⟨w.heap.size,0,ZU⟩=ZV (ZZ ZY a):=qpa;have k1:wr.cell? ⟨w.heap.size,1,ZU⟩=ZV (ZZ ZY b):=qpa;have k2:wr.cell? ⟨w.heap.size,2,ZU⟩=ZV (ZZ ZY c):=qpa;have k3:wr.cell? ⟨w.heap.size,3,ZU⟩=ZV (ZZ ZY d):=qpa;obtain ⟨z0,b0⟩:=qfg;clear hown;by_cases hlt:i<1024
  ·have HH:=qf (GY a b c d (atC i) (atR i))
   go_wp2_with fail;refine (sf _ _).mono ?_;rintro e w2 ⟨rfl,b2⟩;have q0:=aa b2 k0;have q1:=aa b2 k1;have q2:=aa b2 k2;have q3:=aa b2 k3;have z2:w.heap.size<w2.heap.size:=qpN;have HO2:=qgZ;have hb2:=hb.trans (b2.mono qoq);clear k0 k1 k2 k3;cases hh:dM a b c d (atC i) (atR i) with
   |true=>
    rw [hh] at HH;have HS:=qf (oc hh);clear hh;go_wp2_with fail;refine (HH.out _).mono ?_;rintro e w3 ⟨rfl,b3⟩;obtain ⟨m0,m1⟩:=qgG;have HO3:=qf (dS (HO2.out.alloc _) b3);have hb3:=qeV;have z3:w.heap.size+1<=w3.heap.size:=(by have:=b3.size;simp at this;omega);have b3':=b0.trans (b2.mono qoq);have b4:=(b3'.alloc qoq (.cells #[ZZ ZY (atC i),ZZ ZY (atR i)] 28)).trans (b3.mono qnu);clear b2 b3 q0 q1 q2 q3
    go_wp2_with (at_builtin;refine wpList_append_own _ rfl _ _ 71 rfl (w.heap.size+1) 28 i0 (Zu #[ZZ ZY 0,ZZ ZY 0]) 2 16 underlying71 HI.out HZ0.out HZ1.out HZ2.out rfl qnv _ _ _ rfl (HO3.out.alloc _) ⟨w3.heap.size,0,ZU⟩ 1 1 [ZZ ZY (atC i),ZZ ZY (atR i)] rfl rfl ?c1 ?c2 ?c3 ?c4 ?c5 ?_)
    case c1=>
     intro j u hj;match j,hj with
     |0,hj=>exact qmM
     |1,hj=>exact qmM
    case c2=>exact qmN
    case c3=>exact qmE
    case c4=>omega
    case c5=>simp;omega
    intro v' w4 hown4 hg4 _;rw [<-kF] at hown4;have e5:(ax a b c d i).length+1=(ax a b c d (i+1)).length:=(by rw [HS.out];simp);rw [e5,<-HS.out] at hown4;have HO4:=qf hown4;have hb4:Z2 (w.heap.size+1) (w.alloc (.cells #[ZZ ZY a,ZZ ZY b,ZZ ZY c,ZZ ZY d] 30)) w4:=(hb3.alloc z3 _).grown hg4 qnu (fun g hgg=>(HO3.out.lt g hgg).1);clear hown4 e5 hg4;go_wp2_with fail;exact qkQ
   |false=>
    rw [hh] at HH;have HS:=qf (ri hh);clear hh;go_wp2_with fail;refine (HH.out _).mono ?_;rintro e w3 ⟨rfl,b3⟩;have HO3:=dS (HO2.out.alloc _) b3;have hb3:=qeV;rw [<-HS.out] at HO3;have HO4:=qf HO3;clear HO3 b2 b3 q0 q1 q2 q3;go_wp2_with fail;go_roundw
    case rel=>exact ⟨i+1,qoq,qnG,HO4.out,hb3⟩
    case measure=>exact qmO
  ·have hi2:i=1024:=by omega
   subst hi2;go_wp2_with fail;go_ret;exact ⟨_,rfl,HO.out.mono qoq,b0⟩
theorem Bn (x y p q:Int) (W:Z3):(binOp .eql 28 (Zu #[ZZ ZY x,ZZ ZY y]) (Zu #[ZZ ZY p,ZZ ZY q])).run ZW W=.ok (.bool (x==p&&y==q)) W:=qlQ
theorem Ig {f:Src->Bool} {l:List Src} (hno:∀x∈l,f x=Zz):l.find? f=ZU:=by
 rw [List.find?_eq_none];intro x hx;rw [hno x hx];simp
theorem ED (l:List Src) (A:Option Addr) (ca:Nat) (x y:Int) (w:Z3) (hl:fa w P A l) (hll:l.length<=1000000):
 Calls ZW 24 #[Zw A l.length ca,Zu #[ZZ ZY x,ZZ ZY y]] w fun e w'=>e=ZX (Zx ⟨(gW l x y).toArray⟩)/\Z2 w.heap.size w w':=by
 have HL:=qge;have HY:=qf (fun (i:Nat) (q:Src) (hq:l[i]? =ZV q) (hno:∀z∈l.take i,(z.c==x&&z.r==y)=Zz) (h:(q.c==x&&q.r==y)=Zy)=>(show gW l x y=q.text from by unfold gW;rw [zF hq hno h]));have HN:=qf (fun (hno:∀z∈l,(z.c==x&&z.r==y)=Zz)=>(show gW l x y=[] from by unfold gW;rw [Ig hno]));generalize gW l x y=FS at*;clear hl;go_enter func24,ntmps24;go_wp2_with fail;go_loopw [5] (fun vi wr=>∃i:Nat,i<=l.length/\vi=ZZ ZY (i:Int)/\Hid (∀z∈l.take i,(z.c==x&&z.r==y)=Zz)/\Z2 (w.heap.size+1) (w.alloc (.cells #[ZZ ZY x,ZZ ZY y] 28)) wr) (fun vi _=>l.length - (RowKit.intOf vi).toNat)
 case atStart=>exact ⟨0,qe,rfl,qf qns,qb⟩
 case round=>
  obtain ⟨i,hi,rfl,HT,hb⟩:=hrel;have p0:wr.cell? ⟨w.heap.size,0,ZU⟩=ZV (ZZ ZY x):=qos;have p1:wr.cell? ⟨w.heap.size,1,ZU⟩=ZV (ZZ ZY y):=qos;have z1:w.heap.size<wr.heap.size:=qpJ;have b0:Z2 w.heap.size w wr:=qa.trans (hb.mono qoq);have HB0:=qf b0;by_cases hlt:i<l.length
  ·obtain ⟨q,hq⟩:∃q,l[i]? =ZV q:=⟨_,List.getElem?_eq_getElem hlt⟩
   obtain ⟨g,o,rfl,_,_,c0,c1,c2⟩:=(HL.out.below b0).at hq;have hG:=qfM;have hE:=Bn q.c q.r x y;have HN1:=qf (fun h=>lG (p:=fun z:Src=>(z.c==x&&z.r==y)=Zz) hq HT.out h);have HY1:=qf (HY.out i q hq HT.out);have hI:=qdu;have hJ:=qbX;clear hq b0;generalize (q.c==x&&q.r==y)=M at*;cases M with
   |false=>
    have HN2:=qf (HN1.out rfl);clear HN1 HY1 c2;exact qjS
   |true=>
    have HY2:=qf (HY1.out rfl);clear HN1 HY1;go_wp2_with fail;go_quiet (fail)
    go_wp2_with fail;go_ret;exact ⟨by rw [HY2.out];rfl,below_drewN HB0.out _⟩
  ·have hii:i=l.length:=by omega
   subst hii;have hno:=HT.out;rw [List.take_length] at hno;have HN2:=qf (HN.out hno);clear hno HN;go_wp2_with fail;go_ret;exact ⟨by rw [HN2.out];rfl,HB0.out⟩
def OfH (F:TxF):Prop:=∀(w:Z3) (s:List UInt8) (t:Tr) (A:Option Addr) (ca:Nat) (l:List Cel) (LA:Option Addr) (lc:Nat),s.length<=300->F.tree s=ZV t->KV w (fun _=>True) t A->eH w (fun _=>True) LA l->pA l->l.length<=100000->
 Calls ZW 25 #[tv t A ca,Zw LA l.length lc] w fun e w'=>e=ZX (Zu #[ZZ ZY (F.val l t).1,ZZ ZY (F.val l t).2])/\Z2 w.heap.size w w'
def MF (F:TxF):Prop:=∀(w:Z3) (s:List UInt8),s.length<=300->Calls ZW 43 #[Zx ⟨s.toArray⟩] w fun e w'=>∃b,e=ZX (.tuple #[ZZ ZY (F.num s),.bool b])/\Z2 w.heap.size w w'
def kO (F:TxF) (l:List Cel) (round:Bool) (s:List UInt8):Int×Int:=if round then (0,4) else match F.tree s with
 |some t=>F.val l t
 |none=>(F.num s,0)
theorem Ct (F:TxF) (hT:Ki F) (hO:OfH F) (hN:MF F) (s:List UInt8) (hs:s.length<=300) (round:Bool) (l:List Cel) (LA:Option Addr) (lc:Nat) (w:Z3) (hl:eH w P LA l) (hll:l.length<=100000) (hb:pA l):
 Calls ZW 27 #[Zx ⟨s.toArray⟩,.bool round,Zw LA l.length lc] w fun e w'=>e=ZX (Zu #[ZZ ZY (kO F l round s).1,ZZ ZY (kO F l round s).2])/\Z2 w.heap.size w w':=by
 have HL:=qf (hl.mono (Q:=fun _=>True) fun _ _ _=>trivial);have HT:=qf (fun W=>hT W s hs);have HO:=qf (fun W t A ca ht hk hr=>hO W s t A ca l LA lc hs ht hk hr hb hll);have HN:=qf (fun W=>hN W s hs);have hba:Z2 w.heap.size w (w.alloc (.cells #[ZZ ZY 0,ZZ ZY 0] 61)):=qa;have HBa:=qf hba;clear hT hO hN hl hb hba;cases round with
 |true=>
  have HV:Hid (kO F l Zy s=(0,4)):=qf rfl;rw [HV.out];go_enter func27,ntmps27;go_wp2_with fail;exact bodyPost_ret (v:=Zu #[ZZ ZY 0,ZZ ZY 4]) (by simp [results,results27,go_sem]) rfl ⟨rfl,qa⟩
 |false=>
  go_enter func27,ntmps27;go_wp2_with fail;refine (HT.out _).mono ?_;rintro e w1 ⟨hb1,hcase⟩;cases ht:F.tree s with
  |some t=>
   rw [ht] at hcase;obtain ⟨A,ca,rfl,hk⟩:=hcase;have HB1:=qf (HBa.out.trans (hb1.mono HBa.out.size));have HK:=qfq;obtain ⟨p0,p1,f0,f1⟩:=qcV;have hz:=qhf;clear hk hb1;unfold tv;go_wp2_with fail;have BA:=qig;refine (HO.out _ t A ca ht (KV.imp (fun _ _=>trivial) (HK.out.kept (Kept.of_below (BA.out _)))) ((HL.out.below HB1.out).kept (Kept.of_below (BA.out _)))).mono ?_;rintro e w2 ⟨rfl,hb2⟩;obtain ⟨B2,s2,c0,c1,g0,g1,hz2⟩:=qcB;clear hb2 p0 p1 f0 f1;go_wp2_with fail;have HV:Hid (kO F l Zz s=(F.val l t)):=qf (by unfold kO;simp [ht]);rw [HV.out];refine bodyPost_ret (v:=Zu #[ZZ ZY (F.val l t).1,ZZ ZY (F.val l t).2]) qqk rfl ⟨rfl,?_⟩;exact qlb
  |none=>
   rw [ht] at hcase;obtain rfl:=hcase;have HB1:=qf (HBa.out.trans (hb1.mono HBa.out.size));obtain ⟨p0,p1,f0,f1⟩:=qcV;unfold dx;have BA:=qig;have hz:=qhf;clear hb1;go_wp2_with fail;refine (HN.out _).mono ?_;rintro e w2 ⟨bb,rfl,hb2⟩;obtain ⟨B2,s2,c0,c1,g0,g1,hz2⟩:=qcB;clear hb2 p0 p1 f0 f1;go_wp2_with fail;have HV:Hid (kO F l Zz s=(F.num s,(0:Int))):=qf (by unfold kO;simp [ht]);rw [HV.out];refine bodyPost_ret (v:=Zu #[ZZ ZY (F.num s,(0:Int)).1,ZZ ZY (F.num s,(0:Int)).2]) qqk rfl ⟨rfl,?_⟩;exact qlb
theorem pN (c r:Int) (w:Z3):
 Calls ZW 26 #[Zu #[ZZ ZY c,ZZ ZY r]] w fun e w'=>e=ZX (ZZ ZY (aQ c r))/\Z2 w.heap.size w w':=by
 have HR:=qf (er c r);cases hr:rightB c r with
 |true=>
  obtain ⟨h1,h2,h3,h4⟩:=(bp c r).1 hr;have e1:=qf (show aQ c r=16*r+c from if_pos hr);rw [hr] at HR;clear hr;go_enter func26,ntmps26;exact qlm
 |false=>
  have e1:=qic;rw [hr] at HR;clear hr;go_enter func26,ntmps26;exact qlN

theorem rK {G:Int->Int->Int×Int} {p:Int×Int} (h1:p.1=0) (h2:p.2≠0):∀l,bm G p l=p
 |[]=>rfl
 |q::r=>by
  have e:cY G p q=p:=by
   obtain ⟨a,b⟩:=p;simp only at h1 h2;subst h1;unfold cY dG dJ;simp [h2]
  show bm G (cY G p q) r=p
  rw [e];exact rK h1 h2 r
theorem pv {q:Int×Int} {i:Nat} (h:bm G p (l.take i)=q) (h1:q.1=0) (h2:q.2≠0):bm G p l=q:=by
 have e:bm G p l=bm G (bm G p (l.take i)) (l.drop i):=by
  unfold bm;rw [<-List.foldl_append,List.take_append_drop]
 rw [e,h];exact rK h1 h2 _
theorem xo {n:Int} (h:(cJ n).2≠0):(cJ n).1=0:=by
 unfold cJ gD eu at*;simp only at*;split at h
 ·exact absurd rfl h
 ·rename_i hn;rw [if_neg hn]
theorem x8 (hp:p.2≠0->p.1=0) {f g:Int} (h:dJ p f g≠0):dG p f g=0:=by
 unfold dJ at h;unfold dG;split
 ·rename_i hh
  rw [if_pos hh.1,if_pos hh.2] at h;exact hp h
 ·rfl

theorem EG (l:List (Int×Int)) (hl:l.length<=maxLen) (hlb:∀q∈l,B64 q.1) (g o cap:Nat) (w:Z3) (hc:AtV w g o l):
 Calls ZW 164 #[Zw (ZV ⟨g,o,ZU⟩) l.length cap] w fun e w'=>
  e=ZX (Zu #[ZZ ZY (bm de (0,0) l).1,ZZ ZY (bm de (0,0) l).2])/\Z2 w.heap.size w w':=by
 have HC:=qgx;have HL:=qf hlb;unfold maxLen at hl;clear hc hlb;go_enter func164,ntmps164;go_wp2_with fail
 go_loopw [4] (fun v wr=>∃i:Nat,∃a:Int,i<=l.length/\v=ZZ ZY i/\Hid (bm de (0,0) (l.take i)=(a,0))/\Hid (B64 a)/\Z2 w.heap.size w wr/\w.heap.size+1<wr.heap.size/\
  wr.cell? ⟨w.heap.size,0,ZU⟩=ZV (ZZ ZY 0)/\wr.cell? ⟨w.heap.size,1,ZU⟩=ZV (ZZ ZY 0)/\wr.frozen? ⟨w.heap.size,0,ZU⟩=Zz/\wr.frozen? ⟨w.heap.size,1,ZU⟩=Zz/\
  wr.cell? ⟨w.heap.size+1,0,ZU⟩=ZV (ZZ ZY a)/\wr.cell? ⟨w.heap.size+1,1,ZU⟩=ZV (ZZ ZY 0)/\wr.frozen? ⟨w.heap.size+1,0,ZU⟩=Zz/\wr.frozen? ⟨w.heap.size+1,1,ZU⟩=Zz) (fun v _=>jv l.length v)
 case atStart=>
  exact ⟨0,0,qe,rfl,qf (by simp [bm]),qf qnY,qa.alloc qns _,qns,qnp,qnp,qnp,qnp,qnp,qnp,qnp,qnp⟩
 case round=>
  obtain ⟨i,a,hi,rfl,HP,HB,hb,z1,k0,k1,g0,g1,c0,c1,f0,f1⟩:=hrel;have z0:=qfe;by_cases hlt:i<l.length
  ·obtain ⟨x,y,hxy⟩:∃x y,l[i]? =ZV (x,y):=⟨_,_,List.getElem?_eq_getElem hlt⟩
   have hx:B64 x:=HL.out (x,y) (List.mem_of_getElem? hxy);obtain ⟨a0,a1⟩:=(HC.out.below hb) i x y hxy;have hS:=mU (G:=de) (p:=(0,0)) hxy;rw [HP.out] at hS;have hd:=sv ⟨#[43]⟩ a 0 x y HB.out hx;obtain ⟨e1,e2,e3⟩:=rW (l:=[43]) (n:=a) (m:=x) (f:=0) (g:=y) (p:=de a x) rfl;rw [show (⟨#[43]⟩:ByteArray).data.toList=[43] from rfl,e1,e2,e3] at hd;have hB2:B64 (dG (de a x) 0 y):=po lw (p:=(a,0)) (q:=(x,y)) HB.out hx;have hF:dJ (de a x) 0 y≠0->dG (de a x) 0 y=0:=x8 xo;have hS2:bm de (0,0) (l.take (i+1))=(dG (de a x) 0 y,dJ (de a x) 0 y):=hS;have zg:=qfk;clear hxy hx hS e1 e2 e3;generalize dG (de a x) 0 y=X at*;generalize dJ (de a x) 0 y=Y at*;have HD:=qf hd;have HS:=qf hS2;have HB2:=qf hB2;have HF:=qf hF;clear hd hS2 hB2 hF;by_cases hq:Y=0
   ·subst hq
    obtain ⟨n4,n0,n1⟩:=qff;clear HF;go_wp2_with fail
    go_region_held3 (fun w'=>w'.cell? ⟨w.heap.size+1,0,ZU⟩=ZV (ZZ ZY a)/\w'.cell? ⟨w.heap.size+1,1,ZU⟩=ZV (ZZ ZY 0)/\w'.cell? ⟨g,o+i*2,ZU⟩=ZV (ZZ ZY x)/\w'.cell? ⟨g,o+i*2+1,ZU⟩=ZV (ZZ ZY y))
     (first|(simp only [World.cell?_drew];with_reducible exact ⟨c0,c1,a0,a1⟩)|with_reducible exact ⟨m0,m1,m2,m3⟩|go_keep)
     (first
     |(go_at_call 112;refine (HD.out _).mono ?_;rintro e w1 ⟨rfl,b1⟩
       obtain ⟨B1,m0,m1,m2,m3,r0,r1,s0,s1,t0,t1,y0,y1,n5⟩:=qbt;obtain ⟨n2,n3⟩:=qfT
       try (have p0:w1.cell? ⟨wr.heap.size,0,ZU⟩=ZV (ZZ ZY 0):=af (W:=wr.drew) b1 0 (v:=ZZ ZY 0) rfl;obtain ⟨p1,q0,q1⟩:=qcG;have zz:wr.heap.size<w1.heap.size:=by have:=b1.size;simp at this;omega)))
    all_goals (try clear a0 a1 c0 c1 k0 k1 g0 g1 f0 f1)
    all_goals go_wp2_with fail
    all_goals
     have h2:=hb.trans (B1.mono hb.size);go_roundw
     case rel=>
      refine ⟨i+1,X,qoq,qnG,HS,HB2,?_,?_⟩
      ·repeat' (first|(with_reducible exact h2)|(with_reducible refine Below.alloc ?_ ?_ _)|(with_reducible refine Below.setCell ?_ ?_ _))
       all_goals (first|(simp;done)|(simpa using h2.size)|(simpa using hb.size))
      refine ⟨qnu,(by simp [go_sem,r0,y0]),(by simp [go_sem,r1,y0]),(by simp [go_sem,s0,y0]),(by simp [go_sem,s1,y0]),(by simp [go_sem,m0,y1]),(by simp [go_sem,m1,y1]),(by simp [go_sem,t0,y1]),(by simp [go_sem,t1,y1])⟩
     case measure=>simp [jv,RowKit.intOf];omega
   ·have d1:(Y !=0)=Zy:=by rw [bne_iff_ne];exact hq
    have HE:=qf (pv HS.out (HF.out hq) hq);obtain ⟨n4,n0,n1⟩:=qff;clear HF hq;go_wp2_with fail
    go_region_held3 (fun w'=>w'.cell? ⟨w.heap.size+1,0,ZU⟩=ZV (ZZ ZY a)/\w'.cell? ⟨w.heap.size+1,1,ZU⟩=ZV (ZZ ZY 0)/\w'.cell? ⟨g,o+i*2,ZU⟩=ZV (ZZ ZY x)/\w'.cell? ⟨g,o+i*2+1,ZU⟩=ZV (ZZ ZY y))
     (first|(simp only [World.cell?_drew];with_reducible exact ⟨c0,c1,a0,a1⟩)|with_reducible exact ⟨m0,m1,m2,m3⟩|go_keep)
     (first
     |(go_at_call 112;refine (HD.out _).mono ?_;rintro e w1 ⟨rfl,b1⟩
       obtain ⟨B1,m0,m1,m2,m3,r0,r1,s0,s1,t0,t1,y0,y1,n5⟩:=qbt;obtain ⟨n2,n3⟩:=qfT
       try (have p0:w1.cell? ⟨wr.heap.size,0,ZU⟩=ZV (ZZ ZY 0):=af (W:=wr.drew) b1 0 (v:=ZZ ZY 0) rfl;obtain ⟨p1,q0,q1⟩:=qcG;have zz:wr.heap.size<w1.heap.size:=by have:=b1.size;simp at this;omega)))
    all_goals (try clear a0 a1 c0 c1 k0 k1 g0 g1 f0 f1)
    all_goals go_wp2_with fail
    all_goals
     have h2:=hb.trans (B1.mono hb.size)
     exact bodyPost_ret (v:=Zu #[ZZ ZY X,ZZ ZY Y]) (by simp [results,results164,go_sem,r0,r1,y0]) rfl
      ⟨qnI,by
        repeat' (first|(with_reducible exact h2)|(with_reducible refine Below.alloc ?_ ?_ _)|(with_reducible refine Below.setCell ?_ ?_ _))
        all_goals (first|(simp;done)|(simpa using h2.size)|(simpa using hb.size))⟩
  ·have hE:=HP.out
   rw [List.take_of_length_le qoq] at hE;have HE:=qf hE;clear hE;go_wp2_with fail
   exact bodyPost_ret (v:=Zu #[ZZ ZY a,ZZ ZY 0]) (by simp [results,results164,go_sem,k0,k1]) rfl
    ⟨qnI,(hb.setCell qns _).setCell qns _⟩

theorem JO (A:Option Addr) (cap:Nat) (w:Z3):
 Calls ZW 164 #[Zw A 0 cap] w fun e w'=>e=ZX (Zu #[ZZ ZY 0,ZZ ZY 0])/\Z2 w.heap.size w w':=by
 go_enter func164,ntmps164;go_wp2_with fail;go_loopw [4] (fun v wr=>v=ZZ ZY 0/\wr=(w.alloc (.cells #[ZZ ZY 0,ZZ ZY 0] 61)).alloc (.cells #[ZZ ZY 0,ZZ ZY 0] 61)) (fun _ _=>0)
 case atStart=>exact qmx
 case round=>
  obtain ⟨rfl,rfl⟩:=hrel;go_wp2_with fail
  exact bodyPost_ret (v:=Zu #[ZZ ZY 0,ZZ ZY 0]) (by simp [results,results164,go_sem]) rfl
   ⟨rfl,qa.alloc qns _⟩
theorem GG (l:List (Int×Int)) (hl:l.length<=maxLen) (hlb:∀q∈l,B64 q.1) (A:Option Addr) (cap:Nat) (w:Z3) (hc:fH w A l):
 Calls ZW 164 #[Zw A l.length cap] w fun e w'=>
  e=ZX (Zu #[ZZ ZY (bm de (0,0) l).1,ZZ ZY (bm de (0,0) l).2])/\Z2 w.heap.size w w':=by
 by_cases h:l=[]
 ·subst h
  exact JO A cap w
 ·obtain ⟨g,o,rfl,ha⟩:=hc h
  exact EG l hl hlb g o cap w ha
theorem Cw (h:l[0]? =ZV (x,y)):bm G (l.headD (0,0)) (l.take (0+1))=cY G (x,y) (x,y):=by
 cases l with
 |nil=>simp at h
 |cons q r=>simp at h;subst h;rfl
theorem pL (hp:p.2=0\/p.2=y) (h:y≠0):cY G p (x,y)=(0,y):=by
 unfold cY dG dJ;rcases hp with hp|hp<;>simp [hp,h]
theorem ko (hp:p.2=0):cY G p (x,0)=G p.1 x:=by
 unfold cY dG dJ;simp [hp]

theorem E6 (l:List (Int×Int)) (hl:l.length<=maxLen) (g o cap:Nat) (w:Z3) (hc:AtV w g o l):
 Calls ZW 165 #[Zw (ZV ⟨g,o,ZU⟩) l.length cap,.bool Zz] w fun e w'=>
  e=ZX (Zu #[ZZ ZY (bv cN l).1,ZZ ZY (bv cN l).2])/\Z2 w.heap.size w w':=by
 have HC:=qgx;unfold maxLen at hl;clear hc;go_enter func165,ntmps165;go_wp2_with fail
 go_loopw [6] (fun v wr=>∃i:Nat,∃a:Int,i<=l.length/\v=ZZ ZY i/\Hid ((i=0->a=0)/\(i≠0->bm cN (l.headD (0,0)) (l.take i)=(a,0)))/\Z2 w.heap.size w wr/\w.heap.size+1<wr.heap.size/\
  wr.cell? ⟨w.heap.size,0,ZU⟩=ZV (ZZ ZY 0)/\wr.cell? ⟨w.heap.size,1,ZU⟩=ZV (ZZ ZY 0)/\wr.frozen? ⟨w.heap.size,0,ZU⟩=Zz/\wr.frozen? ⟨w.heap.size,1,ZU⟩=Zz/\
  wr.cell? ⟨w.heap.size+1,0,ZU⟩=ZV (ZZ ZY a)/\wr.cell? ⟨w.heap.size+1,1,ZU⟩=ZV (ZZ ZY 0)/\wr.frozen? ⟨w.heap.size+1,0,ZU⟩=Zz/\wr.frozen? ⟨w.heap.size+1,1,ZU⟩=Zz) (fun v _=>jv l.length v)
 case atStart=>
  exact qjD
 case round=>
  obtain ⟨i,a,hi,rfl,HP,hb,z1,k0,k1,g0,g1,c0,c1,f0,f1⟩:=hrel;have z0:=qfe;by_cases hlt:i<l.length
  ·obtain ⟨x,y,hxy⟩:∃x y,l[i]? =ZV (x,y):=⟨_,_,List.getElem?_eq_getElem hlt⟩
   obtain ⟨a0,a1⟩:=(HC.out.below hb) i x y hxy;have zg:=qfk;have hS:bm cN (l.headD (0,0)) (l.take (i+1))=if i=0 then cY cN (x,y) (x,y) else cY cN (a,0) (x,y):=qkW
   by_cases hy:y=0
   ·subst hy
    by_cases h0:i=0
    ·subst h0
     rw [if_pos rfl,ko rfl] at hS;have HS:=qf (show bm cN (l.headD (0,0)) (l.take (0+1))=(x,0) from hS.trans (by unfold cN;simp));exact qiR
    ·rw [if_neg h0,ko rfl] at hS
     have hi0:=qhP;cases hc:decide (x<a) with
     |true=>
      have HS:=qf (show bm cN (l.headD (0,0)) (l.take (i+1))=(x,0) from hS.trans (by unfold cN;rw [if_pos (of_decide_eq_true hc)]));exact qiT
     |false=>
      have HS:=qf (show bm cN (l.headD (0,0)) (l.take (i+1))=(a,0) from hS.trans (by unfold cN;rw [if_neg (of_decide_eq_false hc)]));exact qiV
   ·have d1:(y !=0)=Zy:=by rw [bne_iff_ne];exact hy
    have hT:bm cN (l.headD (0,0)) (l.take (i+1))=(0,y):=qls;have HE:=qf (show bv cN l=(0,y) from pv hT rfl hy);exact qjE
  ·have HE:Hid (bv cN l=(a,0)):=qf (by
    by_cases h0:l=[]
    ·subst h0
     exact qme
    ·have hlp:0<l.length:=List.length_pos_iff.2 h0
     have:=HP.out.2 qoq;rw [List.take_of_length_le qoq] at this;exact this)
   exact qjL

theorem EI (l:List (Int×Int)) (hl:l.length<=maxLen) (g o cap:Nat) (w:Z3) (hc:AtV w g o l):
 Calls ZW 165 #[Zw (ZV ⟨g,o,ZU⟩) l.length cap,.bool Zy] w fun e w'=>
  e=ZX (Zu #[ZZ ZY (bv cM l).1,ZZ ZY (bv cM l).2])/\Z2 w.heap.size w w':=by
 have HC:=qgx;unfold maxLen at hl;clear hc;go_enter func165,ntmps165;go_wp2_with fail
 go_loopw [6] (fun v wr=>∃i:Nat,∃a:Int,i<=l.length/\v=ZZ ZY i/\Hid ((i=0->a=0)/\(i≠0->bm cM (l.headD (0,0)) (l.take i)=(a,0)))/\Z2 w.heap.size w wr/\w.heap.size+1<wr.heap.size/\
  wr.cell? ⟨w.heap.size,0,ZU⟩=ZV (ZZ ZY 0)/\wr.cell? ⟨w.heap.size,1,ZU⟩=ZV (ZZ ZY 0)/\wr.frozen? ⟨w.heap.size,0,ZU⟩=Zz/\wr.frozen? ⟨w.heap.size,1,ZU⟩=Zz/\
  wr.cell? ⟨w.heap.size+1,0,ZU⟩=ZV (ZZ ZY a)/\wr.cell? ⟨w.heap.size+1,1,ZU⟩=ZV (ZZ ZY 0)/\wr.frozen? ⟨w.heap.size+1,0,ZU⟩=Zz/\wr.frozen? ⟨w.heap.size+1,1,ZU⟩=Zz) (fun v _=>jv l.length v)
 case atStart=>
  exact qjD
 case round=>
  obtain ⟨i,a,hi,rfl,HP,hb,z1,k0,k1,g0,g1,c0,c1,f0,f1⟩:=hrel;have z0:=qfe;by_cases hlt:i<l.length
  ·obtain ⟨x,y,hxy⟩:∃x y,l[i]? =ZV (x,y):=⟨_,_,List.getElem?_eq_getElem hlt⟩
   obtain ⟨a0,a1⟩:=(HC.out.below hb) i x y hxy;have zg:=qfk;have hS:bm cM (l.headD (0,0)) (l.take (i+1))=if i=0 then cY cM (x,y) (x,y) else cY cM (a,0) (x,y):=qkW
   by_cases hy:y=0
   ·subst hy
    by_cases h0:i=0
    ·subst h0
     rw [if_pos rfl,ko rfl] at hS;have HS:=qf (show bm cM (l.headD (0,0)) (l.take (0+1))=(x,0) from hS.trans (by unfold cM;simp));exact qiR
    ·rw [if_neg h0,ko rfl] at hS
     have hi0:=qhP;cases hc:decide (a<x) with
     |true=>
      have HS:=qf (show bm cM (l.headD (0,0)) (l.take (i+1))=(x,0) from hS.trans (by unfold cM;rw [if_pos (of_decide_eq_true hc)]));exact qiT
     |false=>
      have HS:=qf (show bm cM (l.headD (0,0)) (l.take (i+1))=(a,0) from hS.trans (by unfold cM;rw [if_neg (of_decide_eq_false hc)]));exact qiV
   ·have d1:(y !=0)=Zy:=by rw [bne_iff_ne];exact hy
    have hT:bm cM (l.headD (0,0)) (l.take (i+1))=(0,y):=qls;have HE:=qf (show bv cM l=(0,y) from pv hT rfl hy);exact qjE
  ·have HE:Hid (bv cM l=(a,0)):=qf (by
    by_cases h0:l=[]
    ·subst h0
     exact qme
    ·have hlp:0<l.length:=List.length_pos_iff.2 h0
     have:=HP.out.2 qoq;rw [List.take_of_length_le qoq] at this;exact this)
   exact qjL

theorem tI (t:Bool) (A:Option Addr) (cap:Nat) (w:Z3):
 Calls ZW 165 #[Zw A 0 cap,.bool t] w fun e w'=>e=ZX (Zu #[ZZ ZY 0,ZZ ZY 0])/\Z2 w.heap.size w w':=by
 go_enter func165,ntmps165;go_wp2_with fail;go_loopw [6] (fun v wr=>v=ZZ ZY 0/\wr=(w.alloc (.cells #[ZZ ZY 0,ZZ ZY 0] 61)).alloc (.cells #[ZZ ZY 0,ZZ ZY 0] 61)) (fun _ _=>0)
 case atStart=>exact qmx
 case round=>
  obtain ⟨rfl,rfl⟩:=hrel;go_wp2_with fail
  exact bodyPost_ret (v:=Zu #[ZZ ZY 0,ZZ ZY 0]) (by simp [results,results165,go_sem]) rfl
   ⟨rfl,qa.alloc qns _⟩

theorem Iz (l:List (Int×Int)) (hl:l.length<=maxLen) (A:Option Addr) (cap:Nat) (w:Z3) (hc:fH w A l):
 Calls ZW 165 #[Zw A l.length cap,.bool Zz] w fun e w'=>
  e=ZX (Zu #[ZZ ZY (bv cN l).1,ZZ ZY (bv cN l).2])/\Z2 w.heap.size w w':=by
 by_cases h:l=[]
 ·subst h
  exact tI Zz A cap w
 ·obtain ⟨g,o,rfl,ha⟩:=hc h
  exact E6 l hl g o cap w ha

theorem Jz (l:List (Int×Int)) (hl:l.length<=maxLen) (A:Option Addr) (cap:Nat) (w:Z3) (hc:fH w A l):
 Calls ZW 165 #[Zw A l.length cap,.bool Zy] w fun e w'=>
  e=ZX (Zu #[ZZ ZY (bv cM l).1,ZZ ZY (bv cM l).2])/\Z2 w.heap.size w w':=by
 by_cases h:l=[]
 ·subst h
  exact tI Zy A cap w
 ·obtain ⟨g,o,rfl,ha⟩:=hc h
  exact EI l hl g o cap w ha
theorem yq (x y p q:Int) (W:Z3):(binOp .neq 61 (Zu #[ZZ ZY x,ZZ ZY y]) (Zu #[ZZ ZY p,ZZ ZY q])).run ZW W=.ok (.bool (!(x==p&&y==q))) W:=by
 rw [run_neq_struct,run_equalIn_agg W 9999 61 _ _ tj vg];exact qkc
theorem nj (x y:Int) (W:Z3):(binOp .neq 61 (Zu #[ZZ ZY x,ZZ ZY y]) (Zu #[ZZ ZY x,ZZ ZY y])).run ZW W=.ok (.bool Zz) W:=by
 rw [yq];simp
