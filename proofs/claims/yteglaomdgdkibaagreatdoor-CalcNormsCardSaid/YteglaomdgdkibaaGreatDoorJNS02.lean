import Derived.Test.YteglaomdgdkibaaGreatDoorJNS01
import Derived.Deep.RegionHeld3
import Derived.Test.YteglaomdgdkibaaGreatDoorJQNSP
import Derived.Test.YteglaomdgdkibaaGreatDoorJQNSW
set_option linter.all false
set_option maxHeartbeats 0
set_option maxRecDepth 99999
namespace Go.Proofs.YteglaomdgdkibaaGreatDoor
open Go.RowKit
open Value renaming int→ZZ,string→Zx,agg→Zu
open IntKind renaming i64→ZY
open Ending renaming returned→ZX
open RowKit renaming Below→Z2
open Go renaming World→Z3
open Tryz
open Tryz renaming prog→ZW
open Option renaming some→ZV,none→ZU
open Bool renaming false→Zz,true→Zy
variable {a b c d:Int}{base g i u:Nat}{ds l:List UInt8}{ch:UInt8}{w:World}
def rightB (c r:Int):Bool:=decide (0<=c/\c<=15/\0<=r/\r<=63)
theorem bp (c r:Int):rightB c r=Zy↔0<=c/\c<=15/\0<=r/\r<=63:=by unfold rightB;simp
theorem rH (c r:Int):rightB c r=Zz↔¬(0<=c/\c<=15/\0<=r/\r<=63):=by unfold rightB;simp

theorem er (c r:Int) (w:Z3):
 Calls ZW 50 #[Zu #[ZZ ZY c,ZZ ZY r]] w fun e w'=>e=ZX (.bool (rightB c r))/\Z2 w.heap.size w w':=by
 go_enter func50,ntmps50;go_wp2_with fail;all_goals go_ret
 ·exact qmz
 ·exact qmA
 ·exact qmA
 ·exact qmA

def vx (i:Int):Bool:=decide (0<=i/\i<=1023)
def atC (i:Int):Int:=if 0<=i/\i<=1023 then i % 16 else 0
def atR (i:Int):Int:=if 0<=i/\i<=1023 then i / 16 else 0
theorem sf (i:Int) (w:Z3):
 Calls ZW 52 #[ZZ ZY i] w fun e w'=>e=ZX (.tuple #[Zu #[ZZ ZY (atC i),ZZ ZY (atR i)],.bool (vx i)])/\Z2 w.heap.size w w':=by
 by_cases h:0<=i/\i<=1023
 ·have e1:=qf (show atC i=i % 16 from if_pos h)
  obtain ⟨e2,e3⟩:=qha;obtain ⟨h1,h2⟩:=h;go_enter func52,ntmps52;go_wp2_with fail
  exact bodyPost_ret (v:=.tuple #[Zu #[ZZ ZY (i % 16),ZZ ZY (i / 16)],.bool Zy]) qqY rfl
   ⟨qoB,qa⟩
 ·have e1:=qf (show atC i=0 from if_neg h)
  obtain ⟨e2,e3⟩:=qhl;by_cases h1:i<0
  ·clear h
   exact qjF
  ·have h2:1023<i:=by omega
   clear h;exact qjF

theorem jU (j:Nat) (h:j<1024):atC (j:Int)=(j:Int) % 16:=if_pos qoq
theorem jI (j:Nat) (h:j<1024):atR (j:Int)=(j:Int) / 16:=if_pos qoq
def aQ (c r:Int):Int:=if rightB c r=Zy then 16*r+c else -1
def bW (a b c d:Int):Bool:=rightB a b&&rightB c d&&(decide (a<=c)&&decide (b<=d))
theorem lV (a b c d:Int):bW a b c d=Zy↔(0<=a/\a<=15/\0<=b/\b<=63)/\(0<=c/\c<=15/\0<=d/\d<=63)/\a<=c/\b<=d:=by
 unfold bW rightB;simp [and_assoc]
theorem rk (a b c d:Int) (w:Z3):
 Calls ZW 160 #[Zu #[ZZ ZY a,ZZ ZY b,ZZ ZY c,ZZ ZY d]] w fun e w'=>e=ZX (.bool (bW a b c d))/\Z2 w.heap.size w w':=by
 have HF:=qf (er a b);have HT:=qf (er c d);cases hf:rightB a b with
 |false=>
  have e1:=qhg;rw [hf] at HF;clear hf;go_enter func160,ntmps160;exact qiS
 |true=>
  rw [hf] at HF;cases ht:rightB c d with
  |false=>
   have e1:=qgP;rw [ht] at HT;clear hf ht;go_enter func160,ntmps160;exact qiS
  |true=>
   have e1:=qfn;rw [ht] at HT;clear hf ht;go_enter func160,ntmps160;exact qiN
def dM (a b c d x y:Int):Bool:=bW a b c d&&decide (a<=x/\x<=c/\b<=y/\y<=d)
def bj (l:List (Int×Int)):List Value:=l.flatMap fun p=>[ZZ ZY p.1,ZZ ZY p.2]
theorem Cb (l:List (Int×Int)):(bj l).length=l.length*2:=by
 unfold bj;induction l with
 |nil=>rfl
 |cons a t ih=>rw [List.flatMap_cons,List.length_append,ih];simp;omega
theorem kF (l:List (Int×Int)) (x y:Int):bj (l++[(x,y)])=bj l++[ZZ ZY x,ZZ ZY y]:=by
 unfold bj;rw [List.flatMap_append];rfl
def ax (a b c d:Int) (i:Nat):List (Int×Int):=((List.range i).filter fun (j:Nat)=>dM a b c d (atC (j:Int)) (atR (j:Int))).map fun (j:Nat)=>(atC (j:Int),atR (j:Int))
theorem oc (h:dM a b c d (atC i) (atR i)=Zy):ax a b c d (i+1)=ax a b c d i++[(atC i,atR i)]:=qlR
theorem ri (h:dM a b c d (atC i) (atR i)=Zz):ax a b c d (i+1)=ax a b c d i:=qlR
theorem ia (a b c d:Int) (i:Nat):(ax a b c d i).length<=i:=by
 unfold ax;rw [List.length_map];exact Nat.le_trans (List.length_filter_le _ _) qns

theorem lM:(prog.info? 28).map (fun i=>(i.zero,i.size,i.bytes))=ZV (ZV (Zu #[ZZ ZY 0,ZZ ZY 0]),2,16):=by kernel_rfl

def nP (v:Value):Nat:=1024 - (RowKit.intOf v).toNat
def dm (c:Int):UInt8:=UInt8.ofNat (65+c.toNat)
def LU:ByteArray:=⟨#[65,66,67,68,69,70,71,72,73,74,75,76,77,78,79,80]⟩
theorem BJ:∀k:Fin 16,(LU.extract k.val (k.val+1)).data.toList=[UInt8.ofNat (65+k.val)]:=by decide+kernel
theorem EE (c:Int) (c0:0<=c) (c1:c<=15):(⟨#[65,66,67,68,69,70,71,72,73,74,75,76,77,78,79,80]⟩:ByteArray).extract c.toNat (c+1).toNat=⟨#[dm c]⟩:=by
 have e:=BJ ⟨c.toNat,qoq⟩;have e2:(c+1).toNat=c.toNat+1:=qoq;rw [e2];exact qke

theorem oO (n:Int) (h:B64 n):(Lib.itoa n).length<=31:=by
 have h1:=ij n.natAbs (by unfold B64 at h;omega);have h2:=ij n.toNat (by unfold B64 at h;omega);unfold Lib.itoa;split
 ·simp;omega
 ·omega
def am (c r:Int):List UInt8:=if rightB c r=Zy then dm c::Lib.itoa (r+1) else []
theorem CS (c r:Int) (w:Z3) (hr:rightB c r=Zy):
 Calls ZW 139 #[Zu #[ZZ ZY c,ZZ ZY r]] w fun e w'=>e=ZX (Zx ⟨(am c r).toArray⟩)/\Z2 w.heap.size w w':=by
 have HR:=qf (er c r);obtain ⟨c0,c1,r0,r1⟩:=(bp c r).1 hr;rw [hr] at HR;have e1:=qhb;have hl:=EE c c0 c1;have hw1:IntKind.i64.wrap (c+1)=c+1:=IntWalk.i64_in _ qoq;have hw2:=qhy;have hc1:0<=c+1:=qoq;have hc2:c+1<=16:=qoq;have HT:=qf (tt (r+1) qnY);have hlen:=oO (r+1) qnY;clear hr;obtain ⟨D,hD⟩:∃D,D=Lib.itoa (r+1):=⟨_,rfl⟩
 rw [<-hD] at HT hlen e1;clear hD;go_enter func139,ntmps139;go_wp2_with fail;refine .mono qrA ?_;rintro e w1 ⟨rfl,b1⟩;obtain ⟨k0,k1⟩:=qhz;go_wp2_with fail
 go_region_with ((first
  |(go_at_call 138;refine (HT.out _).mono ?_;rintro e w2 ⟨rfl,b2⟩;have m0:=aa (W:=w1.drew) b2 k0;have m1:=aa (W:=w1.drew) b2 k1)))
 all_goals
  go_wp2
  go_ret;have h1:=qab;exact ⟨gL (by rw [e1.out,ByteArray.mk_append_mk];simp),h1.drew.trans (b2.mono h1.size)⟩
theorem Fb (c r:Int) (w:Z3) (hr:rightB c r=Zz):
 Calls ZW 139 #[Zu #[ZZ ZY c,ZZ ZY r]] w fun e w'=>e=ZX (Zx ⟨(am c r).toArray⟩)/\Z2 w.heap.size w w':=by
 have HR:=qf (er c r);have e1:=qhD;rw [hr] at HR;clear hr;go_enter func139,ntmps139;go_wp2_with fail;refine .mono qrA ?_;rintro e w1 ⟨rfl,b1⟩;have h1:=qab;go_wp2_with fail;go_ret;exact ⟨gL (by rw [e1.out]),h1⟩
theorem ig (c r:Int) (w:Z3):
 Calls ZW 139 #[Zu #[ZZ ZY c,ZZ ZY r]] w fun e w'=>e=ZX (Zx ⟨(am c r).toArray⟩)/\Z2 w.heap.size w w':=by
 cases hr:rightB c r with
 |true=>exact CS c r w hr
 |false=>exact Fb c r w hr
theorem nF (s:ByteArray) (i:Nat) (h:i<s.size):s.data.toList[i]? =ZV (s[i]'h):=by
 have h1:=qhv;rw [List.getElem?_eq_getElem h1];rfl
theorem bV (s:ByteArray) (i:Nat) (h:i<s.size):s.data.toList.getD i 0=(s[i]'h):=by
 rw [List.getD_eq_getElem?_getD,nF s i h];rfl
theorem aq (s:ByteArray):s.data.toList.length=s.size:=Array.length_toList

def aN (l:List UInt8):Bool:=decide (2<=l.length/\l.length<=4/\65<=(l.getD 0 0).toNat/\(l.getD 0 0).toNat<=90/\(l.getD 1 0).toNat≠48)&&
 decide (∀i,i<l.length->1<=i->48<=(l.getD i 0).toNat/\(l.getD i 0).toNat<=57)

theorem xE (s:ByteArray) (hs:s.size<=9223372036854775807) (w:Z3):
 Calls ZW 237 #[.string s] w fun e w'=>e=ZX (.bool (aN s.data.toList))/\w=w':=by
 by_cases h2:s.size<2
 ·have e1:=qf (show aN s.data.toList=Zz from by
   unfold aN;rw [aq,decide_eq_false qoq];rfl)
  have d1:=qhA;clear h2;exact qkj
 ·have d1:decide ((s.size:Int)<2)=Zz:=decide_eq_false qoq
  by_cases h4:4<s.size
  ·have e1:=qf (show aN s.data.toList=Zz from by
    unfold aN;rw [aq,decide_eq_false qoq];rfl)
   have d2:=qgX;clear h2 h4;exact qkj
  ·have d2:decide ((4:Int)<(s.size:Int))=Zz:=decide_eq_false qoq
   have s0:0<s.size:=qoq;have s1:1<s.size:=qoq;have g0:=qf (bV s 0 s0);have g1:=qf (bV s 1 s1);by_cases ha:65<=(s[0]'s0).toNat/\(s[0]'s0).toNat<=90/\(s[1]'s1).toNat≠48
   ·obtain ⟨a1,a2,a3⟩:=ha
    obtain ⟨d3,d4,d5⟩:=qcT
    have e0:=qf (show aN s.data.toList=decide (∀i,i<s.data.toList.length->1<=i->48<=(s.data.toList.getD i 0).toNat/\(s.data.toList.getD i 0).toNat<=57) from by
     unfold aN;rw [g0.out,g1.out,aq,decide_eq_true (p:=2<=s.size/\_) qoq,Bool.true_and])
    clear a1 a2 a3 h2;go_enter func237,ntmps237;go_wp2_with fail;go_loop [3] (fun v=>∃i:Nat,1<=i/\i<=s.size/\v=ZZ ZY i/\Hid (∀j,j<i->1<=j->48<=(s.data.toList.getD j 0).toNat/\(s.data.toList.getD j 0).toNat<=57)) (fun v=>s.size - (RowKit.intOf v).toNat)
    case atStart=>exact ⟨1,qd,qoq,rfl,qf fun j hj hj1=>by omega⟩
    case round=>
     obtain ⟨i,hi1,hi,rfl,HU⟩:=hrel;by_cases hlt:i<s.size
     ·have gi:=qf (bV s i hlt)
      by_cases hdig:48<=(s[i]'hlt).toNat/\(s[i]'hlt).toNat<=57
      ·have HS:Hid (∀j,j<i+1->1<=j->48<=(s.data.toList.getD j 0).toNat/\(s.data.toList.getD j 0).toNat<=57):=qf fun j hj hj1=>by
        by_cases e:j=i
        ·subst e;rw [gi.out];exact hdig
        ·exact HU.out j qoq hj1
       obtain ⟨q1,q2⟩:=hdig;have t1:decide (((s[i]'hlt).toNat:Int)<48)=Zz:=decide_eq_false qoq;have t2:decide ((57:Int)<((s[i]'hlt).toNat:Int))=Zz:=decide_eq_false qoq;clear q1 q2;go_wp2_with fail;go_round
       case rel=>exact ⟨i+1,qoq,qoq,qnG,HS⟩
       case measure=>exact qmy
      ·have e1:=qf (show aN s.data.toList=Zz from by
        rw [e0.out];refine decide_eq_false fun h=>hdig ?_
        have:=h i qqE hi1;rwa [gi.out] at this)
       by_cases q1:(s[i]'hlt).toNat<48
       ·have t1:decide (((s[i]'hlt).toNat:Int)<48)=Zy:=decide_eq_true qoq
        clear hdig q1;exact qiY
       ·have t1:decide (((s[i]'hlt).toNat:Int)<48)=Zz:=decide_eq_false qoq
        have t2:decide ((57:Int)<((s[i]'hlt).toNat:Int))=Zy:=decide_eq_true qoq;clear hdig q1;exact qiY
     ·have e1:=qf (show aN s.data.toList=Zy from by
       rw [e0.out];refine decide_eq_true fun j hj hj1=>HU.out j (by rw [aq] at hj;omega) hj1)
      exact qiY
   ·have e1:=qf (show aN s.data.toList=Zz from by
     unfold aN;rw [g0.out,g1.out,aq,decide_eq_false (p:=2<=s.size/\_) qoq,Bool.false_and])
    by_cases a1:(s[0]'s0).toNat<65
    ·have d3:decide (((s[0]'s0).toNat:Int)<65)=Zy:=decide_eq_true qoq
     clear a1 ha h2 h4;exact qkj
    ·have d3:decide (((s[0]'s0).toNat:Int)<65)=Zz:=decide_eq_false qoq
     by_cases a2:90<(s[0]'s0).toNat
     ·have d4:decide ((90:Int)<((s[0]'s0).toNat:Int))=Zy:=decide_eq_true qoq
      clear a1 a2 ha h2 h4;exact qkj
     ·have d4:decide ((90:Int)<((s[0]'s0).toNat:Int))=Zz:=decide_eq_false qoq
      have d5:=qhm;clear a1 a2 ha h2 h4;exact qkj
def eL (i:Nat):List UInt8:=am (atC i) (atR i)
def jo (l:List UInt8):Option Nat:=(List.range 1024).find? fun i=>eL i==l
def prC (l:List UInt8):Int:=if aN l=Zy then match jo l with|some i=>atC i|none=>0 else 0
def prR (l:List UInt8):Int:=if aN l=Zy then match jo l with|some i=>atR i|none=>0 else 0
def prE (l:List UInt8):Int:=if aN l=Zy then match jo l with|some _=>0|none=>4 else 2
theorem tD (hi:i<1024) (h:eL i=l) (hb:∀j,j<i->eL j≠l):jo l=ZV i:=by
 unfold jo;rw [List.find?_range_eq_some];refine ⟨qoA,qph,fun j hj=>by simpa using hb j hj⟩
theorem tr (hb:∀j,j<1024->eL j≠l):jo l=ZU:=by
 unfold jo;rw [List.find?_eq_none];intro j hj;have:=hb j qpg;simpa using this

def J9 (v:Value):Nat:=1024 - (RowKit.intOf v).toNat
theorem yf (s:ByteArray) (hs:s.size<=9223372036854775807) (w:Z3):
 Calls ZW 190 #[.string s] w fun e w'=>e=ZX (.tuple #[Zu #[ZZ ZY (prC s.data.toList),ZZ ZY (prR s.data.toList)],ZZ ZY (prE s.data.toList)])/\Z2 w.heap.size w w':=by
 have HF:=qf (xE s hs);cases hf:aN s.data.toList with
 |false=>
  have e1:=qf (show prC s.data.toList=0 from if_neg qoS);have e2:=qf (show prR s.data.toList=0 from if_neg qoS);have e3:=qf (show prE s.data.toList=2 from if_neg qoS);rw [hf] at HF;clear hf;go_enter func190,ntmps190;go_wp2_with fail;refine .mono qrx ?_;rintro e w1 ⟨rfl,rfl⟩;go_wp2_with fail
  exact bodyPost_ret (v:=.tuple #[Zu #[ZZ ZY 0,ZZ ZY 0],ZZ ZY 2]) (by simp [results,results190,go_sem]) rfl
   ⟨qoB,qa⟩
 |true=>
  have Hf:=qf hf;rw [hf] at HF;clear hf;go_enter func190,ntmps190;go_wp2_with fail;refine .mono qrx ?_;rintro e w1 ⟨rfl,rfl⟩;go_wp2_with fail;go_loopw [5] (fun v wr=>∃i:Nat,i<=1024/\v=ZZ ZY i/\Hid (∀j,j<i->eL j≠s.data.toList)/\Z2 (w.heap.size+1) (w.alloc (.cells #[ZZ ZY 0,ZZ ZY 0] 28)) wr) (fun v _=>J9 v)
  case atStart=>exact ⟨0,qoq,rfl,qf fun j hj=>by omega,qb⟩
  case round=>
   obtain ⟨i,hi,rfl,HU,hb⟩:=hrel;have k0:wr.cell? ⟨w.heap.size,0,ZU⟩=ZV (ZZ ZY 0):=qpa;have k1:wr.cell? ⟨w.heap.size,1,ZU⟩=ZV (ZZ ZY 0):=qpa;have f0:wr.frozen? ⟨w.heap.size,0,ZU⟩=Zz:=(by rw [hb.frozen qns];simp);have f1:wr.frozen? ⟨w.heap.size,1,ZU⟩=Zz:=(by rw [hb.frozen qns];simp);obtain ⟨z0,b0⟩:=qfg;by_cases hlt:i<1024
   ·by_cases he:eL i=s.data.toList
    ·have ht:(am (atC i) (atR i)==s.toList)=Zy:=by rw [ByteArray.toList_eq];simpa [eL] using he
     have hfd:=tD hlt he HU.out;have e1:=qf (show prC s.data.toList=atC i from by unfold prC;rw [if_pos Hf.out,hfd]);have e2:=qf (show prR s.data.toList=atR i from by unfold prR;rw [if_pos Hf.out,hfd]);have e3:=qf (show prE s.data.toList=0 from by unfold prE;rw [if_pos Hf.out,hfd]);clear hfd he;go_wp2_with fail;refine (sf _ _).mono ?_;rintro e w2 ⟨rfl,b2⟩;have q0:=aa b2 k0;have q1:=aa b2 k1;have p0:=ae b2 qqF f0;have p1:=ae b2 qqF f1;have z2:w.heap.size<w2.heap.size:=qpN;clear k0 k1 f0 f1;go_wp2_with fail;refine (ig _ _ _).mono ?_;rintro e w3 ⟨rfl,b3⟩;obtain ⟨m0,m1⟩:=qgG;have n0:=aa b3 (p:=⟨w.heap.size,0,ZU⟩) (v:=ZZ ZY 0) (by simp [go_sem,z2,q0]);have n1:=aa b3 (p:=⟨w.heap.size,1,ZU⟩) (v:=ZZ ZY 0) (by simp [go_sem,z2,q1]);have g0:=ae b3 (p:=⟨w.heap.size,0,ZU⟩) qnu (by simp [go_sem,z2,p0]);have g1:=ae b3 (p:=⟨w.heap.size,1,ZU⟩) qnu (by simp [go_sem,z2,p1]);have h2:=b0.trans (b2.mono qoq);have h3:Z2 w.heap.size w w3:=(h2.alloc qoq _).trans (b3.mono qnu);clear q0 q1 p0 p1 b2 b3;go_wp2_with fail
     exact bodyPost_ret (v:=.tuple #[Zu #[ZZ ZY (atC i),ZZ ZY (atR i)],ZZ ZY 0]) (by simp [results,results190,go_sem,n0,n1]) rfl
      ⟨qoB,(h3.setCell qns _).setCell qns _⟩
    ·have ht:(am (atC i) (atR i)==s.toList)=Zz:=by rw [ByteArray.toList_eq];simpa [eL] using he
     have HU':Hid (∀j,j<i+1->eL j≠s.data.toList):=qf fun j hj=>by
      by_cases e:j=i
      ·subst e;exact he
      ·exact HU.out j qoq
     clear he;go_wp2_with fail;refine (sf _ _).mono ?_;rintro e w2 ⟨rfl,b2⟩;have h2:=hb.trans (b2.mono qoq);go_wp2_with fail;refine (ig _ _ _).mono ?_;rintro e w3 ⟨rfl,b3⟩;have z2:w.heap.size+1<=w2.heap.size:=qpN;have h3:Z2 (w.heap.size+1) (w.alloc (.cells #[ZZ ZY 0,ZZ ZY 0] 28)) w3:=(h2.alloc z2 _).trans (b3.mono qnu);clear k0 k1 f0 f1 b2 b3;go_wp2_with fail;go_roundw
     case rel=>exact ⟨i+1,qoq,qnG,HU',h3⟩
     case measure=>simp [J9,RowKit.intOf];omega
   ·have hfd:=tr (l:=s.data.toList) fun j hj=>HU.out j qoq
    have e1:=qf (show prC s.data.toList=0 from by unfold prC;rw [if_pos Hf.out,hfd]);have e2:=qf (show prR s.data.toList=0 from by unfold prR;rw [if_pos Hf.out,hfd]);have e3:=qf (show prE s.data.toList=4 from by unfold prE;rw [if_pos Hf.out,hfd]);clear hfd;go_wp2_with fail
    exact bodyPost_ret (v:=.tuple #[Zu #[ZZ ZY 0,ZZ ZY 0],ZZ ZY 4]) (by simp [results,results190,go_sem,k0,k1]) rfl
     ⟨qoB,(b0.setCell qns _).setCell qns _⟩
section
open Go.Lib
theorem gU (c:Int) (h0:0<=c) (h1:c<=15):(dm c).toNat=65+c.toNat:=by
 unfold dm;rw [UInt8.toNat_ofNat'];omega
theorem tY (j:Nat) (h:j<1024):eL j=dm ((j:Int) % 16)::decDigits (j / 16+1):=by
 unfold eL;rw [jU j h,jI j h];unfold am;rw [if_pos ((bp _ _).2 qoq)];refine congrArg (List.cons _) ?_;have e:(j:Int) / 16+1=((j / 16+1:Nat):Int):=qoq;rw [e,itoa_nonneg]
theorem vq (h:aN l=Zy):∃(ch:UInt8) (ds:List UInt8) (u:Nat),l=ch::ds/\65<=ch.toNat/\ch.toNat<=90/\1<=u/\u<=999/\decDigits u=ds/\decFrom 0 ds=ZV u:=by
 unfold aN at h;rw [Bool.and_eq_true,decide_eq_true_eq,decide_eq_true_eq] at h;obtain ⟨⟨h2,h4,ha,hz,h1⟩,hd⟩:=h;cases l with
 |nil=>simp at h2
 |cons ch ds=>
  have hdec:∃u,decFrom 0 ds=ZV u:=by
   have aux:∀(l:List UInt8) (acc:Nat),(∀i (hi:i<l.length),48<=(l[i]'hi).toNat/\(l[i]'hi).toNat<=57)->∃u,decFrom acc l=ZV u:=by
    intro l;induction l with
    |nil=>intro acc _;exact ⟨acc,rfl⟩
    |cons b t ih=>
     intro acc hb;have h0:=hb 0 qns;simp only [List.getElem_cons_zero] at h0;simp only [decFrom,digitVal,if_pos h0]
     exact ih _ fun i hi=>by
      have:=hb (i+1) qph;simpa using this
   refine aux ds 0 fun i hi=>?_
   have:=hd (i+1) qph qoq;simpa [List.getD_eq_getElem?_getD,List.getElem?_eq_getElem hi] using this
  obtain ⟨u,hu⟩:=hdec;have hne:ds≠[]:=(by rintro rfl;simp at h2)
  have hh:ds.head? ≠ZV 48:=by
   cases ds with
   |nil=>simp
   |cons b t=>
    simp only [List.getD_eq_getElem?_getD,List.getElem?_cons_succ,List.getElem?_cons_zero,Option.getD_some] at h1;intro e;have e:=Option.some.inj e;subst e;exact h1 rfl
  have hdig:=jh ds.length ds u rfl hu hne (.inl hh);have hlt:=decFrom_lt ds 0 u hu;have hl3:ds.length<=3:=qqa;have hp:10 ^ ds.length<=10 ^ 3:=Nat.pow_le_pow_right qnv hl3;refine ⟨ch,ds,u,rfl,ha,hz,?_,qoq,hdig,hu⟩;rcases Nat.eq_zero_or_pos u with e|e
  ·subst e
   rw [gu] at hdig;rw [<-hdig] at hh;simp at hh
  ·exact e
theorem BP {v:Nat} (h:decDigits u=decDigits v):u=v:=by
 have a:=cB u;rw [h,cB] at a;exact (Option.some.inj a).symm
theorem tA (hf:aN (ch::ds)=Zy) (h1:65<=ch.toNat) (h2:ch.toNat<=80) (hu:1<=u) (hu2:u<=64) (hd:decDigits u=ds):
 prC (ch::ds)=(ch.toNat:Int) - 65/\prR (ch::ds)=(u:Int) - 1/\prE (ch::ds)=0:=by
 obtain ⟨i,hi⟩:∃i:Nat,i=16*(u - 1)+(ch.toNat - 65):=⟨_,rfl⟩
 have hi2:i<1024:=qoq
 have ht:eL i=ch::ds:=by
  rw [tY i hi2,<-hd]
  have e1:dm ((i:Int) % 16)=ch:=by
   apply UInt8.toNat_inj.1
   rw [gU _ qoq qoq];omega
  have e2:i / 16+1=u:=qoq;rw [e1,e2]
 have hfd:=tD hi2 ht fun j hj he=>by
  have hj2:j<1024:=qoq;exact qka
 refine ⟨?_,?_,?_⟩
 ·unfold prC;rw [if_pos hf,hfd];show atC (i:Int)=_;rw [jU i hi2];omega
 ·unfold prR;rw [if_pos hf,hfd];show atR (i:Int)=_;rw [jI i hi2];omega
 ·unfold prE;rw [if_pos hf,hfd]
theorem IA (hf:aN (ch::ds)=Zy) (h:80<ch.toNat\/64<u) (hd:decDigits u=ds):
 prC (ch::ds)=0/\prR (ch::ds)=0/\prE (ch::ds)=4:=by
 have hfd:=tr (l:=ch::ds) fun j hj2 he=>by
  exact qka
 refine ⟨?_,?_,?_⟩
 ·unfold prC;rw [if_pos hf,hfd]
 ·unfold prR;rw [if_pos hf,hfd]
 ·unfold prE;rw [if_pos hf,hfd]
theorem Bz (hf:aN l=Zz):prC l=0/\prR l=0/\prE l=2:=by
 refine ⟨?_,?_,?_⟩
 ·unfold prC;rw [if_neg qoS]
 ·unfold prR;rw [if_neg qoS]
 ·unfold prE;rw [if_neg qoS]
end
def At2 (w:Z3) (g:Nat) (l:List (Int×Int)):Prop:=∀(i:Nat) (x y:Int),l[i]? =ZV (x,y)->w.cell? ⟨g,i*2,ZU⟩=ZV (ZZ ZY x)/\w.cell? ⟨g,i*2+1,ZU⟩=ZV (ZZ ZY y)
theorem mq:∀(l:List (Int×Int)) (i:Nat) (x y:Int),l[i]? =ZV (x,y)->(bj l)[i*2]? =ZV (ZZ ZY x)/\(bj l)[i*2+1]? =ZV (ZZ ZY y)
 |[],i,x,y,h=>by simp at h
 |p::t,0,x,y,h=>by
  simp at h;subst h
  exact ⟨rfl,rfl⟩
 |p::t,i+1,x,y,h=>by
  have:=mq t i x y qoA;have e1:(i+1)*2=i*2+2:=qoq;have e:=qdo;rw [e,e1,List.getElem?_cons_succ,List.getElem?_cons_succ,List.getElem?_cons_succ,List.getElem?_cons_succ];exact this
theorem rf {cap:Nat} {l:List (Int×Int)} (h:w.ownsRow base 28 2 (.slice (ZV ⟨g,0,ZU⟩) l.length cap) l.length (bj l)):At2 w g l:=by
 intro i x y hi;have hlt:i<l.length:=(List.getElem?_eq_some_iff.1 hi).1;obtain ⟨h1,h2⟩:=mq l i x y hi;exact ⟨(h.cellAt (i*2) qoq).trans h1,(h.cellAt (i*2+1) qoq).trans h2⟩

theorem Dr {v:Value} {l:List (Int×Int)} (h:w.ownsRow base 28 2 v l.length (bj l)):
 ∃(A:Option Addr) (cap:Nat),v=.slice A l.length cap/\(∀i,i<l.length->∃g,A=ZV ⟨g,0,ZU⟩/\g<w.heap.size/\At2 w g l):=by
 have h':=h;rcases h.2 with ⟨rfl,hl⟩|⟨g,cap,cur,rfl,_,hh,_⟩
 ·exact ⟨ZU,0,(by rw [hl]),fun i hi=>by omega⟩
 ·refine ⟨_,cap,rfl,fun i hi=>⟨g,rfl,?_,rf h'⟩⟩
  exact (h'.lt g rfl).2
theorem km {w':Z3} {B:Nat} {l:List (Int×Int)} (h:At2 w g l) (hb:Z2 B w w') (hg:g<B):At2 w' g l:=by
 intro i x y hi;obtain ⟨h1,h2⟩:=h i x y hi;exact ⟨(by rw [hb.cell (p:=⟨g,i*2,ZU⟩) hg];exact h1),(by rw [hb.cell (p:=⟨g,i*2+1,ZU⟩) hg];exact h2)⟩
def spB (a b c d:Int):Bool:=rightB a b&&rightB c d
def spN (x:Bool) (n:Int):Int:=if x=Zy then n else 0
theorem Ee (a b c d:Int) (w:Z3):
 Calls ZW 284 #[Zu #[ZZ ZY a,ZZ ZY b],Zu #[ZZ ZY c,ZZ ZY d]] w fun e w'=>e=ZX (.tuple #[Zu #[ZZ ZY (spN (spB a b c d) (min a c)),ZZ ZY (spN (spB a b c d) (min b d)),ZZ ZY (spN (spB a b c d) (max a c)),ZZ ZY (spN (spB a b c d) (max b d))],.bool (spB a b c d)])/\Z2 w.heap.size w w':=by
 have HP:=qf (er a b);have HQ:=qf (er c d);cases hp:rightB a b<;>cases hq:rightB c d
 all_goals
  rw [hp] at HP;rw [hq] at HQ;have e0:spB a b c d=(rightB a b&&rightB c d):=rfl;rw [hp,hq] at e0;simp only [Bool.and_self,Bool.and_true,Bool.and_false] at e0;rw [e0];clear hp hq e0;go_enter func284,ntmps284;go_wp2_with fail;refine .mono qrB ?_;rintro e w1 ⟨rfl,b1⟩;obtain ⟨k0,k1,k2,k3,k4,k5,k6,k7,f0,f1,f2,f3,z1,h1⟩:=qap;clear b1;go_wp2_with fail;refine (HQ.out _).mono ?_;rintro e w2 ⟨rfl,b2⟩;obtain ⟨m0,m1,m2,m3,m4,m5,m6,m7,g0,g1,g2,g3⟩:=qcv;have h2:=qcW;clear k0 k1 k2 k3 k4 k5 k6 k7 f0 f1 f2 f3 b2;go_wp2_with fail
  all_goals first
   |exact bodyPost_ret (v:=.tuple #[Zu #[ZZ ZY 0,ZZ ZY 0,ZZ ZY 0,ZZ ZY 0],.bool Zz]) (by simp [results,results284,go_sem,m0,m1,m2,m3]) rfl
     ⟨rfl,(((h2.setCell qnu _).setCell qnu _).setCell qnu _).setCell qnu _⟩
   |exact bodyPost_ret (v:=.tuple #[Zu #[ZZ ZY (min a c),ZZ ZY (min b d),ZZ ZY (max a c),ZZ ZY (max b d)],.bool Zy]) (by simp [results,results284,go_sem,m0,m1,m2,m3]<;>omega) rfl
     ⟨rfl,(((h2.setCell qnu _).setCell qnu _).setCell qnu _).setCell qnu _⟩
theorem xd (a b c d x y:Int):dM a b c d x y=Zy↔bW a b c d=Zy/\a<=x/\x<=c/\b<=y/\y<=d:=by
 unfold dM;simp
