import Derived.Test.YteglaomdgdkibaaGreatDoorJNS08
import Derived.OpenShut
import Derived.Deep.Slices
import Derived.ChangeSame
import Derived.Shelf.Abstract
import Derived.Test.YteglaomdgdkibaaGreatDoorJSL
import Derived.Shelf.Strings.Runes
import Derived.Shelf.Strings.Prefix
import Derived.Lib.Bytealg
import Derived.WalkMore
import Derived.Lib.IndexAny
import Derived.Lib.IndexBytes
import Derived.Test.YteglaomdgdkibaaGreatDoorJQNSP
import Derived.Test.YteglaomdgdkibaaGreatDoorJQNSW
import Derived.Test.YteglaomdgdkibaaGreatDoorJQNSX
set_option linter.all false
set_option maxHeartbeats 0
set_option maxRecDepth 99999
namespace Go.Proofs.YteglaomdgdkibaaGreatDoor
open Go.RowKit
open Value renaming int→ZZ,string→Zx,agg→Zu
open IntKind renaming i64→ZY
open Ending renaming returned→ZX
open RowKit renaming Below→Z2
open Go renaming World→Z3
open Tryz
open Tryz renaming prog→ZW
open Option renaming some→ZV,none→ZU
open Bool renaming false→Zz,true→Zy
variable {i u:Nat}{c:UInt8}
section
open Go.ChangeShapes Go.WideShapes Go.Deep
theorem JR:laidOutB ZW=Zy:=by kernel_rfl
theorem F7:prog.cellsOf 3=1:=by kernel_rfl
theorem oy:prog.cellsOf 28=2:=by kernel_rfl
end
theorem Dg:∀(d:Nat) (t:Tr),aG t<=d->d<=1000000000->Wid t->∀(w:Z3) (P:Nat->Prop) (A:Option Addr) (cap:Nat),KV w P t A->
 Calls ZW 82 #[tv t A cap] w fun e w'=>e=ZX (ZZ ZY (aG t:Int))/\Z2 w.heap.size w w':=by
 intro d;induction d with
 |zero=>intro t h;rw [gM] at h;omega
 |succ d ih=>
  intro t hd hb hw w P A cap hk;unfold tv;have hlen:=hw.len;unfold maxLen at hlen;have HW:=qf hw;have HK:=qfq;have HI:=qf ih;have HE:=qf (gM t);have hdl:=qfP;clear hk hd ih hw;go_enter func82,ntmps82;go_wp2_with fail;go_loopw [3,9] (fun vn vi wr=>∃i:Nat,i<=t.kZ.length/\vn=ZZ ZY (aV (t.kZ.take i):Int)/\vi=ZZ ZY (i:Int)/\Z2 w.heap.size w wr) (fun _ vi _=>t.kZ.length - (RowKit.intOf vi).toNat)
  case atStart=>exact ⟨0,qe,(by rw [List.take_zero,aV];rfl),rfl,qa⟩
  case round=>
   obtain ⟨i,hi,rfl,rfl,hbel⟩:=hrel;have htl:=ke t.kZ i;by_cases hlt:i<t.kZ.length
   ·have hu:t.kZ[i]? =ZV (t.kZ[i]'hlt):=List.getElem?_eq_getElem hlt
    obtain ⟨g,o,rfl⟩:=HK.out.addr hu;obtain ⟨hg,A',cap',h8,hkv⟩:=HK.out.kidAt hbel hu;have htk:=qf (tM hu);have hdu:=jF hu;have HC:=qf (fun ob=>HI.out _ (Nat.le_trans hdu hdl) qoq (HW.out.kid hu) (wr.alloc ob) (fun _=>True) A' cap' (hkv.kept (Kept.of_below (qb.alloc qd ob))));generalize t.kZ[i]'hlt=u at*;unfold At8 at h8;unfold tv at HC;obtain ⟨q0,q1,q2,q3,q4,q5,q6,q7⟩:=h8;clear hkv hu;go_wp2_with fail;refine .mono qrE ?_;rintro e w1 ⟨rfl,b1⟩;have hb1:=qfy;clear b1 q0 q1 q2 q3 q4 q5 q6 q7;go_wp2_with fail;go_roundw
    case rel=>exact ⟨i+1,qoq,(by rw [htk.out];congr 1;omega),qnG,hb1⟩
    case measure=>exact qmy
   ·have hii:i=t.kZ.length:=by omega
    exact qkr
theorem rM (c:Int) (b0 b1:Bool) (h0:decide ((48:Int)<=c)=b0) (h1:decide (c<=57)=b1) (w:Z3):
 Calls ZW 172 #[.int .i32 c] w fun e w'=>e=ZX (.bool (b0&&b1))/\w=w':=by
 cases b0<;>cases b1
 all_goals
  go_enter func172,ntmps172;go_wp2_with fail;go_ret;exact ⟨rfl,rfl⟩
theorem rA (c:Int) (b0 b1:Bool) (h0:decide ((65:Int)<=c)=b0) (h1:decide (c<=90)=b1) (w:Z3):
 Calls ZW 175 #[.int .i32 c] w fun e w'=>e=ZX (.bool (b0&&b1))/\w=w':=by
 cases b0<;>cases b1
 all_goals
  go_enter func175,ntmps175;go_wp2_with fail;go_ret;exact ⟨rfl,rfl⟩
theorem tK (c:Int) (A B:Bool) (H1:Hid (∀w,Calls ZW 175 #[.int .i32 c] w fun e w'=>e=ZX (.bool A)/\w=w'))
 (H2:Hid (∀w,Calls ZW 172 #[.int .i32 c] w fun e w'=>e=ZX (.bool B)/\w=w')) (w:Z3):
 Calls ZW 177 #[.int .i32 c] w fun e w'=>e=ZX (.bool (A || B))/\w=w':=by
 cases A with
 |true=>
  go_enter func177,ntmps177;go_wp2_with fail;refine .mono qrC ?_;rintro e w1 ⟨rfl,rfl⟩;exact qiM
 |false=>
  go_enter func177,ntmps177;go_wp2_with fail;refine .mono qrC ?_;rintro e w1 ⟨rfl,rfl⟩;go_wp2_with fail;refine .mono qrR ?_;rintro e w2 ⟨rfl,rfl⟩;exact qiM

def dN (c:UInt8):Bool:=decide (65<=c.toNat/\c.toNat<=90)
structure BB (F:Nat) (f:UInt8->Bool):Prop where
 enters:∀(args:Array Value) (w:Z3),(callFunc F args).run ZW w=.ok (.enter F args) w
 low:∀(c:UInt8) (w:Z3),Calls ZW F #[.int .i32 (c.toNat:Int)] w fun e w'=>e=ZX (.bool (f c))/\w=w'
 high:∀(c:Nat) (w:Z3),128<=c->Calls ZW F #[.int .i32 (c:Int)] w fun e w'=>e=ZX (.bool Zz)/\w=w'
 off:∀c:UInt8,128<=c.toNat->f c=Zz
theorem iK (c:UInt8) (w:Z3):Calls ZW 172 #[.int .i32 (c.toNat:Int)] w fun e w'=>e=ZX (.bool (isFig c))/\w=w':=
 (rM c.toNat _ _ rfl rfl w).mono fun _ _ ⟨he,hb⟩=>⟨he.trans (aK (by
   unfold isFig;rw [Bool.eq_iff_iff];simp only [Bool.and_eq_true,decide_eq_true_eq];omega)),hb⟩
theorem oE (c:UInt8) (w:Z3):Calls ZW 175 #[.int .i32 (c.toNat:Int)] w fun e w'=>e=ZX (.bool (dN c))/\w=w':=
 (rA c.toNat _ _ rfl rfl w).mono fun _ _ ⟨he,hb⟩=>⟨he.trans (aK (by
   unfold dN;rw [Bool.eq_iff_iff];simp only [Bool.and_eq_true,decide_eq_true_eq];omega)),hb⟩
theorem mQ (c:Nat) (w:Z3) (h:128<=c):Calls ZW 172 #[.int .i32 (c:Int)] w fun e w'=>e=ZX (.bool Zz)/\w=w':=
 rM c Zy Zz (decide_eq_true qoq) (decide_eq_false qoq) w
theorem uN (c:Nat) (w:Z3) (h:128<=c):Calls ZW 175 #[.int .i32 (c:Int)] w fun e w'=>e=ZX (.bool Zz)/\w=w':=
 rA c Zy Zz (decide_eq_true qoq) (decide_eq_false qoq) w
theorem D9 (c:UInt8):bB c=(dN c || isFig c):=by
 unfold bB dN isFig;rw [Bool.eq_iff_iff];simp only [Bool.or_eq_true,decide_eq_true_eq]
theorem xy:BB 172 isFig where
 enters:=fun args w=>enters_of func172 qnx rfl args w
 low:=iK
 high:=mQ
 off:=fun c h=>decide_eq_false qoq
theorem Ah:BB 177 bB where
 enters:=fun args w=>enters_of func177 qnx rfl args w
 low:=fun c w=>by
  rw [D9];exact tK c.toNat _ _ (qf (oE c)) (qf (iK c)) w
 high:=fun c w h=>tK c Zz Zz (qf fun w=>uN c w h) (qf fun w=>mQ c w h) w
 off:=fun c h=>decide_eq_false qoq

theorem uQ {F:Nat} {f:UInt8->Bool} (hA:BB F f) (T:ByteArray) (_hs:T.size<=9223372036854775807) (w:Z3):
 Calls ZW 174 #[.string T,.func (.func F) #[] #[]] w fun e w'=>e=ZX (ZZ ZY (aH f T.data.toList 0:Int))/\Z2 w.heap.size w w':=by
 have HA:=qf hA;have hE:=hA.enters;clear hA;go_enter func174,ntmps174;go_wp2_with fail;go_loopw [4,5] (fun _ _ wr=>∃pos:Nat,pos<=T.size/\wr=w.iter T pos/\Hid (∀j,j<pos->f (T.data.toList.getD (0+j) 0)=Zy)) (fun _ _ wr=>T.size - wr.iterPos w.heap.size)
 case atStart=>exact ⟨0,qe,rfl,qf fun j hj=>by omega⟩
 case round=>
  obtain ⟨pos,hpos,rfl,HU⟩:=hrel;by_cases hp:pos<T.size
  ·have hb:=bV T pos hp
   by_cases ha:(T[pos]'hp).toNat<128
   ·have H1:=HA.out.low (T[pos]'hp)
    cases hf:f (T[pos]'hp) with
    |true=>
     have HS:Hid (∀j,j<pos+1->f (T.data.toList.getD (0+j) 0)=Zy):=qf fun j hj=>by
      by_cases e:j=pos
      ·subst e;rw [Nat.zero_add,hb];exact hf
      ·exact HU.out j qoq
     rw [hf] at H1;have H1:=qf H1;have hnx:=qez;clear hb hf ha;go_wp2_with fail;refine .mono qrC ?_;rintro e w1 ⟨rfl,rfl⟩;exact qkS
    |false=>
     have hR:aH f T.data.toList 0=pos:=iU HU.out qnX (.inr (by rw [Nat.zero_add,hb];exact hf));have HR:=qf hR;rw [hf] at H1;have H1:=qf H1;have hnx:=qez;clear hb hf ha hR;exact qku
   ·have hr:=(decode_high T pos hp qoq).1
    have hR:aH f T.data.toList 0=pos:=iU HU.out qnX (.inr (by rw [Nat.zero_add,hb];exact HA.out.off _ qoq));have HR:=qf hR;have hnx:=fun ty=>run_next_any (P:=ZW) w T pos ty hp
    have H1:=qf fun w=>HA.out.high (Utf8.decode T pos).1 w qoq
    clear hb ha hR hr;generalize (Utf8.decode T pos).1=R at*;generalize (Utf8.decode T pos).2=V at*;exact qku
  ·have hnx:=fun ty=>run_next_end (P:=ZW) w T pos ty hp
   have hR:aH f T.data.toList 0=T.size:=by
    have e:pos=T.size:=qoq;exact iU (fun j hj=>HU.out j qoq) qnX (.inl qnX)
   have HR:=qf hR;clear hR;go_wp2_with fail;go_ret;exact ⟨qqn,qa⟩
theorem mS:∀(l:List UInt8) (acc u:Nat),Lib.parseUint10 acc l=.ok u->Lib.decFrom acc l=ZV u
 |[],acc,u,h=>by simp only [Lib.parseUint10] at h;injection h with h;subst h;rfl
 |c::r,acc,u,h=>by
  simp only [Lib.parseUint10] at h;split at h
  ·rename_i hc
   split at h
   ·cases h
   ·split at h
    ·cases h
    ·simp only [Lib.decFrom,Lib.digitVal]
     rw [if_pos hc];exact mS r _ u h
  ·cases h
theorem rX {l:List UInt8} (hne:l≠[]) (hf:∀c∈l,isFig c=Zy):Lib.atoiAll l=Lib.signless (Lib.parseUint10 0 l):=by
 cases l with
 |nil=>exact absurd rfl hne
 |cons c r=>
  have hc:48<=c.toNat/\c.toNat<=57:=of_decide_eq_true (hf c qns);rw [Lib.atoiAll_plain c r qoq qoq];unfold Lib.parseMag;rw [if_neg qns]
theorem Iv {l:List UInt8} (hne:l≠[]) (hf:∀c∈l,isFig c=Zy) (h:dX l=ZV u):Lib.atoiAll l=.ok (u:Int):=by
 unfold dX at h;split at h
 ·rename_i v hv
  split at h
  ·rename_i hle
   have e:=Option.some.inj h;subst e;rw [rX hne hf,jR l 0 v hv qoq];simp only [Lib.signless];rw [if_neg qoq]
  ·cases h
 ·cases h
theorem Gd {l:List UInt8} (hne:l≠[]) (hf:∀c∈l,isFig c=Zy) (h:dX l=ZU):∀v,Lib.atoiAll l≠.ok v:=by
 intro v hv;rw [rX hne hf] at hv;cases hp:Lib.parseUint10 0 l
 ·rename_i u
  rw [hp] at hv;have hd:=mS l 0 u hp;unfold dX at h;rw [hd] at h;simp only [Lib.signless] at hv;split at hv
  ·cases hv
  ·rename_i hlt
   have:(if u<=9223372036854775807 then ZV u else ZU)=ZU:=h;rw [if_pos qoq] at this;cases this
 ·rw [hp] at hv;cases hv
 ·rw [hp] at hv;cases hv

theorem yF (s:ByteArray) (hs:s.size<=281474976710656) (v:Int) (h:Lib.atoiAll s.data.toList=.ok v) (w:Z3):
 Calls ZW 124 #[.string s] w fun e w'=>e=ZX (.tuple #[ZZ ZY v,.nilIface])/\Z2 w.heap.size w w':=
 (Any.strconv_Atoi_ok laysC172 s qoq v h w).mono fun _ _ ⟨he,hw⟩=>⟨he,by
   rcases hw with hw|⟨t,hw⟩
   ·exact hw▸qb
   ·exact hw▸Lib.bytesWorld_below _ _ _⟩
theorem uq (s:ByteArray) (hs:s.size<=281474976710656) (h:∀v,Lib.atoiAll s.data.toList≠.ok v) (w:Z3) (hE:jc w):
 Calls ZW 124 #[.string s] w fun e w'=>∃(n:Int) (N:Nat),B64 n/\e=ZX (.tuple #[ZZ ZY n,.iface 269 (.pointer (ZV ⟨N,0,ZU⟩))])/\Z2 w.heap.size w w':=by
 obtain ⟨⟨t1,p1,h1⟩,⟨t2,p2,h2⟩⟩:=hE;cases ha:Lib.atoiAll s.data.toList
 ·exact absurd ha (h _)
 ·exact (Any.strconv_Atoi_syntax_var laysC172 s hs ha t2 p2 w h2).mono fun _ _ ⟨N,he,_,_,hb⟩=>⟨0,N,qnY,he,hb⟩
 ·refine (Any.strconv_Atoi_range_var laysC172 s hs ha t1 p1 w h1).mono fun _ _ ⟨N,he,_,_,hb⟩=>⟨_,N,?_,he,hb⟩
  unfold B64 Lib.atoiSat;split<;>(try split)<;>omega

def jJ (l:List UInt8):Value:=match dX l with
 |some u=>.tuple #[Zu #[ZZ ZY 1,ZZ ZY (u:Int),ZZ ZY 0,ZZ ZY 0,Zx ⟨#[]⟩,ZZ ZY 0],ZZ ZY (l.length:Int)]
 |none=>.tuple #[Zu #[ZZ ZY 0,ZZ ZY 0,ZZ ZY 0,ZZ ZY 0,Zx ⟨#[]⟩,ZZ ZY 0],ZZ ZY 0]
theorem xB (s:ByteArray) (hs:s.size<=281474976710656) (h0:0<s.size) (hf:∀c∈s.data.toList,isFig c=Zy) (w:Z3) (hE:jc w):
 Calls ZW 173 #[.string s] w fun e w'=>e=ZX (jJ s.data.toList)/\Z2 w.heap.size w w':=by
 have hne:s.data.toList≠[]:=by
  intro e;have:=aq s;rw [e] at this;exact qlF
 cases hn:dX s.data.toList with
 |some u=>
  have HV:=qf (show jJ s.data.toList=.tuple #[Zu #[ZZ ZY 1,ZZ ZY (u:Int),ZZ ZY 0,ZZ ZY 0,Zx ⟨#[]⟩,ZZ ZY 0],ZZ ZY (s.size:Int)] from by unfold jJ;rw [hn,aq]);have H1:=qf (yF s hs u (Iv hne hf hn));clear hn hf hne hE h0;go_enter func173,ntmps173;go_wp2_with fail;refine .mono qrC ?_;rintro e w1 ⟨rfl,b1⟩;obtain ⟨k10,k11,k12,k13,k14,k15,f10,f11,f12,f13,f14,f15,h1,z1⟩:=qk;clear b1;go_wp2_with fail
  exact bodyPost_ret (v:=.tuple #[Zu #[ZZ ZY 1,ZZ ZY (u:Int),ZZ ZY 0,ZZ ZY 0,Zx ⟨#[]⟩,ZZ ZY 0],ZZ ZY (s.size:Int)]) qpQ rfl ⟨qpY,by
   repeat' (first|(with_reducible exact h1)|(with_reducible refine Below.alloc ?_ ?_ _)|(with_reducible refine Below.setCell ?_ ?_ _))
   all_goals (first|(simp;done)|(simpa using h1.size))⟩
 |none=>
  have HV:=qf (show jJ s.data.toList=.tuple #[Zu #[ZZ ZY 0,ZZ ZY 0,ZZ ZY 0,ZZ ZY 0,Zx ⟨#[]⟩,ZZ ZY 0],ZZ ZY 0] from by unfold jJ;rw [hn]);have H1:=qf (uq s hs (Gd hne hf hn));have HE:=qf hE;clear hn hf hne hE h0;go_enter func173,ntmps173;go_wp2_with fail;refine (H1.out _ (HE.out.below qa)).mono ?_;rintro e w1 ⟨n,N,hn,rfl,b1⟩;obtain ⟨k10,k11,k12,k13,k14,k15,f10,f11,f12,f13,f14,f15,h1,z1⟩:=qk;clear b1;go_wp2_with fail
  exact bodyPost_ret (v:=.tuple #[Zu #[ZZ ZY 0,ZZ ZY 0,ZZ ZY 0,ZZ ZY 0,Zx ⟨#[]⟩,ZZ ZY 0],ZZ ZY 0]) qpQ rfl ⟨qpY,by
   repeat' (first|(with_reducible exact h1)|(with_reducible refine Below.alloc ?_ ?_ _)|(with_reducible refine Below.setCell ?_ ?_ _))
   all_goals (first|(simp;done)|(simpa using h1.size))⟩
theorem G7 (s:ByteArray) (w:Z3) (b0 b1 b2 b3 b4:Bool) (h0:(s.toList==[73,70])=b0) (h1:(s.toList==[83,85,77])=b1) (h2:(s.toList==[77,73,78])=b2) (h3:(s.toList==[77,65,88])=b3) (h4:(s.toList==[67,79,85,78,84])=b4):
 Calls ZW 229 #[.string s] w fun e w'=>e=ZX (.bool (b0 || b1 || b2 || b3 || b4))/\w=w':=by
 cases b0 with
 |true=>
  go_enter func229,ntmps229;exact qiM
 |false=>
  cases b1 with
  |true=>
   go_enter func229,ntmps229;exact qiM
  |false=>
   cases b2<;>cases b3<;>cases b4
   all_goals
    go_enter func229,ntmps229;go_wp2_with fail;go_ret;exact ⟨rfl,rfl⟩
theorem DK (s:ByteArray) (w:Z3):
 Calls ZW 229 #[.string s] w fun e w'=>e=ZX (.bool (bP s.data.toList))/\w=w':=
 (G7 s w _ _ _ _ _ rfl rfl rfl rfl rfl).mono fun _ _ ⟨he,hb⟩=>⟨he.trans (aK (by rw [ByteArray.toList_eq];rfl)),hb⟩

def fj (l:List UInt8):Value:=
 if prE l=0 then .tuple #[Zu #[ZZ ZY 2,ZZ ZY 0,ZZ ZY (prC l),ZZ ZY (prR l),Zx ⟨#[]⟩,ZZ ZY 0],ZZ ZY (l.length:Int)]
 else if prE l=4 then .tuple #[Zu #[ZZ ZY 3,ZZ ZY 0,ZZ ZY 0,ZZ ZY 0,Zx ⟨#[]⟩,ZZ ZY 0],ZZ ZY (l.length:Int)]
 else if bP l=Zy then .tuple #[Zu #[ZZ ZY 4,ZZ ZY 0,ZZ ZY 0,ZZ ZY 0,Zx ⟨l.toArray⟩,ZZ ZY 0],ZZ ZY (l.length:Int)]
 else .tuple #[Zu #[ZZ ZY 0,ZZ ZY 0,ZZ ZY 0,ZZ ZY 0,Zx ⟨#[]⟩,ZZ ZY 0],ZZ ZY 0]
theorem ye (s:ByteArray):(⟨s.data.toList.toArray⟩:ByteArray)=s:=rfl
theorem FF (s:ByteArray) (hs:s.size<=9223372036854775807) (w:Z3):
 Calls ZW 176 #[.string s] w fun e w'=>e=ZX (fj s.data.toList)/\Z2 w.heap.size w w':=by
 have H1:=qf (CJ s hs);have HW:=qf (DK s);have hl:=aq s;by_cases h0:prE s.data.toList=0
 ·skip
  have HV:=qf (show fj s.data.toList=.tuple #[Zu #[ZZ ZY 2,ZZ ZY 0,ZZ ZY (prC s.data.toList),ZZ ZY (prR s.data.toList),Zx ⟨#[]⟩,ZZ ZY 0],ZZ ZY (s.size:Int)] from by unfold fj;rw [if_pos h0,hl]);clear hl;generalize prC s.data.toList=C at*;generalize prR s.data.toList=R at*;generalize prE s.data.toList=E at*;have d0:(E==0)=Zy:=(by rw [beq_iff_eq];exact h0);clear h0;go_enter func176,ntmps176;go_wp2_with fail;refine .mono qrC ?_;rintro e w1 ⟨rfl,b1⟩;obtain ⟨k10,k11,k12,k13,k14,k15,f10,f11,f12,f13,f14,f15,h1,z1⟩:=qk;clear b1;go_wp2_with fail
  exact bodyPost_ret (v:=.tuple #[Zu #[ZZ ZY 2,ZZ ZY 0,ZZ ZY C,ZZ ZY R,Zx ⟨#[]⟩,ZZ ZY 0],ZZ ZY (s.size:Int)]) qol rfl ⟨qpY,by
   repeat' (first|(with_reducible exact h1)|(with_reducible refine Below.alloc ?_ ?_ _)|(with_reducible refine Below.setCell ?_ ?_ _))
   all_goals (first|(simp;done)|(simpa using h1.size))⟩
 ·by_cases h4:prE s.data.toList=4
  ·skip
   have HV:=qf (show fj s.data.toList=.tuple #[Zu #[ZZ ZY 3,ZZ ZY 0,ZZ ZY 0,ZZ ZY 0,Zx ⟨#[]⟩,ZZ ZY 0],ZZ ZY (s.size:Int)] from by unfold fj;rw [if_neg h0,if_pos h4,hl]);clear hl;generalize prC s.data.toList=C at*;generalize prR s.data.toList=R at*;generalize prE s.data.toList=E at*;have d0:=qeY;have d4:(E==4)=Zy:=(by rw [beq_iff_eq];exact h4);clear h0 h4;go_enter func176,ntmps176;go_wp2_with fail;refine .mono qrC ?_;rintro e w1 ⟨rfl,b1⟩;obtain ⟨k10,k11,k12,k13,k14,k15,f10,f11,f12,f13,f14,f15,h1,z1⟩:=qk;clear b1;go_wp2_with fail
   exact bodyPost_ret (v:=.tuple #[Zu #[ZZ ZY 3,ZZ ZY 0,ZZ ZY 0,ZZ ZY 0,Zx ⟨#[]⟩,ZZ ZY 0],ZZ ZY (s.size:Int)]) qol rfl ⟨qpY,by
    repeat' (first|(with_reducible exact h1)|(with_reducible refine Below.alloc ?_ ?_ _)|(with_reducible refine Below.setCell ?_ ?_ _))
    all_goals (first|(simp;done)|(simpa using h1.size))⟩
  ·cases hw:bP s.data.toList with
   |true=>
    have HV:=qf (show fj s.data.toList=.tuple #[Zu #[ZZ ZY 4,ZZ ZY 0,ZZ ZY 0,ZZ ZY 0,.string s,ZZ ZY 0],ZZ ZY (s.size:Int)] from by unfold fj;rw [if_neg h0,if_neg h4,if_pos hw,hl,ye]);clear hl;rw [hw] at HW;generalize prC s.data.toList=C at*;generalize prR s.data.toList=R at*;generalize prE s.data.toList=E at*;have d0:=qeY;have d4:=qie;clear h0 h4 hw;go_enter func176,ntmps176;go_wp2_with fail;refine .mono qrC ?_;rintro e w1 ⟨rfl,b1⟩;obtain ⟨k10,k11,k12,k13,k14,k15,f10,f11,f12,f13,f14,f15,h1,z1⟩:=qk;clear b1;go_wp2_with fail;refine (HW.out _).mono ?_;rintro e v1 ⟨rfl,rfl⟩;go_wp2_with fail
    exact bodyPost_ret (v:=.tuple #[Zu #[ZZ ZY 4,ZZ ZY 0,ZZ ZY 0,ZZ ZY 0,.string s,ZZ ZY 0],ZZ ZY (s.size:Int)]) qol rfl ⟨qpY,by
     repeat' (first|(with_reducible exact h1)|(with_reducible refine Below.alloc ?_ ?_ _)|(with_reducible refine Below.setCell ?_ ?_ _))
     all_goals (first|(simp;done)|(simpa using h1.size))⟩
   |false=>
    have HV:=qf (show fj s.data.toList=.tuple #[Zu #[ZZ ZY 0,ZZ ZY 0,ZZ ZY 0,ZZ ZY 0,Zx ⟨#[]⟩,ZZ ZY 0],ZZ ZY 0] from by unfold fj;rw [if_neg h0,if_neg h4,if_neg qqt]);clear hl;rw [hw] at HW;generalize prC s.data.toList=C at*;generalize prR s.data.toList=R at*;generalize prE s.data.toList=E at*;have d0:=qeY;have d4:=qie;clear h0 h4 hw;go_enter func176,ntmps176;go_wp2_with fail;refine .mono qrC ?_;rintro e w1 ⟨rfl,b1⟩;obtain ⟨k10,k11,k12,k13,k14,k15,f10,f11,f12,f13,f14,f15,h1,z1⟩:=qk;clear b1;go_wp2_with fail;refine (HW.out _).mono ?_;rintro e v1 ⟨rfl,rfl⟩;go_wp2_with fail
    exact bodyPost_ret (v:=.tuple #[Zu #[ZZ ZY 0,ZZ ZY 0,ZZ ZY 0,ZZ ZY 0,Zx ⟨#[]⟩,ZZ ZY 0],ZZ ZY 0]) qol rfl ⟨qpY,by
     repeat' (first|(with_reducible exact h1)|(with_reducible refine Below.alloc ?_ ?_ _)|(with_reducible refine Below.setCell ?_ ?_ _))
     all_goals (first|(simp;done)|(simpa using h1.size))⟩
def uJ:ByteArray:=⟨#[43,45,42,47,40,41,44,58,61]⟩
theorem DG:∀b∈uJ.data.toList,b.toNat<128:=by decide
theorem xI (r:Int) (hv:Utf8.valid r=Zy) (h1:128<=r) (h2:r<2048):(Utf8.encode r).size=2:=by
 have a1:¬r.toNat<128:=qoq;have a2:r.toNat<2048:=qoq;unfold Utf8.encode;simp only [hv,if_true,a1,a2,if_false];rfl
theorem Aw (r:Int) (h1:128<=r) (h2:r<256):(Utf8.encode r).size=2/\∀h:1<(Utf8.encode r).size,128<=((Utf8.encode r)[1]'h).toNat:=by
 have hv:Utf8.valid r=Zy:=(by rw [validRune_eq];exact decide_eq_true (.inl ⟨qoq,qoq⟩));have hs:=xI r hv h1 qoq;refine ⟨hs,fun h=>?_⟩;have E3:=(encode_facts r hv h1).2.2 qoq;have e:(Utf8.encode r).size - 1=1:=qoq;simpa only [e] using E3
theorem rh (c:UInt8) (h:128<=c.toNat) (a e:Nat):Lib.indexByte (uJ.extract a e).data.toList c= -1:=by
 rw [<-Lib.firstIdx_eq];exact firstIdx_ascii uJ a e c DG h
theorem BD (c:Nat) (h2:c<55296) (w:Z3):
 Calls ZW 274 #[.int .i32 (c:Int)] w fun e w'=>e=ZX (.bool Zy)/\w=w':=by
 have d0:=qhi;have d1:decide ((c:Int)<55296)=Zy:=decide_eq_true qoq;clear h2;go_enter func274,ntmps274;go_wp2_with fail;go_ret;exact ⟨rfl,rfl⟩
theorem Cc (s:ByteArray) (c:Int) (w:Z3):
 Calls ZW 273 #[.string s,.int .u8 c] w fun e w'=>e=ZX (ZZ ZY (Lib.indexByte s.data.toList c.toNat.toUInt8))/\w'=w:=
 Any.strings_IndexByte { lays151 with } s c w
theorem rY (b:UInt8) (h:128<=b.toNat) (a e:Nat) (w:Z3):
 Calls ZW 273 #[.string (ByteArray.extract ⟨#[43,45,42,47,40,41,44,58,61]⟩ a e),.int .u8 (b.toNat:Int)] w fun en w'=>en=ZX (ZZ ZY (-1))/\w=w':=
 (Cc _ _ w).mono fun _ _ ⟨he,hw⟩=>⟨he.trans (fp (by
   have e1:((b.toNat:Int)).toNat.toUInt8=b:=qns;rw [e1];exact rh b h a e)),hw.symm⟩
theorem xV (c:Nat) (h1:128<=c) (h2:c<256) (w:Z3):
 Calls ZW 230 #[Zx ⟨#[43,45,42,47,40,41,44,58,61]⟩,.int .i32 (c:Int)] w fun e w'=>e=ZX (ZZ ZY (-1))/\Z2 w.heap.size w w':=by
 obtain ⟨E1,E2⟩:=Aw c qoq qoq;have HV:=qf (BD c qoq);have d0:=qhi;have d1:decide ((c:Int)<128)=Zz:=decide_eq_false qoq;have d2:((c:Int)==65533)=Zz:=qoy;have hcv:∀w,(convert 21 9 (.int .i32 (c:Int))).run ZW w=.ok (.string (Utf8.encode (c:Int))) w:=fun w=>run_convert_int_string w _ _ _ _ qnx qnx
 clear h1 h2;generalize Utf8.encode (c:Int)=RS at*;have g1:1<RS.size:=qoq
 have n1:(((((⟨#[43,45,42,47,40,41,44,58,61]⟩:ByteArray)[1]'qnv).toNat:Int)) !=((RS[1]'g1).toNat:Int))=Zy:=by
  have:=E2 g1;rw [bne_iff_ne];show (45:Int)≠_
  omega
 have HN:=qf (rY (RS[1]'g1) (E2 g1));clear E2;go_enter func230,ntmps230;go_wp2_with fail;refine (HV.out _).mono ?_;rintro e w1 ⟨rfl,rfl⟩;go_wp2_with fail;go_step3;go_wp2_with fail;go_loopw [9,10] (fun vi vf wr=>vi=ZZ ZY 1/\vf=ZZ ZY 0/\wr=w) (fun _ _ _=>0)
 case atStart=>exact ⟨rfl,rfl,rfl⟩
 case round=>
  obtain ⟨rfl,rfl,rfl⟩:=hrel;go_wp2_with fail;go_step3;go_wp2_with fail;go_quiet (fail)
  go_wp2_with fail;go_region_with ((go_at_call 273;refine (HN.out _ _ _).mono ?_;rintro e w1 ⟨rfl,rfl⟩))
  all_goals
   go_wp2_with fail;simp (zetaDelta:=Zy) only [Exit.inBlock,Exit.noGoto_ret,Exit.then]
   go_ret;exact ⟨rfl,below_drewN qb _⟩

def mf (c:UInt8):Bool:=decide (0<=Lib.indexByte [43,45,42,47,40,41,44,58,61] c)
theorem sE (c:Nat) (h1:128<=c) (h2:c<256) (w:Z3):
 Calls ZW 179 #[Zx ⟨#[43,45,42,47,40,41,44,58,61]⟩,.int .i32 (c:Int)] w fun e w'=>e=ZX (.bool Zz)/\Z2 w.heap.size w w':=by
 have H:=qf (xV c h1 h2);clear h1 h2;go_enter func179,ntmps179;go_wp2_with fail;refine .mono qrz ?_;rintro e w1 ⟨rfl,b1⟩;go_wp2_with fail;go_ret;exact ⟨rfl,b1⟩
theorem uc (c:UInt8) (w:Z3):
 Calls ZW 179 #[Zx ⟨#[43,45,42,47,40,41,44,58,61]⟩,.int .i32 (c.toNat:Int)] w fun e w'=>e=ZX (.bool (mf c))/\Z2 w.heap.size w w':=by
 by_cases h:c.toNat<128
 ·refine (Any.strings_ContainsRune_ascii lays151 _ (c.toNat:Int) w qoq qoq).mono fun e w' ⟨he,hw⟩=>⟨he.trans (aK ?_),hw▸qb⟩
  have e1:((c.toNat:Int)).toNat.toUInt8=c:=qns;rw [e1];rfl
 ·refine (sE c.toNat qoq c.toNat_lt w).mono fun e w' ⟨he,hw⟩=>⟨he.trans (aK ?_),hw⟩
  have h9:=rh c qoq 0 9;have e0:(uJ.extract 0 9).data.toList=[43,45,42,47,40,41,44,58,61]:=qnv;rw [e0] at h9;unfold mf;rw [h9];rfl
theorem Mf (c:UInt8):mf c=Zy↔c=43\/c=45\/c=42\/c=47\/c=40\/c=41\/c=44\/c=58\/c=61:=by
 unfold mf;rw [<-Lib.contains_iff_indexByte];simp
theorem dy (s p:ByteArray) (w:Z3):
 Calls ZW 178 #[.string s,.string p] w fun e w'=>e=ZX (.bool (p.data.toList.isPrefixOf s.data.toList))/\w=w':=
 (Any.strings_HasPrefix lays99 s p w).mono fun _ _ ⟨he,hw⟩=>⟨he,hw.symm⟩
theorem mO (l:List UInt8) (f:UInt8->Bool):(ar l 0 (aH f l 0)).length=aH f l 0:=by
 have h:=(List.takeWhile_prefix f (l:=l.drop 0)).length_le;unfold ar aH;rw [List.length_take];omega
theorem JQ {l:List UInt8} (h:isFig (l.getD 0 0)=Zy):cC (aD l 0)=jJ (ar l 0 (aH isFig l 0)):=by
 unfold aD jJ;rw [if_pos h,mO];cases dX (ar l 0 (aH isFig l 0))<;>rfl
theorem sC (c:UInt8):dN c=Zy↔65<=c.toNat/\c.toNat<=90:=by unfold dN;simp
theorem Ef {l:List UInt8} (h:bP l=Zy):prE l=2:=by
 unfold bP at h;simp only [Bool.or_eq_true,beq_iff_eq] at h;rcases h with (((h|h)|h)|h)|h<;>(subst h;decide)
theorem IM {l:List UInt8} (hf:isFig (l.getD 0 0)=Zz) (h:dN (l.getD 0 0)=Zy):cC (aD l 0)=fj (ar l 0 (aH bB l 0)):=by
 unfold aD fj;rw [if_neg qoS,if_pos ((sC _).1 h),mO];generalize ar l 0 (aH bB l 0)=X;by_cases hw:bP X=Zy
 ·have:=Ef hw
  rw [if_pos hw,if_neg qoq,if_neg qoq,if_pos hw];rfl
 ·rw [if_neg hw,if_neg hw]
  by_cases h0:prE X=0
  ·rw [if_pos h0,if_pos h0];rfl
  ·rw [if_neg h0,if_neg h0]
   by_cases h4:prE X=4
   ·rw [if_pos h4,if_pos h4];rfl
   ·rw [if_neg h4,if_neg h4];rfl
theorem I9 {l:List UInt8} (hf:isFig (l.getD 0 0)=Zz) (hl:dN (l.getD 0 0)=Zz) (hr:ar l 0 4=[35,82,69,70]):aD l 0=ZV (⟨3,0,0,0,[],0⟩,4):=by
 unfold aD;rw [if_neg qoS,if_neg (fun h=>by rw [(sC _).2 h] at hl;cases hl),if_pos hr]
theorem mW {l:List UInt8} (hf:isFig (l.getD 0 0)=Zz) (hl:dN (l.getD 0 0)=Zz) (hr:¬ar l 0 4=[35,82,69,70]):
 aD l 0=if au l 0=0 then ZU else ZV (⟨5,0,0,0,ar l 0 (au l 0).toNat,0⟩,(au l 0).toNat):=by
 unfold aD;rw [if_neg qoS,if_neg (fun h=>by rw [(sC _).2 h] at hl;cases hl),if_neg hr]
theorem KD (l:List UInt8):List.isPrefixOf [35,82,69,70] l=decide (ar l 0 4=[35,82,69,70]):=by
 rw [Bool.eq_iff_iff,List.isPrefixOf_iff_prefix,decide_eq_true_iff,List.prefix_iff_eq_take];exact ⟨fun h=>h.symm,fun h=>h.symm⟩
theorem vy (l:List UInt8) (h:l.getD 0 0=60) (hl:0<l.length):List.isPrefixOf [60,62] l=decide (l.getD 1 0=62):=by
 match l,hl with
 |[a],_=>simp [List.isPrefixOf]
 |a::b::r,_=>
  have ha:a=60:=h;subst ha;rw [Bool.eq_iff_iff];simp [List.isPrefixOf]
  exact eq_comm
theorem nt (s:ByteArray) (h:0<s.size):List.isPrefixOf [61] (s.extract 1 s.size).data.toList=decide (s.data.toList.getD 1 0=61):=by
 have e:(s.extract 1 s.size).data.toList=s.data.toList.drop 1:=by
  have h2:s.size=1+(s.size - 1):=qoq;have h3:(s.extract 1 (1+(s.size - 1))).data.toList=ar s.data.toList 1 (s.size - 1):=bQ s 1 (s.size - 1);exact qlo
 rw [e];have hl:0<s.data.toList.length:=(by rw [aq];exact h);generalize s.data.toList=l at hl;match l,hl with
 |[a],_=>simp
 |a::b::r,_=>
  rw [Bool.eq_iff_iff];simp [List.isPrefixOf]
  exact eq_comm
theorem oX (s:ByteArray) {k:UInt8} (hk:k≠0) (h:s.data.toList.getD 1 0=k):2<=s.size:=by
 by_cases h2:1<s.size
 ·omega
 ·rw [ni s 1 h2] at h
  exact absurd h.symm hk
theorem G8 (l:List UInt8) (h60:l.getD 0 0≠60) (h62:l.getD 0 0≠62):au l 0=if mf (l.getD 0 0)=Zy then 1 else 0:=by
 unfold au bw;rw [if_neg (by rintro (⟨h,_⟩|⟨h,_⟩);exact h60 h;exact h62 h)];have hm:=Mf (l.getD 0 0);generalize l.getD 0 0=c at*;by_cases hq:mf c=Zy
 ·rw [if_pos hq,if_pos]
  rcases hm.1 hq with h|h|h|h|h|h|h|h|h<;>(subst h;decide)
 ·rw [if_neg hq,if_neg]
  intro h;refine hq (hm.2 ?_);rcases h with h|h|h|h|h|h|h|h|h|h|h;all_goals first|exact absurd h h60|exact absurd h h62|(subst h;decide)

theorem uv (f:UInt8->Bool) (l:List UInt8):∀c∈ar l 0 (aH f l 0),f c=Zy:=by
 intro c hc;unfold ar aH at hc;rw [List.drop_zero] at hc;have e:l.take (l.takeWhile f).length=l.takeWhile f:=(List.prefix_iff_eq_take.1 (List.takeWhile_prefix f)).symm;rw [e] at hc;exact List.all_eq_true.1 List.all_takeWhile c hc
theorem J3 (s:ByteArray) (hs:s.size<=281474976710656) (h0:0<s.size) (hf:isFig (s[0]'h0)=Zy) (w:Z3) (hE:jc w):
 Calls ZW 128 #[.string s] w fun e w'=>e=ZX (cC (aD s.data.toList 0))/\Z2 w.heap.size w w':=by
 have hw:IntKind.i32.wrap ((s[0]'h0).toNat:Int)=((s[0]'h0).toNat:Int):=(by have:=(s[0]'h0).toNat_lt;simp only [IntKind.wrap_i32];omega);have g0:=bV s 0 h0;have F1:=iK (s[0]'h0);rw [hf] at F1;have H1:=qf F1;have hfl:isFig (s.data.toList.getD 0 0)=Zy:=(by rw [g0];exact hf);have e1:=JQ hfl;have hle:=rE isFig s.data.toList 0 qe;have hrp:=sD (f:=isFig) (l:=s.data.toList) (p:=0) qpU hfl;have HR:=qf (uQ xy s qoq);have hall:=uv isFig s.data.toList;rw [Nat.zero_add,aq] at hle;generalize hn:aH isFig s.data.toList 0=n at*;have hex:=qeZ;have hsz:=qhs;have H2:=qf (xB (s.extract 0 n) qoq qoq (by rw [hex];exact hall));have HE:=qf hE;rw [hex] at H2;clear hE hf hfl g0 F1 hall hrp hn hex hsz;cases hv:dX (ar s.data.toList 0 n) with
 |some u=>
  have e2:jJ (ar s.data.toList 0 n)=.tuple #[Zu #[ZZ ZY 1,ZZ ZY (u:Int),ZZ ZY 0,ZZ ZY 0,Zx ⟨#[]⟩,ZZ ZY 0],ZZ ZY (n:Int)]:=(by unfold jJ;rw [hv];rw [show (ar s.data.toList 0 n).length=n from sF qnX]);have HO:=qgC;rw [e2] at H2;clear e1 e2 hv;go_enter func128,ntmps128;go_wp2_with fail;refine .mono qrC ?_;rintro e v1 ⟨rfl,rfl⟩;go_wp2_with fail;refine .mono qrA ?_;rintro e w1 ⟨rfl,b1⟩;obtain ⟨k10,k11,k12,k13,k14,k15,f10,f11,f12,f13,f14,f15,h1,z1⟩:=qk;clear b1;go_wp2_with fail;refine (H2.out _ (HE.out.below h1)).mono ?_;rintro e w2 ⟨rfl,b2⟩;obtain ⟨k20,k21,k22,k23,k24,k25,f20,f21,f22,f23,f24,f25,h2,z2⟩:=qag;clear b2 k10 f10 k11 f11 k12 f12 k13 f13 k14 f14 k15 f15 h1 z1;go_wp2_with fail
  exact bodyPost_ret (v:=.tuple #[Zu #[ZZ ZY 1,ZZ ZY (u:Int),ZZ ZY 0,ZZ ZY 0,Zx ⟨#[]⟩,ZZ ZY 0],ZZ ZY (n:Int)]) qnZ rfl ⟨qnS,by
   repeat' (first|(with_reducible exact h2)|(with_reducible refine Below.alloc ?_ ?_ _)|(with_reducible refine Below.setCell ?_ ?_ _))
   all_goals (first|(simp;done)|(simpa using h2.size))⟩
 |none=>
  have e2:jJ (ar s.data.toList 0 n)=.tuple #[Zu #[ZZ ZY 0,ZZ ZY 0,ZZ ZY 0,ZZ ZY 0,Zx ⟨#[]⟩,ZZ ZY 0],ZZ ZY 0]:=(by unfold jJ;rw [hv]);have HO:=qgC;rw [e2] at H2;clear e1 e2 hv;go_enter func128,ntmps128;go_wp2_with fail;refine .mono qrC ?_;rintro e v1 ⟨rfl,rfl⟩;go_wp2_with fail;refine .mono qrA ?_;rintro e w1 ⟨rfl,b1⟩;obtain ⟨k10,k11,k12,k13,k14,k15,f10,f11,f12,f13,f14,f15,h1,z1⟩:=qk;clear b1;go_wp2_with fail;refine (H2.out _ (HE.out.below h1)).mono ?_;rintro e w2 ⟨rfl,b2⟩;exact qiQ
theorem GK (s:ByteArray) (hs:s.size<=281474976710656) (h0:0<s.size) (hf:isFig (s[0]'h0)=Zz) (hl:dN (s[0]'h0)=Zy) (w:Z3):
 Calls ZW 128 #[.string s] w fun e w'=>e=ZX (cC (aD s.data.toList 0))/\Z2 w.heap.size w w':=by
 obtain ⟨hw,g0,F1,F2⟩:=qal;rw [hf] at F1;rw [hl] at F2;have H1:=qf F1;have H3:=qf F2;have e1:=IM (l:=s.data.toList) (by rw [g0];exact hf) (by rw [g0];exact hl);have hle:=rE bB s.data.toList 0 qe;have HR:=qf (uQ Ah s qoq);rw [Nat.zero_add,aq] at hle;generalize hn:aH bB s.data.toList 0=n at*;have hex:=qeZ;have hxs:s.extract 0 n=⟨(ar s.data.toList 0 n).toArray⟩:=(by have:=dv s 0 n;rwa [Nat.zero_add] at this);have hsz:=qhs;have hsl:(ar s.data.toList 0 n).length=n:=sF qnX;have H2:=qf (FF (s.extract 0 n) qoq);rw [hex] at H2;clear hf hl g0 F1 F2 hn hex hsz;generalize hX:ar s.data.toList 0 n=X at*;clear hX;by_cases h0:prE X=0
 ·skip
  have e2:fj X=.tuple #[Zu #[ZZ ZY 2,ZZ ZY 0,ZZ ZY (prC X),ZZ ZY (prR X),Zx ⟨#[]⟩,ZZ ZY 0],ZZ ZY (n:Int)]:=(by unfold fj;rw [if_pos h0,hsl]);have HO:=qgC;rw [e2] at H2;clear e1 e2 hxs hsl;go_enter func128,ntmps128;go_wp2_with fail;refine .mono qrC ?_;rintro e v1 ⟨rfl,rfl⟩;go_wp2_with fail;refine .mono qrX ?_;rintro e v2 ⟨rfl,rfl⟩;go_wp2_with fail;refine .mono qrA ?_;rintro e w1 ⟨rfl,b1⟩;obtain ⟨k10,k11,k12,k13,k14,k15,f10,f11,f12,f13,f14,f15,h1,z1⟩:=qk;clear b1;go_wp2_with fail;refine .mono qrR ?_;rintro e w2 ⟨rfl,b2⟩;obtain ⟨k20,k21,k22,k23,k24,k25,f20,f21,f22,f23,f24,f25,h2,z2⟩:=qag;clear b2 k10 f10 k11 f11 k12 f12 k13 f13 k14 f14 k15 f15 h1 z1;go_wp2_with fail
  exact bodyPost_ret (v:=.tuple #[Zu #[ZZ ZY 2,ZZ ZY 0,ZZ ZY (prC X),ZZ ZY (prR X),Zx ⟨#[]⟩,ZZ ZY 0],ZZ ZY (n:Int)]) qnZ rfl ⟨qnS,by
   repeat' (first|(with_reducible exact h2)|(with_reducible refine Below.alloc ?_ ?_ _)|(with_reducible refine Below.setCell ?_ ?_ _))
   all_goals (first|(simp;done)|(simpa using h2.size))⟩
 ·by_cases h4:prE X=4
  ·skip
   have e2:fj X=.tuple #[Zu #[ZZ ZY 3,ZZ ZY 0,ZZ ZY 0,ZZ ZY 0,Zx ⟨#[]⟩,ZZ ZY 0],ZZ ZY (n:Int)]:=(by unfold fj;rw [if_neg h0,if_pos h4,hsl]);have HO:=qgC;rw [e2] at H2;clear e1 e2 hxs hsl;go_enter func128,ntmps128;go_wp2_with fail;refine .mono qrC ?_;rintro e v1 ⟨rfl,rfl⟩;go_wp2_with fail;refine .mono qrX ?_;rintro e v2 ⟨rfl,rfl⟩;go_wp2_with fail;refine .mono qrA ?_;rintro e w1 ⟨rfl,b1⟩;obtain ⟨k10,k11,k12,k13,k14,k15,f10,f11,f12,f13,f14,f15,h1,z1⟩:=qk;clear b1;go_wp2_with fail;refine .mono qrR ?_;rintro e w2 ⟨rfl,b2⟩;obtain ⟨k20,k21,k22,k23,k24,k25,f20,f21,f22,f23,f24,f25,h2,z2⟩:=qag;clear b2 k10 f10 k11 f11 k12 f12 k13 f13 k14 f14 k15 f15 h1 z1;go_wp2_with fail
   exact bodyPost_ret (v:=.tuple #[Zu #[ZZ ZY 3,ZZ ZY 0,ZZ ZY 0,ZZ ZY 0,Zx ⟨#[]⟩,ZZ ZY 0],ZZ ZY (n:Int)]) qnZ rfl ⟨qnS,by
    repeat' (first|(with_reducible exact h2)|(with_reducible refine Below.alloc ?_ ?_ _)|(with_reducible refine Below.setCell ?_ ?_ _))
    all_goals (first|(simp;done)|(simpa using h2.size))⟩
  ·cases hw:bP X with
   |true=>
    have e2:fj X=.tuple #[Zu #[ZZ ZY 4,ZZ ZY 0,ZZ ZY 0,ZZ ZY 0,.string (s.extract 0 n),ZZ ZY 0],ZZ ZY (n:Int)]:=(by unfold fj;rw [if_neg h0,if_neg h4,if_pos hw,hsl,hxs]);have HO:=qgC;rw [e2] at H2;clear e1 e2 hxs hsl;go_enter func128,ntmps128;go_wp2_with fail;refine .mono qrC ?_;rintro e v1 ⟨rfl,rfl⟩;go_wp2_with fail;refine .mono qrX ?_;rintro e v2 ⟨rfl,rfl⟩;go_wp2_with fail;refine .mono qrA ?_;rintro e w1 ⟨rfl,b1⟩;obtain ⟨k10,k11,k12,k13,k14,k15,f10,f11,f12,f13,f14,f15,h1,z1⟩:=qk;clear b1;go_wp2_with fail;refine .mono qrR ?_;rintro e w2 ⟨rfl,b2⟩;obtain ⟨k20,k21,k22,k23,k24,k25,f20,f21,f22,f23,f24,f25,h2,z2⟩:=qag;clear b2 k10 f10 k11 f11 k12 f12 k13 f13 k14 f14 k15 f15 h1 z1;go_wp2_with fail
    exact bodyPost_ret (v:=.tuple #[Zu #[ZZ ZY 4,ZZ ZY 0,ZZ ZY 0,ZZ ZY 0,.string (s.extract 0 n),ZZ ZY 0],ZZ ZY (n:Int)]) qnZ rfl ⟨qnS,by
     repeat' (first|(with_reducible exact h2)|(with_reducible refine Below.alloc ?_ ?_ _)|(with_reducible refine Below.setCell ?_ ?_ _))
     all_goals (first|(simp;done)|(simpa using h2.size))⟩
   |false=>
    have e2:fj X=.tuple #[Zu #[ZZ ZY 0,ZZ ZY 0,ZZ ZY 0,ZZ ZY 0,Zx ⟨#[]⟩,ZZ ZY 0],ZZ ZY 0]:=(by unfold fj;rw [if_neg h0,if_neg h4,if_neg qqt]);have HO:=qgC;rw [e2] at H2;clear e1 e2 hxs hsl;go_enter func128,ntmps128;go_wp2_with fail;refine .mono qrC ?_;rintro e v1 ⟨rfl,rfl⟩;go_wp2_with fail;refine .mono qrX ?_;rintro e v2 ⟨rfl,rfl⟩;go_wp2_with fail;refine .mono qrA ?_;rintro e w1 ⟨rfl,b1⟩;obtain ⟨k10,k11,k12,k13,k14,k15,f10,f11,f12,f13,f14,f15,h1,z1⟩:=qk;clear b1;go_wp2_with fail;refine .mono qrR ?_;rintro e w2 ⟨rfl,b2⟩;exact qiQ
theorem Jc (s:ByteArray) (_hs:s.size<=281474976710656) (h0:0<s.size) (hf:isFig (s[0]'h0)=Zz) (hl:dN (s[0]'h0)=Zz) (hr:ar s.data.toList 0 4=[35,82,69,70]) (w:Z3):
 Calls ZW 128 #[.string s] w fun e w'=>e=ZX (cC (aD s.data.toList 0))/\Z2 w.heap.size w w':=by
 obtain ⟨hw,g0,F1,F2⟩:=qal;rw [hf] at F1;rw [hl] at F2;obtain ⟨H1,H3,P,pr,hf2,hl2⟩:=qan;rw [decide_eq_true hr] at pr;have P1:∀w,Calls ZW 178 #[.string s,Zx ⟨#[35,82,69,70]⟩] w fun e w'=>e=ZX (.bool Zy)/\w=w':=fun w=>by have:=P w;rwa [show List.isPrefixOf (⟨#[35,82,69,70]⟩:ByteArray).data.toList s.data.toList=Zy from pr] at this
 have HP:=qf P1;have HO:=qf (show cC (aD s.data.toList 0)=.tuple #[Zu #[ZZ ZY 3,ZZ ZY 0,ZZ ZY 0,ZZ ZY 0,Zx ⟨#[]⟩,ZZ ZY 0],ZZ ZY 4] from by rw [I9 hf2 hl2 hr];rfl);clear P P1 pr F1 F2 hf hl hf2 hl2 hr g0;go_enter func128,ntmps128;go_wp2_with fail;refine .mono qrC ?_;rintro e v1 ⟨rfl,rfl⟩;go_wp2_with fail;refine .mono qrX ?_;rintro e v2 ⟨rfl,rfl⟩;go_wp2_with fail;refine .mono qrB ?_;rintro e v3 ⟨rfl,rfl⟩;go_wp2_with fail
 exact bodyPost_ret (v:=.tuple #[Zu #[ZZ ZY 3,ZZ ZY 0,ZZ ZY 0,ZZ ZY 0,Zx ⟨#[]⟩,ZZ ZY 0],ZZ ZY 4]) qov rfl ⟨qnS,by
  repeat' (first|(with_reducible exact qb)|(with_reducible refine Below.alloc ?_ ?_ _)|(with_reducible refine Below.setCell ?_ ?_ _))
  all_goals (simp;done)⟩
theorem Mk (s:ByteArray) (_hs:s.size<=281474976710656) (h0:0<s.size) (hf:isFig (s[0]'h0)=Zz) (hl:dN (s[0]'h0)=Zz) (hr:¬ar s.data.toList 0 4=[35,82,69,70]) (hc:s[0]'h0=60) (hd:s.data.toList.getD 1 0=62) (w:Z3):
 Calls ZW 128 #[.string s] w fun e w'=>e=ZX (cC (aD s.data.toList 0))/\Z2 w.heap.size w w':=by
 obtain ⟨hw,g0,F1,F2⟩:=qal;rw [hf] at F1;rw [hl] at F2;obtain ⟨H1,H3,P,pr,hf2,hl2⟩:=qan;rw [decide_eq_false hr] at pr;have P1:∀w,Calls ZW 178 #[.string s,Zx ⟨#[35,82,69,70]⟩] w fun e w'=>e=ZX (.bool Zz)/\w=w':=fun w=>by have:=P w;rwa [show List.isPrefixOf (⟨#[35,82,69,70]⟩:ByteArray).data.toList s.data.toList=Zz from pr] at this
 obtain ⟨HP,eM,c0⟩:=qdN;have h2:=oX s (k:=62) qnv hd;have t60:=qfa;clear P P1 pr F1 F2 hf hl hf2 hl2 hr;have Q1:∀w,Calls ZW 178 #[.string s,Zx ⟨#[60,62]⟩] w fun e w'=>e=ZX (.bool Zy)/\w=w':=fun w=>by have:=dy s ⟨#[60,62]⟩ w;rwa [show List.isPrefixOf (⟨#[60,62]⟩:ByteArray).data.toList s.data.toList=Zy from (vy s.data.toList c0 qpU).trans (decide_eq_true hd)] at this
 have Q2:∀w,Calls ZW 178 #[.string (s.extract 1 s.size),Zx ⟨#[61]⟩] w fun e w'=>e=ZX (.bool Zz)/\w=w':=fun w=>by have:=dy (s.extract 1 s.size) ⟨#[61]⟩ w;rwa [show List.isPrefixOf (⟨#[61]⟩:ByteArray).data.toList (s.extract 1 s.size).data.toList=Zz from (nt s h0).trans (decide_eq_false (by rw [hd];decide))] at this
 have HL:=qf Q1;obtain ⟨HQ,hm,HO⟩:=qbl;clear eM hm c0 g0 Q1 Q2 hc hd;go_enter func128,ntmps128;go_wp2_with fail;refine .mono qrC ?_;rintro e v1 ⟨rfl,rfl⟩;go_wp2_with fail;refine .mono qrX ?_;rintro e v2 ⟨rfl,rfl⟩;go_wp2_with fail;refine .mono qrB ?_;rintro e v3 ⟨rfl,rfl⟩;go_wp2_with fail;refine (HL.out _).mono ?_;rintro e v4 ⟨rfl,rfl⟩;go_wp2_with fail;refine (HQ.out _).mono ?_;rintro e v5 ⟨rfl,rfl⟩;go_wp2_with fail
 exact bodyPost_ret (v:=.tuple #[Zu #[ZZ ZY 5,ZZ ZY 0,ZZ ZY 0,ZZ ZY 0,.string (s.extract 0 2),ZZ ZY 0],ZZ ZY 2]) qov rfl ⟨qnS,by
  repeat' (first|(with_reducible exact qb)|(with_reducible refine Below.alloc ?_ ?_ _)|(with_reducible refine Below.setCell ?_ ?_ _))
  all_goals (simp;done)⟩
theorem Lq (s:ByteArray) (_hs:s.size<=281474976710656) (h0:0<s.size) (hf:isFig (s[0]'h0)=Zz) (hl:dN (s[0]'h0)=Zz) (hr:¬ar s.data.toList 0 4=[35,82,69,70]) (hc:s[0]'h0=60) (hd:s.data.toList.getD 1 0=61) (w:Z3):
 Calls ZW 128 #[.string s] w fun e w'=>e=ZX (cC (aD s.data.toList 0))/\Z2 w.heap.size w w':=by
 obtain ⟨hw,g0,F1,F2⟩:=qal;rw [hf] at F1;rw [hl] at F2;obtain ⟨H1,H3,P,pr,hf2,hl2⟩:=qan;rw [decide_eq_false hr] at pr;have P1:∀w,Calls ZW 178 #[.string s,Zx ⟨#[35,82,69,70]⟩] w fun e w'=>e=ZX (.bool Zz)/\w=w':=fun w=>by have:=P w;rwa [show List.isPrefixOf (⟨#[35,82,69,70]⟩:ByteArray).data.toList s.data.toList=Zz from pr] at this
 obtain ⟨HP,eM,c0⟩:=qdN;have h2:=oX s (k:=61) qnv hd;have t60:=qfa;clear P P1 pr F1 F2 hf hl hf2 hl2 hr;have Q1:∀w,Calls ZW 178 #[.string s,Zx ⟨#[60,62]⟩] w fun e w'=>e=ZX (.bool Zz)/\w=w':=fun w=>by have:=dy s ⟨#[60,62]⟩ w;rwa [show List.isPrefixOf (⟨#[60,62]⟩:ByteArray).data.toList s.data.toList=Zz from (vy s.data.toList c0 qpU).trans (decide_eq_false (by rw [hd];decide))] at this
 have Q2:∀w,Calls ZW 178 #[.string (s.extract 1 s.size),Zx ⟨#[61]⟩] w fun e w'=>e=ZX (.bool Zy)/\w=w':=fun w=>by have:=dy (s.extract 1 s.size) ⟨#[61]⟩ w;rwa [show List.isPrefixOf (⟨#[61]⟩:ByteArray).data.toList (s.extract 1 s.size).data.toList=Zy from (nt s h0).trans (decide_eq_true hd)] at this
 have HL:=qf Q1;obtain ⟨HQ,hm,HO⟩:=qbl;clear eM hm c0 g0 Q1 Q2 hc hd;go_enter func128,ntmps128;go_wp2_with fail;refine .mono qrC ?_;rintro e v1 ⟨rfl,rfl⟩;go_wp2_with fail;refine .mono qrX ?_;rintro e v2 ⟨rfl,rfl⟩;go_wp2_with fail;refine .mono qrB ?_;rintro e v3 ⟨rfl,rfl⟩;go_wp2_with fail;refine (HL.out _).mono ?_;rintro e v4 ⟨rfl,rfl⟩;go_wp2_with fail;refine (HQ.out _).mono ?_;rintro e v5 ⟨rfl,rfl⟩;go_wp2_with fail
 exact bodyPost_ret (v:=.tuple #[Zu #[ZZ ZY 5,ZZ ZY 0,ZZ ZY 0,ZZ ZY 0,.string (s.extract 0 2),ZZ ZY 0],ZZ ZY 2]) qov rfl ⟨qnS,by
  repeat' (first|(with_reducible exact qb)|(with_reducible refine Below.alloc ?_ ?_ _)|(with_reducible refine Below.setCell ?_ ?_ _))
  all_goals (simp;done)⟩
theorem M5 (s:ByteArray) (_hs:s.size<=281474976710656) (h0:0<s.size) (hf:isFig (s[0]'h0)=Zz) (hl:dN (s[0]'h0)=Zz) (hr:¬ar s.data.toList 0 4=[35,82,69,70]) (hc:s[0]'h0=60) (hd:s.data.toList.getD 1 0≠61) (he:s.data.toList.getD 1 0≠62) (w:Z3):
 Calls ZW 128 #[.string s] w fun e w'=>e=ZX (cC (aD s.data.toList 0))/\Z2 w.heap.size w w':=by
 obtain ⟨hw,g0,F1,F2⟩:=qal;rw [hf] at F1;rw [hl] at F2;obtain ⟨H1,H3,P,pr,hf2,hl2⟩:=qan;rw [decide_eq_false hr] at pr;have P1:∀w,Calls ZW 178 #[.string s,Zx ⟨#[35,82,69,70]⟩] w fun e w'=>e=ZX (.bool Zz)/\w=w':=fun w=>by have:=P w;rwa [show List.isPrefixOf (⟨#[35,82,69,70]⟩:ByteArray).data.toList s.data.toList=Zz from pr] at this
 obtain ⟨HP,eM,c0⟩:=qdN;have t60:=qfa;clear P P1 pr F1 F2 hf hl hf2 hl2 hr;have Q1:∀w,Calls ZW 178 #[.string s,Zx ⟨#[60,62]⟩] w fun e w'=>e=ZX (.bool Zz)/\w=w':=fun w=>by have:=dy s ⟨#[60,62]⟩ w;rwa [show List.isPrefixOf (⟨#[60,62]⟩:ByteArray).data.toList s.data.toList=Zz from (vy s.data.toList c0 qpU).trans (decide_eq_false he)] at this
 have Q2:∀w,Calls ZW 178 #[.string (s.extract 1 s.size),Zx ⟨#[61]⟩] w fun e w'=>e=ZX (.bool Zz)/\w=w':=fun w=>by have:=dy (s.extract 1 s.size) ⟨#[61]⟩ w;rwa [show List.isPrefixOf (⟨#[61]⟩:ByteArray).data.toList (s.extract 1 s.size).data.toList=Zz from (nt s h0).trans (decide_eq_false hd)] at this
 have HL:=qf Q1;have HQ:=qf Q2;have hm:au s.data.toList 0=1:=(by unfold au bw;rw [c0];rw [if_neg (by rintro (⟨_,h|h⟩|⟨h,_⟩);exact hd h;exact he h;exact absurd h qnv),if_pos qnv]);have HO:=qbK;clear eM hm c0 g0 Q1 Q2 hc hd he;go_enter func128,ntmps128;go_wp2_with fail;refine .mono qrC ?_;rintro e v1 ⟨rfl,rfl⟩;go_wp2_with fail;refine .mono qrX ?_;rintro e v2 ⟨rfl,rfl⟩;go_wp2_with fail;refine .mono qrB ?_;rintro e v3 ⟨rfl,rfl⟩;go_wp2_with fail;refine (HL.out _).mono ?_;rintro e v4 ⟨rfl,rfl⟩;go_wp2_with fail;refine (HQ.out _).mono ?_;rintro e v5 ⟨rfl,rfl⟩;go_wp2_with fail
 exact bodyPost_ret (v:=.tuple #[Zu #[ZZ ZY 5,ZZ ZY 0,ZZ ZY 0,ZZ ZY 0,.string (s.extract 0 1),ZZ ZY 0],ZZ ZY 1]) qov rfl ⟨qnS,by
  repeat' (first|(with_reducible exact qb)|(with_reducible refine Below.alloc ?_ ?_ _)|(with_reducible refine Below.setCell ?_ ?_ _))
  all_goals (simp;done)⟩
theorem Mr (s:ByteArray) (_hs:s.size<=281474976710656) (h0:0<s.size) (hf:isFig (s[0]'h0)=Zz) (hl:dN (s[0]'h0)=Zz) (hr:¬ar s.data.toList 0 4=[35,82,69,70]) (hc:s[0]'h0=62) (hd:s.data.toList.getD 1 0=61) (w:Z3):
 Calls ZW 128 #[.string s] w fun e w'=>e=ZX (cC (aD s.data.toList 0))/\Z2 w.heap.size w w':=by
 obtain ⟨hw,g0,F1,F2⟩:=qal;rw [hf] at F1;rw [hl] at F2;obtain ⟨H1,H3,P,pr,hf2,hl2⟩:=qan;rw [decide_eq_false hr] at pr;have P1:∀w,Calls ZW 178 #[.string s,Zx ⟨#[35,82,69,70]⟩] w fun e w'=>e=ZX (.bool Zz)/\w=w':=fun w=>by have:=P w;rwa [show List.isPrefixOf (⟨#[35,82,69,70]⟩:ByteArray).data.toList s.data.toList=Zz from pr] at this
 obtain ⟨HP,eM,c0⟩:=qgL;have h2:=oX s (k:=61) qnv hd;obtain ⟨t60,t62⟩:=qfL;clear P P1 pr F1 F2 hf hl hf2 hl2 hr;have Q2:∀w,Calls ZW 178 #[.string (s.extract 1 s.size),Zx ⟨#[61]⟩] w fun e w'=>e=ZX (.bool Zy)/\w=w':=fun w=>by have:=dy (s.extract 1 s.size) ⟨#[61]⟩ w;rwa [show List.isPrefixOf (⟨#[61]⟩:ByteArray).data.toList (s.extract 1 s.size).data.toList=Zy from (nt s h0).trans (decide_eq_true hd)] at this
 obtain ⟨HQ,hm,HO⟩:=qbl;clear eM hm c0 g0 Q2 hc hd;go_enter func128,ntmps128;go_wp2_with fail;refine .mono qrC ?_;rintro e v1 ⟨rfl,rfl⟩;go_wp2_with fail;refine .mono qrX ?_;rintro e v2 ⟨rfl,rfl⟩;go_wp2_with fail;refine .mono qrB ?_;rintro e v3 ⟨rfl,rfl⟩;go_wp2_with fail;refine (HQ.out _).mono ?_;rintro e v4 ⟨rfl,rfl⟩;go_wp2_with fail
 exact bodyPost_ret (v:=.tuple #[Zu #[ZZ ZY 5,ZZ ZY 0,ZZ ZY 0,ZZ ZY 0,.string (s.extract 0 2),ZZ ZY 0],ZZ ZY 2]) qov rfl ⟨qnS,by
  repeat' (first|(with_reducible exact qb)|(with_reducible refine Below.alloc ?_ ?_ _)|(with_reducible refine Below.setCell ?_ ?_ _))
  all_goals (simp;done)⟩
theorem NL (s:ByteArray) (_hs:s.size<=281474976710656) (h0:0<s.size) (hf:isFig (s[0]'h0)=Zz) (hl:dN (s[0]'h0)=Zz) (hr:¬ar s.data.toList 0 4=[35,82,69,70]) (hc:s[0]'h0=62) (hd:s.data.toList.getD 1 0≠61) (w:Z3):
 Calls ZW 128 #[.string s] w fun e w'=>e=ZX (cC (aD s.data.toList 0))/\Z2 w.heap.size w w':=by
 obtain ⟨hw,g0,F1,F2⟩:=qal;rw [hf] at F1;rw [hl] at F2;obtain ⟨H1,H3,P,pr,hf2,hl2⟩:=qan;rw [decide_eq_false hr] at pr;have P1:∀w,Calls ZW 178 #[.string s,Zx ⟨#[35,82,69,70]⟩] w fun e w'=>e=ZX (.bool Zz)/\w=w':=fun w=>by have:=P w;rwa [show List.isPrefixOf (⟨#[35,82,69,70]⟩:ByteArray).data.toList s.data.toList=Zz from pr] at this
 obtain ⟨HP,eM,c0⟩:=qgL;obtain ⟨t60,t62⟩:=qfL;clear P P1 pr F1 F2 hf hl hf2 hl2 hr;have Q2:∀w,Calls ZW 178 #[.string (s.extract 1 s.size),Zx ⟨#[61]⟩] w fun e w'=>e=ZX (.bool Zz)/\w=w':=fun w=>by have:=dy (s.extract 1 s.size) ⟨#[61]⟩ w;rwa [show List.isPrefixOf (⟨#[61]⟩:ByteArray).data.toList (s.extract 1 s.size).data.toList=Zz from (nt s h0).trans (decide_eq_false hd)] at this
 have HQ:=qf Q2;have hm:au s.data.toList 0=1:=(by unfold au bw;rw [c0];rw [if_neg (by rintro (⟨h,_⟩|⟨_,h⟩);exact absurd h qnv;exact hd h),if_pos qnv]);have HO:=qbK;clear eM hm c0 g0 Q2 hc hd;go_enter func128,ntmps128;go_wp2_with fail;refine .mono qrC ?_;rintro e v1 ⟨rfl,rfl⟩;go_wp2_with fail;refine .mono qrX ?_;rintro e v2 ⟨rfl,rfl⟩;go_wp2_with fail;refine .mono qrB ?_;rintro e v3 ⟨rfl,rfl⟩;go_wp2_with fail;refine (HQ.out _).mono ?_;rintro e v4 ⟨rfl,rfl⟩;go_wp2_with fail
 exact bodyPost_ret (v:=.tuple #[Zu #[ZZ ZY 5,ZZ ZY 0,ZZ ZY 0,ZZ ZY 0,.string (s.extract 0 1),ZZ ZY 0],ZZ ZY 1]) qov rfl ⟨qnS,by
  repeat' (first|(with_reducible exact qb)|(with_reducible refine Below.alloc ?_ ?_ _)|(with_reducible refine Below.setCell ?_ ?_ _))
  all_goals (simp;done)⟩
theorem Ob (s:ByteArray) (_hs:s.size<=281474976710656) (h0:0<s.size) (hf:isFig (s[0]'h0)=Zz) (hl:dN (s[0]'h0)=Zz) (hr:¬ar s.data.toList 0 4=[35,82,69,70]) (h60:s[0]'h0≠60) (h62:s[0]'h0≠62) (w:Z3):
 Calls ZW 128 #[.string s] w fun e w'=>e=ZX (cC (aD s.data.toList 0))/\Z2 w.heap.size w w':=by
 obtain ⟨hw,g0,F1,F2⟩:=qal;rw [hf] at F1;rw [hl] at F2;obtain ⟨H1,H3,P,pr,hf2,hl2⟩:=qan;rw [decide_eq_false hr] at pr;have P1:∀w,Calls ZW 178 #[.string s,Zx ⟨#[35,82,69,70]⟩] w fun e w'=>e=ZX (.bool Zz)/\w=w':=fun w=>by have:=P w;rwa [show List.isPrefixOf (⟨#[35,82,69,70]⟩:ByteArray).data.toList s.data.toList=Zz from pr] at this
 have HP:=qf P1;have eM:=mW hf2 hl2 hr;have t60:(((s[0]'h0).toNat:Int)==60)=Zz:=aI (k:=60) h60;have t62:(((s[0]'h0).toNat:Int)==62)=Zz:=aI (k:=62) h62;have hm:=G8 s.data.toList (by rw [g0];exact h60) (by rw [g0];exact h62);clear P P1 pr F1 F2 hf hl hf2 hl2 hr;rw [g0] at hm;have C:=uc (s[0]'h0);clear h60 h62 g0;cases hk:mf (s[0]'h0) with
 |true=>
  rw [hk] at C;rw [if_pos hk] at hm;have HC:=qf C;have HO:=qbK;clear eM hm hk C;go_enter func128,ntmps128;go_wp2_with fail;refine .mono qrC ?_;rintro e v1 ⟨rfl,rfl⟩;go_wp2_with fail;refine .mono qrX ?_;rintro e v2 ⟨rfl,rfl⟩;go_wp2_with fail;refine .mono qrB ?_;rintro e v3 ⟨rfl,rfl⟩;go_wp2_with fail;refine .mono qrE ?_;rintro e w1 ⟨rfl,b1⟩;obtain ⟨k10,k11,k12,k13,k14,k15,f10,f11,f12,f13,f14,f15,h1,z1⟩:=qk;clear b1;go_wp2_with fail
  exact bodyPost_ret (v:=.tuple #[Zu #[ZZ ZY 5,ZZ ZY 0,ZZ ZY 0,ZZ ZY 0,.string (s.extract 0 1),ZZ ZY 0],ZZ ZY 1]) qpR rfl ⟨qnS,by
   repeat' (first|(with_reducible exact h1)|(with_reducible refine Below.alloc ?_ ?_ _)|(with_reducible refine Below.setCell ?_ ?_ _))
   all_goals (first|(simp;done)|(simpa using h1.size))⟩
 |false=>
  rw [hk] at C;rw [if_neg (by rw [hk];decide)] at hm;have HC:=qf C;have HO:=qf (show cC (aD s.data.toList 0)=.tuple #[Zu #[ZZ ZY 0,ZZ ZY 0,ZZ ZY 0,ZZ ZY 0,Zx ⟨#[]⟩,ZZ ZY 0],ZZ ZY 0] from by rw [eM,if_pos hm];rfl);clear eM hm hk C;go_enter func128,ntmps128;go_wp2_with fail;refine .mono qrC ?_;rintro e v1 ⟨rfl,rfl⟩;go_wp2_with fail;refine .mono qrX ?_;rintro e v2 ⟨rfl,rfl⟩;go_wp2_with fail;refine .mono qrB ?_;rintro e v3 ⟨rfl,rfl⟩;go_wp2_with fail;refine .mono qrE ?_;rintro e w1 ⟨rfl,b1⟩;obtain ⟨k10,k11,k12,k13,k14,k15,f10,f11,f12,f13,f14,f15,h1,z1⟩:=qk;clear b1;go_wp2_with fail
  exact bodyPost_ret (v:=.tuple #[Zu #[ZZ ZY 0,ZZ ZY 0,ZZ ZY 0,ZZ ZY 0,Zx ⟨#[]⟩,ZZ ZY 0],ZZ ZY 0]) qpR rfl ⟨qnS,by
   repeat' (first|(with_reducible exact h1)|(with_reducible refine Below.alloc ?_ ?_ _)|(with_reducible refine Below.setCell ?_ ?_ _))
   all_goals (first|(simp;done)|(simpa using h1.size))⟩
theorem GF (s:ByteArray) (hs:s.size<=281474976710656) (h0:0<s.size) (w:Z3) (hE:jc w):
 Calls ZW 128 #[.string s] w fun e w'=>e=ZX (cC (aD s.data.toList 0))/\Z2 w.heap.size w w':=by
 cases hf:isFig (s[0]'h0) with
 |true=>exact J3 s hs h0 hf w hE
 |false=>
  cases hl:dN (s[0]'h0) with
  |true=>exact GK s hs h0 hf hl w
  |false=>
   by_cases hr:ar s.data.toList 0 4=[35,82,69,70]
   ·exact Jc s hs h0 hf hl hr w
   ·by_cases h60:s[0]'h0=60
    ·by_cases hd:s.data.toList.getD 1 0=61
     ·exact Lq s hs h0 hf hl hr h60 hd w
     ·by_cases he:s.data.toList.getD 1 0=62
      ·exact Mk s hs h0 hf hl hr h60 he w
      ·exact M5 s hs h0 hf hl hr h60 hd he w
    ·by_cases h62:s[0]'h0=62
     ·by_cases hd:s.data.toList.getD 1 0=61
      ·exact Mr s hs h0 hf hl hr h62 hd w
      ·exact NL s hs h0 hf hl hr h62 hd w
     ·exact Ob s hs h0 hf hl hr h60 h62 w
theorem Fz (l:List UInt8) (p:Nat):aD l p=match aD (l.drop p) 0 with|some (t,n)=>ZV (⟨t.kY,t.num,t.col,t.row,t.text,p⟩,n)|none=>ZU:=by
 have e1:(l.drop p).getD 0 0=l.getD p 0:=(by simp [List.getD_eq_getElem?_getD]);have e2:∀f,aH f (l.drop p) 0=aH f l p:=fun f=>by unfold aH;simp
 have e3:∀n,ar (l.drop p) 0 n=ar l p n:=fun n=>by unfold ar;simp
 have e4:au (l.drop p) 0=au l p:=(by unfold au;simp [List.getD_eq_getElem?_getD]);unfold aD;simp only [e1,e2,e3,e4];by_cases h1:isFig (l.getD p 0)=Zy
 ·rw [if_pos h1,if_pos h1]
  cases dX (ar l p (aH isFig l p))<;>rfl
 ·rw [if_neg h1,if_neg h1]
  by_cases h2:65<=(l.getD p 0).toNat/\(l.getD p 0).toNat<=90
  ·rw [if_pos h2,if_pos h2]
   generalize ar l p (aH bB l p)=X;by_cases h3:bP X=Zy
   ·rw [if_pos h3,if_pos h3]
   ·rw [if_neg h3,if_neg h3]
    by_cases h4:prE X=0
    ·rw [if_pos h4,if_pos h4]
    ·rw [if_neg h4,if_neg h4]
     by_cases h5:prE X=4
     ·rw [if_pos h5,if_pos h5]
     ·rw [if_neg h5,if_neg h5]
  ·rw [if_neg h2,if_neg h2]
   by_cases h3:ar l p 4=[35,82,69,70]
   ·rw [if_pos h3,if_pos h3]
   ·rw [if_neg h3,if_neg h3]
    by_cases h4:au l p=0
    ·rw [if_pos h4,if_pos h4]
    ·rw [if_neg h4,if_neg h4]
theorem rO (s:ByteArray) (p:Nat):(s.extract p s.size).size=s.size - p:=by rw [ByteArray.size_extract];omega
theorem Bb (s:ByteArray) (p:Nat) (h:p<=s.size):(s.extract p s.size).data.toList=s.data.toList.drop p:=by
 have h2:s.size=p+(s.size - p):=qoq;have h3:=bQ s p (s.size - p);exact qlo
theorem Fc:(prog.info? 184).map (fun i=>(i.zero,i.size,i.bytes))=ZV (ZV (Zu #[ZZ ZY 0,ZZ ZY 0,ZZ ZY 0,ZZ ZY 0,Zx ⟨#[]⟩,ZZ ZY 0]),6,56):=by kernel_rfl

theorem xD (s:ByteArray) (hs:s.size<=200) (w:Z3) (hE:jc w):
 Calls ZW 80 #[.string s] w fun e w'=>∃v,e=ZX (.tuple #[v,ZZ ZY (jb s.data.toList),ZZ ZY (cF s.data.toList)])/\
  w'.ownsRow w.heap.size 184 6 v (aE s.data.toList).length (c6 (aE s.data.toList))/\Z2 w.heap.size w w':=by
 obtain ⟨i0,hi0,hz0,hz1,hz2⟩:=info_parts Fc;obtain ⟨HI,HZ0,HZ1,HZ2⟩:=qbC;have HL:=qf (aq s);have HE:=qf hE;obtain ⟨HN,d0⟩:=qeF;clear hi0 hz0 hz1 hz2 hE;go_enter func80,ntmps80;go_wp2_with fail;go_loopw [5,6] (fun v a wr=>∃(p k:Nat) (acc:List Tok),p<=s.size/\a=ZZ ZY p/\acc.length<=p/\Hid (dL s.data.toList=cG s.data.toList k p acc/\s.size<k+p)/\wr.ownsRow w.heap.size 184 6 v acc.length (c6 acc)/\Z2 w.heap.size w wr) (fun _ a _=>s.size - (RowKit.intOf a).toNat)
 case atStart=>exact qmB
 case round=>
  obtain ⟨p,k,acc,hp,rfl,hacc,HS,hown,hb⟩:=hrel;have HO:=qf hown;clear hown;by_cases hlt:p<s.size
  ·have hk:∃k',k=k'+1:=by
    cases k with
    |zero=>have:=HS.out.2;omega
    |succ k'=>exact ⟨k',rfl⟩
   obtain ⟨k',rfl⟩:=hk;have g0:=bV s p hlt;have hk':s.size<k'+1+p:=HS.out.2
   have hS:dL s.data.toList=(if s[p]'hlt=32 then cG s.data.toList k' (p+1) acc else match aD s.data.toList p with|none=>(ZU,p)|some (t,n)=>cG s.data.toList k' (p+n) (acc++[t])):=by
    rw [HS.out.1,cG,if_pos qqE,g0];rfl
   clear HS;by_cases hc:s[p]'hlt=32
   ·rw [if_pos hc] at hS
    exact qjG
   ·rw [if_neg hc] at hS
    have t32:=qhw;have hx:=Bb s p qoq;have h1:=fun w=>GF (s.extract p s.size) qqI qqI w
    rw [hx] at h1;rw [Fz] at hS
    have hnp:∀t n,aD (s.data.toList.drop p) 0=ZV (t,n)->0<n/\n<=s.size - p:=fun t n h=>by
     have:=sA (s.extract p s.size) (p:=0) (n:=n) (t:=t) qqI (by rw [hx];exact h);rw [rO] at this;omega
    clear hx hc g0;cases ho:aD (s.data.toList.drop p) 0 with
    |none=>
     clear hnp;rw [ho] at h1 hS;have HA:=qf (oH HN.out hS);have H1:=qf h1;unfold cC at H1;clear ho h1 hS hk';go_wp2_with fail;refine (H1.out _ (HE.out.below hb)).mono ?_;rintro e w1 ⟨rfl,b1⟩;exact qjJ
    |some r=>
     obtain ⟨⟨kd,nu,co,ro,te,fr⟩,n⟩:=r;obtain ⟨hn0,hn1⟩:=hnp _ _ ho;clear hnp;rw [ho] at h1 hS;have HS':Hid (dL s.data.toList=cG s.data.toList k' (p+n) (acc++[⟨kd,nu,co,ro,te,p⟩])/\s.size<k'+(p+n)):=qf ⟨hS,qoq⟩;have H1:=qf h1;unfold cC G0 at H1;have tn:=qhL;clear ho h1 hS hk';go_wp2_with fail;refine (H1.out _ (HE.out.below hb)).mono ?_;rintro e w1 ⟨rfl,b1⟩;have HO1:=qf (rU HO.out b1);have hb1:=hb.trans (b1.mono hb.size);have hz:=hb1.size;clear b1
     go_wp2_with (at_builtin;refine wpList_append_own _ rfl _ _ 129 rfl w.heap.size 184 i0 (Zu #[ZZ ZY 0,ZZ ZY 0,ZZ ZY 0,ZZ ZY 0,Zx ⟨#[]⟩,ZZ ZY 0]) 6 56 underlying129 HI.out HZ0.out HZ1.out HZ2.out rfl qnv _ _ _ rfl ((HO1.out.alloc _).alloc _) ⟨w1.heap.size+1,0,ZU⟩ 1 1 (fy ⟨kd,nu,co,ro,te,p⟩) rfl rfl ?c1 ?c2 ?c3 ?c4 ?c5 ?_)
     case c1=>
      intro j u hj;match j,hj with
      |0,hj=>exact qmC
      |1,hj=>exact qmC
      |2,hj=>exact qmC
      |3,hj=>exact qmC
      |4,hj=>exact qmC
      |5,hj=>exact qmC
     case c2=>exact qmD
     case c3=>exact qmE
     case c4=>omega
     case c5=>simp;omega
     intro v' w4 hown4 hg4 _;rw [<-gV] at hown4;have e5:acc.length+1=(acc++[(⟨kd,nu,co,ro,te,p⟩:Tok)]).length:=qns;rw [e5] at hown4;have HO4:=qf hown4;have hb4:=qey;clear hg4 hown4;go_wp2_with fail;go_roundw
     case rel=>exact ⟨p+n,k',acc++[⟨kd,nu,co,ro,te,p⟩],qoq,qnG,qnu,HS',HO4.out,hb4⟩
     case measure=>exact qmy
  ·have hpe:¬p<s.data.toList.length:=by rw [aq];exact hlt
   exact qje
theorem rt (s:ByteArray) (hs:200<s.size) (hm:s.size<=9223372036854775807) (w:Z3):
 Calls ZW 80 #[.string s] w fun e w'=>e=ZX (.tuple #[.slice ZU 0 0,ZZ ZY 0,ZZ ZY 3])/\w=w':=by
 have d0:=qgQ;clear hs;go_enter func80,ntmps80;go_wp2_with fail;go_ret3
 exact ⟨rfl,rfl⟩
theorem OK:O6:=by
 intro s hs w hE;by_cases h:s.size<=200
 ·exact xD s h w hE
 ·have hl:200<s.data.toList.length:=by rw [aq];omega
  obtain ⟨e1,e2,e3⟩:=qcY;refine (rt s qoq qoq w).mono fun e w' ⟨he,hw⟩=>⟨.slice ZU 0 0,(by rw [he,e2,e3]),qpt,hw▸qb⟩
structure Env (w:Z3):Prop where
 itab:eS w
 l:jc w
theorem Env.below {w w':Z3} (h:Env w) (hb:Z2 w.heap.size w w'):Env w':=⟨h.itab.below hb,h.l.below hb⟩

theorem tN (n:Int) (hn:B64 n) (w:Z3) (hE:Env w):
 Calls ZW 127 #[ZZ ZY n] w fun e w'=>e=ZX (Zx ⟨(Lib.itoa n).toArray⟩)/\Z2 w.heap.size w w':=by
 have H:=qf (pk n hn);have HE:=qf hE;clear hn hE;go_enter func127,ntmps127;go_wp2_with fail;refine (H.out _ HE.out.itab).mono ?_;rintro e w1 ⟨rfl,hb⟩;go_wp2_with fail;go_ret;exact ⟨rfl,hb⟩

theorem J1 (s:ByteArray) (hs:s.size<=281474976710656) (v:Int) (h:Lib.atoiAll s.data.toList=.ok v) (w:Z3) (hE:Env w):
 Calls ZW 79 #[.string s] w fun e w'=>e=ZX (.tuple #[ZZ ZY (pV s.data.toList),.bool (pB s.data.toList)])/\Z2 w.heap.size w w':=by
 have H:=qf (yF s hs v h);have HT:=qf (tN v (Lib.atoiAll_bounds h));have HE:=qf hE;have HV:=qf h;clear h hE;go_enter func79,ntmps79;go_wp2_with fail;refine .mono qrz ?_;rintro e w1 ⟨rfl,hb⟩;have HT1:=qf (HT.out w1.drew ((HE.out.below hb).below (below_drewN qb 1)));go_wp2_with fail
 go_region_with ((first
  |(go_at_call 127;refine HT1.out.mono ?_;rintro e w2 ⟨rfl,hb2⟩)
  |(go_at_call 126;refine (rx _ _ _ _ rfl).mono ?_;rintro e w3 ⟨rfl,rfl⟩)
  |(go_at_call 125;refine .mono qry ?_;rintro e w3 ⟨rfl,rfl⟩)))
 all_goals
  go_wp2
  go_ret2;exact ⟨fT (Nk HV.out) (Fe HV.out),(hb.trans ((below_drewN qb 1).mono hb.size)).trans ((hb2.mono hb.size).alloc (Nat.le_trans hb.size hb2.size) _)⟩

theorem Dh (s:ByteArray) (hs:s.size<=281474976710656) (h:∀v,Lib.atoiAll s.data.toList≠.ok v) (w:Z3) (hE:Env w):
 Calls ZW 79 #[.string s] w fun e w'=>e=ZX (.tuple #[ZZ ZY (pV s.data.toList),.bool (pB s.data.toList)])/\Z2 w.heap.size w w':=by
 have H:=qf (uq s hs h w hE.l);have HE:=qf hE;have HP:=qf (Nc h);clear h hE;go_enter func79,ntmps79;go_wp2_with fail;refine H.out.mono ?_;rintro e w1 ⟨n,N,hn,rfl,hb⟩;have HT1:=qf (tN n hn w1.drew ((HE.out.below hb).below (below_drewN qb 1)));clear hn;go_wp2_with fail
 go_region_with ((first
  |(go_at_call 127;refine HT1.out.mono ?_;rintro e w2 ⟨rfl,hb2⟩)
  |(go_at_call 126;refine (rx _ _ _ _ rfl).mono ?_;rintro e w3 ⟨rfl,rfl⟩)
  |(go_at_call 125;refine .mono qry ?_;rintro e w3 ⟨rfl,rfl⟩)))
 all_goals
  go_wp2
  go_ret2;exact ⟨fT HP.out.1.symm HP.out.2.symm,(hb.trans ((below_drewN qb 1).mono hb.size)).trans ((hb2.mono hb.size).alloc (Nat.le_trans hb.size hb2.size) _)⟩

theorem mK (s:ByteArray) (hs:s.size<=281474976710656) (w:Z3) (hE:Env w):
 Calls ZW 79 #[.string s] w fun e w'=>e=ZX (.tuple #[ZZ ZY (pV s.data.toList),.bool (pB s.data.toList)])/\Z2 w.heap.size w w':=by
 by_cases h:∃v,Lib.atoiAll s.data.toList=.ok v
 ·obtain ⟨v,hv⟩:=h
  exact J1 s hs v hv w hE
 ·exact Dh s hs (fun v hv=>h ⟨v,hv⟩) w hE
theorem uV (s:ByteArray) (h:0<s.size):s.data.toList.head? =ZV (s[0]'h):=by
 have h1:0<s.data.toList.length:=(by rw [Array.length_toList];exact h);rw [List.head?_eq_getElem?,List.getElem?_eq_getElem h1];rfl
theorem O3 (s:ByteArray) (i:Nat) (h:i<s.size):s.data.toList[i]? =ZV (s[i]'h):=by
 have h1:=qhv;rw [List.getElem?_eq_getElem h1];rfl
theorem vA {a b:UInt8} (h:a.toNat=b.toNat):a=b:=UInt8.toNat_inj.1 h
theorem oQ {a b:ByteArray} (h:a.data.toList=b.data.toList):a=b:=by
 obtain ⟨x⟩:=a;obtain ⟨y⟩:=b;congr
 exact Array.toList_inj.1 h
theorem gN (s:ByteArray):s.data.toList.length=s.size:=Array.length_toList

def sk (m:Bool) (l:List UInt8):Bool:=decide (l=[]\/19<l.length\/(l.head? =ZV 48/\(m=Zy\/1<l.length)))
theorem Lm (m:Bool) (D:ByteArray) (h:0<D.size):sk m D.data.toList=(decide (19<D.size) || (decide ((D[0]'h).toNat=48)&&(m || decide (1<D.size)))):=by
 apply gF
 unfold sk
 have hn:D.data.toList≠[]:=by
  intro e;have:=gN D;rw [e] at this;exact qlF
 have h48:(D[0]'h)=48↔(D[0]'h).toNat=48:=⟨fun e=>by rw [e];rfl,fun e=>vA e⟩;simp only [hn,false_or,gN,uV D h,Option.some.injEq,h48,decide_eq_true_eq,Bool.or_eq_true,Bool.and_eq_true]
theorem DY (m:Bool) (D:ByteArray) (h:D.size=0):sk m D.data.toList=Zy:=by
 have hn:D.data.toList=[]:=List.eq_nil_of_length_eq_zero (by rw [gN];exact h);unfold sk;exact decide_eq_true (.inl hn)
theorem Ii {l:List UInt8} (hc:l[i]? =ZV c) (h:¬(48<=c.toNat/\c.toNat<=57)):Lib.decFrom 0 l=ZU:=by
 cases hd:Lib.decFrom 0 l with
 |none=>rfl
 |some n=>
  obtain ⟨d,hv⟩:=Lib.digit_of_decFrom l 0 n hd i c hc;unfold Lib.digitVal at hv;rw [if_neg h] at hv;cases hv
theorem Ht {l:List UInt8} (hu:Lib.decFrom 0 (l.take i)=ZV u) (hc:l[i]? =ZV c) (h:48<=c.toNat/\c.toNat<=57):Lib.decFrom 0 (l.take (i+1))=ZV (10*u+(c.toNat - 48)):=by
 have:=Lib.decFrom_take l i 0 u c (c.toNat - 48) hu hc (by unfold Lib.digitVal;rw [if_pos h]);rw [this];congr 1;omega
theorem Fp {l:List UInt8} (hu:Lib.decFrom 0 (l.take i)=ZV u) (hi:i<19):u<=999999999999999999:=by
 have h1:=Lib.decFrom_lt _ _ _ hu;have h2:(l.take i).length<=18:=(by have:=List.length_take_le i l;omega);have h3:10 ^ (l.take i).length<=10 ^ 18:=Nat.pow_le_pow_right qnv h2;have e18:(10:Nat) ^ 18=1000000000000000000:=qnv;omega

theorem yw (s D:ByteArray) (m bad:Bool) (hs:s.size<=300) (h0:0<s.size) (hm:bN s.data.toList=m) (hD:rest s.data.toList=D.data.toList) (hbad:sk m D.data.toList=bad) (w:Z3):
 Calls ZW 43 #[.string s] w fun e w'=>e=ZX (.tuple #[ZZ ZY (pV s.data.toList),.bool (pB s.data.toList)])/\w=w':=by
 have Hm:=qf hm;have HD:=qf hD;have Hb:=qf hbad
 have hDs:D.size<=300:=by
  rw [<-gN,<-hD];unfold rest;rw [<-gN] at hs;split
  ·rw [List.length_tail];omega
  ·exact hs
 clear hm hD hbad;go_enter func43,ntmps43;go_upto_if 17 with fail
 go_cut [4,5] from 18 to 19 (fun s4 s5 wx=>s4=.bool m/\s5=.string D/\w=wx)
 case first=>
  have hh:=qf (uV s h0);cases m with
  |true=>
   have h45:(s[0]'h0)=45:=qlC;have hz:(((s[0]'h0).toNat:Int)==45)=Zy:=(by rw [h45];rfl);clear h45
   have HX:Hid (s.extract 1 s.size=D):=qf (by
    apply oQ
    rw [Lib.extract_to_end,<-HD.out];unfold rest;rw [if_pos Hm.out,List.drop_one])
   exact qlu
  |false=>
   have h45:(s[0]'h0)≠45:=qlC
   have hz:(((s[0]'h0).toNat:Int)==45)=Zz:=by
    rw [beq_eq_false_iff_ne];intro e;exact h45 (vA (by have e2:(45:UInt8).toNat=45:=rfl;omega))
   clear h45
   have HX:Hid (s=D):=qf (by
    apply oQ
    rw [<-HD.out];unfold rest;rw [if_neg (by rw [Hm.out];decide)])
   exact qlu
 case rest=>
  obtain ⟨rfl,rfl,rfl⟩:=hcut;go_upto_region 5 with fail
  go_cut [40] from 20 to 40 (fun s40 wx=>s40=.bool bad/\w=wx)
  case first=>
   by_cases n0:D.size=0
   ·have HB:=qf ((DY m D n0).symm.trans Hb.out)
    have hz:((D.size:Int)==0)=Zy:=(by rw [n0];rfl);clear n0;go_wp2_with fail;go_meet
    exact ⟨congrArg Value.bool HB.out,rfl⟩
   ·have n1:0<D.size:=by omega
    have HB:=qf ((Lm m D n1).symm.trans Hb.out);have hz:((D.size:Int)==0)=Zz:=qoy;clear n0;by_cases n19:19<D.size
    ·have hy:decide (19<(D.size:Int))=Zy:=decide_eq_true qoq
     have hx:bad=Zy:=(by rw [<-HB.out,decide_eq_true n19];rfl);subst hx;clear n19;exact qjP
    ·have hy:decide (19<(D.size:Int))=Zz:=decide_eq_false qoq
     have HC:=HB.out;rw [decide_eq_false n19,Bool.false_or] at HC;clear n19;by_cases h48:(D[0]'n1).toNat=48
     ·have hv:(((D[0]'n1).toNat:Int)==48)=Zy:=by rw [h48];rfl
      rw [decide_eq_true h48,Bool.true_and] at HC;clear h48;cases m with
      |true=>
       have hx:bad=Zy:=HC.symm;subst hx;clear HC;exact qjP
      |false=>
       by_cases n2:1<D.size
       ·have ht:decide (1<(D.size:Int))=Zy:=decide_eq_true qoq
        have hx:bad=Zy:=(by rw [<-HC,decide_eq_true n2];rfl);subst hx;clear HC n2;exact qjP
       ·have ht:decide (1<(D.size:Int))=Zz:=decide_eq_false qoq
        have hx:bad=Zz:=(by rw [<-HC,decide_eq_false n2];rfl);subst hx;clear HC n2;exact qjP
     ·have hv:(((D[0]'n1).toNat:Int)==48)=Zz:=by rw [beq_eq_false_iff_ne];omega
      have hx:bad=Zz:=(by rw [<-HC,decide_eq_false h48];rfl);subst hx;clear HC h48;exact qjP
  case rest=>
   obtain ⟨rfl,rfl⟩:=hcut;cases bad with
   |true=>
    have HP:Hid (pV s.data.toList=0/\pB s.data.toList=Zz):=qf (Kk (by
     have h1:=Hb.out;unfold sk at h1;rw [Hm.out,HD.out];have h2:=of_decide_eq_true h1;rcases h2 with h2|h2|⟨h2,h3⟩
     ·exact .inl h2
     ·exact .inr (.inl h2)
     ·exact .inr (.inr (.inl ⟨h2,h3.imp id qoq⟩))))
    exact qjo
   |false=>
    have hf:=of_decide_eq_false (show decide _=Zz from Hb.out)
    have hlen:D.size<=19:=by
     have:=gN D;rcases Nat.lt_or_ge 19 D.size with h|h
     ·exact absurd (.inr (.inl qoq)) hf
     ·exact h
    have hne:rest s.data.toList≠[]:=(by rw [HD.out];exact fun h=>hf (.inl h))
    have hhd:(rest s.data.toList).head? ≠ZV 48\/((rest s.data.toList).length=1/\bN s.data.toList=Zz):=by
     rw [HD.out,Hm.out];by_cases h:D.data.toList.head? =ZV 48
     ·right
      have hnn:=hne;rw [HD.out] at hnn;have:=List.length_pos_iff.2 hnn;refine ⟨?_,?_⟩
      ·rcases Nat.lt_or_ge 1 D.data.toList.length with h1|h1
       ·exact absurd (.inr (.inr ⟨h,.inr h1⟩)) hf
       ·omega
      ·cases m with
       |true=>exact absurd (.inr (.inr ⟨h,.inl rfl⟩)) hf
       |false=>rfl
     ·exact .inl h
    have Hne:=qf hne;have Hhd:=qf hhd;clear hne hhd hf hs hDs;go_wp2_with fail;go_loop [6,7] (fun v6 v7=>∃i u:Nat,i<=D.size/\v6=.int .u64 u/\v7=ZZ ZY i/\Hid (Lib.decFrom 0 (D.data.toList.take i)=ZV u)) (fun _ v7=>D.size - (RowKit.intOf v7).toNat)
    case atStart=>exact ⟨0,0,qe,rfl,rfl,qf rfl⟩
    case round=>
     obtain ⟨i,u,hi,rfl,rfl,HU⟩:=hrel;by_cases hlt:i<D.size
     ·have hu:=Fp HU.out qoq
      have Hc:=qf (O3 D i hlt);by_cases hdig:48<=(D[i]'hlt).toNat/\(D[i]'hlt).toNat<=57
      ·have HS:=qf (Ht HU.out Hc.out hdig)
       obtain ⟨g1,g2⟩:=hdig;have d1:decide (((D[i]'hlt).toNat:Int)<48)=Zz:=decide_eq_false qoq;have d2:decide (57<((D[i]'hlt).toNat:Int))=Zz:=decide_eq_false qoq;go_wp2_with fail;go_round
       case rel=>exact ⟨i+1,10*u+((D[i]'hlt).toNat - 48),qoq,qnG,qnG,HS⟩
       case measure=>exact qmy
      ·have HP:Hid (pV s.data.toList=0/\pB s.data.toList=Zz):=qf (Kk (.inr (.inr (.inr (by rw [HD.out];exact Ii Hc.out hdig)))))
       by_cases h1:(D[i]'hlt).toNat<48
       ·have d1:decide (((D[i]'hlt).toNat:Int)<48)=Zy:=decide_eq_true qoq
        clear hdig h1;exact qjo
       ·have d1:decide (((D[i]'hlt).toNat:Int)<48)=Zz:=decide_eq_false qoq
        have d2:decide (57<((D[i]'hlt).toNat:Int))=Zy:=decide_eq_true qoq;clear hdig h1;exact qjo
     ·have hd:Lib.decFrom 0 (rest s.data.toList)=ZV u:=by
       have h1:=HU.out;rw [List.take_of_length_le (by rw [gN];omega)] at h1;rw [HD.out];exact h1
      have HP:=qf (MM Hne.out Hhd.out hd);rw [Hm.out] at HP;clear hd;go_wp2_with fail;refine (cK _ _ qoq _).mono ?_;rintro e w1 ⟨rfl,rfl⟩;exact qjo

theorem wF (w:Z3):
 Calls ZW 43 #[Zx ⟨#[]⟩] w fun e w'=>e=ZX (.tuple #[ZZ ZY 0,.bool Zz])/\w=w':=by
 go_enter func43,ntmps43;go_wp2_with fail;go_ret2;exact ⟨rfl,rfl⟩
theorem o9 (s:ByteArray) (hs:s.size<=300) (w:Z3):
 Calls ZW 43 #[.string s] w fun e w'=>e=ZX (.tuple #[ZZ ZY (pV s.data.toList),.bool (pB s.data.toList)])/\w=w':=by
 by_cases h0:0<s.size
 ·exact yw s ⟨(rest s.data.toList).toArray⟩ _ _ hs h0 rfl qns rfl w
 ·have he:s=⟨#[]⟩:=oQ (List.eq_nil_of_length_eq_zero (by rw [gN];omega))
  subst he;exact wF w
