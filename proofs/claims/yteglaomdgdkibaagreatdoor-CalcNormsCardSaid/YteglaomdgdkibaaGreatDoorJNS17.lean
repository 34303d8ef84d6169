import Derived.Test.YteglaomdgdkibaaGreatDoorJNS07
import Derived.Test.YteglaomdgdkibaaGreatDoorJNS08
import Derived.Shelf.Abstract
import Derived.Lib.ItoaLen
import Derived.Test.YteglaomdgdkibaaGreatDoorJQNSP
import Derived.Test.YteglaomdgdkibaaGreatDoorJQNSW
set_option linter.all false
set_option maxHeartbeats 0
set_option maxRecDepth 99999
namespace Go.Proofs.YteglaomdgdkibaaGreatDoor
open Go.RowKit
open Value renaming int→ZZ,slice→Zw
open IntKind renaming i64→ZY
open Ending renaming returned→ZX
open RowKit renaming Below→Z2
open Go renaming World→Z3
open Tryz
open Tryz renaming prog→ZW
open Option renaming some→ZV
open Bool renaming false→Zz,true→Zy
variable {p:Tr->Bool}{ks:List Tr}{B F R i:Nat}{u:Tr}
theorem pspare_at (k num a b c d:Int) (wd:List UInt8) (A:Option Addr) (n cap:Nat) (w:Z3) (N0 B0 AT B1 B6 W0 B4 B5 LN B3:Bool) (hn:(num !=0)=N0) (h0:(k !=0)=B0)
 (hA:∀W,(binOp .neq 30 (.agg #[ZZ ZY a,ZZ ZY b,ZZ ZY c,ZZ ZY d]) (.agg #[ZZ ZY 0,ZZ ZY 0,ZZ ZY 0,ZZ ZY 0])).run ZW W=.ok (.bool AT) W)
 (h1:(k !=1)=B1) (h6:(k !=6)=B6) (hw:(wd==[])=W0) (h4:(k !=4)=B4) (h5:(k !=5)=B5) (hl:decide ((0:Int)<(n:Int))=LN) (h3:(k !=3)=B3):
 Calls ZW 234 #[.agg #[ZZ ZY k,ZZ ZY num,ZZ ZY a,ZZ ZY b,ZZ ZY c,ZZ ZY d,.string ⟨wd.toArray⟩,Zw A n cap]] w fun e w'=>e=ZX (.bool ((N0&&B0) || ((AT&&(B1&&B6)) || ((!W0&&(B4&&B5)) || (LN&&(B3&&(B4&&B5)))))))/\Z2 w.heap.size w w':=by
 have hG:=fun op X Y W=>kL op X Y #[ZZ ZY a,ZZ ZY b,ZZ ZY c,ZZ ZY d] #[ZZ ZY 0,ZZ ZY 0,ZZ ZY 0,ZZ ZY 0] W
 cases N0 with
 |true=>
  cases B0 with
  |true=>
   exact qjt
  |false=>
   cases AT with
   |true=>
    cases B1 with
    |true=>
     cases B6 with
     |true=>
      exact qjt
     |false=>
      have ea:=qeg;have eb:k=6:=(by simpa using h6);omega
    |false=>
     have ea:=qeg;have eb:k=1:=qqJ;omega
   |false=>
    cases W0 with
    |true=>
     cases LN with
     |true=>
      have hz:=qeJ;cases B3 with
      |true=>
       exact qkA
      |false=>
       have ea:=qeg;exact qmp
     |false=>
      exact qly
    |false=>
     exact qkA
 |false=>
  cases AT with
  |true=>
   cases B1 with
   |true=>
    cases B6 with
    |true=>
     exact qjt
    |false=>
     cases W0 with
     |true=>
      cases LN with
      |true=>
       have hz:=qeJ;cases B3 with
       |true=>
        exact qkB
       |false=>
        have ea:=qfF;exact qmp
      |false=>
       exact qly
     |false=>
      exact qkB
   |false=>
    cases W0 with
    |true=>
     cases LN with
     |true=>
      have hz:=qeJ;cases B3 with
      |true=>
       exact qkC
      |false=>
       have ea:=qfG;exact qmp
     |false=>
      exact qly
    |false=>
     exact qkC
  |false=>
   cases W0 with
   |true=>
    cases LN with
    |true=>
     have hz:=qeJ;cases B3 with
     |true=>
      cases B4 with
      |true=>
       cases B5 with
       |true=>
        exact qjt
       |false=>
        exact qjt
      |false=>
       exact qjt
     |false=>
      exact qjt
    |false=>
     exact qly
   |false=>
    cases B4 with
    |true=>
     cases B5 with
     |true=>
      exact qjt
     |false=>
      cases LN with
      |true=>
       have hz:=qeJ;cases B3 with
       |true=>
        exact qjt
       |false=>
        have ea:k=5:=(by simpa using h5);exact qmp
      |false=>
       exact qly
    |false=>
     cases LN with
     |true=>
      have hz:=qeJ;cases B3 with
      |true=>
       exact qjt
      |false=>
       have ea:k=4:=qqa;exact qmp
     |false=>
      exact qly
def mM (t:Tr):Bool:=((t.num !=0)&&(t.kY !=0)) || (((!(t.c1==0&&t.r1==0&&(t.c2==0&&t.r2==0)))&&((t.kY !=1)&&(t.kY !=6))) || ((!(t.wZ==[])&&((t.kY !=4)&&(t.kY !=5))) || (decide ((0:Int)<(t.kZ.length:Int))&&((t.kY !=3)&&((t.kY !=4)&&(t.kY !=5))))))
theorem C6 (t:Tr) (A:Option Addr) (cap:Nat) (w:Z3):
 Calls ZW 234 #[tv t A cap] w fun e w'=>e=ZX (.bool (mM t))/\Z2 w.heap.size w w':=
 pspare_at t.kY t.num t.c1 t.r1 t.c2 t.r2 t.wZ A t.kZ.length cap w _ _ _ _ _ _ _ _ _ _ rfl rfl (fun W=>tq _ _ _ _ _ _ _ _ W) rfl rfl rfl rfl rfl rfl rfl
section
open Go.Shelf
structure uH (F:Nat) (p:Tr->Bool):Prop where
 enters:∀(args:Array Value) (w:Z3),(callFunc F args).run ZW w=.ok (.enter F args) w
 runs:∀(t:Tr) (A:Option Addr) (cap:Nat) (w:Z3),Calls ZW F #[tv t A cap] w fun e w'=>e=ZX (.bool (p t))/\Z2 w.heap.size w w'
theorem OQ:uH 319 (fun t=>t.kY==6):=by
 refine ⟨fun args w=>enters_of func319 qnx rfl args w,fun t A cap w=>?_⟩;unfold tv;go_enter func319,ntmps319;exact qir
theorem Ba:uH 320 (fun t=>(t.kY !=6)&&(t.kY !=2)):=by
 refine ⟨fun args w=>enters_of func320 qnx rfl args w,fun t A cap w=>?_⟩;unfold tv;cases h6:(t.kY !=6) with
 |true=>
  go_enter func320,ntmps320;exact qir
 |false=>
  go_enter func320,ntmps320;exact qir
theorem Kx (h:ks[i]? =ZV u) (hp:p u=Zy):ks.any p=Zy:=List.any_eq_true.2 ⟨u,List.mem_of_getElem? h,hp⟩
theorem GV (h:∀(j:Nat) (u:Tr),j<ks.length->ks[j]? =ZV u->p u=Zz):ks.any p=Zz:=by
 rw [Bool.eq_false_iff];intro ha;obtain ⟨u,hu,hp⟩:=List.any_eq_true.1 ha;obtain ⟨j,hj⟩:=List.getElem?_of_mem hu;have:=h j u (List.getElem?_eq_some_iff.1 hj).1 hj;rw [hp] at this;cases this
theorem xp (hF:uH F p) (t:Tr) (ht:Wid t) (w:Z3) (P:Nat->Prop) (A:Option Addr) (ca:Nat) (hA:KV w P t A):
 Calls ZW 330 #[Zw A t.kZ.length ca,.func (.func F) #[] #[]] w fun e w'=>(∃i:Int,e=ZX (ZZ ZY i)/\decide (0<=i)=t.kZ.any p)/\Z2 w.heap.size w w':=by
 have hlen:=qfz;unfold maxLen at hlen;have hE:=hF.enters;have HF:=qf hF.runs;have HA:=qf hA;clear hF hA;go_enter func330,ntmps330;go_wp2_with fail;go_loopw [8] (fun vi wr=>∃i:Nat,i<=t.kZ.length/\vi=ZZ ZY (i:Int)/\Hid (∀(j:Nat) (u:Tr),j<i->t.kZ[j]? =ZV u->p u=Zz)/\Z2 w.heap.size w wr) (fun vi _=>t.kZ.length - (RowKit.intOf vi).toNat)
 case atStart=>exact ⟨0,qe,rfl,qf fun j u hj=>by omega,qb⟩
 case round=>
  obtain ⟨i,hi,rfl,HN,hbel⟩:=hrel;by_cases hlt:i<t.kZ.length
  ·have ha:t.kZ[i]? =ZV (t.kZ[i]'hlt):=List.getElem?_eq_getElem hlt
   obtain ⟨g,o,rfl⟩:=HA.out.addr ha;obtain ⟨hg,A',ca',h8,hkv⟩:=HA.out.kidAt hbel ha;have HM:=qf ha;have HC:=qf (HF.out (t.kZ[i]'hlt) A' ca' wr);generalize t.kZ[i]'hlt=x at*;unfold At8 at h8;unfold tv at HC;obtain ⟨q0,q1,q2,q3,q4,q5,q6,q7⟩:=h8;clear hkv ha;cases hp:p x with
   |true=>
    rw [hp] at HC;have HH:=qf (Kx HM.out hp);clear hp;go_wp2_with fail;refine HC.out.mono ?_;rintro e w1 ⟨rfl,b1⟩;have hb1:=qgb;clear b1 q0 q1 q2 q3 q4 q5 q6 q7;go_wp2_with fail;go_ret;exact ⟨⟨_,rfl,(by rw [HH.out];exact decide_eq_true qoq)⟩,hb1⟩
   |false=>
    rw [hp] at HC;have HH:=qf hp;clear hp;go_wp2_with fail;refine HC.out.mono ?_;rintro e w1 ⟨rfl,b1⟩;have hb1:=qgb;clear b1 q0 q1 q2 q3 q4 q5 q6 q7;exact qjc
  ·have hii:i=t.kZ.length:=by omega
   subst hii;have HH:=qf (GV HN.out);go_wp2_with fail;go_ret;exact ⟨⟨_,rfl,(by rw [HH.out];rfl)⟩,hbel⟩
theorem mx (hF:uH F p) (t:Tr) (ht:Wid t) (w:Z3) (P:Nat->Prop) (A:Option Addr) (ca:Nat) (hA:KV w P t A):
 Calls ZW 318 #[Zw A t.kZ.length ca,.func (.func F) #[] #[]] w fun e w'=>e=ZX (.bool (t.kZ.any p))/\Z2 w.heap.size w w':=by
 have H:=qf (xp hF t ht w P A ca hA);clear hF hA;go_enter func318,ntmps318;go_wp2_with fail;refine H.out.mono ?_;rintro e w1 ⟨⟨i,rfl,hi⟩,b1⟩;have HI:=qf hi;clear hi;go_wp2_with fail;go_ret;exact ⟨aK HI.out,b1⟩
def dj (ks:List Tr) (n:Nat):Bool:=(ks.length==n)&& !ks.any (fun t=>t.kY==6)
theorem ll (n:Nat) (t:Tr) (ht:Wid t) (w:Z3) (P:Nat->Prop) (A:Option Addr) (ca:Nat) (hA:KV w P t A):
 Calls ZW 280 #[Zw A t.kZ.length ca,ZZ ZY (n:Int)] w fun e w'=>e=ZX (.bool (dj t.kZ n))/\Z2 w.heap.size w w':=by
 have hlen:=qfz;unfold maxLen at hlen;have H:=qf (mx OQ t ht w P A ca hA);unfold dj;clear hA;cases hl:(t.kZ.length==n) with
 |true=>
  have d1:((t.kZ.length:Int)==(n:Int))=Zy:=(by rw [beq_iff_eq] at hl ⊢;omega);go_enter func280,ntmps280;go_wp2_with fail;refine H.out.mono ?_;rintro e w1 ⟨rfl,b1⟩;go_wp2_with fail;go_ret;exact ⟨aK (Bool.true_and _).symm,b1⟩
 |false=>
  have d1:((t.kZ.length:Int)==(n:Int))=Zz:=(by rw [beq_eq_false_iff_ne] at hl ⊢;omega);go_enter func280,ntmps280;exact qlH
def fV (wd:List UInt8) (ks:List Tr):Bool:=
 if wd=[73,70] then dj ks 3 else if wd=[83,85,77]\/wd=[77,73,78]\/wd=[77,65,88] then decide ((0:Int)<(ks.length:Int)) else if wd=[67,79,85,78,84] then decide ((0:Int)<(ks.length:Int))&& !ks.any (fun t=>(t.kY !=6)&&(t.kY !=2)) else Zz
theorem xC (wd:List UInt8) (t:Tr) (ht:Wid t) (w:Z3) (P:Nat->Prop) (A:Option Addr) (ca:Nat) (hA:KV w P t A):
 Calls ZW 281 #[.string ⟨wd.toArray⟩,Zw A t.kZ.length ca] w fun e w'=>e=ZX (.bool (fV wd t.kZ))/\Z2 w.heap.size w w':=by
 have hlen:=qfz;unfold maxLen at hlen;have HX:=qf (ll 3 t ht w P A ca hA);have HC:=qf (mx Ba t ht w P A ca hA);clear hA;unfold fV;have HD:∀b,decide ((0:Int)<(t.kZ.length:Int))=b->decide ((0:Int)<(t.kZ.length:Int))=b:=fun _ h=>h
 generalize hn:t.kZ.length=n at*;have HNN:=qf hn;clear hn HD;by_cases hi:wd=[73,70]
 ·subst hi
  rw [if_pos rfl];go_enter func281,ntmps281;go_wp2_with fail;refine HX.out.mono ?_;rintro e w1 ⟨rfl,b1⟩;go_wp2_with fail;go_ret;exact ⟨rfl,b1⟩
 ·rw [if_neg hi]
  by_cases h3:wd=[83,85,77]\/wd=[77,73,78]\/wd=[77,65,88]
  ·rw [if_pos h3]
   rcases h3 with rfl|rfl|rfl
   ·by_cases hz:0<n
    ·have d1:decide ((0:Int)<(n:Int))=Zy:=decide_eq_true qoq
     exact qiO
    ·have d1:decide ((0:Int)<(n:Int))=Zz:=decide_eq_false qoq
     exact qiO
   ·by_cases hz:0<n
    ·have d1:decide ((0:Int)<(n:Int))=Zy:=decide_eq_true qoq
     exact qiO
    ·have d1:decide ((0:Int)<(n:Int))=Zz:=decide_eq_false qoq
     exact qiO
   ·by_cases hz:0<n
    ·have d1:decide ((0:Int)<(n:Int))=Zy:=decide_eq_true qoq
     exact qiO
    ·have d1:decide ((0:Int)<(n:Int))=Zz:=decide_eq_false qoq
     exact qiO
  ·rw [if_neg h3]
   by_cases hc:wd=[67,79,85,78,84]
   ·subst hc
    rw [if_pos rfl];by_cases hz:0<n
    ·have d1:decide ((0:Int)<(n:Int))=Zy:=decide_eq_true qoq
     have d2:=qf d1;go_enter func281,ntmps281;go_wp2_with fail;refine HC.out.mono ?_;rintro e w1 ⟨rfl,b1⟩;go_wp2_with fail;go_ret;exact ⟨aK (by rw [d2.out,Bool.true_and]),b1⟩
    ·have d1:decide ((0:Int)<(n:Int))=Zz:=decide_eq_false qoq
     have d2:=qf d1;go_enter func281,ntmps281;go_wp2_with fail;go_ret;exact ⟨aK (by rw [d2.out,Bool.false_and]),qb⟩
   ·rw [if_neg hc]
    have e0:(wd==[73,70])=Zz:=(by rw [beq_eq_false_iff_ne];exact hi);have e1:(wd==[83,85,77])=Zz:=(by rw [beq_eq_false_iff_ne];exact fun e=>h3 (.inl e));have e2:(wd==[77,73,78])=Zz:=(by rw [beq_eq_false_iff_ne];exact fun e=>h3 (.inr (.inl e)));have e3:(wd==[77,65,88])=Zz:=(by rw [beq_eq_false_iff_ne];exact fun e=>h3 (.inr (.inr e)));have e4:(wd==[67,79,85,78,84])=Zz:=(by rw [beq_eq_false_iff_ne];exact hc);clear hi h3 hc;go_enter func281,ntmps281;exact qlH
end
theorem yC:prog.eqGuardType prog.depth 28=Zz:=by kernel_rfl
theorem xQ:prog.stoodInHeld 28=Zz:=by kernel_rfl
theorem uL:prog.underlying 28=ZV (.struct (prog.fieldsOf 28)):=by kernel_rfl
theorem xj (op:BinOp) (X Y:Operand) (xs ys:Array Value) (W:Z3):(eqGuard op 28 X Y (.agg xs) (.agg ys)).run ZW W=.ok () W:=run_eqGuard_agg W op 28 X Y xs ys yC
theorem Cv (a b c d:Int) (W:Z3):(binOp .eql 28 (.agg #[ZZ ZY a,ZZ ZY b]) (.agg #[ZZ ZY c,ZZ ZY d])).run ZW W=.ok (.bool (a==c&&b==d)) W:=by
 rw [run_eql_struct,run_equalIn_agg W 9999 28 _ _ uL xQ];by_cases h1:a=c<;>by_cases h2:b=d<;>simp [go_sem,h1,h2]
def ee (t:Tr):Bool:=
 if t.kY=0 then decide (0<=t.num) else if t.kY=1 then rightB t.c1 t.r1&&(t.c1==t.c2&&t.r1==t.r2) else if t.kY=2 then Zy
 else if t.kY=3 then dj t.kZ 1 else if t.kY=4 then decide (0<=(lvl t.wZ:Int) - 1)&&dj t.kZ 2 else if t.kY=5 then fV t.wZ t.kZ
 else if t.kY=6 then bW t.c1 t.r1 t.c2 t.r2 else Zz
theorem AP (t:Tr) (ht:Wid t) (w:Z3) (P:Nat->Prop) (A:Option Addr) (ca:Nat) (hA:KV w P t A) (hS:bh R B w) (y:(t.kY==0)=Zy):
 Calls ZW 235 #[.agg (Ku.k t A ca)] w fun e w'=>e=ZX (.bool (decide (0<=t.num)))/\Z2 w.heap.size w w':=by
 have hlen:=qfz;unfold maxLen at hlen;obtain ⟨HS,HA,HT⟩:=qcx;clear hA hS ht;go_enter func235,ntmps235;go_wp2_with fail;go_ret;exact ⟨qnT,qa⟩
theorem wQ (t:Tr) (ht:Wid t) (w:Z3) (P:Nat->Prop) (A:Option Addr) (ca:Nat) (hA:KV w P t A) (hS:bh R B w) (n0:(t.kY==0)=Zz) (y:(t.kY==1)=Zy) (hr:rightB t.c1 t.r1=Zy):
 Calls ZW 235 #[.agg (Ku.k t A ca)] w fun e w'=>e=ZX (.bool (t.c1==t.c2&&t.r1==t.r2))/\Z2 w.heap.size w w':=by
 have hlen:=qfz;unfold maxLen at hlen;obtain ⟨HS,HA,HT⟩:=qcx;have HR:=qf (fun w=>pright_any t.c1 t.r1 w);clear hA hS ht;rw [hr] at HR;have hG:=fun op X Y W=>xj op X Y #[ZZ ZY t.c1,ZZ ZY t.r1] #[ZZ ZY t.c2,ZZ ZY t.r2] W
 have hN:=Cv t.c1 t.r1 t.c2 t.r2;clear hr;go_enter func235,ntmps235;go_wp2_with fail;refine .mono qrA ?_;rintro e w1 ⟨rfl,b1⟩;obtain ⟨k10,k11,k12,k13,k14,k15,k16⟩:=ql;have k17:=qcw;have h1:=qab;have z1:=qaz;clear b1;go_wp2_with fail;go_ret;exact ⟨rfl,h1⟩
theorem vS (t:Tr) (ht:Wid t) (w:Z3) (P:Nat->Prop) (A:Option Addr) (ca:Nat) (hA:KV w P t A) (hS:bh R B w) (n0:(t.kY==0)=Zz) (y:(t.kY==1)=Zy) (hr:rightB t.c1 t.r1=Zz):
 Calls ZW 235 #[.agg (Ku.k t A ca)] w fun e w'=>e=ZX (.bool (Zz))/\Z2 w.heap.size w w':=by
 have hlen:=qfz;unfold maxLen at hlen;obtain ⟨HS,HA,HT⟩:=qcx;have HR:=qf (fun w=>pright_any t.c1 t.r1 w);clear hA hS ht;rw [hr] at HR;clear hr;go_enter func235,ntmps235;go_wp2_with fail;refine .mono qrA ?_;rintro e w1 ⟨rfl,b1⟩;have h1:=qab;have z1:=qaz;clear b1;go_wp2_with fail;go_ret;exact ⟨rfl,h1⟩
theorem CF (t:Tr) (ht:Wid t) (w:Z3) (P:Nat->Prop) (A:Option Addr) (ca:Nat) (hA:KV w P t A) (hS:bh R B w) (n0:(t.kY==0)=Zz) (n1:(t.kY==1)=Zz) (y:(t.kY==2)=Zy):
 Calls ZW 235 #[.agg (Ku.k t A ca)] w fun e w'=>e=ZX (.bool (Zy))/\Z2 w.heap.size w w':=by
 have hlen:=qfz;unfold maxLen at hlen;obtain ⟨HS,HA,HT⟩:=qcx;clear hA hS ht;go_enter func235,ntmps235;go_wp2_with fail;go_ret;exact ⟨qnT,qa⟩
theorem AN (t:Tr) (ht:Wid t) (w:Z3) (P:Nat->Prop) (A:Option Addr) (ca:Nat) (hA:KV w P t A) (hS:bh R B w) (n0:(t.kY==0)=Zz) (n1:(t.kY==1)=Zz) (n2:(t.kY==2)=Zz) (y:(t.kY==3)=Zy):
 Calls ZW 235 #[.agg (Ku.k t A ca)] w fun e w'=>e=ZX (.bool (dj t.kZ 1))/\Z2 w.heap.size w w':=by
 have hlen:=qfz;unfold maxLen at hlen;obtain ⟨HS,HA,HT⟩:=qcx;have HE:=qf (fun ob=>ll 1 t HT.out (w.alloc ob) P A ca (HA.out.kept (Kept.of_below (qb.alloc qd ob))));clear hA hS ht;go_enter func235,ntmps235;go_wp2_with fail;refine (HE.out _).mono ?_;rintro e w1 ⟨rfl,b1⟩;have h1:=qab;have z1:=qaz;clear b1;go_wp2_with fail;go_ret;exact ⟨rfl,h1⟩
theorem BI (t:Tr) (ht:Wid t) (w:Z3) (P:Nat->Prop) (A:Option Addr) (ca:Nat) (hA:KV w P t A) (hS:bh R B w) (n0:(t.kY==0)=Zz) (n1:(t.kY==1)=Zz) (n2:(t.kY==2)=Zz) (n3:(t.kY==3)=Zz) (y:(t.kY==4)=Zy) (hl:decide (0<=(lvl t.wZ:Int) - 1)=Zy):
 Calls ZW 235 #[.agg (Ku.k t A ca)] w fun e w'=>e=ZX (.bool (dj t.kZ 2))/\Z2 w.heap.size w w':=by
 have hlen:=qfz;unfold maxLen at hlen;obtain ⟨HS,HA,HT⟩:=qcx;obtain ⟨HE,hV,HX⟩:=qcZ;clear hA hS ht;rw [hV] at HX;have HL:=qge;clear hV;generalize (lvl t.wZ:Int) - 1=lv at*;go_enter func235,ntmps235;go_wp2_with fail;refine (HX.out _).mono ?_;rintro e w9 ⟨rfl,rfl⟩;go_wp2_with fail;refine (HE.out _).mono ?_;rintro e w1 ⟨rfl,b1⟩;have h1:=qab;have z1:=qaz;clear b1;go_wp2_with fail;go_ret;exact ⟨rfl,h1⟩
theorem BO (t:Tr) (ht:Wid t) (w:Z3) (P:Nat->Prop) (A:Option Addr) (ca:Nat) (hA:KV w P t A) (hS:bh R B w) (n0:(t.kY==0)=Zz) (n1:(t.kY==1)=Zz) (n2:(t.kY==2)=Zz) (n3:(t.kY==3)=Zz) (y:(t.kY==4)=Zy) (hl:decide (0<=(lvl t.wZ:Int) - 1)=Zz):
 Calls ZW 235 #[.agg (Ku.k t A ca)] w fun e w'=>e=ZX (.bool (Zz))/\Z2 w.heap.size w w':=by
 have hlen:=qfz;unfold maxLen at hlen;obtain ⟨HS,HA,HT⟩:=qcx;obtain ⟨HE,hV,HX⟩:=qcZ;clear hA hS ht;rw [hV] at HX;have HL:=qge;clear hV;generalize (lvl t.wZ:Int) - 1=lv at*;go_enter func235,ntmps235;go_wp2_with fail;refine (HX.out _).mono ?_;rintro e w9 ⟨rfl,rfl⟩;go_wp2_with fail;go_ret;exact ⟨qnT,qa⟩
theorem xL (t:Tr) (ht:Wid t) (w:Z3) (P:Nat->Prop) (A:Option Addr) (ca:Nat) (hA:KV w P t A) (hS:bh R B w) (n0:(t.kY==0)=Zz) (n1:(t.kY==1)=Zz) (n2:(t.kY==2)=Zz) (n3:(t.kY==3)=Zz) (n4:(t.kY==4)=Zz) (y:(t.kY==5)=Zy):
 Calls ZW 235 #[.agg (Ku.k t A ca)] w fun e w'=>e=ZX (.bool (fV t.wZ t.kZ))/\Z2 w.heap.size w w':=by
 have hlen:=qfz;unfold maxLen at hlen;obtain ⟨HS,HA,HT⟩:=qcx;have HE:=qf (fun ob=>xC t.wZ t HT.out (w.alloc ob) P A ca (HA.out.kept (Kept.of_below (qb.alloc qd ob))));clear hA hS ht;go_enter func235,ntmps235;go_wp2_with fail;refine (HE.out _).mono ?_;rintro e w1 ⟨rfl,b1⟩;have h1:=qab;have z1:=qaz;clear b1;go_wp2_with fail;go_ret;exact ⟨rfl,h1⟩
theorem yB (t:Tr) (ht:Wid t) (w:Z3) (P:Nat->Prop) (A:Option Addr) (ca:Nat) (hA:KV w P t A) (hS:bh R B w) (n0:(t.kY==0)=Zz) (n1:(t.kY==1)=Zz) (n2:(t.kY==2)=Zz) (n3:(t.kY==3)=Zz) (n4:(t.kY==4)=Zz) (n5:(t.kY==5)=Zz) (y:(t.kY==6)=Zy):
 Calls ZW 235 #[.agg (Ku.k t A ca)] w fun e w'=>e=ZX (.bool (bW t.c1 t.r1 t.c2 t.r2))/\Z2 w.heap.size w w':=by
 have hlen:=qfz;unfold maxLen at hlen;obtain ⟨HS,HA,HT⟩:=qcx;have HE:=qf (fun w=>mn t.c1 t.r1 t.c2 t.r2 w);clear hA hS ht;go_enter func235,ntmps235;go_wp2_with fail;refine (HE.out _).mono ?_;rintro e w1 ⟨rfl,b1⟩;have h1:=qab;have z1:=qaz;clear b1;go_wp2_with fail;go_ret;exact ⟨rfl,h1⟩
theorem xX (t:Tr) (ht:Wid t) (w:Z3) (P:Nat->Prop) (A:Option Addr) (ca:Nat) (hA:KV w P t A) (hS:bh R B w) (n0:(t.kY==0)=Zz) (n1:(t.kY==1)=Zz) (n2:(t.kY==2)=Zz) (n3:(t.kY==3)=Zz) (n4:(t.kY==4)=Zz) (n5:(t.kY==5)=Zz) (n6:(t.kY==6)=Zz):
 Calls ZW 235 #[.agg (Ku.k t A ca)] w fun e w'=>e=ZX (.bool (Zz))/\Z2 w.heap.size w w':=by
 have hlen:=qfz;unfold maxLen at hlen;obtain ⟨HS,HA,HT⟩:=qcx;clear hA hS ht;go_enter func235,ntmps235;go_wp2_with fail;go_ret;exact ⟨qnT,qa⟩
theorem Cl (t:Tr) (ht:Wid t) (w:Z3) (P:Nat->Prop) (A:Option Addr) (ca:Nat) (hA:KV w P t A) (hS:bh R B w):
 Calls ZW 235 #[tv t A ca] w fun e w'=>e=ZX (.bool (ee t))/\Z2 w.heap.size w w':=by
 have NE:∀i:Int,t.kY≠i->(t.kY==i)=Zz:=fun i h=>by rw [beq_eq_false_iff_ne];exact h
 have EQ:∀i:Int,t.kY=i->(t.kY==i)=Zy:=fun i h=>by rw [beq_iff_eq];exact h
 unfold ee;by_cases h0:t.kY=0
 ·rw [if_pos h0];exact AP t ht w P A ca hA hS (EQ 0 h0)
 ·rw [if_neg h0]
  by_cases h1:t.kY=1
  ·rw [if_pos h1]
   cases hr:rightB t.c1 t.r1 with
   |true=>rw [Bool.true_and];exact wQ t ht w P A ca hA hS (NE 0 h0) (EQ 1 h1) hr
   |false=>rw [Bool.false_and];exact vS t ht w P A ca hA hS (NE 0 h0) (EQ 1 h1) hr
  ·rw [if_neg h1]
   by_cases h2:t.kY=2
   ·rw [if_pos h2];exact CF t ht w P A ca hA hS (NE 0 h0) (NE 1 h1) (EQ 2 h2)
   ·rw [if_neg h2]
    by_cases h3:t.kY=3
    ·rw [if_pos h3];exact AN t ht w P A ca hA hS (NE 0 h0) (NE 1 h1) (NE 2 h2) (EQ 3 h3)
    ·rw [if_neg h3]
     by_cases h4:t.kY=4
     ·rw [if_pos h4]
      cases hl:decide (0<=(lvl t.wZ:Int) - 1) with
      |true=>rw [Bool.true_and];exact BI t ht w P A ca hA hS (NE 0 h0) (NE 1 h1) (NE 2 h2) (NE 3 h3) (EQ 4 h4) hl
      |false=>rw [Bool.false_and];exact BO t ht w P A ca hA hS (NE 0 h0) (NE 1 h1) (NE 2 h2) (NE 3 h3) (EQ 4 h4) hl
     ·rw [if_neg h4]
      by_cases h5:t.kY=5
      ·rw [if_pos h5];exact xL t ht w P A ca hA hS (NE 0 h0) (NE 1 h1) (NE 2 h2) (NE 3 h3) (NE 4 h4) (EQ 5 h5)
      ·rw [if_neg h5]
       by_cases h6:t.kY=6
       ·rw [if_pos h6];exact yB t ht w P A ca hA hS (NE 0 h0) (NE 1 h1) (NE 2 h2) (NE 3 h3) (NE 4 h4) (NE 5 h5) (EQ 6 h6)
       ·rw [if_neg h6];exact xX t ht w P A ca hA hS (NE 0 h0) (NE 1 h1) (NE 2 h2) (NE 3 h3) (NE 4 h4) (NE 5 h5) (NE 6 h6)
def lQ:Nat->Tr->Bool
 |0,_=>Zz
 |d+1,t=>(!mM t)&&(ee t&&t.kZ.all (lQ d))
theorem bh.later {w w':Z3} (h:bh B B w) (hB:B<=w.heap.size) (hb:Z2 w.heap.size w w'):bh B B w':=h.keep fun _ _ _ hl hv=>by rw [hb.cell qoq];exact hv
def uE (d:Nat):Prop:=∀(q:Int),q=(d:Int)->∀(t:Tr),Wid t->∀(w:Z3) (P:Nat->Prop) (A:Option Addr) (ca:Nat),KV w P t A->∀(B:Nat),B<=w.heap.size->bh B B w->
 Calls ZW 182 #[tv t A ca,ZZ ZY q] w fun e w'=>e=ZX (.bool (lQ d t))/\Z2 w.heap.size w w'
theorem KQ (h:ks[i]? =ZV u) (hp:p u=Zz):ks.all p=Zz:=by
 rw [Bool.eq_false_iff];intro ha;have:=List.all_eq_true.1 ha u (List.mem_of_getElem? h);rw [hp] at this;cases this
theorem GR (h:∀(j:Nat) (u:Tr),j<ks.length->ks[j]? =ZV u->p u=Zy):ks.all p=Zy:=
 List.all_eq_true.2 fun u hu=>by
  obtain ⟨j,hj⟩:=List.getElem?_of_mem hu;exact h j u (List.getElem?_eq_some_iff.1 hj).1 hj
theorem Be:uE 0:=by
 intro q hq t ht w P A ca hA B hB hS;obtain rfl:q=0:=qoq;have hlen:=qfz;unfold maxLen at hlen;unfold tv;clear hA hS ht hB hq;go_enter func182,ntmps182;exact qir
theorem CO {d:Nat} (hd:d<=1000) (ih:uE d):uE (d+1):=by
 intro q hq t ht w P A ca hA B hB hS;have hlen:=qfz;unfold maxLen at hlen;have b0:Z2 w.heap.size w (w.alloc (.cells (Ku.k t A ca) 33)):=qa;have HP:=qf (C6 t A ca);have HQ:=qf (fun w' (hb:Z2 w.heap.size w w')=>Cl t ht w' P A ca (hA.kept (Kept.of_below hb)) (hS.later hB hb));have HA:=qf hA;have HS:=qf hS;have HT:=qf ht;have HI:=qf ih;have hq0:(q==0)=Zz:=qoy;have hqb:q<=1001:=qoq;have hqa:1<=q:=qoq;have HQD:=qf hq;unfold tv at*;unfold lQ;clear hA hS ht ih b0 hq;cases hsp:mM t with
 |true=>
  rw [hsp] at HP;clear hsp;go_enter func182,ntmps182;go_wp2_with fail;refine .mono qrB ?_;rintro e w1 ⟨rfl,b1⟩;have h1:=qab;clear b1;go_wp2_with fail;go_ret;exact ⟨rfl,h1⟩
 |false=>
  rw [hsp] at HP;clear hsp;cases hso:ee t with
  |false=>
   rw [hso] at HQ;clear hso;go_enter func182,ntmps182;go_wp2_with fail;refine .mono qrB ?_;rintro e w1 ⟨rfl,b1⟩;obtain ⟨k10,k11,k12,k13,k14,k15,k16⟩:=ql;have k17:=qcw;have h1:=qab;clear b1;go_wp2_with fail;refine (HQ.out _ h1).mono ?_;rintro e w2 ⟨rfl,b2⟩;have h2:=qcW;clear b2;go_wp2_with fail;go_ret;exact ⟨rfl,h2⟩
  |true=>
   rw [hso] at HQ;clear hso;go_enter func182,ntmps182;go_wp2_with fail;refine .mono qrB ?_;rintro e w1 ⟨rfl,b1⟩;obtain ⟨k10,k11,k12,k13,k14,k15,k16⟩:=ql;have k17:=qcw;have h1:=qab;clear b1;go_wp2_with fail;refine (HQ.out _ h1).mono ?_;rintro e w2 ⟨rfl,b2⟩;obtain ⟨k20,k21,k22,k23,k24,k25,k26,k27,h2⟩:=qI;clear b2;go_wp2_with fail;go_loopw [21] (fun vi wr=>∃i:Nat,i<=t.kZ.length/\vi=ZZ ZY (i:Int)/\Hid (∀(j:Nat) (u:Tr),j<i->t.kZ[j]? =ZV u->lQ d u=Zy)/\Z2 w.heap.size w wr) (fun vi _=>t.kZ.length - (RowKit.intOf vi).toNat)
   case atStart=>exact ⟨0,qe,rfl,qf fun j u hj=>by omega,h2⟩
   case round=>
    obtain ⟨i,hi,rfl,HN,hbel⟩:=hrel;by_cases hlt:i<t.kZ.length
    ·have ha:t.kZ[i]? =ZV (t.kZ[i]'hlt):=List.getElem?_eq_getElem hlt
     obtain ⟨g,o,rfl⟩:=HA.out.addr ha;obtain ⟨hg,A',ca',h8,hkv⟩:=HA.out.kidAt hbel ha;have HM:=qf ha;have hwq:wrap64 (q - 1)=q - 1:=IntWalk.wrap64_in _ qoq;have HC:=qf (fun ob=>HI.out (q - 1) (by have:=HQD.out;omega) (t.kZ[i]'hlt) (HT.out.kid ha) (wr.alloc ob) (fun _=>True) A' ca' (hkv.kept (Kept.of_below (qb.alloc qd ob))) B qqc (HS.out.later hB (hbel.alloc hbel.size ob)));generalize t.kZ[i]'hlt=x at*;unfold At8 at h8;unfold tv at HC;obtain ⟨q0,q1,q2,q3,q4,q5,q6,q7⟩:=h8;clear hkv ha;cases hp:lQ d x with
     |true=>
      rw [hp] at HC;have HH:=qf hp;clear hp;go_wp2_with fail;refine .mono qrE ?_;rintro e w3 ⟨rfl,b3⟩;have hb1:=qfA;clear b3 q0 q1 q2 q3 q4 q5 q6 q7;exact qjc
     |false=>
      rw [hp] at HC;have HH:=qf (KQ HM.out hp);clear hp;go_wp2_with fail;refine .mono qrE ?_;rintro e w3 ⟨rfl,b3⟩;have hb1:=qfA;clear b3 q0 q1 q2 q3 q4 q5 q6 q7;go_wp2_with fail;go_ret;exact ⟨aK (by rw [HH.out];rfl),hb1⟩
    ·have hii:i=t.kZ.length:=by omega
     subst hii;have HH:=qf (GR HN.out);go_wp2_with fail;go_ret;exact ⟨aK (by rw [HH.out];rfl),hbel⟩
theorem sY:∀d,d<=1000->uE d
 |0,_=>Be
 |d+1,h=>CO qoq (sY d qoq)
def bz (t:Tr):Bool:=(t.kY !=6)&&lQ 16 t
theorem jm (t:Tr) (ht:Wid t) (w:Z3) (P:Nat->Prop) (A:Option Addr) (ca:Nat) (hA:KV w P t A) (B:Nat) (hB:B<=w.heap.size) (hS:bh B B w):
 Calls ZW 132 #[tv t A ca] w fun e w'=>e=ZX (.bool (bz t))/\Z2 w.heap.size w w':=by
 have H:=qf (fun ob=>sY 16 qnv 16 rfl t ht (w.alloc ob) P A ca (hA.kept (Kept.of_below (qb.alloc qd ob))) B qnu (hS.later hB (qb.alloc qd ob)));have hlen:=qfz;unfold maxLen at hlen;unfold tv at*;unfold bz;clear hA hS;cases h6:(t.kY !=6) with
 |true=>
  go_enter func132,ntmps132;go_wp2_with fail;refine .mono qrz ?_;rintro e w1 ⟨rfl,b1⟩;have h1:=qab;clear b1;go_wp2_with fail;go_ret;exact ⟨aK (Bool.true_and _).symm,h1⟩
 |false=>
  go_enter func132,ntmps132;exact qir
mutual
def br:Tr->Nat
 |.mk _ _ _ _ _ _ _ ks=>bU ks+1
def bU:List Tr->Nat
 |[]=>0
 |t::ts=>br t+bU ts
end
theorem sS (m:Nat) (t:Tr) (s:List UInt8):(txW m t s).length<=s.length+2:=by
 unfold txW;split<;>simp
theorem zb:∀(l:List (List UInt8)) (B:Nat),(l.map List.length).sum<=B->(txJ l).length<=B+l.length+1
 |[],B,_=>by simp [txJ]
 |[s],B,h=>by simp [txJ] at*;omega
 |s::t::r,B,h=>by
  rw [txJ];have h':s.length+((t::r).map List.length).sum<=B:=qoA;have:=zb (t::r) (B - s.length) qoq;simp only [List.length_append,List.length_cons] at*;omega
theorem lU (c r:Int):(am c r).length<=100:=by
 unfold am;by_cases h:rightB c r=Zy
 ·rw [if_pos h]
  obtain ⟨_,_,r0,r1⟩:=(bp c r).1 h;have:=Lib.itoa_length_le (r+1) qoq qoq;simp;omega
 ·rw [if_neg h];simp
theorem Mq {t:Tr} (hf:Fit t):ay t=Zy->(txT t).length+10<=250*br t:=by
 induction hf with
 |@mk k n c r d s w ks hn hk ih=>
  intro h;rw [ay] at h;rw [txT,br];by_cases h0:k=0
  ·rw [if_pos h0]
   have:=ij n.toNat qoq;omega
  rw [if_neg h0] at h ⊢;by_cases h1:k=1
  ·rw [if_pos h1]
   have:=lU c r;omega
  rw [if_neg h1] at h ⊢;by_cases h6:k=6
  ·rw [if_pos h6]
   have:=lU c r;have:=lU d s;simp only [List.length_append,List.length_cons];omega
  rw [if_neg h6] at h ⊢;by_cases h2:k=2
  ·rw [if_neg qoq,if_neg qoq,if_neg qoq]
   simp
   omega
  rw [if_neg h2] at h;by_cases h3:k=3
  ·subst h3
   rw [if_pos rfl] at h ⊢;simp [aR] at h
   obtain ⟨⟨_,_,_,hl⟩,ha⟩:=h;obtain ⟨a,rfl⟩:=List.length_eq_one_iff.1 hl;have A:=qht;have:=ih a qns A.1;rw [cx,dU];have hw:=sS 4 a (txT a);simp only [List.getD_cons_zero,List.length_cons,bU];omega
  rw [if_neg h3] at h ⊢;by_cases h4:k=4
  ·subst h4
   rw [if_pos rfl] at h ⊢;simp [aR] at h
   obtain ⟨⟨_,_,hl⟩,ha,hw⟩:=h
   obtain ⟨a,b,rfl⟩:∃a b,ks=[a,b]:=by
    match ks,hl with
    |[a,b],_=>exact ⟨a,b,rfl⟩
   have A:=qht;have B:=fs ha b qns;have:=ih a qns A.1;have:=ih b qns B.1;rw [cx,cx,dU];have hwa:=sS (lvl w) a (txT a);have hwb:=sS (lvl w+1) b (txT b);have hwl:w.length<=2:=(by rcases fK hw with e|e|e|e|e|e|e|e|e|e<;>rw [e]<;>decide);simp only [List.getD_cons_zero,List.getD_cons_succ,List.length_append,bU];omega
  rw [if_neg h4] at h ⊢;by_cases h5:k=5
  ·subst h5
   rw [if_pos rfl] at h ⊢;rw [Bool.and_eq_true,Bool.and_eq_true] at h;obtain ⟨_,ha,hif⟩:=h;have M:=fs ha
   have hwl:w.length<=5:=by
    by_cases e:w=[73,70]
    ·rw [e];decide
    ·rw [if_neg e] at hif
     split at hif
     ·rename_i hc
      rcases hc with e|e|e|e<;>rw [e]<;>decide
     ·cases hif
   have hs:∀(l:List Tr),(∀t∈l,(txT t).length+10<=250*br t)->((txL l).map List.length).sum+10*l.length<=250*bU l/\(txL l).length=l.length:=by
    intro l;induction l with
    |nil=>intro _;rw [dU,bU];simp
    |cons u r ihr=>
     intro hu;have h1:=hu u qns;have h2:=ihr fun t ht=>hu t (by simp [ht])
     rw [cx,bU];simp only [List.map_cons,List.sum_cons,List.length_cons];omega
   have hk2:=hs ks fun t ht=>ih t ht (M t ht).1
   have:=zb (txL ks) _ qd;simp only [List.length_append,List.length_cons];omega
  rw [if_neg h5] at h;cases h
