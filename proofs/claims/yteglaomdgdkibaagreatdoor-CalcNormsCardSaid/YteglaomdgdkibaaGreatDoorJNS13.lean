import Derived.Test.YteglaomdgdkibaaGreatDoorJNS06
import Derived.Test.YteglaomdgdkibaaGreatDoorJQNSP
import Derived.Test.YteglaomdgdkibaaGreatDoorJQNSW
import Derived.Test.YteglaomdgdkibaaGreatDoorJQNSX
set_option linter.all false
set_option maxHeartbeats 0
set_option maxRecDepth 99999
namespace Go.Proofs.YteglaomdgdkibaaGreatDoor
open Go.RowKit
open Value renaming int→ZZ,pointer→Zv
open IntKind renaming i64→ZY
open Ending renaming returned→ZX
open RowKit renaming Below→Z2
open Go renaming World→Z3
open Tryz
open Tryz renaming prog→ZW
open Option renaming some→ZV,none→ZU
open Bool renaming false→Zz,true→Zy
variable {t:Tr}{E R cap d m:Nat}{L:List Tok}{w:World}{A:Option Addr}
theorem rdeep_any:∀(d:Nat) (t:Tr),aG t<=d->d<=1000000000->Wid t->∀(w:Z3) (P:Nat->Prop) (A:Option Addr) (cap:Nat),KV w P t A->
 Calls ZW 88 #[tv t A cap] w fun e w'=>e=ZX (ZZ ZY (aG t:Int))/\Z2 w.heap.size w w':=by
 intro d;induction d with
 |zero=>intro t h;rw [gM] at h;omega
 |succ d ih=>
  intro t hd hb hw w P A cap hk;unfold tv;have hlen:=hw.len;unfold maxLen at hlen;have HW:=qf hw;have HK:=qfq;have HI:=qf ih;have HE:=qf (gM t);have hdl:=qfP;clear hk hd ih hw;go_enter func88,ntmps88;go_wp2_with fail;go_loopw [3,4] (fun vn vi wr=>∃i:Nat,i<=t.kZ.length/\vn=ZZ ZY (aV (t.kZ.take i):Int)/\vi=ZZ ZY (i:Int)/\Z2 w.heap.size w wr/\w.heap.size<wr.heap.size/\wr.cell? ⟨w.heap.size,7,ZU⟩=ZV (.slice A t.kZ.length cap)) (fun _ vi _=>t.kZ.length - (RowKit.intOf vi).toNat)
  case atStart=>exact ⟨0,qe,(by rw [List.take_zero,aV];rfl),rfl,qa,qns,qnp⟩
  case round=>
   obtain ⟨i,hi,rfl,rfl,hbel,hsz,c7⟩:=hrel;have htl:=ke t.kZ i;by_cases hlt:i<t.kZ.length
   ·have hu:t.kZ[i]? =ZV (t.kZ[i]'hlt):=List.getElem?_eq_getElem hlt
    obtain ⟨g,o,rfl⟩:=HK.out.addr hu;obtain ⟨hg,A',cap',h8,hkv⟩:=HK.out.kidAt hbel hu;have htk:=qf (tM hu);have hdu:=jF hu;have HC:=qf (HI.out _ (Nat.le_trans hdu hdl) qoq (HW.out.kid hu) wr _ A' cap' hkv);generalize t.kZ[i]'hlt=u at*;unfold At8 at h8;unfold tv at HC;obtain ⟨q0,q1,q2,q3,q4,q5,q6,q7⟩:=h8;clear hkv hu;go_wp2_with fail;refine HC.out.mono ?_;rintro e w1 ⟨rfl,b1⟩;have e7:=aa b1 c7;have s7:w.heap.size<w1.heap.size:=Nat.lt_of_lt_of_le hsz b1.size;have hb1:=qgb;clear b1 c7 q0 q1 q2 q3 q4 q5 q6 q7;go_wp2_with fail;go_roundw
    case rel=>exact ⟨i+1,qoq,(by rw [htk.out];congr 1;omega),qnG,hb1,s7,e7⟩
    case measure=>exact qmy
   ·have hii:i=t.kZ.length:=by omega
    exact qkr
theorem IU (t:Tr) (A:Option Addr) (cap:Nat) (n:Int) (w:Z3) (B0 N0 B1 B6 AT B4 B5 W0 LN:Bool) (h0:(t.kY==0)=B0) (hn:(t.num==0)=N0) (h1:(t.kY==1)=B1) (h6:(t.kY==6)=B6)
 (hA:∀W,(binOp .eql 30 (.agg #[ZZ ZY t.c1,ZZ ZY t.r1,ZZ ZY t.c2,ZZ ZY t.r2]) (.agg #[ZZ ZY 0,ZZ ZY 0,ZZ ZY 0,ZZ ZY 0])).run ZW W=.ok (.bool AT) W)
 (h4:(t.kY==4)=B4) (h5:(t.kY==5)=B5) (hw:(t.wZ==[])=W0) (hl:((t.kZ.length:Int)==n)=LN):
 Calls ZW 159 #[.agg (Ku.k t A cap),ZZ ZY n] w fun e w'=>e=ZX (.bool ((B0 || N0)&&((B1 || (B6 || AT))&&((B4 || (B5 || W0))&&LN))))/\Z2 w.heap.size w w':=by
 have hG:=fun op X Y W=>kL op X Y #[ZZ ZY t.c1,ZZ ZY t.r1,ZZ ZY t.c2,ZZ ZY t.r2] #[ZZ ZY 0,ZZ ZY 0,ZZ ZY 0,ZZ ZY 0] W
 cases B0 with
 |true=>
  exact qjI
 |false=>
  cases N0 with
  |true=>
   exact qjI
  |false=>
   exact qin
theorem kA (t:Tr) (A:Option Addr) (cap n:Nat) (w:Z3):
 Calls ZW 159 #[tv t A cap,ZZ ZY (n:Int)] w fun e w'=>e=ZX (.bool (aR t n))/\Z2 w.heap.size w w':=by
 refine (IU t A cap (n:Int) w _ _ _ _ _ _ _ _ _ rfl rfl rfl rfl (fun W=>Fh _ _ _ _ _ _ _ _ W) rfl rfl rfl rfl).mono fun e w' ⟨he,hb⟩=>⟨he.trans (aK ?_),hb⟩
 cases t with
 |mk k num c r d s wd ks=>
  unfold aR;simp only [Tr.kY,Tr.num,Tr.c1,Tr.r1,Tr.c2,Tr.r2,Tr.wZ,Tr.kZ];have e:((ks.length:Int)==(n:Int))=(ks.length==n):=(by rw [Bool.eq_iff_iff,beq_iff_eq,beq_iff_eq];omega);rw [e];simp only [Bool.or_assoc,Bool.and_assoc]
def vH (x:Tr) (spans corners:Bool):Bool:=ay x&&((spans || x.kY !=6)&&(!corners || x.kY==6 || x.kY==2))
theorem j7 (t:Tr) (ts:List Tr) (a b:Bool):be (t::ts) a b=(vH t a b&&be ts a b):=by rw [be];rfl
theorem zI (a b:Bool):be [] a b=Zy:=by rw [be]
theorem wP:∀(ks:List Tr) (u:Tr) (a b:Bool),be (ks++[u]) a b=(be ks a b&&vH u a b)
 |[],u,a,b=>by simp only [List.nil_append];rw [j7,zI,Bool.and_true,Bool.true_and]
 |t::ts,u,a,b=>by simp only [List.cons_append];rw [j7,j7,wP ts u a b,Bool.and_assoc]
theorem Jb {ks:List Tr} {i:Nat} {u:Tr} {a b:Bool} (h:ks[i]? =ZV u) (ha:be (ks.take i) a b=Zy) (hu:vH u a b=Zy):be (ks.take (i+1)) a b=Zy:=by
 rw [List.take_add_one,h];exact (wP _ _ _ _).trans (by rw [ha,hu];rfl)
theorem yK:∀{ks:List Tr} {i:Nat} {u:Tr} {a b:Bool},ks[i]? =ZV u->vH u a b=Zz->be ks a b=Zz
 |[],i,u,a,b,h,_=>by simp at h
 |t::ts,0,u,a,b,h,hu=>by simp at h;subst h;rw [j7,hu,Bool.false_and]
 |t::ts,i+1,u,a,b,h,hu=>by rw [j7,yK (ks:=ts) (i:=i) qoA hu,Bool.and_false]
theorem El (h:aG t<=d+1):aV t.kZ<=d:=by rw [gM] at h;omega
def kE (d:Nat):Prop:=∀(t:Tr),aG t<=d->Wid t->∀(w:Z3) (P:Nat->Prop) (A:Option Addr) (cap:Nat),KV w P t A->
 Calls ZW 110 #[tv t A cap] w fun e w'=>e=ZX (.bool (ay t))/\Z2 w.heap.size w w'
theorem GC (ih:kE d) (t:Tr) (hd:aV t.kZ<=d) (hw:Wid t) (a b:Bool) (w:Z3) (P:Nat->Prop) (A:Option Addr) (cap:Nat) (hk:KV w P t A):
 Calls ZW 161 #[tv t A cap,.bool a,.bool b] w fun e w'=>e=ZX (.bool (be t.kZ a b))/\Z2 w.heap.size w w':=by
 unfold tv;have hlen:=hw.len;unfold maxLen at hlen;have HW:=qf hw;have HK:=qfq;have HI:=qf ih;clear hk ih hw;go_enter func161,ntmps161;go_wp2_with fail;go_loopw [7] (fun vi wr=>∃i:Nat,i<=t.kZ.length/\vi=ZZ ZY (i:Int)/\Hid (be (t.kZ.take i) a b=Zy)/\Z2 w.heap.size w wr/\w.heap.size<wr.heap.size/\wr.cell? ⟨w.heap.size,7,ZU⟩=ZV (.slice A t.kZ.length cap)) (fun vi _=>t.kZ.length - (RowKit.intOf vi).toNat)
 case atStart=>exact ⟨0,qe,rfl,qf (by rw [List.take_zero];exact zI _ _),qa,qns,qnp⟩
 case round=>
  obtain ⟨i,hi,rfl,HTK,hbel,hsz,c7⟩:=hrel;by_cases hlt:i<t.kZ.length
  ·have hu:t.kZ[i]? =ZV (t.kZ[i]'hlt):=List.getElem?_eq_getElem hlt
   obtain ⟨g,o,rfl⟩:=HK.out.addr hu;obtain ⟨hg,A',cap',h8,hkv⟩:=HK.out.kidAt hbel hu;have HTE:=qf fun e=>Jb (a:=a) (b:=b) hu HTK.out e
   have HTB:=qf fun e=>yK (a:=a) (b:=b) hu e
   have hdu:=Nat.le_trans (jF hu) hd;have hwu:=HW.out.kid hu;generalize t.kZ[i]'hlt=x at*;have HC:=qf (HI.out x hdu hwu (wr.alloc (.cells (Ku.k x A' cap') 33)) _ A' cap' (hkv.kept (Kept.alloc (Kept.refl _ _) _)));unfold At8 at h8;unfold tv at HC;obtain ⟨q0,q1,q2,q3,q4,q5,q6,q7⟩:=h8;have HKB:Hid (vH x a b=(ay x&&((a || x.kY !=6)&&(!b || x.kY==6 || x.kY==2)))):=qf rfl;clear hkv hu hdu hwu;go_wp2_with fail;refine HC.out.mono ?_;rintro e w1 ⟨rfl,b1⟩;have e7:=aa b1 (p:=⟨w.heap.size,7,ZU⟩) (ai c7 _);have e0:=af b1 0 (v:=ZZ ZY x.kY) rfl;have s7:w.heap.size<w1.heap.size:=qpI;have hb1:=qfy;clear b1 c7 q0 q1 q2 q3 q4 q5 q6 q7;generalize ay x=M at*;cases M with
   |false=>
    have HF:=qf (HTB.out (by rw [HKB.out];rfl));exact qjm
   |true=>
    have m6:(x.kY !=6)= !(x.kY==6):=rfl;have m2:(x.kY !=2)= !(x.kY==2):=rfl;cases h6:(x.kY==6) with
    |true=>
     rw [h6] at m6;cases a with
     |false=>
      have HF:=qf (HTB.out (by rw [HKB.out,m6];rfl));exact qjm
     |true=>
      cases b with
      |false=>
       have HG:=qgA;exact qiH
      |true=>
       have HG:=qf (HTE.out (by rw [HKB.out,m6,h6];rfl));exact qiH
    |false=>
     rw [h6] at m6;cases b with
     |false=>
      cases a with
      |false=>
       have HG:=qgA;exact qiH
      |true=>
       have HG:=qgA;exact qiH
     |true=>
      cases h2:(x.kY==2) with
      |true=>
       rw [h2] at m2;cases a with
       |false=>
        exact qlT
       |true=>
        exact qlT
      |false=>
       rw [h2] at m2;cases a with
       |false=>
        exact qlU
       |true=>
        exact qlU
  ·have hii:i=t.kZ.length:=by omega
   subst hii;have hz:be t.kZ a b=Zy:=(by have:=HTK.out;rwa [List.take_length] at this);have HZ:=qf hz;clear hz;go_wp2_with fail;go_ret;exact ⟨by rw [HZ.out];rfl,hbel⟩
inductive St where
 |run (p:Nat)
 |out (x:Nat)
abbrev Got:=St×Option Tr
def toS:Option Res->Option Got
 |none=>ZU
 |some (.ok t q)=>ZV (.run q,ZV t)
 |some (.bad x)=>ZV (.out x,ZU)
def goS (f:Nat->Option Res):St->Option Got
 |.out x=>ZV (.out x,ZU)
 |.run p=>toS (f p)
def cj (L:List Tok) (E:Nat) (s:List UInt8):St->St
 |.out x=>.out x
 |.run p=>if ag L p s=Zy then .run (p+1) else .out (whr L E p)
def fF (L:List Tok) (m:Nat) (s:List UInt8):St->Bool
 |.out _=>Zz
 |.run p=>ag L (p+m) s
def eK (L:List Tok):St->Nat
 |.out _=>0
 |.run p=>aJ L p
def iE (L:List Tok):St->Bool
 |.out _=>Zz
 |.run p=>aB L p
def Km (L:List Tok) (E:Nat):St->St
 |.out x=>.out x
 |.run p=>.out (whr L E p)
theorem fR {a:Option Res} {f:Tr->Nat->Option Res} {g:Got} (h:toS (Res.next a f)=ZV g):
 (∃t q,toS a=ZV (.run q,ZV t)/\toS (f t q)=ZV g)\/(∃x,toS a=ZV (.out x,ZU)/\g=(.out x,ZU)):=by
 cases a with
 |none=>cases h
 |some r=>
  cases r with
  |ok t q=>exact .inl ⟨t,q,rfl,h⟩
  |bad x=>exact .inr ⟨x,rfl,(Option.some.inj h).symm⟩
theorem jG {p:Nat} {s:List UInt8} {f:Nat->Option Res} {g:Got} (h:toS (az L E p s f)=ZV g):
 (∃q,cj L E s (.run p)=.run q/\toS (f q)=ZV g)\/(∃x,cj L E s (.run p)=.out x/\g=(.out x,ZU)):=by
 unfold az at h;by_cases hm:ag L p s=Zy
 ·rw [if_pos hm] at h
  exact .inl ⟨p+1,if_pos hm,h⟩
 ·rw [if_neg hm] at h
  exact .inr ⟨whr L E p,if_neg hm,(Option.some.inj h).symm⟩
def RS (w:Z3) (R:Nat) (A:Option Addr) (cap:Nat) (L:List Tok) (E:Nat):St->Prop
 |.run p=>p<=L.length/\∃x:Int,RC w R A cap L E (p:Int) Zz x
 |.out x=>∃p:Int,RC w R A cap L E p Zy (x:Int)
theorem RS.below {w':Z3} {st:St} (h:RS w R A cap L E st) (hb:Z2 w.heap.size w w'):RS w' R A cap L E st:=by
 cases st with
 |run p=>obtain ⟨hp,x,h⟩:=h;exact ⟨hp,x,h.below hb⟩
 |out x=>obtain ⟨p,h⟩:=h;exact ⟨p,h.below hb⟩

theorem Ft {p x:Int} (m:Int) (s:ByteArray) (h:RC w R A cap L E p Zy x):
 Calls ZW 193 #[Zv (ZV ⟨R,0,ZU⟩),ZZ ZY m,.string s] w fun e w'=>e=ZX (.bool Zz)/\Z2 w.heap.size w w':=by
 have c3:=h.c3;clear h;go_enter func193,ntmps193;go_wp2_with fail;go_quiet (fail)
 go_wp2_with fail;go_ret;exact ⟨rfl,below_drewN qb _⟩
theorem FK {p:Nat} {x:Int} (s:ByteArray) (_hL:L.length<=1000) (hp:p<=1000) (hm:m<=1) (h:RC w R A cap L E p Zz x) (ho:¬p+m<L.length):
 Calls ZW 193 #[Zv (ZV ⟨R,0,ZU⟩),ZZ ZY (m:Int),.string s] w fun e w'=>e=ZX (.bool Zz)/\Z2 w.heap.size w w':=by
 obtain ⟨c0,c1,c3⟩:=qeo;have d1:decide ((p:Int)+(m:Int)<(L.length:Int))=Zz:=decide_eq_false qoq;clear h ho;go_enter func193,ntmps193;go_wp2_with fail;go_quiet (fail)
 go_wp2_with fail;go_ret;exact ⟨rfl,below_drewN qb _⟩
theorem JL {p:Nat} {x:Int} (s:ByteArray) (hL:L.length<=1000) (hp:p<=1000) (hm:m<=1) (h:RC w R A cap L E p Zz x) (hk:TK w R A L) {t:Tok} (ht:L[p+m]? =ZV t):
 Calls ZW 193 #[Zv (ZV ⟨R,0,ZU⟩),ZZ ZY (m:Int),.string s] w fun e w'=>e=ZX (.bool (t.kY==5&&t.text==s.data.toList))/\Z2 w.heap.size w w':=by
 obtain ⟨c0,c1,c3⟩:=qeo;obtain ⟨g,rfl,_,_,k0,_,_,_,k4,_⟩:=hk.at ht;have hlt:p+m<L.length:=(List.getElem?_eq_some_iff.1 ht).1;have d1:decide ((p:Int)+(m:Int)<(L.length:Int))=Zy:=decide_eq_true qoq;have hT:(t.text==s.toList)=(t.text==s.data.toList):=(by rw [ByteArray.toList_eq]);clear h hk ht;cases h5:(t.kY==5) with
 |false=>
  go_enter func193,ntmps193;exact qjz
 |true=>
  go_enter func193,ntmps193;go_wp2_with fail;go_quiet (fail)
  go_wp2_with fail;go_ret;exact ⟨aK (Bool.true_and _).symm,below_drewN qb _⟩
theorem eT {st:St} (s:ByteArray) (hL:L.length<=1000) (hm:m<=1) (h:RS w R A cap L E st) (hk:TK w R A L):
 Calls ZW 193 #[Zv (ZV ⟨R,0,ZU⟩),ZZ ZY (m:Int),.string s] w fun e w'=>e=ZX (.bool (fF L m s.data.toList st))/\Z2 w.heap.size w w':=by
 cases st with
 |out x=>obtain ⟨p,h⟩:=h;exact Ft _ s h
 |run p=>
  obtain ⟨hp,x,h⟩:=h;by_cases ho:p+m<L.length
  ·have ht:L[p+m]? =ZV (L[p+m]'ho):=List.getElem?_eq_getElem ho
   refine (JL s hL qoq hm h hk ht).mono fun e w' ⟨he,hb⟩=>⟨he.trans (aK ?_),hb⟩
   show _=ag L (p+m) s.data.toList
   unfold ag;rw [ht]
  ·refine (FK s hL qoq hm h ho).mono fun e w' ⟨he,hb⟩=>⟨he.trans (aK ?_),hb⟩
   show _=ag L (p+m) s.data.toList
   unfold ag;rw [List.getElem?_eq_none qoq]
theorem EO {p x:Int} (h:RC w R A cap L E p Zy x):
 Calls ZW 87 #[Zv (ZV ⟨R,0,ZU⟩)] w fun e w'=>e=ZX (.tuple #[])/\w=w':=by
 have c3:=h.c3;clear h;go_enter func87,ntmps87;go_wp2_with fail;refine bodyPost_ret (results_none rfl _ _ _) rfl ?_;exact ⟨rfl,rfl⟩
theorem FY {p:Nat} {x:Int} (h:RC w R A cap L E p Zz x) (ho:¬p<L.length):
 Calls ZW 87 #[Zv (ZV ⟨R,0,ZU⟩)] w fun e w'=>e=ZX (.tuple #[])/\RC w' R A cap L E p Zy E/\But R w w':=by
 obtain ⟨c0,c1,c2,c3,c4,f1,f3,f4⟩:=qdd;have hR:=h.lt;have d1:decide (p<L.length)=Zz:=decide_eq_false ho;clear h ho;go_enter func87,ntmps87;go_wp2_with fail;go_quiet (fail)
 go_wp2_with fail;go_end0
 exact ⟨rfl,⟨qpk,qpl,qrf,qrg,qrh,qpm,qri,qrj⟩,(((But.refl _ _).setR _ _).setR _ _).drewN _⟩
theorem G3 {p:Nat} {x:Int} (_hL:L.length<=1000) (h:RC w R A cap L E p Zz x) (hk:TK w R A L) {t:Tok} (ht:L[p]? =ZV t):
 Calls ZW 87 #[Zv (ZV ⟨R,0,ZU⟩)] w fun e w'=>e=ZX (.tuple #[])/\RC w' R A cap L E p Zy (t.frm:Int)/\But R w w':=by
 obtain ⟨c0,c1,c2,c3,c4,f1,f3,f4⟩:=qdd;have hR:=h.lt;obtain ⟨g,rfl,hg,_,_,_,_,_,_,k5⟩:=hk.at ht;have hlt:=qfC;have d1:decide (p<L.length)=Zy:=decide_eq_true hlt;clear h hk ht;go_enter func87,ntmps87;go_wp2_with fail;go_quiet (fail)
 go_wp2_with fail;go_region
 all_goals
  go_wp2_with fail;go_end0
  exact ⟨rfl,⟨qpk,qpl,qrf,qrg,World.cell?_setCell_same _ _ _ (u:=ZZ ZY (E:Int)) (by rw [World.cell?_drewN];exact World.cell?_setCell_same _ _ _ (u:=ZZ ZY x) qrh),qpm,qri,qrj⟩,by
   repeat' (first|(with_reducible exact But.refl _ _)|(with_reducible refine But.drewN ?_ _)|(with_reducible refine But.setR ?_ _ _)|(with_reducible refine But.drew ?_))⟩
theorem eA {st:St} (hL:L.length<=1000) (h:RS w R A cap L E st) (hk:TK w R A L):
 Calls ZW 87 #[Zv (ZV ⟨R,0,ZU⟩)] w fun e w'=>e=ZX (.tuple #[])/\RS w' R A cap L E (Km L E st)/\But R w w':=by
 cases st with
 |out x=>
  obtain ⟨p,h⟩:=h;exact (EO h).mono fun e w' ⟨he,hw⟩=>⟨he,hw▸⟨p,h⟩,hw▸But.refl _ _⟩
 |run p=>
  obtain ⟨hp,x,h⟩:=h;by_cases ho:p<L.length
  ·have ht:L[p]? =ZV (L[p]'ho):=List.getElem?_eq_getElem ho
   refine (G3 hL h hk ht).mono fun e w' ⟨he,hr,hb⟩=>⟨he,⟨p,?_⟩,hb⟩
   have e1:whr L E p=(L[p]'ho).frm:=(by unfold whr;rw [ht]);rw [e1];exact hr
  ·refine (FY h ho).mono fun e w' ⟨he,hr,hb⟩=>⟨he,⟨p,?_⟩,hb⟩
   have e1:whr L E p=E:=(by unfold whr;rw [List.getElem?_eq_none qoq]);rw [e1];exact hr
theorem RC.step {p:Nat} {x:Int} (h:RC w R A cap L E (p:Int) Zz x) {v:Int} (hv:v=((p+1:Nat):Int)):RC (w.setCell ⟨R,1,ZU⟩ (ZZ ZY v)) R A cap L E ((p+1:Nat):Int) Zz x:=by
 subst hv;obtain ⟨c0,c1,c2,c3,c4,f1,f3,f4⟩:=qdd;exact ⟨qpk,qpl,qrf,qrg,qrh,qpm,qri,qrj⟩
theorem eU {st:St} (s:ByteArray) (hL:L.length<=1000) (h:RS w R A cap L E st) (hk:TK w R A L):
 Calls ZW 238 #[Zv (ZV ⟨R,0,ZU⟩),.string s] w fun e w'=>e=ZX (.tuple #[])/\RS w' R A cap L E (cj L E s.data.toList st)/\But R w w':=by
 have H1:=eT (m:=0) s hL qoq h hk;cases hm:fF L 0 s.data.toList st with
 |true=>
  rw [hm] at H1;have HM:=qf H1
  have hst:∃p,st=.run p:=by
   cases st with
   |run p=>exact ⟨p,rfl⟩
   |out x=>cases hm
  obtain ⟨p,rfl⟩:=hst;have hm':ag L p s.data.toList=Zy:=hm;have hlt:=fu hm';have e1:cj L E s.data.toList (.run p)=.run (p+1):=if_pos hm';obtain ⟨hp,x,hc⟩:=h;have HC:=qgx;have HE:=qf e1;clear H1 hm hm' hk e1 hc;go_enter func238,ntmps238;go_wp2_with fail;refine HM.out.mono ?_;rintro e w1 ⟨rfl,b1⟩;have HC1:=qf (HC.out.below b1);have c1:=HC1.out.c1;have f1:=HC1.out.f1;go_wp2_with fail;go_end0
  exact ⟨rfl,(by rw [HE.out];exact ⟨by omega,x,HC1.out.step qoq⟩),(But.of_below b1).setR _ _⟩
 |false=>
  rw [hm] at H1;have HM:=qf H1
  have e1:cj L E s.data.toList st=Km L E st:=by
   cases st with
   |out x=>rfl
   |run p=>exact if_neg (by rw [show ag L p s.data.toList=Zz from hm];decide)
  have HE:=qf e1;have HH:=qf (And.intro h hk);clear H1 hm hk h e1;go_enter func238,ntmps238;go_wp2_with fail;refine HM.out.mono ?_;rintro e w1 ⟨rfl,b1⟩;have HF:=qf (eA hL (HH.out.1.below b1) (HH.out.2.but (But.of_below b1)));go_wp2_with fail;refine HF.out.mono ?_;rintro e w2 ⟨rfl,r2,b2⟩;have HR:=qf r2;clear r2;go_wp2_with fail;refine bodyPost_ret (results_none rfl _ _ _) rfl ?_;exact ⟨rfl,(by rw [HE.out];exact HR.out),(But.of_below b1).trans b2⟩
theorem FG (s:ByteArray) (w:Z3) (b:List Bool) (n:Nat) (hb:b.length=10) (hn:n=if b.getD 0 Zz || b.getD 1 Zz || b.getD 2 Zz || b.getD 3 Zz || b.getD 4 Zz || b.getD 5 Zz then 1 else if b.getD 6 Zz || b.getD 7 Zz then 2 else if b.getD 8 Zz || b.getD 9 Zz then 3 else 0)
 (h0:(s.toList==[60])=b.getD 0 Zz)
 (h1:(s.toList==[60,61])=b.getD 1 Zz)
 (h2:(s.toList==[61])=b.getD 2 Zz)
 (h3:(s.toList==[60,62])=b.getD 3 Zz)
 (h4:(s.toList==[62,61])=b.getD 4 Zz)
 (h5:(s.toList==[62])=b.getD 5 Zz)
 (h6:(s.toList==[43])=b.getD 6 Zz)
 (h7:(s.toList==[45])=b.getD 7 Zz)
 (h8:(s.toList==[42])=b.getD 8 Zz)
 (h9:(s.toList==[47])=b.getD 9 Zz):
 Calls ZW 141 #[.string s] w fun e w'=>e=ZX (ZZ ZY (n:Int))/\w=w':=by
 match b,hb with
 |[b0,b1,b2,b3,b4,b5,b6,b7,b8,b9],_=>
  simp only [List.getD_cons_zero,List.getD_cons_succ] at*;cases b0 with
  |true=>
   exact qiE
  |false=>
   cases b1 with
   |true=>
    exact qiE
   |false=>
    cases b2 with
    |true=>
     exact qiE
    |false=>
     cases b3 with
     |true=>
      exact qiE
     |false=>
      cases b4 with
      |true=>
       exact qiE
      |false=>
       cases b5 with
       |true=>
        exact qiE
       |false=>
        cases b6 with
        |true=>
         exact qiE
        |false=>
         cases b7 with
         |true=>
          exact qiE
         |false=>
          cases b8 with
          |true=>
           exact qiE
          |false=>
           cases b9 with
           |true=>
            exact qiE
           |false=>
            exact qiE
theorem ma (s:ByteArray) (w:Z3):
 Calls ZW 141 #[.string s] w fun e w'=>e=ZX (ZZ ZY (lvl s.data.toList:Int))/\w=w':=by
 refine FG s w [s.toList==[60],s.toList==[60,61],s.toList==[61],s.toList==[60,62],s.toList==[62,61],s.toList==[62],s.toList==[43],s.toList==[45],s.toList==[42],s.toList==[47]] _ rfl ?_ rfl rfl rfl rfl rfl rfl rfl rfl rfl rfl;rw [ByteArray.toList_eq];unfold lvl;simp only [List.getD_cons_zero,List.getD_cons_succ,Bool.or_eq_true,beq_iff_eq,or_assoc]

theorem Ce {p x:Int} (h:RC w R A cap L E p Zy x):
 Calls ZW 137 #[Zv (ZV ⟨R,0,ZU⟩)] w fun e w'=>e=ZX (ZZ ZY 0)/\Z2 w.heap.size w w':=by
 have c3:=h.c3;clear h;go_enter func137,ntmps137;go_wp2_with fail;go_quiet (fail)
 go_wp2_with fail;go_ret;exact ⟨rfl,below_drewN qb _⟩
theorem BR {p:Nat} {x:Int} (h:RC w R A cap L E p Zz x) (ho:¬p<L.length):
 Calls ZW 137 #[Zv (ZV ⟨R,0,ZU⟩)] w fun e w'=>e=ZX (ZZ ZY 0)/\Z2 w.heap.size w w':=by
 obtain ⟨c0,c1,c3⟩:=qeo;have d1:=qhX;clear h ho;go_enter func137,ntmps137;go_wp2_with fail;go_quiet (fail)
 go_wp2_with fail;go_ret;exact ⟨rfl,below_drewN qb _⟩
theorem EV {p:Nat} {x:Int} (_hL:L.length<=1000) (h:RC w R A cap L E p Zz x) (hk:TK w R A L) {t:Tok} (ht:L[p]? =ZV t):
 Calls ZW 137 #[Zv (ZV ⟨R,0,ZU⟩)] w fun e w'=>e=ZX (ZZ ZY ((if t.kY=5 then lvl t.text else 0:Nat):Int))/\Z2 w.heap.size w w':=by
 obtain ⟨c0,c1,c3⟩:=qeo;obtain ⟨g,rfl,_,_,k0,_,_,_,k4,_⟩:=hk.at ht;have hlt:=qfC;have d1:decide (L.length<=p)=Zz:=decide_eq_false qoq;have HL:=qf (ma ⟨t.text.toArray⟩);clear h hk ht;by_cases h5:t.kY=5
 ·have d5:(t.kY !=5)=Zz:=by simpa using h5
  have e1:(⟨t.text.toArray⟩:ByteArray).data.toList=t.text:=qns;rw [e1] at HL;rw [if_pos h5];clear h5 e1;go_enter func137,ntmps137;go_wp2_with fail;go_quiet (fail)
  go_wp2_with fail;go_region_with ((go_at_call 141;refine (HL.out _).mono ?_;rintro e w1 ⟨rfl,rfl⟩))
  all_goals
   go_wp2_with fail;go_ret;exact ⟨rfl,below_drewN qb _⟩
 ·have d5:(t.kY !=5)=Zy:=by simpa using h5
  rw [if_neg h5];clear h5 HL;go_enter func137,ntmps137;exact qjz
theorem lE {st:St} (hL:L.length<=1000) (h:RS w R A cap L E st) (hk:TK w R A L):
 Calls ZW 137 #[Zv (ZV ⟨R,0,ZU⟩)] w fun e w'=>e=ZX (ZZ ZY (eK L st:Int))/\Z2 w.heap.size w w':=by
 cases st with
 |out x=>obtain ⟨p,h⟩:=h;exact Ce h
 |run p=>
  obtain ⟨hp,x,h⟩:=h;by_cases ho:p<L.length
  ·have ht:L[p]? =ZV (L[p]'ho):=List.getElem?_eq_getElem ho
   have e1:eK L (.run p)=if (L[p]'ho).kY=5 then lvl (L[p]'ho).text else 0:=(by show aJ L p=_;unfold aJ;rw [ht])
   rw [e1];exact EV hL h hk ht
  ·have e1:eK L (.run p)=0:=by show aJ L p=_;unfold aJ;rw [List.getElem?_eq_none qoq]
   rw [e1];exact BR h ho

theorem JK {p x:Int} (h:RC w R A cap L E p Zy x):
 Calls ZW 283 #[Zv (ZV ⟨R,0,ZU⟩)] w fun e w'=>e=ZX (.bool Zz)/\Z2 w.heap.size w w':=by
 have c3:=h.c3;clear h;go_enter func283,ntmps283;go_wp2_with fail;go_quiet (fail)
 go_wp2_with fail;go_ret;exact ⟨rfl,below_drewN qb _⟩
theorem G9 {p:Nat} {x:Int} (h:RC w R A cap L E p Zz x) (ho:¬p<L.length):
 Calls ZW 283 #[Zv (ZV ⟨R,0,ZU⟩)] w fun e w'=>e=ZX (.bool Zz)/\Z2 w.heap.size w w':=by
 obtain ⟨c0,c1,c3⟩:=qeo;have d1:decide (p<L.length)=Zz:=decide_eq_false ho;clear h ho;go_enter func283,ntmps283;go_wp2_with fail;go_quiet (fail)
 go_wp2_with fail;go_ret;exact ⟨rfl,below_drewN qb _⟩
theorem K9 {p:Nat} {x:Int} (_hL:L.length<=1000) (h:RC w R A cap L E p Zz x) (hk:TK w R A L) {t:Tok} (ht:L[p]? =ZV t):
 Calls ZW 283 #[Zv (ZV ⟨R,0,ZU⟩)] w fun e w'=>e=ZX (.bool (t.kY==2 || t.kY==3))/\Z2 w.heap.size w w':=by
 obtain ⟨c0,c1,c3⟩:=qeo;obtain ⟨g,rfl,_,_,k0,_,_,_,_,_⟩:=hk.at ht;have hlt:=qfC;have d1:decide (p<L.length)=Zy:=decide_eq_true hlt;clear h hk ht;cases h2:(t.kY==2) with
 |true=>
  go_enter func283,ntmps283;exact qjz
 |false=>
  go_enter func283,ntmps283;exact qjz
theorem ms {st:St} (hL:L.length<=1000) (h:RS w R A cap L E st) (hk:TK w R A L):
 Calls ZW 283 #[Zv (ZV ⟨R,0,ZU⟩)] w fun e w'=>e=ZX (.bool (iE L st))/\Z2 w.heap.size w w':=by
 cases st with
 |out x=>obtain ⟨p,h⟩:=h;exact JK h
 |run p=>
  obtain ⟨hp,x,h⟩:=h;by_cases ho:p<L.length
  ·have ht:L[p]? =ZV (L[p]'ho):=List.getElem?_eq_getElem ho
   have e1:iE L (.run p)=((L[p]'ho).kY==2 || (L[p]'ho).kY==3):=(by show aB L p=_;unfold aB;rw [ht]);rw [e1];exact K9 hL h hk ht
  ·have e1:iE L (.run p)=Zz:=by show aB L p=_;unfold aB;rw [List.getElem?_eq_none qoq]
   rw [e1];exact G9 h ho
theorem xJ:prog.eqGuardType prog.depth 28=Zz:=by kernel_rfl
theorem yl:prog.stoodInHeld 28=Zz:=by kernel_rfl
theorem wB:prog.underlying 28=ZV (.struct (prog.fieldsOf 28)):=by kernel_rfl
theorem wU (op:BinOp) (X Y:Operand) (xs ys:Array Value) (W:Z3):(eqGuard op 28 X Y (.agg xs) (.agg ys)).run ZW W=.ok () W:=run_eqGuard_agg W op 28 X Y xs ys xJ
theorem CH (a b a' b':Int) (W:Z3):(binOp .eql 28 (.agg #[ZZ ZY a,ZZ ZY b]) (.agg #[ZZ ZY a',ZZ ZY b'])).run ZW W=.ok (.bool (a==a'&&b==b')) W:=by
 rw [run_eql_struct,run_equalIn_agg W 9999 28 _ _ wB yl];by_cases h1:a=a'<;>by_cases h2:b=b'<;>simp [go_sem,h1,h2]
theorem O7 (h:t.kY=0):ay t=(aR t 0&&decide (0<=t.num)):=by
 cases t;simp only [Tr.kY] at h;subst h;rw [ay,if_pos rfl];rfl
theorem Ka (h:t.kY=1):ay t=(aR t 0&&(rightB t.c1 t.r1&&(t.c1==t.c2&&t.r1==t.r2))):=by
 cases t;simp only [Tr.kY] at h;subst h;rw [ay,if_neg qnv,if_pos rfl];rfl
theorem O2 (h:t.kY=2):ay t=aR t 0:=by
 cases t;simp only [Tr.kY] at h;subst h;rw [ay,if_neg qnv,if_neg qnv,if_pos rfl]
theorem O8 (h:t.kY=6):ay t=(aR t 0&&bW t.c1 t.r1 t.c2 t.r2):=by
 cases t;simp only [Tr.kY] at h;subst h;rw [ay,if_neg qnv,if_neg qnv,if_neg qnv,if_pos rfl];unfold bW;simp only [Tr.c1,Tr.r1,Tr.c2,Tr.r2,Bool.and_assoc];rfl
theorem Jq (h:t.kY=3):ay t=(aR t 1&&be t.kZ Zz Zz):=by
 cases t;simp only [Tr.kY] at h;subst h;rw [ay,if_neg qnv,if_neg qnv,if_neg qnv,if_neg qnv,if_pos rfl];rfl
theorem CG (h:t.kY=4):ay t=(aR t 2&&(be t.kZ Zz Zz&&decide (1<=lvl t.wZ))):=by
 cases t;simp only [Tr.kY] at h;subst h;rw [ay,if_neg qnv,if_neg qnv,if_neg qnv,if_neg qnv,if_neg qnv,if_pos rfl];rfl
theorem lN (h:t.kY=5):ay t=(aR t t.kZ.length&&(be t.kZ (t.wZ !=[73,70]) (t.wZ==[67,79,85,78,84])&&(if t.wZ=[73,70] then t.kZ.length==3 else if t.wZ=[83,85,77]\/t.wZ=[77,73,78]\/t.wZ=[77,65,88]\/t.wZ=[67,79,85,78,84] then decide (0<t.kZ.length) else Zz))):=by
 cases t;simp only [Tr.kY] at h;subst h;rw [ay,if_neg qnv,if_neg qnv,if_neg qnv,if_neg qnv,if_neg qnv,if_neg qnv,if_pos rfl];rfl
theorem FV (h0:t.kY≠0) (h1:t.kY≠1) (h2:t.kY≠2) (h6:t.kY≠6) (h3:t.kY≠3) (h4:t.kY≠4) (h5:t.kY≠5):ay t=Zz:=by
 cases t;simp only [Tr.kY] at*;rw [ay,if_neg h0,if_neg h1,if_neg h2,if_neg h6,if_neg h3,if_neg h4,if_neg h5]
theorem Ol (t:Tr) (w:Z3) (A:Option Addr) (cap:Nat) (h:t.kY=0):Calls ZW 110 #[tv t A cap] w fun e w'=>e=ZX (.bool (ay t))/\Z2 w.heap.size w w':=by
 unfold tv;have HO:=qfD;unfold tv at HO;have HM:=qf (O7 h);have s0:(t.kY==0)=Zy:=qoW;clear h;generalize aR t 0=O at*;obtain ⟨D,hD⟩:∃D,decide ((0:Int)<=t.num)=D:=⟨_,rfl⟩
 rw [hD] at HM;cases O
 all_goals
  cases D
  all_goals
   go_enter func110,ntmps110;go_wp2_with fail;refine .mono qrO ?_;rintro e w1 ⟨rfl,b1⟩;obtain ⟨k10,k11,k12,k13,k14,k15,k16⟩:=ql;have k17:=qbj;have h1:=qab;clear b1;go_wp2_with fail;go_ret;exact ⟨qoN,h1⟩
theorem Ou (t:Tr) (w:Z3) (A:Option Addr) (cap:Nat) (h:t.kY=1):Calls ZW 110 #[tv t A cap] w fun e w'=>e=ZX (.bool (ay t))/\Z2 w.heap.size w w':=by
 unfold tv;have HO:=qfD;unfold tv at HO;have HM:=qf (Ka h);have s0:(t.kY==0)=Zz:=qoW;have s1:(t.kY==1)=Zy:=qoW;clear h;generalize aR t 0=O at*;have HRt:=qf (er t.c1 t.r1);have hG:=fun op X Y W=>wU op X Y #[ZZ ZY t.c1,ZZ ZY t.r1] #[ZZ ZY t.c2,ZZ ZY t.r2] W
 have hE:=CH t.c1 t.r1 t.c2 t.r2;generalize rightB t.c1 t.r1=RB at*;obtain ⟨D,hD⟩:∃D,(t.c1==t.c2&&t.r1==t.r2)=D:=⟨_,rfl⟩
 rw [hD] at HM;simp only [hD] at hE;clear hD;cases O
 all_goals
  cases RB
  all_goals
   cases D
   all_goals
    go_enter func110,ntmps110;go_wp2_with fail;refine .mono qrO ?_;rintro e w1 ⟨rfl,b1⟩;obtain ⟨k10,k11,k12,k13,k14,k15,k16⟩:=ql;have k17:=qbj;have h1:=qab;clear b1;go_wp2_with fail;refine (HRt.out _).mono ?_;rintro e w2 ⟨rfl,b2⟩;obtain ⟨k20,k21,k22,k23,k24,k25,k26,k27,h2⟩:=qI;clear b2 k10 k11 k12 k13 k14 k15 k16 k17;go_wp2_with fail;go_ret;exact ⟨qoN,h2⟩
theorem Ov (t:Tr) (w:Z3) (A:Option Addr) (cap:Nat) (h:t.kY=2):Calls ZW 110 #[tv t A cap] w fun e w'=>e=ZX (.bool (ay t))/\Z2 w.heap.size w w':=by
 unfold tv;have HO:=qfD;unfold tv at HO;have HM:=qf (O2 h);obtain ⟨s0,s1⟩:=qbd;have s2:(t.kY==2)=Zy:=qoW;clear h;generalize aR t 0=O at*;cases O
 all_goals
  go_enter func110,ntmps110;go_wp2_with fail;refine .mono qrO ?_;rintro e w1 ⟨rfl,b1⟩;obtain ⟨k10,k11,k12,k13,k14,k15,k16⟩:=ql;have k17:=qbj;have h1:=qab;clear b1;go_wp2_with fail;go_ret;exact ⟨qoN,h1⟩
theorem MO (t:Tr) (w:Z3) (A:Option Addr) (cap:Nat) (h:t.kY=6):Calls ZW 110 #[tv t A cap] w fun e w'=>e=ZX (.bool (ay t))/\Z2 w.heap.size w w':=by
 unfold tv;have HO:=qfD;unfold tv at HO;have HM:=qf (O8 h);obtain ⟨s0,s1⟩:=qbd;have s2:=qgU;have s6:(t.kY==6)=Zy:=qoW;clear h;generalize aR t 0=O at*;have HWh:=qf (rk t.c1 t.r1 t.c2 t.r2);generalize bW t.c1 t.r1 t.c2 t.r2=RB at*;cases O
 all_goals
  cases RB
  all_goals
   go_enter func110,ntmps110;go_wp2_with fail;refine .mono qrO ?_;rintro e w1 ⟨rfl,b1⟩;obtain ⟨k10,k11,k12,k13,k14,k15,k16⟩:=ql;have k17:=qbj;have h1:=qab;clear b1;go_wp2_with fail;refine (HWh.out _).mono ?_;rintro e w2 ⟨rfl,b2⟩;obtain ⟨k20,k21,k22,k23,k24,k25,k26,k27,h2⟩:=qI;clear b2 k10 k11 k12 k13 k14 k15 k16 k17;go_wp2_with fail;go_ret;exact ⟨qoN,h2⟩
theorem N8 (t:Tr) (w:Z3) (A:Option Addr) (cap:Nat) (ih:kE d) (hd:aV t.kZ<=d) (hw:Wid t) (P:Nat->Prop) (hk:KV w P t A) (h:t.kY=3):Calls ZW 110 #[tv t A cap] w fun e w'=>e=ZX (.bool (ay t))/\Z2 w.heap.size w w':=by
 unfold tv;have HO:=qf fun w=>kA t A cap 1 w
 unfold tv at HO;have HM:=qf (Jq h);obtain ⟨s0,s1⟩:=qbd;have s2:=qgU;have s6:(t.kY==6)=Zz:=qoW;have s3:=qhd;obtain ⟨HK,HAl⟩:=qba;clear h;unfold tv at HAl;clear ih hd hw hk;generalize aR t 1=O at*;have HA2:=qf (HAl.out Zz Zz);clear HAl;generalize be t.kZ Zz Zz=RB at*;cases O
 all_goals
  cases RB
  all_goals
   go_enter func110,ntmps110;go_wp2_with fail;refine .mono qrO ?_;rintro e w1 ⟨rfl,b1⟩;obtain ⟨k10,k11,k12,k13,k14,k15,k16⟩:=ql;have k17:=qbj;have h1:=qab;clear b1;go_wp2_with fail;refine .mono qrP ?_;rintro e w2 ⟨rfl,b2⟩;obtain ⟨k20,k21,k22,k23,k24,k25,k26,k27,h2⟩:=qI;clear b2 k10 k11 k12 k13 k14 k15 k16 k17;go_wp2_with fail;go_ret;exact ⟨qoN,h2⟩
theorem Np (t:Tr) (w:Z3) (A:Option Addr) (cap:Nat) (ih:kE d) (hd:aV t.kZ<=d) (hw:Wid t) (P:Nat->Prop) (hk:KV w P t A) (h:t.kY=4):Calls ZW 110 #[tv t A cap] w fun e w'=>e=ZX (.bool (ay t))/\Z2 w.heap.size w w':=by
 unfold tv;have HO:=qf fun w=>kA t A cap 2 w
 unfold tv at HO;have HM:=qf (CG h);obtain ⟨s0,s1⟩:=qbd;have s2:=qgU;have s6:(t.kY==6)=Zz:=qoW;obtain ⟨s3,s4⟩:=qeu;obtain ⟨HK,HAl⟩:=qba;clear h;unfold tv at HAl;clear ih hd hw hk;generalize aR t 2=O at*;have HA2:=qf (HAl.out Zz Zz);clear HAl;generalize be t.kZ Zz Zz=RB at*;have HLv:=qf (ma ⟨t.wZ.toArray⟩);have e9:(⟨t.wZ.toArray⟩:ByteArray).data.toList=t.wZ:=qns;rw [e9] at HLv;clear e9;obtain ⟨D,hD⟩:∃D,decide (1<=lvl t.wZ)=D:=⟨_,rfl⟩
 rw [hD] at HM;have hD2:decide (0<lvl t.wZ)=D:=hD;clear hD;cases O with
 |true=>
  cases RB with
  |true=>
   go_enter func110,ntmps110;go_wp2_with fail;refine .mono qrO ?_;rintro e w1 ⟨rfl,b1⟩;obtain ⟨k10,k11,k12,k13,k14,k15,k16⟩:=ql;have k17:=qbj;have h1:=qab;clear b1;go_wp2_with fail;refine .mono qrP ?_;rintro e w2 ⟨rfl,b2⟩;obtain ⟨k20,k21,k22,k23,k24,k25,k26,k27,h2⟩:=qI;clear b2 k10 k11 k12 k13 k14 k15 k16 k17;go_wp2_with fail;refine (HLv.out _).mono ?_;rintro e v ⟨rfl,rfl⟩;exact qmn
  |false=>
   go_enter func110,ntmps110;go_wp2_with fail;refine .mono qrO ?_;rintro e w1 ⟨rfl,b1⟩;obtain ⟨k10,k11,k12,k13,k14,k15,k16⟩:=ql;have k17:=qbj;have h1:=qab;clear b1;go_wp2_with fail;refine .mono qrP ?_;rintro e w2 ⟨rfl,b2⟩;obtain ⟨k20,k21,k22,k23,k24,k25,k26,k27,h2⟩:=qI;clear b2 k10 k11 k12 k13 k14 k15 k16 k17;exact qmn
 |false=>
  cases RB
  all_goals
   go_enter func110,ntmps110;go_wp2_with fail;refine .mono qrO ?_;rintro e w1 ⟨rfl,b1⟩;obtain ⟨k10,k11,k12,k13,k14,k15,k16⟩:=ql;have k17:=qbj;have h1:=qab;clear b1;go_wp2_with fail;refine .mono qrP ?_;rintro e w2 ⟨rfl,b2⟩;obtain ⟨k20,k21,k22,k23,k24,k25,k26,k27,h2⟩:=qI;clear b2 k10 k11 k12 k13 k14 k15 k16 k17;go_wp2_with fail;go_ret;exact ⟨qoN,h2⟩
