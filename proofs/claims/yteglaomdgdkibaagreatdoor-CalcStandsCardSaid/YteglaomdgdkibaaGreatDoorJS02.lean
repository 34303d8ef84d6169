import Derived.Test.YteglaomdgdkibaaGreatDoorJNS21
import Derived.Test.YteglaomdgdkibaaGreatDoorJS01
import Derived.Test.YteglaomdgdkibaaGreatDoorJQNSP
import Derived.Test.YteglaomdgdkibaaGreatDoorJQNSW
import Derived.Test.YteglaomdgdkibaaGreatDoorJQSP
import Derived.Test.YteglaomdgdkibaaGreatDoorJQSX
set_option linter.all false
set_option maxHeartbeats 0
set_option maxRecDepth 99999
namespace Go.Proofs.YteglaomdgdkibaaGreatDoor
open Go.RowKit
open Value renaming int→ZZ,slice→Zw,agg→Zu
open IntKind renaming i64→ZY
open Ending renaming returned→ZX
open RowKit renaming Below→Z2
open Go renaming World→Z3
open Tryz
open Tryz renaming prog→ZW
open Option renaming some→ZV,none→ZU
open Bool renaming false→Zz,true→Zy
variable {x y:Int}{l:List Cel}{i:Nat}{q:Cel}
theorem cAt_app' {x y:Int}:∀(l m:List Cel),cAt x y l=ZU->cAt x y (l++m)=cAt x y m
 |[],m,_=>rfl
 |q::l,m,h=>by
  rw [cAt] at h;by_cases hp:q.c=x/\q.r=y
  ·rw [if_pos hp] at h;cases h
  ·rw [if_neg hp] at h
   rw [List.cons_append,cAt,if_neg hp];exact cAt_app' l m h
theorem wz {x y:Int}:∀(l m:List Cel) {v:Int×Int},cAt x y l=ZV v->cAt x y (l++m)=ZV v
 |[],m,v,h=>by cases h
 |q::l,m,v,h=>by
  rw [cAt] at h;rw [List.cons_append,cAt];by_cases hp:q.c=x/\q.r=y
  ·rw [if_pos hp] at h ⊢;exact h
  ·rw [if_neg hp] at h ⊢;exact wz l m h
theorem Nn (hi:l[i]? =ZV q) (hp:cAt x y (l.take i)=ZU) (hq:(q.c==x&&q.r==y)=Zz):cAt x y (l.take (i+1))=ZU:=by
 rw [List.take_add_one,hi,cAt_app' _ _ hp];show cAt x y [q]=ZU
 rw [sQ,if_neg (by simpa using hq)]
theorem Kz (hi:l[i]? =ZV q) (hp:cAt x y (l.take i)=ZU) (hq:(q.c==x&&q.r==y)=Zy):cAt x y l=ZV (bX q):=by
 have h:cAt x y (l.take (i+1))=ZV (bX q):=by
  rw [List.take_add_one,hi,cAt_app' _ _ hp];show cAt x y [q]=_
  rw [sQ,if_pos (by simpa using hq)]
 have:=wz (l.take (i+1)) (l.drop (i+1)) h;rwa [List.take_append_drop] at this
theorem FO (x y p q:Int) (W:Z3):(binOp .eql 28 (Zu #[ZZ ZY x,ZZ ZY y]) (Zu #[ZZ ZY p,ZZ ZY q])).run ZW W=.ok (.bool (x==p&&y==q)) W:=qlQ
theorem zK (l:List Cel) (hl:l.length<=maxLen) (A:Option Addr) (cap:Nat) (x y:Int) (w:Z3) (hc:fe w A l):
 Calls ZW 36 #[Zw A l.length cap,Zu #[ZZ ZY x,ZZ ZY y]] w fun e w'=>e=ZX (.tuple #[Zu #[ZZ ZY (oN (cAt x y l)),ZZ ZY (oF (cAt x y l))],.bool (cAt x y l).isSome])/\Z2 w.heap.size w w':=by
 have HC:=qgx;unfold maxLen at hl;clear hc;go_enter func36,ntmps36;go_wp2_with fail;go_loopw [6] (fun vi wr=>∃i:Nat,i<=l.length/\vi=ZZ ZY (i:Int)/\Hid (cAt x y (l.take i)=ZU)/\Z2 (w.heap.size+1+1) ((w.alloc (.cells #[ZZ ZY x,ZZ ZY y] 28)).alloc (.cells #[ZZ ZY 0,ZZ ZY 0] 61)) wr) (fun vi _=>l.length - (RowKit.intOf vi).toNat)
 case atStart=>exact ⟨0,qe,rfl,qf (by rw [List.take_zero,cAt]),qb⟩
 case round=>
  obtain ⟨i,hi,rfl,HT,hb⟩:=hrel;have p0:wr.cell? ⟨w.heap.size,0,ZU⟩=ZV (ZZ ZY x):=qpe;have p1:wr.cell? ⟨w.heap.size,1,ZU⟩=ZV (ZZ ZY y):=qpe;have k0:wr.cell? ⟨w.heap.size+1,0,ZU⟩=ZV (ZZ ZY 0):=qos;have k1:wr.cell? ⟨w.heap.size+1,1,ZU⟩=ZV (ZZ ZY 0):=qos;have f0:wr.frozen? ⟨w.heap.size+1,0,ZU⟩=Zz:=qpd;have f1:wr.frozen? ⟨w.heap.size+1,1,ZU⟩=Zz:=qpd;have z0:w.heap.size+1<wr.heap.size:=qpJ;have z1:w.heap.size<wr.heap.size:=qoq;have b0:Z2 w.heap.size w wr:=(qa.alloc qns _).trans (hb.mono qoq);by_cases hlt:i<l.length
  ·obtain ⟨q,hq⟩:∃q,l[i]? =ZV q:=⟨_,List.getElem?_eq_getElem hlt⟩
   obtain ⟨g,o,rfl,hat⟩:=HC.out qqy;obtain ⟨c0,c1,c2,c3⟩:=(hat.below b0).get hq;have hG:=qfM;have hE:=FO q.c q.r x y;have HN:=qf (Nn (x:=x) (y:=y) hq HT.out);have HY:=qf (Kz (x:=x) (y:=y) hq HT.out);clear hq hat;generalize (q.c==x&&q.r==y)=M at*;cases M with
   |false=>
    have HN2:=qf (HN.out rfl);clear HN HY k0 k1 f0 f1 c2 c3;exact qjS
   |true=>
    have HY2:=qf (HY.out rfl);clear HN HY;cases hf:(q.f !=0) with
    |true=>
     have E1:Hid (oN (cAt x y l)=0/\oF (cAt x y l)=q.f/\(cAt x y l).isSome=Zy):=qf (by
      rw [HY2.out];unfold oN oF bX;have hn:¬q.f=0:=qqb;simp [hn])
     clear c2;go_wp2_with fail;go_quiet (fail)
     go_wp2_with fail
     exact bodyPost_ret (v:=.tuple #[Zu #[ZZ ZY 0,ZZ ZY q.f],.bool Zy]) qpj rfl
      ⟨qre,qnW⟩
    |false=>
     have E1:Hid (oN (cAt x y l)=q.n/\oF (cAt x y l)=q.f/\(cAt x y l).isSome=Zy):=qf (by
      rw [HY2.out];unfold oN oF bX;have hn:q.f=0:=qqb;simp [hn])
     go_wp2_with fail;go_quiet (fail)
     go_wp2_with fail
     exact bodyPost_ret (v:=.tuple #[Zu #[ZZ ZY q.n,ZZ ZY q.f],.bool Zy]) qpj rfl
      ⟨qre,qnW⟩
  ·have hii:i=l.length:=by omega
   subst hii;have hz:=HT.out;rw [List.take_length] at hz;have HZ:Hid (oN (cAt x y l)=0/\oF (cAt x y l)=0/\(cAt x y l).isSome=Zz):=qf (by rw [hz];exact ⟨rfl,rfl,rfl⟩);clear hz;go_wp2_with fail
   exact bodyPost_ret (v:=.tuple #[Zu #[ZZ ZY 0,ZZ ZY 0],.bool Zz]) qpj rfl
    ⟨(by rw [HZ.out.1,HZ.out.2.1,HZ.out.2.2]),qnW⟩
def fm (l:List Cel) (t:Tr):Prop:=∀(w:Z3) (P:Nat->Prop) (A:Option Addr) (cap:Nat) (LA:Option Addr) (lc:Nat),KV w P t A->fe w LA l->
 Calls ZW 64 #[.agg (Ku.k t A cap),Zw LA l.length lc] w fun e w'=>e=ZX (Zu #[ZZ ZY (cmT l t).1,ZZ ZY (cmT l t).2])/\Z2 w.heap.size w w'
def nn (l:List Cel) (t:Tr):Prop:=∀(w:Z3) (P:Nat->Prop) (A:Option Addr) (cap:Nat) (LA:Option Addr) (lc:Nat),KV w P t A->fe w LA l->
 Calls ZW 163 #[Zw A t.kZ.length cap,Zw LA l.length lc] w fun e w'=>∃v,e=ZX v/\dF w.heap.size w' v (itL l t.kZ)/\Z2 w.heap.size w w'
theorem M0 {ks:List Tr} {u:Tr} (hu:ks[i]? =ZV u) (h6:u.kY=6):itL l (ks.take (i+1))=itL l (ks.take i)++fmT l (ax u.c1 u.r1 u.c2 u.r2 1024) (ax u.c1 u.r1 u.c2 u.r2 1024).length:=by
 rw [o8 hu,if_pos h6];unfold fmT;rw [List.take_length];rfl
theorem Mb (w:Z3) (X:Obj) (a b:Int) (j:Nat) (u:Value) (h:[Value.int .i64 a,Value.int .i64 b][j]? =ZV u):((w.alloc X).alloc (.cells #[ZZ ZY a,ZZ ZY b] 61)).cell? ((⟨w.heap.size+1,0,ZU⟩:Addr).add j)=ZV u:=by
 match j,h with
 |0,h=>exact qmU
 |1,h=>exact qmU
theorem Io (hl:l.length<=maxLen) (t:Tr) (hlen:t.kZ.length<=1000000) (ih:∀u∈t.kZ,fm l u):nn l t:=by
 intro w P A cap LA lc hk hc;obtain ⟨i0,hi0,hz0,hz1,hz2⟩:=info_parts lu;have HI0:=qf hi0;have HZ0:=qf hz0;have HZ1:=qf hz1;have HZ2:=qf hz2;have HK:=qfq;have HI:=qf ih;have HC:=qgx;have HLL:=qf hl;clear hi0 hz0 hz1 hz2 hk ih hc hl;go_enter func163,ntmps163;go_wp2_with fail;go_loopw [5,6] (fun v n wr=>∃i:Nat,i<=t.kZ.length/\n=ZZ ZY (i:Int)/\dF w.heap.size wr v (itL l (t.kZ.take i))/\Z2 w.heap.size w wr) (fun _ n _=>t.kZ.length - (RowKit.intOf n).toNat)
 case atStart=>exact qmV
 case round=>
  obtain ⟨i,hi,rfl,hown,hbel⟩:=hrel;have HO:=qf hown;obtain ⟨hle,hlt1⟩:=qdR;clear hown;by_cases hlt:i<t.kZ.length
  ·have hu:t.kZ[i]? =ZV (t.kZ[i]'hlt):=List.getElem?_eq_getElem hlt
   obtain ⟨g,o,rfl⟩:=HK.out.addr hu;obtain ⟨hg,A',cap',h8,hkv⟩:=HK.out.kidAt hbel hu;have HT1:=qf (Gk (l:=l) hu);have HT2:=qf (M0 (l:=l) hu);have HCo:=qf (HI.out _ (List.getElem_mem hlt) wr _ A' cap' LA lc hkv (HC.out.below hbel));generalize t.kZ[i]'hlt=u at*;obtain ⟨q0,q1,q2,q3,q4,q5,q6,q7⟩:=h8;have zg:g<wr.heap.size:=Nat.lt_of_lt_of_le hg hbel.size;have zs:=hbel.size;clear hkv hu;by_cases h6:u.kY=6
   ·have d6:(u.kY !=6)=Zz:=by simpa using h6
    have HT:=qf (HT2.out h6);have HCl:=qf (fun w=>CK u.c1 u.r1 u.c2 u.r2 w);have hcl:=ia u.c1 u.r1 u.c2 u.r2 1024;clear HT1 HT2 h6 HCo;generalize ax u.c1 u.r1 u.c2 u.r2 1024=C at*;generalize hX:itL l (t.kZ.take i)=X at*;go_wp2_with fail;refine (HCl.out _).mono ?_;rintro e w1 ⟨v7,rfl,hown7,b1⟩;obtain ⟨A7,cap7,rfl,hsh⟩:=p9 hown7
    have HPA:Hid (PlA w1 u5 A7 C):=qf fun j hj=>by
     obtain ⟨g7,e,hb7,hl7,hat⟩:=hsh j hj;exact ⟨g7,e,hl7,fun e2=>by have:=(HO.out.lt g7 e2).2;omega,hat⟩
    have HO1:=qf (dS HO.out b1);have hb1:=hbel.trans (b1.mono zs);clear hsh hown7 b1 q0 q1 q2 q3 q4 q5 q6 q7 HO d6 zg zs hg;go_wp2_with fail;go_loopw [5,8] (fun v n wr=>∃k:Nat,k<=C.length/\n=ZZ ZY (k:Int)/\dF w.heap.size wr v (X++fmT l C k)/\Hid (PlA wr v A7 C)/\Z2 w.heap.size w wr) (fun _ n _=>C.length - (RowKit.intOf n).toNat)
    case atStart=>exact ⟨0,qe,rfl,(by (have e:fmT l C 0=[]:=rfl);rw [e,List.append_nil];exact HO1.out),HPA,hb1⟩
    case round=>
     clear HO1 HPA hb1 hbel;obtain ⟨k,hk2,rfl,hown2,HP2,hbel⟩:=hrel;have HO:=qf hown2;have hfl:=Kg l C k;have zs:=hbel.size;clear hown2;by_cases hlt2:k<C.length
     ·obtain ⟨x,y,hxy⟩:∃x y,C[k]? =ZV (x,y):=⟨_,_,List.getElem?_eq_getElem hlt2⟩
      obtain ⟨g7,rfl,hg7,hn7,hat7⟩:=HP2.out k hlt2;obtain ⟨a0,a1⟩:=hat7 k x y hxy;have HA:=qf (fun (w:Z3) (hc:fe w LA l)=>zK l HLL.out LA lc x y w hc);have hlc:=HC.out.below hbel;have HY:=qf (fun v=>Ds (l:=l) (v:=v) hxy);have HN:=qf (J6 (l:=l) hxy);clear hat7 hxy;cases hv:cAt x y l with
      |none=>
       have HN2:=qf (HN.out hv)
       have HA:Hid (∀(w:Z3),fe w LA l->Calls ZW 36 #[Zw LA l.length lc,Zu #[ZZ ZY x,ZZ ZY y]] w fun e w'=>e=ZX (.tuple #[Zu #[ZZ ZY 0,ZZ ZY 0],.bool Zz])/\Z2 w.heap.size w w'):=qf fun w hc=>by
        exact qmg
       clear HN HY hv;go_wp2_with fail;refine (HA.out _ hlc).mono ?_;rintro e w2 ⟨rfl,b2⟩;have HO2:=qgZ;have hb2:=hbel.trans (b2.mono zs)
       have HF:Hid (∀wf,Z2 w2.heap.size w2 wf->∃k2:Nat,k2<=C.length/\Value.int .i64 ((k:Int)+1)=ZZ ZY (k2:Int)/\dF w.heap.size wf u5 (X++fmT l C k2)/\Hid (PlA wf u5 (ZV ⟨g7,0,ZU⟩) C)/\Z2 w.heap.size w wf):=qf fun wf bf=>by
        refine ⟨k+1,hlt2,qnG,(by rw [HN2.out];exact dS HO2.out bf),qf fun j hj=>?_,hb2.trans (bf.mono hb2.size)⟩;obtain ⟨g',e,h1,h2,h3⟩:=HP2.out j hj;exact ⟨g',e,Nat.lt_of_lt_of_le h1 (Nat.le_trans b2.size bf.size),h2,km h3 (b2.trans (bf.mono b2.size)) h1⟩
       clear b2 a0 a1;go_wp2_with fail;go_roundw
       case rel=>exact HF.out _ (by repeat' (first|with_reducible exact qb|exact qd|with_reducible refine Below.alloc ?_ ?_ _|with_reducible refine Below.setCell ?_ ?_ _))
       case measure=>exact qmy
      |some p=>
       have HY2:=qf (HY.out p hv)
       have HA:Hid (∀(w:Z3),fe w LA l->Calls ZW 36 #[Zw LA l.length lc,Zu #[ZZ ZY x,ZZ ZY y]] w fun e w'=>e=ZX (.tuple #[Zu #[ZZ ZY p.1,ZZ ZY p.2],.bool Zy])/\Z2 w.heap.size w w'):=qf fun w hc=>by
        exact qmg
       obtain ⟨pn,pf⟩:=p;clear HN HY hv;dsimp only at HA;go_wp2_with fail;refine (HA.out _ hlc).mono ?_;rintro e w2 ⟨rfl,b2⟩;have HO2:=qgZ;have hb2:=hbel.trans (b2.mono zs)
       have HF:Hid (∀wf v',wf.ownsRow w.heap.size 61 2 v' ((X++fmT l C k).length+1) (bj (X++fmT l C k)++[ZZ ZY pn,ZZ ZY pf])->(∃w3,Z2 w2.heap.size w2 w3/\w2.heap.size<=w3.heap.size/\w3.grownBy wf u5.ownBlock/\∀q,v'.ownBlock=ZV q->u5.ownBlock=ZV q\/w2.heap.size<=q)->∃k2:Nat,k2<=C.length/\Value.int .i64 ((k:Int)+1)=ZZ ZY (k2:Int)/\dF w.heap.size wf v' (X++fmT l C k2)/\Hid (PlA wf v' (ZV ⟨g7,0,ZU⟩) C)/\Z2 w.heap.size w wf):=qf fun wf v' ho ⟨w3,b3,z3,hg,hq⟩=>by
        refine ⟨k+1,hlt2,qnG,?_,qf fun j hj=>?_,(hb2.trans (b3.mono hb2.size)).grown hg (by have:=hb2.size;omega) (fun q hk=>(HO2.out.lt q hk).1)⟩
        ·unfold dF
         rw [HY2.out,<-List.append_assoc,List.length_append,js];exact ho
        ·obtain ⟨g',e,h1,h2,h3⟩:=HP2.out j hj
         have hgl:g'<w3.heap.size:=Nat.lt_of_lt_of_le h1 (Nat.le_trans b2.size b3.size);refine ⟨g',e,Nat.lt_of_lt_of_le hgl hg.size,fun e2=>?_,?_⟩
         ·rcases hq g' e2 with h4|h4
          ·exact h2 h4
          ·have:=b2.size;omega
         ·have hat:=km h3 (b2.trans (b3.mono b2.size)) h1
          exact qjT
       have z2:w.heap.size<=w2.heap.size:=hb2.size;have hlen2:(X++fmT l C k).length+1<=2000000000:=(by rw [List.length_append];omega);clear b2 a0 a1 HP2;go_wp2_with (at_builtin;refine eh ?_)
       refine ek ?_
       refine wpList_append_lies _ rfl _ _ 226 rfl w.heap.size 61 i0 (Zu #[ZZ ZY 0,ZZ ZY 0]) 2 16 underlying226 HI0.out HZ0.out HZ1.out HZ2.out rfl qnv _ _ _ rfl ((HO2.out.alloc _).alloc _)
        ⟨w2.heap.size+1,0,ZU⟩ 1 1 [ZZ ZY pn,ZZ ZY pf] rfl rfl (Mb w2 _ pn pf) (xe pn pf) qnv qnH qoq qnu (w2.heap.size+1+1) qns ?_
       intro gq cq w4 hown4 hg4 hat4 _
       have hob:∀q,(Value.slice (ZV ⟨gq,0,ZU⟩) ((X++fmT l C k).length+1) cq).ownBlock=ZV q->u5.ownBlock=ZV q\/w2.heap.size<=q:=fun q hq=>by
        exact qkq
       have HR:=qf (HF.out w4 _ hown4 ⟨_,qa.alloc qns _,qnu,hg4,hob⟩);clear HF HO2 hown4 hg4 hat4 hob;go_wp2_with fail;go_roundw
       case rel=>have hr:=HR.out;rwa [List.length_append] at hr
       case measure=>exact qmy
     ·have hkk:k=C.length:=by omega
      subst hkk
      have hown5:dF w.heap.size wr u5 (itL l (t.kZ.take (i+1))):=by
       rw [HT.out];exact HO.out
      clear HO;go_wp2_with fail;go_roundw
      case rel=>exact ⟨i+1,qoq,qnG,hown5,hbel⟩
      case measure=>exact qmy
   ·have d6:(u.kY !=6)=Zy:=by simpa using h6
    have HT:=qf (HT1.out h6);clear HT1 HT2 h6;generalize cmT l u=cu at*;generalize hX:itL l (t.kZ.take i)=X at*;go_wp2_with fail;refine Calls.mono HCo.out ?_;rintro e w1 ⟨rfl,b1⟩;have HO1:=qf (dS HO.out b1);have zs1:=b1.size;have hb1:=hbel.trans (b1.mono zs);clear b1 q0 q1 q2 q3 q4 q5 q6 q7
    go_wp2_with (at_builtin;refine wpList_append_own _ rfl _ _ 226 rfl w.heap.size 61 i0 (Zu #[ZZ ZY 0,ZZ ZY 0]) 2 16 underlying226 HI0.out HZ0.out HZ1.out HZ2.out rfl qnv _ _ _ rfl (HO1.out.alloc _) ⟨w1.heap.size,0,ZU⟩ 1 1 [ZZ ZY cu.1,ZZ ZY cu.2] rfl rfl ?c1 ?c2 ?c3 ?c4 ?c5 ?_)
    case c1=>
     intro j x hj;match j,hj with
     |0,hj=>exact qmM
     |1,hj=>exact qmM
    case c2=>intro x hx;simp at hx;rcases hx with rfl|rfl<;>rfl
    case c3=>exact qmE
    case c4=>omega
    case c5=>simp;omega
    intro v' w4 hown4 hg4 _
    have hown5:dF w.heap.size w4 v' (itL l (t.kZ.take (i+1))):=by
     unfold dF;rw [HT.out,List.length_append,js];exact hown4
    have hb4:=qfh;clear hown4 hg4;go_wp2_with fail;go_roundw
    case rel=>exact ⟨i+1,qoq,qnG,hown5,hb4⟩
    case measure=>exact qmy
  ·have hii:i=t.kZ.length:=by omega
   exact qla
def i4 (l:List Cel) (t:Tr):Prop:=∀(w:Z3) (P:Nat->Prop) (A:Option Addr) (cap:Nat) (LA:Option Addr) (lc:Nat),KV w P t A->fe w LA l->
 Calls ZW 113 #[.agg (Ku.k t A cap),Zw LA l.length lc] w fun e w'=>e=ZX (Zu #[ZZ ZY (cmT l t).1,ZZ ZY (cmT l t).2])/\Z2 w.heap.size w w'

theorem GB (hl:l.length<=maxLen) (t a b c:Tr) (hlen:t.kZ.length<=1000000) (h5:t.kY=5) (hwd:t.wZ=[73,70]) (h0:t.kZ[0]? =ZV a) (h1:t.kZ[1]? =ZV b) (h2:t.kZ[2]? =ZV c) (ih:∀u∈t.kZ,fm l u) (hf:(cmT l a).2≠0):i4 l t:=by
 intro w P A cap LA lc hk hc;have HE:=qgB;have xIF:=qeC;obtain ⟨g,o,rfl⟩:=hk.addr h0;have HA:=qdJ;have HR:=qf (ih a (List.mem_of_getElem? h0));have HK:=qfq;have HC:=qgx;have HLL:=qf hl;obtain ⟨Ha,Hz,l2,df⟩:=qeQ;have hb0:=qM;obtain ⟨⟨k0,k1,k2,k3,k4,k5,k6,k7⟩,⟨kr0,kr1,kf0,kf1⟩,kz0,kz1,kb⟩:=bD hb0;obtain ⟨hg,A0,c0,⟨q0,q1,q2,q3,q4,q5,q6,q7⟩,hk0⟩:=HK.out.kidAt kb Ha.out;simp only [Nat.zero_mul,Nat.add_zero] at q0 q1 q2 q3 q4 q5 q6 q7;have HC0:=qfH;clear hk hc hl h0 h1 h2 ih h5 hwd hf hk0 hg HA k0 k1 k2 k3 k4 k5 k6 k7 kr0 kr1 kf0 kf1;go_enter func113,ntmps113;go_wp2_with fail;refine Calls.mono HC0.out ?_;rintro e w1 ⟨rfl,b1⟩;have hb1:=qbs;obtain ⟨⟨m0,m1,m2,m3,m4,m5,m6,m7⟩,⟨mr0,mr1,mf0,mf1⟩,mz0,mz1,mb⟩:=bD hb1;clear b1 hb1 q0 q1 q2 q3 q4 q5 q6 q7 kb kz0 kz1;go_wp2_with fail
 exact bodyPost_ret (v:=Zu #[ZZ ZY (cmT l a).1,ZZ ZY (cmT l a).2]) qoV rfl
  ⟨qnI,qnn⟩
theorem Jn (hl:l.length<=maxLen) (t a b c:Tr) (hlen:t.kZ.length<=1000000) (h5:t.kY=5) (hwd:t.wZ=[73,70]) (h0:t.kZ[0]? =ZV a) (h1:t.kZ[1]? =ZV b) (h2:t.kZ[2]? =ZV c) (ih:∀u∈t.kZ,fm l u) (hf:(cmT l a).2=0) (hn:(cmT l a).1≠0):i4 l t:=by
 intro w P A cap LA lc hk hc;have HE:=qfl;have xIF:=qeC;obtain ⟨g,o,rfl⟩:=hk.addr h0;have HA:=qdJ;have HR:=qf (ih b (List.mem_of_getElem? h1));have HK:=qfq;have HC:=qgx;have HLL:=qf hl;have Ha:=qf h0;have Hb:=qf h1;obtain ⟨l2,df⟩:=qcA;have dn:((cmT l a).1 !=0)=Zy:=qpF;have hb0:=qM;obtain ⟨⟨k0,k1,k2,k3,k4,k5,k6,k7⟩,⟨kr0,kr1,kf0,kf1⟩,kz0,kz1,kb⟩:=bD hb0;obtain ⟨hg,A0,c0,⟨q0,q1,q2,q3,q4,q5,q6,q7⟩,hk0⟩:=HK.out.kidAt kb Ha.out;simp only [Nat.zero_mul,Nat.add_zero] at q0 q1 q2 q3 q4 q5 q6 q7;have HC0:=qfH;clear hk hc hl h0 h1 h2 ih h5 hwd hf hn hk0 hg HA k0 k1 k2 k3 k4 k5 k6 k7 kr0 kr1 kf0 kf1;go_enter func113,ntmps113;go_wp2_with fail;refine Calls.mono HC0.out ?_;rintro e w1 ⟨rfl,b1⟩;have hb1:=qbs;obtain ⟨⟨m0,m1,m2,m3,m4,m5,m6,m7⟩,⟨mr0,mr1,mf0,mf1⟩,mz0,mz1,mb⟩:=bD hb1;obtain ⟨hg2,A1,c1,⟨p0,p1,p2,p3,p4,p5,p6,p7⟩,hk1⟩:=HK.out.kidAt mb Hb.out;simp only [Nat.one_mul,Nat.reduceMul,Nat.add_assoc,Nat.reduceAdd] at p0 p1 p2 p3 p4 p5 p6 p7;obtain ⟨HC1,zg⟩:=qdA;clear b1 q0 q1 q2 q3 q4 q5 q6 q7 kb kz0 kz1 hk1 hg2;go_wp2_with fail;refine Calls.mono (HC1.out _) ?_;rintro e w2 ⟨rfl,b2⟩;have hb2:=qcX;obtain ⟨⟨n0,n1,n2,n3,n4,n5,n6,n7⟩,⟨nr0,nr1,nf0,nf1⟩,nz0,nz1,nb⟩:=bD hb2;clear b2 hb1 hb2 m0 m1 m2 m3 m4 m5 m6 m7 mr0 mr1 mf0 mf1 mz0 mz1 mb p0 p1 p2 p3 p4 p5 p6 p7;go_wp2_with fail
 exact bodyPost_ret (v:=Zu #[ZZ ZY (cmT l b).1,ZZ ZY (cmT l b).2]) qob rfl
  ⟨qnI,qnn⟩
theorem Jf (hl:l.length<=maxLen) (t a b c:Tr) (hlen:t.kZ.length<=1000000) (h5:t.kY=5) (hwd:t.wZ=[73,70]) (h0:t.kZ[0]? =ZV a) (h1:t.kZ[1]? =ZV b) (h2:t.kZ[2]? =ZV c) (ih:∀u∈t.kZ,fm l u) (hf:(cmT l a).2=0) (hn:(cmT l a).1=0):i4 l t:=by
 intro w P A cap LA lc hk hc;have HE:=qeN;have xIF:=qeC;obtain ⟨g,o,rfl⟩:=hk.addr h0;have HA:=qdJ;have HR:=qf (ih c (List.mem_of_getElem? h2));have HK:=qfq;have HC:=qgx;have HLL:=qf hl;have Ha:=qf h0;have Hc:=qf h2;obtain ⟨l2,df⟩:=qcA;have dn:((cmT l a).1 !=0)=Zz:=qpF;have hb0:=qM;obtain ⟨⟨k0,k1,k2,k3,k4,k5,k6,k7⟩,⟨kr0,kr1,kf0,kf1⟩,kz0,kz1,kb⟩:=bD hb0;obtain ⟨hg,A0,c0,⟨q0,q1,q2,q3,q4,q5,q6,q7⟩,hk0⟩:=HK.out.kidAt kb Ha.out;simp only [Nat.zero_mul,Nat.add_zero] at q0 q1 q2 q3 q4 q5 q6 q7;have HC0:=qfH;clear hk hc hl h0 h1 h2 ih h5 hwd hf hn hk0 hg HA k0 k1 k2 k3 k4 k5 k6 k7 kr0 kr1 kf0 kf1;go_enter func113,ntmps113;go_wp2_with fail;refine Calls.mono HC0.out ?_;rintro e w1 ⟨rfl,b1⟩;have hb1:=qbs;obtain ⟨⟨m0,m1,m2,m3,m4,m5,m6,m7⟩,⟨mr0,mr1,mf0,mf1⟩,mz0,mz1,mb⟩:=bD hb1;obtain ⟨hg2,A1,c1,⟨p0,p1,p2,p3,p4,p5,p6,p7⟩,hk1⟩:=HK.out.kidAt mb Hc.out;simp only [Nat.one_mul,Nat.reduceMul,Nat.add_assoc,Nat.reduceAdd] at p0 p1 p2 p3 p4 p5 p6 p7;obtain ⟨HC1,zg⟩:=qdA;clear b1 q0 q1 q2 q3 q4 q5 q6 q7 kb kz0 kz1 hk1 hg2;go_wp2_with fail;refine Calls.mono (HC1.out _) ?_;rintro e w2 ⟨rfl,b2⟩;have hb2:=qcX;obtain ⟨⟨n0,n1,n2,n3,n4,n5,n6,n7⟩,⟨nr0,nr1,nf0,nf1⟩,nz0,nz1,nb⟩:=bD hb2;clear b2 hb1 hb2 m0 m1 m2 m3 m4 m5 m6 m7 mr0 mr1 mf0 mf1 mz0 mz1 mb p0 p1 p2 p3 p4 p5 p6 p7;go_wp2_with fail
 exact bodyPost_ret (v:=Zu #[ZZ ZY (cmT l c).1,ZZ ZY (cmT l c).2]) qob rfl
  ⟨qnI,qnn⟩
theorem He (hl:l.length<=maxLen) (t:Tr) (ge:GE t) (hcb:∀q∈l,B64 q.n) (h5:t.kY=5) (hwd:t.wZ=[83,85,77]) (hi:nn l t):i4 l t:=by
 intro w P A cap LA lc hk hc;have HE:=qho;obtain ⟨xIF,xSUM⟩:=qgJ;have xMIN:=qcC;obtain ⟨xMAX,xCOUNT⟩:=qbS;have hb0:=qQ;obtain ⟨⟨k0,k1,k2,k3,k4,k5,k6,k7⟩,⟨kr0,kr1,kf0,kf1⟩,kz0,kz1,kb⟩:=bD hb0;obtain ⟨HI,hlt⟩:=qde;have HLL:=qf hl;clear hk hc hl h5 hwd hi k0 k1 k2 k3 k4 k5 k6 k7 kr0 kr1 kf0 kf1;go_enter func113,ntmps113;go_wp2_with fail;refine Calls.mono HI.out ?_;rintro e w1 ⟨v,rfl,hown,b1⟩;obtain ⟨A2,cap2,rfl,hL⟩:=hown.shape;have hb1:=qbs;obtain ⟨⟨m0,m1,m2,m3,m4,m5,m6,m7⟩,⟨mr0,mr1,mf0,mf1⟩,mz0,mz1,mb⟩:=bD hb1;have HS:=qf (GG (itL l t.kZ) (ge.itLen l) (ge.itB hcb) A2 cap2 w1 hL);have hLl:=ge.itLen l;unfold maxLen at hLl;clear hown hL b1 kb kz0 kz1 HI ge hcb mr0 mr1 mf0 mf1;generalize itL l t.kZ=L at*;go_wp2_with fail;refine Calls.mono HS.out ?_;rintro e w2 ⟨rfl,b2⟩;have hb2:=qbL;obtain ⟨⟨n0,n1,n2,n3,n4,n5,n6,n7⟩,⟨nr0,nr1,nf0,nf1⟩,nz0,nz1,nb⟩:=bD hb2;clear b2 hb1 hb2 m0 m1 m2 m3 m4 m5 m6 m7 mz0 mz1 mb n0 n1 n2 n3 n4 n5 n6 n7;go_wp2_with fail
 exact bodyPost_ret (v:=Zu #[ZZ ZY (bm de (0,0) L).1,ZZ ZY (bm de (0,0) L).2]) qob rfl
  ⟨qnI,qnn⟩
theorem Id (hl:l.length<=maxLen) (t:Tr) (ge:GE t) (hcb:∀q∈l,B64 q.n) (h5:t.kY=5) (hwd:t.wZ=[77,73,78]) (hi:nn l t):i4 l t:=by
 intro w P A cap LA lc hk hc;have HE:=qhS;obtain ⟨xIF,xSUM⟩:=qbI;have xMIN:(t.wZ==[77,73,78])=Zy:=(by rw [hwd];rfl);obtain ⟨xMAX,xCOUNT⟩:=qbS;have hb0:=qQ;obtain ⟨⟨k0,k1,k2,k3,k4,k5,k6,k7⟩,⟨kr0,kr1,kf0,kf1⟩,kz0,kz1,kb⟩:=bD hb0;obtain ⟨HI,hlt⟩:=qde;have HLL:=qf hl;clear hk hc hl h5 hwd hi k0 k1 k2 k3 k4 k5 k6 k7 kr0 kr1 kf0 kf1;go_enter func113,ntmps113;go_wp2_with fail;refine Calls.mono HI.out ?_;rintro e w1 ⟨v,rfl,hown,b1⟩;obtain ⟨A2,cap2,rfl,hL⟩:=hown.shape;have hb1:=qbs;obtain ⟨⟨m0,m1,m2,m3,m4,m5,m6,m7⟩,⟨mr0,mr1,mf0,mf1⟩,mz0,mz1,mb⟩:=bD hb1;have HS:=qf (Iz (itL l t.kZ) (ge.itLen l) A2 cap2 w1 hL);have hLl:=ge.itLen l;unfold maxLen at hLl;clear hown hL b1 kb kz0 kz1 HI ge hcb mr0 mr1 mf0 mf1;generalize itL l t.kZ=L at*;go_wp2_with fail;refine Calls.mono HS.out ?_;rintro e w2 ⟨rfl,b2⟩;have hb2:=qbL;obtain ⟨⟨n0,n1,n2,n3,n4,n5,n6,n7⟩,⟨nr0,nr1,nf0,nf1⟩,nz0,nz1,nb⟩:=bD hb2;clear b2 hb1 hb2 m0 m1 m2 m3 m4 m5 m6 m7 mz0 mz1 mb n0 n1 n2 n3 n4 n5 n6 n7;go_wp2_with fail
 exact bodyPost_ret (v:=Zu #[ZZ ZY (bv cN L).1,ZZ ZY (bv cN L).2]) qob rfl
  ⟨qnI,qnn⟩
theorem I3 (hl:l.length<=maxLen) (t:Tr) (ge:GE t) (hcb:∀q∈l,B64 q.n) (h5:t.kY=5) (hwd:t.wZ=[77,65,88]) (hi:nn l t):i4 l t:=by
 intro w P A cap LA lc hk hc;have HE:=qhT;obtain ⟨xIF,xSUM⟩:=qbI;have xMIN:=qcC;obtain ⟨xMAX,xCOUNT⟩:=qgu;have hb0:=qQ;obtain ⟨⟨k0,k1,k2,k3,k4,k5,k6,k7⟩,⟨kr0,kr1,kf0,kf1⟩,kz0,kz1,kb⟩:=bD hb0;obtain ⟨HI,hlt⟩:=qde;have HLL:=qf hl;clear hk hc hl h5 hwd hi k0 k1 k2 k3 k4 k5 k6 k7 kr0 kr1 kf0 kf1;go_enter func113,ntmps113;go_wp2_with fail;refine Calls.mono HI.out ?_;rintro e w1 ⟨v,rfl,hown,b1⟩;obtain ⟨A2,cap2,rfl,hL⟩:=hown.shape;have hb1:=qbs;obtain ⟨⟨m0,m1,m2,m3,m4,m5,m6,m7⟩,⟨mr0,mr1,mf0,mf1⟩,mz0,mz1,mb⟩:=bD hb1;have HS:=qf (Jz (itL l t.kZ) (ge.itLen l) A2 cap2 w1 hL);have hLl:=ge.itLen l;unfold maxLen at hLl;clear hown hL b1 kb kz0 kz1 HI ge hcb mr0 mr1 mf0 mf1;generalize itL l t.kZ=L at*;go_wp2_with fail;refine Calls.mono HS.out ?_;rintro e w2 ⟨rfl,b2⟩;have hb2:=qbL;obtain ⟨⟨n0,n1,n2,n3,n4,n5,n6,n7⟩,⟨nr0,nr1,nf0,nf1⟩,nz0,nz1,nb⟩:=bD hb2;clear b2 hb1 hb2 m0 m1 m2 m3 m4 m5 m6 m7 mz0 mz1 mb n0 n1 n2 n3 n4 n5 n6 n7;go_wp2_with fail
 exact bodyPost_ret (v:=Zu #[ZZ ZY (bv cM L).1,ZZ ZY (bv cM L).2]) qob rfl
  ⟨qnI,qnn⟩
theorem Cn (hl:l.length<=maxLen) (t:Tr) (ge:GE t) (h5:t.kY=5) (hwd:t.wZ=[67,79,85,78,84]) (hi:nn l t):i4 l t:=by
 intro w P A cap LA lc hk hc;obtain ⟨HE1,HE2⟩:=qcL;obtain ⟨xIF,xSUM⟩:=qbI;have xMIN:=qcC;obtain ⟨xMAX,xCOUNT⟩:=qgv;have hb0:=qQ;obtain ⟨⟨k0,k1,k2,k3,k4,k5,k6,k7⟩,⟨kr0,kr1,kf0,kf1⟩,kz0,kz1,kb⟩:=bD hb0;obtain ⟨HI,hlt⟩:=qde;have HK:=qfq;clear hk hc hl h5 hwd hi k0 k1 k2 k3 k4 k5 k6 k7 kr0 kr1 kf0 kf1;go_enter func113,ntmps113;go_wp2_with fail;refine Calls.mono HI.out ?_;rintro e w1 ⟨v,rfl,hown,b1⟩;obtain ⟨A2,cap2,rfl,hL⟩:=hown.shape;have hb1:=qbs;obtain ⟨⟨m0,m1,m2,m3,m4,m5,m6,m7⟩,⟨mr0,mr1,mf0,mf1⟩,mz0,mz1,mb⟩:=bD hb1;have hLl:=ge.itLen l;unfold maxLen at hLl;clear hown hL b1 kb kz0 kz1 HI ge;generalize itL l t.kZ=L at*;go_wp2_with fail;go_loopw [7] (fun vi wr=>∃i:Nat,i<=t.kZ.length/\vi=ZZ ZY (i:Int)/\Hid (((t.kZ.take i).any fun u=>u.kY==2)=Zz)/\wr=w1) (fun vi _=>t.kZ.length - (RowKit.intOf vi).toNat)
 case atStart=>exact ⟨0,qe,rfl,qf qqr,rfl⟩
 case round=>
  obtain ⟨i,hi,rfl,HT,rfl⟩:=hrel;by_cases hlt2:i<t.kZ.length
  ·have hu:t.kZ[i]? =ZV (t.kZ[i]'hlt2):=List.getElem?_eq_getElem hlt2
   obtain ⟨g,o,rfl⟩:=HK.out.addr hu;obtain ⟨hg,A',cap',⟨q0,q1,q2,q3,q4,q5,q6,q7⟩,hkv⟩:=HK.out.kidAt mb hu;have HY:=qf (zD hu);have HN:=qf (EC hu HT.out);generalize t.kZ[i]'hlt2=u at*;clear hkv hu q1 q2 q3 q4 q5 q6 q7;generalize u.kY=uk at*;cases hk2:(uk==2) with
   |true=>
    have HE:=qf (HE1.out (HY.out hk2));clear HY HN HE1 HE2;go_wp2_with fail
    exact bodyPost_ret (v:=Zu #[ZZ ZY 0,ZZ ZY 3]) qoV rfl
     ⟨qnI,qnn⟩
   |false=>
    have HT2:=qf (HN.out hk2);clear HY HN;go_wp2_with fail;go_roundw
    case rel=>exact ⟨i+1,qoq,qnG,HT2,trivial⟩
    case measure=>exact qmy
  ·have hii:i=t.kZ.length:=by omega
   subst hii;have hz:=HT.out;rw [List.take_length] at hz;have HE:=qf (HE2.out hz);clear hz HE1 HE2;go_wp2_with fail
   exact bodyPost_ret (v:=Zu #[ZZ ZY L.length,ZZ ZY 0]) qoV rfl
    ⟨qnI,qnn⟩
theorem MJ (hl:l.length<=maxLen) (t:Tr) (hlen:t.kZ.length<=1000000) (h:t.kY=0):fm l t:=by
 intro w P A cap LA lc hk hc;obtain ⟨HE,s0,s1⟩:=qfb;obtain ⟨s3,s4⟩:=qcb;have s5:=qcO;have hb0:=qQ;obtain ⟨⟨k0,k1,k2,k3,k4,k5,k6,k7⟩,⟨kr0,kr1,kf0,kf1⟩,kz0,kz1,kb⟩:=bD hb0;have HLL:=qf hl;clear h hl k0 k1 k2 k3 k4 k5 k6 k7 kr0 kr1 kf0 kf1 kb kz0 kz1 hb0 hk hc;go_enter func64,ntmps64;go_wp2_with fail
 exact bodyPost_ret (v:=Zu #[ZZ ZY t.num,ZZ ZY 0]) qrd rfl
  ⟨qnI,(qa.alloc qns _)⟩
theorem yY (hl:l.length<=maxLen) (t:Tr) (hlen:t.kZ.length<=1000000) (n0:t.kY≠0) (n1:t.kY≠1) (n3:t.kY≠3) (n4:t.kY≠4) (n5:t.kY≠5) (h:t.kY=2\/t.kY=6):fm l t:=by
 intro w P A cap LA lc hk hc;obtain ⟨HE,s0,s1,s3,s4,s5⟩:=qce;have hb0:=qQ;obtain ⟨⟨k0,k1,k2,k3,k4,k5,k6,k7⟩,⟨kr0,kr1,kf0,kf1⟩,kz0,kz1,kb⟩:=bD hb0;have HLL:=qf hl;clear h hl n0 n1 n3 n4 n5 k0 k1 k2 k3 k4 k5 k6 k7 kr0 kr1 kf0 kf1 kb kz0 kz1 hb0 hk hc;go_enter func64,ntmps64;go_wp2_with fail
 exact bodyPost_ret (v:=Zu #[ZZ ZY 0,ZZ ZY 3]) qrd rfl
  ⟨qnI,(qa.alloc qns _)⟩
theorem MN (hl:l.length<=maxLen) (t:Tr) (hlen:t.kZ.length<=1000000) (h:t.kY=1):fm l t:=by
 intro w P A cap LA lc hk hc;obtain ⟨HE,s0,s1⟩:=qef;obtain ⟨s3,s4⟩:=qcb;have s5:=qcO;have hb0:=qQ;obtain ⟨⟨k0,k1,k2,k3,k4,k5,k6,k7⟩,⟨kr0,kr1,kf0,kf1⟩,kz0,kz1,kb⟩:=bD hb0;have HLL:=qf hl;have HA:=qf (zK l hl LA lc t.c1 t.r1 _ (hc.below kb));clear h hl hk hc kb kz0 kz1 k0 k1 k2 k3 k4 k5 k6 k7 kr0 kr1 kf0 kf1;generalize oN (cAt t.c1 t.r1 l)=X at*;generalize oF (cAt t.c1 t.r1 l)=Y at*;generalize (cAt t.c1 t.r1 l).isSome=Z at*;go_enter func64,ntmps64;go_wp2_with fail;refine Calls.mono HA.out ?_;rintro e w1 ⟨rfl,b1⟩;have hb1:=qbs;obtain ⟨⟨m0,m1,m2,m3,m4,m5,m6,m7⟩,⟨mr0,mr1,mf0,mf1⟩,mz0,mz1,mb⟩:=bD hb1;clear b1 hb1 m0 m1 m2 m3 m4 m5 m6 m7 mz0;go_wp2_with fail
 exact bodyPost_ret (v:=Zu #[ZZ ZY X,ZZ ZY Y]) qpZ rfl
  ⟨qnI,qnn⟩
theorem Nu (hl:l.length<=maxLen) (t a:Tr) (hlen:t.kZ.length<=1000000) (h:t.kY=3) (h0:t.kZ[0]? =ZV a) (ih:fm l a) (hb:B64 (cmT l a).1):fm l t:=by
 intro w P A cap LA lc hk hc;have HE:=qeS;obtain ⟨s0,s1⟩:=qbd;have s3:=qhd;have s4:(t.kY==4)=Zz:=qoW;have s5:=qcO;obtain ⟨g,o,rfl⟩:=hk.addr h0;have HK:=qfq;have Ha:=qf h0;have l0:0<t.kZ.length:=(List.getElem?_eq_some_iff.1 h0).1;have HN:=qf (fun w=>Hv (cmT l a).1 (cmT l a).2 hb w);have hb0:=qM;obtain ⟨⟨k0,k1,k2,k3,k4,k5,k6,k7⟩,⟨kr0,kr1,kf0,kf1⟩,kz0,kz1,kb⟩:=bD hb0;obtain ⟨hga,Aa,ca,⟨q0,q1,q2,q3,q4,q5,q6,q7⟩,hka⟩:=HK.out.kidAt kb Ha.out;simp only [Nat.zero_mul,Nat.add_zero] at q0 q1 q2 q3 q4 q5 q6 q7;have HC0:=qf (ih _ _ Aa ca LA lc hka (hc.below kb));clear hk hc hl h h0 ih hb hka hga kb kz0 kz1 k0 k1 k2 k3 k4 k5 k6 k7 kr0 kr1 kf0 kf1;generalize cQ [45] 0 0 (cmT l a).1 (cmT l a).2=X at*;generalize cd [45] 0 0 (cmT l a).1 (cmT l a).2=Y at*;go_enter func64,ntmps64;go_wp2_with fail;refine Calls.mono HC0.out ?_;rintro e w1 ⟨rfl,b1⟩;have hb1:=qbs;clear b1 q0 q1 q2 q3 q4 q5 q6 q7;go_wp2_with fail;refine Calls.mono (HN.out _) ?_;rintro e w2 ⟨rfl,b2⟩;have hb2:=qbL;obtain ⟨⟨n0,n1,n2,n3,n4,n5,n6,n7⟩,⟨nr0,nr1,nf0,nf1⟩,nz0,nz1,nb⟩:=bD hb2;clear b2 hb1 hb2 n0 n1 n2 n3 n4 n5 n6 n7 nz0;go_wp2_with fail
 exact bodyPost_ret (v:=Zu #[ZZ ZY X,ZZ ZY Y]) (by simp [results,results64,go_sem,nr0,nr1,nz1,nf0,nf1]) rfl
  ⟨qnI,qnn⟩
theorem MD (hl:l.length<=maxLen) (t a b:Tr) (hlen:t.kZ.length<=1000000) (h:t.kY=4) (h0:t.kZ[0]? =ZV a) (h1:t.kZ[1]? =ZV b) (iha:fm l a) (ihb:fm l b) (hba:B64 (cmT l a).1) (hbb:B64 (cmT l b).1):fm l t:=by
 intro w P A cap LA lc hk hc;have HE:=qdU;obtain ⟨s0,s1⟩:=qbd;obtain ⟨s3,s4⟩:=qeu;have s5:=qcO;obtain ⟨g,o,rfl⟩:=hk.addr h0;have HK:=qfq;have Ha:=qf h0;have Hb:=qf h1;have HC:=qgx;have l1:1<t.kZ.length:=(List.getElem?_eq_some_iff.1 h1).1;have HD:=qf (fun w=>sv ⟨t.wZ.toArray⟩ (cmT l a).1 (cmT l a).2 (cmT l b).1 (cmT l b).2 hba hbb w);rw [show (⟨t.wZ.toArray⟩:ByteArray).data.toList=t.wZ from rfl] at HD;have hb0:=qM;obtain ⟨⟨k0,k1,k2,k3,k4,k5,k6,k7⟩,⟨kr0,kr1,kf0,kf1⟩,kz0,kz1,kb⟩:=bD hb0;obtain ⟨hga,Aa,ca,⟨q0,q1,q2,q3,q4,q5,q6,q7⟩,hka⟩:=HK.out.kidAt kb Ha.out;simp only [Nat.zero_mul,Nat.add_zero] at q0 q1 q2 q3 q4 q5 q6 q7;have HC0:=qf (iha _ _ Aa ca LA lc hka (hc.below kb));clear hk hc hl h h0 h1 iha hba hbb hka hga kz0 kz1 k0 k1 k2 k3 k4 k5 k6 k7 kr0 kr1 kf0 kf1;generalize cQ t.wZ (cmT l a).1 (cmT l a).2 (cmT l b).1 (cmT l b).2=X at*;generalize cd t.wZ (cmT l a).1 (cmT l a).2 (cmT l b).1 (cmT l b).2=Y at*;generalize (vOp t.wZ (cmT l a).1 (cmT l b).1).isSome=Z at*;go_enter func64,ntmps64;go_wp2_with fail;refine Calls.mono HC0.out ?_;rintro e w1 ⟨rfl,b1⟩;have hb1:=qbs;obtain ⟨⟨m0,m1,m2,m3,m4,m5,m6,m7⟩,⟨mr0,mr1,mf0,mf1⟩,mz0,mz1,mb⟩:=bD hb1;obtain ⟨hgb,Ab,cb,⟨p0,p1,p2,p3,p4,p5,p6,p7⟩,hkb⟩:=HK.out.kidAt mb Hb.out;simp only [Nat.one_mul,Nat.add_assoc,Nat.reduceAdd] at p0 p1 p2 p3 p4 p5 p6 p7
 have HC1:=qf fun ob=>ihb (w1.alloc ob) _ Ab cb LA lc (hkb.kept (Kept.of_below ((Below.refl _ w1).alloc qd ob))) ((HC.out.below mb).below ((Below.refl _ w1).alloc qd ob))
 have zg:=qgV;clear b1 q0 q1 q2 q3 q4 q5 q6 q7 kb hkb hgb ihb;go_wp2_with fail;refine Calls.mono (HC1.out _) ?_;rintro e w2 ⟨rfl,b2⟩;have hb2:=qcX;have e0:=af b2 0 (v:=ZZ ZY (cmT l a).1) rfl;have e1:=af b2 1 (v:=ZZ ZY (cmT l a).2) rfl;obtain ⟨⟨n0,n1,n2,n3,n4,n5,n6,n7⟩,⟨nr0,nr1,nf0,nf1⟩,nz0,nz1,nb⟩:=bD hb2;have zw:w1.heap.size<w2.heap.size:=Lib.lt_of_cell e0;clear b2 hb1 m0 m1 m2 m3 m4 m5 m6 m7 mr0 mr1 mf0 mf1 mb p0 p1 p2 p3 p4 p5 p6 p7 HC0 HC1;go_wp2_with fail;refine Calls.mono (HD.out _) ?_;rintro e w3 ⟨rfl,b3⟩;have hb3:=qeV;obtain ⟨⟨r0,r1,r2,r3,r4,r5,r6,r7⟩,⟨rr0,rr1,rf0,rf1⟩,rz0,rz1,rb⟩:=bD hb3;clear b3 hb2 hb3 n0 n1 n2 n3 n4 n5 n6 n7 nr0 nr1 nf0 nf1 nb e0 e1 r0 r1 r2 r3 r4 r5 r6 r7 nz0 mz0 nz1 mz1;go_wp2_with fail
 exact bodyPost_ret (v:=Zu #[ZZ ZY X,ZZ ZY Y]) (by simp [results,results64,go_sem,rr0,rr1,rz1,rf0,rf1]) rfl
  ⟨qnI,qnn⟩
theorem MI (hl:l.length<=maxLen) (t:Tr) (hlen:t.kZ.length<=1000000) (h:t.kY=5) (ih:i4 l t):fm l t:=by
 intro w P A cap LA lc hk hc;obtain ⟨s0,s1⟩:=qbd;obtain ⟨s3,s4⟩:=qcb;have s5:(t.kY==5)=Zy:=qoW;have hb0:=qQ;obtain ⟨⟨k0,k1,k2,k3,k4,k5,k6,k7⟩,⟨kr0,kr1,kf0,kf1⟩,kz0,kz1,kb⟩:=bD hb0;have HC0:=qf (ih _ P A cap LA lc (hk.kept (Kept.of_below kb)) (hc.below kb));have HLL:=qf hl;clear hk hc hl h ih kb kz0 kz1 k0 k1 k2 k3 k4 k5 k6 k7 kr0 kr1 kf0 kf1;generalize cmT l t=X at*;go_enter func64,ntmps64;go_wp2_with fail;refine Calls.mono HC0.out ?_;rintro e w1 ⟨rfl,b1⟩;have hb1:=qbs;obtain ⟨⟨m0,m1,m2,m3,m4,m5,m6,m7⟩,⟨mr0,mr1,mf0,mf1⟩,mz0,mz1,mb⟩:=bD hb1;clear b1 hb1 m0 m1 m2 m3 m4 m5 m6 m7 mz0;go_wp2_with fail
 exact bodyPost_ret (v:=Zu #[ZZ ZY X.1,ZZ ZY X.2]) qpZ rfl
  ⟨rfl,qnn⟩
theorem Dw (hl:l.length<=maxLen) (hcb:∀q∈l,B64 q.n):∀{t:Tr},Wid t->GE t->fm l t:=by
 intro t hW;induction hW with
 |@mk k n c r d s w ks hlw _ ih=>
  intro ge;have hlen:=ge.len;have ihk:∀u∈ks,fm l u:=fun u hu=>ih u hu (ge.kid hu)
  rcases tk ge.may with h|h|h|h|h|h|h
  ·exact MJ hl _ hlen h
  ·exact MN hl _ hlen h
  ·exact yY hl _ hlen qnO qnO qnO qnO qnO (.inl h)
  ·exact yY hl _ hlen qnO qnO qnO qnO qnO (.inr h)
  ·obtain ⟨a,ha⟩:=F6 ge.may h
   have ha:ks=[a]:=ha;subst ha;exact Nu hl _ a hlen h rfl (ihk a qns) ((ge.kid (List.mem_cons_self ..)).b64 hcb)
  ·obtain ⟨a,b,ha⟩:=Fy ge.may h
   have ha:ks=[a,b]:=ha;subst ha;exact MD hl _ a b hlen h rfl rfl (ihk a qns) (ihk b qns) ((ge.kid (u:=a) (by show a∈[a,b];simp)).b64 hcb) ((ge.kid (u:=b) (by show b∈[a,b];simp)).b64 hcb)
  ·refine MI hl _ hlen h ?_
   have hi:=Io hl (.mk k n c r d s w ks) hlen ihk;rcases FL ge.may h with ⟨hw,x,y,z,ha⟩|hw|hw|hw|hw
   ·have ha:ks=[x,y,z]:=ha
    subst ha;by_cases hf:(cmT l x).2=0
    ·by_cases hn:(cmT l x).1=0
     ·exact Jf hl _ x y z hlen h hw rfl rfl rfl ihk hf hn
     ·exact Jn hl _ x y z hlen h hw rfl rfl rfl ihk hf hn
    ·exact GB hl _ x y z hlen h hw rfl rfl rfl ihk hf
   ·exact He hl _ ge hcb h hw hi
   ·exact Id hl _ ge hcb h hw hi
   ·exact I3 hl _ ge hcb h hw hi
   ·exact Cn hl _ ge h hw hi
theorem yI (hl:l.length<=maxLen) (hcb:∀q∈l,B64 q.n) (t:Tr) (hW:Wid t) (hf:Fit t) (hcn:br t<=1000000) (hd:aG t<=1000000000) (w:Z3) (A:Option Addr) (ca:Nat) (LA:Option Addr) (lc:Nat) (hA:KV w (fun _=>True) t A) (hc:fe w LA l):
 Calls ZW 25 #[tv t A ca,Zw LA l.length lc] w fun e w'=>e=ZX (Zu #[ZZ ZY (ofV l t).1,ZZ ZY (ofV l t).2])/\Z2 w.heap.size w w':=by
 have hlen:=hW.len;unfold maxLen at hlen;have H1:=qf (fun w1 (hb:Z2 w.heap.size w w1)=>rN t hd hW w1 (fun _=>True) A ca (hA.kept (Kept.of_below hb)));have HL:=qge
 have H2:Hid (iT t=Zy->ofV l t=cmT l t/\∀w1 (hb:Z2 w.heap.size w w1),Calls ZW 64 #[.agg (Ku.k t A ca),Zw LA l.length lc] w1 fun e w'=>e=ZX (Zu #[ZZ ZY (cmT l t).1,ZZ ZY (cmT l t).2])/\Z2 w1.heap.size w1 w'):=qf fun hr=>by
  rw [f9] at hr;refine ⟨by unfold ofV;rw [if_pos hr],fun w1 hb=>?_⟩;exact Dw hl hcb hW ⟨((ey t).1 hr).2.2,hf,hcn⟩ w1 (fun _=>True) A ca LA lc (hA.kept (Kept.of_below hb)) (hc.below hb)
 have H3:Hid (iT t=Zz->ofV l t=(0,3)):=qf fun hr=>by
  rw [f9] at hr;unfold ofV;rw [if_neg qqx]
 unfold tv at*;clear hA hW hd hf hcn hcb hc hl;cases hR:iT t
 all_goals
  rw [hR] at H1
 ·have HE:=qf (H3.out hR)
  clear H2 H3 hR;go_enter func25,ntmps25;go_wp2_with fail;refine (H1.out _ qqQ).mono ?_;rintro e w1 ⟨rfl,b1⟩;have hb1:=Below.trans (Below.alloc (Below.alloc (Below.refl w.heap.size w) qd (.cells (Ku.k t A ca) 33)) qns (.cells #[ZZ ZY 0,ZZ ZY 0] 61)) (b1.mono qnu);obtain ⟨⟨k0,k1,k2,k3,k4,k5,k6,k7⟩,⟨r0,r1,f0,f1⟩,z0,z1,b0⟩:=bD ((qb:Z2 (w.heap.size+1+1) _ _).trans (b1.mono qns));clear b1 hb1 k0 k1 k2 k3 k4 k5 k6 k7;go_wp2_with fail
  exact bodyPost_ret (v:=Zu #[ZZ ZY 0,ZZ ZY 3]) qqf rfl
   ⟨qnI,qnn⟩
 ·obtain ⟨he,hcm⟩:=H2.out hR
  have HE:=qf he;have HC:=qf hcm;clear H2 H3 hR he hcm;generalize cmT l t=X at*;go_enter func25,ntmps25;go_wp2_with fail;refine (H1.out _ qqQ).mono ?_;rintro e w1 ⟨rfl,b1⟩;have hb1:=qhu;obtain ⟨⟨k0,k1,k2,k3,k4,k5,k6,k7⟩,⟨r0,r1,f0,f1⟩,z0,z1,b0⟩:=bD hb1;clear b1;go_wp2_with fail;refine (HC.out w1 b0).mono ?_;rintro e w2 ⟨rfl,b2⟩;have hb2:=qbL;clear k0 k1 k2 k3 k4 k5 k6 k7 r0 r1 f0 f1 z0 z1;obtain ⟨_,⟨r0,r1,f0,f1⟩,z0,z1,b0'⟩:=bD hb2;clear b2 hb1 hb2;go_wp2_with fail
  exact bodyPost_ret (v:=Zu #[ZZ ZY X.1,ZZ ZY X.2]) qqf rfl
   ⟨qnI,qnn⟩
