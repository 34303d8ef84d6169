import Derived.Test.YteglaomdgdkibaaGreatDoorJNS26
import Derived.Deep.LoopGhost
import Derived.Test.YteglaomdgdkibaaGreatDoorJQNSP
import Derived.Test.YteglaomdgdkibaaGreatDoorJQNSW
set_option linter.all false
set_option maxHeartbeats 0
set_option maxRecDepth 99999
namespace Go.Proofs.YteglaomdgdkibaaGreatDoor
open Go.RowKit
open Value renaming int→ZZ,string→Zx,slice→Zw,pointer→Zv
open IntKind renaming i64→ZY
open Ending renaming returned→ZX
open Go renaming World→Z3
open Tryz
open Tryz renaming prog→ZW
open Option renaming some→ZV,none→ZU
open Bool renaming false→Zz
variable {L:List Tok}{E R cap k lev n:Nat}{a:Option Res}{g:Got}{st:St}{ot:Option Tr}{A:Option Addr}
def restS (L:List Tok) (E n lev:Nat):Got->Option Got
 |(.out x,_)=>ZV (.out x,ZU)
 |(.run p,ZV t)=>toS (bC L E n lev t p)
 |(.run _,ZU)=>ZU
theorem I0 (h:toS (Res.next a fun t q=>bC L E n lev t q)=ZV g):∃g1,toS a=ZV g1/\restS L E n lev g1=ZV g:=by
 rcases fR h with ⟨t,q,e,e2⟩|⟨x,e,rfl⟩
 ·exact ⟨_,e,e2⟩
 ·exact ⟨_,e,rfl⟩
theorem Gw (h:restS L E n lev (st,ot)=ZV g) (hl:eK L st≠lev):g.1=st/\(g.2=ot\/g.2=ZU):=by
 cases st with
 |out x=>obtain rfl:=Option.some.inj h;exact ⟨rfl,.inr rfl⟩
 |run p=>
  cases ot with
  |none=>cases h
  |some t=>
   have h2:toS (bC L E n lev t p)=ZV g:=h;cases n with
   |zero=>rw [bC] at h2;cases h2
   |succ n=>
    rw [bC,if_neg (show ¬aJ L p=lev from hl)] at h2;obtain rfl:(.run p,ZV t)=g:=Option.some.inj h2;exact ⟨rfl,.inl rfl⟩
theorem Fw (h:restS L E n lev (st,ot)=ZV g) (hl:eK L st=lev) (h1:1<=lev):
 ∃p t n' u g2,st=.run p/\ot=ZV t/\n=n'+1/\L[p]? =ZV u/\toS (ak L E n' (lev+1) (p+1))=ZV g2/\restS L E n' lev (g2.1,g2.2.map fun t2=>opT u.text t t2)=ZV g:=by
 cases st with
 |out x=>exact absurd hl (by show ¬(0=lev);omega)
 |run p=>
  cases ot with
  |none=>cases h
  |some t=>
   have h2:toS (bC L E n lev t p)=ZV g:=h;cases n with
   |zero=>rw [bC] at h2;cases h2
   |succ n=>
    have hp:=lz (show aJ L p=lev from hl) h1;have hu:L[p]? =ZV (L[p]'hp):=List.getElem?_eq_getElem hp;have ht:(L.map Tok.text).getD p []=(L[p]'hp).text:=(by simp [List.getD_eq_getElem?_getD,hu]);rw [bC,if_pos (show aJ L p=lev from hl),ht] at h2;rcases fR h2 with ⟨t2,q,e,e2⟩|⟨x,e,rfl⟩
    ·exact ⟨p,t,n,L[p]'hp,(.run q,ZV t2),rfl,rfl,rfl,hu,e,e2⟩
    ·exact ⟨p,t,n,L[p]'hp,(.out x,ZU),rfl,rfl,rfl,hu,e,rfl⟩
structure LR (w wr:Z3) (R:Nat) (A:Option Addr) (cap:Nat) (L:List Tok) (E O:Nat) (x:V8) (st:St) (ot:Option Tr):Prop where
 rs:RS wr R A cap L E st
 but:But R w wr
 ho:O<wr.heap.size
 hk:w.heap.size<wr.heap.size
 tv:TV wr (fun b=>w.heap.size<b/\b≠O) x ot
 k0:wr.cell? ⟨w.heap.size,0,ZU⟩=ZV (ZZ ZY 0)
 k1:wr.cell? ⟨w.heap.size,1,ZU⟩=ZV (ZZ ZY 0)
 k2:wr.cell? ⟨w.heap.size,2,ZU⟩=ZV (ZZ ZY 0)
 k3:wr.cell? ⟨w.heap.size,3,ZU⟩=ZV (ZZ ZY 0)
 k4:wr.cell? ⟨w.heap.size,4,ZU⟩=ZV (ZZ ZY 0)
 k5:wr.cell? ⟨w.heap.size,5,ZU⟩=ZV (ZZ ZY 0)
 k6:wr.cell? ⟨w.heap.size,6,ZU⟩=ZV (Zx ⟨#[]⟩)
 k7:wr.cell? ⟨w.heap.size,7,ZU⟩=ZV (Zw ZU 0 0)
 kf0:wr.frozen? ⟨w.heap.size,0,ZU⟩=Zz
 kf1:wr.frozen? ⟨w.heap.size,1,ZU⟩=Zz
 kf2:wr.frozen? ⟨w.heap.size,2,ZU⟩=Zz
 kf3:wr.frozen? ⟨w.heap.size,3,ZU⟩=Zz
 kf4:wr.frozen? ⟨w.heap.size,4,ZU⟩=Zz
 kf5:wr.frozen? ⟨w.heap.size,5,ZU⟩=Zz
 kf6:wr.frozen? ⟨w.heap.size,6,ZU⟩=Zz
 kf7:wr.frozen? ⟨w.heap.size,7,ZU⟩=Zz
 o0:wr.cell? ⟨O,0,ZU⟩=ZV (ZZ ZY x.n0)
 o1:wr.cell? ⟨O,1,ZU⟩=ZV (ZZ ZY x.n1)
 o2:wr.cell? ⟨O,2,ZU⟩=ZV (ZZ ZY x.n2)
 o3:wr.cell? ⟨O,3,ZU⟩=ZV (ZZ ZY x.n3)
 o4:wr.cell? ⟨O,4,ZU⟩=ZV (ZZ ZY x.n4)
 o5:wr.cell? ⟨O,5,ZU⟩=ZV (ZZ ZY x.n5)
 o6:wr.cell? ⟨O,6,ZU⟩=ZV (.string x.s)
 o7:wr.cell? ⟨O,7,ZU⟩=ZV (Zw x.A x.len x.cap)
 of0:wr.frozen? ⟨O,0,ZU⟩=Zz
 of1:wr.frozen? ⟨O,1,ZU⟩=Zz
 of2:wr.frozen? ⟨O,2,ZU⟩=Zz
 of3:wr.frozen? ⟨O,3,ZU⟩=Zz
 of4:wr.frozen? ⟨O,4,ZU⟩=Zz
 of5:wr.frozen? ⟨O,5,ZU⟩=Zz
 of6:wr.frozen? ⟨O,6,ZU⟩=Zz
 of7:wr.frozen? ⟨O,7,ZU⟩=Zz
theorem Bq (hL:L.length<=1000) (hP:bl R A cap L E 136 #[Zv (ZV ⟨R,0,ZU⟩)] (bR L E k)):bl R A cap L E 86 #[Zv (ZV ⟨R,0,ZU⟩),ZZ ZY 4] (ak L E (k+1) 4):=by
 refine bl.of (lO hL) fun w p g hr hk hg=>?_
 rw [ak,if_pos qnv] at hg;obtain ⟨st1,ot1⟩:=g;have HP:=qgy;have HG:=qf hg;obtain ⟨HR,HT,hlt,nk⟩:=qP;clear hP hg hr hk;go_enter func86,ntmps86;go_wp2_with fail;refine (HP.out _ (.run p) (st1,ot1) (have hv:=HR.out;qnl) (HT.out.but qno) HG.out).mono ?_;rintro e w1 ⟨⟨a0,a1,a2,a3,a4,a5,aw,aA,al,ac⟩,rfl,v1,r1,b1⟩;have h1:=qm;have zk1:=qbR;obtain ⟨k10,k11,k12,k13,k14,k15,k16,k17,kf10,kf11,kf12,kf13,kf14,kf15,kf16,kf17,y1⟩:=qaf;obtain ⟨HR1,HV1⟩:=qdp;clear b1 r1 v1;dsimp only [V8.val];go_wp2_with fail;exact bodyPost_ret (v:=.agg #[ZZ ZY a0,ZZ ZY a1,ZZ ZY a2,ZZ ZY a3,ZZ ZY a4,ZZ ZY a5,.string aw,Zw aA al ac]) qpG rfl ⟨⟨a0,a1,a2,a3,a4,a5,aw,aA,al,ac⟩,rfl,((HV1.out.kept qnm).imp fun b (hb:w.heap.size<b)=>Nat.le_of_lt hb),(have hv:=HR1.out;qnl),(have hv:=h1;qni)⟩
theorem l9 (lev:Nat) (l1:1<=lev) (l3:lev<=3) (hL:L.length<=1000) (hO:jq R A cap L E 86 #[Zv (ZV ⟨R,0,ZU⟩),ZZ ZY (lev:Int)]) (hP:∀j,j<=k->bl R A cap L E 86 #[Zv (ZV ⟨R,0,ZU⟩),ZZ ZY ((lev:Int)+1)] (ak L E j (lev+1))):bl R A cap L E 86 #[Zv (ZV ⟨R,0,ZU⟩),ZZ ZY (lev:Int)] (ak L E (k+1) lev):=by
 have dg:decide ((3:Int)<(lev:Int))=Zz:=decide_eq_false qoq;refine bl.of hO fun w p g hr hk hg=>?_
 rw [ak,if_neg qoq] at hg;obtain ⟨g1,hg1,hg2⟩:=I0 hg;obtain ⟨st1,ot1⟩:=g1;have HP:=qgy;have HP1:=qf (hP k qd);have HG:=qf hg1;have HG2:=qf hg2;obtain ⟨HR,HT,hlt,nk⟩:=qP;clear hP hg hg1 hg2 hr hk;go_enter func86,ntmps86;go_wp2_with fail;refine (HP1.out _ (.run p) (st1,ot1) (have hv:=HR.out;qnl) (HT.out.but qno) HG.out).mono ?_;rintro e w1 ⟨⟨a0,a1,a2,a3,a4,a5,aw,aA,al,ac⟩,rfl,v1,r1,b1⟩;have h1:=qm;have zk1:=qbR;obtain ⟨k10,k11,k12,k13,k14,k15,k16,k17,kf10,kf11,kf12,kf13,kf14,kf15,kf16,kf17,y1⟩:=qaf;obtain ⟨HR1,HV1⟩:=qdp;clear b1 r1 v1;dsimp only [V8.val];go_wp2_with fail;have hO:Hid (w1.heap.size=w1.heap.size):=qf rfl;go_loopg [6] k (fun n _ wr=>∃(x:V8) (st:St) (ot:Option Tr),n<=k/\Hid (LR w wr R A cap L E w1.heap.size x st ot)/\Hid (restS L E n lev (st,ot)=ZV g))
 case atStart=>
  refine ⟨⟨a0,a1,a2,a3,a4,a5,aw,aA,al,ac⟩,st1,ot1,qd,qf ?_,HG2⟩;have no:w1.heap.size≠R:=qoq
  exact ⟨HR1.out.alloc _,h1.alloc _,qns,qnu,by
   refine TV.imp (P:=fun b=>w.heap.size<b/\b≠w1.heap.size) ?_ fun b hb=>hb
   exact (TV.fresh HV1.out).kept ((Kept.refl _ _).alloc _),ai k10 _,ai k11 _,ai k12 _,ai k13 _,ai k14 _,ai k15 _,ai k16 _,ai k17 _,aF kf10 y1 _,aF kf11 y1 _,aF kf12 y1 _,aF kf13 y1 _,aF kf14 y1 _,aF kf15 y1 _,aF kf16 y1 _,aF kf17 y1 _,qnp,qnp,qnp,qnp,qnp,qnp,qnp,qnp,qnp,qnp,qnp,qnp,qnp,qnp,qnp,qnp⟩
 case round=>
  obtain ⟨x,st,ot,hn,HL,HN⟩:=hrel;obtain ⟨c0,c1,c2,c3,c4,c5,cw,cA,cl,cc⟩:=x;have lr:=HL.out;have h2:=lr.but;have HR2:=qf lr.rs;have y2:=lr.hk;have zo2:=lr.ho;have zk2:=lr.hk;obtain ⟨HO2,k20,k21,k22,k23,k24,k25,k26,k27,kf20,kf21,kf22,kf23,kf24⟩:=qbe;obtain ⟨kf25,kf26,kf27,o20,o21,o22,o23⟩:=qcy;obtain ⟨o24,o25,o26,o27,of20,of21,of22,of23,of24,of25,of26,of27,no,nko⟩:=qaK;clear lr HL k10 kf10 k11 kf11 k12 kf12 k13 kf13 k14 kf14 k15 kf15 k16 kf16 k17 kf17 HR1 HV1 hO;cases hv:decide (eK L st=lev) with
  |false=>
   have hl:eK L st≠lev:=of_decide_eq_false hv;obtain ⟨ge1,ge2⟩:=Gw HN.out hl;have HGE:=qf (And.intro ge1 ge2);have d0:((eK L st:Int) !=(lev:Int))=true:=(by rw [bne_iff_ne];omega);clear ge1 ge2 hv hl HN;go_wp2_with fail;refine (lE (R:=R) (A:=A) (cap:=cap) (L:=L) (E:=E) (st:=st) hL (have hv:=HR2.out;qnw) (HT.out.but (have hv:=h2;qni))).mono ?_;rintro e w3 ⟨rfl,b3⟩;obtain ⟨h3,zk3,k30,k31,k32,k33,k34,k35,k36,k37,kf30,kf31,kf32,kf33,kf34,kf35,kf36,kf37,zo3,o30,o31,o32,o33,o34,o35,o36,o37,of30,of31,of32,of33,of34,of35,of36,of37,y3⟩:=qaR;have HR3:Hid (RS w3 R A cap L E st):=qf (RS.below (have hv:=HR2.out;qnw) b3);have HO3:=qf (HO2.out.kept (Kept.of_below b3));clear b3 k20 k21 k22 k23 k24 k25 k26 k27 kf20 kf21 kf22 kf23 kf24 kf25 kf26 kf27 zk2 o20 o21 o22 o23 o24 o25 o26 o27 of20 of21 of22 of23 of24 of25 of26 of27 zo2;go_wp2_with fail;have HRg:=qhj
   exact bodyPost_ret (v:=.agg #[ZZ ZY c0,ZZ ZY c1,ZZ ZY c2,ZZ ZY c3,ZZ ZY c4,ZZ ZY c5,.string cw,Zw cA cl cc]) (by simp [results,results86,go_sem,k30,k31,k32,k33,k34,k35,k36,k37]) rfl ⟨⟨c0,c1,c2,c3,c4,c5,cw,cA,cl,cc⟩,rfl,(by
    have hx:TV w3 (fun b=>w.heap.size<b/\b≠w1.heap.size) ⟨c0,c1,c2,c3,c4,c5,cw,cA,cl,cc⟩ g.2:=by
     rcases HGE.out.2 with e|e
     ·rw [e];exact HO3.out
     ·rw [e];trivial
    exact (hx.kept qnm).imp fun b (hb:w.heap.size<b/\_)=>Nat.le_of_lt hb.1),(have hv:=HRg.out;qnw),(have hv:=h3;qni)⟩
  |true=>
   have hl:eK L st=lev:=of_decide_eq_true hv;obtain ⟨p',t,n',u,g2,rfl,rfl,rfl,hu,he,hrest⟩:=Fw HN.out hl l1;obtain ⟨st2,ot2⟩:=g2;have HU:=qf hu;have HE2:=qf he;have HRE:=qf hrest;have hp':p'<L.length:=(List.getElem?_eq_some_iff.1 hu).1;have HPn:=qgI;have d0:((eK L (.run p'):Int) !=(lev:Int))=Zz:=(by rw [bne_eq_false_iff_eq];omega);clear hu he hrest hv hl HN;go_wp2_with fail;refine (lE (R:=R) (A:=A) (cap:=cap) (L:=L) (E:=E) (st:=.run p') hL (have hv:=HR2.out;qnw) (HT.out.but (have hv:=h2;qni))).mono ?_;rintro e w3 ⟨rfl,b3⟩;obtain ⟨h3,zk3,k30,k31,k32,k33,k34,k35,k36,k37,kf30,kf31,kf32,kf33,kf34,kf35,kf36,kf37,zo3,o30,o31,o32,o33,o34,o35,o36,o37,of30,of31,of32,of33,of34,of35,of36,of37,y3⟩:=qaR;have HR3:Hid (RS w3 R A cap L E (.run p')):=qf (RS.below (have hv:=HR2.out;qnw) b3);have HO3:=qf (HO2.out.kept (Kept.of_below b3));have HS3:Hid (∀n,RS ((w3.drewN n).setCell ⟨R,1,ZU⟩ (ZZ ZY ((p':Int)+1))) R A cap L E (.run (p'+1))):=qf fun n=>(HR3.out.drewN n).step hp' qoq
   clear b3 k20 k21 k22 k23 k24 k25 k26 k27 kf20 kf21 kf22 kf23 kf24 kf25 kf26 kf27 zk2 o20 o21 o22 o23 o24 o25 o26 o27 of20 of21 of22 of23 of24 of25 of26 of27 zo2;obtain ⟨_,_,hc⟩:=HR3.out;have c0':=hc.c0;have c1':=hc.c1;have cf1':=hc.f1;clear hc;obtain ⟨g',hA,hgR,hgl,_,_,_,_,t4,_⟩:=(HT.out.but h3).at HU.out;rw [hA] at c0';have zR3:R<w3.heap.size:=qoq;have zo3':w1.heap.size<w3.heap.size:=zo3;clear hA;go_wp2_with fail;go_quiet (fail)
   go_wp2_with fail;refine (HPn.out _ (.run (p'+1)) (st2,ot2) (by with_reducible repeat' (first|exact HS3.out _|refine zRf ?_ nk _ _|refine zRf ?_ no _ _|refine zRa ?_ _|refine zRn ?_ _|refine zRd ?_)) (HT.out.but (have hv:=h3;qni)) HE2.out).mono ?_;rintro e w4 ⟨⟨f0,f1,f2,f3,f4,f5,fw,fA,fl,fc⟩,rfl,v4,r4,b4⟩;obtain ⟨h4,zk4,k40,k41,k42,k43,k44,k45,k46,k47,Hkf4⟩:=qaY;obtain ⟨kf40,kf41,kf42,kf43,kf44,kf45,kf46,kf47⟩:=Hkf4;have zo4:w1.heap.size<w4.heap.size:=qom;have Ho4:=bt (B:=w1.heap.size) (fun j v hv=>b4.cell no qnj) o30 o31 o32 o33 o34 o35 o36 o37;obtain ⟨o40,o41,o42,o43,o44,o45,o46,o47⟩:=Ho4;have Hof4:=bq (B:=w1.heap.size) (fun j hv=>b4.frozen no qnt qnq) of30 of31 of32 of33 of34 of35 of36 of37;obtain ⟨of40,of41,of42,of43,of44,of45,of46,of47⟩:=Hof4;have y4:w.heap.size<w4.heap.size:=zk4;have HR4:Hid (RS w4 R A cap L E st2):=qf r4;have HO4:Hid (TV w4 (fun b=>w.heap.size<b/\b≠w1.heap.size) ⟨c0,c1,c2,c3,c4,c5,cw,cA,cl,cc⟩ (ZV t)):=qf (HO3.out.kept (Kept.but qnm b4 fun h=>by have:=h.1;omega));have HV4:Hid (TV w4 (fun b=>w.heap.size<b/\b≠w1.heap.size) ⟨f0,f1,f2,f3,f4,f5,fw,fA,fl,fc⟩ ot2):=qf (v4.imp fun b hb=>by have hb2:_<=b:=hb;simp at hb2;exact ⟨qoq,qoq⟩)
   clear v4 c0' c1' cf1' t4 b4 r4 k30 k31 k32 k33 k34 k35 k36 k37 kf30 kf31 kf32 kf33 kf34 kf35 kf36 kf37 zk3 o30 o31 o32 o33 o34 o35 o36 o37 of30 of31 of32 of33 of34 of35 of36 of37 zo3;dsimp only [V8.val];go_wp2_with fail;go_roundg n'
   case measure=>omega
   case rel=>
    refine ⟨⟨4,0,0,0,0,0,⟨u.text.toArray⟩,ZV ⟨w4.heap.size+1,0,ZU⟩,2,2⟩,st2,ot2.map fun t2=>opT u.text t t2,qoq,qf ?_,HRE⟩;refine ⟨(have hv:=HR4.out;qnw),(have hv:=h4;qni),qor,qor,?_,?_,?_,?_,?_,?_,?_,?_,?_,?_,?_,?_,?_,?_,?_,?_,?_,?_,?_,?_,?_,?_,?_,?_,?_,?_,?_,?_,?_,?_,?_,?_,?_⟩
    ·exact TV.node2 4 u.text ⟨c0,c1,c2,c3,c4,c5,cw,cA,cl,cc⟩ ⟨f0,f1,f2,f3,f4,f5,fw,fA,fl,fc⟩ t ot2 (by exact ⟨qoq,qoq⟩) qnV ⟨qnp,qnp,qnp,qnp,qnp,qnp,qnp,qnp⟩ ⟨qnp,qnp,qnp,qnp,qnp,qnp,qnp,qnp⟩ (HO4.out.kept qnm) (HV4.out.kept qnm)
    ·(with_reducible repeat' (first|exact k40|refine zCs ?_ qoq _ _|refine zCa ?_ _|refine zCn ?_ _|refine zCd ?_))
    ·(with_reducible repeat' (first|exact k41|refine zCs ?_ qoq _ _|refine zCa ?_ _|refine zCn ?_ _|refine zCd ?_))
    ·(with_reducible repeat' (first|exact k42|refine zCs ?_ qoq _ _|refine zCa ?_ _|refine zCn ?_ _|refine zCd ?_))
    ·(with_reducible repeat' (first|exact k43|refine zCs ?_ qoq _ _|refine zCa ?_ _|refine zCn ?_ _|refine zCd ?_))
    ·(with_reducible repeat' (first|exact k44|refine zCs ?_ qoq _ _|refine zCa ?_ _|refine zCn ?_ _|refine zCd ?_))
    ·(with_reducible repeat' (first|exact k45|refine zCs ?_ qoq _ _|refine zCa ?_ _|refine zCn ?_ _|refine zCd ?_))
    ·(with_reducible repeat' (first|exact k46|refine zCs ?_ qoq _ _|refine zCa ?_ _|refine zCn ?_ _|refine zCd ?_))
    ·(with_reducible repeat' (first|exact k47|refine zCs ?_ qoq _ _|refine zCa ?_ _|refine zCn ?_ _|refine zCd ?_))
    ·(with_reducible repeat' (first|exact kf40|refine zFs ?_ qoq _ _|refine zFa ?_ qor _|refine zFn ?_ _|refine zFd ?_))
    ·(with_reducible repeat' (first|exact kf41|refine zFs ?_ qoq _ _|refine zFa ?_ qor _|refine zFn ?_ _|refine zFd ?_))
    ·(with_reducible repeat' (first|exact kf42|refine zFs ?_ qoq _ _|refine zFa ?_ qor _|refine zFn ?_ _|refine zFd ?_))
    ·(with_reducible repeat' (first|exact kf43|refine zFs ?_ qoq _ _|refine zFa ?_ qor _|refine zFn ?_ _|refine zFd ?_))
    ·(with_reducible repeat' (first|exact kf44|refine zFs ?_ qoq _ _|refine zFa ?_ qor _|refine zFn ?_ _|refine zFd ?_))
    ·(with_reducible repeat' (first|exact kf45|refine zFs ?_ qoq _ _|refine zFa ?_ qor _|refine zFn ?_ _|refine zFd ?_))
    ·(with_reducible repeat' (first|exact kf46|refine zFs ?_ qoq _ _|refine zFa ?_ qor _|refine zFn ?_ _|refine zFd ?_))
    ·(with_reducible repeat' (first|exact kf47|refine zFs ?_ qoq _ _|refine zFa ?_ qor _|refine zFn ?_ _|refine zFd ?_))
    ·simp [go_sem,o40,zo4]
    ·simp [go_sem,o41,zo4]
    ·simp [go_sem,o42,zo4]
    ·simp [go_sem,o43,zo4]
    ·simp [go_sem,o44,zo4]
    ·simp [go_sem,o45,zo4]
    ·simp [go_sem,o46,zo4]
    ·simp [go_sem,o47,zo4]
    ·simp [go_sem,of40,zo4]
    ·simp [go_sem,of41,zo4]
    ·simp [go_sem,of42,zo4]
    ·simp [go_sem,of43,zo4]
    ·simp [go_sem,of44,zo4]
    ·simp [go_sem,of45,zo4]
    ·simp [go_sem,of46,zo4]
    ·simp [go_sem,of47,zo4]
theorem TV.or {w:Z3} {P:Nat->Prop} {x:V8} {ou:Option Tr} (h:TV w P x ot) (e:ou=ot\/ou=ZU):TV w P x ou:=by
 rcases e with rfl|rfl
 ·exact h
 ·trivial
theorem Mw (h:toS (Res.next a fun t q=>az L E q [41] fun q=>ZV (.ok t q))=ZV g):
 ∃g1,toS a=ZV g1/\g.1=cj L E [41] g1.1/\(g.2=g1.2\/g.2=ZU):=by
 rcases fR h with ⟨t,q,e,e2⟩|⟨x,e,rfl⟩
 ·refine ⟨_,e,?_⟩
  rcases jG e2 with ⟨q2,m,e3⟩|⟨x,m,rfl⟩
  ·obtain rfl:(.run q2,ZV t)=g:=Option.some.inj e3
   exact ⟨m.symm,.inl rfl⟩
  ·exact ⟨m.symm,.inr rfl⟩
 ·exact ⟨_,e,rfl,.inr rfl⟩
theorem Fo (R:Nat) (A:Option Addr) (cap:Nat) (L:List Tok) (E:Nat) (hL:L.length<=1000) (w:Z3) (p:Nat) (hr:RS w R A cap L E (.run p)) (hk:TK w R A L) (hP:bl R A cap L E 86 #[Zv (ZV ⟨R,0,ZU⟩),ZZ ZY 1] (ak L E k 1)) (g:Got) (hm:ag L p [40]=true) (hg:toS (Res.next (ak L E k 1 (p+1)) fun t q=>az L E q [41] fun q=>ZV (.ok t q))=ZV g):Calls ZW 194 #[Zv (ZV ⟨R,0,ZU⟩)] w fun e w'=>∃x:V8,e=ZX x.val/\TV w' (fun b=>w.heap.size<=b) x (g.2)/\RS w' R A cap L E (g.1)/\But R w w':=by
 obtain ⟨g1,hg1,ge1,ge2⟩:=Mw hg;obtain ⟨st1,ot1⟩:=g1;have HP:=qgy;have HG:=qf hg1;have HGE:=qf (And.intro ge1 ge2);have hp:=fu hm;have HM:=qgz;obtain ⟨HR,HT,hlt,nk⟩:=qP;clear hP hg hg1 ge1 ge2 hm hr hk;go_enter func194,ntmps194;go_wp2_with fail;refine .mono qsl ?_;rintro e w1 ⟨rfl,b1⟩;obtain ⟨h1,zk1,k10,k11,k12,k13,k14,k15,k16,k17,kf10,kf11,kf12,kf13,kf14,kf15,kf16,kf17,y1,HR1⟩:=qg;have e1:fF L 0 [40] (.run p)=true:=HM.out;clear b1;obtain ⟨_,_,hc⟩:=HR1.out;obtain ⟨c1,cf1,HS1⟩:=qeB;clear hc;go_wp2_with fail;refine .mono qsg ?_;rintro e w2 ⟨⟨a0,a1,a2,a3,a4,a5,aw,aA,al,ac⟩,rfl,v2,r2,b2⟩;have h2:=qC;obtain ⟨zk2,k20,k21,k22,k23,k24,k25,k26,k27,kf20,kf21,kf22,kf23,kf24,kf25,kf26,kf27,y2⟩:=qac;obtain ⟨HR2,HV2⟩:=qbT;clear b2 r2 k10 k11 k12 k13 k14 k15 k16 k17 kf10 kf11 kf12 kf13 kf14 kf15 kf16 kf17 zk1 c1 cf1 v2;dsimp only [V8.val];go_wp2_with fail;have no:w2.heap.size≠R:=qoq;refine (eU (R:=R) (A:=A) (cap:=cap) (L:=L) (E:=E) (st:=st1) ⟨#[41]⟩ hL (have hv:=HR2.out;qnw) (HT.out.but (have hv:=h2;qni))).mono ?_;rintro e w3 ⟨rfl,r3,b3⟩;obtain ⟨h3,zk3,k30,k31,k32,k33,k34,k35,k36,k37,kf30,kf31,kf32,kf33,kf34,kf35,kf36,kf37⟩:=qi;have zo3:w2.heap.size<w3.heap.size:=qqh
 have Ho3:C8 w3 (w2.heap.size) (ZZ ZY a0) (ZZ ZY a1) (ZZ ZY a2) (ZZ ZY a3) (ZZ ZY a4) (ZZ ZY a5) (.string aw) (Zw aA al ac):=(by refine ⟨?_,?_,?_,?_,?_,?_,?_,?_⟩<;>exact b3.cell no qnp);obtain ⟨o30,o31,o32,o33,o34,o35,o36,o37⟩:=Ho3;have y3:=qeE;have HR3:Hid (RS w3 R A cap L E (cj L E [41] st1)):=qf r3;have HV3:Hid (TV w3 (fun b=>w.heap.size<b) ⟨a0,a1,a2,a3,a4,a5,aw,aA,al,ac⟩ ot1):=qf (HV2.out.kept (Kept.but qnm b3 fun h=>by have:=h;omega));clear b3 r3 k20 k21 k22 k23 k24 k25 k26 k27 kf20 kf21 kf22 kf23 kf24 kf25 kf26 kf27 zk2;go_wp2_with fail;have HRg:=qhj;exact bodyPost_ret (v:=.agg #[ZZ ZY a0,ZZ ZY a1,ZZ ZY a2,ZZ ZY a3,ZZ ZY a4,ZZ ZY a5,.string aw,Zw aA al ac]) (by simp [results,results194,go_sem,k30,k31,k32,k33,k34,k35,k36,k37]) rfl ⟨⟨a0,a1,a2,a3,a4,a5,aw,aA,al,ac⟩,rfl,(((HV3.out.or HGE.out.2).kept qnm).imp fun b (hb:w.heap.size<b)=>Nat.le_of_lt hb),(have hv:=HRg.out;qnw),(have hv:=h3;qni)⟩
theorem Dt (R:Nat) (A:Option Addr) (cap:Nat) (L:List Tok) (E:Nat) (hL:L.length<=1000) (w:Z3) (p:Nat) (hr:RS w R A cap L E (.run p)) (hk:TK w R A L) (hm:ag L p [40]=Zz) (ho:¬p<L.length):Calls ZW 194 #[Zv (ZV ⟨R,0,ZU⟩)] w fun e w'=>∃x:V8,e=ZX x.val/\TV w' (fun b=>w.heap.size<=b) x (ZU)/\RS w' R A cap L E (.out (whr L E p))/\But R w w':=by
 obtain ⟨HR,HT,hlt,nk⟩:=qP;have HM:=qgz;have ho':=ho;clear hr hk hm ho;go_enter func194,ntmps194;go_wp2_with fail;refine .mono qsl ?_;rintro e w1 ⟨rfl,b1⟩;obtain ⟨h1,zk1,k10,k11,k12,k13,k14,k15,k16,k17,kf10,kf11,kf12,kf13,kf14,kf15,kf16,kf17,y1,HR1⟩:=qg;have e1:=qcR;clear b1;obtain ⟨_,_,hc⟩:=HR1.out;obtain ⟨c0,c1,c3,cf1⟩:=qbr;have d1:=qhX;clear hc;go_wp2_with fail;go_quiet (fail)
 go_wp2_with fail;clear c0 c1 c3 cf1;exact qiF
theorem Ai (R:Nat) (A:Option Addr) (cap:Nat) (L:List Tok) (E:Nat) (hL:L.length<=1000) (w:Z3) (p:Nat) (hr:RS w R A cap L E (.run p)) (hk:TK w R A L) (hm:ag L p [40]=Zz) (t:Tok) (ht:L[p]? =ZV t) (k5:(t.kY==5)=true):Calls ZW 194 #[Zv (ZV ⟨R,0,ZU⟩)] w fun e w'=>∃x:V8,e=ZX x.val/\TV w' (fun b=>w.heap.size<=b) x (ZU)/\RS w' R A cap L E (.out (whr L E p))/\But R w w':=by
 obtain ⟨HR,HT,hlt,nk⟩:=qP;have HM:=qgz;obtain ⟨HX,hp⟩:=qbm;clear hr hk hm ht;go_enter func194,ntmps194;go_wp2_with fail;refine .mono qsl ?_;rintro e w1 ⟨rfl,b1⟩;obtain ⟨h1,zk1,k10,k11,k12,k13,k14,k15,k16,k17,kf10,kf11,kf12,kf13,kf14,kf15,kf16,kf17,y1,HR1⟩:=qg;have e1:=qcR;clear b1;obtain ⟨_,_,hc⟩:=HR1.out;obtain ⟨c0,c1,c3,cf1⟩:=qbr;clear hc;obtain ⟨ga1,hA,hgaR1,hgal1,t0,t1,t2,t3,t4,t5⟩:=(HT.out.but h1).at HX.out;rw [hA] at c0;obtain ⟨d11,zR1⟩:=qbQ;clear hA;go_wp2_with fail;go_quiet (fail)
 go_wp2_with fail;clear c0 c1 c3 cf1 t0 t1 t2 t3 t4 t5;exact qiF
theorem Ej (R:Nat) (A:Option Addr) (cap:Nat) (L:List Tok) (E:Nat) (hL:L.length<=1000) (w:Z3) (p:Nat) (hr:RS w R A cap L E (.run p)) (hk:TK w R A L) (hm:ag L p [40]=Zz) (t:Tok) (ht:L[p]? =ZV t) (k5:(t.kY==5)=Zz) (k1:(t.kY==1)=true):Calls ZW 194 #[Zv (ZV ⟨R,0,ZU⟩)] w fun e w'=>∃x:V8,e=ZX x.val/\TV w' (fun b=>w.heap.size<=b) x (ZV (ik t.num))/\RS w' R A cap L E (.run (p+1))/\But R w w':=by
 obtain ⟨HR,HT,hlt,nk⟩:=qP;have HM:=qgz;obtain ⟨HX,hp⟩:=qbm;clear hr hk hm ht;go_enter func194,ntmps194;go_wp2_with fail;refine .mono qsl ?_;rintro e w1 ⟨rfl,b1⟩;obtain ⟨h1,zk1,k10,k11,k12,k13,k14,k15,k16,k17,kf10,kf11,kf12,kf13,kf14,kf15,kf16,kf17,y1,HR1⟩:=qg;have e1:=qcR;clear b1;obtain ⟨_,_,hc⟩:=HR1.out;obtain ⟨c0,c1,c3,cf1⟩:=qbr;clear hc;obtain ⟨ga1,hA,hgaR1,hgal1,t0,t1,t2,t3,t4,t5⟩:=(HT.out.but h1).at HX.out;rw [hA] at c0;obtain ⟨d11,zR1⟩:=qbQ;clear hA;go_wp2_with fail;go_quiet (fail)
 clear c0 c1 c3 cf1 t0 t1 t2 t3 t4 t5 zR1;go_wp2_with fail;generalize hq2:w1.drewN nq=w2;have b2:=qcH;obtain ⟨h2,zk2,k20,k21,k22,k23,k24,k25,k26,k27,kf20,kf21,kf22,kf23,kf24,kf25,kf26,kf27⟩:=qh;obtain ⟨y2,HR2⟩:=qF;clear hq2 b2 k10 k11 k12 k13 k14 k15 k16 k17 kf10 kf11 kf12 kf13 kf14 kf15 kf16 kf17 zk1;obtain ⟨_,_,hc⟩:=HR2.out;obtain ⟨c0,c1,c3,cf1⟩:=qbr;clear hc;obtain ⟨ga2,hA,hgaR2,hgal2,t0,t1,t2,t3,t4,t5⟩:=(HT.out.but h2).at HX.out;rw [hA] at c0;obtain ⟨d12,zR2⟩:=qck;have HS2:=qas;clear hA;go_region
 go_wp2_with fail;have na:=qeU;clear c0 c1 c3 cf1 t0 t1 t2 t3 t4 t5;exact bodyPost_ret (v:=.agg #[ZZ ZY 0,ZZ ZY t.num,ZZ ZY 0,ZZ ZY 0,ZZ ZY 0,ZZ ZY 0,Zx ⟨#[]⟩,Zw ZU 0 0]) qoD rfl ⟨⟨0,t.num,0,0,0,0,⟨#[]⟩,ZU,0,0⟩,rfl,TV.leaf (t:=ik t.num) rfl,(have hv:=HS2.out;qnr),(have hv:=h2;qni)⟩
theorem Bj (R:Nat) (A:Option Addr) (cap:Nat) (L:List Tok) (E:Nat) (hL:L.length<=1000) (w:Z3) (p:Nat) (hr:RS w R A cap L E (.run p)) (hk:TK w R A L) (hm:ag L p [40]=Zz) (t:Tok) (ht:L[p]? =ZV t) (k5:(t.kY==5)=Zz) (k1:(t.kY==1)=Zz) (k2:(t.kY==2)=true):Calls ZW 194 #[Zv (ZV ⟨R,0,ZU⟩)] w fun e w'=>∃x:V8,e=ZX x.val/\TV w' (fun b=>w.heap.size<=b) x (ZV (fG t.col t.row))/\RS w' R A cap L E (.run (p+1))/\But R w w':=by
 obtain ⟨HR,HT,hlt,nk⟩:=qP;have HM:=qgz;obtain ⟨HX,hp⟩:=qbm;clear hr hk hm ht;go_enter func194,ntmps194;go_wp2_with fail;refine .mono qsl ?_;rintro e w1 ⟨rfl,b1⟩;obtain ⟨h1,zk1,k10,k11,k12,k13,k14,k15,k16,k17,kf10,kf11,kf12,kf13,kf14,kf15,kf16,kf17,y1,HR1⟩:=qg;have e1:=qcR;clear b1;obtain ⟨_,_,hc⟩:=HR1.out;obtain ⟨c0,c1,c3,cf1⟩:=qbr;clear hc;obtain ⟨ga1,hA,hgaR1,hgal1,t0,t1,t2,t3,t4,t5⟩:=(HT.out.but h1).at HX.out;rw [hA] at c0;obtain ⟨d11,zR1⟩:=qbQ;clear hA;go_wp2_with fail;go_quiet (fail)
 clear c0 c1 c3 cf1 t0 t1 t2 t3 t4 t5 zR1;go_wp2_with fail;generalize hq2:w1.drewN nq=w2;have b2:=qcH;obtain ⟨h2,zk2,k20,k21,k22,k23,k24,k25,k26,k27,kf20,kf21,kf22,kf23,kf24,kf25,kf26,kf27⟩:=qh;obtain ⟨y2,HR2⟩:=qF;clear hq2 b2 k10 k11 k12 k13 k14 k15 k16 k17 kf10 kf11 kf12 kf13 kf14 kf15 kf16 kf17 zk1;obtain ⟨_,_,hc⟩:=HR2.out;obtain ⟨c0,c1,c3,cf1⟩:=qbr;clear hc;obtain ⟨ga2,hA,hgaR2,hgal2,t0,t1,t2,t3,t4,t5⟩:=(HT.out.but h2).at HX.out;rw [hA] at c0;obtain ⟨d12,zR2⟩:=qck;have HS2:=qas;clear hA;go_region
 go_wp2_with fail;have na:=qeU;clear c0 c1 c3 cf1 t0 t1 t2 t3 t4 t5;exact bodyPost_ret (v:=.agg #[ZZ ZY 1,ZZ ZY 0,ZZ ZY t.col,ZZ ZY t.row,ZZ ZY t.col,ZZ ZY t.row,Zx ⟨#[]⟩,Zw ZU 0 0]) qoD rfl ⟨⟨1,0,t.col,t.row,t.col,t.row,⟨#[]⟩,ZU,0,0⟩,rfl,TV.leaf (t:=fG t.col t.row) rfl,(have hv:=HS2.out;qnr),(have hv:=h2;qni)⟩
theorem Gc (R:Nat) (A:Option Addr) (cap:Nat) (L:List Tok) (E:Nat) (hL:L.length<=1000) (w:Z3) (p:Nat) (hr:RS w R A cap L E (.run p)) (hk:TK w R A L) (hm:ag L p [40]=Zz) (t:Tok) (ht:L[p]? =ZV t) (k5:(t.kY==5)=Zz) (k1:(t.kY==1)=Zz) (k2:(t.kY==2)=Zz) (k3:(t.kY==3)=true):Calls ZW 194 #[Zv (ZV ⟨R,0,ZU⟩)] w fun e w'=>∃x:V8,e=ZX x.val/\TV w' (fun b=>w.heap.size<=b) x (ZV (bK))/\RS w' R A cap L E (.run (p+1))/\But R w w':=by
 obtain ⟨HR,HT,hlt,nk⟩:=qP;have HM:=qgz;obtain ⟨HX,hp⟩:=qbm;clear hr hk hm ht;go_enter func194,ntmps194;go_wp2_with fail;refine .mono qsl ?_;rintro e w1 ⟨rfl,b1⟩;obtain ⟨h1,zk1,k10,k11,k12,k13,k14,k15,k16,k17,kf10,kf11,kf12,kf13,kf14,kf15,kf16,kf17,y1,HR1⟩:=qg;have e1:=qcR;clear b1;obtain ⟨_,_,hc⟩:=HR1.out;obtain ⟨c0,c1,c3,cf1⟩:=qbr;clear hc;obtain ⟨ga1,hA,hgaR1,hgal1,t0,t1,t2,t3,t4,t5⟩:=(HT.out.but h1).at HX.out;rw [hA] at c0;obtain ⟨d11,zR1⟩:=qbQ;clear hA;go_wp2_with fail;go_quiet (fail)
 clear c0 c1 c3 cf1 t0 t1 t2 t3 t4 t5 zR1;go_wp2_with fail;generalize hq2:w1.drewN nq=w2;have b2:=qcH;obtain ⟨h2,zk2,k20,k21,k22,k23,k24,k25,k26,k27,kf20,kf21,kf22,kf23,kf24,kf25,kf26,kf27⟩:=qh;obtain ⟨y2,HR2⟩:=qF;clear hq2 b2 k10 k11 k12 k13 k14 k15 k16 k17 kf10 kf11 kf12 kf13 kf14 kf15 kf16 kf17 zk1;obtain ⟨_,_,hc⟩:=HR2.out;obtain ⟨c0,c1,c3,cf1⟩:=qbr;clear hc;obtain ⟨ga2,hA,hgaR2,hgal2,t0,t1,t2,t3,t4,t5⟩:=(HT.out.but h2).at HX.out;rw [hA] at c0;obtain ⟨d12,zR2⟩:=qck;have HS2:=qas;clear hA;go_region
 go_wp2_with fail;have na:=qeU;clear c0 c1 c3 cf1 t0 t1 t2 t3 t4 t5;exact bodyPost_ret (v:=.agg #[ZZ ZY 2,ZZ ZY 0,ZZ ZY 0,ZZ ZY 0,ZZ ZY 0,ZZ ZY 0,Zx ⟨#[]⟩,Zw ZU 0 0]) qoD rfl ⟨⟨2,0,0,0,0,0,⟨#[]⟩,ZU,0,0⟩,rfl,TV.leaf (t:=bK) rfl,(have hv:=HS2.out;qnr),(have hv:=h2;qni)⟩
