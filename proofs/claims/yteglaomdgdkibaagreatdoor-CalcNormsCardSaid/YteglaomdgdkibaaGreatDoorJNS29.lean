import Derived.Test.YteglaomdgdkibaaGreatDoorJNS28
import Derived.Deep.RegionLaw
import Derived.Test.YteglaomdgdkibaaGreatDoorJQNSP
import Derived.Test.YteglaomdgdkibaaGreatDoorJQYNSP
set_option linter.all false
set_option maxHeartbeats 0
set_option maxRecDepth 99999
namespace Go.Proofs.YteglaomdgdkibaaGreatDoor
open Go.RowKit
open Value renaming int→ZZ,string→Zx,slice→Zw
open IntKind renaming i64→ZY
open RowKit renaming Below→Z2
open Go renaming World→Z3
open Tryz
open Option renaming some→ZV,none→ZU
open Bool renaming false→Zz
variable {L:List Tok}{B E k:Nat}{g:Got}{w w':World}{v0 v1 v2 v3 v4 v5 v6 v7:Value}
theorem must_goS {p:Nat} {s:List UInt8} {f:Nat->Option Res} (h:toS (az L E p s f)=ZV g):goS f (cj L E s (.run p))=ZV g:=by
 rcases jG h with ⟨q,m,h⟩|⟨x,m,rfl⟩
 ·rw [m];exact h
 ·rw [m];rfl
theorem du (h:∀(j:Nat) (v:Value),w.cell? ⟨B,j,ZU⟩=ZV v->w'.cell? ⟨B,j,ZU⟩=ZV v) (k:C8 w B v0 v1 v2 v3 v4 v5 v6 v7):C8 w' B v0 v1 v2 v3 v4 v5 v6 v7:=by
 obtain ⟨h0,h1,h2,h3,h4,h5,h6,h7⟩:=k;exact ⟨h 0 _ h0,h 1 _ h1,h 2 _ h2,h 3 _ h3,h 4 _ h4,h 5 _ h5,h 6 _ h6,h 7 _ h7⟩
theorem ed (h:∀(j:Nat),w.frozen? ⟨B,j,ZU⟩=Zz->w'.frozen? ⟨B,j,ZU⟩=Zz) (k:F8 w B):F8 w' B:=by
 obtain ⟨h0,h1,h2,h3,h4,h5,h6,h7⟩:=k;exact ⟨h 0 h0,h 1 h1,h 2 h2,h 3 h3,h 4 h4,h 5 h5,h 6 h6,h 7 h7⟩
theorem rC {ty:TypeId} {fz:Nat×Nat} (hk:w.heap[k]? =ZV (.cells #[v0,v1,v2,v3,v4,v5,v6,v7] ty fz)):C8 w k v0 v1 v2 v3 v4 v5 v6 v7:=by
 have c:=fun j=>Lib.cell_of_heap hk j
 exact ⟨c 0,c 1,c 2,c 3,c 4,c 5,c 6,c 7⟩
theorem PB {wr:Z3} {R O:Nat} {t:Tr} {A:Option Addr} (_:But R w wr) {cap:Nat} (h:KVc wr (fun b=>w.heap.size<b/\b≠O) t A cap) (hR:R<w.heap.size):KVc wr (fun b=>w.heap.size<b/\b≠O/\b≠R) t A cap:=
 h.imp fun b hb=>⟨hb.1,hb.2,(by have:=hb.1;omega)⟩
theorem tR (w:Z3) (X Y:Obj):((w.alloc X).alloc Y).heap[w.heap.size+1]? =ZV Y:=by
 have:=heap_alloc_new (w.alloc X) Y;rwa [show (w.alloc X).heap.size=w.heap.size+1 from by simp] at this
theorem sW (w:Z3) (X Y:Obj):((w.alloc X).alloc Y).heap[w.heap.size]? =ZV X:=by
 rw [Below.heap_alloc (w.alloc X) Y w.heap.size qns];exact heap_alloc_new w X
def IC (w w7:Z3) (O R:Nat) (wd:List UInt8) (acc:List Tr) (ot:Option Tr) (wx:Z3):Prop:=∃(g2 cap2:Nat) (w9:Z3),wx=w9.setCell ⟨O,7,ZU⟩ (Zw (ZV ⟨g2,0,ZU⟩) (acc.length+1) cap2)/\Z2 w7.heap.size w7 w9/\
 TV w9 (fun b=>w.heap.size<b/\b≠O/\b≠R) ⟨5,0,0,0,0,0,⟨wd.toArray⟩,ZV ⟨g2,0,ZU⟩,acc.length+1,cap2⟩ (ot.map fun t=>ba wd (acc++[t]))
theorem rm {a p:Addr} {v:Value}:(w.setCell a v).frozen? p=w.frozen? p:=by simp
theorem Em {u:Value} (h:C8 w B v0 v1 v2 v3 v4 v5 v6 v7):C8 (w.setCell ⟨B,7,ZU⟩ u) B v0 v1 v2 v3 v4 v5 v6 u:=by
 obtain ⟨h0,h1,h2,h3,h4,h5,h6,h7⟩:=h;refine ⟨?_,?_,?_,?_,?_,?_,?_,?_⟩<;>simp [go_sem, *]
theorem AH {n:Nat} {wd:List UInt8} {acc:List Tr} {st:St} (h:goS (bx L E n wd acc) st=ZV g):
 ∃j g1,j<=n/\goS (bg L E j (wd==[67,79,85,78,84])) st=ZV g1/\
  (fF L 0 [44] g1.1=true->∃q t,g1=(.run q,ZV t)/\ag L q [44]=true/\goS (bx L E j wd (acc++[t])) (.run (q+1))=ZV g/\j<n)/\
  (fF L 0 [44] g1.1=Zz->g.1=cj L E [41] g1.1/\(g.2=ZU\/g.2=g1.2.map fun t=>ba wd (acc++[t]))):=by
 cases st with
 |out x=>
  obtain rfl:(.out x,ZU)=g:=Option.some.inj h;exact ⟨0,(.out x,ZU),qe,rfl,(fun e=>by cases e),(fun _=>⟨rfl,.inl rfl⟩)⟩
 |run p=>
  have h':toS (bx L E n wd acc p)=ZV g:=h;cases n with
  |zero=>rw [bx] at h';cases h'
  |succ n=>
   rw [bx] at h';rcases fR h' with ⟨t,q,e,e2⟩|⟨x,e,rfl⟩
   ·refine ⟨n,(.run q,ZV t),qoq,e,(fun hm=>?_),(fun hm=>?_)⟩
    ·have hm':ag L q [44]=true:=hm
     rw [if_pos hm'] at e2;exact ⟨q,t,rfl,hm',e2,qoq⟩
    ·have hm':ag L q [44]=Zz:=hm
     rw [if_neg (by rw [hm'];decide)] at e2;rcases jG e2 with ⟨q2,m,h2⟩|⟨x,m,rfl⟩
     ·obtain rfl:(.run q2,ZV (ba wd (acc++[t])))=g:=Option.some.inj h2
      exact ⟨m.symm,.inr rfl⟩
     ·exact ⟨m.symm,.inl rfl⟩
   ·exact ⟨n,(.out x,ZU),qoq,e,(fun hm=>by cases hm),(fun _=>⟨rfl,.inl rfl⟩)⟩
theorem xP (R:Nat) (A:Option Addr) (cap:Nat) (L:List Tok) (E:Nat) (hL:L.length<=1000) (w:Z3) (p:Nat) (hr:RS w R A cap L E (.run p)) (hk:TK w R A L) (hm:ag L p [40]=Zz) (t:Tok) (ht:L[p]? =ZV t) (k5:(t.kY==5)=Zz) (k1:(t.kY==1)=Zz) (k2:(t.kY==2)=Zz) (k3:(t.kY==3)=Zz) (kw:(t.text==[73,70])=Zz) (hk9:k<=100000) (hP:∀j,j<=k->bl R A cap L E 239 #[.pointer (ZV ⟨R,0,ZU⟩),.bool (t.text==[67,79,85,78,84])] (bg L E j (t.text==[67,79,85,78,84]))) (g:Got) (hg:goS (bx L E k t.text []) (cj L E [40] (.run (p+1)))=ZV g):Calls prog 194 #[.pointer (ZV ⟨R,0,ZU⟩)] w fun e w'=>∃x:V8,e=.returned x.val/\TV w' (fun b=>w.heap.size<=b) x (g.2)/\RS w' R A cap L E (g.1)/\But R w w':=by
 obtain ⟨HR,HT,hlt,nk⟩:=qP;have HM:=qgz;have HP:=qgy;have HG:=qf hg;obtain ⟨HX,hp⟩:=qbm;clear hr hk hP hg hm ht;go_enter func194,ntmps194;go_wp2_with fail;refine .mono qsl ?_;rintro e w1 ⟨rfl,b1⟩;obtain ⟨h1,zk1,k10,k11,k12,k13,k14,k15,k16,k17,kf10,kf11,kf12,kf13,kf14,kf15,kf16,kf17,y1,HR1⟩:=qg;have e1:=qcR;clear b1;obtain ⟨_,_,hc⟩:=HR1.out;obtain ⟨c0,c1,c3,cf1⟩:=qbr;clear hc;obtain ⟨ga1,hA,hgaR1,hgal1,t0,t1,t2,t3,t4,t5⟩:=(HT.out.but h1).at HX.out;rw [hA] at c0;obtain ⟨d11,zR1⟩:=qbQ;clear hA;go_wp2_with fail;go_quiet (fail)
 clear c0 c1 c3 cf1 t0 t1 t2 t3 t4 t5 zR1;go_wp2_with fail;generalize hq2:w1.drewN nq=w2;have b2:=qcH;obtain ⟨h2,zk2,k20,k21,k22,k23,k24,k25,k26,k27,kf20,kf21,kf22,kf23,kf24,kf25,kf26,kf27⟩:=qh;obtain ⟨y2,HR2⟩:=qF;clear hq2 b2 k10 k11 k12 k13 k14 k15 k16 k17 kf10 kf11 kf12 kf13 kf14 kf15 kf16 kf17 zk1;obtain ⟨_,_,hc⟩:=HR2.out;obtain ⟨c0,c1,c3,cf1⟩:=qbr;clear hc;obtain ⟨ga2,hA,hgaR2,hgal2,t0,t1,t2,t3,t4,t5⟩:=(HT.out.but h2).at HX.out;rw [hA] at c0;obtain ⟨d12,zR2⟩:=qck;have HS2:=qas;clear hA;go_region
 go_wp2_with fail;have na:=qeU;clear c0 c1 c3 cf1 t0 t1 t2 t3 t4 t5;refine (eU (R:=R) (A:=A) (cap:=cap) (L:=L) (E:=E) (st:=.run (p+1)) ⟨#[40]⟩ hL (have hv:=HS2.out;qnr) (HT.out.but (have hv:=h2;qni))).mono ?_;rintro e w3 ⟨rfl,r3,b3⟩;obtain ⟨h3,zk3,k30,k31,k32,k33,k34,k35,k36,k37,kf30,kf31,kf32,kf33,kf34,kf35,kf36,kf37⟩:=qi;obtain ⟨za3,a30,a31,a32,a33,a34,a35,y3⟩:=qu;have HR3:=qhx;clear b3 r3 k20 k21 k22 k23 k24 k25 k26 k27 kf20 kf21 kf22 kf23 kf24 kf25 kf26 kf27 zk2;go_wp2_with fail;have HT4:Hid (w3.cell? ⟨w2.heap.size,4,ZU⟩=ZV (Zx ⟨t.text.toArray⟩)):=qf a34;have qT:w.heap.size<w2.heap.size:=y2;have nO:w3.heap.size≠R:=qoq;clear a30 a31 a32 a33 a34 a35;go_loopg [11] k (fun n _ wr=>∃(x:V8) (st:St) (acc:List Tr),acc.length+n<=k/\(acc=[]->x.A=ZU/\x.cap=0)/\Hid (LR w wr R A cap L E w3.heap.size x st (ZV (ba t.text acc)))/\Hid (wr.cell? ⟨w2.heap.size,4,ZU⟩=ZV (Zx ⟨t.text.toArray⟩))/\w3.heap.size<wr.heap.size/\Hid (goS (bx L E n t.text acc) st=ZV g))
 case atStart=>
  refine ⟨⟨5,0,0,0,0,0,⟨t.text.toArray⟩,ZU,0,0⟩,cj L E [40] (.run (p+1)),[],qns,fun _=>⟨rfl,rfl⟩,qf ?_,qf (ai HT4.out _),qns,HG⟩;exact ⟨HR3.out.alloc _,h3.alloc _,qns,qnu,⟨ZU,0,rfl,KVc.mk' qd (.inl rfl)⟩,ai k30 _,ai k31 _,ai k32 _,ai k33 _,ai k34 _,ai k35 _,ai k36 _,ai k37 _,aF kf30 y3 _,aF kf31 y3 _,aF kf32 y3 _,aF kf33 y3 _,aF kf34 y3 _,aF kf35 y3 _,aF kf36 y3 _,aF kf37 y3 _,qnp,qnp,qnp,qnp,qnp,qnp,qnp,qnp,qnp,qnp,qnp,qnp,qnp,qnp,qnp,qnp⟩
 case round=>
  obtain ⟨x,st,acc,hn,hnil,HL,HT5,zo5,HN⟩:=hrel;obtain ⟨j,g1,hj,hg1,hmore,hend⟩:=AH HN.out;obtain ⟨A',ca',rfl,hkv⟩:=HL.out.tv;replace hnil:acc=[]->A'=ZU/\ca'=0:=hnil
  have lr:=HL.out;have h5:=lr.but;have o50:=lr.o0;have o51:=lr.o1;have o52:=lr.o2;have o53:=lr.o3;have o54:=lr.o4;have o55:=lr.o5;have o56:=lr.o6;have o57:=lr.o7;have HC5:Hid ((C8 wr w.heap.size (ZZ ZY 0) (ZZ ZY 0) (ZZ ZY 0) (ZZ ZY 0) (ZZ ZY 0) (ZZ ZY 0) (Zx ⟨#[]⟩) (Zw ZU 0 0)/\F8 wr w.heap.size)/\C8 wr w3.heap.size (ZZ ZY 5) (ZZ ZY 0) (ZZ ZY 0) (ZZ ZY 0) (ZZ ZY 0) (ZZ ZY 0) (Zx ⟨t.text.toArray⟩) (Zw A' acc.length ca')/\F8 wr w3.heap.size):=qf ⟨⟨⟨lr.k0,lr.k1,lr.k2,lr.k3,lr.k4,lr.k5,lr.k6,lr.k7⟩,lr.kf0,lr.kf1,lr.kf2,lr.kf3,lr.kf4,lr.kf5,lr.kf6,lr.kf7⟩,⟨lr.o0,lr.o1,lr.o2,lr.o3,lr.o4,lr.o5,lr.o6,lr.o7⟩,lr.of0,lr.of1,lr.of2,lr.of3,lr.of4,lr.of5,lr.of6,lr.of7⟩;have HR5:=qf lr.rs;have HKV5:=qf hkv;have HPj:=qf (HP.out j qoq);have HE1:=qf hg1;have HMo:=qf hmore;have HEn:=qf hend;have zk5:w.heap.size<wr.heap.size:=lr.hk;have t5:=HT5.out;obtain ⟨st1,ot1⟩:=g1;clear lr HL HN hkv hg1 hmore hend o50 o51 o52 o53 o54 o55 o56 o57;go_wp2_with fail;refine (HPj.out _ st (st1,ot1) (have hv:=HR5.out;qoR) (HT.out.but (have hv:=h5;qni)) HE1.out).mono ?_;rintro e w6 ⟨⟨c0,c1,c2,c3,c4,c5,cw,cA,cl,cc⟩,rfl,v6,r6,b6⟩;dsimp only [V8.val];go_wp2_with fail;have hz6:wr.heap.size<=w6.heap.size:=b6.size
  obtain ⟨w7,hw7⟩:∃w7,w7=w6.alloc (.cells #[ZZ ZY c0,ZZ ZY c1,ZZ ZY c2,ZZ ZY c3,ZZ ZY c4,ZZ ZY c5,.string cw,Zw cA cl cc] 33):=⟨_,rfl⟩
  rw [<-hw7];have z7:w7.heap.size=w6.heap.size+1:=(by rw [hw7];simp);have hb7:Z2 w6.heap.size w6 w7:=(by rw [hw7];exact qa);have hb57:But R wr w7:=b6.trans (But.of_below hb7);have h7:But R w w7:=h5.trans hb57;have zR:R<wr.heap.size:=qoq;have HC7:Hid ((C8 w7 w.heap.size (ZZ ZY 0) (ZZ ZY 0) (ZZ ZY 0) (ZZ ZY 0) (ZZ ZY 0) (ZZ ZY 0) (Zx ⟨#[]⟩) (Zw ZU 0 0)/\F8 w7 w.heap.size)/\C8 w7 w3.heap.size (ZZ ZY 5) (ZZ ZY 0) (ZZ ZY 0) (ZZ ZY 0) (ZZ ZY 0) (ZZ ZY 0) (Zx ⟨t.text.toArray⟩) (Zw A' acc.length ca')/\F8 w7 w3.heap.size):=qf ⟨⟨du (fun q v hv=>hb57.cell nk hv) HC5.out.1.1,ed (fun q hv=>hb57.frozen nk zk5 hv) HC5.out.1.2⟩,du (fun q v hv=>hb57.cell nO hv) HC5.out.2.1,ed (fun q hv=>hb57.frozen nO zo5 hv) HC5.out.2.2⟩;have HT7:Hid (w7.cell? ⟨w2.heap.size,4,ZU⟩=ZV (Zx ⟨t.text.toArray⟩)):=qf (hb57.cell na HT5.out);have HR7:Hid (RS w7 R A cap L E st1):=qf (RS.below r6 (by rw [hw7];exact qa));have HKV7:Hid (KVc w7 (fun b=>w.heap.size<b/\b≠w3.heap.size/\b≠R) (ba t.text acc) A' ca'):=qf ((PB h5 HKV5.out hlt).stay ⟨hb57.size,fun q hp hl=>hb57.block q hl hp.2.2⟩);have HV7:Hid (TV w7 (fun b=>w.heap.size<b/\b≠w3.heap.size/\b≠R) ⟨c0,c1,c2,c3,c4,c5,cw,cA,cl,cc⟩ ot1):=qf ((v6.kept (Kept.of_below hb7)).imp fun b (hb:wr.heap.size<=b)=>⟨qoq,qoq,qoq⟩)
  have HB7:Hid (C8 w7 w6.heap.size (ZZ ZY c0) (ZZ ZY c1) (ZZ ZY c2) (ZZ ZY c3) (ZZ ZY c4) (ZZ ZY c5) (.string cw) (Zw cA cl cc)):=qf (by rw [hw7];exact rC (heap_alloc_new w6 _));have zT7:w2.heap.size<w7.heap.size:=qoq;have z67:w6.heap.size<w7.heap.size:=qoq;have zO7:w3.heap.size<w7.heap.size:=qoq;have zK7:w.heap.size<w7.heap.size:=qoq;have HZ7:=qf z7;clear z7 hb57 hb7 hw7 v6 r6 b6 HC5 HKV5 HR5 HT5 t5 HE1 k30 kf30 k31 kf31 k32 kf32 k33 kf33 k34 kf34 k35 kf35 k36 kf36 k37 kf37;obtain ⟨q0,q1,q2,q3,q4,q5,q6,q7⟩:=HB7.out;obtain ⟨_,_,_,_,_,_,_,o7⟩:=HC7.out.2.1;obtain ⟨_,_,_,_,_,_,_,f7⟩:=HC7.out.2.2;go_cut [] from 120 to 146 (fun wx=>IC w w7 w3.heap.size R t.text acc ot1 wx)
  case first=>
   obtain ⟨i0,hi0,hz0,hz1,hz2⟩:=info_parts Br;clear HC7 HT7 HR7 HB7 HMo HEn HPj HR HT HM HP HG HX h1 HR1 h2 HR2 h3 HR3 HT4 h5 h7 HS2;cases acc with
   |nil=>
    obtain ⟨rfl,rfl⟩:=hnil rfl
    have FIN:Hid (∀(g2 cap2:Nat) (w9:Z3),w9.ownsRow w7.heap.size 33 8 (Zw (ZV ⟨g2,0,ZU⟩) (0+1) cap2) (0+1) ([]++[ZZ ZY c0,ZZ ZY c1,ZZ ZY c2,ZZ ZY c3,ZZ ZY c4,ZZ ZY c5,.string cw,Zw cA cl cc])->g2<w9.heap.size->Z2 w7.heap.size w7 w9->w7.heap.size<=g2->IC w w7 w3.heap.size R t.text [] ot1 (w9.setCell ⟨w3.heap.size,7,ZU⟩ (Zw (ZV ⟨g2,0,ZU⟩) (0+1) cap2))):=qf fun g2 cap2 w9 ho hl hb hg=>by
     exact ⟨g2,cap2,w9,rfl,hb,rL (P:=(fun b=>w.heap.size<b/\b≠w3.heap.size/\b≠R)) (Q:=(fun b=>w.heap.size<b/\b≠w3.heap.size/\b≠R)) (news:=[]) rfl (fun w' g' o' _ _=>zH w' _ g' o') HV7.out (Kept.of_below hb) (fun b h=>h) ⟨qoq,qoq,qoq⟩ hl (by simpa using ho) t.text⟩
    clear HV7 HKV7;go_region_law (first
    |(refine step_append_lies _ qnL _ _ _ qnL w7.heap.size 33 i0 _ 8 88 underlying31 hi0 hz0 hz1 hz2 rfl qoq _ (0) ([]) qnL (tE qoj qoE)
       ⟨_,0,ZU⟩ 1 1 [ZZ ZY c0,ZZ ZY c1,ZZ ZY c2,ZZ ZY c3,ZZ ZY c4,ZZ ZY c5,.string cw,Zw cA cl cc] qnL qnL (World.news_of_block (cs:=#[ZZ ZY c0,ZZ ZY c1,ZZ ZY c2,ZZ ZY c3,ZZ ZY c4,ZZ ZY c5,.string cw,Zw cA cl cc]) (t:=33) (fr:=(0,0)) qoE) (by simp [Value.oneCell'])
       qoq qnH qoq qnt _ rfl ?_;intro g2 cap2 w9 hown2 hgrow2 hat2 hlt2
      have B9:Z2 w7.heap.size w7 w9:=Below.grown qsR hgrow2 qnt (fun k hk=>by simp [Value.ownBlock] at hk;omega);obtain ⟨hg2,m7,nf7,zO9⟩:=qem;clear hgrow2 hat2)
    |(refine oV rfl _ _ _ qnL 33 i0 underlying31 hi0 _ qnL qnL ?_)
    |fail)
    all_goals (go_wp2_with fail;go_meet;exact FIN.out _ _ _ hown2 hlt2 B9 hg2)
   |cons a0 acc0=>
    have HKK:=HKV7.out.kZ;clear hnil;obtain ⟨G,og,rfl,hPG,hGl,hkl⟩:∃g o,A'=ZV ⟨g,o,ZU⟩/\(w.heap.size<g/\g≠w3.heap.size/\g≠R)/\g<w7.heap.size/\KLc w7 (fun b=>w.heap.size<b/\b≠w3.heap.size/\b≠R) (a0::acc0) g o:=(by rcases HKK with e|h;exact absurd e qpv;exact h)
    clear HKK;obtain ⟨news,nw1,nw2,nw3,nw4⟩:=F0 hkl;have HN4:=qf nw4;have HN2:=qf nw2;have hlen:(a0::acc0).length<=1000000:=qoq;clear nw4 nw2 hkl;generalize hacc:a0::acc0=acc at*;have hpos:0<acc.length:=(by rw [<-hacc];simp);clear hacc
    have FIN:Hid (∀(g2 cap2:Nat) (w9:Z3),w9.ownsRow w7.heap.size 33 8 (Zw (ZV ⟨g2,0,ZU⟩) (acc.length+1) cap2) (acc.length+1) (news++[ZZ ZY c0,ZZ ZY c1,ZZ ZY c2,ZZ ZY c3,ZZ ZY c4,ZZ ZY c5,.string cw,Zw cA cl cc])->g2<w9.heap.size->Z2 w7.heap.size w7 w9->w7.heap.size<=g2->IC w w7 w3.heap.size R t.text acc ot1 (w9.setCell ⟨w3.heap.size,7,ZU⟩ (Zw (ZV ⟨g2,0,ZU⟩) (acc.length+1) cap2))):=qf fun g2 cap2 w9 ho hl hb hg=>by
     exact ⟨g2,cap2,w9,rfl,hb,rL (P:=(fun b=>w.heap.size<b/\b≠w3.heap.size/\b≠R)) (Q:=(fun b=>w.heap.size<b/\b≠w3.heap.size/\b≠R)) (news:=news) nw1 HN4.out HV7.out (Kept.of_below hb) (fun b h=>h) ⟨qoq,qoq,qoq⟩ hl (by simpa using ho) t.text⟩
    clear HV7 HKV7 HN4;go_region_law (first
    |(refine step_append_lies _ qnL _ _ _ qnL w7.heap.size 33 i0 _ 8 88 underlying31 hi0 hz0 hz1 hz2 rfl qoq (Zw (ZV ⟨g1,0,ZU⟩) acc.length cap1) (acc.length) (news) qnL (by first|exact hown1|exact hown1.alloc _)
       ⟨_,0,ZU⟩ 1 1 [ZZ ZY c0,ZZ ZY c1,ZZ ZY c2,ZZ ZY c3,ZZ ZY c4,ZZ ZY c5,.string cw,Zw cA cl cc] qnL qnL (World.news_of_block (cs:=#[ZZ ZY c0,ZZ ZY c1,ZZ ZY c2,ZZ ZY c3,ZZ ZY c4,ZZ ZY c5,.string cw,Zw cA cl cc]) (t:=33) (fr:=(0,0)) (by first|exact hbk|exact heap_alloc_new w8 _)) (by simp [Value.oneCell'])
       qoq qnH qoq qnt _ rfl ?_;intro g2 cap2 w9 hown2 hgrow2 hat2 hlt2
      have B9:Z2 w7.heap.size w7 w9:=Below.grown (by with_reducible repeat' (first|exact qb|exact B8|refine Below.alloc ?_ qoj _|refine Below.drew ?_)) hgrow2 qnt (fun k hk=>by simp [Value.ownBlock] at hk;subst hk;exact (hown1.lt _ rfl).1);obtain ⟨hg2,m7,nf7,zO9⟩:=qem;clear hgrow2 hat2;clear hown1 B8)
    |(refine step_append_lies _ qnL _ _ _ qnL w7.heap.size 33 i0 _ 8 88 underlying31 hi0 hz0 hz1 hz2 rfl qoq _ 0 [] qnL (tE qoj qoE)
       ⟨G,og,ZU⟩ acc.length ca' news qnL nw1 (fun j u hj=>by rw [Go.WideShapes.add_plain];with_reducible repeat' (first|exact HN2.out j u hj|refine zCa ?_ _|refine zCd ?_)) nw3
       hpos qnH qoq qnt _ rfl ?_;intro g1 cap1 w8 hown1 hgrow1 hat1 hlt1;simp only [Nat.zero_add,List.nil_append] at hown1 ⊢
      have B8:Z2 w7.heap.size w7 w8:=Below.grown qsR hgrow1 qnt (fun k hk=>by simp [Value.ownBlock] at hk;omega);have hs8:=B8.size;try (have hbk:w8.heap[w7.heap.size+1]? =ZV (.cells #[ZZ ZY c0,ZZ ZY c1,ZZ ZY c2,ZZ ZY c3,ZZ ZY c4,ZZ ZY c5,.string cw,Zw cA cl cc] 33:Obj):=(hgrow1.block (w7.heap.size+1) qnV (by simp [Value.ownBlock])).trans (tR w7 _ _))
      try (have hbk:w8.heap[w7.heap.size]? =ZV (.cells #[ZZ ZY c0,ZZ ZY c1,ZZ ZY c2,ZZ ZY c3,ZZ ZY c4,ZZ ZY c5,.string cw,Zw cA cl cc] 33:Obj):=(hgrow1.block w7.heap.size qnV (by simp [Value.ownBlock])).trans (sW w7 _ _))
      have r7:=aa B8 o7;have sf7:=ae B8 zO7 f7;have zO8:w3.heap.size<w8.heap.size:=Nat.lt_of_lt_of_le zO7 B8.size;have z68:w6.heap.size<w8.heap.size:=Nat.lt_of_lt_of_le z67 B8.size;have s0:=aa B8 q0;have s1:=aa B8 q1;have s2:=aa B8 q2;have s3:=aa B8 q3;have s4:=aa B8 q4;have s5:=aa B8 q5;have s6:=aa B8 q6;have s7:=aa B8 q7;clear hgrow1 hat1)
    |fail)
    all_goals (go_wp2_with fail;go_meet;exact FIN.out _ _ _ hown2 hlt2 B9 hg2)
  case rest=>
   obtain ⟨g2,cap2,w9,hwc,B9,hTV⟩:=hcut;have HTV:=qf hTV;have nOK:w3.heap.size≠w.heap.size:=qoq;have nOT:w3.heap.size≠w2.heap.size:=qoq;have h10:But R w wc:=(by rw [hwc];exact (h7.trans (But.of_below B9)).setN qoq _ _);have z10:w7.heap.size<=wc.heap.size:=(by rw [hwc];exact ((Below.refl 0 w9).setCell (p:=⟨w3.heap.size,7,ZU⟩) qe _).size|> Nat.le_trans B9.size);have HK10:Hid ((C8 wc w.heap.size (ZZ ZY 0) (ZZ ZY 0) (ZZ ZY 0) (ZZ ZY 0) (ZZ ZY 0) (ZZ ZY 0) (Zx ⟨#[]⟩) (Zw ZU 0 0))/\F8 wc w.heap.size):=qf (by rw [hwc];exact ⟨du (fun q v hv=>bi (aa B9 hv) nOK _ _) HC7.out.1.1,ed (fun q hv=>di (ae B9 zK7 hv) nOK _ _) HC7.out.1.2⟩);have HF10:Hid (F8 wc w3.heap.size):=qf (by rw [hwc];exact ed (fun q hv=>by have:=ae B9 zO7 hv;rwa [rm]) HC7.out.2.2);have HO10:Hid (C8 wc w3.heap.size (ZZ ZY 5) (ZZ ZY 0) (ZZ ZY 0) (ZZ ZY 0) (ZZ ZY 0) (ZZ ZY 0) (Zx ⟨t.text.toArray⟩) (Zw (ZV ⟨g2,0,ZU⟩) (acc.length+1) cap2)):=qf (by rw [hwc];exact Em (du (fun q v hv=>aa B9 hv) HC7.out.2.1));have HT10:Hid (wc.cell? ⟨w2.heap.size,4,ZU⟩=ZV (Zx ⟨t.text.toArray⟩)):=qf (by rw [hwc];exact bi (aa B9 HT7.out) nOT _ _);have HR10:Hid (RS wc R A cap L E st1):=qf (by rw [hwc];exact (RS.below HR7.out B9).far nO _ _)
   have HV10:Hid (TV wc (fun b=>w.heap.size<b/\b≠w3.heap.size/\b≠R) ⟨5,0,0,0,0,0,⟨t.text.toArray⟩,ZV ⟨g2,0,ZU⟩,acc.length+1,cap2⟩ (ot1.map fun t1=>ba t.text (acc++[t1]))):=qf (by rw [hwc];exact HTV.out.kept ((Kept.refl _ _).set (.inl fun h=>h.2.1 rfl) _ _));have zKc:w.heap.size<wc.heap.size:=qoq;have zOc:w3.heap.size<wc.heap.size:=qoq;clear hTV HTV hwc HC7 HT7 HR7 HV7 HKV7 HB7 B9 q0 q1 q2 q3 q4 q5 q6 q7 o7 f7;go_wp2_with fail;refine (eT (R:=R) (A:=A) (cap:=cap) (L:=L) (E:=E) (m:=0) (st:=st1) ⟨#[44]⟩ hL qoq HR10.out (HT.out.but h10)).mono ?_;rintro e w11 ⟨rfl,b11⟩;have h11:But R w w11:=h10.trans (But.of_below b11);have HK11:Hid ((C8 w11 w.heap.size (ZZ ZY 0) (ZZ ZY 0) (ZZ ZY 0) (ZZ ZY 0) (ZZ ZY 0) (ZZ ZY 0) (Zx ⟨#[]⟩) (Zw ZU 0 0))/\F8 w11 w.heap.size):=qf ⟨du (fun q v hv=>aa b11 hv) HK10.out.1,ed (fun q hv=>ae b11 zKc hv) HK10.out.2⟩;have HO11:Hid ((C8 w11 w3.heap.size (ZZ ZY 5) (ZZ ZY 0) (ZZ ZY 0) (ZZ ZY 0) (ZZ ZY 0) (ZZ ZY 0) (Zx ⟨t.text.toArray⟩) (Zw (ZV ⟨g2,0,ZU⟩) (acc.length+1) cap2))/\F8 w11 w3.heap.size):=qf ⟨du (fun q v hv=>aa b11 hv) HO10.out,ed (fun q hv=>ae b11 zOc hv) HF10.out⟩;have HT11:Hid (w11.cell? ⟨w2.heap.size,4,ZU⟩=ZV (Zx ⟨t.text.toArray⟩)):=qf (aa b11 HT10.out);have HR11:=qf (RS.below HR10.out b11);have HV11:=qf (HV10.out.kept (Kept.of_below b11))
   have zK11:w.heap.size<w11.heap.size:=Nat.lt_of_lt_of_le zKc b11.size;have zO11:w3.heap.size<w11.heap.size:=Nat.lt_of_lt_of_le zOc b11.size;clear b11 HK10 HF10 HO10 HT10 HR10 HV10 h10;cases hv:fF L 0 [44] st1 with
   |false=>
    have HE:=qf (HEn.out hv);clear HMo HEn;go_wp2_with fail;refine (eU (R:=R) (A:=A) (cap:=cap) (L:=L) (E:=E) (st:=st1) ⟨#[41]⟩ hL HR11.out (HT.out.but h11)).mono ?_;rintro e w12 ⟨rfl,r12,b12⟩;have h12:But R w w12:=h11.trans b12;have HR12:Hid (RS w12 R A cap L E g.1):=qf (by rw [HE.out.1];exact r12);have HV12:=qf (HV11.out.kept (P:=fun b=>w.heap.size<b/\b≠w3.heap.size/\b≠R) ⟨b12.size,fun q hp hl=>b12.block q hl hp.2.2⟩);have zK12:w.heap.size<w12.heap.size:=Nat.lt_of_lt_of_le zK11 b12.size;have HK12:C8 w12 w.heap.size (ZZ ZY 0) (ZZ ZY 0) (ZZ ZY 0) (ZZ ZY 0) (ZZ ZY 0) (ZZ ZY 0) (Zx ⟨#[]⟩) (Zw ZU 0 0):=du (fun q v hv=>b12.cell nk hv) HK11.out.1;have HF12:F8 w12 w.heap.size:=ed (fun q hv=>b12.frozen nk zK11 hv) HK11.out.2;have HO12:C8 w12 w3.heap.size (ZZ ZY 5) (ZZ ZY 0) (ZZ ZY 0) (ZZ ZY 0) (ZZ ZY 0) (ZZ ZY 0) (Zx ⟨t.text.toArray⟩) (Zw (ZV ⟨g2,0,ZU⟩) (acc.length+1) cap2):=du (fun q v hv=>b12.cell nO hv) HO11.out.1;obtain ⟨k0,k1,k2,k3,k4,k5,k6,k7⟩:=HK12;obtain ⟨kf0,kf1,kf2,kf3,kf4,kf5,kf6,kf7⟩:=HF12;obtain ⟨o0,o1,o2,o3,o4,o5,o6,o7⟩:=HO12;clear r12 b12 HK11 HO11 HT11 HR11 HV11 h11;go_wp2_with fail
    exact bodyPost_ret (v:=.agg #[ZZ ZY 5,ZZ ZY 0,ZZ ZY 0,ZZ ZY 0,ZZ ZY 0,ZZ ZY 0,Zx ⟨t.text.toArray⟩,(Zw (ZV ⟨g2,0,ZU⟩) (acc.length+1) cap2)]) (by simp [results,results194,go_sem,k0,k1,k2,k3,k4,k5,k6,k7]) rfl ⟨⟨5,0,0,0,0,0,⟨t.text.toArray⟩,ZV ⟨g2,0,ZU⟩,acc.length+1,cap2⟩,rfl,(by
     rcases HE.out.2 with e|e
     ·rw [e];trivial
     ·rw [e];exact (HV12.out.kept (by with_reducible repeat' (first|exact Kept.refl _ _|refine Kept.set ?_ (.inl fun h=>absurd h.1 (Nat.lt_irrefl _)) _ _))).imp fun b hb=>Nat.le_of_lt hb.1),(have hv:=HR12.out;qoR),(have hv:=h12;qni)⟩
   |true=>
    obtain ⟨q,t1,he,hmk,hnx,hjlt⟩:=HMo.out hv;obtain ⟨rfl,rfl⟩:=Prod.mk.inj he;have HNX:=qf hnx;have hq:q<L.length:=fu hmk;have HS:Hid (RS (w11.setCell ⟨R,1,ZU⟩ (ZZ ZY ((q:Int)+1))) R A cap L E (.run (q+1))):=qf (HR11.out.step hq qoq);obtain ⟨_,_,hc⟩:=HR11.out;have c1:=hc.c1;have cf1:=hc.f1;clear hc hnx hmk he HMo HEn;go_wp2_with fail;go_roundg j
    case measure=>omega
    case rel=>
     obtain ⟨⟨k0,k1,k2,k3,k4,k5,k6,k7⟩,kf0,kf1,kf2,kf3,kf4,kf5,kf6,kf7⟩:=HK11.out;obtain ⟨⟨o0,o1,o2,o3,o4,o5,o6,o7⟩,of0,of1,of2,of3,of4,of5,of6,of7⟩:=HO11.out;have nKR:R≠w.heap.size:=qoq;have nOR:R≠w3.heap.size:=qoq;have nTR:R≠w2.heap.size:=qoq;refine ⟨⟨5,0,0,0,0,0,⟨t.text.toArray⟩,ZV ⟨g2,0,ZU⟩,acc.length+1,cap2⟩,.run (q+1),acc++[t1],qnu,(fun e=>by simp at e),qf ?_,qf (bi HT11.out nTR _ _),(Nat.lt_of_lt_of_le zO11 ((Below.refl 0 w11).setCell (p:=⟨R,1,ZU⟩) qe _).size),HNX⟩;exact ⟨HS.out,h11.setR _ _,(Nat.lt_of_lt_of_le zO11 ((Below.refl 0 w11).setCell (p:=⟨R,1,ZU⟩) qe _).size),(Nat.lt_of_lt_of_le zK11 ((Below.refl 0 w11).setCell (p:=⟨R,1,ZU⟩) qe _).size),(HV11.out.kept ((Kept.refl _ _).set (.inl fun h=>h.2.2 rfl) _ _)).imp (fun b hb=>⟨hb.1,hb.2.1⟩),bi k0 nKR _ _,bi k1 nKR _ _,bi k2 nKR _ _,bi k3 nKR _ _,bi k4 nKR _ _,bi k5 nKR _ _,bi k6 nKR _ _,bi k7 nKR _ _,di kf0 nKR _ _,di kf1 nKR _ _,di kf2 nKR _ _,di kf3 nKR _ _,di kf4 nKR _ _,di kf5 nKR _ _,di kf6 nKR _ _,di kf7 nKR _ _,bi o0 nOR _ _,bi o1 nOR _ _,bi o2 nOR _ _,bi o3 nOR _ _,bi o4 nOR _ _,bi o5 nOR _ _,bi o6 nOR _ _,bi o7 nOR _ _,di of0 nOR _ _,di of1 nOR _ _,di of2 nOR _ _,di of3 nOR _ _,di of4 nOR _ _,di of5 nOR _ _,di of6 nOR _ _,di of7 nOR _ _⟩
