import Derived.Test.YteglaomdgdkibaaGreatDoorJNS27
import Derived.Deep.AppendLies
import Derived.Test.YteglaomdgdkibaaGreatDoorJQNSP
set_option linter.all false
set_option maxHeartbeats 0
set_option maxRecDepth 99999
namespace Go.Proofs.YteglaomdgdkibaaGreatDoor
open Go.RowKit
open Value renaming int→ZZ,string→Zx,slice→Zw
open IntKind renaming i64→ZY
open Go renaming World→Z3
open Tryz
open Option renaming some→ZV,none→ZU
open Bool renaming false→Zz
variable {L:List Tok}{E G base cap k n p q x:Nat}{g:Got}{f:Tr->Tr}{w:World}{P:Nat->Prop}{xs:List Value}
theorem must_q {s:List UInt8} {F:Nat->Option Res} {Q:St->Prop} (h:toS (az L E p s F)=ZV g) (hr:∀q,toS (F q)=ZV g->Q (.run q)) (ho:∀x,g=(.out x,ZU)->Q (.out x)):Q (cj L E s (.run p)):=by
 rcases jG h with ⟨q,m,h⟩|⟨x,m,h⟩
 ·rw [m];exact hr q h
 ·rw [m];exact ho x h
def Q3 (L:List Tok) (E k:Nat) (f:Tr->Tr) (g:Got) (st:St):Prop:=∃gc:Got,goS (ak L E k 1) st=ZV gc/\g.1=cj L E [41] gc.1/\(g.2=ZU\/∃tc,gc.2=ZV tc/\g.2=ZV (f tc))
def Q2 (L:List Tok) (E k:Nat) (f:Tr->Tr->Tr) (g:Got) (st:St):Prop:=∃gb:Got,goS (ak L E k 1) st=ZV gb/\∃gc:Got,goS (ak L E k 1) (cj L E [44] gb.1)=ZV gc/\g.1=cj L E [41] gc.1/\(g.2=ZU\/∃tb tc,gb.2=ZV tb/\gc.2=ZV tc/\g.2=ZV (f tb tc))
def Q1 (L:List Tok) (E k:Nat) (f:Tr->Tr->Tr->Tr) (g:Got) (st:St):Prop:=∃ga:Got,goS (ak L E k 1) st=ZV ga/\∃gb:Got,goS (ak L E k 1) (cj L E [44] ga.1)=ZV gb/\∃gc:Got,goS (ak L E k 1) (cj L E [44] gb.1)=ZV gc/\g.1=cj L E [41] gc.1/\
 (g.2=ZU\/∃ta tb tc,ga.2=ZV ta/\gb.2=ZV tb/\gc.2=ZV tc/\g.2=ZV (f ta tb tc))
theorem OO (h:toS (Res.next (ak L E k 1 q) fun c q=>az L E q [41] fun q=>ZV (.ok (f c) q))=ZV g):Q3 L E k f g (.run q):=by
 rcases fR h with ⟨c,q2,e,h⟩|⟨x,e,rfl⟩
 ·refine ⟨(.run q2,ZV c),e,?_⟩
  rcases jG h with ⟨q,m,h⟩|⟨x,m,rfl⟩
  ·obtain rfl:(.run q,ZV (f c))=g:=Option.some.inj h
   exact ⟨m.symm,.inr ⟨c,rfl,rfl⟩⟩
  ·exact ⟨m.symm,.inl rfl⟩
 ·exact ⟨(.out x,ZU),e,rfl,.inl rfl⟩
theorem NF:Q3 L E k f (.out x,ZU) (.out x):=⟨(.out x,ZU),rfl,rfl,.inl rfl⟩
theorem OM {f:Tr->Tr->Tr} (h:toS (Res.next (ak L E k 1 q) fun b q=>az L E q [44] fun q=>Res.next (ak L E k 1 q) fun c q=>az L E q [41] fun q=>ZV (.ok (f b c) q))=ZV g):Q2 L E k f g (.run q):=by
 rcases fR h with ⟨b,q2,e,h⟩|⟨x,e,rfl⟩
 ·obtain ⟨gc,h1,h2,h3⟩:=must_q (Q:=Q3 L E k (f b) g) h (fun _ h=>OO h) (fun _ h=>h▸NF)
  exact ⟨(.run q2,ZV b),e,gc,h1,h2,h3.imp id fun ⟨tc,a,z⟩=>⟨b,tc,rfl,a,z⟩⟩
 ·exact ⟨(.out x,ZU),e,(.out x,ZU),rfl,rfl,.inl rfl⟩
theorem NU {f:Tr->Tr->Tr}:Q2 L E k f (.out x,ZU) (.out x):=⟨(.out x,ZU),rfl,(.out x,ZU),rfl,rfl,.inl rfl⟩
theorem OJ {f:Tr->Tr->Tr->Tr} (h:toS (Res.next (ak L E k 1 q) fun a q=>az L E q [44] fun q=>Res.next (ak L E k 1 q) fun b q=>az L E q [44] fun q=>Res.next (ak L E k 1 q) fun c q=>az L E q [41] fun q=>ZV (.ok (f a b c) q))=ZV g):Q1 L E k f g (.run q):=by
 rcases fR h with ⟨a,q2,e,h⟩|⟨x,e,rfl⟩
 ·obtain ⟨gb,h0,gc,h1,h2,h3⟩:=must_q (Q:=Q2 L E k (f a) g) h (fun _ h=>OM h) (fun _ h=>h▸NU)
  exact ⟨(.run q2,ZV a),e,gb,h0,gc,h1,h2,h3.imp id fun ⟨tb,tc,y,z,v⟩=>⟨a,tb,tc,rfl,y,z,v⟩⟩
 ·exact ⟨(.out x,ZU),e,(.out x,ZU),rfl,(.out x,ZU),rfl,rfl,.inl rfl⟩
theorem Nh {f:Tr->Tr->Tr->Tr}:Q1 L E k f (.out x,ZU) (.out x):=⟨(.out x,ZU),rfl,(.out x,ZU),rfl,(.out x,ZU),rfl,rfl,.inl rfl⟩
theorem Nx (h:toS (az L E (p+1) [40] fun q=>Res.next (ak L E k 1 q) fun a q=>az L E q [44] fun q=>Res.next (ak L E k 1 q) fun b q=>az L E q [44] fun q=>Res.next (ak L E k 1 q) fun c q=>az L E q [41] fun q=>ZV (.ok (ba [73,70] [a,b,c]) q))=ZV g):
 Q1 L E k (fun a b c=>ba [73,70] [a,b,c]) g (cj L E [40] (.run (p+1))):=
 must_q (Q:=Q1 L E k (fun a b c=>ba [73,70] [a,b,c]) g) h (fun _ h=>OJ (f:=fun a b c=>ba [73,70] [a,b,c]) h) (fun _ h=>h▸Nh)
theorem TV.node3 (k:Int) (wd:List UInt8) (x y z:V8) (t u v:Tr) (hG:P G) (hl:G<w.heap.size) (h8:oM w G 0 x) (k8:oM w G 8 y) (l8:oM w G 16 z) (hx:TV w P x (ZV t)) (hy:TV w P y (ZV u)) (hz:TV w P z (ZV v)) (hcap:3<=cap:=by first|exact qd|assumption|omega|(simp;done)):
 TV w P ⟨k,0,0,0,0,0,⟨wd.toArray⟩,ZV ⟨G,0,ZU⟩,3,cap⟩ (ZV (.mk k 0 0 0 0 0 wd [t,u,v])):=by
 refine TV.node k wd [(x,t),(y,u),(z,v)] hG hl (fun i s r hi=>?_) hcap;match i,hi with
 |0,hi=>exact qmH
 |1,hi=>exact qmI
 |2,hi=>simp at hi;obtain ⟨rfl,rfl⟩:=hi;exact ⟨l8,hz⟩
theorem GS (R:Nat) (A:Option Addr) (cap:Nat) (L:List Tok) (E:Nat) (hL:L.length<=1000) (w:Z3) (p:Nat) (hr:RS w R A cap L E (.run p)) (hk:TK w R A L) (hm:ag L p [40]=Zz) (t:Tok) (ht:L[p]? =ZV t) (k5:(t.kY==5)=Zz) (k1:(t.kY==1)=Zz) (k2:(t.kY==2)=Zz) (k3:(t.kY==3)=Zz) (kw:(t.text==[73,70])=true) (hP:bl R A cap L E 86 #[.pointer (ZV ⟨R,0,ZU⟩),ZZ ZY 1] (ak L E k 1)) (g:Got) (hg:toS (az L E (p+1) [40] fun q=>Res.next (ak L E k 1 q) fun a q=>az L E q [44] fun q=>Res.next (ak L E k 1 q) fun b q=>az L E q [44] fun q=>Res.next (ak L E k 1 q) fun c q=>az L E q [41] fun q=>ZV (.ok (ba [73,70] [a,b,c]) q))=ZV g):Calls prog 194 #[.pointer (ZV ⟨R,0,ZU⟩)] w fun e w'=>∃x:V8,e=.returned x.val/\TV w' (fun b=>w.heap.size<=b) x (g.2)/\RS w' R A cap L E (g.1)/\But R w w':=by
 obtain ⟨HR,HT,hlt,nk⟩:=qP;have HM:=qgz;obtain ⟨HX,hp⟩:=qbm;have HP:=qgy;clear hr hk;obtain ⟨ga,hga,gb,hgb,gc,hgc,ge1,ge2⟩:=Nx hg;have HGa:=qf hga;have HGb:=qf hgb;have HGc:=qf hgc;have HGE:=qf (And.intro ge1 ge2);clear hm ht hP hg hga hgb hgc ge1 ge2;go_enter func194,ntmps194;go_wp2_with fail;refine .mono qsl ?_;rintro e w1 ⟨rfl,b1⟩;obtain ⟨h1,zk1,k10,k11,k12,k13,k14,k15,k16,k17,kf10,kf11,kf12,kf13,kf14,kf15,kf16,kf17,y1,HR1⟩:=qg;have e1:=qcR;clear b1;obtain ⟨_,_,hc⟩:=HR1.out;obtain ⟨c0,c1,c3,cf1⟩:=qbr;clear hc;obtain ⟨ga1,hA,hgaR1,hgal1,t0,t1,t2,t3,t4,t5⟩:=(HT.out.but h1).at HX.out;rw [hA] at c0;obtain ⟨d11,zR1⟩:=qbQ;clear hA;go_wp2_with fail;go_quiet (fail)
 clear c0 c1 c3 cf1 t0 t1 t2 t3 t4 t5 zR1;go_wp2_with fail;generalize hq2:w1.drewN nq=w2;have b2:=qcH;obtain ⟨h2,zk2,k20,k21,k22,k23,k24,k25,k26,k27,kf20,kf21,kf22,kf23,kf24,kf25,kf26,kf27⟩:=qh;obtain ⟨y2,HR2⟩:=qF;clear hq2 b2 k10 k11 k12 k13 k14 k15 k16 k17 kf10 kf11 kf12 kf13 kf14 kf15 kf16 kf17 zk1;obtain ⟨_,_,hc⟩:=HR2.out;obtain ⟨c0,c1,c3,cf1⟩:=qbr;clear hc;obtain ⟨ga2,hA,hgaR2,hgal2,t0,t1,t2,t3,t4,t5⟩:=(HT.out.but h2).at HX.out;rw [hA] at c0;obtain ⟨d12,zR2⟩:=qck;have HS2:=qas;clear hA;go_region
 go_wp2_with fail;have na:=qeU;clear c0 c1 c3 cf1 t0 t1 t2 t3 t4 t5;refine (eU (R:=R) (A:=A) (cap:=cap) (L:=L) (E:=E) (st:=(.run (p+1))) ⟨#[40]⟩ hL (have hv:=HS2.out;qnr) (HT.out.but (have hv:=h2;qni))).mono ?_;rintro e w3 ⟨rfl,r3,b3⟩;obtain ⟨h3,zk3,k30,k31,k32,k33,k34,k35,k36,k37,kf30,kf31,kf32,kf33,kf34,kf35,kf36,kf37⟩:=qi;obtain ⟨za3,a30,a31,a32,a33,a34,a35,y3⟩:=qu;have HR3:=qhx;clear b3 r3 k20 k21 k22 k23 k24 k25 k26 k27 kf20 kf21 kf22 kf23 kf24 kf25 kf26 kf27 zk2;go_wp2_with fail;refine (HP.out _ (cj L E [40] (.run (p+1))) ga (have hv:=HR3.out;qnr) (HT.out.but (have hv:=h3;qni)) HGa.out).mono ?_;rintro e w4 ⟨⟨aa0,aa1,aa2,aa3,aa4,aa5,aaw,aaA,aal,aac⟩,rfl,v4,r4,b4⟩;obtain ⟨h4,zk4,k40,k41,k42,k43,k44,k45,k46,k47,Hkf4⟩:=qaY;obtain ⟨kf40,kf41,kf42,kf43,kf44,kf45,kf46,kf47⟩:=Hkf4;have za4:w2.heap.size<w4.heap.size:=qom;have a40:w4.cell? ⟨w2.heap.size,0,ZU⟩=ZV (ZZ ZY t.kY):=b4.cell na (have hv:=a30;qnj);have a41:w4.cell? ⟨w2.heap.size,1,ZU⟩=ZV (ZZ ZY t.num):=b4.cell na (have hv:=a31;qnj);have a42:w4.cell? ⟨w2.heap.size,2,ZU⟩=ZV (ZZ ZY t.col):=b4.cell na (have hv:=a32;qnj);have a43:w4.cell? ⟨w2.heap.size,3,ZU⟩=ZV (ZZ ZY t.row):=b4.cell na (have hv:=a33;qnj);have a44:w4.cell? ⟨w2.heap.size,4,ZU⟩=ZV (Zx ⟨t.text.toArray⟩):=b4.cell na (have hv:=a34;qnj)
 have a45:w4.cell? ⟨w2.heap.size,5,ZU⟩=ZV (ZZ ZY (t.frm:Int)):=b4.cell na (have hv:=a35;qnj);have y4:w.heap.size<w4.heap.size:=zk4;have HR4:Hid (RS w4 R A cap L E ga.1):=qf r4;have Haa4:Hid (TV w4 (fun b=>w.heap.size<b) ⟨aa0,aa1,aa2,aa3,aa4,aa5,aaw,aaA,aal,aac⟩ ga.2):=qf (v4.imp fun b hb=>by have hb2:_<=b:=hb;first|omega|(simp at hb2;omega));clear v4 b4 r4 k30 k31 k32 k33 k34 k35 k36 k37 kf30 kf31 kf32 kf33 kf34 kf35 kf36 kf37 zk3 a30 a31 a32 a33 a34 a35 za3;dsimp only [V8.val];go_wp2_with fail;have naa:w4.heap.size≠R:=qoq;have qaa:w.heap.size<w4.heap.size:=y4;refine (eU (R:=R) (A:=A) (cap:=cap) (L:=L) (E:=E) (st:=ga.1) ⟨#[44]⟩ hL (have hv:=HR4.out;qoI) (HT.out.but (have hv:=h4;qni))).mono ?_;rintro e w5 ⟨rfl,r5,b5⟩;obtain ⟨h5,zk5,k50,k51,k52,k53,k54,k55,k56,k57,kf50,kf51,kf52,kf53,kf54,kf55,kf56,kf57,za5,a50,a51,a52,a53,a54,a55⟩:=qv;have zaa5:w4.heap.size<w5.heap.size:=qoF;have Haa5:C8 w5 (w4.heap.size) (ZZ ZY aa0) (ZZ ZY aa1) (ZZ ZY aa2) (ZZ ZY aa3) (ZZ ZY aa4) (ZZ ZY aa5) (.string aaw) (Zw aaA aal aac):=(by refine ⟨?_,?_,?_,?_,?_,?_,?_,?_⟩<;>exact b5.cell naa qnp);obtain ⟨aa50,aa51,aa52,aa53,aa54,aa55,aa56,aa57⟩:=Haa5;have y5:=qfO;have HR5:Hid (RS w5 R A cap L E (cj L E [44] ga.1)):=qf r5
 have Haa5:Hid (TV w5 (fun b=>w.heap.size<b) ⟨aa0,aa1,aa2,aa3,aa4,aa5,aaw,aaA,aal,aac⟩ ga.2):=qf (Haa4.out.kept (Kept.but qnm b5 fun h=>by have:=h;omega));clear b5 r5 k40 k41 k42 k43 k44 k45 k46 k47 kf40 kf41 kf42 kf43 kf44 kf45 kf46 kf47 zk4 a40 a41 a42 a43 a44 a45 za4;clear Haa4;go_wp2_with fail;refine (HP.out _ (cj L E [44] ga.1) gb (have hv:=HR5.out;qoI) (HT.out.but (have hv:=h5;qni)) HGb.out).mono ?_;rintro e w6 ⟨⟨bb0,bb1,bb2,bb3,bb4,bb5,bbw,bbA,bbl,bbc⟩,rfl,v6,r6,b6⟩;have h6:But R w w6:=But.trans (have hv:=h5;qni) b6;have zk6:w.heap.size<w6.heap.size:=qpb;have Hk6:=bt (B:=w.heap.size) (fun j v hv=>b6.cell nk qnj) k50 k51 k52 k53 k54 k55 k56 k57;obtain ⟨k60,k61,k62,k63,k64,k65,k66,k67⟩:=Hk6;have Hkf6:=bq (B:=w.heap.size) (fun j hv=>b6.frozen nk qnt qnq) kf50 kf51 kf52 kf53 kf54 kf55 kf56 kf57;obtain ⟨kf60,kf61,kf62,kf63,kf64,kf65,kf66,kf67⟩:=Hkf6;have za6:w2.heap.size<w6.heap.size:=qpb;have a60:w6.cell? ⟨w2.heap.size,0,ZU⟩=ZV (ZZ ZY t.kY):=b6.cell na (have hv:=a50;qnj);have a61:w6.cell? ⟨w2.heap.size,1,ZU⟩=ZV (ZZ ZY t.num):=b6.cell na (have hv:=a51;qnj);have a62:w6.cell? ⟨w2.heap.size,2,ZU⟩=ZV (ZZ ZY t.col):=b6.cell na (have hv:=a52;qnj);have a63:w6.cell? ⟨w2.heap.size,3,ZU⟩=ZV (ZZ ZY t.row):=b6.cell na (have hv:=a53;qnj)
 have a64:w6.cell? ⟨w2.heap.size,4,ZU⟩=ZV (Zx ⟨t.text.toArray⟩):=b6.cell na (have hv:=a54;qnj);have a65:w6.cell? ⟨w2.heap.size,5,ZU⟩=ZV (ZZ ZY (t.frm:Int)):=b6.cell na (have hv:=a55;qnj);have zaa6:w4.heap.size<w6.heap.size:=qpb;have Haa6:=bt (B:=w4.heap.size) (fun j v hv=>b6.cell naa qnj) aa50 aa51 aa52 aa53 aa54 aa55 aa56 aa57;obtain ⟨aa60,aa61,aa62,aa63,aa64,aa65,aa66,aa67⟩:=Haa6;have y6:w.heap.size<w6.heap.size:=zk6;have HR6:Hid (RS w6 R A cap L E gb.1):=qf r6;have Haa6:Hid (TV w6 (fun b=>w.heap.size<b) ⟨aa0,aa1,aa2,aa3,aa4,aa5,aaw,aaA,aal,aac⟩ ga.2):=qf (Haa5.out.kept (Kept.but qnm b6 fun h=>by have:=h;omega));have Hbb6:Hid (TV w6 (fun b=>w.heap.size<b) ⟨bb0,bb1,bb2,bb3,bb4,bb5,bbw,bbA,bbl,bbc⟩ gb.2):=qf (v6.imp fun b hb=>by have hb2:_<=b:=hb;first|omega|(simp at hb2;omega));clear v6;clear b6 r6 k50 k51 k52 k53 k54 k55 k56 k57 kf50 kf51 kf52 kf53 kf54 kf55 kf56 kf57 zk5 a50 a51 a52 a53 a54 a55 za5 aa50 aa51 aa52 aa53 aa54 aa55 aa56 aa57 zaa5;clear Haa5;dsimp only [V8.val];go_wp2_with fail;have nbb:w6.heap.size≠R:=qoq;have qbb:w.heap.size<w6.heap.size:=y6;refine (eU (R:=R) (A:=A) (cap:=cap) (L:=L) (E:=E) (st:=gb.1) ⟨#[44]⟩ hL (have hv:=HR6.out;qoz) (HT.out.but (have hv:=h6;qni))).mono ?_;rintro e w7 ⟨rfl,r7,b7⟩;have h7:But R w w7:=But.trans (have hv:=h6;qni) b7;have zk7:w.heap.size<w7.heap.size:=qoG
 have Hk7:=bt (B:=w.heap.size) (fun j v hv=>b7.cell nk qnj) k60 k61 k62 k63 k64 k65 k66 k67;obtain ⟨k70,k71,k72,k73,k74,k75,k76,k77⟩:=Hk7;have Hkf7:=bq (B:=w.heap.size) (fun j hv=>b7.frozen nk qnt qnq) kf60 kf61 kf62 kf63 kf64 kf65 kf66 kf67;obtain ⟨kf70,kf71,kf72,kf73,kf74,kf75,kf76,kf77⟩:=Hkf7;have za7:w2.heap.size<w7.heap.size:=qoG;have a70:w7.cell? ⟨w2.heap.size,0,ZU⟩=ZV (ZZ ZY t.kY):=b7.cell na (have hv:=a60;qnj);have a71:w7.cell? ⟨w2.heap.size,1,ZU⟩=ZV (ZZ ZY t.num):=b7.cell na (have hv:=a61;qnj);have a72:w7.cell? ⟨w2.heap.size,2,ZU⟩=ZV (ZZ ZY t.col):=b7.cell na (have hv:=a62;qnj);have a73:w7.cell? ⟨w2.heap.size,3,ZU⟩=ZV (ZZ ZY t.row):=b7.cell na (have hv:=a63;qnj);have a74:w7.cell? ⟨w2.heap.size,4,ZU⟩=ZV (Zx ⟨t.text.toArray⟩):=b7.cell na (have hv:=a64;qnj);have a75:w7.cell? ⟨w2.heap.size,5,ZU⟩=ZV (ZZ ZY (t.frm:Int)):=b7.cell na (have hv:=a65;qnj);have zaa7:w4.heap.size<w7.heap.size:=qoG;have Haa7:=bt (B:=w4.heap.size) (fun j v hv=>b7.cell naa qnj) aa60 aa61 aa62 aa63 aa64 aa65 aa66 aa67;obtain ⟨aa70,aa71,aa72,aa73,aa74,aa75,aa76,aa77⟩:=Haa7;have zbb7:w6.heap.size<w7.heap.size:=qoG
 have Hbb7:C8 w7 (w6.heap.size) (ZZ ZY bb0) (ZZ ZY bb1) (ZZ ZY bb2) (ZZ ZY bb3) (ZZ ZY bb4) (ZZ ZY bb5) (.string bbw) (Zw bbA bbl bbc):=(by refine ⟨?_,?_,?_,?_,?_,?_,?_,?_⟩<;>exact b7.cell nbb qnp);obtain ⟨bb70,bb71,bb72,bb73,bb74,bb75,bb76,bb77⟩:=Hbb7;have y7:w.heap.size<w7.heap.size:=zk7;have HR7:Hid (RS w7 R A cap L E (cj L E [44] gb.1)):=qf r7;have Haa7:Hid (TV w7 (fun b=>w.heap.size<b) ⟨aa0,aa1,aa2,aa3,aa4,aa5,aaw,aaA,aal,aac⟩ ga.2):=qf (Haa6.out.kept (Kept.but qnm b7 fun h=>by have:=h;omega));have Hbb7:Hid (TV w7 (fun b=>w.heap.size<b) ⟨bb0,bb1,bb2,bb3,bb4,bb5,bbw,bbA,bbl,bbc⟩ gb.2):=qf (Hbb6.out.kept (Kept.but qnm b7 fun h=>by have:=h;omega));clear b7 r7 k60 k61 k62 k63 k64 k65 k66 k67 kf60 kf61 kf62 kf63 kf64 kf65 kf66 kf67 zk6 a60 a61 a62 a63 a64 a65 za6 aa60 aa61 aa62 aa63 aa64 aa65 aa66 aa67 zaa6;clear Haa6 Hbb6;go_wp2_with fail;refine (HP.out _ (cj L E [44] gb.1) gc (have hv:=HR7.out;qoz) (HT.out.but (have hv:=h7;qni)) HGc.out).mono ?_;rintro e w8 ⟨⟨cc0,cc1,cc2,cc3,cc4,cc5,ccw,ccA,ccl,ccc⟩,rfl,v8,r8,b8⟩;have h8:But R w w8:=But.trans (have hv:=h7;qni) b8;have zk8:w.heap.size<w8.heap.size:=qoH;have Hk8:=bt (B:=w.heap.size) (fun j v hv=>b8.cell nk qnj) k70 k71 k72 k73 k74 k75 k76 k77;obtain ⟨k80,k81,k82,k83,k84,k85,k86,k87⟩:=Hk8
 have Hkf8:=bq (B:=w.heap.size) (fun j hv=>b8.frozen nk qnt qnq) kf70 kf71 kf72 kf73 kf74 kf75 kf76 kf77;obtain ⟨kf80,kf81,kf82,kf83,kf84,kf85,kf86,kf87⟩:=Hkf8;have za8:w2.heap.size<w8.heap.size:=qoH;have a80:w8.cell? ⟨w2.heap.size,0,ZU⟩=ZV (ZZ ZY t.kY):=b8.cell na (have hv:=a70;qnj);have a81:w8.cell? ⟨w2.heap.size,1,ZU⟩=ZV (ZZ ZY t.num):=b8.cell na (have hv:=a71;qnj);have a82:w8.cell? ⟨w2.heap.size,2,ZU⟩=ZV (ZZ ZY t.col):=b8.cell na (have hv:=a72;qnj);have a83:w8.cell? ⟨w2.heap.size,3,ZU⟩=ZV (ZZ ZY t.row):=b8.cell na (have hv:=a73;qnj);have a84:w8.cell? ⟨w2.heap.size,4,ZU⟩=ZV (Zx ⟨t.text.toArray⟩):=b8.cell na (have hv:=a74;qnj);have a85:w8.cell? ⟨w2.heap.size,5,ZU⟩=ZV (ZZ ZY (t.frm:Int)):=b8.cell na (have hv:=a75;qnj);have zaa8:w4.heap.size<w8.heap.size:=qoH;have Haa8:=bt (B:=w4.heap.size) (fun j v hv=>b8.cell naa qnj) aa70 aa71 aa72 aa73 aa74 aa75 aa76 aa77;obtain ⟨aa80,aa81,aa82,aa83,aa84,aa85,aa86,aa87⟩:=Haa8;have zbb8:w6.heap.size<w8.heap.size:=qoH;have Hbb8:=bt (B:=w6.heap.size) (fun j v hv=>b8.cell nbb qnj) bb70 bb71 bb72 bb73 bb74 bb75 bb76 bb77;obtain ⟨bb80,bb81,bb82,bb83,bb84,bb85,bb86,bb87⟩:=Hbb8;have y8:w.heap.size<w8.heap.size:=zk8;have HR8:Hid (RS w8 R A cap L E gc.1):=qf r8
 have Haa8:Hid (TV w8 (fun b=>w.heap.size<b) ⟨aa0,aa1,aa2,aa3,aa4,aa5,aaw,aaA,aal,aac⟩ ga.2):=qf (Haa7.out.kept (Kept.but qnm b8 fun h=>by have:=h;omega));have Hbb8:Hid (TV w8 (fun b=>w.heap.size<b) ⟨bb0,bb1,bb2,bb3,bb4,bb5,bbw,bbA,bbl,bbc⟩ gb.2):=qf (Hbb7.out.kept (Kept.but qnm b8 fun h=>by have:=h;omega));have Hcc8:Hid (TV w8 (fun b=>w.heap.size<b) ⟨cc0,cc1,cc2,cc3,cc4,cc5,ccw,ccA,ccl,ccc⟩ gc.2):=qf (v8.imp fun b hb=>by have hb2:_<=b:=hb;first|omega|(simp at hb2;omega));clear v8;clear b8 r8 k70 k71 k72 k73 k74 k75 k76 k77 kf70 kf71 kf72 kf73 kf74 kf75 kf76 kf77 zk7 a70 a71 a72 a73 a74 a75 za7 aa70 aa71 aa72 aa73 aa74 aa75 aa76 aa77 zaa7 bb70 bb71 bb72 bb73 bb74 bb75 bb76 bb77 zbb7;clear Haa7 Hbb7;dsimp only [V8.val];go_wp2_with fail;have ncc:w8.heap.size≠R:=qoq;have qcc:w.heap.size<w8.heap.size:=y8;refine (eU (R:=R) (A:=A) (cap:=cap) (L:=L) (E:=E) (st:=gc.1) ⟨#[41]⟩ hL (have hv:=HR8.out;qop) (HT.out.but (have hv:=h8;qni))).mono ?_;rintro e w9 ⟨rfl,r9,b9⟩;have h9:But R w w9:=But.trans (have hv:=h8;qni) b9;have zk9:w.heap.size<w9.heap.size:=qon;have Hk9:=bt (B:=w.heap.size) (fun j v hv=>b9.cell nk qnj) k80 k81 k82 k83 k84 k85 k86 k87;obtain ⟨k90,k91,k92,k93,k94,k95,k96,k97⟩:=Hk9;have Hkf9:=bq (B:=w.heap.size) (fun j hv=>b9.frozen nk qnt qnq) kf80 kf81 kf82 kf83 kf84 kf85 kf86 kf87;obtain ⟨kf90,kf91,kf92,kf93,kf94,kf95,kf96,kf97⟩:=Hkf9
 have za9:w2.heap.size<w9.heap.size:=qon;have a90:w9.cell? ⟨w2.heap.size,0,ZU⟩=ZV (ZZ ZY t.kY):=b9.cell na (have hv:=a80;qnj);have a91:w9.cell? ⟨w2.heap.size,1,ZU⟩=ZV (ZZ ZY t.num):=b9.cell na (have hv:=a81;qnj);have a92:w9.cell? ⟨w2.heap.size,2,ZU⟩=ZV (ZZ ZY t.col):=b9.cell na (have hv:=a82;qnj);have a93:w9.cell? ⟨w2.heap.size,3,ZU⟩=ZV (ZZ ZY t.row):=b9.cell na (have hv:=a83;qnj);have a94:w9.cell? ⟨w2.heap.size,4,ZU⟩=ZV (Zx ⟨t.text.toArray⟩):=b9.cell na (have hv:=a84;qnj);have a95:w9.cell? ⟨w2.heap.size,5,ZU⟩=ZV (ZZ ZY (t.frm:Int)):=b9.cell na (have hv:=a85;qnj);have zaa9:w4.heap.size<w9.heap.size:=qon;have Haa9:=bt (B:=w4.heap.size) (fun j v hv=>b9.cell naa qnj) aa80 aa81 aa82 aa83 aa84 aa85 aa86 aa87;obtain ⟨aa90,aa91,aa92,aa93,aa94,aa95,aa96,aa97⟩:=Haa9;have zbb9:w6.heap.size<w9.heap.size:=qon;have Hbb9:=bt (B:=w6.heap.size) (fun j v hv=>b9.cell nbb qnj) bb80 bb81 bb82 bb83 bb84 bb85 bb86 bb87;obtain ⟨bb90,bb91,bb92,bb93,bb94,bb95,bb96,bb97⟩:=Hbb9;have zcc9:w8.heap.size<w9.heap.size:=qon;have Hcc9:C8 w9 (w8.heap.size) (ZZ ZY cc0) (ZZ ZY cc1) (ZZ ZY cc2) (ZZ ZY cc3) (ZZ ZY cc4) (ZZ ZY cc5) (.string ccw) (Zw ccA ccl ccc):=(by refine ⟨?_,?_,?_,?_,?_,?_,?_,?_⟩<;>exact b9.cell ncc qnp);obtain ⟨cc90,cc91,cc92,cc93,cc94,cc95,cc96,cc97⟩:=Hcc9
 have y9:w.heap.size<w9.heap.size:=zk9;have HR9:Hid (RS w9 R A cap L E (cj L E [41] gc.1)):=qf r9;have Haa9:Hid (TV w9 (fun b=>w.heap.size<b) ⟨aa0,aa1,aa2,aa3,aa4,aa5,aaw,aaA,aal,aac⟩ ga.2):=qf (Haa8.out.kept (Kept.but qnm b9 fun h=>by have:=h;omega));have Hbb9:Hid (TV w9 (fun b=>w.heap.size<b) ⟨bb0,bb1,bb2,bb3,bb4,bb5,bbw,bbA,bbl,bbc⟩ gb.2):=qf (Hbb8.out.kept (Kept.but qnm b9 fun h=>by have:=h;omega));have Hcc9:Hid (TV w9 (fun b=>w.heap.size<b) ⟨cc0,cc1,cc2,cc3,cc4,cc5,ccw,ccA,ccl,ccc⟩ gc.2):=qf (Hcc8.out.kept (Kept.but qnm b9 fun h=>by have:=h;omega));clear b9 r9 k80 k81 k82 k83 k84 k85 k86 k87 kf80 kf81 kf82 kf83 kf84 kf85 kf86 kf87 zk8 a80 a81 a82 a83 a84 a85 za8 aa80 aa81 aa82 aa83 aa84 aa85 aa86 aa87 zaa8 bb80 bb81 bb82 bb83 bb84 bb85 bb86 bb87 zbb8;clear Haa8 Hbb8 Hcc8;go_wp2_with fail;have HRg:Hid (RS w9 R A cap L E g.1):=qf (by rw [HGE.out.1];exact HR9.out)
 exact bodyPost_ret (v:=.agg #[ZZ ZY 5,ZZ ZY 0,ZZ ZY 0,ZZ ZY 0,ZZ ZY 0,ZZ ZY 0,Zx ⟨#[73,70]⟩,Zw (ZV ⟨w9.heap.size,0,ZU⟩) 3 3]) (by simp [results,results194,go_sem,k90,k91,k92,k93,k94,k95,k96,k97,y9]) rfl ⟨⟨5,0,0,0,0,0,⟨#[73,70]⟩,ZV ⟨w9.heap.size,0,ZU⟩,3,3⟩,rfl,(by
  rcases HGE.out.2 with e|⟨ta,tb,tc,e1,e2,e3,e⟩
  ·rw [e];trivial
  ·rw [e]
   have A1:=Haa9.out;have A2:=Hbb9.out;have A3:=Hcc9.out;rw [e1] at A1;rw [e2] at A2;rw [e3] at A3;exact (TV.node3 5 [73,70] ⟨aa0,aa1,aa2,aa3,aa4,aa5,aaw,aaA,aal,aac⟩ ⟨bb0,bb1,bb2,bb3,bb4,bb5,bbw,bbA,bbl,bbc⟩ ⟨cc0,cc1,cc2,cc3,cc4,cc5,ccw,ccA,ccl,ccc⟩ ta tb tc (by show w.heap.size<_;omega) qnV ⟨qnp,qnp,qnp,qnp,qnp,qnp,qnp,qnp⟩ ⟨qnp,qnp,qnp,qnp,qnp,qnp,qnp,qnp⟩ ⟨qnp,qnp,qnp,qnp,qnp,qnp,qnp,qnp⟩ (A1.kept qnm) (A2.kept qnm) (A3.kept qnm)).imp fun b (hb:w.heap.size<b)=>Nat.le_of_lt hb),(have hv:=HRg.out;qop),(have hv:=h9;qni)⟩
theorem zH (w:Z3) (P:Nat->Prop) (g o:Nat):KLc w P [] g o:=by rw [KLc];trivial
theorem F0 {w:Z3} {P:Nat->Prop}:∀{ks:List Tr} {g o:Nat},KLc w P ks g o->∃news:List Value,news.length=ks.length*8/\(∀(j:Nat) (u:Value),news[j]? =ZV u->w.cell? ⟨g,o+j,ZU⟩=ZV u)/\(∀u∈news,u.oneCell'=true)/\
 ∀(w':Z3) (g' o':Nat),Kept w w' P->(∀(j:Nat) (u:Value),news[j]? =ZV u->w'.cell? ⟨g',o'+j,ZU⟩=ZV u)->KLc w' P ks g' o'
 |[],g,o,_=>⟨[],rfl,(fun j u h=>by simp at h),(fun u h=>by simp at h),(fun w' g' o' _ _=>zH w' P g' o')⟩
 |t::ts,g,o,h=>by
  rw [KLc] at h;obtain ⟨⟨A,cap,⟨h0,h1,h2,h3,h4,h5,h6,h7⟩,hv⟩,hl⟩:=h;obtain ⟨news,n1,n2,n3,n4⟩:=F0 hl;refine ⟨[ZZ ZY t.kY,ZZ ZY t.num,ZZ ZY t.c1,ZZ ZY t.r1,ZZ ZY t.c2,ZZ ZY t.r2,Zx ⟨t.wZ.toArray⟩,Zw A t.kZ.length cap]++news,?_,?_,?_,?_⟩
  ·simp only [List.length_append,List.length_cons,List.length_nil,n1];omega
  ·intro j u hj
   by_cases hlt:j<8
   ·have e:j=0\/j=1\/j=2\/j=3\/j=4\/j=5\/j=6\/j=7:=by omega
    rcases e with rfl|rfl|rfl|rfl|rfl|rfl|rfl|rfl<;>(simp at hj;subst hj;assumption)
   ·rw [List.getElem?_append_right qnu] at hj
    have:=n2 (j - 8) u qpg;rwa [show o+8+(j - 8)=o+j from by omega] at this
  ·intro u hu
   rcases List.mem_append.1 hu with hu|hu
   ·simp only [List.mem_cons,List.not_mem_nil,or_false] at hu
    rcases hu with rfl|rfl|rfl|rfl|rfl|rfl|rfl|rfl<;>rfl
   ·exact n3 u hu
  ·intro w' g' o' hk hc
   rw [KLc];refine ⟨⟨A,cap,⟨?_,?_,?_,?_,?_,?_,?_,?_⟩,hv.stay hk⟩,n4 w' g' (o'+8) hk fun j u hj=>?_⟩
   ·exact hc 0 _ qns
   ·exact hc 1 _ qns
   ·exact hc 2 _ qns
   ·exact hc 3 _ qns
   ·exact hc 4 _ qns
   ·exact hc 5 _ qns
   ·exact hc 6 _ qns
   ·exact hc 7 _ qns
   ·have:=hc (j+8) u (by rw [List.getElem?_append_right qns];simpa using hj)
    rwa [show o'+(j+8)=o'+8+j from by omega] at this
theorem KLc.snoc {t:Tr}:∀{ks:List Tr} {g o:Nat},KLc w P ks g o->(∃A cap,At8 w g (o+ks.length*8) t A cap/\KVc w P t A cap)->KLc w P (ks++[t]) g o
 |[],g,o,_,h=>by
  rw [List.nil_append,KLc,KLc];exact ⟨qoA,trivial⟩
 |u::us,g,o,h,k=>by
  rw [KLc] at h;rw [List.cons_append,KLc];refine ⟨h.1,h.2.snoc ?_⟩;rw [List.length_cons] at k;rwa [show o+8+us.length*8=o+(us.length+1)*8 from by omega]
theorem JU {e:TypeId} {g:Nat} (h:w.ownsRow base e 8 (Zw (ZV ⟨g,0,ZU⟩) n cap) n xs):∀(j:Nat) (u:Value),xs[j]? =ZV u->w.cell? ⟨g,0+j,ZU⟩=ZV u:=by
 intro j u hj;rcases h.2 with ⟨e,_⟩|⟨g',cap',cur,hv,_,hh,_,_,_,ht⟩
 ·cases e
 ·simp at hv
  obtain ⟨rfl,rfl⟩:=hv;have hc:=Lib.cell_of_heap hh j;rw [Nat.zero_add];rw [hc];rw [<-ht] at hj;rw [List.getElem?_take] at hj;split at hj
  ·simpa using hj
  ·cases hj
theorem Lo {e:TypeId} {g:Nat} (h:w.ownsRow base e 8 (Zw (ZV ⟨g,0,ZU⟩) n cap) n xs):n<=cap:=qkN
theorem tE {B:Nat} {e:TypeId} (hb:base<=B) (h:w.heap[B]? =ZV (.cells #[] e (0,0))):w.ownsRow base e 8 (Zw (ZV ⟨B,0,ZU⟩) 0 0) 0 []:=
 ⟨rfl,.inr ⟨B,0,#[],rfl,hb,h,qd,qe,rfl,rfl⟩⟩
theorem rL {w1:Z3} {Q:Nat->Prop} {acc:List Tr} {news:List Value} {x:V8} {ot:Option Tr} {e:TypeId}
 (hn:news.length=acc.length*8) (hre:∀(w':Z3) (g' o':Nat),Kept w w' P->(∀(j:Nat) (u:Value),news[j]? =ZV u->w'.cell? ⟨g',o'+j,ZU⟩=ZV u)->KLc w' P acc g' o')
 (hx:TV w P x ot) (hk:Kept w w1 P) (hPQ:∀b,P b->Q b) (hG:Q G) (hGl:G<w1.heap.size)
 (hown:w1.ownsRow base e 8 (Zw (ZV ⟨G,0,ZU⟩) (acc.length+1) cap) (acc.length+1) (news++[ZZ ZY x.n0,ZZ ZY x.n1,ZZ ZY x.n2,ZZ ZY x.n3,ZZ ZY x.n4,ZZ ZY x.n5,.string x.s,Zw x.A x.len x.cap])) (wd:List UInt8):
 TV w1 Q ⟨5,0,0,0,0,0,⟨wd.toArray⟩,ZV ⟨G,0,ZU⟩,acc.length+1,cap⟩ (ot.map fun t=>ba wd (acc++[t])):=by
 cases ot with
 |none=>trivial
 |some t=>
  obtain ⟨A,ca,hxe,hv⟩:=hx;subst hxe;have hc:=JU hown;have hkl:KLc w1 P acc G 0:=hre w1 G 0 hk fun j u hj=>hc j u (by rw [List.getElem?_append_left (List.getElem?_eq_some_iff.1 hj).1];exact hj)
  have h8:∀j u,([ZZ ZY t.kY,ZZ ZY t.num,ZZ ZY t.c1,ZZ ZY t.r1,ZZ ZY t.c2,ZZ ZY t.r2,Zx ⟨t.wZ.toArray⟩,Zw A t.kZ.length ca]:List Value)[j]? =ZV u->w1.cell? ⟨G,0+acc.length*8+j,ZU⟩=ZV u:=fun j u hj=>by
   have:=hc (acc.length*8+j) u (by rw [List.getElem?_append_right qoq,hn,Nat.add_sub_cancel_left];exact hj);rwa [<-Nat.add_assoc] at this
  refine ⟨ZV ⟨G,0,ZU⟩,cap,(by simp [tv8,ba,Tr.kY,Tr.num,Tr.c1,Tr.r1,Tr.c2,Tr.r2,Tr.wZ,Tr.kZ]),?_⟩;refine KVc.mk' (by simp only [ba,Tr.kZ,List.length_append,List.length_cons,List.length_nil];exact Lo hown) (.inr ⟨G,0,rfl,hG,hGl,?_⟩)
  ·exact KLc.imp hPQ (hkl.snoc ⟨A,ca,⟨h8 0 _ rfl,h8 1 _ rfl,h8 2 _ rfl,h8 3 _ rfl,h8 4 _ rfl,h8 5 _ rfl,h8 6 _ rfl,h8 7 _ rfl⟩,hv.stay hk⟩)
theorem Br:(prog.info? 33).map (fun i=>(i.zero,i.size,i.bytes))=ZV (ZV (.agg #[ZZ ZY 0,ZZ ZY 0,ZZ ZY 0,ZZ ZY 0,ZZ ZY 0,ZZ ZY 0,Zx ⟨#[]⟩,Zw ZU 0 0]),8,88):=by kernel_rfl
theorem rj {P:Program} (w:Z3) (t ty e:TypeId) (i:TypeInfo) (ht:P.underlying t=ZV (.slice e)) (hi:P.info? e=ZV i) (B:Nat):
 (Builtin.append_ #[t,t] ty #[Zw (ZV ⟨B,0,ZU⟩) 0 0,Zw ZU 0 0]).run P w=.ok (Zw (ZV ⟨B,0,ZU⟩) 0 0) w:=by
 simp [Builtin.append_,run_underlying ht,sizeOf,typeInfo,hi,Builtin.lenOf,Builtin.firstCells,loadCells,loadCellsFrom,storeCells]
theorem oV {P:Program} {ops:Array Oper} {o:Oper} {a:Act} {K:Act->Z3->Prop} {Q:Exit->Act->Z3->Prop} {E:Prop} (hgd:o.guard=ZU) (s x:Operand) (t:TypeId)
 (ho:o.op=.call { callee:=.builtin .append,args:=#[s,x],argTypes:=#[t,t] }) (e:TypeId) (i:TypeInfo) (ht:P.underlying t=ZV (.slice e)) (hi:P.info? e=ZV i) (B:Nat)
 (hs:a.eval s=Zw (ZV ⟨B,0,ZU⟩) 0 0) (hx:a.eval x=Zw ZU 0 0) (h:K (a.put o.dst (Zw (ZV ⟨B,0,ZU⟩) 0 0)) w):
 if Region.wanted o (yielded ops a.tmps)=true then Oper.wp P o a w K Q else E:=by
 have hw:=qcf;rw [if_pos hw];unfold Oper.wp execOp;simp only [ho,Go.resolve,invoke,builtin,Sem.run_bind,Sem.run_pure,Result.andThen_ok,List.map_toArray,List.map_cons,List.map_nil,hs,hx,rj w t o.type e i ht hi B];exact h
