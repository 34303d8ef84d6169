import Derived.Test.YteglaomdgdkibaaGreatDoorJNS25
import Derived.Test.YteglaomdgdkibaaGreatDoorJQNSP
import Derived.Test.YteglaomdgdkibaaGreatDoorJQNSX
set_option linter.all false
set_option maxHeartbeats 0
set_option maxRecDepth 99999
namespace Go.Proofs.YteglaomdgdkibaaGreatDoor
open Go.RowKit
open Value renaming int→ZZ,string→Zx,pointer→Zv
open IntKind renaming i64→ZY
open Ending renaming returned→ZX
open Tryz
open Tryz renaming prog→ZW
open Option renaming some→ZV,none→ZU
open Bool renaming false→Zz,true→Zy
variable {E R cap k:Nat}{A:Option Addr}{L:List Tok}
theorem ritem_bada (cb:Bool) (R:Nat) (A:Option Addr) (cap:Nat) (L:List Tok) (E:Nat) (hL:L.length<=1000) (w:World) (p:Nat) (hr:RS w R A cap L E (.run p)) (hk:TK w R A L) (he:aB L p=Zy) (hc:ag L (p+1) [58]=Zy) (t:Tok) (ht:L[p]? =ZV t) (h2:aB L (p+2)=Zy) (u:Tok) (hu:L[p+2]? =ZV u) (k3:(t.kY==3)=Zy):Calls ZW 239 #[Zv (ZV ⟨R,0,ZU⟩),.bool cb] w fun e w'=>∃x:V8,e=ZX x.val/\TV w' (fun b=>w.heap.size<=b) x (ZV bK)/\RS w' R A cap L E (.run (p+3))/\But R w w':=qim
theorem rB (cb:Bool) (R:Nat) (A:Option Addr) (cap:Nat) (L:List Tok) (E:Nat) (hL:L.length<=1000) (w:World) (p:Nat) (hr:RS w R A cap L E (.run p)) (hk:TK w R A L) (he:aB L p=Zy) (hc:ag L (p+1) [58]=Zy) (t:Tok) (ht:L[p]? =ZV t) (h2:aB L (p+2)=Zy) (u:Tok) (hu:L[p+2]? =ZV u) (k3:(t.kY==3)=Zz) (u3:(u.kY==3)=Zy):Calls ZW 239 #[Zv (ZV ⟨R,0,ZU⟩),.bool cb] w fun e w'=>∃x:V8,e=ZX x.val/\TV w' (fun b=>w.heap.size<=b) x (ZV bK)/\RS w' R A cap L E (.run (p+3))/\But R w w':=qim
theorem re (cb:Bool) (R:Nat) (A:Option Addr) (cap:Nat) (L:List Tok) (E:Nat) (hL:L.length<=1000) (w:World) (p:Nat) (hr:RS w R A cap L E (.run p)) (hk:TK w R A L) (he:aB L p=Zy) (hc:ag L (p+1) [58]=Zy) (t:Tok) (ht:L[p]? =ZV t) (h2:aB L (p+2)=Zy) (u:Tok) (hu:L[p+2]? =ZV u) (k3:(t.kY==3)=Zz) (u3:(u.kY==3)=Zz) (r1:rightB t.col t.row=Zy) (r2:rightB u.col u.row=Zy):Calls ZW 239 #[Zv (ZV ⟨R,0,ZU⟩),.bool cb] w fun e w'=>∃x:V8,e=ZX x.val/\TV w' (fun b=>w.heap.size<=b) x (ZV (fg (min t.col u.col) (min t.row u.row) (max t.col u.col) (max t.row u.row)))/\RS w' R A cap L E (.run (p+3))/\But R w w':=by
 cases cb
 all_goals
  obtain ⟨H2,HU,hp2⟩:=qek;obtain ⟨HR,HT,hlt,nk⟩:=qP;obtain ⟨HE,HC⟩:=qeG;obtain ⟨HX,hp⟩:=qbm;clear h2 hu hr hk he hc ht;go_enter func239,ntmps239;go_wp2_with fail;refine .mono qsh ?_;rintro e w1 ⟨rfl,b1⟩;obtain ⟨h1,zk1,k10,k11,k12,k13,k14,k15,k16,k17,kf10,kf11,kf12,kf13,kf14,kf15,kf16,kf17,y1,HR1⟩:=qg;clear b1;go_wp2_with fail;refine .mono qsi ?_;rintro e w2 ⟨rfl,b2⟩;obtain ⟨h2,zk2,k20,k21,k22,k23,k24,k25,k26,k27,kf20,kf21,kf22,kf23,kf24,kf25,kf26,kf27⟩:=qh;obtain ⟨y2,HR2⟩:=qF;obtain ⟨e0,e1⟩:=qdi;have HS2:=qas;clear b2 k10 k11 k12 k13 k14 k15 k16 k17 kf10 kf11 kf12 kf13 kf14 kf15 kf16 kf17 zk1;obtain ⟨_,_,hc⟩:=HR2.out;obtain ⟨c0,c1,cf1⟩:=qcI;clear hc;obtain ⟨ga,hA,hgaR,hgal,t0,t1,t2,t3,t4,t5⟩:=(HT.out.but h2).at HX.out;rw [hA] at c0;obtain ⟨zR2,na⟩:=qcD;clear hA;go_wp2_with fail;go_region
  go_wp2_with fail;clear c0 c1 cf1 t0 t1 t2 t3 t4 t5;refine .mono qsj ?_;rintro e w3 ⟨rfl,r3,b3⟩;obtain ⟨h3,zk3,k30,k31,k32,k33,k34,k35,k36,k37,kf30,kf31,kf32,kf33,kf34,kf35,kf36,kf37⟩:=qi;obtain ⟨za3,a30,a31,a32,a33,a34,a35,y3⟩:=qu;obtain ⟨HR3,y3l,E3⟩:=qbA;clear b3 r3 k20 k21 k22 k23 k24 k25 k26 k27 kf20 kf21 kf22 kf23 kf24 kf25 kf26 kf27 zk2;rw [E3] at HR3;go_wp2_with fail;refine .mono qsk ?_;rintro e w4 ⟨rfl,b4⟩;obtain ⟨h4,zk4,k40,k41,k42,k43,k44,k45,k46,k47,kf40,kf41,kf42,kf43,kf44,kf45,kf46,kf47,za4,a40,a41,a42,a43,a44,a45,y4⟩:=qj;obtain ⟨HR4,e4,HS4⟩:=qaO;clear b4 k30 k31 k32 k33 k34 k35 k36 k37 kf30 kf31 kf32 kf33 kf34 kf35 kf36 kf37 zk3 a30 a31 a32 a33 a34 a35 za3;obtain ⟨_,_,hc⟩:=HR4.out;obtain ⟨c0,c1,cf1⟩:=qcI;clear hc;obtain ⟨gb,hA,hgbR,hgbl,t0,t1,t2,t3,t4,t5⟩:=(HT.out.but h4).at HU.out;rw [hA] at c0;obtain ⟨zR4,nb⟩:=qfx;clear hA;go_wp2_with fail;go_region
  go_wp2_with fail;have hB:spB t.col t.row u.col u.row=Zy:=(by unfold spB;rw [r1,r2];rfl);have hS:=Ee t.col t.row u.col u.row;clear c0 c1 cf1 t0 t1 t2 t3 t4 t5;rw [hB] at hS;have HSp:=qf hS;clear hS hB;refine (HSp.out _).mono ?_;rintro e w5 ⟨rfl,b5⟩;have h5:But R w w5:=But.trans (have hv:=h4;qni) (But.of_below b5);have zk5:w.heap.size<w5.heap.size:=qoF;have Hk5:=bt (B:=w.heap.size) (fun j v hv=>(But.of_below b5).cell nk qnj) k40 k41 k42 k43 k44 k45 k46 k47;obtain ⟨k50,k51,k52,k53,k54,k55,k56,k57⟩:=Hk5;have Hkf5:=bq (B:=w.heap.size) (fun j hv=>(But.of_below b5).frozen nk qnt qnq) kf40 kf41 kf42 kf43 kf44 kf45 kf46 kf47;obtain ⟨kf50,kf51,kf52,kf53,kf54,kf55,kf56,kf57⟩:=Hkf5;have za5:w2.heap.size<w5.heap.size:=qoF;have a50:w5.cell? ⟨w2.heap.size,0,ZU⟩=ZV (ZZ ZY t.kY):=(But.of_below b5).cell na (have hv:=a40;qnj);have a51:w5.cell? ⟨w2.heap.size,1,ZU⟩=ZV (ZZ ZY t.num):=(But.of_below b5).cell na (have hv:=a41;qnj);have a52:w5.cell? ⟨w2.heap.size,2,ZU⟩=ZV (ZZ ZY t.col):=(But.of_below b5).cell na (have hv:=a42;qnj);have a53:w5.cell? ⟨w2.heap.size,3,ZU⟩=ZV (ZZ ZY t.row):=(But.of_below b5).cell na (have hv:=a43;qnj);have a54:w5.cell? ⟨w2.heap.size,4,ZU⟩=ZV (Zx ⟨t.text.toArray⟩):=(But.of_below b5).cell na (have hv:=a44;qnj)
  have a55:w5.cell? ⟨w2.heap.size,5,ZU⟩=ZV (ZZ ZY (t.frm:Int)):=(But.of_below b5).cell na (have hv:=a45;qnj);have zb5:w4.heap.size<w5.heap.size:=qoF;have b50:w5.cell? ⟨w4.heap.size,0,ZU⟩=ZV (ZZ ZY u.kY):=(But.of_below b5).cell nb qnp;have b51:w5.cell? ⟨w4.heap.size,1,ZU⟩=ZV (ZZ ZY u.num):=(But.of_below b5).cell nb qnp;have b52:w5.cell? ⟨w4.heap.size,2,ZU⟩=ZV (ZZ ZY u.col):=(But.of_below b5).cell nb qnp;have b53:w5.cell? ⟨w4.heap.size,3,ZU⟩=ZV (ZZ ZY u.row):=(But.of_below b5).cell nb qnp;have b54:w5.cell? ⟨w4.heap.size,4,ZU⟩=ZV (Zx ⟨u.text.toArray⟩):=(But.of_below b5).cell nb qnp;have b55:w5.cell? ⟨w4.heap.size,5,ZU⟩=ZV (ZZ ZY (u.frm:Int)):=(But.of_below b5).cell nb qnp;have y5:=qfO;have HR5:Hid (RS w5 R A cap L E (.run (p+3))):=qf (RS.below (have hv:=HS4.out;qnQ) b5);have q1:∀n:Int,spN Zy n=n:=fun n=>rfl
  clear b5 k40 k41 k42 k43 k44 k45 k46 k47 kf40 kf41 kf42 kf43 kf44 kf45 kf46 kf47 zk4 a40 a41 a42 a43 a44 a45 za4;simp only [q1];clear q1;go_wp2_with fail;exact bodyPost_ret (v:=.agg #[ZZ ZY 6,ZZ ZY 0,ZZ ZY (min t.col u.col),ZZ ZY (min t.row u.row),ZZ ZY (max t.col u.col),ZZ ZY (max t.row u.row),Zx ⟨#[]⟩,.slice ZU 0 0]) (by simp [results,results239,go_sem,k50,k51,k52,k53,k54,k55,k56,k57,y5]) rfl ⟨⟨6,0,min t.col u.col,min t.row u.row,max t.col u.col,max t.row u.row,⟨#[]⟩,ZU,0,0⟩,rfl,TV.leaf (t:=fg (min t.col u.col) (min t.row u.row) (max t.col u.col) (max t.row u.row)) rfl,(have hv:=HR5.out;qnQ),(have hv:=h5;qni)⟩
theorem ry (hL:L.length<=1000) (hG:gx L) (c:Bool) {w:World} {p:Nat} {g:Got} (hr:RS w R A cap L E (.run p)) (hk:TK w R A L)
 (he:aB L p=Zy) (hc:ag L (p+1) [58]=Zy) {t:Tok} (ht:L[p]? =ZV t) (hg:toS (la L E t (p+2))=ZV g):
 Calls ZW 239 #[Zv (ZV ⟨R,0,ZU⟩),.bool c] w fun e w'=>∃x:V8,e=ZX x.val/\TV w' (fun b=>w.heap.size<=b) x g.2/\RS w' R A cap L E g.1/\But R w w':=by
 have OFF:aB L (p+2)=Zz->g=(.out (whr L E (p+2)),ZU)->Calls ZW 239 #[Zv (ZV ⟨R,0,ZU⟩),.bool c] w fun e w'=>∃x:V8,e=ZX x.val/\TV w' (fun b=>w.heap.size<=b) x g.2/\RS w' R A cap L E g.1/\But R w w':=by
  rintro h rfl;cases c
  ·exact tT Zz R A cap L E hL w p hr hk he hc t ht h
  ·exact tT Zy R A cap L E hL w p hr hk he hc t ht h
 unfold la at hg;cases hu:L[p+2]? with
 |none=>
  rw [hu] at hg;exact OFF (mg hu) (by rw [iA hu];exact (Option.some.inj hg).symm)
 |some u=>
  rw [hu] at hg;have hg2:toS (if aB L (p+2)=Zz then ZV (.bad u.frm) else if t.kY=3\/u.kY=3 then ZV (.ok bK (p+2+1)) else ZV (.ok (fg (min t.col u.col) (min t.row u.row) (max t.col u.col) (max t.row u.row)) (p+2+1)))=ZV g:=hg;clear hg;by_cases he2:aB L (p+2)=Zz
  ·rw [if_pos he2] at hg2
   exact OFF he2 (by rw [iB hu];exact (Option.some.inj hg2).symm)
  ·have he3:aB L (p+2)=Zy:=by simpa using he2
   rw [if_neg he2] at hg2;by_cases h3:t.kY=3
   ·rw [if_pos (.inl h3)] at hg2
    obtain rfl:(.run (p+3),ZV bK)=g:=Option.some.inj hg2;cases c
    ·exact ritem_bada Zz R A cap L E hL w p hr hk he hc t ht he3 u hu qqp
    ·exact ritem_bada Zy R A cap L E hL w p hr hk he hc t ht he3 u hu qqp
   ·have k3:(t.kY==3)=Zz:=by rw [beq_eq_false_iff_ne];exact h3
    by_cases u3:u.kY=3
    ·rw [if_pos (.inr u3)] at hg2
     obtain rfl:(.run (p+3),ZV bK)=g:=Option.some.inj hg2;cases c
     ·exact rB Zz R A cap L E hL w p hr hk he hc t ht he3 u hu k3 (by rw [beq_iff_eq];exact u3)
     ·exact rB Zy R A cap L E hL w p hr hk he hc t ht he3 u hu k3 (by rw [beq_iff_eq];exact u3)
    ·have l3:(u.kY==3)=Zz:=by rw [beq_eq_false_iff_ne];exact u3
     rw [if_neg qra] at hg2;obtain rfl:(.run (p+3),ZV (fg (min t.col u.col) (min t.row u.row) (max t.col u.col) (max t.row u.row)))=g:=Option.some.inj hg2
     have r1:rightB t.col t.row=Zy:=by
      obtain ⟨t',e,h⟩:=ka he;rw [ht] at e;obtain rfl:=Option.some.inj e;rcases h with h|h
      ·exact (hG p t ht).place h
      ·exact absurd h h3
     have r2:rightB u.col u.row=Zy:=by
      obtain ⟨u',e,h⟩:=ka he3;rw [hu] at e;obtain rfl:=Option.some.inj e;rcases h with h|h
      ·exact (hG (p+2) u hu).place h
      ·exact absurd h u3
     cases c
     ·exact re Zz R A cap L E hL w p hr hk he hc t ht he3 u hu k3 l3 r1 r2
     ·exact re Zy R A cap L E hL w p hr hk he hc t ht he3 u hu k3 l3 r1 r2
theorem AJ (hL:L.length<=1000) (hG:gx L) (hP:bl R A cap L E 86 #[Zv (ZV ⟨R,0,ZU⟩),ZZ ZY 1] (ak L E k 1)):
 bl R A cap L E 239 #[Zv (ZV ⟨R,0,ZU⟩),.bool Zz] (bg L E (k+1) Zz):=by
 refine bl.of (ky hL) fun w p g hr hk hg=>?_
 rw [bg] at hg;by_cases h:aB L p=Zz\/ag L (p+1) [58]=Zz
 ·rw [if_pos ⟨rfl,h⟩] at hg
  exact Aq hL hP w p g hr hk h hg
 ·rw [if_neg (fun x=>h x.2)] at hg
  have he:aB L p=Zy:=by
   cases e:aB L p with
   |true=>rfl
   |false=>exact absurd (.inl e) h
  have hc:ag L (p+1) [58]=Zy:=by
   cases e:ag L (p+1) [58] with
   |true=>rfl
   |false=>exact absurd (.inr e) h
  obtain ⟨t,ht,_⟩:=ka he;rw [ht] at hg;have hg2:=qdw;rw [if_neg qpV,if_neg qrw] at hg2;unfold az at hg2;rw [if_pos hc] at hg2;exact ry hL hG Zz hr hk he hc ht hg2
theorem An (hL:L.length<=1000) (hG:gx L):
 bl R A cap L E 239 #[Zv (ZV ⟨R,0,ZU⟩),.bool Zy] (bg L E (k+1) Zy):=by
 refine bl.of (lk hL) fun w p g hr hk hg=>?_
 rw [bg,if_neg (fun x=>by cases x.1)] at hg
 have NONE:aB L p=Zz->g=(.out (whr L E p),ZU)->Calls ZW 239 #[Zv (ZV ⟨R,0,ZU⟩),.bool Zy] w fun e w'=>∃x:V8,e=ZX x.val/\TV w' (fun b=>w.heap.size<=b) x g.2/\RS w' R A cap L E g.1/\But R w w':=by
  rintro h rfl;cases hc:ag L (p+1) [58] with
  |true=>exact ritem_none_true R A cap L E hL w p hr hk h hc
  |false=>exact px R A cap L E hL w p hr hk h hc
 cases ht:L[p]? with
 |none=>
  rw [ht] at hg;exact NONE (mg ht) (by rw [iA ht];exact (Option.some.inj hg).symm)
 |some t=>
  rw [ht] at hg;have hg2:=qdw;cases he:aB L p with
  |false=>
   rw [if_pos he] at hg2;exact NONE he (by rw [iB ht];exact (Option.some.inj hg2).symm)
  |true=>
   rw [if_neg qpV] at hg2;cases hc:ag L (p+1) [58] with
   |false=>
    by_cases h3:t.kY=3
    ·rw [if_pos ⟨hc,h3⟩] at hg2
     obtain rfl:(.run (p+1),ZV bK)=g:=Option.some.inj hg2;exact Gg R A cap L E hL w p hr hk he hc t ht h3
    ·rw [if_neg (fun x=>h3 x.2)] at hg2
     unfold az at hg2;rw [if_neg (by rw [hc];decide)] at hg2;obtain rfl:(.out (whr L E (p+1)),ZU)=g:=Option.some.inj hg2;exact Bo R A cap L E hL w p hr hk he hc t ht h3
   |true=>
    rw [if_neg qrw] at hg2;unfold az at hg2;rw [if_pos hc] at hg2;exact ry hL hG Zy hr hk he hc ht hg2
