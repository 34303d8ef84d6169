import Derived.Test.YteglaomdgdkibaaGreatDoorJNS08
import Derived.Test.YteglaomdgdkibaaGreatDoorJNS13
import Derived.Test.YteglaomdgdkibaaGreatDoorJQNSP
import Derived.Test.YteglaomdgdkibaaGreatDoorJQNSW
set_option linter.all false
set_option maxHeartbeats 0
set_option maxRecDepth 99999
namespace Go.Proofs.YteglaomdgdkibaaGreatDoor
open Go.RowKit
open Value renaming int→ZZ,string→Zx,slice→Zw,pointer→Zv
open IntKind renaming i64→ZY
open Ending renaming returned→ZX
open RowKit renaming Below→Z2
open Go renaming World→Z3
open Tryz
open Tryz renaming prog→ZW
open Option renaming some→ZV,none→ZU
open Bool renaming false→Zz,true→Zy
variable {E F R cap d g:Nat}{A:Option Addr}{L:List Tok}{args:Array Value}{f:Nat->Option Res}{w w':World}{st:St}
theorem rmay_5IF (t:Tr) (w:Z3) (A:Option Addr) (cap:Nat) (ih:kE d) (hd:aV t.kZ<=d) (hw:Wid t) (P:Nat->Prop) (hk:KV w P t A) (hwd:t.wZ=[73,70]) (h:t.kY=5):Calls ZW 110 #[tv t A cap] w fun e w'=>e=ZX (.bool (ay t))/\Z2 w.heap.size w w':=by
 unfold tv;have HO:=qdf;unfold tv at HO;obtain ⟨HM,s0,s1,s2,s6,s3,s4,s5⟩:=qX;have xIF:=qeC;have xSUM:(t.wZ==[83,85,77])=Zz:=(by rw [hwd];rfl);have xMIN:=qcC;obtain ⟨xMAX,xCOUNT⟩:=qbS;have xN:(t.wZ !=[73,70])=Zz:=(by rw [bne,xIF];rfl)
 have HM2:Hid (ay t=(aR t t.kZ.length&&(be t.kZ Zz Zz&&(t.kZ.length==3)))):=qf (by
  rw [lN h,xN,xCOUNT];congr 2
  rw [if_pos hwd])
 obtain ⟨HK,HAl⟩:=qba;clear HM hwd h;unfold tv at HAl;clear ih hd hw hk;generalize aR t t.kZ.length=O at*;have HA2:=qf (HAl.out Zz Zz);clear HAl;generalize be t.kZ Zz Zz=RB at*;obtain ⟨D,hD⟩:∃D,(t.kZ.length==3)=D:=⟨_,rfl⟩
 rw [hD] at HM2;have hD2:((t.kZ.length:Int)==3)=D:=(by rw [<-hD,Bool.eq_iff_iff,beq_iff_eq,beq_iff_eq];omega);clear hD;exact qit
theorem ET (t:Tr) (w:Z3) (A:Option Addr) (cap:Nat) (ih:kE d) (hd:aV t.kZ<=d) (hw:Wid t) (P:Nat->Prop) (hk:KV w P t A) (hwd:t.wZ=[83,85,77]) (h:t.kY=5):Calls ZW 110 #[tv t A cap] w fun e w'=>e=ZX (.bool (ay t))/\Z2 w.heap.size w w':=by
 unfold tv;have HO:=qdf;unfold tv at HO;obtain ⟨HM,s0,s1,s2,s6,s3,s4,s5⟩:=qX;obtain ⟨xIF,xSUM⟩:=qgJ;have xMIN:=qcC;obtain ⟨xMAX,xCOUNT⟩:=qbS;exact qjr
theorem E4 (t:Tr) (w:Z3) (A:Option Addr) (cap:Nat) (ih:kE d) (hd:aV t.kZ<=d) (hw:Wid t) (P:Nat->Prop) (hk:KV w P t A) (hwd:t.wZ=[77,73,78]) (h:t.kY=5):Calls ZW 110 #[tv t A cap] w fun e w'=>e=ZX (.bool (ay t))/\Z2 w.heap.size w w':=by
 unfold tv;have HO:=qdf;unfold tv at HO;obtain ⟨HM,s0,s1,s2,s6,s3,s4,s5⟩:=qX;obtain ⟨xIF,xSUM⟩:=qbI;have xMIN:(t.wZ==[77,73,78])=Zy:=(by rw [hwd];rfl);obtain ⟨xMAX,xCOUNT⟩:=qbS;exact qjr
theorem EB (t:Tr) (w:Z3) (A:Option Addr) (cap:Nat) (ih:kE d) (hd:aV t.kZ<=d) (hw:Wid t) (P:Nat->Prop) (hk:KV w P t A) (hwd:t.wZ=[77,65,88]) (h:t.kY=5):Calls ZW 110 #[tv t A cap] w fun e w'=>e=ZX (.bool (ay t))/\Z2 w.heap.size w w':=by
 unfold tv;have HO:=qdf;unfold tv at HO;obtain ⟨HM,s0,s1,s2,s6,s3,s4,s5⟩:=qX;obtain ⟨xIF,xSUM⟩:=qbI;have xMIN:=qcC;obtain ⟨xMAX,xCOUNT⟩:=qgu;exact qjr
theorem yg (t:Tr) (w:Z3) (A:Option Addr) (cap:Nat) (ih:kE d) (hd:aV t.kZ<=d) (hw:Wid t) (P:Nat->Prop) (hk:KV w P t A) (hwd:t.wZ=[67,79,85,78,84]) (h:t.kY=5):Calls ZW 110 #[tv t A cap] w fun e w'=>e=ZX (.bool (ay t))/\Z2 w.heap.size w w':=by
 unfold tv;have HO:=qdf;unfold tv at HO;obtain ⟨HM,s0,s1,s2,s6,s3,s4,s5⟩:=qX;obtain ⟨xIF,xSUM⟩:=qbI;have xMIN:=qcC;obtain ⟨xMAX,xCOUNT⟩:=qgv;have xN:=qds
 have HM2:Hid (ay t=(aR t t.kZ.length&&(be t.kZ Zy Zy&&decide (0<t.kZ.length)))):=qf (by
  rw [lN h,xN,xCOUNT];congr 2
  rw [if_neg qqm,if_pos qqm])
 obtain ⟨HK,HAl⟩:=qba;clear HM hwd h;unfold tv at HAl;clear ih hd hw hk;generalize aR t t.kZ.length=O at*;have HA2:=qf (HAl.out Zy Zy);clear HAl;generalize be t.kZ Zy Zy=RB at*;obtain ⟨D,hD⟩:∃D,decide (0<t.kZ.length)=D:=⟨_,rfl⟩
 rw [hD] at HM2;exact qit
theorem Ja (t:Tr) (w:Z3) (A:Option Addr) (cap:Nat) (ih:kE d) (hd:aV t.kZ<=d) (hw:Wid t) (P:Nat->Prop) (hk:KV w P t A) (hwIF:t.wZ≠[73,70]) (hwSUM:t.wZ≠[83,85,77]) (hwMIN:t.wZ≠[77,73,78]) (hwMAX:t.wZ≠[77,65,88]) (hwCOUNT:t.wZ≠[67,79,85,78,84]) (h:t.kY=5):Calls ZW 110 #[tv t A cap] w fun e w'=>e=ZX (.bool (ay t))/\Z2 w.heap.size w w':=by
 unfold tv;have HO:=qdf;unfold tv at HO;obtain ⟨HM,s0,s1,s2,s6,s3,s4,s5⟩:=qX;have xIF:(t.wZ==[73,70])=Zz:=(by rw [beq_eq_false_iff_ne];exact hwIF);have xSUM:(t.wZ==[83,85,77])=Zz:=(by rw [beq_eq_false_iff_ne];exact hwSUM);have xMIN:(t.wZ==[77,73,78])=Zz:=(by rw [beq_eq_false_iff_ne];exact hwMIN);have xMAX:(t.wZ==[77,65,88])=Zz:=(by rw [beq_eq_false_iff_ne];exact hwMAX);have xCOUNT:(t.wZ==[67,79,85,78,84])=Zz:=(by rw [beq_eq_false_iff_ne];exact hwCOUNT);have xN:=qds
 have HM2:Hid (ay t=(aR t t.kZ.length&&(be t.kZ Zy Zz&&Zz))):=qf (by
  rw [lN h,xN,xCOUNT];congr 2
  rw [if_neg hwIF,if_neg (by rintro (e|e|e|e);exact hwSUM e;exact hwMIN e;exact hwMAX e;exact hwCOUNT e)])
 obtain ⟨HK,HAl⟩:=qba;clear HM hwIF hwSUM hwMIN hwMAX hwCOUNT h;unfold tv at HAl;clear ih hd hw hk;generalize aR t t.kZ.length=O at*;have HA2:=qhh;clear HAl;generalize be t.kZ Zy Zz=RB at*;cases O
 all_goals
  cases RB
  all_goals
   go_enter func110,ntmps110;go_wp2_with fail;refine .mono qrO ?_;rintro e w1 ⟨rfl,b1⟩;obtain ⟨k10,k11,k12,k13,k14,k15,k16⟩:=ql;have k17:=qbj;have h1:=qab;clear b1;go_wp2_with fail;refine .mono qrP ?_;rintro e w2 ⟨rfl,b2⟩;obtain ⟨k20,k21,k22,k23,k24,k25,k26,k27,h2⟩:=qI;clear b2 k10 k11 k12 k13 k14 k15 k16 k17;go_wp2_with fail;go_ret;exact ⟨by rw [HM2.out];rfl,h2⟩
theorem EF (t:Tr) (w:Z3) (A:Option Addr) (cap:Nat) (h0:t.kY≠0) (h1:t.kY≠1) (h2:t.kY≠2) (h6:t.kY≠6) (h3:t.kY≠3) (h4:t.kY≠4) (h5:t.kY≠5):
 Calls ZW 110 #[tv t A cap] w fun e w'=>e=ZX (.bool (ay t))/\Z2 w.heap.size w w':=by
 unfold tv;have HM:=qf (FV h0 h1 h2 h6 h3 h4 h5);have s0:(t.kY==0)=Zz:=(by rw [beq_eq_false_iff_ne];exact h0);have s1:(t.kY==1)=Zz:=(by rw [beq_eq_false_iff_ne];exact h1);have s2:(t.kY==2)=Zz:=(by rw [beq_eq_false_iff_ne];exact h2);have s6:(t.kY==6)=Zz:=(by rw [beq_eq_false_iff_ne];exact h6);have s3:(t.kY==3)=Zz:=(by rw [beq_eq_false_iff_ne];exact h3);have s4:(t.kY==4)=Zz:=(by rw [beq_eq_false_iff_ne];exact h4);have s5:(t.kY==5)=Zz:=(by rw [beq_eq_false_iff_ne];exact h5);clear h0 h1 h2 h6 h3 h4 h5;go_enter func110,ntmps110;go_wp2_with fail;go_ret;exact ⟨qoN,qa⟩
theorem wJ:∀d,kE d
 |0=>fun t h=>by rw [gM] at h;omega
 |d+1=>by
  have ih:=wJ d;intro t hd hw w P A cap hk;have hdl:=El hd;by_cases h0:t.kY=0
  ·exact Ol t w A cap h0
  by_cases h1:t.kY=1
  ·exact Ou t w A cap h1
  by_cases h2:t.kY=2
  ·exact Ov t w A cap h2
  by_cases h6:t.kY=6
  ·exact MO t w A cap h6
  by_cases h3:t.kY=3
  ·exact N8 t w A cap ih hdl hw P hk h3
  by_cases h4:t.kY=4
  ·exact Np t w A cap ih hdl hw P hk h4
  by_cases h5:t.kY=5
  ·by_cases e1:t.wZ=[73,70]
   ·exact rmay_5IF t w A cap ih hdl hw P hk e1 h5
   by_cases e2:t.wZ=[83,85,77]
   ·exact ET t w A cap ih hdl hw P hk e2 h5
   by_cases e3:t.wZ=[77,73,78]
   ·exact E4 t w A cap ih hdl hw P hk e3 h5
   by_cases e4:t.wZ=[77,65,88]
   ·exact EB t w A cap ih hdl hw P hk e4 h5
   by_cases e5:t.wZ=[67,79,85,78,84]
   ·exact yg t w A cap ih hdl hw P hk e5 h5
   exact Ja t w A cap ih hdl hw P hk e1 e2 e3 e4 e5 h5
  exact EF t w A cap h0 h1 h2 h6 h3 h4 h5
def iT (t:Tr):Bool:=decide (aG t<=16)&&(t.kY !=6&&ay t)
theorem rN (t:Tr) (hd:aG t<=1000000000) (hw:Wid t) (w:Z3) (P:Nat->Prop) (A:Option Addr) (cap:Nat) (hk:KV w P t A):
 Calls ZW 63 #[tv t A cap] w fun e w'=>e=ZX (.bool (iT t))/\Z2 w.heap.size w w':=by
 have HD:=qf fun (w:Z3) (P:Nat->Prop) hk=>rdeep_any _ t hd qd hw w P A cap hk
 have HM:=qf fun (w:Z3) (P:Nat->Prop) hk=>wJ _ t hd hw w P A cap hk
 have HK:=qfq;unfold tv at HD HM;unfold tv;have HR:Hid (iT t=(decide (aG t<=16)&&(t.kY !=6&&ay t))):=qf rfl;have hm6:(t.kY !=6)= !(t.kY==6):=rfl;clear hk hw;by_cases hq:aG t<=16
 ·have d0:decide (16<aG t)=Zz:=decide_eq_false qoq
  rw [decide_eq_true hq] at HR;cases h6:(t.kY==6) with
  |true=>
   rw [hm6,h6] at HR;exact qjl
  |false=>
   rw [hm6,h6] at HR;clear hm6;go_enter func63,ntmps63;go_wp2_with fail;refine .mono qrQ ?_;rintro e w1 ⟨rfl,b1⟩;have k0:=qgq;have k1:=af b1 1 (v:=ZZ ZY t.num) rfl;have k2:=af b1 2 (v:=ZZ ZY t.c1) rfl;have k3:=af b1 3 (v:=ZZ ZY t.r1) rfl;have k4:=af b1 4 (v:=ZZ ZY t.c2) rfl;have k5:=af b1 5 (v:=ZZ ZY t.r2) rfl;have k6:=af b1 6 (v:=Zx ⟨t.wZ.toArray⟩) rfl;have k7:=af b1 7 (v:=Zw A t.kZ.length cap) rfl;have h1:=qab;clear b1;go_wp2_with fail;refine (HM.out _ _ (HK.out.kept (Kept.of_below h1))).mono ?_;rintro e w2 ⟨rfl,b2⟩;go_wp2_with fail;go_ret;exact ⟨qqn,h1.trans (b2.mono h1.size)⟩
 ·have d0:decide (16<aG t)=Zy:=decide_eq_true qoq
  rw [decide_eq_false hq] at HR;exact qjl
def bl (R:Nat) (A:Option Addr) (cap:Nat) (L:List Tok) (E:Nat) (F:Nat) (args:Array Value) (f:Nat->Option Res):Prop:=
 ∀(w:Z3) (st:St) (g:Got),RS w R A cap L E st->TK w R A L->goS f st=ZV g->
  Calls ZW F args w fun e w'=>∃x:V8,e=ZX x.val/\TV w' (fun b=>w.heap.size<=b) x g.2/\RS w' R A cap L E g.1/\But R w w'
def jq (R:Nat) (A:Option Addr) (cap:Nat) (L:List Tok) (E:Nat) (F:Nat) (args:Array Value):Prop:=
 ∀(w:Z3) (x:Nat),RS w R A cap L E (.out x)->TK w R A L->
  Calls ZW F args w fun e w'=>∃v:V8,e=ZX v.val/\RS w' R A cap L E (.out x)/\But R w w'
theorem bl.of (ho:jq R A cap L E F args)
 (h:∀(w:Z3) (p:Nat) (g:Got),RS w R A cap L E (.run p)->TK w R A L->toS (f p)=ZV g->
   Calls ZW F args w fun e w'=>∃x:V8,e=ZX x.val/\TV w' (fun b=>w.heap.size<=b) x g.2/\RS w' R A cap L E g.1/\But R w w'):bl R A cap L E F args f:=by
 intro w st g hr hk hg;cases st with
 |out x=>
  obtain rfl:(.out x,ZU)=g:=Option.some.inj hg;exact (ho w x hr hk).mono fun _ _ ⟨v,he,hs,hb⟩=>⟨v,he,trivial,hs,hb⟩
 |run p=>exact h w p g hr hk hg
theorem bl.out (h:bl R A cap L E F args f):jq R A cap L E F args:=
 fun w x hr hk=>(h w (.out x) (.out x,ZU) hr hk rfl).mono fun _ _ ⟨v,he,_,hs,hb⟩=>⟨v,he,hs,hb⟩

theorem RC.sameR {p:Int} {f:Bool} {x:Int} (h:RC w R A cap L E p f x) (hb:w'.heap[R]? =w.heap[R]?):RC w' R A cap L E p f x:=by
 have hc:∀o v,w.cell? ⟨R,o,ZU⟩=ZV v->w'.cell? ⟨R,o,ZU⟩=ZV v:=fun o v hv=>by rw [World.cell?_of_block (w:=w) (a:=⟨R,o,ZU⟩) hb];exact hv
 have hf:∀o,w.frozen? ⟨R,o,ZU⟩=Zz->w'.frozen? ⟨R,o,ZU⟩=Zz:=fun o hv=>by rw [World.frozen?_of_block (w:=w) (a:=⟨R,o,ZU⟩) hb];exact hv
 exact ⟨hc _ _ h.c0,hc _ _ h.c1,hc _ _ h.c2,hc _ _ h.c3,hc _ _ h.c4,hf _ h.f1,hf _ h.f3,hf _ h.f4⟩
theorem RS.lt (h:RS w R A cap L E st):R<w.heap.size:=by
 cases st with
 |run p=>obtain ⟨_,_,h⟩:=h;exact h.lt
 |out x=>obtain ⟨_,h⟩:=h;exact h.lt
theorem RS.sameR (h:RS w R A cap L E st) (hb:w'.heap[R]? =w.heap[R]?):RS w' R A cap L E st:=by
 cases st with
 |run p=>obtain ⟨a,x,h⟩:=h;exact ⟨a,x,h.sameR hb⟩
 |out x=>obtain ⟨p,h⟩:=h;exact ⟨p,h.sameR hb⟩
theorem RS.far (h:RS w R A cap L E st) (hg:g≠R) (o:Nat) (u:Value):RS (w.setCell ⟨g,o,ZU⟩ u) R A cap L E st:=
 h.sameR (Below.heap_setCell w ⟨g,o,ZU⟩ u R fun e=>hg e.symm)
theorem RS.alloc (h:RS w R A cap L E st) (ob:Obj):RS (w.alloc ob) R A cap L E st:=
 h.sameR (Below.heap_alloc w ob R h.lt)
theorem RS.drew (h:RS w R A cap L E st):RS w.drew R A cap L E st:=h.sameR rfl
theorem RS.drewN (h:RS w R A cap L E st) (n:Nat):RS (w.drewN n) R A cap L E st:=h.sameR rfl

theorem jD (hL:L.length<=1000):jq R A cap L E 194 #[Zv (ZV ⟨R,0,ZU⟩)]:=by
 intro w x hr hk;have HR:=qf (And.intro hr hk);have hlt:R<w.heap.size:=(by obtain ⟨p,h⟩:=HR.out.1;exact h.lt);have nR:w.heap.size≠R:=qoq;have b0:Z2 w.heap.size w (w.alloc (.cells #[ZZ ZY 0,ZZ ZY 0,ZZ ZY 0,ZZ ZY 0,ZZ ZY 0,ZZ ZY 0,Zx ⟨#[]⟩,Zw ZU 0 0] 33)):=qa;have H1:=qf (eT (m:=0) ⟨#[40]⟩ hL qoq (HR.out.1.below b0) (HR.out.2.but (But.of_below b0)));clear hr hk b0;go_enter func194,ntmps194;go_wp2_with fail;refine H1.out.mono ?_;rintro e w1 ⟨rfl,b1⟩;have k10:=qea;have k11:=af b1 1 (v:=ZZ ZY 0) rfl;have k12:=af b1 2 (v:=ZZ ZY 0) rfl;have k13:=af b1 3 (v:=ZZ ZY 0) rfl;have k14:=af b1 4 (v:=ZZ ZY 0) rfl;have k15:=af b1 5 (v:=ZZ ZY 0) rfl;have k16:=af b1 6 (v:=Zx ⟨#[]⟩) rfl;have k17:=af b1 7 (v:=Zw ZU 0 0) rfl;have f10:=ah b1 0;have f11:=ah b1 1;have f12:=ah b1 2;have f13:=ah b1 3;have f14:=ah b1 4;have f15:=ah b1 5;have f16:=ah b1 6;have f17:=qhp;have h1:=qab;have z1:=qaz;have RS1:=HR.out.1.below h1;have HT1:=qf (HR.out.2.but (But.of_below h1));obtain ⟨q,hq⟩:=RS1;have c3:=hq.c3;have HQ:=qf hq;clear b1 hq;go_wp2_with fail;go_quiet (fail)
 go_wp2_with fail;have H2:=qf fun n=>eA (st:=.out x) hL ⟨q,HQ.out.below (below_drewN qb n)⟩ (HT1.out.but (But.of_below (below_drewN qb n)))
 refine .mono qrR ?_;rintro e w2 ⟨rfl,r2,b2⟩;have HR2:Hid (RS w2 R A cap L E (.out x)):=qf r2;have h2:But R w w2:=((But.of_below h1).drewN _).trans b2;have k20:=b2.cell nR k10;have k21:=b2.cell nR k11;have k22:=b2.cell nR k12;have k23:=b2.cell nR k13;have k24:=b2.cell nR k14;have k25:=b2.cell nR k15;have k26:=b2.cell nR k16;have k27:=b2.cell nR k17;have f20:=b2.frozen nR z1 f10;have f21:=b2.frozen nR z1 f11;have f22:=b2.frozen nR z1 f12;have f23:=b2.frozen nR z1 f13;have f24:=b2.frozen nR z1 f14;have f25:=b2.frozen nR z1 f15;have f26:=b2.frozen nR z1 f16;have f27:=b2.frozen nR z1 f17;clear r2 b2 k10 f10 k11 f11 k12 f12 k13 f13 k14 f14 k15 f15 k16 f16 k17 f17;go_wp2_with fail
 exact bodyPost_ret (v:=.agg #[ZZ ZY 0,ZZ ZY 0,ZZ ZY 0,ZZ ZY 0,ZZ ZY 0,ZZ ZY 0,Zx ⟨#[]⟩,Zw ZU 0 0]) qpC rfl ⟨⟨0,0,0,0,0,0,⟨#[]⟩,ZU,0,0⟩,rfl,by
  with_reducible repeat' (first|exact HR2.out|refine RS.far ?_ nR _ _),by
  with_reducible repeat' (first|exact h2|refine But.setN ?_ qd _ _)⟩
theorem zRf (h:RS w R A cap L E st) (hg:g≠R) (o:Nat) (u:Value):RS (w.setCell ⟨g,o,ZU⟩ u) R A cap L E st:=h.far hg o u
theorem zRa (h:RS w R A cap L E st) (ob:Obj):RS (w.alloc ob) R A cap L E st:=h.alloc ob
theorem zRd (h:RS w R A cap L E st):RS w.drew R A cap L E st:=h.drew
theorem zRn (h:RS w R A cap L E st) (n:Nat):RS (w.drewN n) R A cap L E st:=h.drewN n
theorem kC (hL:L.length<=1000):jq R A cap L E 136 #[Zv (ZV ⟨R,0,ZU⟩)]:=by
 intro w x hr hk;obtain ⟨HR,HT,hlt,nk⟩:=qP;clear hr hk;go_enter func136,ntmps136;go_wp2_with fail;refine (eT (R:=R) (A:=A) (cap:=cap) (L:=L) (E:=E) (m:=0) (st:=.out x) ⟨#[45]⟩ hL qoq (have hv:=HR.out;qnl) (HT.out.but qno)).mono ?_;rintro e w1 ⟨rfl,b1⟩;have h1:=qaE;obtain ⟨zk1,k10,k11,k12,k13,k14,k15,k16,k17,kf10,kf11,kf12,kf13,kf14,kf15,kf16,kf17,y1,HR1⟩:=qaQ;clear b1;go_wp2_with fail;refine (jD (R:=R) (A:=A) (cap:=cap) (L:=L) (E:=E) hL _ x (have hv:=HR1.out;qnl) (HT.out.but (have hv:=h1;qni))).mono ?_;rintro e w2 ⟨⟨a0,a1,a2,a3,a4,a5,aw,aA,al,ac⟩,rfl,r2,b2⟩;have h2:=qC;obtain ⟨zk2,k20,k21,k22,k23,k24,k25,k26,k27,kf20,kf21,kf22,kf23,kf24,kf25,kf26,kf27,y2⟩:=qac;have HR2:Hid (RS w2 R A cap L E (.out x)):=qf r2;clear b2 r2 k10 k11 k12 k13 k14 k15 k16 k17 kf10 kf11 kf12 kf13 kf14 kf15 kf16 kf17 zk1;dsimp only [V8.val];go_wp2_with fail;exact bodyPost_ret (v:=.agg #[ZZ ZY a0,ZZ ZY a1,ZZ ZY a2,ZZ ZY a3,ZZ ZY a4,ZZ ZY a5,.string aw,Zw aA al ac]) qpD rfl ⟨⟨a0,a1,a2,a3,a4,a5,aw,aA,al,ac⟩,rfl,(have hv:=HR2.out;qnl),(have hv:=h2;qni)⟩
theorem lO (hL:L.length<=1000):jq R A cap L E 86 #[Zv (ZV ⟨R,0,ZU⟩),ZZ ZY 4]:=by
 intro w x hr hk;obtain ⟨HR,HT,hlt,nk⟩:=qP;clear hr hk;go_enter func86,ntmps86;go_wp2_with fail;refine (kC (R:=R) (A:=A) (cap:=cap) (L:=L) (E:=E) hL _ x (have hv:=HR.out;qnl) (HT.out.but qno)).mono ?_;rintro e w1 ⟨⟨a0,a1,a2,a3,a4,a5,aw,aA,al,ac⟩,rfl,r1,b1⟩;have h1:=qm;have zk1:=qbR;obtain ⟨k10,k11,k12,k13,k14,k15,k16,k17,kf10,kf11,kf12,kf13,kf14,kf15,kf16,kf17,y1⟩:=qaf;have HR1:=qeP;clear b1 r1;dsimp only [V8.val];go_wp2_with fail;exact bodyPost_ret (v:=.agg #[ZZ ZY a0,ZZ ZY a1,ZZ ZY a2,ZZ ZY a3,ZZ ZY a4,ZZ ZY a5,.string aw,Zw aA al ac]) qpG rfl ⟨⟨a0,a1,a2,a3,a4,a5,aw,aA,al,ac⟩,rfl,(have hv:=HR1.out;qnl),(have hv:=h1;qni)⟩
theorem mo (hL:L.length<=1000):jq R A cap L E 86 #[Zv (ZV ⟨R,0,ZU⟩),ZZ ZY 3]:=by
 intro w x hr hk;obtain ⟨HR,HT,hlt,nk⟩:=qP;clear hr hk;go_enter func86,ntmps86;go_wp2_with fail;refine (lO (R:=R) (A:=A) (cap:=cap) (L:=L) (E:=E) hL _ x (have hv:=HR.out;qnl) (HT.out.but qno)).mono ?_;rintro e w1 ⟨⟨a0,a1,a2,a3,a4,a5,aw,aA,al,ac⟩,rfl,r1,b1⟩;have h1:=qm;have zk1:=qbR;obtain ⟨k10,k11,k12,k13,k14,k15,k16,k17,kf10,kf11,kf12,kf13,kf14,kf15,kf16,kf17,y1⟩:=qaf;have HR1:=qeP;clear b1 r1;dsimp only [V8.val];go_wp2_with fail;have no:=qfV;go_loopw [6] (fun _ wr=>wr=w1.alloc (.cells #[ZZ ZY a0,ZZ ZY a1,ZZ ZY a2,ZZ ZY a3,ZZ ZY a4,ZZ ZY a5,.string aw,Zw aA al ac] 33)) (fun _ _=>0)
 case atStart=>rfl
 case round=>
  subst hrel;go_wp2_with fail;refine .mono qrS ?_;rintro e w2 ⟨rfl,b2⟩;obtain ⟨h2,zk2,k20,k21,k22,k23,k24,k25,k26,k27,kf20,kf21,kf22,kf23,kf24,kf25,kf26,kf27⟩:=qh;obtain ⟨zo2,o20,o21,o22,o23,o24,o25,o26,o27,y2,HR2⟩:=qaS;have d0:((eK L (.out x):Int) !=3)=Zy:=rfl;exact qiD
theorem lP (hL:L.length<=1000):jq R A cap L E 86 #[Zv (ZV ⟨R,0,ZU⟩),ZZ ZY 2]:=by
 intro w x hr hk;obtain ⟨HR,HT,hlt,nk⟩:=qP;clear hr hk;go_enter func86,ntmps86;go_wp2_with fail;refine (mo (R:=R) (A:=A) (cap:=cap) (L:=L) (E:=E) hL _ x (have hv:=HR.out;qnl) (HT.out.but qno)).mono ?_;rintro e w1 ⟨⟨a0,a1,a2,a3,a4,a5,aw,aA,al,ac⟩,rfl,r1,b1⟩;have h1:=qm;have zk1:=qbR;obtain ⟨k10,k11,k12,k13,k14,k15,k16,k17,kf10,kf11,kf12,kf13,kf14,kf15,kf16,kf17,y1⟩:=qaf;have HR1:=qeP;clear b1 r1;dsimp only [V8.val];go_wp2_with fail;have no:=qfV;go_loopw [6] (fun _ wr=>wr=w1.alloc (.cells #[ZZ ZY a0,ZZ ZY a1,ZZ ZY a2,ZZ ZY a3,ZZ ZY a4,ZZ ZY a5,.string aw,Zw aA al ac] 33)) (fun _ _=>0)
 case atStart=>rfl
 case round=>
  subst hrel;go_wp2_with fail;refine .mono qrS ?_;rintro e w2 ⟨rfl,b2⟩;obtain ⟨h2,zk2,k20,k21,k22,k23,k24,k25,k26,k27,kf20,kf21,kf22,kf23,kf24,kf25,kf26,kf27⟩:=qh;obtain ⟨zo2,o20,o21,o22,o23,o24,o25,o26,o27,y2,HR2⟩:=qaS;have d0:((eK L (.out x):Int) !=2)=Zy:=rfl;exact qiD
theorem mm (hL:L.length<=1000):jq R A cap L E 86 #[Zv (ZV ⟨R,0,ZU⟩),ZZ ZY 1]:=by
 intro w x hr hk;obtain ⟨HR,HT,hlt,nk⟩:=qP;clear hr hk;go_enter func86,ntmps86;go_wp2_with fail;refine (lP (R:=R) (A:=A) (cap:=cap) (L:=L) (E:=E) hL _ x (have hv:=HR.out;qnl) (HT.out.but qno)).mono ?_;rintro e w1 ⟨⟨a0,a1,a2,a3,a4,a5,aw,aA,al,ac⟩,rfl,r1,b1⟩;have h1:=qm;have zk1:=qbR;obtain ⟨k10,k11,k12,k13,k14,k15,k16,k17,kf10,kf11,kf12,kf13,kf14,kf15,kf16,kf17,y1⟩:=qaf;have HR1:=qeP;clear b1 r1;dsimp only [V8.val];go_wp2_with fail;have no:=qfV;go_loopw [6] (fun _ wr=>wr=w1.alloc (.cells #[ZZ ZY a0,ZZ ZY a1,ZZ ZY a2,ZZ ZY a3,ZZ ZY a4,ZZ ZY a5,.string aw,Zw aA al ac] 33)) (fun _ _=>0)
 case atStart=>rfl
 case round=>
  subst hrel;go_wp2_with fail;refine .mono qrS ?_;rintro e w2 ⟨rfl,b2⟩;obtain ⟨h2,zk2,k20,k21,k22,k23,k24,k25,k26,k27,kf20,kf21,kf22,kf23,kf24,kf25,kf26,kf27⟩:=qh;obtain ⟨zo2,o20,o21,o22,o23,o24,o25,o26,o27,y2,HR2⟩:=qaS;have d0:((eK L (.out x):Int) !=1)=Zy:=rfl;exact qiD
theorem ky (hL:L.length<=1000):jq R A cap L E 239 #[Zv (ZV ⟨R,0,ZU⟩),.bool Zz]:=by
 intro w x hr hk;obtain ⟨HR,HT,hlt,nk⟩:=qP;clear hr hk;go_enter func239,ntmps239;go_wp2_with fail;refine .mono qrT ?_;rintro e w1 ⟨rfl,b1⟩;have h1:=qaE;obtain ⟨zk1,k10,k11,k12,k13,k14,k15,k16,k17,kf10,kf11,kf12,kf13,kf14,kf15,kf16,kf17,y1,HR1⟩:=qaQ;clear b1;go_wp2_with fail;refine .mono qrU ?_;rintro e w2 ⟨rfl,b2⟩;obtain ⟨h2,zk2,k20,k21,k22,k23,k24,k25,k26,k27,kf20,kf21,kf22,kf23,kf24,kf25,kf26,kf27⟩:=qh;obtain ⟨y2,HR2,e0,e1⟩:=qcE;clear b2 k10 k11 k12 k13 k14 k15 k16 k17 kf10 kf11 kf12 kf13 kf14 kf15 kf16 kf17 zk1;go_wp2_with fail;refine (mm (R:=R) (A:=A) (cap:=cap) (L:=L) (E:=E) hL _ x (have hv:=HR2.out;qnl) (HT.out.but (have hv:=h2;qni))).mono ?_;rintro e w3 ⟨⟨a0,a1,a2,a3,a4,a5,aw,aA,al,ac⟩,rfl,r3,b3⟩;obtain ⟨h3,zk3,k30,k31,k32,k33,k34,k35,k36,k37,kf30,kf31,kf32,kf33,kf34,kf35,kf36,kf37⟩:=qi;have y3:=qeE;have HR3:Hid (RS w3 R A cap L E (.out x)):=qf r3;clear b3 r3 k20 k21 k22 k23 k24 k25 k26 k27 kf20 kf21 kf22 kf23 kf24 kf25 kf26 kf27 zk2;dsimp only [V8.val];go_wp2_with fail;exact bodyPost_ret (v:=.agg #[ZZ ZY a0,ZZ ZY a1,ZZ ZY a2,ZZ ZY a3,ZZ ZY a4,ZZ ZY a5,.string aw,Zw aA al ac]) qof rfl ⟨⟨a0,a1,a2,a3,a4,a5,aw,aA,al,ac⟩,rfl,(have hv:=HR3.out;qnl),(have hv:=h3;qni)⟩
theorem lk (hL:L.length<=1000):jq R A cap L E 239 #[Zv (ZV ⟨R,0,ZU⟩),.bool Zy]:=by
 intro w x hr hk;obtain ⟨HR,HT,hlt,nk⟩:=qP;clear hr hk;go_enter func239,ntmps239;go_wp2_with fail;refine .mono qrT ?_;rintro e w1 ⟨rfl,b1⟩;have h1:=qaE;obtain ⟨zk1,k10,k11,k12,k13,k14,k15,k16,k17,kf10,kf11,kf12,kf13,kf14,kf15,kf16,kf17,y1,HR1⟩:=qaQ;clear b1;go_wp2_with fail;refine .mono qrU ?_;rintro e w2 ⟨rfl,b2⟩;obtain ⟨h2,zk2,k20,k21,k22,k23,k24,k25,k26,k27,kf20,kf21,kf22,kf23,kf24,kf25,kf26,kf27⟩:=qh;obtain ⟨y2,HR2,e0,e1⟩:=qcE;clear b2 k10 k11 k12 k13 k14 k15 k16 k17 kf10 kf11 kf12 kf13 kf14 kf15 kf16 kf17 zk1;go_wp2_with fail;refine (eA (R:=R) (A:=A) (cap:=cap) (L:=L) (E:=E) (st:=.out x) hL (have hv:=HR2.out;qnl) (HT.out.but (have hv:=h2;qni))).mono ?_;rintro e w3 ⟨rfl,r3,b3⟩;obtain ⟨h3,zk3,k30,k31,k32,k33,k34,k35,k36,k37,kf30,kf31,kf32,kf33,kf34,kf35,kf36,kf37⟩:=qi;have y3:=qeE;have HR3:Hid (RS w3 R A cap L E (.out x)):=qf r3;clear b3 r3 k20 k21 k22 k23 k24 k25 k26 k27 kf20 kf21 kf22 kf23 kf24 kf25 kf26 kf27 zk2;go_wp2_with fail;exact bodyPost_ret (v:=.agg #[ZZ ZY 0,ZZ ZY 0,ZZ ZY 0,ZZ ZY 0,ZZ ZY 0,ZZ ZY 0,Zx ⟨#[]⟩,Zw ZU 0 0]) qof rfl ⟨⟨0,0,0,0,0,0,⟨#[]⟩,ZU,0,0⟩,rfl,(have hv:=HR3.out;qnl),(have hv:=h3;qni)⟩
