import Derived.Test.YteglaomdgdkibaaGreatDoorJNS14
import Derived.Test.YteglaomdgdkibaaGreatDoorJQNSP
import Derived.Test.YteglaomdgdkibaaGreatDoorJQNSW
set_option linter.all false
set_option maxHeartbeats 0
set_option maxRecDepth 99999
namespace Go.Proofs.YteglaomdgdkibaaGreatDoor
open Go.RowKit
open Value renaming int→ZZ,pointer→Zv
open IntKind renaming i64→ZY
open Tryz
open Option renaming some→ZV,none→ZU
open Bool renaming false→Zz
variable {E R cap k:Nat}{A:Option Addr}{L:List Tok}
theorem RS.step {w:World} {p:Nat} (h:RS w R A cap L E (.run p)) (hp:p<L.length) {v:Int} (hv:v=((p+1:Nat):Int)):RS (w.setCell ⟨R,1,ZU⟩ (ZZ ZY v)) R A cap L E (.run (p+1)):=by
 obtain ⟨_,x,h⟩:=h;exact ⟨hp,x,h.step hv⟩
theorem Mt {a:Option Res} {h:Tr->Tr} {g:Got} (hg:toS (Res.next a fun t q=>ZV (.ok (h t) q))=ZV g):∃g1,toS a=ZV g1/\g=(g1.1,g1.2.map h):=by
 rcases fR hg with ⟨t,q,e,e2⟩|⟨x,e,e2⟩
 ·exact ⟨_,e,(Option.some.inj e2).symm⟩
 ·exact ⟨_,e,e2⟩

theorem xM (hL:L.length<=1000) (hP:bl R A cap L E 136 #[Zv (ZV ⟨R,0,ZU⟩)] (bR L E k)) (hO:bl R A cap L E 194 #[Zv (ZV ⟨R,0,ZU⟩)] (ct L E k)):bl R A cap L E 136 #[Zv (ZV ⟨R,0,ZU⟩)] (bR L E (k+1)):=by
 refine bl.of (kC hL) fun w p g hr hk hg=>?_
 obtain ⟨HR,HT,hlt,nk⟩:=qP;have HP:=qgy;have HO:=qf hO;clear hr hk hP hO;rw [bR] at hg;cases hm:ag L p [45] with
 |true=>
  rw [if_pos hm] at hg;obtain ⟨g1,hg1,rfl⟩:=Mt hg;obtain ⟨st1,ot1⟩:=g1;have hp:=fu hm;have HG:=qf hg1;have HM:=qgz;clear hg hg1 hm;go_enter func136,ntmps136;go_wp2_with fail;refine .mono qsf ?_;rintro e w1 ⟨rfl,b1⟩;obtain ⟨h1,zk1,k10,k11,k12,k13,k14,k15,k16,k17,kf10,kf11,kf12,kf13,kf14,kf15,kf16,kf17,y1,HR1⟩:=qg;have e1:fF L 0 [45] (.run p)=true:=HM.out;clear b1;obtain ⟨_,_,hc⟩:=HR1.out;obtain ⟨c1,cf1,HS1⟩:=qeB;clear hc;go_wp2_with fail;refine .mono qsg ?_;rintro e w2 ⟨⟨a0,a1,a2,a3,a4,a5,aw,aA,al,ac⟩,rfl,v2,r2,b2⟩;have h2:=qC;obtain ⟨zk2,k20,k21,k22,k23,k24,k25,k26,k27,kf20,kf21,kf22,kf23,kf24,kf25,kf26,kf27,y2⟩:=qac;obtain ⟨HR2,HV2⟩:=qbT;clear b2 r2 k10 k11 k12 k13 k14 k15 k16 k17 kf10 kf11 kf12 kf13 kf14 kf15 kf16 kf17 zk1 v2 c1 cf1;dsimp only [V8.val];go_wp2_with fail
  exact bodyPost_ret (v:=.agg #[ZZ ZY 3,ZZ ZY 0,ZZ ZY 0,ZZ ZY 0,ZZ ZY 0,ZZ ZY 0,.string ⟨#[]⟩,.slice (ZV ⟨w2.heap.size+1,0,ZU⟩) 1 1]) (by simp [results,results136,go_sem,k20,k21,k22,k23,k24,k25,k26,k27,zk2]) rfl ⟨⟨3,0,0,0,0,0,⟨#[]⟩,ZV ⟨w2.heap.size+1,0,ZU⟩,1,1⟩,rfl,(by
   refine (TV.node1 3 [] ⟨a0,a1,a2,a3,a4,a5,aw,aA,al,ac⟩ ot1 (by show w.heap.size<w2.heap.size+1;omega) qnV ?_ (HV2.out.kept ?_)).imp fun b (hb:w.heap.size<b)=>Nat.le_of_lt hb
   ·exact ⟨qnp,qnp,qnp,qnp,qnp,qnp,qnp,qnp⟩
   ·(with_reducible repeat' (first|exact Kept.refl _ _|refine Kept.set1 ?_ qoq _ _|refine Kept.set2 ?_ qoq _ _|refine Kept.set2o ?_ _ _|refine Kept.setNew ?_ qoq _ _|refine Kept.alloc ?_ _|refine Kept.drewN ?_ _|refine Kept.drew ?_))),(have hv:=HR2.out;qnl),(have hv:=h2;qni)⟩
 |false=>
  rw [if_neg qow] at hg;obtain ⟨st1,ot1⟩:=g;have HG:=qf hg;have HM:=qgz;clear hg hm;go_enter func136,ntmps136;go_wp2_with fail;refine .mono qsf ?_;rintro e w1 ⟨rfl,b1⟩;obtain ⟨h1,zk1,k10,k11,k12,k13,k14,k15,k16,k17,kf10,kf11,kf12,kf13,kf14,kf15,kf16,kf17,y1,HR1⟩:=qg;have e1:fF L 0 [45] (.run p)=Zz:=HM.out;clear b1;go_wp2_with fail;refine (HO.out _ (.run p) (st1,ot1) (have hv:=HR1.out;qnl) (HT.out.but (have hv:=h1;qni)) HG.out).mono ?_;rintro e w2 ⟨⟨a0,a1,a2,a3,a4,a5,aw,aA,al,ac⟩,rfl,v2,r2,b2⟩;have h2:=qC;obtain ⟨zk2,k20,k21,k22,k23,k24,k25,k26,k27,kf20,kf21,kf22,kf23,kf24,kf25,kf26,kf27,y2⟩:=qac;obtain ⟨HR2,HV2⟩:=qbT;clear b2 r2 k10 k11 k12 k13 k14 k15 k16 k17 kf10 kf11 kf12 kf13 kf14 kf15 kf16 kf17 zk1 v2;dsimp only [V8.val];go_wp2_with fail;exact bodyPost_ret (v:=.agg #[ZZ ZY a0,ZZ ZY a1,ZZ ZY a2,ZZ ZY a3,ZZ ZY a4,ZZ ZY a5,.string aw,.slice aA al ac]) qpD rfl ⟨⟨a0,a1,a2,a3,a4,a5,aw,aA,al,ac⟩,rfl,((HV2.out.kept qnm).imp fun b (hb:w.heap.size<b)=>Nat.le_of_lt hb),(have hv:=HR2.out;qnl),(have hv:=h2;qni)⟩
theorem Aq (hL:L.length<=1000) (hP:bl R A cap L E 86 #[Zv (ZV ⟨R,0,ZU⟩),ZZ ZY 1] (ak L E k 1)) (w:World) (p:Nat) (g:Got) (hr:RS w R A cap L E (.run p)) (hk:TK w R A L) (hc:aB L p=Zz\/ag L (p+1) [58]=Zz) (hg:toS (ak L E k 1 p)=ZV g):
 Calls prog 239 #[Zv (ZV ⟨R,0,ZU⟩),.bool Zz] w fun e w'=>∃x:V8,e=.returned x.val/\TV w' (fun b=>w.heap.size<=b) x g.2/\RS w' R A cap L E g.1/\But R w w':=by
 obtain ⟨HR,HT,hlt,nk⟩:=qP;have HP:=qgy;have HG:=qf hg;obtain ⟨st1,ot1⟩:=g;clear hr hk hP hg;rcases hc with hc|hc
 ·skip
  have HC:=qgx;clear hc;go_enter func239,ntmps239;go_wp2_with fail;refine .mono qsh ?_;rintro e w1 ⟨rfl,b1⟩;obtain ⟨h1,zk1,k10,k11,k12,k13,k14,k15,k16,k17,kf10,kf11,kf12,kf13,kf14,kf15,kf16,kf17,y1,HR1⟩:=qg;clear b1;go_wp2_with fail;refine .mono qsi ?_;rintro e w2 ⟨rfl,b2⟩;obtain ⟨h2,zk2,k20,k21,k22,k23,k24,k25,k26,k27,kf20,kf21,kf22,kf23,kf24,kf25,kf26,kf27⟩:=qh;obtain ⟨y2,HR2⟩:=qF;have e1:iE L (.run p)=Zz:=HC.out;exact qip
 ·cases he:aB L p with
  |false=>
   obtain ⟨HE,HC⟩:=qeG;clear he hc;go_enter func239,ntmps239;go_wp2_with fail;refine .mono qsh ?_;rintro e w1 ⟨rfl,b1⟩;obtain ⟨h1,zk1,k10,k11,k12,k13,k14,k15,k16,k17,kf10,kf11,kf12,kf13,kf14,kf15,kf16,kf17,y1,HR1⟩:=qg;clear b1;go_wp2_with fail;refine .mono qsi ?_;rintro e w2 ⟨rfl,b2⟩;obtain ⟨h2,zk2,k20,k21,k22,k23,k24,k25,k26,k27,kf20,kf21,kf22,kf23,kf24,kf25,kf26,kf27⟩:=qh;obtain ⟨y2,HR2⟩:=qF;have e1:iE L (.run p)=Zz:=HE.out;exact qip
  |true=>
   obtain ⟨HE,HC⟩:=qeG;clear he hc;go_enter func239,ntmps239;go_wp2_with fail;refine .mono qsh ?_;rintro e w1 ⟨rfl,b1⟩;obtain ⟨h1,zk1,k10,k11,k12,k13,k14,k15,k16,k17,kf10,kf11,kf12,kf13,kf14,kf15,kf16,kf17,y1,HR1⟩:=qg;clear b1;go_wp2_with fail;refine .mono qsi ?_;rintro e w2 ⟨rfl,b2⟩;obtain ⟨h2,zk2,k20,k21,k22,k23,k24,k25,k26,k27,kf20,kf21,kf22,kf23,kf24,kf25,kf26,kf27⟩:=qh;obtain ⟨y2,HR2⟩:=qF;obtain ⟨e0,e1⟩:=qev;exact qip
