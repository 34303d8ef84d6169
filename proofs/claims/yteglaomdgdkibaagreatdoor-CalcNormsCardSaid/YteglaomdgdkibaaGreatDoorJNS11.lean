import Derived.Test.YteglaomdgdkibaaGreatDoorJNS10
import Derived.Recover
import Derived.Defers
import Derived.Tactics2
import Derived.Test.YteglaomdgdkibaaGreatDoorJQNSP
set_option linter.all false
set_option maxHeartbeats 0
set_option maxRecDepth 99999
namespace Go.Proofs.YteglaomdgdkibaaGreatDoor
open Go.RowKit
open Value renaming int→ZZ,string→Zx,slice→Zw,pointer→Zv
open IntKind renaming i64→ZY
open Go renaming World→Z3
open Tryz
open Tryz renaming prog→ZW
open Option renaming some→ZV,none→ZU
open Bool renaming false→Zz
variable {w:World}{B E R cap g p:Nat}{L:List Tok}{res:Res}
def CallR (L:List Tok) (E:Nat) (wd:List UInt8) (lr:il) (res:Res):Prop:=match lr with
 |.bad z=>res=.bad z
 |.ok ks q=>az L E q [41] (fun q=>ZV (.ok (ba wd ks) q))=ZV res
theorem EH (hL:L.length<=1000) (hc:cap<=maxLen) (hG:aM L) (hr:RL w R g cap B L E p) (wd:List UInt8) (hm:ag L p [40]=Zz):
 Calls ZW 277 #[Zv (ZV ⟨R,0,ZU⟩),Zx ⟨wd.toArray⟩] w (cg w R g cap B L E (.bad (whr L E p))):=by
 have hN:=qf (fun w hr=>i7 (w:=w) (R:=R) (g:=g) (cap:=cap) (B:=B) (L:=L) (E:=E) (p:=p) hL hc hG ⟨#[40]⟩ qnv qnv hr hm);obtain ⟨HR,lR,lB⟩:=qav;clear hm hr;go_enter func277,ntmps277;go_wp2_with fail;refine .mono qrD ?_;rintro e w9 ⟨rfl,b9⟩;exact ⟨rfl,rfl,But.trans qno b9⟩
theorem JI (hL:L.length<=1000) (hc:cap<=maxLen) (hG:aM L) (hr:RL w R g cap B L E p) (hm:ag L p [40]=true) {lr:il} (hN:∀w',RL w' R g cap B L E (p+1)->Calls ZW 314 #[Zv (ZV ⟨R,0,ZU⟩)] w' (rT w' R g cap B L E lr)) (hk:CallR L E [73,70] lr res):
 Calls ZW 277 #[Zv (ZV ⟨R,0,ZU⟩),Zx ⟨#[73,70]⟩] w (cg w R g cap B L E res):=by
 obtain ⟨HN,HK,hM,hMon,hMoff⟩:=qaD;obtain ⟨HR,lR,lB⟩:=qav;clear hN hk hm hr;go_enter func277,ntmps277;go_wp2_with fail;refine .mono qrL ?_;rintro e w1 ⟨rfl,r1,b1⟩;have HR1:=qca;have h1:=qm;obtain ⟨y1,zk1⟩:=qad;obtain ⟨k10,k11,k12,k13,k14,k15,k16,k17⟩:=qo;obtain ⟨kf10,kf11,kf12,kf13,kf14,kf15,kf16,kf17⟩:=qw;have zt1:=qdD;have Ht1:C8 w1 (w.heap.size+1) (ZZ ZY 5) (ZZ ZY 0) (ZZ ZY 0) (ZZ ZY 0) (ZZ ZY 0) (ZZ ZY 0) (Zx ⟨#[73,70]⟩) (Zw ZU 0 0):=qot;obtain ⟨t10,t11,t12,t13,t14,t15,t16,t17⟩:=Ht1;obtain ⟨tf10,tf11,tf12,tf13,tf14,tf15,tf16,tf17⟩:=qbW;clear r1 b1;go_wp2_with fail;refine .mono qrM ?_;rintro e w2 H2;cases lr with
 |bad z=>
  exact qkp
 |ok ks q=>
  obtain ⟨g0,cp,rfl,⟨hg0,⟨hg1,hcp⟩,hkl⟩,r2,b2⟩:=H2;obtain ⟨HR2,hg0',HL2⟩:=qbu;have h2:=qC;obtain ⟨y2,zk2⟩:=qaP;obtain ⟨k20,k21,k22,k23,k24,k25,k26,k27⟩:=qD;obtain ⟨kf20,kf21,kf22,kf23,kf24,kf25,kf26,kf27⟩:=qq;obtain ⟨zt2,t20,t21,t22,t23,t24,t25,t26,t27,Htf2⟩:=qao;obtain ⟨tf20,tf21,tf22,tf23,tf24,tf25,tf26,tf27⟩:=Htf2;clear r2 hkl hg0 b2 k10 k11 k12 k13 k14 k15 k16 k17 kf10 kf11 kf12 kf13 kf14 kf15 kf16 kf17 zk1 t10 t11 t12 t13 t14 t15 t16 t17 tf10 tf11 tf12 tf13 tf14 tf15 tf16 tf17 zt1;go_wp2_with fail;have hk:az L E q [41] (fun q=>ZV (.ok (ba [73,70] ks) q))=ZV res:=HK.out;unfold az at hk;cases hm2:ag L q [41] with
  |false=>
   exact qiB
  |true=>
   rw [if_pos hm2] at hk;obtain rfl:=Option.some.inj hk;have HM:=qf hm2;clear hm2 hk;refine .mono qrJ ?_;rintro e w3 ⟨rfl,r3,b3⟩;obtain ⟨HR3,HL3,hg3⟩:=qaI;obtain ⟨h3,y3,zk3⟩:=qae;obtain ⟨k30,k31,k32,k33,k34,k35,k36,k37⟩:=qR;obtain ⟨kf30,kf31,kf32,kf33,kf34,kf35,kf36,kf37⟩:=qJ;have zt3:=qdE;have Ht3:C8 w3 (w.heap.size+1) (ZZ ZY 5) (ZZ ZY 0) (ZZ ZY 0) (ZZ ZY 0) (ZZ ZY 0) (ZZ ZY 0) (Zx ⟨#[73,70]⟩) (Zw (ZV ⟨g0,0,ZU⟩) ks.length cp):=qnM;obtain ⟨t30,t31,t32,t33,t34,t35,t36,t37⟩:=Ht3;obtain ⟨tf30,tf31,tf32,tf33,tf34,tf35,tf36,tf37⟩:=qbU;clear r3 HL2 b3 k20 k21 k22 k23 k24 k25 k26 k27 kf20 kf21 kf22 kf23 kf24 kf25 kf26 kf27 zk2 t20 t21 t22 t23 t24 t25 t26 t27 tf20 tf21 tf22 tf23 tf24 tf25 tf26 tf27 zt2;go_wp2_with fail;exact bodyPost_ret (v:=.agg #[ZZ ZY 5,ZZ ZY 0,ZZ ZY 0,ZZ ZY 0,ZZ ZY 0,ZZ ZY 0,Zx ⟨#[73,70]⟩,Zw (ZV ⟨g0,0,ZU⟩) ks.length cp]) qoc rfl ⟨⟨5,0,0,0,0,0,⟨#[73,70]⟩,ZV ⟨g0,0,ZU⟩,ks.length,cp⟩,rfl,TV.imp (P:=fun b=>w.heap.size+1<b) (vE (ks:=ks) 5 [73,70] hg0' qor (KLc.stay qnF hg0' HL3.out)) fun b (hb:w.heap.size+1<b)=>by show w.heap.size<=b;omega,(have hv:=HR3.out;qnk),(have hv:=h3;qni)⟩
theorem xY (hL:L.length<=1000) (hc:cap<=maxLen) (hG:aM L) (hr:RL w R g cap B L E p) (hm:ag L p [40]=true) {lr:il} (hN:∀w',RL w' R g cap B L E (p+1)->Calls ZW 315 #[Zv (ZV ⟨R,0,ZU⟩),.func (.func 316) #[Zv (ZV ⟨R,0,ZU⟩)] #[]] w' (rT w' R g cap B L E lr)) (hk:CallR L E [67,79,85,78,84] lr res):
 Calls ZW 277 #[Zv (ZV ⟨R,0,ZU⟩),Zx ⟨#[67,79,85,78,84]⟩] w (cg w R g cap B L E res):=by
 obtain ⟨HN,HK,hM,hMon,hMoff⟩:=qaD;obtain ⟨HR,lR,lB⟩:=qav;clear hN hk hm hr;go_enter func277,ntmps277;go_wp2_with fail;refine .mono qrL ?_;rintro e w1 ⟨rfl,r1,b1⟩;have HR1:=qca;have h1:=qm;obtain ⟨y1,zk1⟩:=qad;obtain ⟨k10,k11,k12,k13,k14,k15,k16,k17⟩:=qo;obtain ⟨kf10,kf11,kf12,kf13,kf14,kf15,kf16,kf17⟩:=qw;have zt1:=qdD;have Ht1:C8 w1 (w.heap.size+1) (ZZ ZY 5) (ZZ ZY 0) (ZZ ZY 0) (ZZ ZY 0) (ZZ ZY 0) (ZZ ZY 0) (Zx ⟨#[67,79,85,78,84]⟩) (Zw ZU 0 0):=qot;obtain ⟨t10,t11,t12,t13,t14,t15,t16,t17⟩:=Ht1;obtain ⟨tf10,tf11,tf12,tf13,tf14,tf15,tf16,tf17⟩:=qbW;clear r1 b1;go_wp2_with fail;refine .mono qrM ?_;rintro e w2 H2;cases lr with
 |bad z=>
  exact qkp
 |ok ks q=>
  obtain ⟨g0,cp,rfl,⟨hg0,⟨hg1,hcp⟩,hkl⟩,r2,b2⟩:=H2;obtain ⟨HR2,hg0',HL2⟩:=qbu;have h2:=qC;obtain ⟨y2,zk2⟩:=qaP;obtain ⟨k20,k21,k22,k23,k24,k25,k26,k27⟩:=qD;obtain ⟨kf20,kf21,kf22,kf23,kf24,kf25,kf26,kf27⟩:=qq;obtain ⟨zt2,t20,t21,t22,t23,t24,t25,t26,t27,Htf2⟩:=qao;obtain ⟨tf20,tf21,tf22,tf23,tf24,tf25,tf26,tf27⟩:=Htf2;clear r2 hkl hg0 b2 k10 k11 k12 k13 k14 k15 k16 k17 kf10 kf11 kf12 kf13 kf14 kf15 kf16 kf17 zk1 t10 t11 t12 t13 t14 t15 t16 t17 tf10 tf11 tf12 tf13 tf14 tf15 tf16 tf17 zt1;go_wp2_with fail;have hk:az L E q [41] (fun q=>ZV (.ok (ba [67,79,85,78,84] ks) q))=ZV res:=HK.out;unfold az at hk;cases hm2:ag L q [41] with
  |false=>
   exact qiB
  |true=>
   rw [if_pos hm2] at hk;obtain rfl:=Option.some.inj hk;have HM:=qf hm2;clear hm2 hk;refine .mono qrJ ?_;rintro e w3 ⟨rfl,r3,b3⟩;obtain ⟨HR3,HL3,hg3⟩:=qaI;obtain ⟨h3,y3,zk3⟩:=qae;obtain ⟨k30,k31,k32,k33,k34,k35,k36,k37⟩:=qR;obtain ⟨kf30,kf31,kf32,kf33,kf34,kf35,kf36,kf37⟩:=qJ;have zt3:=qdE;have Ht3:C8 w3 (w.heap.size+1) (ZZ ZY 5) (ZZ ZY 0) (ZZ ZY 0) (ZZ ZY 0) (ZZ ZY 0) (ZZ ZY 0) (Zx ⟨#[67,79,85,78,84]⟩) (Zw (ZV ⟨g0,0,ZU⟩) ks.length cp):=qnM;obtain ⟨t30,t31,t32,t33,t34,t35,t36,t37⟩:=Ht3;obtain ⟨tf30,tf31,tf32,tf33,tf34,tf35,tf36,tf37⟩:=qbU;clear r3 HL2 b3 k20 k21 k22 k23 k24 k25 k26 k27 kf20 kf21 kf22 kf23 kf24 kf25 kf26 kf27 zk2 t20 t21 t22 t23 t24 t25 t26 t27 tf20 tf21 tf22 tf23 tf24 tf25 tf26 tf27 zt2;go_wp2_with fail;exact bodyPost_ret (v:=.agg #[ZZ ZY 5,ZZ ZY 0,ZZ ZY 0,ZZ ZY 0,ZZ ZY 0,ZZ ZY 0,Zx ⟨#[67,79,85,78,84]⟩,Zw (ZV ⟨g0,0,ZU⟩) ks.length cp]) qoc rfl ⟨⟨5,0,0,0,0,0,⟨#[67,79,85,78,84]⟩,ZV ⟨g0,0,ZU⟩,ks.length,cp⟩,rfl,TV.imp (P:=fun b=>w.heap.size+1<b) (vE (ks:=ks) 5 [67,79,85,78,84] hg0' qor (KLc.stay qnF hg0' HL3.out)) fun b (hb:w.heap.size+1<b)=>by show w.heap.size<=b;omega,(have hv:=HR3.out;qnk),(have hv:=h3;qni)⟩
theorem xS (hL:L.length<=1000) (hc:cap<=maxLen) (hG:aM L) (hr:RL w R g cap B L E p) {wd:List UInt8} (e1:(wd==[73,70])=Zz) (e2:(wd==[67,79,85,78,84])=Zz) (hm:ag L p [40]=true) {lr:il} (hN:∀w',RL w' R g cap B L E (p+1)->Calls ZW 315 #[Zv (ZV ⟨R,0,ZU⟩),.func (.func 317) #[Zv (ZV ⟨R,0,ZU⟩)] #[]] w' (rT w' R g cap B L E lr)) (hk:CallR L E wd lr res):
 Calls ZW 277 #[Zv (ZV ⟨R,0,ZU⟩),Zx ⟨wd.toArray⟩] w (cg w R g cap B L E res):=by
 obtain ⟨HN,HK,hM,hMon,hMoff⟩:=qaD;obtain ⟨HR,lR,lB⟩:=qav;clear hN hk hm hr;go_enter func277,ntmps277;go_wp2_with fail;refine .mono qrL ?_;rintro e w1 ⟨rfl,r1,b1⟩;have HR1:=qca;have h1:=qm;obtain ⟨y1,zk1⟩:=qad;obtain ⟨k10,k11,k12,k13,k14,k15,k16,k17⟩:=qo;obtain ⟨kf10,kf11,kf12,kf13,kf14,kf15,kf16,kf17⟩:=qw;have zt1:=qdD;have Ht1:C8 w1 (w.heap.size+1) (ZZ ZY 5) (ZZ ZY 0) (ZZ ZY 0) (ZZ ZY 0) (ZZ ZY 0) (ZZ ZY 0) (Zx ⟨wd.toArray⟩) (Zw ZU 0 0):=qot;obtain ⟨t10,t11,t12,t13,t14,t15,t16,t17⟩:=Ht1;obtain ⟨tf10,tf11,tf12,tf13,tf14,tf15,tf16,tf17⟩:=qbW;clear r1 b1;go_wp2_with fail;refine .mono qrM ?_;rintro e w2 H2;cases lr with
 |bad z=>
  exact qkp
 |ok ks q=>
  obtain ⟨g0,cp,rfl,⟨hg0,⟨hg1,hcp⟩,hkl⟩,r2,b2⟩:=H2;obtain ⟨HR2,hg0',HL2⟩:=qbu;have h2:=qC;obtain ⟨y2,zk2⟩:=qaP;obtain ⟨k20,k21,k22,k23,k24,k25,k26,k27⟩:=qD;obtain ⟨kf20,kf21,kf22,kf23,kf24,kf25,kf26,kf27⟩:=qq;obtain ⟨zt2,t20,t21,t22,t23,t24,t25,t26,t27,Htf2⟩:=qao;obtain ⟨tf20,tf21,tf22,tf23,tf24,tf25,tf26,tf27⟩:=Htf2;clear r2 hkl hg0 b2 k10 k11 k12 k13 k14 k15 k16 k17 kf10 kf11 kf12 kf13 kf14 kf15 kf16 kf17 zk1 t10 t11 t12 t13 t14 t15 t16 t17 tf10 tf11 tf12 tf13 tf14 tf15 tf16 tf17 zt1;go_wp2_with fail;have hk:az L E q [41] (fun q=>ZV (.ok (ba wd ks) q))=ZV res:=HK.out;unfold az at hk;cases hm2:ag L q [41] with
  |false=>
   exact qiB
  |true=>
   rw [if_pos hm2] at hk;obtain rfl:=Option.some.inj hk;have HM:=qf hm2;clear hm2 hk;refine .mono qrJ ?_;rintro e w3 ⟨rfl,r3,b3⟩;obtain ⟨HR3,HL3,hg3⟩:=qaI;obtain ⟨h3,y3,zk3⟩:=qae;obtain ⟨k30,k31,k32,k33,k34,k35,k36,k37⟩:=qR;obtain ⟨kf30,kf31,kf32,kf33,kf34,kf35,kf36,kf37⟩:=qJ;have zt3:=qdE;have Ht3:C8 w3 (w.heap.size+1) (ZZ ZY 5) (ZZ ZY 0) (ZZ ZY 0) (ZZ ZY 0) (ZZ ZY 0) (ZZ ZY 0) (Zx ⟨wd.toArray⟩) (Zw (ZV ⟨g0,0,ZU⟩) ks.length cp):=qnM;obtain ⟨t30,t31,t32,t33,t34,t35,t36,t37⟩:=Ht3;obtain ⟨tf30,tf31,tf32,tf33,tf34,tf35,tf36,tf37⟩:=qbU;clear r3 HL2 b3 k20 k21 k22 k23 k24 k25 k26 k27 kf20 kf21 kf22 kf23 kf24 kf25 kf26 kf27 zk2 t20 t21 t22 t23 t24 t25 t26 t27 tf20 tf21 tf22 tf23 tf24 tf25 tf26 tf27 zt2;go_wp2_with fail;exact bodyPost_ret (v:=.agg #[ZZ ZY 5,ZZ ZY 0,ZZ ZY 0,ZZ ZY 0,ZZ ZY 0,ZZ ZY 0,Zx ⟨wd.toArray⟩,Zw (ZV ⟨g0,0,ZU⟩) ks.length cp]) qoc rfl ⟨⟨5,0,0,0,0,0,⟨wd.toArray⟩,ZV ⟨g0,0,ZU⟩,ks.length,cp⟩,rfl,TV.imp (P:=fun b=>w.heap.size+1<b) (vE (ks:=ks) 5 wd hg0' qor (KLc.stay qnF hg0' HL3.out)) fun b (hb:w.heap.size+1<b)=>by show w.heap.size<=b;omega,(have hv:=HR3.out;qnk),(have hv:=h3;qni)⟩
theorem yv (a b c:Value) (w:Z3):
 CallsD ZW 129 #[a,b,c] .returning w fun e u' w'=>e=.returned (.tuple #[])/\u'=.returning/\w'=w:=by
 refine callsD_of_wpS func129 rfl fun c₀ cs hu=>?_
 apply wpS_seq
 apply wpS_region
 simp [wpOpsS,go_sem,recoverD,hu,ntmps129,Exit.thenS]
 apply wpS_seq
 apply wpS_region
 simp [wpOpsS,go_sem,recoverD,hu,Exit.thenS]
 refine wpS_cond (t:=Zz) (by simp [Act.eval,Array.replicate]) ?_;simp only [Bool.false_eq_true,if_false];refine wpS_of_wp (wp_skip ?_);cases c₀;simp_all [bodyPostS,results,results129]
theorem IB (w:Z3) (a:Addr) (v:Value):(w.setCell a v).drew=w.drew.setCell a v:=rfl
def cO (w:Z3) (T F E:Nat) (z:Int):Z3:=
 ((((((((((w.setCell ⟨T,0,ZU⟩ (ZZ ZY 0)).setCell ⟨T,1,ZU⟩ (ZZ ZY 0)).setCell ⟨T,2,ZU⟩ (ZZ ZY 0)).setCell ⟨T,3,ZU⟩ (ZZ ZY 0)).setCell ⟨T,4,ZU⟩ (ZZ ZY 0)).setCell ⟨T,5,ZU⟩ (ZZ ZY 0)).setCell ⟨T,6,ZU⟩ (Zx ⟨#[]⟩)).setCell ⟨T,7,ZU⟩ (Zw ZU 0 0)).setCell ⟨F,0,ZU⟩ (ZZ ZY z)).setCell ⟨E,0,ZU⟩ (ZZ ZY 2))
theorem mG (T F E:Nat) (z:Int) (older:List PanicEntry) (w:Z3) (x:V8) (f e:Int)
 (t0:w.cell? ⟨T,0,ZU⟩=ZV (ZZ ZY x.n0)) (t1:w.cell? ⟨T,1,ZU⟩=ZV (ZZ ZY x.n1)) (t2:w.cell? ⟨T,2,ZU⟩=ZV (ZZ ZY x.n2)) (t3:w.cell? ⟨T,3,ZU⟩=ZV (ZZ ZY x.n3)) (t4:w.cell? ⟨T,4,ZU⟩=ZV (ZZ ZY x.n4)) (t5:w.cell? ⟨T,5,ZU⟩=ZV (ZZ ZY x.n5)) (t6:w.cell? ⟨T,6,ZU⟩=ZV (.string x.s)) (t7:w.cell? ⟨T,7,ZU⟩=ZV (Zw x.A x.len x.cap))
 (hf:w.cell? ⟨F,0,ZU⟩=ZV (ZZ ZY f)) (he:w.cell? ⟨E,0,ZU⟩=ZV (ZZ ZY e)) (z0:∀j,w.frozen? ⟨T,j,ZU⟩=Zz) (zf:w.frozen? ⟨F,0,ZU⟩=Zz) (ze:w.frozen? ⟨E,0,ZU⟩=Zz) (n1:T≠F) (n2:T≠E) (n3:F≠E):
 CallsD ZW 129 #[Zv (ZV ⟨T,0,ZU⟩),Zv (ZV ⟨F,0,ZU⟩),Zv (ZV ⟨E,0,ZU⟩)] (.panicking ({ v:=.iface 187 (ZZ ZY z),recovered:=Zz }::older)) w fun e u' w'=>
  e=.returned (.tuple #[])/\u'=.panicking ({ v:=.iface 187 (ZZ ZY z),recovered:=true }::older)/\w'=cO w.drew T F E z:=by
 refine callsD_of_wpS func129 rfl fun c₀ cs hu=>?_
 have f0:=z0 0;have f1:=z0 1;have f2:=z0 2;have f3:=z0 3;have f4:=z0 4;have f5:=z0 5;have f6:=z0 6;have f7:=z0 7;apply wpS_seq
 apply wpS_region
 simp [wpOpsS,go_sem,recoverD,hu,ntmps129,Exit.thenS]
 apply wpS_seq
 apply wpS_region
 simp [wpOpsS,go_sem,recoverD,hu,Exit.thenS]
 refine wpS_cond (t:=true) (by simp [Act.eval,Array.replicate]) ?_;simp only [if_true];refine wpS_of_wp ?_
 have hA:(#[Value.pointer (ZV ⟨T,0,ZU⟩),Zv (ZV ⟨F,0,ZU⟩),Zv (ZV ⟨E,0,ZU⟩)]++((((Array.replicate 7 undef).setIfInBounds 1 (Value.iface 187 (ZZ ZY z))).setIfInBounds 0 (.iface 187 (ZZ ZY z))).setIfInBounds 2 (.iface 187 (ZZ ZY z))).setIfInBounds 3 (.bool true):Array Value)=
  #[Zv (ZV ⟨T,0,ZU⟩),Zv (ZV ⟨F,0,ZU⟩),Zv (ZV ⟨E,0,ZU⟩),.iface 187 (ZZ ZY z),.iface 187 (ZZ ZY z),.iface 187 (ZZ ZY z),.bool true,undef,undef,undef]:=rfl
 rw [hA];have hTA:∀w:Z3,(Instr.typeAssert (.iface 187 (ZZ ZY z)) 20 187 Zz).run ZW w=.ok (ZZ ZY z) w:=fun _=>by kernel_rfl
 clear hA;go_region
 all_goals
  refine ⟨rfl,_,rfl,.tuple #[],?_,rfl,rfl,?_⟩
  ·simp [results,results129,go_sem]
  ·simp only [IB,cO]
