/- Short ways to say what is said often. -/
import Derived.WalkKit
set_option linter.all false
set_option maxHeartbeats 0
set_option maxRecDepth 99999
namespace Go.Proofs.YteglaomdgdkibaaGreatDoor
open Go.RowKit
variable {p:Prop}
def qbD(h:p:=by exact (show ∀w:World,(Instr.field 184 (.agg #[.int .i64 d.kY,.int .i64 d.num,.int .i64 d.col,.int .i64 d.row,.string ⟨d.text.toArray⟩,.int .i64 (d.frm:Int)]) 3).run Tryz.prog w=.ok (.string ⟨d.text.toArray⟩) w from fun _=>by kernel_rfl)):p:=h
def qil(h:p:=by
 cases B4 with
 |true=>
  cases LN with
  |true=>
   go_enter Tryz.func159,Tryz.ntmps159;go_wp2_with fail;go_ret;exact ⟨rfl,qa⟩
  |false=>
   go_enter Tryz.func159,Tryz.ntmps159;go_wp2_with fail;go_ret;exact ⟨rfl,qa⟩
 |false=>
  cases B5 with
  |true=>
   cases LN with
   |true=>
    go_enter Tryz.func159,Tryz.ntmps159;go_wp2_with fail;go_ret;exact ⟨rfl,qa⟩
   |false=>
    go_enter Tryz.func159,Tryz.ntmps159;go_wp2_with fail;go_ret;exact ⟨rfl,qa⟩
  |false=>
   cases W0 with
   |true=>
    cases LN with
    |true=>
     go_enter Tryz.func159,Tryz.ntmps159;go_wp2_with fail;go_ret;exact ⟨rfl,qa⟩
    |false=>
     go_enter Tryz.func159,Tryz.ntmps159;go_wp2_with fail;go_ret;exact ⟨rfl,qa⟩
   |false=>
    go_enter Tryz.func159,Tryz.ntmps159;go_wp2_with fail;go_ret;exact ⟨rfl,qa⟩):p:=h
def qin(h:p:=by
 go_enter Tryz.func159,Tryz.ntmps159;go_wp2_with fail;go_ret;exact ⟨rfl,qa⟩):p:=h
def qip(h:p:=by
 clear b2 k10 k11 k12 k13 k14 k15 k16 k17 kf10 kf11 kf12 kf13 kf14 kf15 kf16 kf17 zk1;go_wp2_with fail;refine (HP.out _ (.run p) (st1,ot1) (have hv:=HR2.out;qnl) (HT.out.but (have hv:=h2;qni)) HG.out).mono ?_;rintro e w3 ⟨⟨a0,a1,a2,a3,a4,a5,aw,aA,al,ac⟩,rfl,v3,r3,b3⟩;obtain ⟨h3,zk3,k30,k31,k32,k33,k34,k35,k36,k37,kf30,kf31,kf32,kf33,kf34,kf35,kf36,kf37⟩:=qi;obtain ⟨y3,HR3,HV3⟩:=qbG;clear b3 r3 k20 k21 k22 k23 k24 k25 k26 k27 kf20 kf21 kf22 kf23 kf24 kf25 kf26 kf27 zk2 v3;dsimp only [V8.val];go_wp2_with fail;exact bodyPost_ret (v:=.agg #[.int .i64 a0,.int .i64 a1,.int .i64 a2,.int .i64 a3,.int .i64 a4,.int .i64 a5,.string aw,.slice aA al ac]) qof rfl ⟨⟨a0,a1,a2,a3,a4,a5,aw,aA,al,ac⟩,rfl,((HV3.out.kept qnm).imp fun b (hb:w.heap.size<b)=>Nat.le_of_lt hb),(have hv:=HR3.out;qnl),(have hv:=h3;qni)⟩):p:=h
def qiq(h:p:=by
 subst hcv2;have hB5:=qf hb5;clear hk hm hc hcv hown0 hown1 hown2 hown3 hown4 hown5 hg1 hg2 hg3 hg4 hg5 hb0 hb1 hb2 hb3 hb4 hb5;go_enter Tryz.func214,Tryz.ntmps214;go_wp2_with fail;have hs5:=hB5.out.size;simp at hs5
 obtain ⟨c0,c1,hbw⟩:=qai;refine Calls.mono (HC.out w5 P A cap b _ _ (HK.out.kept (Kept.of_below hbw)) (HM.out.below hbw) c0 c1) ?_;rintro e w6 ⟨rfl,b6⟩;obtain ⟨hB6,r0,r1,f0,f1,z2,hb6⟩:=qN;clear b6 hB6 hB5 hbw c0 c1 hr1 hr2 hr3 hr4 hr5 hr6 HC HK HM;go_wp2_with fail;exact bodyPost_ret (v:=.agg #[.int .i64 (cmT l t).1,.int .i64 (cmT l t).2]) (by simp [results,Tryz.results214,go_sem,r0,r1,z2,f0,f1]) rfl ⟨rfl,(by repeat' (first|with_reducible exact hb6|with_reducible refine Below.setCell ?_ ?_ _|(show w.heap.size<=w.heap.size+1+1;omega)))⟩):p:=h
def qir(h:p:=by
 go_wp2_with fail;go_ret;exact ⟨rfl,qa⟩):p:=h
def qis(h:p:=by
 obtain ⟨⟨x0,x1,x2,x3,x4,x5,xw,xA,xl,xc⟩,rfl,v2,r2,b2⟩:=H2;obtain ⟨HR2,HVx2⟩:=qar;have h2:=qC;obtain ⟨y2,zk2⟩:=qaP;have Hk2:=qD;obtain ⟨k20,k21,k22,k23,k24,k25,k26,k27⟩:=Hk2;have Hkf2:=qq;obtain ⟨kf20,kf21,kf22,kf23,kf24,kf25,kf26,kf27⟩:=Hkf2;clear r2 v2 b2 k10 k11 k12 k13 k14 k15 k16 k17 kf10 kf11 kf12 kf13 kf14 kf15 kf16 kf17 zk1;dsimp only [V8.val];go_wp2_with fail;exact bodyPost_ret (v:=.agg #[.int .i64 x0,.int .i64 x1,.int .i64 x2,.int .i64 x3,.int .i64 x4,.int .i64 x5,.string xw,.slice xA xl xc]) (by simp [results,Tryz.results317,go_sem,k20,k21,k22,k23,k24,k25,k26,k27,zk2]) rfl ⟨⟨x0,x1,x2,x3,x4,x5,xw,xA,xl,xc⟩,rfl,((HVx2.out.kept qny).imp fun b (hb:w.heap.size<b)=>Nat.le_of_lt hb),(have hv:=HR2.out;qnk),(have hv:=h2;qni)⟩):p:=h
def qit(h:p:=by
 cases O
 all_goals
  cases RB
  all_goals
   cases D
   all_goals
    go_enter Tryz.func110,Tryz.ntmps110;go_wp2_with fail;refine .mono qrO ?_;rintro e w1 ⟨rfl,b1⟩;obtain ⟨k10,k11,k12,k13,k14,k15,k16⟩:=ql;have k17:=qbj;have h1:=qab;clear b1;go_wp2_with fail;refine .mono qrP ?_;rintro e w2 ⟨rfl,b2⟩;obtain ⟨k20,k21,k22,k23,k24,k25,k26,k27,h2⟩:=qI;clear b2 k10 k11 k12 k13 k14 k15 k16 k17;go_wp2_with fail;go_ret;exact ⟨by rw [HM2.out];rfl,h2⟩):p:=h
def qiu(h:p:=by
 generalize aj L E q=d at*;generalize (aJ L q:Int) - 1=lv at*;clear hv HN hNx;go_wp2_with fail;refine HS.out.mono ?_;rintro e w9 ⟨rfl,rfl⟩;go_wp2_with fail;exact bodyPost_ret (v:=.agg #[.int .i64 c0,.int .i64 c1,.int .i64 c2,.int .i64 c3,.int .i64 c4,.int .i64 c5,.string cw,.slice cA cl cc]) (by simp [results,Tryz.results130,go_sem,k20,o20,k21,o21,k22,o22,k23,o23,k24,o24,k25,o25,k26,o26,k27,o27,zk2,zo2]) rfl ⟨⟨c0,c1,c2,c3,c4,c5,cw,cA,cl,cc⟩,rfl,((HO2.out.kept qnm).imp fun b (hb:w.heap.size<b/\_)=>Nat.le_of_lt hb.1),(have hv:=HR2.out;qnk),(have hv:=h2;qni)⟩):p:=h
def qiv(h:p:=by
 go_enter Tryz.func192,Tryz.ntmps192;go_wp2_with fail;go_ret;exact ⟨fp HR.out.symm,rfl⟩):p:=h
def qiw(h:p:=by
 rcases mark_cases s p with hm|hm|⟨hm,hp⟩
 ·have l1:decide ((65:Int)<=((s[p]'h).toNat:Int))=true:=decide_eq_true qoq
  have l2:=qbP;have HO:=qbq;rw [hm] at h2;have H2:=qhY;clear hO hr hl hm h2;go_enter Tryz.func135,Tryz.ntmps135;go_wp2_with fail;refine .mono qrC ?_;rintro e w1 ⟨rfl,rfl⟩;go_wp2_with fail;refine .mono qrR ?_;rintro e w2 ⟨rfl,rfl⟩;go_wp2_with fail;exact bodyPost_ret (v:=.tuple #[.agg #[.int .i64 0,.int .i64 0,.int .i64 0,.int .i64 0,.string ⟨#[]⟩,.int .i64 0],.int .i64 0]) qnR rfl ⟨qnS,qa⟩
 ·have l1:decide ((65:Int)<=((s[p]'h).toNat:Int))=true:=decide_eq_true qoq
  have l2:=qbP;have HO:=qaW;rw [hm] at h2;have H2:=qhY;clear hO hr hl hm h2;go_enter Tryz.func135,Tryz.ntmps135;go_wp2_with fail;refine .mono qrC ?_;rintro e w1 ⟨rfl,rfl⟩;go_wp2_with fail;refine .mono qrR ?_;rintro e w2 ⟨rfl,rfl⟩;go_wp2_with fail;exact bodyPost_ret (v:=.tuple #[.agg #[.int .i64 5,.int .i64 0,.int .i64 0,.int .i64 0,.string (s.extract p (p+1)),.int .i64 (p:Int)],.int .i64 1]) qnR rfl ⟨qnS,qa⟩
 ·have l1:decide ((65:Int)<=((s[p]'h).toNat:Int))=true:=decide_eq_true qoq
  have l2:=qbP;have HO:=qaX;rw [hm] at h2;have H2:=qhY;clear hO hr hl hm h2;go_enter Tryz.func135,Tryz.ntmps135;go_wp2_with fail;refine .mono qrC ?_;rintro e w1 ⟨rfl,rfl⟩;go_wp2_with fail;refine .mono qrR ?_;rintro e w2 ⟨rfl,rfl⟩;go_wp2_with fail;exact bodyPost_ret (v:=.tuple #[.agg #[.int .i64 5,.int .i64 0,.int .i64 0,.int .i64 0,.string (s.extract p (p+2)),.int .i64 (p:Int)],.int .i64 2]) qnR rfl ⟨qnS,qa⟩):p:=h
def qix(h:p:=by
 rcases mark_cases s p with hm|hm|⟨hm,hp⟩
 ·have l1:decide ((65:Int)<=((s[p]'h).toNat:Int))=false:=decide_eq_false qoq
  have HO:=qbq;rw [hm] at h2;have H2:=qhY;clear hO hr hl hm h2;go_enter Tryz.func135,Tryz.ntmps135;go_wp2_with fail;refine .mono qrC ?_;rintro e w1 ⟨rfl,rfl⟩;go_wp2_with fail;refine .mono qrR ?_;rintro e w2 ⟨rfl,rfl⟩;go_wp2_with fail;exact bodyPost_ret (v:=.tuple #[.agg #[.int .i64 0,.int .i64 0,.int .i64 0,.int .i64 0,.string ⟨#[]⟩,.int .i64 0],.int .i64 0]) qnR rfl ⟨qnS,qa⟩
 ·have l1:decide ((65:Int)<=((s[p]'h).toNat:Int))=false:=decide_eq_false qoq
  have HO:=qaW;rw [hm] at h2;have H2:=qhY;clear hO hr hl hm h2;go_enter Tryz.func135,Tryz.ntmps135;go_wp2_with fail;refine .mono qrC ?_;rintro e w1 ⟨rfl,rfl⟩;go_wp2_with fail;refine .mono qrR ?_;rintro e w2 ⟨rfl,rfl⟩;go_wp2_with fail;exact bodyPost_ret (v:=.tuple #[.agg #[.int .i64 5,.int .i64 0,.int .i64 0,.int .i64 0,.string (s.extract p (p+1)),.int .i64 (p:Int)],.int .i64 1]) qnR rfl ⟨qnS,qa⟩
 ·have l1:decide ((65:Int)<=((s[p]'h).toNat:Int))=false:=decide_eq_false qoq
  have HO:=qaX;rw [hm] at h2;have H2:=qhY;clear hO hr hl hm h2;go_enter Tryz.func135,Tryz.ntmps135;go_wp2_with fail;refine .mono qrC ?_;rintro e w1 ⟨rfl,rfl⟩;go_wp2_with fail;refine .mono qrR ?_;rintro e w2 ⟨rfl,rfl⟩;go_wp2_with fail;exact bodyPost_ret (v:=.tuple #[.agg #[.int .i64 5,.int .i64 0,.int .i64 0,.int .i64 0,.string (s.extract p (p+2)),.int .i64 (p:Int)],.int .i64 2]) qnR rfl ⟨qnS,qa⟩):p:=h
def qiy(h:p:=by
 cases hv:dX (ar s.data.toList p n) with
 |none=>
  rw [hv] at hO HN;have HO:=qbc;clear hO hv;go_wp2_with fail;refine (HN.out _).mono ?_;rintro e w2 ⟨rfl,rfl⟩;go_wp2_with fail;exact bodyPost_ret (v:=.tuple #[.agg #[.int .i64 0,.int .i64 0,.int .i64 0,.int .i64 0,.string ⟨#[]⟩,.int .i64 0],.int .i64 0]) qnR rfl ⟨qnS,qa⟩
 |some u=>
  have hM:=qex;rw [hv] at hO HN;rw [hM] at HN;have HO:=qbY;clear hO hM hv;go_wp2_with fail;refine (HN.out _).mono ?_;rintro e w2 ⟨rfl,rfl⟩;go_wp2_with fail;exact bodyPost_ret (v:=.tuple #[.agg #[.int .i64 1,.int .i64 (u:Int),.int .i64 0,.int .i64 0,.string ⟨#[]⟩,.int .i64 (p:Int)],.int .i64 (n:Int)]) qnR rfl ⟨qnS,qa⟩):p:=h
def qiC(h:p:=by
 clear b2 k10 k11 k12 k13 k14 k15 k16 k17 kf10 kf11 kf12 kf13 kf14 kf15 kf16 kf17 zk1;go_wp2_with fail;refine (eA (R:=R) (A:=A) (cap:=cap) (L:=L) (E:=E) (st:=.run p) hL (have hv:=HR2.out;qnl) (HT.out.but (have hv:=h2;qni))).mono ?_;rintro e w3 ⟨rfl,r3,b3⟩;obtain ⟨h3,zk3,k30,k31,k32,k33,k34,k35,k36,k37,kf30,kf31,kf32,kf33,kf34,kf35,kf36,kf37⟩:=qi;have y3:=qeE;have HR3:Hid (RS w3 R A cap L E (.out (whr L E p))):=qf r3;clear b3 r3 k20 k21 k22 k23 k24 k25 k26 k27 kf20 kf21 kf22 kf23 kf24 kf25 kf26 kf27 zk2;go_wp2_with fail;exact bodyPost_ret (v:=.agg #[.int .i64 0,.int .i64 0,.int .i64 0,.int .i64 0,.int .i64 0,.int .i64 0,.string ⟨#[]⟩,.slice none 0 0]) qof rfl ⟨⟨0,0,0,0,0,0,⟨#[]⟩,none,0,0⟩,rfl,trivial,(have hv:=HR3.out;qnl),(have hv:=h3;qni)⟩):p:=h
def qiD(h:p:=by
 clear b2 k10 k11 k12 k13 k14 k15 k16 k17 kf10 kf11 kf12 kf13 kf14 kf15 kf16 kf17 zk1;go_wp2_with fail;exact bodyPost_ret (v:=.agg #[.int .i64 a0,.int .i64 a1,.int .i64 a2,.int .i64 a3,.int .i64 a4,.int .i64 a5,.string aw,.slice aA al ac]) (by simp [results,Tryz.results86,go_sem,k20,k21,k22,k23,k24,k25,k26,k27]) rfl ⟨⟨a0,a1,a2,a3,a4,a5,aw,aA,al,ac⟩,rfl,(have hv:=HR2.out;qnw),(have hv:=h2;qni)⟩):p:=h
def qiE(h:p:=by
 simp at hn
 subst hn;go_enter Tryz.func141,Tryz.ntmps141;go_wp2_with fail;go_ret;exact ⟨rfl,rfl⟩):p:=h
def qiF(h:p:=by
 refine (eA (R:=R) (A:=A) (cap:=cap) (L:=L) (E:=E) (st:=.run p) hL (have hv:=HR1.out;qnl) (HT.out.but (have hv:=h1;qni))).mono ?_;rintro e w2 ⟨rfl,r2,b2⟩;have h2:=qC;obtain ⟨zk2,k20,k21,k22,k23,k24,k25,k26,k27,kf20,kf21,kf22,kf23,kf24,kf25,kf26,kf27,y2⟩:=qac;have HR2:Hid (RS w2 R A cap L E (.out (whr L E p))):=qf r2;clear b2 r2 k10 k11 k12 k13 k14 k15 k16 k17 kf10 kf11 kf12 kf13 kf14 kf15 kf16 kf17 zk1;go_wp2_with fail;exact bodyPost_ret (v:=.agg #[.int .i64 0,.int .i64 0,.int .i64 0,.int .i64 0,.int .i64 0,.int .i64 0,.string ⟨#[]⟩,.slice none 0 0]) qpC rfl ⟨⟨0,0,0,0,0,0,⟨#[]⟩,none,0,0⟩,rfl,trivial,(have hv:=HR2.out;qnl),(have hv:=h2;qni)⟩):p:=h
def qiH(h:p:=by
 clear HTE HTB HKB;go_wp2_with fail;go_roundw
 case rel=>exact ⟨i+1,qoq,qnG,HG,hb1,s7,e7⟩
 case measure=>simp [RowKit.intOf];omega):p:=h
def qiI(h:p:=by
 go_wp2_with fail;refine .mono qrR ?_;rintro e w1 ⟨rfl,b1⟩;obtain ⟨k0,k1,k2,k3,k4,k5,f0,f1,f2,f3,f4,f5⟩:=qE;have h1:=qab;have zz:=qbJ;clear b1;go_wp2_with fail;refine .mono qrX ?_;rintro e w2 ⟨rfl,rfl⟩;go_wp2_with fail
 exact bodyPost_ret (v:=.tuple #[.agg #[.int .i64 3,.int .i64 0,.int .i64 0,.int .i64 0,.string ⟨#[]⟩,.int .i64 (p:Int)],.int .i64 (n:Int)]) qou rfl ⟨qnS,by
  repeat' (first|(with_reducible exact h1)|(with_reducible refine Below.alloc ?_ ?_ _)|(with_reducible refine Below.setCell ?_ ?_ _))
  all_goals (first|(simp;done)|(simpa using h1.size))⟩):p:=h
def qiJ(h:p:=by
 go_wp2_with fail;refine .mono qrR ?_;rintro e w1 ⟨rfl,b1⟩;obtain ⟨k0,k1,k2,k3,k4,k5,f0,f1,f2,f3,f4,f5⟩:=qE;have h1:=qab;have zz:=qbJ;clear b1;go_wp2_with fail;refine .mono qrX ?_;rintro e w2 ⟨rfl,rfl⟩;go_wp2_with fail
 exact bodyPost_ret (v:=.tuple #[.agg #[.int .i64 0,.int .i64 0,.int .i64 0,.int .i64 0,.string ⟨#[]⟩,.int .i64 0],.int .i64 0]) qou rfl ⟨qnS,by
  repeat' (first|(with_reducible exact h1)|(with_reducible refine Below.alloc ?_ ?_ _)|(with_reducible refine Below.setCell ?_ ?_ _))
  all_goals (first|(simp;done)|(simpa using h1.size))⟩):p:=h
def qiK(h:p:=by
 go_wp2_with fail;refine .mono qrR ?_;rintro e w1 ⟨rfl,b1⟩;obtain ⟨k0,k1,k2,k3,k4,k5,f0,f1,f2,f3,f4,f5⟩:=qE;have h1:=qab;have zz:=qbJ;clear b1;go_wp2_with fail;refine .mono qrX ?_;rintro e w2 ⟨rfl,rfl⟩;go_wp2_with fail
 exact bodyPost_ret (v:=.tuple #[.agg #[.int .i64 2,.int .i64 0,.int .i64 PC,.int .i64 PR,.string ⟨#[]⟩,.int .i64 (p:Int)],.int .i64 (n:Int)]) qou rfl ⟨qnS,by
  repeat' (first|(with_reducible exact h1)|(with_reducible refine Below.alloc ?_ ?_ _)|(with_reducible refine Below.setCell ?_ ?_ _))
  all_goals (first|(simp;done)|(simpa using h1.size))⟩):p:=h
def qiL(h:p:=by
 go_wp2_with fail;refine .mono qrR ?_;rintro e w1 ⟨rfl,b1⟩;obtain ⟨k0,k1,k2,k3,k4,k5,f0,f1,f2,f3,f4,f5⟩:=qE;have h1:=qab;have zz:=qbJ;clear b1;go_wp2_with fail;refine .mono qrX ?_;rintro e w2 ⟨rfl,rfl⟩;go_wp2_with fail
 exact bodyPost_ret (v:=.tuple #[.agg #[.int .i64 4,.int .i64 0,.int .i64 0,.int .i64 0,.string (s.extract p (p+n)),.int .i64 (p:Int)],.int .i64 (n:Int)]) qou rfl ⟨qnS,by
  repeat' (first|(with_reducible exact h1)|(with_reducible refine Below.alloc ?_ ?_ _)|(with_reducible refine Below.setCell ?_ ?_ _))
  all_goals (first|(simp;done)|(simpa using h1.size))⟩):p:=h
def qiM(h:p:=by
 go_wp2_with fail;go_ret;exact ⟨rfl,rfl⟩):p:=h
def qiN(h:p:=by
 go_wp2_with fail;refine .mono qrx ?_;rintro e w1 ⟨rfl,b1⟩;obtain ⟨j0,j1,j2,j3⟩:=qci;go_wp2_with fail;refine (HT.out _).mono ?_;rintro e w2 ⟨rfl,b2⟩;obtain ⟨k0,k1,k2,k3⟩:=qgW;have h1:=qab;have h2:=qcW;clear j0 j1 j2 j3 b1 b2;by_cases hac:a<=c
 ·have d1:decide (a<=c)=true:=decide_eq_true hac
  rw [d1,Bool.true_and] at e1;clear hac;go_wp2_with fail;go_ret;exact ⟨aK e1.out.symm,h2⟩
 ·have d1:decide (a<=c)=false:=decide_eq_false hac
  rw [d1,Bool.false_and] at e1;clear hac;go_wp2_with fail;go_ret;exact ⟨aK e1.out.symm,h2⟩):p:=h
def qiO(h:p:=by
 have d2:=qf d1;go_enter Tryz.func281,Tryz.ntmps281;go_wp2_with fail;go_ret;exact ⟨aK (by rw [d2.out]),qb⟩):p:=h
def qiQ(h:p:=by
 obtain ⟨k20,k21,k22,k23,k24,k25,f20,f21,f22,f23,f24,f25,h2,z2⟩:=qag;clear b2 k10 f10 k11 f11 k12 f12 k13 f13 k14 f14 k15 f15 h1 z1;go_wp2_with fail
 exact bodyPost_ret (v:=.tuple #[.agg #[.int .i64 0,.int .i64 0,.int .i64 0,.int .i64 0,.string ⟨#[]⟩,.int .i64 0],.int .i64 0]) qnZ rfl ⟨qnS,by
  repeat' (first|(with_reducible exact h2)|(with_reducible refine Below.alloc ?_ ?_ _)|(with_reducible refine Below.setCell ?_ ?_ _))
  all_goals (first|(simp;done)|(simpa using h2.size))⟩):p:=h
def qiS(h:p:=by
 go_wp2_with fail;refine .mono qrx ?_;rintro e w1 ⟨rfl,b1⟩;obtain ⟨k2,k3⟩:=qei;go_wp2_with fail;refine (HT.out _).mono ?_;rintro e w2 ⟨rfl,b2⟩;have h1:=qab;have h2:=qcW;clear k2 k3 b1 b2;go_wp2_with fail;go_ret;exact ⟨aK e1.out.symm,h2⟩):p:=h
def qiY(h:p:=by
 go_wp2_with fail;go_ret;exact ⟨aK e1.out.symm,rfl⟩):p:=h
def qiZ(h:p:=by
 go_enter Tryz.func272,Tryz.ntmps272;go_wp2_with fail;go_ret;exact ⟨aK e1.out.symm,qb⟩):p:=h
def qja(h:p:=by
 have HO:=qdr;clear hO hr hl;go_enter Tryz.func135,Tryz.ntmps135;go_wp2_with fail;refine .mono qrC ?_;rintro e w1 ⟨rfl,rfl⟩;go_wp2_with fail;exact bodyPost_ret (v:=.tuple #[.agg #[.int .i64 3,.int .i64 0,.int .i64 0,.int .i64 0,.string ⟨#[]⟩,.int .i64 (p:Int)],.int .i64 4]) qnR rfl ⟨qnS,qa⟩):p:=h
def qjc(h:p:=by
 go_wp2_with fail;go_roundw
 case rel=>exact ⟨i+1,qoq,qnG,qf fun j u hj hu=>by
  by_cases hji:j<i
  ·exact HN.out j u hji hu
  ·obtain rfl:j=i:=by omega
   rw [HM.out] at hu;obtain rfl:=Option.some.inj hu;exact HH.out,hb1⟩
 case measure=>simp [RowKit.intOf];omega):p:=h
def qjf(h:p:=by
 go_ret2;exact ⟨rfl,rfl⟩):p:=h
def qjl(h:p:=by
 clear hm6;go_enter Tryz.func63,Tryz.ntmps63;go_wp2_with fail;refine .mono qrQ ?_;rintro e w1 ⟨rfl,b1⟩;have k0:=qgq;have h1:=qab;clear b1;go_wp2_with fail;go_ret;exact ⟨qqn,h1⟩):p:=h
def qjm(h:p:=by
 clear HTE HTB HKB;go_wp2_with fail;go_ret;exact ⟨by rw [HF.out];rfl,hb1⟩):p:=h
def qjo(h:p:=by
 go_wp2_with fail;go_ret2;exact ⟨gS ⟨HP.out.1.symm,HP.out.2.symm⟩,rfl⟩):p:=h
def qjq(h:p:=by
 refine hK _ _ ?_;clear hK K;refine wpAnyIn_ready (rs:=[0,4]) qnx qns ?_;refine AllReadyIn.cons rfl (fun K hK=>?_) (AllReadyIn.cons rfl (fun K hK=>?_) (AllReadyIn.nil))
 ·go_simp
  exact qii
 ·go_simp
  refine ⟨trivial,?_⟩;refine .mono qsr ?_;rintro e w3 ⟨found,M',O,c,rfl,_,hI,hf,hM3,hr3,hbt⟩;obtain ⟨k0,k1,hk2⟩:=HFin.out w3 found M' O hI hf hM3 hr3 hbt;obtain ⟨A5,n5,c5,w5,hrun,k2,k3,⟨k4,k5⟩,hsv,hcy⟩:=hk2 c;obtain ⟨HSv,HCy⟩:=qcU;clear hI hf hM3 hr3 hbt hk2 hsv hcy;refine hK _ _ ?_;clear hK K;refine wpAnyIn_ready (rs:=[0]) qnx qns ?_;refine AllReadyIn.cons rfl (fun K hK=>?_) (AllReadyIn.nil)
  ·go_simp
   exact qik):p:=h
def qjs(h:p:=by
 refine hK _ _ ?_;clear hK K;refine wpAnyIn_ready (rs:=[3]) qnx qns ?_;refine AllReadyIn.cons rfl (fun K hK=>?_) (AllReadyIn.nil)
 ·go_simp
  exact qii):p:=h
def qjt(h:p:=by
 go_enter Tryz.func234,Tryz.ntmps234;exact qir):p:=h
def qju(h:p:=by
 refine AllReadyIn.cons rfl (fun K hK=>?_) (AllReadyIn.nil)
 ·go_simp
  exact qii):p:=h
def qjC(h:p:=by
 go_wp2_with fail;go_ret;exact ⟨fp e1.out.symm,qa.trans (b1.mono qns)⟩):p:=h
def qjF(h:p:=by
 go_enter Tryz.func52,Tryz.ntmps52;go_wp2_with fail
 exact bodyPost_ret (v:=.tuple #[.agg #[.int .i64 0,.int .i64 0],.bool false]) qqY rfl
  ⟨qoB,qa⟩):p:=h
def qjG(h:p:=by
 obtain ⟨HS',t32⟩:=qdV;clear hS hc g0 hk';go_wp2_with fail;go_roundw
 case rel=>exact ⟨p+1,k',acc,qoq,qnG,qoq,HS',HO.out,hb⟩
 case measure=>simp [RowKit.intOf];omega):p:=h
def qjH(h:p:=by
 go_enter Tryz.func49,Tryz.ntmps49;go_wp2_with fail
 exact bodyPost_ret (v:=.tuple #[.agg #[.int .i64 0,.int .i64 0],.bool false]) qqZ rfl
  ⟨qoB,qa⟩):p:=h
def qjR(h:p:=by
 clear ho4 hg4 hat4 hl4 b0 HO2 HB2;go_wp2_with fail;go_roundw
 case rel=>exact ⟨i+1,qoq,qnG,(by rw [HZ1.out];exact HO4),HB4⟩
 case measure=>simp [RowKit.intOf];omega):p:=h
def qjV(h:p:=by
 go_enter Tryz.func248,Tryz.ntmps248;go_wp2_with fail;go_ret;exact ⟨by rw [HE.out];rfl,qa⟩):p:=h
def qki(h:p:=by
 go_enter Tryz.func148,Tryz.ntmps148;go_wp2_with fail;go_ret;exact ⟨rfl,0,rfl⟩):p:=h
def qkj(h:p:=by
 go_enter Tryz.func237,Tryz.ntmps237;exact qiY):p:=h
def qkr(h:p:=by
 subst hii;rw [List.take_length] at*;have hw:=qfZ;go_wp2_with fail;go_ret;exact ⟨fp (by have:=HE.out;omega),hbel⟩):p:=h
def qku(h:p:=by
 go_wp2_with fail;refine .mono qrC ?_;rintro e w1 ⟨rfl,rfl⟩;go_wp2_with fail;go_ret;exact ⟨qqn,qa⟩):p:=h
def qky(h:p:=by
 refine hK _ _ ?_;clear hK K;refine wpAnyIn_ready (rs:=[1,3]) qnx qns ?_;refine AllReadyIn.cons rfl (fun K hK=>?_) (AllReadyIn.cons rfl (fun K hK=>?_) (AllReadyIn.nil))
 ·go_simp
  exact qjs
 ·go_simp
  refine hK _ _ ?_;clear hK K;refine wpAnyIn_ready (rs:=[1]) qnx qns ?_;exact qju):p:=h
def qkz(h:p:=by
 refine hK _ _ ?_;clear hK K;refine wpAnyIn_ready (rs:=[0,3]) qnx qns ?_;refine AllReadyIn.cons rfl (fun K hK=>?_) (AllReadyIn.cons rfl (fun K hK=>?_) (AllReadyIn.nil))
 ·go_simp
  exact qjs
 ·go_simp
  exact qjq):p:=h
def qkD(h:p:=by
 refine hK _ _ ?_;clear hK K;refine wpAnyIn_ready (rs:=[2]) qnx qns ?_;refine AllReadyIn.cons rfl (fun K hK=>?_) (AllReadyIn.nil)
 ·go_simp
  exact qjs):p:=h
def qkG(h:p:=by
 go_wp2_with fail;go_roundw
 case rel=>exact ⟨i+1,qoq,qnG,hown4,hb4⟩
 case measure=>simp [RowKit.intOf];omega):p:=h
def qkH(h:p:=by
 have HN:=qf hN;clear hN;go_wp2_with fail;go_ret2;exact ⟨fT (by unfold AW;rw [HN.out]) (by rw [HN.out];rfl),rfl⟩):p:=h
def qkI(h:p:=by
 go_wp2_with fail;go_ret;exact ⟨aK e1.out.symm,qa⟩):p:=h
def qkJ(h:p:=by
 go_wp2_with fail;go_roundw
 case rel=>exact ⟨k+1,qoq,qnG,HA2,HBt2⟩
 case measure=>simp [vIn];omega):p:=h
def qkP(h:p:=by
 go_wp2_with fail;exact bodyPost_ret (v:=.tuple #[dx,.bool false]) (by simp [results,Tryz.results12,go_sem,dx]) rfl ⟨qa,rfl⟩):p:=h
def qkQ(h:p:=by
 go_roundw
 case rel=>exact ⟨i+1,qoq,qnG,HO4.out,hb4⟩
 case measure=>simp [nP,RowKit.intOf];omega):p:=h
def qkR(h:p:=by
 go_enter Tryz.func329,Tryz.ntmps329;go_wp2_with fail;go_ret;exact ⟨qnT,(by first|exact qb|exact qa)⟩):p:=h
def qkS(h:p:=by
 go_wp2_with fail;go_roundw
 case rel=>exact ⟨pos+1,qoq,rfl,HS⟩
 case measure=>simp;omega):p:=h
def qla(h:p:=by
 subst hii;go_wp2_with fail;go_ret;exact ⟨_,rfl,(by have:=HO.out;rwa [List.take_length] at this),hbel⟩):p:=h
def qlh(h:p:=by
 go_wp2_with fail;go_ret2;exact HF.out):p:=h
def qlm(h:p:=by
 go_wp2_with fail;refine .mono qrA ?_;rintro e w1 ⟨rfl,b1⟩;obtain ⟨k0,k1⟩:=qep;exact qjC):p:=h
def qln(h:p:=by
 go_wp2_with fail;go_roundw
 case rel=>exact HR.out
 case measure=>simp [RowKit.intOf];omega):p:=h
def qlH(h:p:=by
 go_wp2_with fail;go_ret;exact ⟨rfl,qb⟩):p:=h
def qlN(h:p:=by
 go_wp2_with fail;refine .mono qrA ?_;rintro e w1 ⟨rfl,b1⟩;exact qjC):p:=h
def qmd(h:p:=by
 go_simp
 try with_reducible rfl):p:=h
def qmf(h:p:=by
 clear ho HO HB;go_wp2_with fail;go_ret;exact HF.out _ HO0.out):p:=h
def qmk(h:p:=by
 go_wp2_with fail;simp only [Exit.jump];go_ret;exact HF.out):p:=h
def qmn(h:p:=by
 go_wp2_with fail;go_ret;exact ⟨qoN,h2⟩):p:=h
def qmv(h:p:=by
 go_wp2_with fail;go_ret;exact ⟨aK e1.out.symm,h1⟩):p:=h
def qnx(h:p:=by kernel_rfl):p:=h
def qnG(h:p:=by go_num):p:=h
def qoU(h:p:=by unfold Func.isWrapper;first|(rw [if_pos (by decide+kernel)];kernel_rfl)|(rw [if_neg (by decide+kernel)];exact ⟨rfl,rfl⟩)):p:=h
end Go.Proofs.YteglaomdgdkibaaGreatDoor
