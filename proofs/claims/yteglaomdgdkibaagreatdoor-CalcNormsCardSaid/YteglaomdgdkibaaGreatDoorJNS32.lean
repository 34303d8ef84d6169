import Derived.Test.YteglaomdgdkibaaGreatDoorJNS20
import Derived.Test.YteglaomdgdkibaaGreatDoorJNS21
import Derived.Test.YteglaomdgdkibaaGreatDoorJQNSP
import Derived.Test.YteglaomdgdkibaaGreatDoorJQNSW
import Derived.Test.YteglaomdgdkibaaGreatDoorJQYNSP
set_option linter.all false
set_option maxHeartbeats 0
set_option maxRecDepth 99999
namespace Go.Proofs.YteglaomdgdkibaaGreatDoor
open Go.RowKit
open Value renaming int→ZZ,string→Zx,slice→Zw,pointer→Zv,agg→Zu
open IntKind renaming i64→ZY
open RowKit renaming Below→Z2
open Go renaming World→Z3
open Tryz
open Tryz renaming prog→ZW
open Option renaming some→ZV,none→ZU
open Bool renaming false→Zz
variable {l:List Cel}{W w1:World}{ob:Obj}
section
open Go.Maps
def ClC (l:List Cel) (t:Tr) (f:FuncId):Prop:=∀(w:Z3) (P:Nat->Prop) (A:Option Addr) (cap b Bc Bk:Nat),KV w P t A->cU w b l->w.cell? ⟨Bc,0,ZU⟩=ZV (.map (ZV b))->w.cell? ⟨Bk,0,ZU⟩=ZV (Zw A t.kZ.length cap)->
 Calls ZW f #[Zv (ZV ⟨Bc,0,ZU⟩),Zv (ZV ⟨Bk,0,ZU⟩)] w fun e w'=>e=.returned (Zu #[ZZ ZY (cmT l t).1,ZZ ZY (cmT l t).2])/\Z2 w.heap.size w w'
theorem ON (t:Tr) (ge:GE t) (hc:ChC l t 257):ClC l t 256:=by
 intro w P A cap b Bc Bk hk hm c0 c1;obtain ⟨zc,zk,hlt,hb0⟩:=qaH;obtain ⟨⟨kr0,kr1,kf0,kf1⟩,kz0,kb⟩:=eN hb0;have HC:=qhC;generalize cmT l t=X at*;clear hk hm kr0 kr1 kf0 kf1;go_enter func256,ntmps256;go_wp2_with fail;refine Calls.mono HC.out ?_;rintro e w1 ⟨rfl,b1⟩;have hb1:=qbs;obtain ⟨⟨mr0,mr1,mf0,mf1⟩,mz0,mb⟩:=eN hb1;clear b1 hb1 kb kz0 c0 c1;go_wp2_with fail;exact bodyPost_ret (v:=Zu #[ZZ ZY X.1,ZZ ZY X.2]) (by simp [results,results256,go_sem,mr0,mr1,mz0,mf0,mf1]) rfl ⟨rfl,qnn⟩
theorem JC (t:Tr) (ge:GE t) (hc:ChC l t 266):ClC l t 265:=by
 intro w P A cap b Bc Bk hk hm c0 c1;obtain ⟨zc,zk,hlt,hb0⟩:=qaH;obtain ⟨⟨kr0,kr1,kf0,kf1⟩,kz0,kb⟩:=eN hb0;have HC:=qhC;generalize cmT l t=X at*;clear hk hm kr0 kr1 kf0 kf1;go_enter func265,ntmps265;go_wp2_with fail;refine Calls.mono HC.out ?_;rintro e w1 ⟨rfl,b1⟩;have hb1:=qbs;obtain ⟨⟨mr0,mr1,mf0,mf1⟩,mz0,mb⟩:=eN hb1;clear b1 hb1 kb kz0 c0 c1;go_wp2_with fail;exact bodyPost_ret (v:=Zu #[ZZ ZY X.1,ZZ ZY X.2]) (by simp [results,results265,go_sem,mr0,mr1,mz0,mf0,mf1]) rfl ⟨rfl,qnn⟩
theorem Nz (t:Tr) (ge:GE t) (hcb:∀q∈l,B64 q.n) (h5:t.kY=5) (hwd:t.wZ=[83,85,77]) (hi:Ao l t):ClC l t 258:=by
 intro w P A cap b Bc Bk hk hm c0 c1;obtain ⟨zc,zk,hlt,hb0⟩:=qaH;obtain ⟨⟨kr0,kr1,kf0,kf1⟩,kz0,kb⟩:=eN hb0;have HI:=qeI;have HE:=qho;have hLb:=qf (ge.itB hcb);have hLl:=qf (ge.itLen l);clear h5 hwd hi hcb ge;generalize itL l t.kZ=L at*;clear hk hm kr0 kr1 kf0 kf1;go_enter func258,ntmps258;go_wp2_with fail;refine Calls.mono HI.out ?_;rintro e w1 ⟨v,rfl,hown,b1⟩;obtain ⟨A2,cap2,rfl,hL⟩:=hown.shape;have hb1:=qbs;have HS:=qf (Hd L hLl.out hLb.out A2 cap2 w1 hL);have hll:=hLl.out;unfold maxLen at hll;clear hown hL b1 kb kz0 HI c0 c1;go_wp2_with fail;refine Calls.mono HS.out ?_;rintro e w2 ⟨rfl,b2⟩;have hb2:=qbL;obtain ⟨⟨nr0,nr1,nf0,nf1⟩,nz0,nb⟩:=eN hb2;clear b2 hb1 hb2;go_wp2_with fail;exact bodyPost_ret (v:=Zu #[ZZ ZY (bm de (0,0) L).1,ZZ ZY (bm de (0,0) L).2]) (by simp [results,results258,go_sem,nr0,nr1,nz0,nf0,nf1]) rfl ⟨qnI,qnn⟩
theorem M8 (t:Tr) (ge:GE t) (hcb:∀q∈l,B64 q.n) (h5:t.kY=5) (hwd:t.wZ=[77,73,78]) (hi:Ao l t):ClC l t 261:=by
 intro w P A cap b Bc Bk hk hm c0 c1;obtain ⟨zc,zk,hlt,hb0⟩:=qaH;obtain ⟨⟨kr0,kr1,kf0,kf1⟩,kz0,kb⟩:=eN hb0;have HI:=qeI;have HE:=qhS;have hLb:=qf (ge.itB hcb);have hLl:=qf (ge.itLen l);clear h5 hwd hi hcb ge;generalize itL l t.kZ=L at*;clear hk hm kr0 kr1 kf0 kf1;go_enter func261,ntmps261;go_wp2_with fail;refine Calls.mono HI.out ?_;rintro e w1 ⟨v,rfl,hown,b1⟩;obtain ⟨A2,cap2,rfl,hL⟩:=hown.shape;have hb1:=qbs;have HS:=qf (CN L hLl.out hLb.out A2 cap2 w1 hL);have hll:=hLl.out;unfold maxLen at hll;clear hown hL b1 kb kz0 HI c0 c1;go_wp2_with fail;refine Calls.mono HS.out ?_;rintro e w2 ⟨rfl,b2⟩;have hb2:=qbL;obtain ⟨⟨nr0,nr1,nf0,nf1⟩,nz0,nb⟩:=eN hb2;clear b2 hb1 hb2;go_wp2_with fail;exact bodyPost_ret (v:=Zu #[ZZ ZY (bv cN L).1,ZZ ZY (bv cN L).2]) (by simp [results,results261,go_sem,nr0,nr1,nz0,nf0,nf1]) rfl ⟨qnI,qnn⟩
theorem N7 (t:Tr) (ge:GE t) (hcb:∀q∈l,B64 q.n) (h5:t.kY=5) (hwd:t.wZ=[77,65,88]) (hi:Ao l t):ClC l t 263:=by
 intro w P A cap b Bc Bk hk hm c0 c1;obtain ⟨zc,zk,hlt,hb0⟩:=qaH;obtain ⟨⟨kr0,kr1,kf0,kf1⟩,kz0,kb⟩:=eN hb0;have HI:=qeI;have HE:=qhT;have hLb:=qf (ge.itB hcb);have hLl:=qf (ge.itLen l);clear h5 hwd hi hcb ge;generalize itL l t.kZ=L at*;clear hk hm kr0 kr1 kf0 kf1;go_enter func263,ntmps263;go_wp2_with fail;refine Calls.mono HI.out ?_;rintro e w1 ⟨v,rfl,hown,b1⟩;obtain ⟨A2,cap2,rfl,hL⟩:=hown.shape;have hb1:=qbs;have HS:=qf (um L hLl.out hLb.out A2 cap2 w1 hL);have hll:=hLl.out;unfold maxLen at hll;clear hown hL b1 kb kz0 HI c0 c1;go_wp2_with fail;refine Calls.mono HS.out ?_;rintro e w2 ⟨rfl,b2⟩;have hb2:=qbL;obtain ⟨⟨nr0,nr1,nf0,nf1⟩,nz0,nb⟩:=eN hb2;clear b2 hb1 hb2;go_wp2_with fail;exact bodyPost_ret (v:=Zu #[ZZ ZY (bv cM L).1,ZZ ZY (bv cM L).2]) (by simp [results,results263,go_sem,nr0,nr1,nz0,nf0,nf1]) rfl ⟨qnI,qnn⟩

noncomputable def jw (cp:Array Value) (v:Value):Option (DataW Unit×List MemPlace):=by
 classical
 exact match v with
 |.func (.func n) a b=>if a=#[]/\b=cp then ZV (.lit (.int .i64 n),[]) else ZU
 |.nilFunc=>ZV (.nil,[])
 |_=>ZU
theorem aW (cp:Array Value) (n:Nat):jw cp (.func (.func n) #[] cp)=ZV (.lit (.int .i64 (n:Int)),[]):=by
 unfold jw;simp
theorem fI {cp:Array Value} {v:Value} {n:Nat} {ps:List MemPlace} (h:jw cp v=ZV (.lit (.int .i64 (n:Int)),ps)):v=.func (.func n) #[] cp:=by
 unfold jw at h;split at h
 ·split at h
  ·rename_i m a b hs
   have h1:=congrArg Prod.fst (Option.some.inj h);injection h1 with h2
   injection h2 with h3 h4
   have hm:m=n:=Int.ofNat_inj.1 h4;subst hm;rw [hs.1,hs.2]
  ·cases h
 ·simp at h
 ·cases h
theorem j5 (w:Z3):(zeroValue 293).run ZW w=.ok .nilFunc w:=by kernel_rfl
def kV (l:List Cel) (t:Tr):Prop:=∀(w:Z3) (P:Nat->Prop) (A:Option Addr) (cap b:Nat),KV w P t A->cU w b l->
 Calls ZW 214 #[.map (ZV b),Zx ⟨t.wZ.toArray⟩,Zw A t.kZ.length cap] w fun e w'=>e=.returned (Zu #[ZZ ZY (cmT l t).1,ZZ ZY (cmT l t).2])/\Z2 w.heap.size w w'
theorem Jk (t:Tr) (hlen:t.kZ.length<=1000000) (hwd:t.wZ=[73,70]) (hc:ClC l t 256):kV l t:=by
 intro w P A cap b hk hm;rw [hwd];obtain ⟨HC,HK,HM,hmm,hmf,hk0,hk1,hk2,hk3,hk4⟩:=qn;obtain ⟨W3,hW3⟩:∃W3,W3=((w.alloc (.cells #[.map (ZV b)] 217)).alloc (.cells #[Zw A t.kZ.length cap] 31)).alloc (.cells #[ZZ ZY 0,ZZ ZY 0] 61):=⟨_,rfl⟩
 obtain ⟨hs3,hown0,hb0⟩:=qak;subst hW3;obtain ⟨w1,hr1,hown1,hg1⟩:=hown0.update aY underlying297 qnA hk0 (aW #[Zv (ZV ⟨w.heap.size,0,ZU⟩),Zv (ZV ⟨w.heap.size+1,0,ZU⟩)] 256);have hb1:=qco;obtain ⟨w2,hr2,hown2,hg2⟩:=hown1.update aY underlying297 qnA hk1 (aW #[Zv (ZV ⟨w.heap.size,0,ZU⟩),Zv (ZV ⟨w.heap.size+1,0,ZU⟩)] 258);have hb2:=qcp;obtain ⟨w3,hr3,hown3,hg3⟩:=hown2.update aY underlying297 qnA hk2 (aW #[Zv (ZV ⟨w.heap.size,0,ZU⟩),Zv (ZV ⟨w.heap.size+1,0,ZU⟩)] 261);have hb3:=qcq;obtain ⟨w4,hr4,hown4,hg4⟩:=hown3.update aY underlying297 qnA hk3 (aW #[Zv (ZV ⟨w.heap.size,0,ZU⟩),Zv (ZV ⟨w.heap.size+1,0,ZU⟩)] 263);have hb4:=qcr;obtain ⟨w5,hr5,hown5,hg5⟩:=hown4.update aY underlying297 qnA hk4 (aW #[Zv (ZV ⟨w.heap.size,0,ZU⟩),Zv (ZV ⟨w.heap.size+1,0,ZU⟩)] 265);have hb5:=qcs;obtain ⟨cv,cps,hr6,hcv⟩:=hown5.lookup aY underlying297 (j5 w5) (zd:=.nil) (zp:=[]) qpz hk0;have hcv2:=fI (n:=256) (ps:=cps) hcv;exact qiq
theorem Fk (t:Tr) (hlen:t.kZ.length<=1000000) (hwd:t.wZ=[83,85,77]) (hc:ClC l t 258):kV l t:=by
 intro w P A cap b hk hm;rw [hwd];obtain ⟨HC,HK,HM,hmm,hmf,hk0,hk1,hk2,hk3,hk4⟩:=qn;obtain ⟨W3,hW3⟩:∃W3,W3=((w.alloc (.cells #[.map (ZV b)] 217)).alloc (.cells #[Zw A t.kZ.length cap] 31)).alloc (.cells #[ZZ ZY 0,ZZ ZY 0] 61):=⟨_,rfl⟩
 obtain ⟨hs3,hown0,hb0⟩:=qak;subst hW3;obtain ⟨w1,hr1,hown1,hg1⟩:=hown0.update aY underlying297 qnA hk0 (aW #[Zv (ZV ⟨w.heap.size,0,ZU⟩),Zv (ZV ⟨w.heap.size+1,0,ZU⟩)] 256);have hb1:=qco;obtain ⟨w2,hr2,hown2,hg2⟩:=hown1.update aY underlying297 qnA hk1 (aW #[Zv (ZV ⟨w.heap.size,0,ZU⟩),Zv (ZV ⟨w.heap.size+1,0,ZU⟩)] 258);have hb2:=qcp;obtain ⟨w3,hr3,hown3,hg3⟩:=hown2.update aY underlying297 qnA hk2 (aW #[Zv (ZV ⟨w.heap.size,0,ZU⟩),Zv (ZV ⟨w.heap.size+1,0,ZU⟩)] 261);have hb3:=qcq;obtain ⟨w4,hr4,hown4,hg4⟩:=hown3.update aY underlying297 qnA hk3 (aW #[Zv (ZV ⟨w.heap.size,0,ZU⟩),Zv (ZV ⟨w.heap.size+1,0,ZU⟩)] 263);have hb4:=qcr;obtain ⟨w5,hr5,hown5,hg5⟩:=hown4.update aY underlying297 qnA hk4 (aW #[Zv (ZV ⟨w.heap.size,0,ZU⟩),Zv (ZV ⟨w.heap.size+1,0,ZU⟩)] 265);have hb5:=qcs;obtain ⟨cv,cps,hr6,hcv⟩:=hown5.lookup aY underlying297 (j5 w5) (zd:=.nil) (zp:=[]) qpz hk1;have hcv2:=fI (n:=258) (ps:=cps) hcv;exact qiq
theorem EX (t:Tr) (hlen:t.kZ.length<=1000000) (hwd:t.wZ=[77,73,78]) (hc:ClC l t 261):kV l t:=by
 intro w P A cap b hk hm;rw [hwd];obtain ⟨HC,HK,HM,hmm,hmf,hk0,hk1,hk2,hk3,hk4⟩:=qn;obtain ⟨W3,hW3⟩:∃W3,W3=((w.alloc (.cells #[.map (ZV b)] 217)).alloc (.cells #[Zw A t.kZ.length cap] 31)).alloc (.cells #[ZZ ZY 0,ZZ ZY 0] 61):=⟨_,rfl⟩
 obtain ⟨hs3,hown0,hb0⟩:=qak;subst hW3;obtain ⟨w1,hr1,hown1,hg1⟩:=hown0.update aY underlying297 qnA hk0 (aW #[Zv (ZV ⟨w.heap.size,0,ZU⟩),Zv (ZV ⟨w.heap.size+1,0,ZU⟩)] 256);have hb1:=qco;obtain ⟨w2,hr2,hown2,hg2⟩:=hown1.update aY underlying297 qnA hk1 (aW #[Zv (ZV ⟨w.heap.size,0,ZU⟩),Zv (ZV ⟨w.heap.size+1,0,ZU⟩)] 258);have hb2:=qcp;obtain ⟨w3,hr3,hown3,hg3⟩:=hown2.update aY underlying297 qnA hk2 (aW #[Zv (ZV ⟨w.heap.size,0,ZU⟩),Zv (ZV ⟨w.heap.size+1,0,ZU⟩)] 261);have hb3:=qcq;obtain ⟨w4,hr4,hown4,hg4⟩:=hown3.update aY underlying297 qnA hk3 (aW #[Zv (ZV ⟨w.heap.size,0,ZU⟩),Zv (ZV ⟨w.heap.size+1,0,ZU⟩)] 263);have hb4:=qcr;obtain ⟨w5,hr5,hown5,hg5⟩:=hown4.update aY underlying297 qnA hk4 (aW #[Zv (ZV ⟨w.heap.size,0,ZU⟩),Zv (ZV ⟨w.heap.size+1,0,ZU⟩)] 265);have hb5:=qcs;obtain ⟨cv,cps,hr6,hcv⟩:=hown5.lookup aY underlying297 (j5 w5) (zd:=.nil) (zp:=[]) qpz hk2;have hcv2:=fI (n:=261) (ps:=cps) hcv;exact qiq
theorem En (t:Tr) (hlen:t.kZ.length<=1000000) (hwd:t.wZ=[77,65,88]) (hc:ClC l t 263):kV l t:=by
 intro w P A cap b hk hm;rw [hwd];obtain ⟨HC,HK,HM,hmm,hmf,hk0,hk1,hk2,hk3,hk4⟩:=qn;obtain ⟨W3,hW3⟩:∃W3,W3=((w.alloc (.cells #[.map (ZV b)] 217)).alloc (.cells #[Zw A t.kZ.length cap] 31)).alloc (.cells #[ZZ ZY 0,ZZ ZY 0] 61):=⟨_,rfl⟩
 obtain ⟨hs3,hown0,hb0⟩:=qak;subst hW3;obtain ⟨w1,hr1,hown1,hg1⟩:=hown0.update aY underlying297 qnA hk0 (aW #[Zv (ZV ⟨w.heap.size,0,ZU⟩),Zv (ZV ⟨w.heap.size+1,0,ZU⟩)] 256);have hb1:=qco;obtain ⟨w2,hr2,hown2,hg2⟩:=hown1.update aY underlying297 qnA hk1 (aW #[Zv (ZV ⟨w.heap.size,0,ZU⟩),Zv (ZV ⟨w.heap.size+1,0,ZU⟩)] 258);have hb2:=qcp;obtain ⟨w3,hr3,hown3,hg3⟩:=hown2.update aY underlying297 qnA hk2 (aW #[Zv (ZV ⟨w.heap.size,0,ZU⟩),Zv (ZV ⟨w.heap.size+1,0,ZU⟩)] 261);have hb3:=qcq;obtain ⟨w4,hr4,hown4,hg4⟩:=hown3.update aY underlying297 qnA hk3 (aW #[Zv (ZV ⟨w.heap.size,0,ZU⟩),Zv (ZV ⟨w.heap.size+1,0,ZU⟩)] 263);have hb4:=qcr;obtain ⟨w5,hr5,hown5,hg5⟩:=hown4.update aY underlying297 qnA hk4 (aW #[Zv (ZV ⟨w.heap.size,0,ZU⟩),Zv (ZV ⟨w.heap.size+1,0,ZU⟩)] 265);have hb5:=qcs;obtain ⟨cv,cps,hr6,hcv⟩:=hown5.lookup aY underlying297 (j5 w5) (zd:=.nil) (zp:=[]) qpz hk3;have hcv2:=fI (n:=263) (ps:=cps) hcv;exact qiq
theorem xG (t:Tr) (hlen:t.kZ.length<=1000000) (hwd:t.wZ=[67,79,85,78,84]) (hc:ClC l t 265):kV l t:=by
 intro w P A cap b hk hm;rw [hwd];obtain ⟨HC,HK,HM,hmm,hmf,hk0,hk1,hk2,hk3,hk4⟩:=qn;obtain ⟨W3,hW3⟩:∃W3,W3=((w.alloc (.cells #[.map (ZV b)] 217)).alloc (.cells #[Zw A t.kZ.length cap] 31)).alloc (.cells #[ZZ ZY 0,ZZ ZY 0] 61):=⟨_,rfl⟩
 obtain ⟨hs3,hown0,hb0⟩:=qak;subst hW3;obtain ⟨w1,hr1,hown1,hg1⟩:=hown0.update aY underlying297 qnA hk0 (aW #[Zv (ZV ⟨w.heap.size,0,ZU⟩),Zv (ZV ⟨w.heap.size+1,0,ZU⟩)] 256);have hb1:=qco;obtain ⟨w2,hr2,hown2,hg2⟩:=hown1.update aY underlying297 qnA hk1 (aW #[Zv (ZV ⟨w.heap.size,0,ZU⟩),Zv (ZV ⟨w.heap.size+1,0,ZU⟩)] 258);have hb2:=qcp;obtain ⟨w3,hr3,hown3,hg3⟩:=hown2.update aY underlying297 qnA hk2 (aW #[Zv (ZV ⟨w.heap.size,0,ZU⟩),Zv (ZV ⟨w.heap.size+1,0,ZU⟩)] 261);have hb3:=qcq;obtain ⟨w4,hr4,hown4,hg4⟩:=hown3.update aY underlying297 qnA hk3 (aW #[Zv (ZV ⟨w.heap.size,0,ZU⟩),Zv (ZV ⟨w.heap.size+1,0,ZU⟩)] 263);have hb4:=qcr;obtain ⟨w5,hr5,hown5,hg5⟩:=hown4.update aY underlying297 qnA hk4 (aW #[Zv (ZV ⟨w.heap.size,0,ZU⟩),Zv (ZV ⟨w.heap.size+1,0,ZU⟩)] 265);have hb5:=qcs;obtain ⟨cv,cps,hr6,hcv⟩:=hown5.lookup aY underlying297 (j5 w5) (zd:=.nil) (zp:=[]) qpz hk4;have hcv2:=fI (n:=265) (ps:=cps) hcv;exact qiq
end
theorem AY (b:Z2 (W.alloc ob).drew.heap.size (W.alloc ob).drew w1):Z2 (W.alloc ob).heap.size (W.alloc ob) w1:=(qb.drew).trans b
theorem Pw (t:Tr) (hlen:t.kZ.length<=1000000) (h:t.kY=0):gj l t:=by
 intro w P A cap B hk hm;obtain ⟨HE,s0,s1⟩:=qfb;obtain ⟨s3,s4⟩:=qcb;have s5:=qcO;have hb0:=qQ;obtain ⟨⟨k0,k1,k2,k3,k4,k5,k6,k7⟩,⟨kr0,kr1,kf0,kf1⟩,kz0,kz1,kb⟩:=bD hb0;clear h k0 k1 k2 k3 k4 k5 k6 k7 kr0 kr1 kf0 kf1 kb kz0 kz1 hb0 hk hm;go_enter func156,ntmps156;go_wp2_with fail;exact bodyPost_ret (v:=Zu #[ZZ ZY t.num,ZZ ZY 0]) qpB rfl ⟨qnI,(qa.alloc qns _)⟩
theorem Ke (t:Tr) (hlen:t.kZ.length<=1000000) (n0:t.kY≠0) (n1:t.kY≠1) (n3:t.kY≠3) (n4:t.kY≠4) (n5:t.kY≠5) (h:t.kY=2\/t.kY=6):gj l t:=by
 intro w P A cap B hk hm;obtain ⟨HE,s0,s1,s3,s4,s5⟩:=qce;have hb0:=qQ;obtain ⟨⟨k0,k1,k2,k3,k4,k5,k6,k7⟩,⟨kr0,kr1,kf0,kf1⟩,kz0,kz1,kb⟩:=bD hb0;clear h n0 n1 n3 n4 n5 k0 k1 k2 k3 k4 k5 k6 k7 kr0 kr1 kf0 kf1 kb kz0 kz1 hb0 hk hm;go_enter func156,ntmps156;go_wp2_with fail;exact bodyPost_ret (v:=Zu #[ZZ ZY 0,ZZ ZY 3]) qpB rfl ⟨qnI,(qa.alloc qns _)⟩
theorem Pi (t:Tr) (hlen:t.kZ.length<=1000000) (h:t.kY=1) (hp:B64 t.c1/\B64 t.r1):gj l t:=by
 intro w P A cap B hk hm;obtain ⟨HE,s0,s1⟩:=qef;obtain ⟨s3,s4⟩:=qcb;have s5:=qcO;have hb0:=qQ;obtain ⟨⟨k0,k1,k2,k3,k4,k5,k6,k7⟩,⟨kr0,kr1,kf0,kf1⟩,kz0,kz1,kb⟩:=bD hb0;have HM:=qf (hm.below kb);have HP:=qf hp;obtain ⟨X,hX⟩:∃X,oN (cAt t.c1 t.r1 l)=X:=⟨_,rfl⟩
 obtain ⟨Y,hY⟩:∃Y,oF (cAt t.c1 t.r1 l)=Y:=⟨_,rfl⟩
 have HXY:=qf (And.intro hX hY);rw [hX,hY] at HE;clear h hp hX hY k0 k1 k2 k3 k4 k5 k6 k7 kr0 kr1 kf0 kf1 kb kz0 kz1 hb0 hk hm;go_enter func156,ntmps156;go_wp2_with (at_lookup;refine va _ rfl _ _ rfl rfl HM.out HP.out.1 HP.out.2 rfl HXY.out.1 HXY.out.2 ?_)
 exact bodyPost_ret (v:=Zu #[ZZ ZY X,ZZ ZY Y]) qpB rfl ⟨qnI,(qa.alloc qns _)⟩
theorem Px (t a:Tr) (hlen:t.kZ.length<=1000000) (h:t.kY=3) (h0:t.kZ[0]? =ZV a) (ih:gj l a) (hb:B64 (cmT l a).1):gj l t:=by
 intro w P A cap B hk hm;have HE:=qeS;obtain ⟨s0,s1⟩:=qbd;have s3:=qhd;have s4:(t.kY==4)=Zz:=qoW;have s5:=qcO;obtain ⟨g,o,rfl⟩:=hk.addr h0;have HK:=qfq;have Ha:=qf h0;have l0:0<t.kZ.length:=(List.getElem?_eq_some_iff.1 h0).1;have HN:=qf (fun w=>Hs (cmT l a).1 (cmT l a).2 hb w);have hb0:=qM;obtain ⟨⟨k0,k1,k2,k3,k4,k5,k6,k7⟩,⟨kr0,kr1,kf0,kf1⟩,kz0,kz1,kb⟩:=bD hb0;obtain ⟨hga,Aa,ca,⟨q0,q1,q2,q3,q4,q5,q6,q7⟩,hka⟩:=HK.out.kidAt kb Ha.out;simp only [Nat.zero_mul,Nat.add_zero] at q0 q1 q2 q3 q4 q5 q6 q7;have HC0:=qf (ih _ _ Aa ca B hka (hm.below kb));clear hk hm h h0 ih hb hka hga kb kz0 kz1 k0 k1 k2 k3 k4 k5 k6 k7 kr0 kr1 kf0 kf1;generalize cQ [45] 0 0 (cmT l a).1 (cmT l a).2=X at*;generalize cd [45] 0 0 (cmT l a).1 (cmT l a).2=Y at*;go_enter func156,ntmps156;go_wp2_with fail;refine Calls.mono HC0.out ?_;rintro e w1 ⟨rfl,b1⟩;have hb1:=qbs;clear b1 q0 q1 q2 q3 q4 q5 q6 q7;go_wp2_with fail;refine Calls.mono (HN.out _) ?_;rintro e w2 ⟨rfl,b2⟩;have hb2:=qbL;obtain ⟨⟨n0,n1,n2,n3,n4,n5,n6,n7⟩,⟨nr0,nr1,nf0,nf1⟩,nz0,nz1,nb⟩:=bD hb2;clear b2 hb1 hb2 n0 n1 n2 n3 n4 n5 n6 n7 nz0;go_wp2_with fail;exact bodyPost_ret (v:=Zu #[ZZ ZY X,ZZ ZY Y]) (by simp [results,results156,go_sem,nr0,nr1,nz1,nf0,nf1]) rfl ⟨qnI,qnn⟩
theorem Pt (t:Tr) (hlen:t.kZ.length<=1000000) (h:t.kY=5) (ih:kV l t):gj l t:=by
 intro w P A cap B hk hm;obtain ⟨s0,s1⟩:=qbd;obtain ⟨s3,s4⟩:=qcb;have s5:(t.kY==5)=true:=qoW;have hb0:=qQ;obtain ⟨⟨k0,k1,k2,k3,k4,k5,k6,k7⟩,⟨kr0,kr1,kf0,kf1⟩,kz0,kz1,kb⟩:=bD hb0;have HC0:=qf (ih _ P A cap B (hk.kept (Kept.of_below kb)) (hm.below kb));clear hk hm h ih kb kz0 kz1 k0 k1 k2 k3 k4 k5 k6 k7 kr0 kr1 kf0 kf1;generalize cmT l t=X at*;go_enter func156,ntmps156;go_wp2_with fail;refine Calls.mono HC0.out ?_;rintro e w1 ⟨rfl,b1⟩;have hb1:=qbs;obtain ⟨⟨m0,m1,m2,m3,m4,m5,m6,m7⟩,⟨mr0,mr1,mf0,mf1⟩,mz0,mz1,mb⟩:=bD hb1;clear b1 hb1 m0 m1 m2 m3 m4 m5 m6 m7 mz0;go_wp2_with fail;exact bodyPost_ret (v:=Zu #[ZZ ZY X.1,ZZ ZY X.2]) (by simp [results,results156,go_sem,mr0,mr1,mz1,mf0,mf1]) rfl ⟨rfl,qnn⟩
def Fr2 (w:Z3) (b:Nat):Prop:=w.cell? ⟨b,0,ZU⟩=ZV (ZZ ZY 0)/\w.cell? ⟨b,1,ZU⟩=ZV (ZZ ZY 0)/\w.frozen? ⟨b,0,ZU⟩=Zz/\w.frozen? ⟨b,1,ZU⟩=Zz/\b<w.heap.size
theorem Fr2.below {w w':Z3} {b:Nat} (h:Fr2 w b) (hb:Z2 w.heap.size w w'):Fr2 w' b:=⟨aa hb h.1,aa hb h.2.1,ae hb h.2.2.2.2 h.2.2.1,ae hb h.2.2.2.2 h.2.2.2.1,Nat.lt_of_lt_of_le h.2.2.2.2 hb.size⟩
theorem fr2 (b:Z2 (W.alloc (.cells #[ZZ ZY 0,ZZ ZY 0] 61)).heap.size (W.alloc (.cells #[ZZ ZY 0,ZZ ZY 0] 61)) w1):Fr2 w1 W.heap.size:=⟨af b 0 rfl,af b 1 rfl,ah b 0,ah b 1,(by have:=b.size;simp at this;omega)⟩
theorem wY (b:Z2 (W.alloc ob).heap.size (W.alloc ob) w1):Z2 W.heap.size W w1:=(qb.alloc qd ob).trans (b.mono qns)
theorem Pz (t a b:Tr) (h2:t.kZ.length=2) (hwl:t.wZ.length<=maxLen) (h:t.kY=4) (h0:t.kZ[0]? =ZV a) (h1:t.kZ[1]? =ZV b) (iha:gj l a) (ihb:gj l b) (hba:B64 (cmT l a).1) (hbb:B64 (cmT l b).1):gj l t:=by
 intro w P A cap B hk hm;have HE:=qdU;obtain ⟨s0,s1⟩:=qbd;obtain ⟨s3,s4⟩:=qeu;have s5:=qcO;obtain ⟨g,o,rfl⟩:=hk.addr h0;have HK:=qfq;have Ha:=qf h0;have Hb:=qf h1;have HD:=qf (fun w=>Lr ⟨t.wZ.toArray⟩ hwl (cmT l a).1 (cmT l a).2 (cmT l b).1 (cmT l b).2 hba hbb w);rw [show (⟨t.wZ.toArray⟩:ByteArray).data.toList=t.wZ from rfl] at HD;rw [h2];have hb0:Z2 (w.heap.size+1+1) ((w.alloc (.cells #[ZZ ZY t.kY,ZZ ZY t.num,ZZ ZY t.c1,ZZ ZY t.r1,ZZ ZY t.c2,ZZ ZY t.r2,Zx ⟨t.wZ.toArray⟩,Zw (ZV ⟨g,o,ZU⟩) 2 cap] 33)).alloc (.cells #[ZZ ZY 0,ZZ ZY 0] 61)) ((w.alloc (.cells #[ZZ ZY t.kY,ZZ ZY t.num,ZZ ZY t.c1,ZZ ZY t.r1,ZZ ZY t.c2,ZZ ZY t.r2,Zx ⟨t.wZ.toArray⟩,Zw (ZV ⟨g,o,ZU⟩) 2 cap] 33)).alloc (.cells #[ZZ ZY 0,ZZ ZY 0] 61)):=qb;have HP:=qf (fun w' (hb:Z2 ((w.alloc (.cells #[ZZ ZY t.kY,ZZ ZY t.num,ZZ ZY t.c1,ZZ ZY t.r1,ZZ ZY t.c2,ZZ ZY t.r2,Zx ⟨t.wZ.toArray⟩,Zw (ZV ⟨g,o,ZU⟩) 2 cap] 33)).alloc (.cells #[ZZ ZY 0,ZZ ZY 0] 61)).heap.size ((w.alloc (.cells #[ZZ ZY t.kY,ZZ ZY t.num,ZZ ZY t.c1,ZZ ZY t.r1,ZZ ZY t.c2,ZZ ZY t.r2,Zx ⟨t.wZ.toArray⟩,Zw (ZV ⟨g,o,ZU⟩) 2 cap] 33)).alloc (.cells #[ZZ ZY 0,ZZ ZY 0] 61)) w')=>bD (w1:=w') (hb.mono qns));have kb:=(bD hb0).2.2.2.2
 obtain ⟨hga,Aa,ca,⟨q0,q1,q2,q3,q4,q5,q6,q7⟩,hka⟩:=HK.out.kidAt kb Ha.out;simp only [Nat.zero_mul,Nat.add_zero] at q0 q1 q2 q3 q4 q5 q6 q7;obtain ⟨hgb,Ab,cb,⟨p0,p1,p2,p3,p4,p5,p6,p7⟩,hkb⟩:=HK.out.kidAt kb Hb.out;simp only [Nat.one_mul,Nat.add_assoc,Nat.reduceAdd] at p0 p1 p2 p3 p4 p5 p6 p7;have HQ:=qf (And.intro (And.intro q0 (And.intro q1 (And.intro q2 (And.intro q3 (And.intro q4 (And.intro q5 (And.intro q6 q7))))))) (And.intro p0 (And.intro p1 (And.intro p2 (And.intro p3 (And.intro p4 (And.intro p5 (And.intro p6 p7))))))));have HC0:=qf (fun w1 (hb2:Z2 ((w.alloc (.cells #[ZZ ZY t.kY,ZZ ZY t.num,ZZ ZY t.c1,ZZ ZY t.r1,ZZ ZY t.c2,ZZ ZY t.r2,Zx ⟨t.wZ.toArray⟩,Zw (ZV ⟨g,o,ZU⟩) 2 cap] 33)).alloc (.cells #[ZZ ZY 0,ZZ ZY 0] 61)).heap.size ((w.alloc (.cells #[ZZ ZY t.kY,ZZ ZY t.num,ZZ ZY t.c1,ZZ ZY t.r1,ZZ ZY t.c2,ZZ ZY t.r2,Zx ⟨t.wZ.toArray⟩,Zw (ZV ⟨g,o,ZU⟩) 2 cap] 33)).alloc (.cells #[ZZ ZY 0,ZZ ZY 0] 61)) w1)=>iha w1 _ Aa ca B (hka.kept (Kept.of_below hb2)) (hm.below (kb.trans (hb2.mono qnu))))
 have HC1:=qf (fun w1 (hb2:Z2 ((w.alloc (.cells #[ZZ ZY t.kY,ZZ ZY t.num,ZZ ZY t.c1,ZZ ZY t.r1,ZZ ZY t.c2,ZZ ZY t.r2,Zx ⟨t.wZ.toArray⟩,Zw (ZV ⟨g,o,ZU⟩) 2 cap] 33)).alloc (.cells #[ZZ ZY 0,ZZ ZY 0] 61)).heap.size ((w.alloc (.cells #[ZZ ZY t.kY,ZZ ZY t.num,ZZ ZY t.c1,ZZ ZY t.r1,ZZ ZY t.c2,ZZ ZY t.r2,Zx ⟨t.wZ.toArray⟩,Zw (ZV ⟨g,o,ZU⟩) 2 cap] 33)).alloc (.cells #[ZZ ZY 0,ZZ ZY 0] 61)) w1)=>ihb w1 _ Ab cb B (hkb.kept (Kept.of_below hb2)) (hm.below (kb.trans (hb2.mono qnu))))
 have HL:Hid (∀w',Z2 ((w.alloc (.cells #[ZZ ZY t.kY,ZZ ZY t.num,ZZ ZY t.c1,ZZ ZY t.r1,ZZ ZY t.c2,ZZ ZY t.r2,Zx ⟨t.wZ.toArray⟩,Zw (ZV ⟨g,o,ZU⟩) 2 cap] 33)).alloc (.cells #[ZZ ZY 0,ZZ ZY 0] 61)).heap.size ((w.alloc (.cells #[ZZ ZY t.kY,ZZ ZY t.num,ZZ ZY t.c1,ZZ ZY t.r1,ZZ ZY t.c2,ZZ ZY t.r2,Zx ⟨t.wZ.toArray⟩,Zw (ZV ⟨g,o,ZU⟩) 2 cap] 33)).alloc (.cells #[ZZ ZY 0,ZZ ZY 0] 61)) w'->w'.cell? ⟨g,o,ZU⟩=ZV (ZZ ZY a.kY)/\w'.cell? ⟨g,o+1,ZU⟩=ZV (ZZ ZY a.num)/\w'.cell? ⟨g,o+2,ZU⟩=ZV (ZZ ZY a.c1)/\w'.cell? ⟨g,o+3,ZU⟩=ZV (ZZ ZY a.r1)/\w'.cell? ⟨g,o+4,ZU⟩=ZV (ZZ ZY a.c2)/\w'.cell? ⟨g,o+5,ZU⟩=ZV (ZZ ZY a.r2)/\w'.cell? ⟨g,o+6,ZU⟩=ZV (Zx ⟨a.wZ.toArray⟩)/\w'.cell? ⟨g,o+7,ZU⟩=ZV (Zw Aa a.kZ.length ca)/\w'.cell? ⟨g,o+8,ZU⟩=ZV (ZZ ZY b.kY)/\w'.cell? ⟨g,o+9,ZU⟩=ZV (ZZ ZY b.num)/\w'.cell? ⟨g,o+10,ZU⟩=ZV (ZZ ZY b.c1)/\w'.cell? ⟨g,o+11,ZU⟩=ZV (ZZ ZY b.r1)/\w'.cell? ⟨g,o+12,ZU⟩=ZV (ZZ ZY b.c2)/\w'.cell? ⟨g,o+13,ZU⟩=ZV (ZZ ZY b.r2)/\w'.cell? ⟨g,o+14,ZU⟩=ZV (Zx ⟨b.wZ.toArray⟩)/\w'.cell? ⟨g,o+15,ZU⟩=ZV (Zw Ab b.kZ.length cb)/\w'.cell? ⟨w.heap.size,0,ZU⟩=ZV (ZZ ZY t.kY)/\w'.cell? ⟨w.heap.size,1,ZU⟩=ZV (ZZ ZY t.num)/\w'.cell? ⟨w.heap.size,2,ZU⟩=ZV (ZZ ZY t.c1)/\w'.cell? ⟨w.heap.size,3,ZU⟩=ZV (ZZ ZY t.r1)/\w'.cell? ⟨w.heap.size,4,ZU⟩=ZV (ZZ ZY t.c2)/\w'.cell? ⟨w.heap.size,5,ZU⟩=ZV (ZZ ZY t.r2)/\w'.cell? ⟨w.heap.size,6,ZU⟩=ZV (Zx ⟨t.wZ.toArray⟩)/\w'.cell? ⟨w.heap.size,7,ZU⟩=ZV (Zw (ZV ⟨g,o,ZU⟩) 2 cap)):=qf fun w' hb=>by
  obtain ⟨⟨k0,k1,k2,k3,k4,k5,k6,k7⟩,_⟩:=HP.out w' hb;obtain ⟨⟨x0,x1,x2,x3,x4,x5,x6,x7⟩,y0,y1,y2,y3,y4,y5,y6,y7⟩:=HQ.out;exact ⟨aa hb x0,aa hb x1,aa hb x2,aa hb x3,aa hb x4,aa hb x5,aa hb x6,aa hb x7,aa hb y0,aa hb y1,aa hb y2,aa hb y3,aa hb y4,aa hb y5,aa hb y6,aa hb y7,k0,k1,k2,k3,k4,k5,k6,k7⟩
 have HR:Hid (∀w',Z2 ((w.alloc (.cells #[ZZ ZY t.kY,ZZ ZY t.num,ZZ ZY t.c1,ZZ ZY t.r1,ZZ ZY t.c2,ZZ ZY t.r2,Zx ⟨t.wZ.toArray⟩,Zw (ZV ⟨g,o,ZU⟩) 2 cap] 33)).alloc (.cells #[ZZ ZY 0,ZZ ZY 0] 61)).heap.size ((w.alloc (.cells #[ZZ ZY t.kY,ZZ ZY t.num,ZZ ZY t.c1,ZZ ZY t.r1,ZZ ZY t.c2,ZZ ZY t.r2,Zx ⟨t.wZ.toArray⟩,Zw (ZV ⟨g,o,ZU⟩) 2 cap] 33)).alloc (.cells #[ZZ ZY 0,ZZ ZY 0] 61)) w'->w'.cell? ⟨w.heap.size+1,0,ZU⟩=ZV (ZZ ZY 0)/\w'.cell? ⟨w.heap.size+1,1,ZU⟩=ZV (ZZ ZY 0)/\w'.frozen? ⟨w.heap.size+1,0,ZU⟩=Zz/\w'.frozen? ⟨w.heap.size+1,1,ZU⟩=Zz/\w.heap.size+1<w'.heap.size/\Z2 w.heap.size w w'):=qf fun w' hb=>by
  obtain ⟨_,⟨r0,r1,f0,f1⟩,_,z1,bb⟩:=HP.out w' hb;exact ⟨r0,r1,f0,f1,z1,bb⟩
 have hz2:((w.alloc (.cells #[ZZ ZY t.kY,ZZ ZY t.num,ZZ ZY t.c1,ZZ ZY t.r1,ZZ ZY t.c2,ZZ ZY t.r2,Zx ⟨t.wZ.toArray⟩,Zw (ZV ⟨g,o,ZU⟩) 2 cap] 33)).alloc (.cells #[ZZ ZY 0,ZZ ZY 0] 61)).heap.size=w.heap.size+1+1:=qns;clear hk hm h h0 h1 iha ihb hba hbb hka hkb hga hgb kb hb0 HP HQ HK Ha Hb q0 q1 q2 q3 q4 q5 q6 q7 p0 p1 p2 p3 p4 p5 p6 p7;generalize cQ t.wZ (cmT l a).1 (cmT l a).2 (cmT l b).1 (cmT l b).2=X at*;generalize cd t.wZ (cmT l a).1 (cmT l a).2 (cmT l b).1 (cmT l b).2=Y at*;generalize (vOp t.wZ (cmT l a).1 (cmT l b).1).isSome=Z at*;go_enter func156,ntmps156;go_wp2_with fail;generalize ((w.alloc (.cells #[ZZ ZY t.kY,ZZ ZY t.num,ZZ ZY t.c1,ZZ ZY t.r1,ZZ ZY t.c2,ZZ ZY t.r2,Zx ⟨t.wZ.toArray⟩,Zw (ZV ⟨g,o,ZU⟩) 2 cap] 33)).alloc (.cells #[ZZ ZY 0,ZZ ZY 0] 61))=W2 at*;have HZ:=qf hz2;clear hz2
 go_region_held3 (fun w'=>w'.cell? ⟨g,o,ZU⟩=ZV (ZZ ZY a.kY)/\w'.cell? ⟨g,o+1,ZU⟩=ZV (ZZ ZY a.num)/\w'.cell? ⟨g,o+2,ZU⟩=ZV (ZZ ZY a.c1)/\w'.cell? ⟨g,o+3,ZU⟩=ZV (ZZ ZY a.r1)/\w'.cell? ⟨g,o+4,ZU⟩=ZV (ZZ ZY a.c2)/\w'.cell? ⟨g,o+5,ZU⟩=ZV (ZZ ZY a.r2)/\w'.cell? ⟨g,o+6,ZU⟩=ZV (Zx ⟨a.wZ.toArray⟩)/\w'.cell? ⟨g,o+7,ZU⟩=ZV (Zw Aa a.kZ.length ca)/\w'.cell? ⟨g,o+8,ZU⟩=ZV (ZZ ZY b.kY)/\w'.cell? ⟨g,o+9,ZU⟩=ZV (ZZ ZY b.num)/\w'.cell? ⟨g,o+10,ZU⟩=ZV (ZZ ZY b.c1)/\w'.cell? ⟨g,o+11,ZU⟩=ZV (ZZ ZY b.r1)/\w'.cell? ⟨g,o+12,ZU⟩=ZV (ZZ ZY b.c2)/\w'.cell? ⟨g,o+13,ZU⟩=ZV (ZZ ZY b.r2)/\w'.cell? ⟨g,o+14,ZU⟩=ZV (Zx ⟨b.wZ.toArray⟩)/\w'.cell? ⟨g,o+15,ZU⟩=ZV (Zw Ab b.kZ.length cb)/\w'.cell? ⟨w.heap.size,0,ZU⟩=ZV (ZZ ZY t.kY)/\w'.cell? ⟨w.heap.size,1,ZU⟩=ZV (ZZ ZY t.num)/\w'.cell? ⟨w.heap.size,2,ZU⟩=ZV (ZZ ZY t.c1)/\w'.cell? ⟨w.heap.size,3,ZU⟩=ZV (ZZ ZY t.r1)/\w'.cell? ⟨w.heap.size,4,ZU⟩=ZV (ZZ ZY t.c2)/\w'.cell? ⟨w.heap.size,5,ZU⟩=ZV (ZZ ZY t.r2)/\w'.cell? ⟨w.heap.size,6,ZU⟩=ZV (Zx ⟨t.wZ.toArray⟩)/\w'.cell? ⟨w.heap.size,7,ZU⟩=ZV (Zw (ZV ⟨g,o,ZU⟩) 2 cap))
  (with_reducible exact HL.out _ qsL)
  (first
  |(have hB:=B2;clear hB;go_at_call 213
    refine Calls.mono (HD.out _) ?_;rintro e w3 ⟨rfl,b3⟩;have B3:Z2 W2.heap.size W2 w3:=lF qsL b3;try (have y3:=y2.below b3)
    try (have y3:=y2.below (wY b3))
    try (have y3:=fr2 (W:=w2) b3)
    try (obtain ⟨y30,y31,y3f,y3g,y3z⟩:=y3)
    clear b3)
  |(have hB:=B1;clear hB;go_at_call 156
    refine Calls.mono (HC1.out _ qsL) ?_;rintro e w2 ⟨rfl,b2⟩;have B2:Z2 W2.heap.size W2 w2:=lF qsL b2;try (have y2:=y1.below b2)
    try (have y2:=y1.below (wY b2))
    try (have y2:=fr2 (W:=w1) b2)
    clear b2)
  |(go_at_call 156
    refine Calls.mono (HC0.out _ qsL) ?_;rintro e w1 ⟨rfl,b1⟩;have B1:Z2 W2.heap.size W2 w1:=lF qsL b1;try (have b1a:=AY (W:=W2) b1;have y1:=fr2 b1a;clear b1a)
    clear b1)
  |fail)
 all_goals
  obtain ⟨rr0,rr1,rf0,rf1,rz1,hb3⟩:=HR.out _ B3;have zb1:=B1.size;have zb2:=B2.size;have zb3:=B3.size;have zW:=HZ.out;have nW:W2.heap.size≠w.heap.size+1:=qoq;have n1:w1.heap.size≠w.heap.size+1:=qoq;have n2:w2.heap.size≠w.heap.size+1:=qoq;have n3:w3.heap.size≠w.heap.size+1:=qoq;have zW2:w.heap.size+1<=W2.heap.size:=qoq;clear zW HC0 HC1 HD HL HR B1 B2 B3;go_wp2_with fail;exact bodyPost_ret (v:=Zu #[ZZ ZY X,ZZ ZY Y]) (by simp [results,results156,go_sem,rr0,rr1,rz1,rf0,rf1]) rfl ⟨qnI,(by repeat' (first|with_reducible exact hb3|with_reducible refine Below.setCell ?_ (Nat.le_succ _) _|with_reducible refine Below.setCell ?_ ?_ _|with_reducible refine Below.alloc ?_ ?_ _|exact Nat.le_succ _|(show w.heap.size<=W2.heap.size;omega)|(show w.heap.size<=w1.heap.size;omega)|(show w.heap.size<=w2.heap.size;omega)|(show w.heap.size<=w3.heap.size;omega)|(simp;omega)))⟩
theorem Ml {w:List UInt8} (h:1<=lvl w):w.length<=maxLen:=by
 unfold maxLen;unfold lvl at h;split at h
 ·rename_i e;rcases e with rfl|rfl|rfl|rfl|rfl|rfl<;>decide
 ·split at h
  ·rename_i e;rcases e with rfl|rfl<;>decide
  ·split at h
   ·rename_i e;rcases e with rfl|rfl<;>decide
   ·omega
theorem Gx {t:Tr} (hm:ay t=true) (h:t.kY=1):B64 t.c1/\B64 t.r1:=by
 rw [Ka h] at hm;simp only [Bool.and_eq_true] at hm;have:=(bp _ _).1 hm.2.1;unfold B64;omega
theorem CX (hcb:∀q∈l,B64 q.n):∀{t:Tr},Wid t->GE t->gj l t:=by
 intro t hW;induction hW with
 |@mk k n c r d s w ks hlw _ ih=>
  intro ge;have hlen:=ge.len;have ihk:∀u∈ks,gj l u:=fun u hu=>ih u hu (ge.kid hu)
  rcases tk ge.may with h|h|h|h|h|h|h
  ·exact Pw _ hlen h
  ·exact Pi _ hlen h (Gx ge.may h)
  ·exact Ke _ hlen qnO qnO qnO qnO qnO (.inl h)
  ·exact Ke _ hlen qnO qnO qnO qnO qnO (.inr h)
  ·obtain ⟨a,ha⟩:=F6 ge.may h
   have ha:ks=[a]:=ha;subst ha;exact Px _ a hlen h rfl (ihk a qns) ((ge.kid (List.mem_cons_self ..)).b64 hcb)
  ·obtain ⟨a,b,ha⟩:=Fy ge.may h
   have ha:ks=[a,b]:=ha;subst ha
   have hw:w.length<=maxLen:=by
    have hm:=ge.may;rw [CG h] at hm;simp only [Bool.and_eq_true,decide_eq_true_iff] at hm;exact Ml hm.2.2
   exact Pz _ a b rfl hw h rfl rfl (ihk a qns) (ihk b qns) ((ge.kid (u:=a) (by show a∈[a,b];simp)).b64 hcb) ((ge.kid (u:=b) (by show b∈[a,b];simp)).b64 hcb)
  ·refine Pt _ hlen h ?_
   have hi:=D0 (.mk k n c r d s w ks) hlen ihk;rcases FL ge.may h with ⟨hw,x,y,z,ha⟩|hw|hw|hw|hw
   ·have ha:ks=[x,y,z]:=ha
    subst ha;refine Jk _ hlen hw (ON _ ge ?_);by_cases hf:(cmT l x).2=0
    ·by_cases hn:(cmT l x).1=0
     ·exact Gy _ x y z hlen h hw rfl rfl rfl ihk hf hn
     ·exact Ib _ x y z hlen h hw rfl rfl rfl ihk hf hn
    ·exact GX _ x y z hlen h hw rfl rfl rfl ihk hf
   ·exact Fk _ hlen hw (Nz _ ge hcb h hw hi)
   ·exact EX _ hlen hw (M8 _ ge hcb h hw hi)
   ·exact En _ hlen hw (N7 _ ge hcb h hw hi)
   ·refine xG _ hlen hw (JC _ ge (EP _ hlen h hw (fun u hu=>?_) ihk))
    have hm:=ge.may;rw [lN h] at hm;simp only [Bool.and_eq_true] at hm;have:=(fs hm.2.1 u hu).2.2;rcases this with e|e|e
    ·rw [show (Tr.mk k n c r d s w ks).wZ=w from rfl] at e
     rw [show w=[67,79,85,78,84] from hw] at e;cases e
    ·exact .inl e
    ·exact .inr e
theorem L8 (hl:l.length<maxLen) (hcb:∀q∈l,B64 q.n) (hpb:∀q∈l,B64 q.c/\B64 q.r) (t:Tr) (hW:Wid t) (hf:Fit t) (hcn:br t<=1000000) (w:Z3) (A:Option Addr) (ca:Nat) (LA:Option Addr) (lc:Nat) (hA:KV w (fun _=>True) t A) (hc:fe w LA l) {B:Nat} (hB:B<=w.heap.size) (hS:bh B B w):
 Calls ZW 106 #[tv t A ca,Zw LA l.length lc] w fun e w'=>e=.returned (Zu #[ZZ ZY (ofV l t).1,ZZ ZY (ofV l t).2])/\Z2 w.heap.size w w':=by
 have hlen:=hW.len;unfold maxLen at hlen;have H1:=qf (fun w1 (hb:Z2 w.heap.size w w1)=>jm t hW w1 (fun _=>True) A ca (hA.kept (Kept.of_below hb)) B (Nat.le_trans hB hb.size) (hS.later hB hb));have HF:=qf (fun w1 (hb:Z2 w.heap.size w w1)=>Bu l hl hpb LA lc w1 (hc.below hb))
 have H2:Hid (bz t=true->ofV l t=cmT l t/\∀w1 b (hb:Z2 w.heap.size w w1),cU w1 b l->Calls ZW 156 #[.map (ZV b),.agg (Ku.k t A ca)] w1 fun e w'=>e=.returned (Zu #[ZZ ZY (cmT l t).1,ZZ ZY (cmT l t).2])/\Z2 w1.heap.size w1 w'):=qf fun hr=>by
  refine ⟨by unfold ofV;rw [if_pos hr],fun w1 b hb hm=>?_⟩;exact CX hcb hW ⟨((ey t).1 hr).2.2,hf,hcn⟩ w1 (fun _=>True) A ca b (hA.kept (Kept.of_below hb)) hm
 have H3:Hid (bz t=Zz->ofV l t=(0,3)):=qf fun hr=>by
  unfold ofV;rw [if_neg qqx]
 unfold tv at*;clear hA hW hf hcn hcb hc hl hpb hB hS;cases hR:bz t
 all_goals
  rw [hR] at H1
 ·have HE:=qf (H3.out hR)
  clear H2 H3 hR HF;go_enter func106,ntmps106;go_wp2_with fail;refine (H1.out _ (qa.alloc qns _)).mono ?_;rintro e w1 ⟨rfl,b1⟩;obtain ⟨⟨k0,k1,k2,k3,k4,k5,k6,k7⟩,⟨r0,r1,f0,f1⟩,z0,z1,b0⟩:=bD ((qb:Z2 (w.heap.size+1+1) _ _).trans (b1.mono qns));clear b1 k0 k1 k2 k3 k4 k5 k6 k7;go_wp2_with fail
  exact bodyPost_ret (v:=Zu #[ZZ ZY 0,ZZ ZY 3]) (by simp [results,results106,go_sem,r0,r1,z1,f0,f1]) rfl
   ⟨qnI,qnn⟩
 ·obtain ⟨he,hcm⟩:=H2.out hR
  have HE:=qf he;have HC:=qf hcm;clear H2 H3 hR he hcm;generalize cmT l t=X at*;go_enter func106,ntmps106;go_wp2_with fail;refine (H1.out _ (qa.alloc qns _)).mono ?_;rintro e w1 ⟨rfl,b1⟩;have hb1:=qhu;obtain ⟨⟨k0,k1,k2,k3,k4,k5,k6,k7⟩,⟨r0,r1,f0,f1⟩,z0,z1,b0⟩:=bD hb1;clear b1 hb1;go_wp2_with fail
  go_region_held3 (fun w'=>w'.cell? ⟨w.heap.size,0,ZU⟩=ZV (ZZ ZY t.kY)/\w'.cell? ⟨w.heap.size,1,ZU⟩=ZV (ZZ ZY t.num)/\w'.cell? ⟨w.heap.size,2,ZU⟩=ZV (ZZ ZY t.c1)/\w'.cell? ⟨w.heap.size,3,ZU⟩=ZV (ZZ ZY t.r1)/\w'.cell? ⟨w.heap.size,4,ZU⟩=ZV (ZZ ZY t.c2)/\w'.cell? ⟨w.heap.size,5,ZU⟩=ZV (ZZ ZY t.r2)/\w'.cell? ⟨w.heap.size,6,ZU⟩=ZV (Zx ⟨t.wZ.toArray⟩)/\w'.cell? ⟨w.heap.size,7,ZU⟩=ZV (Zw A t.kZ.length ca))
   (first|(simp only [World.cell?_drew];with_reducible exact ⟨k0,k1,k2,k3,k4,k5,k6,k7⟩)|(with_reducible exact ⟨m0,m1,m2,m3,m4,m5,m6,m7⟩)|(with_reducible exact ⟨n0,n1,n2,n3,n4,n5,n6,n7⟩)|go_keep|fail)
   (first
   |(go_at_call 155;refine Calls.mono (HF.out _ (b0.trans (qb.drew.mono b0.size))) ?_;rintro e w2 ⟨b,rfl,hm2,b2⟩
     obtain ⟨B2,m0⟩:=qhV;have m1:=aa B2 k1;have m2:=aa B2 k2;have m3:=aa B2 k3;have m4:=aa B2 k4;have m5:=aa B2 k5;have m6:=aa B2 k6;have m7:=aa B2 k7;have mr0:=aa B2 r0;have mr1:=aa B2 r1;have mf0:=ae B2 z1 f0;have mf1:=ae B2 z1 f1;have mz1:w.heap.size+1<w2.heap.size:=Nat.lt_of_lt_of_le z1 B2.size;have hb2:=b0.trans (B2.mono b0.size);clear b2 k0 k1 k2 k3 k4 k5 k6 k7 B2)
   |(go_at_call 156;refine Calls.mono (HC.out w2 b hb2 hm2) ?_;rintro e w3 ⟨rfl,b3⟩
     have n0:=aa b3 m0;have n1:=aa b3 m1;have n2:=aa b3 m2;have n3:=aa b3 m3;have n4:=aa b3 m4;have n5:=aa b3 m5;have n6:=aa b3 m6;have n7:=aa b3 m7;have nr0:=aa b3 mr0;have nr1:=aa b3 mr1;have nf0:=ae b3 mz1 mf0;have nf1:=ae b3 mz1 mf1;have nz1:w.heap.size+1<w3.heap.size:=Nat.lt_of_lt_of_le mz1 b3.size;have nne:w.heap.size+1≠w.heap.size:=qoq;have hb3:=hb2.trans (b3.mono hb2.size);clear b3 m0 m1 m2 m3 m4 m5 m6 m7)
   |fail)
  all_goals
   clear hb2 b0;go_wp2_with fail
   exact bodyPost_ret (v:=Zu #[ZZ ZY X.1,ZZ ZY X.2]) (by simp [results,results106,go_sem,nr0,nr1,nz1,nf0,nf1]) rfl
    ⟨qnI,qnn⟩
