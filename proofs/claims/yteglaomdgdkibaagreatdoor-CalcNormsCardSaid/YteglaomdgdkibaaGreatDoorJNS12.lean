import Derived.Test.YteglaomdgdkibaaGreatDoorJNS11
import Derived.RegionDies
import Derived.Shelf.Abstract
import Derived.Test.YteglaomdgdkibaaGreatDoorJQNSP
import Derived.Test.YteglaomdgdkibaaGreatDoorJQNSW
import Derived.Test.YteglaomdgdkibaaGreatDoorJQNSX
set_option linter.all false
set_option maxHeartbeats 0
set_option maxRecDepth 99999
namespace Go.Proofs.YteglaomdgdkibaaGreatDoor
open Go.RowKit
open Value renaming int→ZZ,string→Zx,slice→Zw,pointer→Zv
open IntKind renaming i64→ZY
open Tryz
open Tryz renaming prog→ZW
open Option renaming some→ZV,none→ZU
open Bool renaming false→Zz,true→Zy
variable {B E R cap g k lev n q:Nat}{L:List Tok}{t:Tr}{res:Res}
theorem pexpr_top (hL:L.length<=1000) (hc:cap<=maxLen) (hG:aM L) (hP:cm R g cap B L E 180 #[Zv (ZV ⟨R,0,ZU⟩)] (bR L E k)):
 cm R g cap B L E 130 #[Zv (ZV ⟨R,0,ZU⟩),ZZ ZY 3] (ak L E (k+1) 4):=by
 intro w p res hr hf;rw [ak,if_pos qnv] at hf;have HP:=qgy;have HF:=qf hf;obtain ⟨HR,lR,lB⟩:=qav;clear hP hf hr;go_enter func130,ntmps130;go_wp2_with fail;refine (HP.out _ p res (have hv:=HR.out;qnk) HF.out).mono ?_;rintro e w1 H1;cases res with
 |bad z=>
  obtain ⟨rfl,b1⟩:=H1;exact qiG
 |ok t q=>
  obtain ⟨⟨x0,x1,x2,x3,x4,x5,xw,xA,xl,xc⟩,rfl,v1,r1,b1⟩:=H1;obtain ⟨HR1,HVx1⟩:=qbk;have h1:=qm;obtain ⟨y1,zk1⟩:=qad;obtain ⟨k10,k11,k12,k13,k14,k15,k16,k17⟩:=qo;obtain ⟨kf10,kf11,kf12,kf13,kf14,kf15,kf16,kf17⟩:=qw;clear r1 v1 b1;dsimp only [V8.val];go_wp2_with fail;exact bodyPost_ret (v:=.agg #[ZZ ZY x0,ZZ ZY x1,ZZ ZY x2,ZZ ZY x3,ZZ ZY x4,ZZ ZY x5,.string xw,Zw xA xl xc]) (by simp [results,results130,go_sem,k10,k11,k12,k13,k14,k15,k16,k17,zk1]) rfl ⟨⟨x0,x1,x2,x3,x4,x5,xw,xA,xl,xc⟩,rfl,((HVx1.out.kept qny).imp fun b (hb:w.heap.size<b)=>Nat.le_of_lt hb),(have hv:=HR1.out;qnk),(have hv:=h1;qni)⟩
def fD (L:List Tok) (E n lev:Nat) (t:Tr) (q:Nat) (res:Res):Prop:=bC L E n lev t q=ZV res
theorem Dj (h:fD L E n lev t q res) (hl:aJ L q≠lev):res=.ok t q:=by
 unfold fD at h;cases n with
 |zero=>rw [bC] at h;cases h
 |succ n=>rw [bC,if_neg hl] at h;exact (Option.some.inj h).symm
theorem nf (h:fD L E n lev t q res) (hl:aJ L q=lev) (h1:1<=lev):
 ∃n' r1,n=n'+1/\q<L.length/\ak L E n' (lev+1) (q+1)=ZV r1/\(match r1 with|.bad z=>res=.bad z|.ok t2 q2=>fD L E n' lev (opT (aj L E q).text t t2) q2 res):=by
 unfold fD at h;cases n with
 |zero=>rw [bC] at h;cases h
 |succ n=>
  have hp:=lz hl h1;have hu:L[q]? =ZV (L[q]'hp):=List.getElem?_eq_getElem hp;have ht:(L.map Tok.text).getD q []=(aj L E q).text:=(by rw [eY hu];simp [List.getD_eq_getElem?_getD,hu]);rw [bC,if_pos hl,ht] at h;obtain ⟨r1,e1,e2⟩:=eC h;refine ⟨n,r1,rfl,hp,e1,?_⟩;cases r1 with
  |bad z=>exact e2
  |ok t2 q2=>exact e2
structure LP (w wr:World) (R g cap B:Nat) (L:List Tok) (E O:Nat) (x:V8) (t:Tr) (q:Nat):Prop where
 rl:RL wr R g cap B L E q
 but:But R w wr
 ho:O<wr.heap.size
 hk:w.heap.size<wr.heap.size
 tv:TV wr (fun b=>w.heap.size<b/\b≠O) x (ZV t)
 k0:wr.cell? ⟨w.heap.size,0,ZU⟩=ZV (ZZ ZY 0)
 k1:wr.cell? ⟨w.heap.size,1,ZU⟩=ZV (ZZ ZY 0)
 k2:wr.cell? ⟨w.heap.size,2,ZU⟩=ZV (ZZ ZY 0)
 k3:wr.cell? ⟨w.heap.size,3,ZU⟩=ZV (ZZ ZY 0)
 k4:wr.cell? ⟨w.heap.size,4,ZU⟩=ZV (ZZ ZY 0)
 k5:wr.cell? ⟨w.heap.size,5,ZU⟩=ZV (ZZ ZY 0)
 k6:wr.cell? ⟨w.heap.size,6,ZU⟩=ZV (Zx ⟨#[]⟩)
 k7:wr.cell? ⟨w.heap.size,7,ZU⟩=ZV (Zw ZU 0 0)
 kf0:wr.frozen? ⟨w.heap.size,0,ZU⟩=Zz
 kf1:wr.frozen? ⟨w.heap.size,1,ZU⟩=Zz
 kf2:wr.frozen? ⟨w.heap.size,2,ZU⟩=Zz
 kf3:wr.frozen? ⟨w.heap.size,3,ZU⟩=Zz
 kf4:wr.frozen? ⟨w.heap.size,4,ZU⟩=Zz
 kf5:wr.frozen? ⟨w.heap.size,5,ZU⟩=Zz
 kf6:wr.frozen? ⟨w.heap.size,6,ZU⟩=Zz
 kf7:wr.frozen? ⟨w.heap.size,7,ZU⟩=Zz
 o0:wr.cell? ⟨O,0,ZU⟩=ZV (ZZ ZY x.n0)
 o1:wr.cell? ⟨O,1,ZU⟩=ZV (ZZ ZY x.n1)
 o2:wr.cell? ⟨O,2,ZU⟩=ZV (ZZ ZY x.n2)
 o3:wr.cell? ⟨O,3,ZU⟩=ZV (ZZ ZY x.n3)
 o4:wr.cell? ⟨O,4,ZU⟩=ZV (ZZ ZY x.n4)
 o5:wr.cell? ⟨O,5,ZU⟩=ZV (ZZ ZY x.n5)
 o6:wr.cell? ⟨O,6,ZU⟩=ZV (.string x.s)
 o7:wr.cell? ⟨O,7,ZU⟩=ZV (Zw x.A x.len x.cap)
 of0:wr.frozen? ⟨O,0,ZU⟩=Zz
 of1:wr.frozen? ⟨O,1,ZU⟩=Zz
 of2:wr.frozen? ⟨O,2,ZU⟩=Zz
 of3:wr.frozen? ⟨O,3,ZU⟩=Zz
 of4:wr.frozen? ⟨O,4,ZU⟩=Zz
 of5:wr.frozen? ⟨O,5,ZU⟩=Zz
 of6:wr.frozen? ⟨O,6,ZU⟩=Zz
 of7:wr.frozen? ⟨O,7,ZU⟩=Zz
theorem LG (hL:L.length<=1000) (hc:cap<=maxLen) (hG:aM L) (hP:∀j,j<=k->cm R g cap B L E 130 #[Zv (ZV ⟨R,0,ZU⟩),ZZ ZY 1] (ak L E j 2)):
 cm R g cap B L E 130 #[Zv (ZV ⟨R,0,ZU⟩),ZZ ZY 0] (ak L E (k+1) 1):=by
 intro w p res hr hf;rw [ak,if_neg qnv] at hf;obtain ⟨r1,hf1,hf2⟩:=eC hf;have HP:=qgy;have HP1:=qf (hP k qd);obtain ⟨HF,HK⟩:=qdF;obtain ⟨HR,lR,lB⟩:=qav;clear hP hf hf1 hf2 hr;go_enter func130,ntmps130;go_wp2_with fail;refine .mono qrK ?_;rintro e w1 H1;cases r1 with
 |bad z=>
  exact qkZ
 |ok t q=>
  obtain ⟨⟨x0,x1,x2,x3,x4,x5,xw,xA,xl,xc⟩,rfl,v1,r1,b1⟩:=H1;obtain ⟨HR1,HVx1⟩:=qbk;have h1:=qm;obtain ⟨y1,zk1⟩:=qad;obtain ⟨k10,k11,k12,k13,k14,k15,k16,k17⟩:=qo;obtain ⟨kf10,kf11,kf12,kf13,kf14,kf15,kf16,kf17⟩:=qw;clear r1 v1 b1;dsimp only [V8.val];go_wp2_with fail;have HKK:Hid (fD L E k 1 t q res):=qf HK.out;go_loopg [6] k (fun n _ wr=>∃(x:V8) (t:Tr) (q:Nat),n<=k/\Hid (LP w wr R g cap B L E w1.heap.size x t q)/\Hid (fD L E n 1 t q res))
  case atStart=>
   exact qiz
  case round=>
   obtain ⟨x,t,q,hn,HL,HN⟩:=hrel;obtain ⟨c0,c1,c2,c3,c4,c5,cw,cA,cl,cc⟩:=x;obtain ⟨lr,h2,HR2,y2,zo2,zk2⟩:=qdQ;obtain ⟨HO2,k20,k21,k22,k23,k24,k25,k26,k27,kf20,kf21,kf22,kf23,kf24⟩:=qbe;obtain ⟨kf25,kf26,kf27,o20,o21,o22,o23⟩:=qcy;obtain ⟨o24,o25,o26,o27,of20,of21,of22,of23,of24,of25,of26,of27,no,nko⟩:=qaK;have hV:=gz (aj L E q).text;clear k10 kf10 k11 kf11 k12 kf12 k13 kf13 k14 kf14 k15 kf15 k16 kf16 k17 kf17 HR1 HVx1 HK HKK h1 HF HP1 lr HL;rw [oq hG] at hV;have HS:=qet;rw [hV] at HS;clear hV;obtain ⟨t0,t4,t5⟩:=HR2.out.tok;obtain ⟨hx,hle,hgl,hrl,hNx⟩:=qdn;by_cases hv:aJ L q=1
   ·skip
    obtain ⟨n',r1,hgk,hql,hf1,hf2⟩:=nf HN.out hv qnv;obtain ⟨HF,HK⟩:=qdF;have HPn:=qgI;generalize aj L E q=d at*;have hv2:(aJ L q:Int) - 1=0:=qoq;rw [hv2] at HS;clear hv2 hv hf1 hf2 HN;unfold cy at hNx;have xF:=qbD;go_wp2_with fail;refine HS.out.mono ?_;rintro e w9 ⟨rfl,rfl⟩;go_wp2_with fail;clear t0 t4 t5 hx hle hgl hrl;refine hNx.out.mono ?_;rintro e w3 ⟨rfl,r3,b3⟩;obtain ⟨HR3,HO3⟩:=qbH;obtain ⟨h3,y3,zk3⟩:=qae;obtain ⟨k30,k31,k32,k33,k34,k35,k36,k37⟩:=qR;obtain ⟨kf30,kf31,kf32,kf33,kf34,kf35,kf36,kf37⟩:=qJ;obtain ⟨zo3,o30,o31,o32,o33,o34,o35,o36,o37,Hof3⟩:=qaq;obtain ⟨of30,of31,of32,of33,of34,of35,of36,of37⟩:=Hof3;clear r3 HR2 HO2 b3 k20 k21 k22 k23 k24 k25 k26 k27 kf20 kf21 kf22 kf23 kf24 kf25 kf26 kf27 zk2 o20 o21 o22 o23 o24 o25 o26 o27 of20 of21 of22 of23 of24 of25 of26 of27 zo2;go_wp2_with fail;have h3d:But R w w3.drew:=h3.drew;cases r1 with
    |bad z=>
     have hk:=qel;subst hk;go_region_dies
     all_goals (rw [show IntKind.i64.wrap 1=1 from by decide];refine .mono qrN ?_;rintro e w4 ⟨rfl,b4⟩;exact ⟨rfl,rfl,h3d.trans b4⟩)
    |ok t2 q2=>
     have HNN:Hid (fD L E n' 1 (opT d.text t t2) q2 res):=qf HK.out;exact qij
   ·skip
    have hres:=qhc;subst hres;have d0:(((aJ L q:Int) - 1)==0)=Zz:=qoy;exact qiu
theorem K2 (hL:L.length<=1000) (hc:cap<=maxLen) (hG:aM L) (hP:∀j,j<=k->cm R g cap B L E 130 #[Zv (ZV ⟨R,0,ZU⟩),ZZ ZY 2] (ak L E j 3)):
 cm R g cap B L E 130 #[Zv (ZV ⟨R,0,ZU⟩),ZZ ZY 1] (ak L E (k+1) 2):=by
 intro w p res hr hf;rw [ak,if_neg qnv] at hf;obtain ⟨r1,hf1,hf2⟩:=eC hf;have HP:=qgy;have HP1:=qf (hP k qd);obtain ⟨HF,HK⟩:=qdF;obtain ⟨HR,lR,lB⟩:=qav;clear hP hf hf1 hf2 hr;go_enter func130,ntmps130;go_wp2_with fail;refine .mono qrK ?_;rintro e w1 H1;cases r1 with
 |bad z=>
  exact qkZ
 |ok t q=>
  obtain ⟨⟨x0,x1,x2,x3,x4,x5,xw,xA,xl,xc⟩,rfl,v1,r1,b1⟩:=H1;obtain ⟨HR1,HVx1⟩:=qbk;have h1:=qm;obtain ⟨y1,zk1⟩:=qad;obtain ⟨k10,k11,k12,k13,k14,k15,k16,k17⟩:=qo;obtain ⟨kf10,kf11,kf12,kf13,kf14,kf15,kf16,kf17⟩:=qw;clear r1 v1 b1;dsimp only [V8.val];go_wp2_with fail;have HKK:Hid (fD L E k 2 t q res):=qf HK.out;go_loopg [6] k (fun n _ wr=>∃(x:V8) (t:Tr) (q:Nat),n<=k/\Hid (LP w wr R g cap B L E w1.heap.size x t q)/\Hid (fD L E n 2 t q res))
  case atStart=>
   exact qiz
  case round=>
   obtain ⟨x,t,q,hn,HL,HN⟩:=hrel;obtain ⟨c0,c1,c2,c3,c4,c5,cw,cA,cl,cc⟩:=x;obtain ⟨lr,h2,HR2,y2,zo2,zk2⟩:=qdQ;obtain ⟨HO2,k20,k21,k22,k23,k24,k25,k26,k27,kf20,kf21,kf22,kf23,kf24⟩:=qbe;obtain ⟨kf25,kf26,kf27,o20,o21,o22,o23⟩:=qcy;obtain ⟨o24,o25,o26,o27,of20,of21,of22,of23,of24,of25,of26,of27,no,nko⟩:=qaK;have hV:=gz (aj L E q).text;clear k10 kf10 k11 kf11 k12 kf12 k13 kf13 k14 kf14 k15 kf15 k16 kf16 k17 kf17 HR1 HVx1 HK HKK h1 HF HP1 lr HL;rw [oq hG] at hV;have HS:=qet;rw [hV] at HS;clear hV;obtain ⟨t0,t4,t5⟩:=HR2.out.tok;obtain ⟨hx,hle,hgl,hrl,hNx⟩:=qdn;by_cases hv:aJ L q=2
   ·skip
    obtain ⟨n',r1,hgk,hql,hf1,hf2⟩:=nf HN.out hv qnv;obtain ⟨HF,HK⟩:=qdF;have HPn:=qgI;generalize aj L E q=d at*;have hv2:(aJ L q:Int) - 1=1:=qoq;rw [hv2] at HS;clear hv2 hv hf1 hf2 HN;unfold cy at hNx;have xF:=qbD;go_wp2_with fail;refine HS.out.mono ?_;rintro e w9 ⟨rfl,rfl⟩;go_wp2_with fail;clear t0 t4 t5 hx hle hgl hrl;refine hNx.out.mono ?_;rintro e w3 ⟨rfl,r3,b3⟩;obtain ⟨HR3,HO3⟩:=qbH;obtain ⟨h3,y3,zk3⟩:=qae;obtain ⟨k30,k31,k32,k33,k34,k35,k36,k37⟩:=qR;obtain ⟨kf30,kf31,kf32,kf33,kf34,kf35,kf36,kf37⟩:=qJ;obtain ⟨zo3,o30,o31,o32,o33,o34,o35,o36,o37,Hof3⟩:=qaq;obtain ⟨of30,of31,of32,of33,of34,of35,of36,of37⟩:=Hof3;clear r3 HR2 HO2 b3 k20 k21 k22 k23 k24 k25 k26 k27 kf20 kf21 kf22 kf23 kf24 kf25 kf26 kf27 zk2 o20 o21 o22 o23 o24 o25 o26 o27 of20 of21 of22 of23 of24 of25 of26 of27 zo2;go_wp2_with fail;have h3d:But R w w3.drew:=h3.drew;cases r1 with
    |bad z=>
     have hk:=qel;subst hk;go_region_dies
     all_goals (rw [show IntKind.i64.wrap 2=2 from by decide];refine .mono qrN ?_;rintro e w4 ⟨rfl,b4⟩;exact ⟨rfl,rfl,h3d.trans b4⟩)
    |ok t2 q2=>
     have HNN:Hid (fD L E n' 2 (opT d.text t t2) q2 res):=qf HK.out;exact qij
   ·skip
    have hres:=qhc;subst hres;have d0:(((aJ L q:Int) - 1)==1)=Zz:=qoy;exact qiu
theorem Mc (hL:L.length<=1000) (hc:cap<=maxLen) (hG:aM L) (hP:∀j,j<=k->cm R g cap B L E 130 #[Zv (ZV ⟨R,0,ZU⟩),ZZ ZY 3] (ak L E j 4)):
 cm R g cap B L E 130 #[Zv (ZV ⟨R,0,ZU⟩),ZZ ZY 2] (ak L E (k+1) 3):=by
 intro w p res hr hf;rw [ak,if_neg qnv] at hf;obtain ⟨r1,hf1,hf2⟩:=eC hf;have HP:=qgy;have HP1:=qf (hP k qd);obtain ⟨HF,HK⟩:=qdF;obtain ⟨HR,lR,lB⟩:=qav;clear hP hf hf1 hf2 hr;go_enter func130,ntmps130;go_wp2_with fail;refine .mono qrK ?_;rintro e w1 H1;cases r1 with
 |bad z=>
  exact qkZ
 |ok t q=>
  obtain ⟨⟨x0,x1,x2,x3,x4,x5,xw,xA,xl,xc⟩,rfl,v1,r1,b1⟩:=H1;obtain ⟨HR1,HVx1⟩:=qbk;have h1:=qm;obtain ⟨y1,zk1⟩:=qad;obtain ⟨k10,k11,k12,k13,k14,k15,k16,k17⟩:=qo;obtain ⟨kf10,kf11,kf12,kf13,kf14,kf15,kf16,kf17⟩:=qw;clear r1 v1 b1;dsimp only [V8.val];go_wp2_with fail;have HKK:Hid (fD L E k 3 t q res):=qf HK.out;go_loopg [6] k (fun n _ wr=>∃(x:V8) (t:Tr) (q:Nat),n<=k/\Hid (LP w wr R g cap B L E w1.heap.size x t q)/\Hid (fD L E n 3 t q res))
  case atStart=>
   exact qiz
  case round=>
   obtain ⟨x,t,q,hn,HL,HN⟩:=hrel;obtain ⟨c0,c1,c2,c3,c4,c5,cw,cA,cl,cc⟩:=x;obtain ⟨lr,h2,HR2,y2,zo2,zk2⟩:=qdQ;obtain ⟨HO2,k20,k21,k22,k23,k24,k25,k26,k27,kf20,kf21,kf22,kf23,kf24⟩:=qbe;obtain ⟨kf25,kf26,kf27,o20,o21,o22,o23⟩:=qcy;obtain ⟨o24,o25,o26,o27,of20,of21,of22,of23,of24,of25,of26,of27,no,nko⟩:=qaK;have hV:=gz (aj L E q).text;clear k10 kf10 k11 kf11 k12 kf12 k13 kf13 k14 kf14 k15 kf15 k16 kf16 k17 kf17 HR1 HVx1 HK HKK h1 HF HP1 lr HL;rw [oq hG] at hV;have HS:=qet;rw [hV] at HS;clear hV;obtain ⟨t0,t4,t5⟩:=HR2.out.tok;obtain ⟨hx,hle,hgl,hrl,hNx⟩:=qdn;by_cases hv:aJ L q=3
   ·skip
    obtain ⟨n',r1,hgk,hql,hf1,hf2⟩:=nf HN.out hv qnv;obtain ⟨HF,HK⟩:=qdF;have HPn:=qgI;generalize aj L E q=d at*;have hv2:(aJ L q:Int) - 1=2:=qoq;rw [hv2] at HS;clear hv2 hv hf1 hf2 HN;unfold cy at hNx;have xF:=qbD;go_wp2_with fail;refine HS.out.mono ?_;rintro e w9 ⟨rfl,rfl⟩;go_wp2_with fail;clear t0 t4 t5 hx hle hgl hrl;refine hNx.out.mono ?_;rintro e w3 ⟨rfl,r3,b3⟩;obtain ⟨HR3,HO3⟩:=qbH;obtain ⟨h3,y3,zk3⟩:=qae;obtain ⟨k30,k31,k32,k33,k34,k35,k36,k37⟩:=qR;obtain ⟨kf30,kf31,kf32,kf33,kf34,kf35,kf36,kf37⟩:=qJ;obtain ⟨zo3,o30,o31,o32,o33,o34,o35,o36,o37,Hof3⟩:=qaq;obtain ⟨of30,of31,of32,of33,of34,of35,of36,of37⟩:=Hof3;clear r3 HR2 HO2 b3 k20 k21 k22 k23 k24 k25 k26 k27 kf20 kf21 kf22 kf23 kf24 kf25 kf26 kf27 zk2 o20 o21 o22 o23 o24 o25 o26 o27 of20 of21 of22 of23 of24 of25 of26 of27 zo2;go_wp2_with fail;have h3d:But R w w3.drew:=h3.drew;cases r1 with
    |bad z=>
     have hk:=qel;subst hk;go_region_dies
     all_goals (rw [show IntKind.i64.wrap 3=3 from by decide];refine .mono qrN ?_;rintro e w4 ⟨rfl,b4⟩;exact ⟨rfl,rfl,h3d.trans b4⟩)
    |ok t2 q2=>
     have HNN:Hid (fD L E n' 3 (opT d.text t t2) q2 res):=qf HK.out;exact qij
   ·skip
    have hres:=qhc;subst hres;have d0:(((aJ L q:Int) - 1)==2)=Zz:=qoy;exact qiu
section
open Go.Shelf
theorem uz {w:World} {p:Nat} (hL:L.length<=1000) (hc:cap<=maxLen) (hr:RL w R g cap B L E p) (hl:p<L.length) (h1:((aj L E p).kY==1)=Zz) (h2:((aj L E p).kY==2)=Zz) (h3:((aj L E p).kY==3)=Zz) (h4:((aj L E p).kY==4)=Zy) (hN:∀w',RL w' R g cap B L E (p+1)->Calls ZW 277 #[Zv (ZV ⟨R,0,ZU⟩),Zx ⟨(aj L E p).text.toArray⟩] w' (cg w' R g cap B L E res)):
 Calls ZW 232 #[Zv (ZV ⟨R,0,ZU⟩)] w (cg w R g cap B L E res):=by
 have hNx:=qf (fun w hr=>gR (w:=w) (R:=R) (g:=g) (cap:=cap) (B:=B) (L:=L) (E:=E) (p:=p) hL hc hr);have HN:=qf hN;clear hN;generalize aj L E p=a at*;unfold cy at*;obtain ⟨HR,lR,lB⟩:=qav;clear hr;go_enter func232,ntmps232;go_wp2_with fail;refine (hNx.out _ (have hv:=HR.out;qnk)).mono ?_;rintro e w1 ⟨rfl,r1,b1⟩;have HR1:=qdC;have h1:=qm;obtain ⟨y1,zk1⟩:=qad;obtain ⟨k10,k11,k12,k13,k14,k15,k16,k17⟩:=qo;obtain ⟨kf10,kf11,kf12,kf13,kf14,kf15,kf16,kf17⟩:=qw;clear r1 b1;go_wp2_with fail;refine .mono qrM ?_;rintro e w2 H2;cases res with
 |bad z=>
  exact qlc
 |ok t q=>
  obtain ⟨⟨x0,x1,x2,x3,x4,x5,xw,xA,xl,xc⟩,rfl,v2,r2,b2⟩:=H2;obtain ⟨HR2,HVx2⟩:=qar;have h2:=qC;obtain ⟨y2,zk2⟩:=qaP;obtain ⟨k20,k21,k22,k23,k24,k25,k26,k27⟩:=qD;obtain ⟨kf20,kf21,kf22,kf23,kf24,kf25,kf26,kf27⟩:=qq;clear r2 v2 b2 k10 k11 k12 k13 k14 k15 k16 k17 kf10 kf11 kf12 kf13 kf14 kf15 kf16 kf17 zk1;dsimp only [V8.val];go_wp2_with fail;exact bodyPost_ret (v:=.agg #[ZZ ZY x0,ZZ ZY x1,ZZ ZY x2,ZZ ZY x3,ZZ ZY x4,ZZ ZY x5,.string xw,Zw xA xl xc]) (by simp [results,results232,go_sem,k20,k21,k22,k23,k24,k25,k26,k27,zk2]) rfl ⟨⟨x0,x1,x2,x3,x4,x5,xw,xA,xl,xc⟩,rfl,((HVx2.out.kept qny).imp fun b (hb:w.heap.size<b)=>Nat.le_of_lt hb),(have hv:=HR2.out;qnk),(have hv:=h2;qni)⟩
structure Fam (R g cap B:Nat) (L:List Tok) (E k:Nat):Prop where
 line1:cm R g cap B L E 130 #[Zv (ZV ⟨R,0,ZU⟩),ZZ ZY 0] (ak L E k 1)
 line2:cm R g cap B L E 130 #[Zv (ZV ⟨R,0,ZU⟩),ZZ ZY 1] (ak L E k 2)
 line3:cm R g cap B L E 130 #[Zv (ZV ⟨R,0,ZU⟩),ZZ ZY 2] (ak L E k 3)
 line4:cm R g cap B L E 130 #[Zv (ZV ⟨R,0,ZU⟩),ZZ ZY 3] (ak L E k 4)
 pref:cm R g cap B L E 180 #[Zv (ZV ⟨R,0,ZU⟩)] (bR L E k)
 oper:cm R g cap B L E 232 #[Zv (ZV ⟨R,0,ZU⟩)] (ct L E k)
 item:cm R g cap B L E 317 #[Zv (ZV ⟨R,0,ZU⟩)] (bg L E k Zz)
 corn:cm R g cap B L E 316 #[Zv (ZV ⟨R,0,ZU⟩)] (bg L E k Zy)
theorem Aj (hL:L.length<=1000) (hc:cap<=maxLen) (hG:aM L) (hk:k<=100000) (H:∀j,j<=k->Fam R g cap B L E j) {wd:List UInt8} (hw:bP wd=Zy)
 (w:World) (p:Nat) (res:Res) (hr:RL w R g cap B L E p) (hf:BC L E k wd p=ZV res):
 Calls ZW 277 #[Zv (ZV ⟨R,0,ZU⟩),Zx ⟨wd.toArray⟩] w (cg w R g cap B L E res):=by
 unfold BC at hf;cases hm:ag L p [40] with
 |false=>
  unfold az at hf;rw [if_neg qow] at hf;obtain rfl:=Option.some.inj hf;exact EH hL hc hG hr wd hm
 |true=>
  have hf0:=hf;clear hf
  have hf:(if wd=[73,70] then Res.next (ak L E k 1 (p+1)) fun a q=>az L E q [44] fun q=>Res.next (ak L E k 1 q) fun b q=>az L E q [44] fun q=>Res.next (ak L E k 1 q) fun c q=>az L E q [41] fun q=>ZV (.ok (ba [73,70] [a,b,c]) q) else bx L E k wd [] (p+1))=ZV res:=by
   unfold az at hf0;rw [if_pos hm] at hf0;exact hf0
  by_cases hi:wd=[73,70]
  ·subst hi
   rw [if_pos rfl] at hf
   have key:∃lr,nr L E k (p+1)=ZV lr/\CallR L E [73,70] lr res:=by
    obtain ⟨r1,e1,h1⟩:=eC hf;unfold nr;rw [e1];cases r1 with
    |bad z=>exact ⟨_,rfl,h1⟩
    |ok a q=>
     have h1':az L E q [44] (fun q=>Res.next (ak L E k 1 q) fun b q=>az L E q [44] fun q=>Res.next (ak L E k 1 q) fun c q=>az L E q [41] fun q=>ZV (.ok (ba [73,70] [a,b,c]) q))=ZV res:=h1;unfold az at h1';show ∃lr,ec L E k 2 [a] q=ZV lr/\_
     rw [ec];by_cases m1:ag L q [44]=Zy
     ·rw [if_pos m1] at h1' ⊢
      obtain ⟨r2,e2,h2⟩:=eC h1';rw [e2];cases r2 with
      |bad z=>exact ⟨_,rfl,h2⟩
      |ok b q=>
       have h2':az L E q [44] (fun q=>Res.next (ak L E k 1 q) fun c q=>az L E q [41] fun q=>ZV (.ok (ba [73,70] [a,b,c]) q))=ZV res:=h2;unfold az at h2';show ∃lr,ec L E k 1 [a,b] q=ZV lr/\_
       rw [ec];by_cases m2:ag L q [44]=Zy
       ·rw [if_pos m2] at h2' ⊢
        obtain ⟨r3,e3,h3⟩:=eC h2';rw [e3];cases r3 with
        |bad z=>exact ⟨_,rfl,h3⟩
        |ok c q=>
         refine ⟨.ok [a,b,c] q,?_,h3⟩;show ec L E k 0 [a,b,c] q=_
         rw [ec]
       ·rw [if_neg m2] at h2' ⊢
        exact ⟨_,rfl,(Option.some.inj h2').symm⟩
     ·rw [if_neg m1] at h1' ⊢
      exact ⟨_,rfl,(Option.some.inj h1').symm⟩
   obtain ⟨lr,hlr,hcr⟩:=key;exact JI hL hc hG hr hm (fun w' hr'=>AR hL hc hG (H k qd).line1 w' _ lr hr' hlr) hcr
  ·rw [if_neg hi] at hf
   obtain ⟨lr,hlr,hcr⟩:=rq hf
   have hcr':CallR L E wd lr res:=by
    cases lr with
    |bad z=>exact hcr
    |ok ks q=>exact hcr
   by_cases h2:wd=[67,79,85,78,84]
   ·subst h2
    refine xY hL hc hG hr hm (fun w' hr'=>?_) hcr';exact tu (c:=Zy) hL hc hG (fun args w=>enters_of func316 qnx rfl args w) (fun j hj=>(H j hj).corn) w' _ lr hr' hlr hk
   ·have e2:(wd==[67,79,85,78,84])=Zz:=by rw [beq_eq_false_iff_ne];exact h2
    rw [e2] at hlr;refine xS hL hc hG hr (by rw [beq_eq_false_iff_ne];exact hi) e2 hm (fun w' hr'=>?_) hcr';exact tu (c:=Zz) hL hc hG (fun args w=>enters_of func317 qnx rfl args w) (fun j hj=>(H j hj).item) w' _ lr hr' hlr hk
theorem vK (hL:L.length<=1000) (hc:cap<=maxLen) (hG:aM L) (hk:k<=100000) (H:∀j,j<=k->Fam R g cap B L E j):
 cm R g cap B L E 232 #[Zv (ZV ⟨R,0,ZU⟩)] (ct L E (k+1)):=by
 intro w p res hr hf;rw [ct] at hf;cases hm:ag L p [40] with
 |true=>
  rw [if_pos hm] at hf;have hl:=fu hm;have ht:L[p]? =ZV (L[p]'hl):=List.getElem?_eq_getElem hl;have hta:aj L E p=L[p]'hl:=eY ht
  have h5:(aj L E p).kY=5:=by
   unfold ag at hm;rw [ht] at hm;have:((L[p]'hl).kY==5&&(L[p]'hl).text==[40])=Zy:=hm;rw [Bool.and_eq_true] at this;rw [hta];exact eq_of_beq this.1
  exact vz hL hc hG hr hl qpu qpu qpu qpu hm (H k qd).line1 hf
 |false=>
  rw [if_neg qow] at hf;cases ht:L[p]? with
  |none=>
   rw [ht] at hf;obtain rfl:.bad E=res:=Option.some.inj hf;have hta:aj L E p=eP E:=i6 ht;have:=mv hL hc hG hr qqO qqO qqO qqO hm;rwa [iA ht] at this
  |some t=>
   rw [ht] at hf;have hta:aj L E p=t:=eY ht;have hl:=(List.getElem?_eq_some_iff.1 ht).1;have hg:=(hG p t ht).good;have hf2:(if t.kY=5 then ZV (.bad t.frm) else if t.kY=1 then ZV (.ok (ik t.num) (p+1)) else if t.kY=2 then ZV (.ok (fG t.col t.row) (p+1)) else if t.kY=3 then ZV (.ok bK (p+1)) else BC L E k t.text (p+1))=ZV res:=hf;clear hf;have NE:∀i:Int,t.kY≠i->((aj L E p).kY==i)=Zz:=fun i h=>by rw [hta,beq_eq_false_iff_ne];exact h
   have EQ:∀i:Int,t.kY=i->((aj L E p).kY==i)=Zy:=fun i h=>by rw [hta,beq_iff_eq];exact h
   by_cases h5:t.kY=5
   ·rw [if_pos h5] at hf2
    obtain rfl:=Option.some.inj hf2;have:=mv hL hc hG hr (NE 1 qoq) (NE 2 qoq) (NE 3 qoq) (NE 4 qoq) hm;rwa [iB ht] at this
   ·rw [if_neg h5] at hf2
    by_cases h1:t.kY=1
    ·rw [if_pos h1] at hf2
     obtain rfl:=Option.some.inj hf2;have:=wR hL hc hG hr hl (EQ 1 h1);rwa [hta] at this
    ·rw [if_neg h1] at hf2
     by_cases h2:t.kY=2
     ·rw [if_pos h2] at hf2
      obtain rfl:=Option.some.inj hf2;have:=ut hL hc hG hr hl (NE 1 h1) (EQ 2 h2);rwa [hta] at this
     ·rw [if_neg h2] at hf2
      by_cases h3:t.kY=3
      ·rw [if_pos h3] at hf2
       obtain rfl:=Option.some.inj hf2;exact wj hL hc hG hr hl (NE 1 h1) (NE 2 h2) (EQ 3 h3)
      ·rw [if_neg h3] at hf2
       have h4:t.kY=4:=(by have:=hg.kY;omega);refine uz hL hc hr hl (NE 1 h1) (NE 2 h2) (NE 3 h3) (EQ 4 h4) fun w' hr'=>?_
       rw [hta];exact Aj hL hc hG hk H (hg.wZ h4) w' (p+1) res hr' hf2
theorem ym (hL:L.length<=1000) (hc:cap<=maxLen) (hG:aM L) (H:Fam R g cap B L E k):
 cm R g cap B L E 180 #[Zv (ZV ⟨R,0,ZU⟩)] (bR L E (k+1)):=by
 intro w p res hr hf;rw [bR] at hf;cases hm:ag L p [45] with
 |true=>
  rw [if_pos hm] at hf;exact vt hL hc hG hr hm H.pref hf
 |false=>
  rw [if_neg qow] at hf;exact ul hL hc hG hr hm H.oper hf
theorem IJ (R g cap B:Nat) (L:List Tok) (E:Nat):Fam R g cap B L E 0:=by
 constructor<;>intro w p res hr hf
 ·exact qmR
 ·exact qmR
 ·exact qmR
 ·exact qmR
 ·rw [bR] at hf;cases hf
 ·rw [ct] at hf;cases hf
 ·rw [bg] at hf;cases hf
 ·rw [bg] at hf;cases hf
theorem Kt (hL:L.length<=1000) (hc:cap<=maxLen) (hG:aM L):∀k,k<=100000->∀j,j<=k->Fam R g cap B L E j:=by
 intro k;induction k with
 |zero=>intro _ j hj;obtain rfl:j=0:=by omega
        exact IJ R g cap B L E
 |succ k ih=>
  intro hk j hj;by_cases hj2:j<=k
  ·exact ih qoq j hj2
  ·obtain rfl:j=k+1:=by omega
   have H:=ih qoq;have Hk:=H k qd
   exact ⟨LG hL hc hG fun j hj=>(H j hj).line2,K2 hL hc hG fun j hj=>(H j hj).line3,Mc hL hc hG fun j hj=>(H j hj).line4,pexpr_top hL hc hG Hk.pref,
    ym hL hc hG Hk,vK hL hc hG qoq H,De hL hc hG Hk.line1,mV hL hc hG⟩
theorem E7 (hL:L.length<=1000) (hc:cap<=maxLen) (hG:aM L) (w:World) (res:Res) (hr:RL w R g cap B L E 0) (hf:ep L E=ZV res):
 Calls ZW 130 #[Zv (ZV ⟨R,0,ZU⟩),ZZ ZY 0] w (cg w R g cap B L E res):=
 (Kt hL hc hG (8*L.length+6) qoq _ qd).line1 w 0 res hr hf
end
