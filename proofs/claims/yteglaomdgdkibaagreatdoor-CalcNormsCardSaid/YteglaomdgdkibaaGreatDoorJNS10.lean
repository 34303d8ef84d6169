import Derived.Test.YteglaomdgdkibaaGreatDoorJNS09
import Derived.Maps.AppendAt
import Derived.Deep.LoopGhost
import Derived.Test.YteglaomdgdkibaaGreatDoorJQNSP
set_option linter.all false
set_option maxHeartbeats 0
set_option maxRecDepth 99999
namespace Go.Proofs.YteglaomdgdkibaaGreatDoor
open Go.RowKit
open Value renaming int→ZZ,string→Zx,slice→Zw,pointer→Zv,agg→Zu
open IntKind renaming i64→ZY
open Go renaming World→Z3
open Tryz
open Tryz renaming prog→ZW
open Option renaming some→ZV,none→ZU
open Bool renaming false→Zz,true→Zy
variable {f:Nat->Option Res}{res:Res}{w w':World}{B E R base cap g k p:Nat}{L:List Tok}{v:Value}{xs:List (V8×Tr)}{P:Nat->Prop}{x:V8}{t:Tr}{c:Bool}
def Foll2 (r1:Res) (f:Tr->Nat->Option Res) (res:Res):Prop:=match r1 with
 |.ok t q=>f t q=ZV res
 |.bad z=>res=.bad z
theorem eC {a:Option Res} {f:Tr->Nat->Option Res} (h:Res.next a f=ZV res):∃r1,a=ZV r1/\Foll2 r1 f res:=by
 cases a with
 |none=>cases h
 |some r=>
  cases r with
  |ok t q=>exact ⟨_,rfl,h⟩
  |bad z=>exact ⟨_,rfl,(Option.some.inj h).symm⟩
def BC (L:List Tok) (E k:Nat) (w:List UInt8) (p:Nat):Option Res:=az L E p [40] fun q=>
 if w=[73,70] then Res.next (ak L E k 1 q) fun a q=>az L E q [44] fun q=>Res.next (ak L E k 1 q) fun b q=>az L E q [44] fun q=>Res.next (ak L E k 1 q) fun c q=>az L E q [41] fun q=>ZV (.ok (ba [73,70] [a,b,c]) q)
 else bx L E k w [] q
theorem ul (hL:L.length<=1000) (hc:cap<=maxLen) (hG:aM L) (hr:RL w R g cap B L E p) (hm:ag L p [45]=Zz) (hP:cm R g cap B L E 232 #[Zv (ZV ⟨R,0,ZU⟩)] f) (hf:f p=ZV res):
 Calls ZW 180 #[Zv (ZV ⟨R,0,ZU⟩)] w (cg w R g cap B L E res):=by
 have hT:=qdY;have HP:=qgy;have HF:=qf hf;have HM:=qgz;obtain ⟨HR,lR,lB⟩:=qav;clear hP hf hm hr;go_enter func180,ntmps180;go_wp2_with fail;refine (hT.out _ (have hv:=HR.out;qnk)).mono ?_;rintro e w1 ⟨rfl,r1,b1⟩;have HR1:Hid (RL w1 R g cap B L E p):=qf (by have h:=r1;rw [show ag L p [45]=Zz from HM.out] at h;exact h);have h1:=qm;obtain ⟨y1,zk1⟩:=qad;obtain ⟨k10,k11,k12,k13,k14,k15,k16,k17⟩:=qo;obtain ⟨kf10,kf11,kf12,kf13,kf14,kf15,kf16,kf17⟩:=qw;have e1:ag L p [45]=Zz:=HM.out;clear r1 b1;go_wp2_with fail;refine .mono qrH ?_;rintro e w2 H2;cases res with
 |bad z=>
  exact qlc
 |ok t q=>
  obtain ⟨⟨x0,x1,x2,x3,x4,x5,xw,xA,xl,xc⟩,rfl,v2,r2,b2⟩:=H2;obtain ⟨HR2,HVx2⟩:=qar;have h2:=qC;obtain ⟨y2,zk2⟩:=qaP;obtain ⟨k20,k21,k22,k23,k24,k25,k26,k27⟩:=qD;obtain ⟨kf20,kf21,kf22,kf23,kf24,kf25,kf26,kf27⟩:=qq;clear r2 v2 b2 k10 k11 k12 k13 k14 k15 k16 k17 kf10 kf11 kf12 kf13 kf14 kf15 kf16 kf17 zk1;dsimp only [V8.val];go_wp2_with fail;exact bodyPost_ret (v:=Zu #[ZZ ZY x0,ZZ ZY x1,ZZ ZY x2,ZZ ZY x3,ZZ ZY x4,ZZ ZY x5,.string xw,Zw xA xl xc]) qps rfl ⟨⟨x0,x1,x2,x3,x4,x5,xw,xA,xl,xc⟩,rfl,((HVx2.out.kept qny).imp fun b (hb:w.heap.size<b)=>Nat.le_of_lt hb),(have hv:=HR2.out;qnk),(have hv:=h2;qni)⟩
theorem vt (hL:L.length<=1000) (hc:cap<=maxLen) (hG:aM L) (hr:RL w R g cap B L E p) (hm:ag L p [45]=Zy) (hP:cm R g cap B L E 180 #[Zv (ZV ⟨R,0,ZU⟩)] f) (hf:Res.next (f (p+1)) (fun t q=>ZV (.ok (jM t) q))=ZV res):
 Calls ZW 180 #[Zv (ZV ⟨R,0,ZU⟩)] w (cg w R g cap B L E res):=by
 have hT:=qdY;have HP:=qgy;obtain ⟨r1,hf1,hf2⟩:=eC hf;obtain ⟨HF,HK⟩:=qdF;have HM:=qgz;obtain ⟨HR,lR,lB⟩:=qav;clear hf1 hf2 hP hf hm hr;go_enter func180,ntmps180;go_wp2_with fail;refine (hT.out _ (have hv:=HR.out;qnk)).mono ?_;rintro e w1 ⟨rfl,r1,b1⟩;have HR1:Hid (RL w1 R g cap B L E (p+1)):=qf (by have h:=r1;rw [show ag L p [45]=Zy from HM.out] at h;exact h);have h1:=qm;obtain ⟨y1,zk1⟩:=qad;obtain ⟨k10,k11,k12,k13,k14,k15,k16,k17⟩:=qo;obtain ⟨kf10,kf11,kf12,kf13,kf14,kf15,kf16,kf17⟩:=qw;have e1:ag L p [45]=Zy:=HM.out;clear r1 b1;go_wp2_with fail;refine .mono qrI ?_;rintro e w2 H2;cases r1 with
 |bad z=>
  exact qmm
 |ok t q=>
  obtain ⟨⟨x0,x1,x2,x3,x4,x5,xw,xA,xl,xc⟩,rfl,v2,r2,b2⟩:=H2;obtain ⟨HR2,HVx2⟩:=qar;have h2:=qC;obtain ⟨y2,zk2⟩:=qaP;obtain ⟨k20,k21,k22,k23,k24,k25,k26,k27⟩:=qD;obtain ⟨kf20,kf21,kf22,kf23,kf24,kf25,kf26,kf27⟩:=qq;clear r2 v2 b2 k10 k11 k12 k13 k14 k15 k16 k17 kf10 kf11 kf12 kf13 kf14 kf15 kf16 kf17 zk1;dsimp only [V8.val];go_wp2_with fail;have hk:res=.ok (jM t) q:=(Option.some.inj HK.out).symm;subst hk;exact bodyPost_ret (v:=Zu #[ZZ ZY 3,ZZ ZY 0,ZZ ZY 0,ZZ ZY 0,ZZ ZY 0,ZZ ZY 0,Zx ⟨#[]⟩,Zw (ZV ⟨w2.heap.size,0,ZU⟩) 1 1]) qps rfl ⟨⟨3,0,0,0,0,0,⟨#[]⟩,ZV ⟨w2.heap.size,0,ZU⟩,1,1⟩,rfl,(TV.imp (TV.node1 3 [] ⟨x0,x1,x2,x3,x4,x5,xw,xA,xl,xc⟩ (ZV t) (show w.heap.size<w2.heap.size by omega) qnV ⟨qnp,qnp,qnp,qnp,qnp,qnp,qnp,qnp⟩ (HVx2.out.kept qny)) fun b (hb:w.heap.size<b)=>Nat.le_of_lt hb),(have hv:=HR2.out;qnk),(have hv:=h2;qni)⟩
theorem wR (hL:L.length<=1000) (hc:cap<=maxLen) (hG:aM L) (hr:RL w R g cap B L E p) (hl:p<L.length) (h1:((aj L E p).kY==1)=Zy):
 Calls ZW 232 #[Zv (ZV ⟨R,0,ZU⟩)] w (cg w R g cap B L E (.ok (ik (aj L E p).num) (p+1))):=by
 have hN:=qbh;have hle:=hr.le;generalize aj L E p=a at*;unfold cy at*;obtain ⟨HR,lR,lB⟩:=qav;clear hr;go_enter func232,ntmps232;go_wp2_with fail;refine .mono qrD ?_;rintro e w1 ⟨rfl,r1,b1⟩;have HR1:=qdC;have h1:=qm;obtain ⟨y1,zk1⟩:=qad;obtain ⟨k10,k11,k12,k13,k14,k15,k16,k17⟩:=qo;obtain ⟨kf10,kf11,kf12,kf13,kf14,kf15,kf16,kf17⟩:=qw;clear r1 b1;go_wp2_with fail;exact bodyPost_ret (v:=Zu #[ZZ ZY (0),ZZ ZY (a.num),ZZ ZY (0),ZZ ZY (0),ZZ ZY (0),ZZ ZY (0),Zx ⟨#[]⟩,Zw ZU 0 0]) qoC rfl ⟨kg (0) (a.num) (0) (0) (0) (0),rfl,iy _ _ _ _ _ _,(have hv:=HR1.out;qnk),(have hv:=h1;qni)⟩
theorem ut (hL:L.length<=1000) (hc:cap<=maxLen) (hG:aM L) (hr:RL w R g cap B L E p) (hl:p<L.length) (h1:((aj L E p).kY==1)=Zz) (h2:((aj L E p).kY==2)=Zy):
 Calls ZW 232 #[Zv (ZV ⟨R,0,ZU⟩)] w (cg w R g cap B L E (.ok (fG (aj L E p).col (aj L E p).row) (p+1))):=by
 have hN:=qbh;have hle:=hr.le;generalize aj L E p=a at*;unfold cy at*;obtain ⟨HR,lR,lB⟩:=qav;clear hr;go_enter func232,ntmps232;go_wp2_with fail;refine .mono qrD ?_;rintro e w1 ⟨rfl,r1,b1⟩;have HR1:=qdC;have h1:=qm;obtain ⟨y1,zk1⟩:=qad;obtain ⟨k10,k11,k12,k13,k14,k15,k16,k17⟩:=qo;obtain ⟨kf10,kf11,kf12,kf13,kf14,kf15,kf16,kf17⟩:=qw;clear r1 b1;go_wp2_with fail;exact bodyPost_ret (v:=Zu #[ZZ ZY (1),ZZ ZY (0),ZZ ZY (a.col),ZZ ZY (a.row),ZZ ZY (a.col),ZZ ZY (a.row),Zx ⟨#[]⟩,Zw ZU 0 0]) qoC rfl ⟨kg (1) (0) (a.col) (a.row) (a.col) (a.row),rfl,iy _ _ _ _ _ _,(have hv:=HR1.out;qnk),(have hv:=h1;qni)⟩
theorem wj (hL:L.length<=1000) (hc:cap<=maxLen) (hG:aM L) (hr:RL w R g cap B L E p) (hl:p<L.length) (h1:((aj L E p).kY==1)=Zz) (h2:((aj L E p).kY==2)=Zz) (h3:((aj L E p).kY==3)=Zy):
 Calls ZW 232 #[Zv (ZV ⟨R,0,ZU⟩)] w (cg w R g cap B L E (.ok bK (p+1))):=by
 have hN:=qbh;have hle:=hr.le;generalize aj L E p=a at*;unfold cy at*;obtain ⟨HR,lR,lB⟩:=qav;clear hr;go_enter func232,ntmps232;go_wp2_with fail;refine .mono qrD ?_;rintro e w1 ⟨rfl,r1,b1⟩;have HR1:=qdC;have h1:=qm;obtain ⟨y1,zk1⟩:=qad;obtain ⟨k10,k11,k12,k13,k14,k15,k16,k17⟩:=qo;obtain ⟨kf10,kf11,kf12,kf13,kf14,kf15,kf16,kf17⟩:=qw;clear r1 b1;go_wp2_with fail;exact bodyPost_ret (v:=Zu #[ZZ ZY (2),ZZ ZY (0),ZZ ZY (0),ZZ ZY (0),ZZ ZY (0),ZZ ZY (0),Zx ⟨#[]⟩,Zw ZU 0 0]) qoC rfl ⟨kg (2) (0) (0) (0) (0) (0),rfl,iy _ _ _ _ _ _,(have hv:=HR1.out;qnk),(have hv:=h1;qni)⟩
theorem mv (hL:L.length<=1000) (hc:cap<=maxLen) (hG:aM L) (hr:RL w R g cap B L E p) (h1:((aj L E p).kY==1)=Zz) (h2:((aj L E p).kY==2)=Zz) (h3:((aj L E p).kY==3)=Zz) (h4:((aj L E p).kY==4)=Zz) (hm:ag L p [40]=Zz):
 Calls ZW 232 #[Zv (ZV ⟨R,0,ZU⟩)] w (cg w R g cap B L E (.bad (whr L E p))):=by
 have hN:=qbh;have hle:=hr.le;have hT:=iR hG E p (s:=[40]) qnv qnv;rw [hm] at hT;rw [nS];clear hm;generalize aj L E p=a at*;unfold cy at*;obtain ⟨HR,lR,lB⟩:=qav;clear hr;go_enter func232,ntmps232;go_wp2_with fail;refine .mono qrD ?_;rintro e w1 ⟨rfl,_,b1⟩;have h1:=qm;clear b1;go_wp2_with fail;exact ⟨rfl,rfl,(have hv:=h1;qni)⟩
theorem vz (hL:L.length<=1000) (hc:cap<=maxLen) (hG:aM L) (hr:RL w R g cap B L E p) (hl:p<L.length) (h1:((aj L E p).kY==1)=Zz) (h2:((aj L E p).kY==2)=Zz) (h3:((aj L E p).kY==3)=Zz) (h4:((aj L E p).kY==4)=Zz) (hm:ag L p [40]=Zy) (hP:cm R g cap B L E 130 #[Zv (ZV ⟨R,0,ZU⟩),ZZ ZY 0] f) (hf:Res.next (f (p+1)) (fun t q=>az L E q [41] fun q=>ZV (.ok t q))=ZV res):
 Calls ZW 232 #[Zv (ZV ⟨R,0,ZU⟩)] w (cg w R g cap B L E res):=by
 have hN:=qbh;have hle:=hr.le;have hT:=iR hG E p (s:=[40]) qnv qnv;rw [hm] at hT;have HP:=qgy;obtain ⟨r1,hf1,hf2⟩:=eC hf;obtain ⟨HF,HK⟩:=qdF;have hMon:=qf (fun w q hr hm=>jE (w:=w) (R:=R) (g:=g) (cap:=cap) (B:=B) (L:=L) (E:=E) (p:=q) hL hc hG ⟨#[41]⟩ qnv qnv hr hm);have hMoff:=qf (fun w q hr hm=>i7 (w:=w) (R:=R) (g:=g) (cap:=cap) (B:=B) (L:=L) (E:=E) (p:=q) hL hc hG ⟨#[41]⟩ qnv qnv hr hm);clear hP hf hf1 hf2 hm;generalize aj L E p=a at*;unfold cy at*;obtain ⟨HR,lR,lB⟩:=qav;clear hr;go_enter func232,ntmps232;go_wp2_with fail;refine .mono qrD ?_;rintro e w1 ⟨rfl,r1,b1⟩;have HR1:=qdC;have h1:=qm;obtain ⟨y1,zk1⟩:=qad;obtain ⟨k10,k11,k12,k13,k14,k15,k16,k17⟩:=qo;obtain ⟨kf10,kf11,kf12,kf13,kf14,kf15,kf16,kf17⟩:=qw;clear r1 b1;go_wp2_with fail;refine .mono qrI ?_;rintro e w2 H2;cases r1 with
 |bad z=>
  exact qmm
 |ok t q=>
  obtain ⟨⟨x0,x1,x2,x3,x4,x5,xw,xA,xl,xc⟩,rfl,v2,r2,b2⟩:=H2;obtain ⟨HR2,HVx2⟩:=qar;have h2:=qC;obtain ⟨y2,zk2⟩:=qaP;obtain ⟨k20,k21,k22,k23,k24,k25,k26,k27⟩:=qD;obtain ⟨kf20,kf21,kf22,kf23,kf24,kf25,kf26,kf27⟩:=qq;clear r2 v2 b2 k10 k11 k12 k13 k14 k15 k16 k17 kf10 kf11 kf12 kf13 kf14 kf15 kf16 kf17 zk1;dsimp only [V8.val];go_wp2_with fail;have hk:az L E q [41] (fun q=>ZV (.ok t q))=ZV res:=HK.out;unfold az at hk;cases hm2:ag L q [41] with
  |false=>
   exact qiB
  |true=>
   rw [if_pos hm2] at hk;obtain rfl:=Option.some.inj hk;have HM:=qf hm2;clear hm2 hk;refine .mono qrJ ?_;rintro e w3 ⟨rfl,r3,b3⟩;have HR3:Hid (RL w3 R g cap B L E (q+1)):=qf (r3);have HVx3:Hid (TV w3 (fun b=>w.heap.size<b) ⟨x0,x1,x2,x3,x4,x5,xw,xA,xl,xc⟩ (ZV t)):=qf (TV.kept HVx2.out (Kept.but qny b3 (by show ¬(w.heap.size<R);omega)));obtain ⟨h3,y3,zk3⟩:=qae;obtain ⟨k30,k31,k32,k33,k34,k35,k36,k37⟩:=qR;obtain ⟨kf30,kf31,kf32,kf33,kf34,kf35,kf36,kf37⟩:=qJ;have zi3:w2.heap.size<w3.heap.size:=qqh;have Hi3:C8 w3 (w2.heap.size) (ZZ ZY x0) (ZZ ZY x1) (ZZ ZY x2) (ZZ ZY x3) (ZZ ZY x4) (ZZ ZY x5) (.string xw) (Zw xA xl xc):=(by refine ⟨?_,?_,?_,?_,?_,?_,?_,?_⟩<;>exact b3.cell (show w2.heap.size≠R by omega) qnp);obtain ⟨i30,i31,i32,i33,i34,i35,i36,i37⟩:=Hi3;have Hif3:F8 w3 (w2.heap.size):=(by refine ⟨?_,?_,?_,?_,?_,?_,?_,?_⟩<;>exact b3.frozen (show w2.heap.size≠R by omega) qnt qnp);obtain ⟨if30,if31,if32,if33,if34,if35,if36,if37⟩:=Hif3;clear r3 b3 k20 k21 k22 k23 k24 k25 k26 k27 kf20 kf21 kf22 kf23 kf24 kf25 kf26 kf27 zk2;go_wp2_with fail
   exact bodyPost_ret (v:=Zu #[ZZ ZY x0,ZZ ZY x1,ZZ ZY x2,ZZ ZY x3,ZZ ZY x4,ZZ ZY x5,.string xw,Zw xA xl xc]) (by simp [results,results232,go_sem,k30,k31,k32,k33,k34,k35,k36,k37,i30,i31,i32,i33,i34,i35,i36,i37,zk3,zi3]) rfl ⟨⟨x0,x1,x2,x3,x4,x5,xw,xA,xl,xc⟩,rfl,((HVx3.out.kept qny).imp fun b (hb:w.heap.size<b)=>Nat.le_of_lt hb),(have hv:=HR3.out;qnk),(have hv:=h3;qni)⟩
def dI (x:V8):List Value:=[ZZ ZY x.n0,ZZ ZY x.n1,ZZ ZY x.n2,ZZ ZY x.n3,ZZ ZY x.n4,ZZ ZY x.n5,.string x.s,Zw x.A x.len x.cap]
def jK:List (V8×Tr)->List Value
 |[]=>[]
 |p::r=>dI p.1++jK r
theorem tH:∀(l:List (V8×Tr)) (p:V8×Tr),jK (l++[p])=jK l++dI p.1
 |[],p=>by simp [jK]
 |q::r,p=>by simp only [List.cons_append,jK,tH r p,List.append_assoc]
theorem zC:∀(l:List (V8×Tr)) (i k:Nat) (p:V8×Tr),l[i]? =ZV p->k<8->(jK l)[i*8+k]? =(dI p.1)[k]?
 |[],i,k,p,h,_=>by simp at h
 |q::r,0,k,p,h,hk=>by
  simp at h;subst h
  show (dI q.1++jK r)[0*8+k]? =_
  rw [Nat.zero_mul,Nat.zero_add,List.getElem?_append_left (by simpa [dI] using hk)]
 |q::r,i+1,k,p,h,hk=>by
  have:=zC r i k p qoA hk;show (dI q.1++jK r)[(i+1)*8+k]? =_
  rw [List.getElem?_append_right (by simp [dI];omega),show (i+1)*8+k - (dI q.1).length=i*8+k from by simp [dI];omega];exact this
structure Row (base:Nat) (wr:Z3) (v:Value) (xs:List (V8×Tr)):Prop where
 own:wr.ownsRow base 33 8 v xs.length (jK xs)
 kid:∀(i:Nat) (x:V8) (t:Tr),xs[i]? =ZV (x,t)->TV wr (fun b=>base<=b/\ZV b≠v.ownBlock) x (ZV t)
theorem But.grownBy (h:But R w w'):w.grownBy w' (ZV R):=⟨h.os,h.tape,h.output,h.size,fun k hk hn=>h.block k hk fun e=>hn qrb⟩
theorem Row.but (h:Row base w v xs) (hb:But R w w') (hR:R<base):Row base w' v xs:=by
 refine ⟨h.own.kept hb.grownBy ?_,fun i x t hi=>(h.kid i x t hi).kept ⟨hb.size,fun g hg hl=>hb.block g hl fun e=>by have:=hg.1;omega⟩⟩;cases hv:v.ownBlock with
 |none=>exact .inl rfl
 |some k=>exact .inr fun e=>by have:=(h.own.lt k hv).1;have:=Option.some.inj e;omega
theorem TV.lowT {ot:Option Tr} (h:TV w P x ot):TV w (fun b=>P b/\b<w.heap.size) x ot:=by
 cases ot with
 |none=>trivial
 |some t=>obtain ⟨A,cap,hx,hk⟩:=h;exact ⟨A,cap,hx,hk.low⟩
theorem Row.one (hb:base<=w.heap.size) (hx:TV w (fun b=>base<=b) x (ZV t)):
 Row base (w.alloc (.cells (dI x).toArray 33)) (Zw (ZV ⟨w.heap.size,0,ZU⟩) 1 1) [(x,t)]:=by
 refine ⟨⟨rfl,.inr ⟨w.heap.size,1,_,rfl,hb,heap_alloc_new w _,qd,qnv,rfl,(by simp [jK,dI])⟩⟩,fun i y u hi=>?_⟩;match i,hi with
 |0,hi=>
  simp at hi
  obtain ⟨rfl,rfl⟩:=hi;refine (hx.lowT.kept (Kept.of_below qa)).imp fun b hb=>⟨hb.1,fun e=>?_⟩
  have e2:b=w.heap.size:=Option.some.inj e;have:=hb.2;omega
theorem Row.push {v':Value} (h:Row base w v xs) (hx:TV w (fun b=>base<=b/\ZV b≠v.ownBlock) x (ZV t))
 (ho:w'.ownsRow base 33 8 v' (xs.length+1) (jK xs++dI x)) (hg:w.grownBy w' v.ownBlock) (ha:v'.ownBlock=v.ownBlock\/v'.ownBlock=ZV w.heap.size):Row base w' v' (xs++[(x,t)]):=by
 have ci:∀{x:V8} {t:Tr},TV w (fun b=>base<=b/\ZV b≠v.ownBlock) x (ZV t)->TV w' (fun b=>base<=b/\ZV b≠v'.ownBlock) x (ZV t):=fun hx=>by
  refine (hx.lowT.kept ⟨hg.size,fun g hp hl=>hg.block g hl hp.1.2⟩).imp fun b hb=>⟨hb.1.1,?_⟩
  rcases ha with ha|ha
  ·rw [ha];exact hb.1.2
  ·rw [ha];intro e;have:=Option.some.inj e;omega
 refine ⟨?_,fun i y u hi=>?_⟩
 ·rw [tH];simpa using ho
 ·by_cases hl:i<xs.length
  ·rw [List.getElem?_append_left hl] at hi
   exact ci (h.kid i y u hi)
  ·rw [List.getElem?_append_right qoq] at hi
   have e:i - xs.length=0:=by
    cases hh:i - xs.length with
    |zero=>rfl
    |succ n=>rw [hh] at hi;simp at hi
   rw [e] at hi;simp at hi
   obtain ⟨rfl,rfl⟩:=hi;exact ci hx
theorem KS {e:TypeId} {n:Nat} {xs:List Value} (h:w.ownsRow base e 8 (Zw (ZV ⟨g,0,ZU⟩) n cap) n xs):n<=cap:=qkN
theorem Row.kZ (h:Row base w v xs) (hne:xs≠[]):
 ∃g0 cp,v=Zw (ZV ⟨g0,0,ZU⟩) xs.length cp/\base<=g0/\(g0<w.heap.size/\(xs.map Prod.snd).length<=cp)/\KLc w (fun b=>base<=b) (xs.map Prod.snd) g0 0:=by
 have h':=h.own;rcases h'.2 with ⟨_,hl⟩|⟨g0,cp,cur,rfl,_⟩
 ·exact absurd (List.eq_nil_of_length_eq_zero hl) hne
 ·refine ⟨g0,cp,rfl,(h'.lt g0 rfl).1,⟨(h'.lt g0 rfl).2,(by rw [List.length_map];exact KS h')⟩,KLc.of fun i t hi=>?_⟩
  rw [List.getElem?_map] at hi;cases hx:xs[i]? with
  |none=>rw [hx] at hi;cases hi
  |some xt=>
   obtain ⟨x,t'⟩:=xt;rw [hx] at hi;obtain rfl:t'=t:=Option.some.inj hi;have hlt:i<xs.length:=(List.getElem?_eq_some_iff.1 hx).1;have c:=fun k (hk:k<8)=>(h'.cellAt (i*8+k) qoq).trans (zC xs i k (x,t') hx hk)
   obtain ⟨A,cap',hxv,hk⟩:=h.kid i x t' hx;rw [Nat.zero_add,Nat.mul_comm];subst hxv;exact ⟨A,cap',⟨c 0 qoq,c 1 qoq,c 2 qoq,c 3 qoq,c 4 qoq,c 5 qoq,c 6 qoq,c 7 qoq⟩,hk.imp fun b hb=>hb.1⟩
theorem vE {g0 cp:Nat} {ks:List Tr} (k:Int) (wd:List UInt8) (hP:P g0) (hl:g0<w.heap.size) (h:KLc w P ks g0 0) (hc:ks.length<=cp:=by assumption):
 TV w P ⟨k,0,0,0,0,0,⟨wd.toArray⟩,ZV ⟨g0,0,ZU⟩,ks.length,cp⟩ (ZV (.mk k 0 0 0 0 0 wd ks)):=
 ⟨ZV ⟨g0,0,ZU⟩,cp,qpT,KVc.mk' hc (.inr ⟨g0,0,rfl,hP,hl,h⟩)⟩
theorem t8:(prog.info? 33).map (fun i=>(i.zero,i.size,i.bytes))=ZV (ZV (Zu #[ZZ ZY 0,ZZ ZY 0,ZZ ZY 0,ZZ ZY 0,ZZ ZY 0,ZZ ZY 0,Zx ⟨#[]⟩,Zw ZU 0 0]),8,88):=by kernel_rfl
inductive il where
 |ok (ks:List Tr) (q:Nat)
 |bad (z:Nat)
def rT (w:Z3) (R g cap B:Nat) (L:List Tok) (E:Nat):il->Ending->Z3->Prop
 |.ok ks q,e,w'=>∃g0 cp,e=.returned (Zw (ZV ⟨g0,0,ZU⟩) ks.length cp)/\(w.heap.size<=g0/\(g0<w'.heap.size/\ks.length<=cp)/\KLc w' (fun b=>w.heap.size<=b) ks g0 0)/\RL w' R g cap B L E q/\But R w w'
 |.bad z,e,w'=>e=.panicked (rn z)/\But R w w'
def ju (L:List Tok) (E:Nat):Nat->Bool->List Tr->Nat->Option il
 |0,_,_,_=>ZU
 |k+1,c,acc,p=>match bg L E k c p with
  |none=>ZU
  |some (.bad z)=>ZV (.bad z)
  |some (.ok t q)=>if ag L q [44]=Zy then ju L E k c (acc++[t]) (q+1) else ZV (.ok (acc++[t]) q)
theorem rq {L:List Tok} {E:Nat} {w:List UInt8}:∀{k:Nat} {acc:List Tr} {p:Nat} {res:Res},bx L E k w acc p=ZV res->
 ∃lr,ju L E k (w==[67,79,85,78,84]) acc p=ZV lr/\(match lr with|.bad z=>res=.bad z|.ok ks q=>az L E q [41] (fun q=>ZV (.ok (ba w ks) q))=ZV res)
 |0,acc,p,res,h=>by rw [bx] at h;cases h
 |k+1,acc,p,res,h=>by
  rw [bx] at h;rw [ju];cases hi:bg L E k (w==[67,79,85,78,84]) p with
  |none=>rw [hi] at h;cases h
  |some r=>
   rw [hi] at h;cases r with
   |bad z=>exact ⟨_,rfl,(Option.some.inj h).symm⟩
   |ok t q=>
    have h2:(if ag L q [44]=Zy then bx L E k w (acc++[t]) (q+1) else az L E q [41] fun q=>ZV (.ok (ba w (acc++[t])) q))=ZV res:=h;by_cases hm:ag L q [44]=Zy
    ·rw [if_pos hm] at h2
     obtain ⟨lr,h3,h4⟩:=rq h2;exact ⟨lr,(by show (if ag L q [44]=Zy then _ else _)=_;rw [if_pos hm];exact h3),h4⟩
    ·rw [if_neg hm] at h2
     exact ⟨_,(by show (if ag L q [44]=Zy then _ else _)=_;rw [if_neg hm]),h2⟩
def nJ (L:List Tok) (E n:Nat) (c:Bool) (ks:List Tr) (q:Nat) (lr:il):Prop:=(if ag L q [44]=Zy then ju L E n c ks (q+1) else ZV (.ok ks q))=ZV lr
theorem sX {acc:List Tr} {lr:il} (h:ju L E k c acc p=ZV lr):
 ∃k' r1,k=k'+1/\bg L E k' c p=ZV r1/\(match r1 with|.bad z=>lr=.bad z|.ok t q=>nJ L E k' c (acc++[t]) q lr):=by
 cases k with
 |zero=>rw [ju] at h;cases h
 |succ k'=>
  rw [ju] at h;cases hi:bg L E k' c p with
  |none=>rw [hi] at h;cases h
  |some r=>
   rw [hi] at h;cases r with
   |bad z=>exact ⟨k',_,rfl,hi,(Option.some.inj h).symm⟩
   |ok t q=>exact ⟨k',_,rfl,hi,h⟩
theorem tu (hL:L.length<=1000) (hc:cap<=maxLen) (hG:aM L) {F:Nat} (hE:∀(args:Array Value) (w:Z3),(callFunc F args).run ZW w=.ok (.enter F args) w)
 (hP:∀j,j<=k->cm R g cap B L E F #[Zv (ZV ⟨R,0,ZU⟩)] (bg L E j c)) (w:Z3) (p:Nat) (lr:il) (hr:RL w R g cap B L E p) (hf:ju L E k c [] p=ZV lr) (hk:k<=100000):
 Calls ZW 315 #[Zv (ZV ⟨R,0,ZU⟩),.func (.func F) #[Zv (ZV ⟨R,0,ZU⟩)] #[]] w (rT w R g cap B L E lr):=by
 obtain ⟨i0,hi0,hz0,hz1,hz2⟩:=info_parts t8;obtain ⟨HI,HZ0,HZ1,HZ2⟩:=qbC;clear hi0 hz0 hz1 hz2;obtain ⟨k1,r1,rfl,hf1,hf2⟩:=sX hf;have HP:=qgy;have HP1:=qf (hP k1 qoq);obtain ⟨HF,HK⟩:=qdF;obtain ⟨HR,lR,lB⟩:=qav;clear hP hf hf1 hf2 hr;go_enter func315,ntmps315;go_wp2_with fail;refine .mono qrK ?_;rintro e w1 H1;cases r1 with
 |bad z=>
  exact qml
 |ok t q=>
  obtain ⟨⟨x0,x1,x2,x3,x4,x5,xw,xA,xl,xc⟩,rfl,v1,r1,b1⟩:=H1;obtain ⟨HR1,HVx1,b1'⟩:=qdc;have h1:=qm;have y1:w.heap.size<=w1.heap.size:=h1.size;clear r1 v1 b1;dsimp only [V8.val];go_wp2_with fail;have HRow:=qf (Row.one y1 HVx1.out);have HKK:Hid (nJ L E k1 c [t] q lr):=qf HK.out;clear HVx1 HK;go_loopg [5] k1 (fun n v wr=>∃(xs:List (V8×Tr)) (q:Nat),n<=k1/\xs≠[]/\xs.length+n<=k1+1/\Hid (Row w.heap.size wr v xs)/\Hid (RL wr R g cap B L E q)/\Hid (But R w wr)/\Hid (nJ L E n c (xs.map Prod.snd) q lr))
  case atStart=>
   exact ⟨[(⟨x0,x1,x2,x3,x4,x5,xw,xA,xl,xc⟩,t)],q,qd,qns,qnu,HRow,qf (HR1.out.alloc _),qf (h1.alloc _),HKK⟩
  case round=>
   obtain ⟨xs,q2,hn,hne,hlen,HW2,HR2,H2,HL2⟩:=hrel;have h2:=H2.out;have y2:=h2.size;have hT:=qf (fun w hr=>jn (w:=w) (R:=R) (g:=g) (cap:=cap) (B:=B) (L:=L) (E:=E) (p:=q2) hL hc hG ⟨#[44]⟩ qnv qnv hr);clear HRow HKK HR1 h1 y1 HF HP1 H2;cases hm:ag L q2 [44] with
   |false=>
    have HM:=qgz;have hlr:lr=.ok (xs.map Prod.snd) q2:=(by have h:=HL2.out;unfold nJ at h;rw [if_neg qow] at h;exact (Option.some.inj h).symm);subst hlr;obtain ⟨g0,cp,rfl,hg0,hg1,hkl⟩:=HW2.out.kZ hne;have HKL:=qf hkl;clear hm HL2 HW2 hkl;go_wp2_with fail;refine (hT.out _ HR2.out).mono ?_;rintro e w3 ⟨rfl,r3,b3⟩;have HR3:RL w3 R g cap B L E q2:=(by have h:=r3;rw [show ag L q2 [44]=Zz from HM.out] at h;exact h);have h3:=h2.trans b3;have e1:ag L q2 [44]=Zz:=HM.out;have HKL3:=KLc.stay (w':=w3) (b3.kept' (B:=w.heap.size) qoq) hg0 HKL.out;have hs3:=b3.size;clear r3 b3;go_wp2_with fail;exact bodyPost_ret (v:=Zw (ZV ⟨g0,0,ZU⟩) (xs.map Prod.snd).length cp) (by simp [results,results315,go_sem]) rfl ⟨g0,cp,rfl,⟨hg0,⟨qoq,hg1.2⟩,HKL3⟩,HR3,h3⟩
   |true=>
    have HM:=qgz;have hstep:ju L E gk c (xs.map Prod.snd) (q2+1)=ZV lr:=(by have h:=HL2.out;unfold nJ at h;rw [if_pos hm] at h;exact h);obtain ⟨n',r1,hgk,hf1,hf2⟩:=sX hstep;obtain ⟨HF,HK⟩:=qdF;have HP1:=qf (HP.out n' qoq);clear hm HL2 hstep hf1 hf2;go_wp2_with fail;refine (hT.out _ HR2.out).mono ?_;rintro e w3 ⟨rfl,r3,b3⟩;have HR3:Hid (RL w3 R g cap B L E (q2+1)):=qf (by have h:=r3;rw [show ag L q2 [44]=Zy from HM.out] at h;exact h);have h3:=h2.trans b3;have HW3:=qf (HW2.out.but b3 qoq);have y3:=h3.size;have e1:ag L q2 [44]=Zy:=HM.out;clear r3 b3 HW2 HR2 h2 y2;go_wp2_with fail;refine (HP1.out _ (q2+1) r1 (have hv:=HR3.out;qnk) HF.out).mono ?_;rintro e w4 H4;cases r1 with
    |bad z=>
     exact qjA
    |ok u q4=>
     obtain ⟨⟨d0,d1,d2,d3,d4,d5,dw,dA,dl,dc⟩,rfl,v4,r4,b4⟩:=H4;obtain ⟨HR4,HVd4,b4',h4,y4⟩:=qbN;clear r4 v4 b4;dsimp only [V8.val];have HW4:=qf (HW3.out.but b4' qoq);have hlt5:∀k,u5.ownBlock=ZV k->k<w3.heap.size:=fun k hk=>(HW3.out.own.lt k hk).2
     have HVV:=qf (HVd4.out.imp (Q:=fun b=>w.heap.size<=b/\ZV b≠u5.ownBlock) fun b hb=>⟨Nat.le_trans y3 hb,fun e=>by have:=hlt5 b e.symm;have hb2:w3.heap.size<=b:=hb;omega⟩);have HWA:∀ob,Hid (Row w.heap.size (w4.alloc ob) u5 xs):=fun ob=>qf (HW4.out.but (But.of_below (qb.alloc qd ob)) (show R<w.heap.size by omega))
     clear HVd4 HW3 hlt5 b4'
     go_wp2_with (at_builtin;refine wpList_append_own_at _ rfl _ _ 31 rfl w.heap.size 33 i0 (Zu #[ZZ ZY 0,ZZ ZY 0,ZZ ZY 0,ZZ ZY 0,ZZ ZY 0,ZZ ZY 0,Zx ⟨#[]⟩,Zw ZU 0 0]) 8 88 underlying31 HI.out HZ0.out HZ1.out HZ2.out rfl qnv _ _ _ rfl (HWA _).out.own ⟨w4.heap.size,0,ZU⟩ 1 1 (dI ⟨d0,d1,d2,d3,d4,d5,dw,dA,dl,dc⟩) rfl rfl ?c1 ?c2 ?c3 ?c4 ?c5 ?_)
     case c1=>
      intro j u hj;match j,hj with
      |0,hj=>exact qmP
      |1,hj=>exact qmP
      |2,hj=>exact qmP
      |3,hj=>exact qmP
      |4,hj=>exact qmP
      |5,hj=>exact qmP
      |6,hj=>exact qmP
      |7,hj=>exact qmP
     case c2=>exact qmQ
     case c3=>exact qmE
     case c4=>omega
     case c5=>first|omega|(simp;omega)
     intro v' w5 hown5 hg5 _ hat5;have HW5:=qgc;have hob:∀k,u5.ownBlock=ZV k->w.heap.size<=k:=fun k hk=>(HW4.out.own.lt k hk).1
     have g5:∀k,k<w4.heap.size->k<w.heap.size->w5.heap[k]? =w4.heap[k]? :=fun k hk hk2=>by
      exact qlw
     obtain ⟨hs5,H5⟩:=qcS
     have HR5:Hid (RL w5 R g cap B L E q4):=qf (HR4.out.keep (g5 R HR4.out.rlt qoq) (g5 g HR4.out.lt (by have:=HR4.out.lo.2.1;omega)) hs5 (HR4.out.st.keep fun p v _ hl hv=>by
      rw [World.cell?_of_block (w:=w4) (g5 p.block (Lib.lt_of_cell hv) qoq)];exact hv))
     have HN:Hid (nJ L E n' c ((xs++[((⟨d0,d1,d2,d3,d4,d5,dw,dA,dl,dc⟩:V8),u)]).map Prod.snd) q4 lr):=qf qqB;clear hown5 hg5 hat5 HVV HW4 hob g5 HK HR4 HR3 h4 h3;go_wp2_with fail;go_roundg n'
     case measure=>omega
     case rel=>exact ⟨_,q4,qoq,qns,qnu,HW5,HR5,H5,HN⟩
def ec (L:List Tok) (E k:Nat):Nat->List Tr->Nat->Option il
 |0,ks,q=>ZV (.ok ks q)
 |m+1,ks,q=>if ag L q [44]=Zy then match ak L E k 1 (q+1) with
  |none=>ZU
  |some (.bad z)=>ZV (.bad z)
  |some (.ok t q)=>ec L E k m (ks++[t]) q
  else ZV (.bad (whr L E q))
def nr (L:List Tok) (E k:Nat) (p:Nat):Option il:=match ak L E k 1 p with
 |none=>ZU
 |some (.bad z)=>ZV (.bad z)
 |some (.ok t q)=>ec L E k 2 [t] q
theorem AF {m:Nat} {ks:List Tr} {q:Nat} {lr:il} (h:ec L E k (m+1) ks q=ZV lr):
 (ag L q [44]=Zz/\lr=.bad (whr L E q))\/(ag L q [44]=Zy/\∃r1,ak L E k 1 (q+1)=ZV r1/\(match r1 with|.bad z=>lr=.bad z|.ok t q=>ec L E k m (ks++[t]) q=ZV lr)):=by
 rw [ec] at h;cases hm:ag L q [44] with
 |false=>
  rw [if_neg qow] at h;exact .inl ⟨rfl,(Option.some.inj h).symm⟩
 |true=>
  rw [if_pos hm] at h;refine .inr ⟨rfl,?_⟩;cases hl:ak L E k 1 (q+1) with
  |none=>rw [hl] at h;cases h
  |some r=>
   exact qkY
theorem yy {lr:il} (h:nr L E k p=ZV lr):
 ∃r1,ak L E k 1 p=ZV r1/\(match r1 with|.bad z=>lr=.bad z|.ok t q=>ec L E k 2 [t] q=ZV lr):=by
 unfold nr at h;cases hl:ak L E k 1 p with
 |none=>rw [hl] at h;cases h
 |some r=>
  exact qkY
theorem AR (hL:L.length<=1000) (hc:cap<=maxLen) (hG:aM L)
 (hP:cm R g cap B L E 130 #[Zv (ZV ⟨R,0,ZU⟩),ZZ ZY 0] (ak L E k 1)) (w:Z3) (p:Nat) (lr:il) (hr:RL w R g cap B L E p) (hf:nr L E k p=ZV lr):
 Calls ZW 314 #[Zv (ZV ⟨R,0,ZU⟩)] w (rT w R g cap B L E lr):=by
 obtain ⟨i0,hi0,hz0,hz1,hz2⟩:=info_parts t8;obtain ⟨HI,HZ0,HZ1,HZ2⟩:=qbC;clear hi0 hz0 hz1 hz2;obtain ⟨r1,hf1,hf2⟩:=yy hf;have HP:=qgy;obtain ⟨HF,HK⟩:=qdF;obtain ⟨HR,lR,lB⟩:=qav;clear hP hf hf1 hf2 hr;go_enter func314,ntmps314;go_wp2_with fail;refine (HP.out _ p r1 (have hv:=HR.out;qnk) HF.out).mono ?_;rintro e w1 H1;cases r1 with
 |bad z=>
  exact qml
 |ok t q=>
  obtain ⟨⟨x0,x1,x2,x3,x4,x5,xw,xA,xl,xc⟩,rfl,v1,r1,b1⟩:=H1;obtain ⟨HR1,HVx1,b1'⟩:=qdc;have h1:=qm;have y1:w.heap.size<=w1.heap.size:=h1.size;clear r1 v1 b1;dsimp only [V8.val];go_wp2_with fail;have HRow:=qf (Row.one y1 HVx1.out);have HKK:Hid (ec L E k 2 [t] q=ZV lr):=qf HK.out;clear HVx1 HK;go_loopg [3] 2 (fun n v wr=>∃(xs:List (V8×Tr)) (q:Nat),xs.length+n=3/\n<=2/\Hid (Row w.heap.size wr v xs)/\Hid (RL wr R g cap B L E q)/\Hid (But R w wr)/\Hid (ec L E k n (xs.map Prod.snd) q=ZV lr))
  case atStart=>
   exact ⟨[(⟨x0,x1,x2,x3,x4,x5,xw,xA,xl,xc⟩,t)],q,rfl,qd,HRow,qf (HR1.out.alloc _),qf (h1.alloc _),HKK⟩
  case round=>
   obtain ⟨xs,q2,hlen,hn,HW2,HR2,H2,HL2⟩:=hrel;have h2:=H2.out;have y2:=h2.size;have hne:xs≠[]:=(by rintro rfl;simp at hlen;omega);clear HRow HKK HR1 h1 y1 HF H2;obtain ⟨g0,cp,hv,hg0,hg1,hkl⟩:=HW2.out.kZ hne;subst hv;have HKL:=qf hkl;clear hkl;cases gk with
   |zero=>
    have hl3:xs.length=3:=qoq;have hlr:lr=.ok (xs.map Prod.snd) q2:=(Option.some.inj HL2.out).symm;subst hlr;have e3:(xs.map Prod.snd).length=3:=(by simp [hl3]);have HEE:=qf e3;have HR3:=HR2.out;rw [hl3];clear e3 HW2 HL2;go_wp2_with fail;exact bodyPost_ret (v:=Zw (ZV ⟨g0,0,ZU⟩) 3 cp) (by simp [results,results314,go_sem]) rfl ⟨g0,cp,(by rw [HEE.out]),⟨hg0,hg1,HKL.out⟩,HR3,h2⟩
   |succ n'=>
    have hl3:(xs.length:Int)<3:=qoq;clear HKL;rcases AF HL2.out with ⟨hm,hlr⟩|⟨hm,r1,hf1,hf2⟩
    ·subst hlr
     have HN:=qf (i7 hL hc hG ⟨#[44]⟩ qnv qnv HR2.out hm);clear hm HL2 HW2;go_wp2_with fail;refine HN.out.mono ?_;rintro e w9 ⟨rfl,b9⟩;exact ⟨rfl,rfl,h2.trans b9⟩
    ·have HN:=qf (jE hL hc hG ⟨#[44]⟩ qnv qnv HR2.out hm)
     obtain ⟨HF,HK⟩:=qdF;clear hm HL2 hf1 hf2;go_wp2_with fail;refine HN.out.mono ?_;rintro e w3 ⟨rfl,r3,b3⟩;have HR3:Hid (RL w3 R g cap B L E (q2+1)):=qf r3;have h3:=h2.trans b3;have HW3:=qf (HW2.out.but b3 qoq);have y3:=h3.size;clear r3 b3 HW2 HR2 h2 y2;go_wp2_with fail;refine (HP.out _ (q2+1) r1 (have hv:=HR3.out;qnk) HF.out).mono ?_;rintro e w4 H4;cases r1 with
     |bad z=>
      exact qjA
     |ok u q4=>
      obtain ⟨⟨d0,d1,d2,d3,d4,d5,dw,dA,dl,dc⟩,rfl,v4,r4,b4⟩:=H4;obtain ⟨HR4,HVd4,b4',h4,y4⟩:=qbN;clear r4 v4 b4;dsimp only [V8.val];have HW4:=qf (HW3.out.but b4' qoq);have hlt5:∀k,(Value.slice (ZV ⟨g0,0,ZU⟩) xs.length cp).ownBlock=ZV k->k<w3.heap.size:=fun k hk=>(HW3.out.own.lt k hk).2
      have HVV:=qf (HVd4.out.imp (Q:=fun b=>w.heap.size<=b/\ZV b≠(Value.slice (ZV ⟨g0,0,ZU⟩) xs.length cp).ownBlock) fun b hb=>⟨Nat.le_trans y3 hb,fun e=>by have:=hlt5 b e.symm;have hb2:w3.heap.size<=b:=hb;omega⟩);have HWA:∀ob,Hid (Row w.heap.size (w4.alloc ob) (Value.slice (ZV ⟨g0,0,ZU⟩) xs.length cp) xs):=fun ob=>qf (HW4.out.but (But.of_below (qb.alloc qd ob)) (show R<w.heap.size by omega))
      clear HVd4 HW3 hlt5 b4'
      go_wp2_with (at_builtin;refine wpList_append_own_at _ rfl _ _ 31 rfl w.heap.size 33 i0 (Zu #[ZZ ZY 0,ZZ ZY 0,ZZ ZY 0,ZZ ZY 0,ZZ ZY 0,ZZ ZY 0,Zx ⟨#[]⟩,Zw ZU 0 0]) 8 88 underlying31 HI.out HZ0.out HZ1.out HZ2.out rfl qnv _ _ _ rfl (HWA _).out.own ⟨w4.heap.size,0,ZU⟩ 1 1 (dI ⟨d0,d1,d2,d3,d4,d5,dw,dA,dl,dc⟩) rfl rfl ?c1 ?c2 ?c3 ?c4 ?c5 ?_)
      case c1=>
       intro j u hj;match j,hj with
       |0,hj=>exact qmP
       |1,hj=>exact qmP
       |2,hj=>exact qmP
       |3,hj=>exact qmP
       |4,hj=>exact qmP
       |5,hj=>exact qmP
       |6,hj=>exact qmP
       |7,hj=>exact qmP
      case c2=>exact qmQ
      case c3=>exact qmE
      case c4=>omega
      case c5=>first|omega|(simp;omega)
      intro v' w5 hown5 hg5 _ hat5;have HW5:=qgc;have hob:∀k,(Value.slice (ZV ⟨g0,0,ZU⟩) xs.length cp).ownBlock=ZV k->w.heap.size<=k:=fun k hk=>(HW4.out.own.lt k hk).1
      have g5:∀k,k<w4.heap.size->k<w.heap.size->w5.heap[k]? =w4.heap[k]? :=fun k hk hk2=>by
       exact qlw
      obtain ⟨hs5,H5⟩:=qcS
      have HR5:Hid (RL w5 R g cap B L E q4):=qf (HR4.out.keep (g5 R HR4.out.rlt qoq) (g5 g HR4.out.lt (by have:=HR4.out.lo.2.1;omega)) hs5 (HR4.out.st.keep fun p v _ hl hv=>by
       rw [World.cell?_of_block (w:=w4) (g5 p.block (Lib.lt_of_cell hv) qoq)];exact hv))
      have HN2:Hid (ec L E k n' ((xs++[((⟨d0,d1,d2,d3,d4,d5,dw,dA,dl,dc⟩:V8),u)]).map Prod.snd) q4=ZV lr):=qf qqB;clear hown5 hg5 hat5 HVV HW4 hob g5 HK HR4 HR3 h4 h3 HN;go_wp2_with fail;go_roundg n'
      case measure=>omega
      case rel=>exact ⟨_,q4,qnu,qoq,HW5,HR5,H5,HN2⟩
