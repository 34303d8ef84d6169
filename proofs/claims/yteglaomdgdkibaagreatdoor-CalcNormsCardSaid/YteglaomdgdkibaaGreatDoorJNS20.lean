import Derived.Test.YteglaomdgdkibaaGreatDoorJNS16
import Derived.Test.YteglaomdgdkibaaGreatDoorJNS19
import Derived.DeepKeys4
import Derived.Deep.RegionLawGrows
import Derived.Test.YteglaomdgdkibaaGreatDoorJQNSP
import Derived.Test.YteglaomdgdkibaaGreatDoorJQNSW
import Derived.Test.YteglaomdgdkibaaGreatDoorJQNSX
set_option linter.all false
set_option maxHeartbeats 0
set_option maxRecDepth 99999
namespace Go.Proofs.YteglaomdgdkibaaGreatDoor
open Go.RowKit
open Value renaming int→ZZ,string→Zx,slice→Zw,agg→Zu
open IntKind renaming i64→ZY
open Ending renaming returned→ZX
open RowKit renaming Below→Z2
open Go renaming World→Z3
open Tryz
open Tryz renaming prog→ZW
open Option renaming some→ZV,none→ZU
open Bool renaming false→Zz,true→Zy
variable {ks:List Tr}{b base g i k o:Nat}{t u:Tr}{v v0 v1 v2 v3 v4 v5 v6 v7:Value}{a d p q s x y:Int}{w w' w1:World}{L:List LkM}{C X l:List (Int×Int)}{plB:List UInt8->Bool}{R:Nat->Prop}{G:Int->Int->Int×Int}
structure Cel where
 c:Int
 r:Int
 n:Int
 f:Int
def bX (q:Cel):Int×Int:=(if q.f=0 then q.n else 0,q.f)
def cAt (x y:Int):List Cel->Option (Int×Int)
 |[]=>ZU
 |q::l=>if q.c=x/\q.r=y then ZV (bX q) else cAt x y l
def oL (x y:Int) (l:List Cel):Int×Int:=(cAt x y l).getD (0,0)
def cIn (l:List Cel) (a b c d:Int):List (Int×Int):=(ax a b c d 1024).filterMap fun p=>cAt p.1 p.2 l
mutual
def cmT (l:List Cel):Tr->Int×Int
 |.mk k n c r _ _ w ks=>
  if k=0 then (n,0)
  else if k=1 then oL c r l
  else if k=3 then (cQ [45] 0 0 ((cmL l ks).getD 0 (0,0)).1 ((cmL l ks).getD 0 (0,0)).2,cd [45] 0 0 ((cmL l ks).getD 0 (0,0)).1 ((cmL l ks).getD 0 (0,0)).2)
  else if k=4 then (cQ w ((cmL l ks).getD 0 (0,0)).1 ((cmL l ks).getD 0 (0,0)).2 ((cmL l ks).getD 1 (0,0)).1 ((cmL l ks).getD 1 (0,0)).2,cd w ((cmL l ks).getD 0 (0,0)).1 ((cmL l ks).getD 0 (0,0)).2 ((cmL l ks).getD 1 (0,0)).1 ((cmL l ks).getD 1 (0,0)).2)
  else if k=5 then
   if w=[73,70] then
    if ((cmL l ks).getD 0 (0,0)).2≠0 then (cmL l ks).getD 0 (0,0)
    else if ((cmL l ks).getD 0 (0,0)).1≠0 then (cmL l ks).getD 1 (0,0)
    else (cmL l ks).getD 2 (0,0)
   else if w=[83,85,77] then bm de (0,0) (itL l ks)
   else if w=[77,73,78] then bv cN (itL l ks)
   else if w=[77,65,88] then bv cM (itL l ks)
   else if (ks.any fun u=>u.kY==2)=Zy then (0,3)
   else (((itL l ks).length:Int),0)
  else (0,3)
def cmL (l:List Cel):List Tr->List (Int×Int)
 |[]=>[]
 |t::ts=>cmT l t::cmL l ts
def itL (l:List Cel):List Tr->List (Int×Int)
 |[]=>[]
 |t::ts=>(if t.kY=6 then cIn l t.c1 t.r1 t.c2 t.r2 else [cmT l t])++itL l ts
end
def ofV (l:List Cel) (t:Tr):Int×Int:=if bz t=Zy then cmT l t else (0,3)

theorem j8 {l:List Cel}:∀{ks:List Tr} {i:Nat} {u:Tr},ks[i]? =ZV u->(cmL l ks).getD i (0,0)=cmT l u
 |[],i,u,h=>by simp at h
 |t::ts,0,u,h=>by rw [cmL];simp at h;subst h;rfl
 |t::ts,i+1,u,h=>by rw [cmL];simp at h;rw [List.getD_cons_succ];exact j8 h
theorem zo {l:List Cel}:∀(a b:List Tr),itL l (a++b)=itL l a++itL l b
 |[],b=>by rw [itL];rfl
 |t::ts,b=>by rw [List.cons_append,itL,itL,zo ts b,List.append_assoc]
theorem o8 {l:List Cel} (h:ks[i]? =ZV u):itL l (ks.take (i+1))=itL l (ks.take i)++(if u.kY=6 then cIn l u.c1 u.r1 u.c2 u.r2 else [cmT l u]):=by
 rw [List.take_add_one,h,zo];show itL l (ks.take i)++itL l [u]=_
 rw [itL,itL,List.append_nil]
theorem NW {l:List Cel} (h:t.kY=0):cmT l t=(t.num,0):=by
 obtain ⟨k,n,c,r,d,s,w,ks⟩:=t;rw [cmT];exact if_pos h
theorem sz {l:List Cel} (h:t.kY=1):cmT l t=oL t.c1 t.r1 l:=by
 obtain ⟨k,n,c,r,d,s,w,ks⟩:=t;have e:k=1:=h;subst e;rw [cmT];rfl
theorem Oj {l:List Cel} (h:t.kY=3) (h0:t.kZ[0]? =ZV u):cmT l t=(cQ [45] 0 0 (cmT l u).1 (cmT l u).2,cd [45] 0 0 (cmT l u).1 (cmT l u).2):=by
 obtain ⟨k,n,c,r,d,s,w,ks⟩:=t;have e:k=3:=h;subst e;rw [cmT,j8 (l:=l) (ks:=ks) h0];rfl
theorem Pa {l:List Cel} {v:Tr} (h:t.kY=4) (h0:t.kZ[0]? =ZV u) (h1:t.kZ[1]? =ZV v):
 cmT l t=(cQ t.wZ (cmT l u).1 (cmT l u).2 (cmT l v).1 (cmT l v).2,cd t.wZ (cmT l u).1 (cmT l u).2 (cmT l v).1 (cmT l v).2):=by
 obtain ⟨k,n,c,r,d,s,w,ks⟩:=t;have e:k=4:=h;subst e;rw [cmT,j8 (l:=l) (ks:=ks) h0,j8 (l:=l) (ks:=ks) h1];rfl
theorem BL {l:List Cel} {a b c:Tr} (h:t.kY=5) (hw:t.wZ=[73,70]) (h0:t.kZ[0]? =ZV a) (h1:t.kZ[1]? =ZV b) (h2:t.kZ[2]? =ZV c):
 cmT l t=if (cmT l a).2≠0 then cmT l a else if (cmT l a).1≠0 then cmT l b else cmT l c:=by
 obtain ⟨k,n,c',r,d,s,w,ks⟩:=t;have e:k=5:=h;have e2:w=[73,70]:=hw;subst e e2;rw [cmT,j8 (l:=l) (ks:=ks) h0,j8 (l:=l) (ks:=ks) h1,j8 (l:=l) (ks:=ks) h2];rfl
theorem N1 {l:List Cel} (h:t.kY=5) (hw:t.wZ=[83,85,77]):cmT l t=bm de (0,0) (itL l t.kZ):=by
 obtain ⟨k,n,c,r,d,s,w,ks⟩:=t;have e:k=5:=h;have e2:w=[83,85,77]:=hw;subst e e2;rw [cmT];rfl
theorem NS {l:List Cel} (h:t.kY=5) (hw:t.wZ=[77,73,78]):cmT l t=bv cN (itL l t.kZ):=by
 obtain ⟨k,n,c,r,d,s,w,ks⟩:=t;have e:k=5:=h;have e2:w=[77,73,78]:=hw;subst e e2;rw [cmT];rfl
theorem MH {l:List Cel} (h:t.kY=5) (hw:t.wZ=[77,65,88]):cmT l t=bv cM (itL l t.kZ):=by
 obtain ⟨k,n,c,r,d,s,w,ks⟩:=t;have e:k=5:=h;have e2:w=[77,65,88]:=hw;subst e e2;rw [cmT];rfl
theorem wu {l:List Cel} (h:t.kY=5) (hw:t.wZ=[67,79,85,78,84]):cmT l t=if (t.kZ.any fun u=>u.kY==2)=Zy then (0,3) else (((itL l t.kZ).length:Int),(0:Int)):=by
 obtain ⟨k,n,c,r,d,s,w,ks⟩:=t;have e:k=5:=h;have e2:w=[67,79,85,78,84]:=hw;subst e e2;rw [cmT];rfl
theorem pO {l:List Cel} (h:t.kY=2\/t.kY=6):cmT l t=(0,3):=by
 obtain ⟨k,n,c,r,d,s,w,ks⟩:=t;rcases h with h|h
 ·have e:k=2:=h
  subst e;rw [cmT];rfl
 ·have e:k=6:=h
  subst e;rw [cmT];rfl
theorem wo (l:List Cel) (a b c d:Int):(cIn l a b c d).length<=1024:=by
 unfold cIn;refine Nat.le_trans (List.length_filterMap_le _ _) ?_;unfold ax;refine Nat.le_trans (by rw [List.length_map];exact List.length_filter_le _ _) ?_;rw [List.length_range];exact qd
theorem rJ (l:List Cel):∀ks:List Tr,(itL l ks).length<=1024*ks.length
 |[]=>by rw [itL];exact qe
 |t::ts=>by
  rw [itL,List.length_append,List.length_cons];have h1:=rJ l ts
  have h2:(if t.kY=6 then cIn l t.c1 t.r1 t.c2 t.r2 else [cmT l t]).length<=1024:=by
   split
   ·exact wo _ _ _ _ _
   ·simp
  omega
def Pl (q:Cel):List Value:=[ZZ ZY q.c,ZZ ZY q.r,ZZ ZY q.n,ZZ ZY q.f]
def AtC (w:Z3) (g o:Nat) (l:List Cel):Prop:=AtR Pl 4 w g o l
theorem AtC.get {l:List Cel} (h:AtC w g o l) {q:Cel} (hi:l[i]? =ZV q):
 w.cell? ⟨g,o+i*4,ZU⟩=ZV (ZZ ZY q.c)/\w.cell? ⟨g,o+i*4+1,ZU⟩=ZV (ZZ ZY q.r)/\w.cell? ⟨g,o+i*4+2,ZU⟩=ZV (ZZ ZY q.n)/\w.cell? ⟨g,o+i*4+3,ZU⟩=ZV (ZZ ZY q.f):=
 ⟨h i q hi 0 _ rfl,h i q hi 1 _ rfl,h i q hi 2 _ rfl,h i q hi 3 _ rfl⟩
theorem AtC.below {l:List Cel} (h:AtC w g o l) (hb:Z2 w.heap.size w w'):AtC w' g o l:=fun i q hi j u hj=>aa hb (h i q hi j u hj)
def fe (w:Z3) (A:Option Addr) (l:List Cel):Prop:=l≠[]->∃g o,A=ZV ⟨g,o,ZU⟩/\AtC w g o l
theorem fe.below {A:Option Addr} {l:List Cel} (h:fe w A l) (hb:Z2 w.heap.size w w'):fe w' A l:=fun hl=>by
 obtain ⟨g,o,e,hc⟩:=h hl;exact ⟨g,o,e,hc.below hb⟩
theorem sQ (q:Cel):cAt x y [q]=if q.c=x/\q.r=y then ZV (bX q) else ZU:=by rw [cAt,cAt]
def oN (o:Option (Int×Int)):Int:=(o.getD (0,0)).1
def oF (o:Option (Int×Int)):Int:=(o.getD (0,0)).2
def dF (base:Nat) (w:Z3) (v:Value) (L:List (Int×Int)):Prop:=w.ownsRow base 61 2 v L.length (bj L)
theorem lu:(prog.info? 61).map (fun i=>(i.zero,i.size,i.bytes))=ZV (ZV (Zu #[ZZ ZY 0,ZZ ZY 0]),2,16):=by kernel_rfl
theorem dF.shape {L:List (Int×Int)} (h:dF base w v L):
 ∃(A:Option Addr) (cap:Nat),v=Zw A L.length cap/\fH w A L:=by
 have h':=h;rcases h.2 with ⟨rfl,hl⟩|⟨g,cap,cur,rfl,_,hh,_⟩
 ·refine ⟨ZU,0,(by rw [hl]),fun hne=>?_⟩
  exact qlP
 ·refine ⟨_,cap,rfl,fun _=>⟨g,0,rfl,fun i x y hi=>?_⟩⟩
  have hlt:i<L.length:=(List.getElem?_eq_some_iff.1 hi).1;obtain ⟨h1,h2⟩:=mq L i x y hi;rw [Nat.zero_add];exact ⟨(World.ownsRow.cellAt h' (i*2) qoq).trans h1,(World.ownsRow.cellAt h' (i*2+1) qoq).trans h2⟩
theorem p9 (h:w.ownsRow base 28 2 v l.length (bj l)):
 ∃(A:Option Addr) (cap:Nat),v=Zw A l.length cap/\(∀i,i<l.length->∃g,A=ZV ⟨g,0,ZU⟩/\base<=g/\g<w.heap.size/\At2 w g l):=by
 have h':=h;rcases h.2 with ⟨rfl,hl⟩|⟨g,cap,cur,rfl,_,hh,_⟩
 ·exact ⟨ZU,0,(by rw [hl]),fun i hi=>by omega⟩
 ·exact ⟨_,cap,rfl,fun i hi=>⟨g,rfl,(h'.lt g rfl).1,(h'.lt g rfl).2,rf h'⟩⟩
def fmT (l:List Cel) (C:List (Int×Int)) (k:Nat):List (Int×Int):=(C.take k).filterMap fun p=>cAt p.1 p.2 l
theorem Ds {l:List Cel} {v:Int×Int} (hi:C[k]? =ZV (x,y)) (h:cAt x y l=ZV v):fmT l C (k+1)=fmT l C k++[v]:=by
 unfold fmT;rw [List.take_add_one,hi,List.filterMap_append];show _++[(x,y)].filterMap _=_
 rw [List.filterMap_cons_some (by exact h)];rfl
theorem J6 {l:List Cel} (hi:C[k]? =ZV (x,y)) (h:cAt x y l=ZU):fmT l C (k+1)=fmT l C k:=by
 unfold fmT;rw [List.take_add_one,hi,List.filterMap_append];show _++[(x,y)].filterMap _=_
 rw [List.filterMap_cons_none (by exact h)];exact List.append_nil _
theorem Kg (l:List Cel) (C:List (Int×Int)) (k:Nat):(fmT l C k).length<=C.length:=by
 unfold fmT;refine Nat.le_trans (List.length_filterMap_le _ _) ?_;rw [List.length_take];exact Nat.min_le_right _ _
def PlA (w:Z3) (v:Value) (A:Option Addr) (C:List (Int×Int)):Prop:=∀i,i<C.length->∃g,A=ZV ⟨g,0,ZU⟩/\g<w.heap.size/\v.ownBlock≠ZV g/\At2 w g C
theorem Gk {l:List Cel} (hu:ks[i]? =ZV u) (h6:u.kY≠6):itL l (ks.take (i+1))=itL l (ks.take i)++[cmT l u]:=by rw [o8 hu,if_neg h6]
theorem js (a b:List (Int×Int)):bj (a++b)=bj a++bj b:=by unfold bj;exact List.flatMap_append
theorem xe (a b:Int):∀u∈[Value.int .i64 a,Value.int .i64 b],u.oneCell'=Zy:=by
 intro x hx;simp at hx;rcases hx with rfl|rfl<;>rfl
theorem EU {b c:Int} {n:Nat} {p:Int×Int} (h:p∈ax a b c d n):dM a b c d p.1 p.2=Zy:=by
 unfold ax at h;obtain ⟨j,hj,rfl⟩:=List.mem_map.1 h;exact (List.mem_filter.1 hj).2
theorem kS {α β:Type} {f g:α->Option β}:∀{l:List α},(∀a∈l,f a=g a)->l.filterMap f=l.filterMap g
 |[],_=>rfl
 |a::l,h=>by
  rw [List.filterMap_cons,List.filterMap_cons,h a (List.mem_cons_self ..),kS fun b hb=>h b (List.mem_cons_of_mem _ hb)]
theorem Ir {l m:List Cel} {b c:Int} (h:∀x y,dM a b c d x y=Zy->cAt x y l=cAt x y m):cIn l a b c d=cIn m a b c d:=
 kS fun p hp=>h p.1 p.2 (EU hp)
mutual
theorem sN {l m:List Cel}:∀t:Tr,ay t=Zy->(∀x y,usT x y t=Zy->cAt x y l=cAt x y m)->cmT l t=cmT m t
 |.mk k n c r d s w ks,hm,h=>by
  by_cases k1:k=1
  ·subst k1
   have hw:=Gb hm rfl;rw [sz rfl,sz rfl];unfold oL;show (cAt c r l).getD (0,0)=(cAt c r m).getD (0,0)
   rw [h c r (by
    rw [usT,if_pos (.inl rfl)];unfold hasP;have h2:(rightB c r&&rightB d s&&(decide (c<=d)&&decide (r<=s)))=Zy:=hw;rw [h2,Bool.true_and,decide_eq_true_iff];simp only [Bool.and_eq_true,decide_eq_true_iff] at h2;omega)]
  ·by_cases k6:k=6
   ·have e:(Tr.mk k n c r d s w ks).kY=6:=k6
    rw [pO (.inr e),pO (.inr e)]
   ·have hk:∀u∈ks,ay u=Zy:=jC hm
    have hu:∀x y,usL x y ks=Zy->cAt x y l=cAt x y m:=fun x y hxy=>h x y (by
     rw [usT,if_neg (by rintro (e|e);exact k1 e;exact k6 e)];exact hxy)
    have hL:=wy ks hk hu;have hI:=uY ks hk hu;rw [cmT,cmT,hL,hI,if_neg k1,if_neg k1]
theorem wy {l m:List Cel}:∀ks:List Tr,(∀u∈ks,ay u=Zy)->(∀x y,usL x y ks=Zy->cAt x y l=cAt x y m)->cmL l ks=cmL m ks
 |[],_,_=>by rw [cmL,cmL]
 |t::ts,hm,h=>by
  rw [cmL,cmL,sN t (hm t (List.mem_cons_self ..)) (fun x y hx=>h x y (by rw [usL,hx];rfl)),wy ts (fun u hu=>hm u (List.mem_cons_of_mem _ hu)) (fun x y hx=>h x y (by rw [usL,hx,Bool.or_true]))]
theorem uY {l m:List Cel}:∀ks:List Tr,(∀u∈ks,ay u=Zy)->(∀x y,usL x y ks=Zy->cAt x y l=cAt x y m)->itL l ks=itL m ks
 |[],_,_=>by rw [itL,itL]
 |t::ts,hm,h=>by
  have h1:=sN t (hm t (List.mem_cons_self ..)) (fun x y hx=>h x y (by rw [usL,hx];rfl));have h2:=uY ts (fun u hu=>hm u (List.mem_cons_of_mem _ hu)) (fun x y hx=>h x y (by rw [usL,hx,Bool.or_true]));rw [itL,itL,h1,h2];by_cases k6:t.kY=6
  ·rw [if_pos k6,if_pos k6,Ir (m:=m) fun x y hx=>h x y (by rw [usL,MA (.inr k6)];rw [show hasP t.c1 t.r1 t.c2 t.r2 x y=Zy from hx];rfl)]
  ·rw [if_neg k6,if_neg k6]
end
theorem Af {x y:Int}:∀{l m:List Cel},cAt x y (l++m)=(cAt x y l).or (cAt x y m)
 |[],m=>by rw [List.nil_append,cAt,Option.none_or]
 |q::l,m=>by
  rw [List.cons_append,cAt,cAt];by_cases h:q.c=x/\q.r=y
  ·rw [if_pos h,if_pos h,Option.some_or]
  ·rw [if_neg h,if_neg h];exact Af
def NzF (p:Int×Int):Prop:=p.2≠0->p.1=0
theorem zx (n:Int):NzF (cJ n):=by
 unfold NzF cJ gD eu;cases inI n<;>simp
theorem Pb (w:List UInt8) (a b:Int):mJ (vOp w a b)≠0->mI (vOp w a b)=0:=by
 unfold vOp;repeat' split
 all_goals first|exact zx _|(intro h;exact absurd rfl h)|(intro _;rfl)
theorem Kj (w:List UInt8) (p q:Int×Int):NzF (cQ w p.1 p.2 q.1 q.2,cd w p.1 p.2 q.1 q.2):=by
 unfold NzF cd cQ;have h:=Pb w p.1 q.1;intro hn;by_cases h0:p.2=0/\q.2=0
 ·rw [if_pos h0]
  refine h fun e=>hn ?_
  show (if (vOp w p.1 q.1).isSome=Zy then _ else (0:Int))=0
  split
  ·rw [if_pos h0.1,if_pos h0.2];exact e
  ·rfl
 ·exact if_neg h0
theorem uW {G:Int->Int->Int×Int} (hG:∀a b,NzF (G a b)):∀(l:List (Int×Int)) (p:Int×Int),NzF p->NzF (bm G p l)
 |[],p,hp=>hp
 |q::l,p,hp=>by
  refine uW hG l (cY G p q) ?_;have hg:=hG p.1 q.1;unfold NzF cY dJ dG at*;intro hn;by_cases h0:p.2=0/\q.2=0
  ·rw [if_pos h0]
   refine hg fun e=>hn ?_
   show (if p.2=0 then _ else _)=(0:Int)
   rw [if_pos h0.1,if_pos h0.2];exact e
  ·exact if_neg h0
section
open Go.Maps Go.Deep
theorem f8:Keyed ZW 28:=Keyed.of_law (deep_law_laid JR (m:=2) qoq (of_decide_eq_true qnx) qnx (by rw [underlying28]))
def kP (x y:Int):Lit:=.string (keyBytes [.int .i64 x,.int .i64 y])
theorem ML (h:B64 x):(Lit.int .i64 x).wf=Zy:=by
 obtain ⟨e1,e2⟩:=qgK;unfold B64 at h;simp [Lit.wf,e1,e2]
 omega
theorem j6 (hx:B64 x) (hy:B64 y):keyOf ZW 28 (Zu #[.int .i64 x,.int .i64 y])=ZV (kP x y):=by
 have h1:prog.keyType 28=Zy:=qnx
 have h2:(Value.agg #[ZZ ZY x,ZZ ZY y]).formed ZW 28=Zy:=by
  simp [Value.formed,underlying28,oy]
 obtain ⟨d,hd⟩:∃d,prog.types.size=d+1:=⟨prog.types.size - 1,qnx⟩
 have h3:prog.keyLits (prog.types.size+1) 28 [.int .i64 x,.int .i64 y]=ZV [.int .i64 x,.int .i64 y]:=by
  rw [hd];simp [Program.keyLits,underlying28,underlying3,oy,F7,ML hx,ML hy]
 unfold keyOf;rw [underlying28];simp only [h1,h2,Bool.and_self,if_true];show (prog.keyLits (prog.types.size+1) 28 [.int .i64 x,.int .i64 y]).map _=_
 rw [h3];rfl
theorem NX (hx:B64 x) (hy:B64 y) (hp:B64 p) (hq:B64 q) (h:kP x y=kP p q):x=p/\y=q:=by
 have h1:=j6 hx hy;rw [h] at h1;have:=f8.inj h1 (j6 hp hq);simpa using this
def gB (n f:Int):DataW Unit:=.agg [.lit (.int .i64 n),.lit (.int .i64 f)]
def gC (v:Value):Option (DataW Unit×List MemPlace):=match v with
 |.agg a=>(match a.toList with
  |[ZZ ZY n,ZZ ZY f]=>ZV (gB n f,[])
  |_=>ZU)
 |_=>ZU
theorem xz (n f:Int):gC (Zu #[ZZ ZY n,ZZ ZY f])=ZV (gB n f,[]):=rfl
theorem jN {n f:Int} {ps:List MemPlace} (h:gC v=ZV (gB n f,ps)):v=Zu #[ZZ ZY n,ZZ ZY f]:=by
 unfold gC at h;split at h
 ·rename_i a
  split at h
  ·rename_i m g hl
   unfold gB at h;simp only [Option.some.injEq,Prod.mk.injEq,DataW.agg.injEq,List.cons.injEq,DataW.lit.injEq,Lit.int.injEq,true_and,and_true] at h;obtain ⟨⟨rfl,rfl⟩,_⟩:=h;obtain ⟨l⟩:=a;simp only at hl;rw [hl]
  ·cases h
 ·cases h
theorem oG (w:Z3):(zeroValue 61).run ZW w=.ok (Zu #[ZZ ZY 0,ZZ ZY 0]) w:=by kernel_rfl
def cU (w:Z3) (b:Nat) (l:List Cel):Prop:=∃(n:Nat) (D:DataW Unit),n<=l.length/\w.ownsMap ZW 28 gC b n D/\∀x y,B64 x->B64 y->D.atKey (kP x y) (gB 0 0)=gB (oN (cAt x y l)) (oF (cAt x y l))/\has D (kP x y)=(cAt x y l).isSome
theorem cU.below {l:List Cel} (h:cU w b l) (hb:Z2 w.heap.size w w'):cU w' b l:=by
 obtain ⟨n,D,h1,h2,h3⟩:=h;exact ⟨n,D,h1,h2.kept (iv hb ZU) qns,h3⟩
theorem cU.lt {l:List Cel} (h:cU w b l):b<w.heap.size:=by
 obtain ⟨n,D,h1,h2,h3⟩:=h;exact h2.lt
theorem cU.made (w:Z3):cU (w.alloc (.map #[] 0)) w.heap.size []:=⟨0,.map [],qd,World.ownsMap_made w ZW 28 gC,fun _ _ _ _=>⟨rfl,rfl⟩⟩
theorem yH {l:List Cel} {q:Cel} (x y:Int):cAt x y (l++[q])=(cAt x y l).or (if q.c=x/\q.r=y then ZV (bX q) else ZU):=by rw [Af,sQ]
theorem cU.old {l:List Cel} {q:Cel} (h:cU w b l) (hq:(cAt q.c q.r l).isSome=Zy):cU w b (l++[q]):=by
 obtain ⟨n,D,h1,h2,h3⟩:=h;refine ⟨n,D,qnu,h2,fun x y hx hy=>?_⟩
 have e:cAt x y (l++[q])=cAt x y l:=by
  rw [yH];by_cases hp:q.c=x/\q.r=y
  ·obtain ⟨rfl,rfl⟩:=hp
   cases hc:cAt q.c q.r l with
   |none=>rw [hc] at hq;cases hq
   |some v=>rfl
  ·rw [if_neg hp,Option.or_none]
 rw [e];exact h3 x y hx hy
theorem KG {D:DataW Unit} {l:List Cel} {q:Cel} (hD:IsMap D) (hb:B64 q.c/\B64 q.r) (h3:∀x y,B64 x->B64 y->D.atKey (kP x y) (gB 0 0)=gB (oN (cAt x y l)) (oF (cAt x y l))/\has D (kP x y)=(cAt x y l).isSome) (hq:(cAt q.c q.r l).isSome=Zz):
 ∀x y,B64 x->B64 y->(D.put (kP q.c q.r) (gB (bX q).1 (bX q).2)).atKey (kP x y) (gB 0 0)=gB (oN (cAt x y (l++[q]))) (oF (cAt x y (l++[q])))/\has (D.put (kP q.c q.r) (gB (bX q).1 (bX q).2)) (kP x y)=(cAt x y (l++[q])).isSome:=by
 intro x y hx hy;rw [yH];by_cases hp:q.c=x/\q.r=y
 ·obtain ⟨rfl,rfl⟩:=hp
  have hn:cAt q.c q.r l=ZU:=by
   cases hc:cAt q.c q.r l with
   |none=>rfl
   |some v=>rw [hc] at hq;cases hq
  rw [hn,if_pos ⟨rfl,rfl⟩,atKey_put_same hD (f8.key (j6 hb.1 hb.2)),has_put_same hD (f8.key (j6 hb.1 hb.2))];exact ⟨rfl,rfl⟩
 ·have hne:kP x y≠kP q.c q.r:=fun e=>by
   obtain ⟨e1,e2⟩:=NX hx hy hb.1 hb.2 e;exact hp ⟨e1.symm,e2.symm⟩
  rw [if_neg hp,Option.or_none,atKey_put_other hne,has_put_other hne];exact h3 x y hx hy
section
variable (w:Z3) {ops:Array Oper} {rest:List Oper} {o:Oper} {a:Act} {Q:Exit->Act->Z3->Prop}
theorem gT (hg:o.guard=ZU) (m x:Operand) (hop:o.op=Op.lookup 217 m x Zy) {l:List Cel} (hm:a.eval m=.map (ZV b)) (hM:cU w b l) {n f:Int} {s:Bool} (hp:B64 p) (hq:B64 q)
 (hx:a.eval x=Zu #[ZZ ZY p,ZZ ZY q]) (h1:oN (cAt p q l)=n) (h2:oF (cAt p q l)=f) (h3:(cAt p q l).isSome=s)
 (hK:wpList ZW ops Q rest (a.put o.dst (.tuple #[Zu #[ZZ ZY n,ZZ ZY f],.bool s])) w):wpList ZW ops Q (o::rest) a w:=by
 obtain ⟨k,D,_,hown,hD⟩:=hM;obtain ⟨e1,e2⟩:=hD p q hp hq;refine wpList_lookup_own_ok w hg m x 217 hop 28 61 f8 underlying217 gC (oG w) (gB 0 0) [] rfl b k D hm hown _ _ hx (j6 hp hq) fun v ps hv=>?_
 rw [e1] at hv;have:=jN hv;subst this;rw [e2,h1,h2,h3];exact hK
theorem va (hg:o.guard=ZU) (m x:Operand) (hop:o.op=Op.lookup 217 m x Zz) {l:List Cel} (hm:a.eval m=.map (ZV b)) (hM:cU w b l) {n f:Int} (hp:B64 p) (hq:B64 q)
 (hx:a.eval x=Zu #[ZZ ZY p,ZZ ZY q]) (h1:oN (cAt p q l)=n) (h2:oF (cAt p q l)=f)
 (hK:wpList ZW ops Q rest (a.put o.dst (Zu #[ZZ ZY n,ZZ ZY f])) w):wpList ZW ops Q (o::rest) a w:=by
 obtain ⟨k,D,_,hown,hD⟩:=hM;obtain ⟨e1,e2⟩:=hD p q hp hq;refine wpList_plain hg fun K' hK'=>?_
 obtain ⟨v,ps,hrun,hv⟩:=hown.lookup f8 underlying217 (oG w) (zd:=gB 0 0) (zp:=[]) rfl (j6 hp hq);rw [e1] at hv;have:=jN hv;subst this;rw [h1,h2] at hrun;unfold Oper.wp;simp [execOp,hop,hm,hx,hrun,Result.andThen]
 exact hK' _ _ hK
end
theorem cU.put {l:List Cel} {q:Cel} (hM:cU w b l) (hl:l.length<maxLen) (hb:B64 q.c/\B64 q.r) (hq:(cAt q.c q.r l).isSome=Zz):
 ∃w',(Instr.mapUpdate 217 (.map (ZV b)) (Zu #[ZZ ZY q.c,ZZ ZY q.r]) (Zu #[ZZ ZY (bX q).1,ZZ ZY (bX q).2])).run ZW w=.ok () w'/\cU w' b (l++[q])/\w.grownBy w' (ZV b):=by
 obtain ⟨k,D,hkl,hown,hD⟩:=hM;obtain ⟨w',hrun,r1,r2⟩:=hown.update f8 underlying217 qoq (j6 hb.1 hb.2) (xz (bX q).1 (bX q).2);exact ⟨w',hrun,⟨k+1,_,qnu,r1,KG hown.isMap hb hD hq⟩,r2⟩
end
section
structure Src where
 c:Int
 r:Int
 text:List UInt8
deriving Inhabited
def Src.ix (q:Src):Int:=aQ q.c q.r
structure TxF where
 tree:List UInt8->Option Tr
 rds:Tr->List (Int×Int)
 val:List Cel->Tr->Int×Int
 num:List UInt8->Int
structure mY (F:TxF):Prop where
 same:∀t l m,(∀p∈F.rds t,cAt p.1 p.2 l=cAt p.1 p.2 m)->F.val l t=F.val m t
 nz:∀t l,(F.val l t).2≠0->(F.val l t).1=0
def fx (s:List Src):Prop:=(∀q∈s,rightB q.c q.r=Zy)/\s.Pairwise fun a b=>¬(a.c=b.c/\a.r=b.r)
theorem ev {c r:Int} (h:rightB c r=Zy):0<=c/\c<=15/\0<=r/\r<=63:=by
 unfold rightB at h;exact of_decide_eq_true h
theorem jO {c r:Int} (h:rightB c r=Zy) (k:rightB d s=Zy) (e:aQ c r=aQ d s):c=d/\r=s:=by
 unfold aQ at e;rw [if_pos h,if_pos k] at e;have:=ev h;have:=ev k;omega
section
variable (F:TxF)
def lkC (s:List Src):List Lk:=s.map fun q=>⟨q.ix,match F.tree q.text with
 |some t=>(F.rds t).map fun p=>aQ p.1 p.2
 |none=>[]⟩
def ck (s:List Src) (f:Int->Int×Int):List Cel:=s.map fun q=>⟨q.c,q.r,(f q.ix).1,(f q.ix).2⟩
open Classical in
noncomputable def g9 (s:List Src) (C:List Cel) (q:Src):Int×Int:=if bS (lkC F s) q.ix then (0,4) else match F.tree q.text with
 |some t=>F.val C t
 |none=>(F.num q.text,0)
noncomputable def bH (s:List Src) (f:Int->Int×Int):Int->Int×Int:=fun n=>match s.find? fun q=>decide (q.ix=n) with
 |some q=>g9 F s (ck s f) q
 |none=>(0,0)
noncomputable def ff (s:List Src):Nat->Int->Int×Int
 |0=>fun _=>(0,0)
 |k+1=>bH F s (ff s k)
end
section
variable {F:TxF} {s:List Src} {f g:Int->Int×Int}
theorem Lh (h:fx s) {q:Src} (hq:q∈s):s.find? (fun x=>decide (x.ix=q.ix))=ZV q:=by
 obtain ⟨h1,h2⟩:=h;induction s with
 |nil=>cases hq
 |cons a l ih=>
  obtain ⟨p1,p2⟩:=List.pairwise_cons.1 h2;rw [List.find?_cons];rcases List.mem_cons.1 hq with rfl|hq
  ·simp
  ·have hne:¬(a.ix=q.ix):=fun e=>p1 q hq (jO (h1 a List.mem_cons_self) (h1 q (List.mem_cons_of_mem _ hq)) e)
   rw [decide_eq_false hne];exact ih hq (fun x hx=>h1 x (List.mem_cons_of_mem _ hx)) p2
theorem jz (h:fx s) {q:Src} (hq:q∈s):bH F s f q.ix=g9 F s (ck s f) q:=by
 unfold bH;rw [Lh h hq]
theorem fL {n:Int}:isN (lkC F s) n↔∃q∈s,q.ix=n:=by
 constructor
 ·rintro ⟨x,hx,e⟩
  obtain ⟨q,hq,rfl⟩:=List.mem_map.1 hx;exact ⟨q,hq,e⟩
 ·rintro ⟨q,hq,e⟩
  exact ⟨_,List.mem_map.2 ⟨q,hq,rfl⟩,e⟩
theorem Ma (x y:Int) (hfg:∀q∈s,q.c=x->q.r=y->f q.ix=g q.ix):cAt x y (ck s f)=cAt x y (ck s g):=by
 have key:∀l:List Src,(∀q∈l,q.c=x->q.r=y->f q.ix=g q.ix)->cAt x y (ck l f)=cAt x y (ck l g):=by
  intro l;induction l with
  |nil=>intro _;rfl
  |cons a l ih=>
   intro hl;show cAt x y (_::ck l f)=cAt x y (_::ck l g)
   rw [cAt,cAt];by_cases e:a.c=x/\a.r=y
   ·rw [if_pos e,if_pos e]
    have:=hl a List.mem_cons_self e.1 e.2;unfold bX;simp [this]
   ·rw [if_neg e,if_neg e]
    exact ih fun q hq=>hl q (List.mem_cons_of_mem _ hq)
 exact key s hfg
theorem DD (hF:mY F) {q:Src} (hfg:∀x∈lkC F s,x.at_=q.ix->∀n∈x.rd,isN (lkC F s) n->f n=g n) (hq:q∈s):g9 F s (ck s f) q=g9 F s (ck s g) q:=by
 unfold g9;split
 ·rfl
 ·cases ht:F.tree q.text with
  |none=>rfl
  |some t=>
   refine hF.same t _ _ fun p hp=>Ma _ _ fun x hx e1 e2=>hfg ⟨q.ix,(F.rds t).map fun p=>aQ p.1 p.2⟩ ?_ rfl x.ix (List.mem_map.2 ⟨p,hp,?_⟩) (fL.2 ⟨x,hx,rfl⟩)
   ·refine List.mem_map.2 ⟨q,hq,?_⟩
    rw [ht]
   ·rw [<-e1,<-e2];rfl
theorem uX (h:fx s):jd (lkC F s):=by
 unfold jd lkC;rw [List.pairwise_map];obtain ⟨h1,h2⟩:=h;refine List.Pairwise.imp_of_mem ?_ h2;intro a b ha hb hab e;exact hab (jO (h1 a ha) (h1 b hb) e)
theorem gA (h:fx s) {n:Int} (hc:bS (lkC F s) n):bH F s f n=(0,4):=by
 obtain ⟨q,hq,rfl⟩:=fL.1 (eW hc);rw [jz h hq];unfold g9;exact if_pos hc
theorem lm {n:Int} (hn:¬isN (lkC F s) n):bH F s f n=(0,0):=by
 unfold bH;cases e:s.find? (fun q=>decide (q.ix=n)) with
 |none=>rfl
 |some q=>
  have h1:=List.mem_of_find?_eq_some e;have h2:=List.find?_some e;exact absurd (fL.2 ⟨q,h1,of_decide_eq_true h2⟩) hn
theorem tB (hF:mY F) (h:fx s) {n:Int} (hi:(gm (lkC F s) 1024)[i]? =ZV n)
 (hj:∀(j:Nat) (m:Int),j<i->(gm (lkC F s) 1024)[j]? =ZV m->f m=g m) (hc:∀m,bS (lkC F s) m->f m=g m):bH F s f n=bH F s g n:=by
 have hT:=kj (lkC F s) 1024;obtain ⟨q,hq,rfl⟩:=fL.1 (hT.nod n (List.mem_of_getElem? hi)).1;rw [jz h hq,jz h hq];refine DD hF (fun x hx e m hm hnm=>?_) hq;by_cases hcm:bS (lkC F s) m
 ·exact hc m hcm
 ·have:=hT.behind i q.ix hi x hx e m hm hnm hcm
  obtain ⟨j,hj1⟩:=List.mem_iff_getElem?.1 this;rw [List.getElem?_take] at hj1;split at hj1
  ·rename_i hlt
   exact hj j m hlt hj1
  ·cases hj1
theorem La (hF:mY F) (h:fx s) (hk:OkK (lkC F s)) (hf:bH F s f=f) (hg:bH F s g=g):f=g:=by
 have hc:∀m,bS (lkC F s) m->f m=g m:=fun m hm=>by
  rw [<-hf,<-hg,gA h hm,gA h hm]
 have ho:∀(i:Nat) (m:Int),(gm (lkC F s) 1024)[i]? =ZV m->f m=g m:=by
  intro i;induction i using Nat.strongRecOn with
  |_ i ih=>
   intro m hm;rw [<-hf,<-hg];exact tB hF h hm (fun j n hj hn=>ih j hj n hn) hc
 funext n
 by_cases hn:isN (lkC F s) n
 ·by_cases hcn:bS (lkC F s) n
  ·exact hc n hcn
  ·obtain ⟨i,hi⟩:=List.mem_iff_getElem?.1 ((jY hk rfl).2 ⟨hn,hcn⟩)
   exact ho i n hi
 ·rw [<-hf,<-hg,lm hn,lm hn]
theorem E8 (hF:mY F) (h:fx s):∀(i:Nat) (n:Int),(gm (lkC F s) 1024)[i]? =ZV n->∀a b,i+1<=a->i+1<=b->ff F s (a+1) n=ff F s (b+1) n:=by
 intro i;induction i using Nat.strongRecOn with
 |_ i ih=>
  intro n hn a b ha hb;show bH F s (ff F s a) n=bH F s (ff F s b) n
  refine tB hF h hn (fun j m hj hm=>?_) (fun m hm=>?_)
  ·obtain ⟨a',rfl⟩:∃a',a=a'+1:=⟨a - 1,qoq⟩
   obtain ⟨b',rfl⟩:∃b',b=b'+1:=⟨b - 1,qoq⟩
   exact ih j hj m hm a' b' qoq qoq
  ·obtain ⟨a',rfl⟩:∃a',a=a'+1:=⟨a - 1,qoq⟩
   obtain ⟨b',rfl⟩:∃b',b=b'+1:=⟨b - 1,qoq⟩
   show bH F s (ff F s a') m=bH F s (ff F s b') m
   rw [gA h hm,gA h hm]
theorem vp (F:TxF) (s:List Src):(lkC F s).length=s.length:=List.length_map _
theorem yU (hF:mY F) (h:fx s) (hk:OkK (lkC F s)):bH F s (ff F s (s.length+1))=ff F s (s.length+1):=by
 funext n
 show ff F s (s.length+1+1) n=ff F s (s.length+1) n
 by_cases hn:isN (lkC F s) n
 ·by_cases hc:bS (lkC F s) n
  ·show bH F s _ n=bH F s _ n
   rw [gA h hc,gA h hc]
  ·obtain ⟨i,hi⟩:=List.mem_iff_getElem?.1 ((jY hk rfl).2 ⟨hn,hc⟩)
   have hl:=x9 hk (uX h) rfl;have hi1:=(List.getElem?_eq_some_iff.1 hi).1;rw [vp] at hl;exact E8 hF h i n hi _ _ qoq qoq
 ·show bH F s _ n=bH F s _ n
  rw [lm hn,lm hn]
theorem PK (hF:mY F) (h:fx s) (hk:OkK (lkC F s)) (hf:bH F s f=f):f=ff F s (s.length+1):=La hF h hk hf (yU hF h hk)
end
end
section
def srW (q:Src):List Value:=[ZZ ZY q.c,ZZ ZY q.r,Zx ⟨q.text.toArray⟩]
def fa (w:Z3) (P:Nat->Prop) (A:Option Addr) (l:List Src):Prop:=l=[]\/∃g o,A=ZV ⟨g,o,ZU⟩/\P g/\g<w.heap.size/\AtR srW 3 w g o l
section
variable {w w':Z3} {P Q:Nat->Prop} {A:Option Addr} {l:List Src}
theorem fa.kept (h:fa w P A l) (hk:Kept w w' P):fa w' P A l:=qkf
theorem fa.mono (h:fa w P A l) (hpq:∀g,P g->g<w.heap.size->Q g):fa w Q A l:=qjN
theorem fa.below (h:fa w P A l) (hb:Z2 w.heap.size w w'):fa w' P A l:=h.kept (Kept.of_below hb)
theorem fa.at (h:fa w P A l) {q:Src} (hq:l[i]? =ZV q):∃g o,A=ZV ⟨g,o,ZU⟩/\P g/\g<w.heap.size/\w.cell? ⟨g,o+i*3,ZU⟩=ZV (ZZ ZY q.c)/\w.cell? ⟨g,o+i*3+1,ZU⟩=ZV (ZZ ZY q.r)/\w.cell? ⟨g,o+i*3+2,ZU⟩=ZV (Zx ⟨q.text.toArray⟩):=by
 rcases h with rfl|⟨g,o,rfl,hp,hl,hc⟩
 ·simp at hq
 ·exact ⟨g,o,rfl,hp,hl,hc i q hq 0 _ rfl,hc i q hq 1 _ rfl,hc i q hq 2 _ rfl⟩
end
def gW (l:List Src) (x y:Int):List UInt8:=match l.find? fun q=>(q.c==x&&q.r==y) with
 |some q=>q.text
 |none=>[]
theorem zF {f:Src->Bool} {l:List Src} {q:Src} (hq:l[i]? =ZV q) (hno:∀x∈l.take i,f x=Zz) (h:f q=Zy):l.find? f=ZV q:=by
 obtain ⟨h1,rfl⟩:=List.getElem?_eq_some_iff.1 hq;rw [List.find?_eq_some_iff_append];exact ⟨h,l.take i,l.drop (i+1),(by rw [<-List.drop_eq_getElem_cons h1,List.take_append_drop]),fun a ha=>by rw [hno a ha];rfl⟩
theorem lG {p:Src->Prop} {l:List Src} {q:Src} (hq:l[i]? =ZV q) (h:∀x∈l.take i,p x) (hp:p q):∀x∈l.take (i+1),p x:=fun x hx=>by
 exact qkO
end
def dh (plB:List UInt8->Bool) (q:Src):Bool:=rightB q.c q.r&&plB q.text
def rS (a b:Src):Prop:=a.c=b.c/\a.r=b.r
def dW (l:List Src):Prop:=l.Pairwise fun a b=>¬rS a b
open Classical in
noncomputable def cR (plB:List UInt8->Bool) (l:List Src):Nat:=if ∀q∈l,dh plB q=Zy then (if dW l then 0 else 5) else 1
def bu (l:List Src):Nat->List Src
 |0=>[]
 |k+1=>bu l k++if gW l (atC (k:Int)) (atR (k:Int))=[] then [] else [⟨atC (k:Int),atR (k:Int),gW l (atC (k:Int)) (atR (k:Int))⟩]
theorem KA {l:List Src} {q:Src} (hq:q∈l) (h:dh plB q=Zz):cR plB l=1:=by
 unfold cR;exact if_neg fun k=>by rw [k q hq] at h;cases h
theorem FQ {l:List Src} (h1:∀q∈l,dh plB q=Zy) (h:¬dW l):cR plB l=5:=by
 unfold cR;rw [if_pos h1,if_neg h]
theorem Ew {l:List Src} (h1:∀q∈l,dh plB q=Zy) (h:dW l):cR plB l=0:=by
 unfold cR;rw [if_pos h1,if_pos h]
theorem pC {l:List Src} {q x:Src} (hk:k<i) (hx:l[k]? =ZV x) (hq:l[i]? =ZV q) (e:rS x q):¬dW l:=fun h=>by
 obtain ⟨h3,e3⟩:=List.getElem?_eq_some_iff.1 hx;obtain ⟨h4,e4⟩:=List.getElem?_eq_some_iff.1 hq;exact qlO
section
def clW (q:Cel):List Value:=[ZZ ZY q.c,ZZ ZY q.r,ZZ ZY q.n,ZZ ZY q.f]
def eH (w:Z3) (P:Nat->Prop) (A:Option Addr) (l:List Cel):Prop:=l=[]\/∃g o,A=ZV ⟨g,o,ZU⟩/\P g/\g<w.heap.size/\AtR clW 4 w g o l
section
variable {w w':Z3} {P Q:Nat->Prop} {A:Option Addr} {l:List Cel}
theorem eH.kept (h:eH w P A l) (hk:Kept w w' P):eH w' P A l:=qkf
theorem eH.mono (h:eH w P A l) (hpq:∀g,P g->g<w.heap.size->Q g):eH w Q A l:=qjN
theorem eH.below (h:eH w P A l) (hb:Z2 w.heap.size w w'):eH w' P A l:=h.kept (Kept.of_below hb)
theorem eH.at (h:eH w P A l) {q:Cel} (hq:l[i]? =ZV q):∃g o,A=ZV ⟨g,o,ZU⟩/\P g/\g<w.heap.size/\w.cell? ⟨g,o+i*4,ZU⟩=ZV (ZZ ZY q.c)/\w.cell? ⟨g,o+i*4+1,ZU⟩=ZV (ZZ ZY q.r)/\w.cell? ⟨g,o+i*4+2,ZU⟩=ZV (ZZ ZY q.n)/\w.cell? ⟨g,o+i*4+3,ZU⟩=ZV (ZZ ZY q.f):=by
 rcases h with rfl|⟨g,o,rfl,hp,hl,hc⟩
 ·simp at hq
 ·exact ⟨g,o,rfl,hp,hl,hc i q hq 0 _ rfl,hc i q hq 1 _ rfl,hc i q hq 2 _ rfl,hc i q hq 3 _ rfl⟩
end
theorem GU:prog.eqGuardType prog.depth 63=Zz:=by kernel_rfl
theorem G2:prog.stoodInHeld 63=Zz:=by kernel_rfl
theorem Fs:prog.underlying 63=ZV (.struct (prog.fieldsOf 63)):=by kernel_rfl
theorem tw (op:BinOp) (X Y:Operand) (xs ys:Array Value) (W:Z3):(eqGuard op 63 X Y (.agg xs) (.agg ys)).run ZW W=.ok () W:=run_eqGuard_agg W op 63 X Y xs ys GU
end
def dx:Value:=Zu #[ZZ ZY 0,ZZ ZY 0,ZZ ZY 0,ZZ ZY 0,ZZ ZY 0,ZZ ZY 0,Zx ⟨#[]⟩,Zw ZU 0 0]
def m9 (F:TxF) (s:List UInt8) (w:Z3) (e:Ending) (w':Z3):Prop:=Z2 w.heap.size w w'/\match F.tree s with
 |some t=>∃A ca,e=ZX (.tuple #[tv t A ca,.bool Zy])/\KV w' (fun k=>w.heap.size<=k) t A
 |none=>e=ZX (.tuple #[dx,.bool Zz])
def Ki (F:TxF):Prop:=∀(w:Z3) (s:List UInt8),s.length<=300->Calls ZW 12 #[Zx ⟨s.toArray⟩] w fun e w'=>m9 F s w e w'
def pA (l:List Cel):Prop:=∀q∈l, -9223372036854775808<=q.n/\q.n<=9223372036854775807
structure OwK (E:TypeId) (w:Z3) (base:Nat) (v:Value) (L:List LkM) (R:Nat->Prop):Prop where
 own:av E 2 lkW base w v L
 rows:∀q∈L,bc w R q.RA q.rd
 rR:∀g,R g->base<=g/\g<w.heap.size/\v.ownBlock≠ZV g
 bs:base<=w.heap.size
theorem OwK.below {E:TypeId} (h:OwK E w base v L R) (hb:Z2 w.heap.size w w'):OwK E w' base v L R where
 own:=h.own.below hb
 rows:=fun q hq=>(h.rows q hq).below hb
 rR:=fun g hg=>⟨(h.rR g hg).1,Nat.lt_of_lt_of_le (h.rR g hg).2.1 hb.size,(h.rR g hg).2.2⟩
 bs:=Nat.le_trans h.bs hb.size
theorem OwK.but {E:TypeId} {S:Nat->Prop} (h:OwK E w base v L R) (hb:aP S w w') (hS:∀g,S g->w.heap.size<=g):OwK E w' base v L R:=
 h.below (hb.below (fun k hk hs=>absurd (hS k hs) qoq) qd)
theorem OwK.app {E:TypeId} {wx w4:Z3} {q:LkM} (h:OwK E w base v L R) (hwx:Z2 w.heap.size w wx) (hA:bc wx (fun g=>w.heap.size<=g) q.RA q.rd)
 (hb1:Z2 wx.heap.size wx w1) (ho:av E 2 lkW base w4 v4 (L++[q])) (hg:w1.grownBy w4 v.ownBlock) (hat:v4.ownBlock=v.ownBlock\/∃k,v4.ownBlock=ZV k/\w1.heap.size<=k):
 OwK E w4 base v4 (L++[q]) (fun g=>R g\/(w.heap.size<=g/\g<wx.heap.size)):=by
 have h1:=(h.below hwx).below hb1;have s1:=hwx.size;have s2:=hb1.size;have s3:=hg.size
 have hvo:∀g,w.heap.size<=g->v.ownBlock≠ZV g:=fun g hg e=>by
  have:=(World.ownsRow.lt h.own g e).2;omega
 have hk:Kept w1 w4 (fun g=>R g\/(w.heap.size<=g/\g<wx.heap.size)):=⟨s3,fun g hgR hgl=>hg.block g hgl fun e=>by
  rcases hgR with hgR|⟨hgR,_⟩
  ·exact (h1.rR g hgR).2.2 (by first|exact e|exact e.symm)
  ·exact hvo g hgR (by first|exact e|exact e.symm)⟩
 refine ⟨ho,fun x hx=>?_,fun g hgR=>?_,Nat.le_trans h1.bs s3⟩
 ·rcases List.mem_append.1 hx with e|e
  ·exact ((h1.rows x e).mono (fun g hg _=>Or.inl hg)).kept hk
  ·obtain rfl:x=q:=by simpa using e
   exact ((hA.mono (Q:=fun g=>R g\/(w.heap.size<=g/\g<wx.heap.size)) fun g hg hl=>Or.inr ⟨hg,hl⟩).below hb1).kept hk
 ·have hne:v.ownBlock≠ZV g/\base<=g/\g<w1.heap.size:=by
   rcases hgR with hgR|⟨hgR,hgl⟩
   ·exact ⟨(h1.rR g hgR).2.2,(h1.rR g hgR).1,(h1.rR g hgR).2.1⟩
   ·exact ⟨hvo g hgR,Nat.le_trans h.bs hgR,qoq⟩
  refine ⟨hne.2.1,qoq,?_⟩;rcases hat with e|⟨k,e,hk⟩
  ·rw [e];exact hne.1
  ·rw [e];intro e';have:=Option.some.inj e';omega
theorem OwK.row {E:TypeId} (h:OwK E w base v L R):∃(A:Option Addr) (cap:Nat),v=Zw A L.length cap/\L.length<=cap/\gG w (fun g=>base<=g) A L:=by
 obtain ⟨A,cap,rfl,hc,_⟩:=av.shape (f:=lkW) (fun _=>rfl) h.own;refine ⟨A,cap,rfl,hc,?_⟩;rcases Nat.eq_zero_or_pos L.length with e|e
 ·exact .inl (List.length_eq_zero_iff.1 e)
 ·obtain ⟨g,cap',hv,hb,hg⟩:=World.ownsRow.form h.own e
  have ha:=av.at (f:=lkW) (fun _=>rfl) (hv▸h.own) rfl;simp at hv
  exact .inr ⟨g,0,hv.1,hb,hg,fun i q hi=>⟨⟨ha i q hi 0 _ rfl,ha i q hi 1 _ rfl⟩,(h.rows q (List.mem_of_getElem? hi)).mono fun g hg _=>(h.rR g hg).1⟩⟩
theorem JF {F:TxF} {l:List Src} {q:Src} (hq:l[i]? =ZV q) (h:lkS L=lkC F (l.take i)) {x:LkM} (hx:x.k=⟨q.ix,match F.tree q.text with
 |some t=>(F.rds t).map fun p=>aQ p.1 p.2
 |none=>[]⟩):lkS (L++[x])=lkC F (l.take (i+1)):=by
 rw [List.take_add_one,hq];unfold lkS lkC at*;rw [List.map_append,h,Option.toList_some,List.map_append,List.map_singleton,List.map_singleton,hx]<;>rfl
section
theorem Mj {l:List Src} (h:gW l x y≠[]):(⟨x,y,gW l x y⟩:Src)∈l:=by
 unfold gW at h ⊢;cases e:l.find? fun q=>(q.c==x&&q.r==y) with
 |none=>rw [e] at h;exact absurd rfl h
 |some q=>
  have h1:=List.mem_of_find?_eq_some e;have h2:=List.find?_some e;simp at h2
  obtain ⟨rfl,rfl⟩:=h2;exact h1
theorem jB {l:List Src}:∀{k:Nat} {q:Src},q∈bu l k->q∈l/\∃i,i<k/\q.c=atC (i:Int)/\q.r=atR (i:Int)
 |0,q,h=>by cases h
 |k+1,q,h=>by
  rw [bu] at h;rcases List.mem_append.1 h with e|e
  ·obtain ⟨h1,i,h2,h3⟩:=jB e
   exact ⟨h1,i,qoq,h3⟩
  ·split at e
   ·cases e
   ·rename_i hne
    obtain rfl:=List.mem_singleton.1 e;exact ⟨Mj hne,k,qoq,rfl,rfl⟩
theorem JP (hi:i<1024) (hk:k<1024) (h1:atC (i:Int)=atC (k:Int)) (h2:atR (i:Int)=atR (k:Int)):i=k:=by
 unfold atC at h1;unfold atR at h2;rw [if_pos qoq,if_pos qoq] at h1 h2;omega
theorem pg (l:List Src):∀k,k<=1024->dW (bu l k)
 |0,_=>List.Pairwise.nil
 |k+1,hk=>by
  rw [bu];refine List.pairwise_append.2 ⟨pg l k qoq,(by split;exact List.Pairwise.nil;exact List.pairwise_singleton _ _),fun a ha b hb=>?_⟩;obtain ⟨_,i,hi,e1,e2⟩:=jB ha;split at hb
  ·cases hb
  ·obtain rfl:=List.mem_singleton.1 hb
   rintro ⟨h1,h2⟩;rw [e1] at h1;rw [e2] at h2;have:=JP qoq qoq h1 h2;omega
section
variable {plB:List UInt8->Bool} {l:List Src}
theorem fN (h:cR plB l=0):(∀q∈l,dh plB q=Zy)/\dW l:=by
 unfold cR at h;split at h
 ·rename_i h1
  split at h
  ·rename_i h2;exact ⟨h1,h2⟩
  ·cases h
 ·cases h
theorem OU (h:cR plB l=0):cR plB (bu l 1024)=0:=
 Ew (fun q hq=>(fN h).1 q (jB hq).1) (pg l 1024 qd)
theorem oW (h:cR plB l=0):fx (bu l 1024):=⟨fun q hq=>by
 have:=(fN h).1 q (jB hq).1;unfold dh at this;rw [Bool.and_eq_true] at this;exact this.1,pg l 1024 qd⟩
end
def kM (n:Int):Prop:= -9223372036854775808<=n/\n<=9223372036854775807
theorem pu:kM 0:=⟨qoq,qoq⟩
structure TxB (F:TxF):Prop where
 rd:∀s t,F.tree s=ZV t->∀p∈F.rds t,rightB p.1 p.2=Zy
 val:∀s t l,F.tree s=ZV t->pA l->kM (F.val l t).1
 num:∀s,kM (F.num s)
theorem mN {c r:Int} (h:rightB c r=Zy):okN (aQ c r):=by
 have:=ev h;unfold okN aQ;rw [if_pos h];omega
theorem Cy {F:TxF} (hB:TxB F) {s:List Src} (h:fx s):OkK (lkC F s):=fun x hx=>by
 obtain ⟨q,hq,rfl⟩:=List.mem_map.1 hx;refine ⟨mN (h.1 q hq),fun r hr=>?_⟩;dsimp only at hr;cases ht:F.tree q.text with
 |none=>rw [ht] at hr;cases hr
 |some t=>
  rw [ht] at hr;obtain ⟨p,hp,rfl⟩:=List.mem_map.1 hr;exact mN (hB.rd _ t ht p hp)
open Classical in
theorem Oa {F:TxF} (hB:TxB F) {s:List Src} {C:List Cel} {q:Src} (hC:pA C):kM (g9 F s C q).1:=by
 unfold g9;split
 ·exact pu
 ·cases ht:F.tree q.text with
  |none=>exact hB.num _
  |some t=>exact hB.val _ t C ht hC
theorem J4 {s:List Src} {f:Int->Int×Int} (h:∀n,kM (f n).1):pA (ck s f):=fun x hx=>by
 obtain ⟨q,_,rfl⟩:=List.mem_map.1 hx;exact h _
theorem Bh {F:TxF} (hB:TxB F) (s:List Src):∀k n,kM (ff F s k n).1
 |0,_=>pu
 |k+1,n=>by
  rw [ff];unfold bH;split
  ·exact Oa hB (J4 (Bh hB s k))
  ·exact pu
end
theorem Hu (q:Cel):NzF (bX q):=fun h=>if_neg h
theorem Bw {x y:Int}:∀{l:List Cel} {v:Int×Int},cAt x y l=ZV v->NzF v
 |[],v,h=>by cases h
 |q::l,v,h=>by
  rw [cAt] at h;by_cases hp:q.c=x/\q.r=y
  ·rw [if_pos hp] at h;cases h;exact Hu q
  ·rw [if_neg hp] at h;exact Bw h
theorem NA (x y:Int) (l:List Cel):NzF (oL x y l):=by
 unfold oL;cases h:cAt x y l with
 |none=>exact fun hn=>absurd rfl hn
 |some v=>exact Bw h
theorem M4 (a b:Int):NzF (de a b):=zx _
theorem NY (a b:Int):NzF (cN a b):=fun hn=>absurd rfl hn
theorem Oy (a b:Int):NzF (cM a b):=fun hn=>absurd rfl hn
theorem so:NzF (0,0):=fun hn=>absurd rfl hn
theorem DH:NzF (0,3):=fun _=>rfl
theorem MQ (h:∀q∈l,NzF q) (i:Nat):NzF (l.getD i (0,0)):=by
 rw [List.getD_eq_getElem?_getD];cases hi:l[i]? with
 |none=>exact so
 |some v=>exact h v (List.mem_of_getElem? hi)
theorem zT (hG:∀a b,NzF (G a b)) (h:∀q∈l,NzF q):NzF (bv G l):=by
 unfold bv;refine uW hG l _ ?_;cases l with
 |nil=>exact so
 |cons a b=>exact h a (List.mem_cons_self ..)
theorem OT {l:List Cel} {b c:Int}:∀q∈cIn l a b c d,NzF q:=fun q hq=>by
 unfold cIn at hq;obtain ⟨p,_,hp⟩:=List.mem_filterMap.1 hq;exact Bw hp
mutual
theorem BT (l:List Cel):∀t:Tr,NzF (cmT l t)
 |.mk k n c r d s w ks=>by
  have h1:=D8 l ks;have h2:=DU l ks;rw [cmT];repeat' split
  all_goals first
   |exact fun hn=>absurd rfl hn
   |exact DH
   |exact NA _ _ _
   |exact Kj _ _ _
   |exact Kj _ (0,0) _
   |exact MQ h1 _
   |exact uW M4 _ _ so
   |exact zT NY h2
   |exact zT Oy h2
theorem D8 (l:List Cel):∀ks:List Tr,∀q∈cmL l ks,NzF q
 |[],q,h=>by rw [cmL] at h;cases h
 |t::ts,q,h=>by
  rw [cmL] at h;rcases List.mem_cons.1 h with rfl|h
  ·exact BT l t
  ·exact D8 l ts q h
theorem DU (l:List Cel):∀ks:List Tr,∀q∈itL l ks,NzF q
 |[],q,h=>by rw [itL] at h;cases h
 |t::ts,q,h=>by
  rw [itL] at h;rcases List.mem_append.1 h with h|h
  ·split at h
   ·exact OT q h
   ·rw [List.mem_singleton.1 h];exact BT l t
  ·exact DU l ts q h
end
theorem O4 (l:List Cel) (t:Tr):NzF (ofV l t):=by
 unfold ofV;split
 ·exact BT l t
 ·exact DH
theorem iV:B64 0:=by unfold B64;omega
theorem OH (b:Bool):B64 (tru b):=by unfold tru B64;split<;>omega
theorem Pv (w:List UInt8) (a b:Int):B64 (mI (vOp w a b)):=by
 unfold vOp;repeat' split
 all_goals first|exact wV _|exact OH _|exact iV
theorem Ph (w:List UInt8) (n f m g:Int):B64 (cQ w n f m g):=by
 unfold cQ;split
 ·exact Pv _ _ _
 ·exact iV
theorem Iq {x y:Int}:∀{l:List Cel} {v:Int×Int},(∀q∈l,B64 q.n)->cAt x y l=ZV v->B64 v.1
 |[],v,_,h=>by cases h
 |q::l,v,hc,h=>by
  rw [cAt] at h;by_cases hp:q.c=x/\q.r=y
  ·rw [if_pos hp] at h
   cases h;unfold bX;split
   ·exact hc q (List.mem_cons_self ..)
   ·exact iV
  ·rw [if_neg hp] at h;exact Iq (fun p hp=>hc p (List.mem_cons_of_mem _ hp)) h
theorem O9 {l:List Cel} (hc:∀q∈l,B64 q.n):B64 (oL x y l).1:=by
 unfold oL;cases h:cAt x y l with
 |none=>exact iV
 |some v=>exact Iq hc h
theorem OY (h:∀q∈l,B64 q.1) (i:Nat):B64 (l.getD i (0,0)).1:=by
 rw [List.getD_eq_getElem?_getD];cases hi:l[i]? with
 |none=>exact iV
 |some v=>exact h v (List.mem_of_getElem? hi)
theorem Dq (hG:g6 G) (h:∀q∈l,B64 q.1):B64 (bv G l).1:=by
 unfold bv;refine su hG l _ ?_ h;cases l with
 |nil=>exact iV
 |cons a b=>exact h a (List.mem_cons_self ..)
theorem PD {l:List Cel} (hc:∀q∈l,B64 q.n) {b c:Int}:∀q∈cIn l a b c d,B64 q.1:=fun q hq=>by
 unfold cIn at hq;obtain ⟨p,_,hp⟩:=List.mem_filterMap.1 hq;exact Iq hc hp
theorem O0 {n c r:Int} {w:List UInt8} (hm:ay (.mk 0 n c r d s w ks)=Zy) (hf:n<=9223372036854775807):B64 n:=by
 rw [ay,if_pos rfl] at hm;have:=(Bool.and_eq_true _ _▸hm).2;have h0:0<=n:=of_decide_eq_true this;unfold B64;omega
theorem Ld:∀t:Tr,1<=br t
 |.mk _ _ _ _ _ _ _ ks=>by rw [br];omega
theorem si:∀ks:List Tr,ks.length<=bU ks
 |[]=>qe
 |t::ts=>by have h1:=Ld t;have h2:=si ts;rw [bU,List.length_cons];omega
mutual
theorem B7 {l:List Cel} (hc:∀q∈l,B64 q.n):∀t:Tr,ay t=Zy->Fit t->br t<=1000000->B64 (cmT l t).1
 |.mk k n c r d s w ks,hm,.mk hn hf,hw0=>by
  have hw:bU ks<=1000000:=(by rw [br] at hw0;omega);have hl:=si ks;have hk:∀u∈ks,ay u=Zy:=jC hm
  have h1:=Kn hc ks hk hf hw;have h2:=Cf hc ks hk hf hw;have h3:=rJ l ks;rw [cmT];repeat' split
  all_goals first
   |(rename_i e;subst e;exact O0 hm hn)
   |exact iV
   |exact O9 hc
   |exact Ph _ _ _ _ _
   |exact OY h1 _
   |exact su lw _ _ iV h2
   |exact Dq pK h2
   |exact Dq pR h2
   |(unfold B64;show _<=((itL l ks).length:Int)/\((itL l ks).length:Int)<=_;omega)
theorem Kn {l:List Cel} (hc:∀q∈l,B64 q.n):∀ks:List Tr,(∀u∈ks,ay u=Zy)->(∀u∈ks,Fit u)->bU ks<=1000000->∀q∈cmL l ks,B64 q.1
 |[],_,_,_,q,h=>by rw [cmL] at h;cases h
 |t::ts,hm,hf,hw,q,h=>by
  rw [cmL] at h;rcases List.mem_cons.1 h with rfl|h
  ·exact B7 hc t (hm t (List.mem_cons_self ..)) (hf t (List.mem_cons_self ..)) qpO
  ·exact Kn hc ts (fun u hu=>hm u (List.mem_cons_of_mem _ hu)) (fun u hu=>hf u (List.mem_cons_of_mem _ hu)) qpO q h
theorem Cf {l:List Cel} (hc:∀q∈l,B64 q.n):∀ks:List Tr,(∀u∈ks,ay u=Zy)->(∀u∈ks,Fit u)->bU ks<=1000000->∀q∈itL l ks,B64 q.1
 |[],_,_,_,q,h=>by rw [itL] at h;cases h
 |t::ts,hm,hf,hw,q,h=>by
  rw [itL] at h;rcases List.mem_append.1 h with h|h
  ·split at h
   ·exact PD hc q h
   ·rw [List.mem_singleton.1 h];exact B7 hc t (hm t (List.mem_cons_self ..)) (hf t (List.mem_cons_self ..)) qpO
  ·exact Cf hc ts (fun u hu=>hm u (List.mem_cons_of_mem _ hu)) (fun u hu=>hf u (List.mem_cons_of_mem _ hu)) qpO q h
end
theorem bD (hb:Z2 (w.heap.size+1+1) ((w.alloc (.cells #[v0,v1,v2,v3,v4,v5,v6,v7] 33)).alloc (.cells #[ZZ ZY 0,ZZ ZY 0] 61)) w1):
 (w1.cell? ⟨w.heap.size,0,ZU⟩=ZV v0/\w1.cell? ⟨w.heap.size,1,ZU⟩=ZV v1/\w1.cell? ⟨w.heap.size,2,ZU⟩=ZV v2/\w1.cell? ⟨w.heap.size,3,ZU⟩=ZV v3/\w1.cell? ⟨w.heap.size,4,ZU⟩=ZV v4/\w1.cell? ⟨w.heap.size,5,ZU⟩=ZV v5/\w1.cell? ⟨w.heap.size,6,ZU⟩=ZV v6/\w1.cell? ⟨w.heap.size,7,ZU⟩=ZV v7)/\
 (w1.cell? ⟨w.heap.size+1,0,ZU⟩=ZV (ZZ ZY 0)/\w1.cell? ⟨w.heap.size+1,1,ZU⟩=ZV (ZZ ZY 0)/\w1.frozen? ⟨w.heap.size+1,0,ZU⟩=Zz/\w1.frozen? ⟨w.heap.size+1,1,ZU⟩=Zz)/\w.heap.size<w1.heap.size/\w.heap.size+1<w1.heap.size/\Z2 w.heap.size w w1:=by
 have hs:=hb.size;simp at hs
 have c:∀(i:Nat) (v:Value),((w.alloc (.cells #[v0,v1,v2,v3,v4,v5,v6,v7] 33)).alloc (.cells #[ZZ ZY 0,ZZ ZY 0] 61)).cell? ⟨w.heap.size,i,ZU⟩=ZV v->w1.cell? ⟨w.heap.size,i,ZU⟩=ZV v:=fun i v h=>by rw [hb.cell qnu];exact h
 refine ⟨⟨c _ _ ?_,c _ _ ?_,c _ _ ?_,c _ _ ?_,c _ _ ?_,c _ _ ?_,c _ _ ?_,c _ _ ?_⟩,⟨?_,?_,?_,?_⟩,qoq,qoq,(qa.alloc qns _).trans (hb.mono qoq)⟩;all_goals first|(simp [go_sem];done)|(rw [hb.cell qns];simp [go_sem];done)|(rw [hb.frozen qns];simp [go_sem])
structure GE (t:Tr):Prop where
 may:ay t=Zy
 fit:Fit t
 cnt:br t<=1000000
theorem GE.kid (h:GE t) (hu:u∈t.kZ):GE u:=by
 obtain ⟨k,n,c,r,d,s,w,ks⟩:=t;have hc:=h.cnt;rw [br] at hc;refine ⟨jC h.may u hu,(by have hf:=h.fit;cases hf with|mk _ hf=>exact hf u hu),?_⟩
 have:∀ks:List Tr,u∈ks->br u<=bU ks:=by
  intro ks;induction ks with
  |nil=>intro h;cases h
  |cons a b ih=>
   intro h;rw [bU];rcases List.mem_cons.1 h with rfl|h
   ·omega
   ·have:=ih h;omega
 have:=this ks hu;omega
theorem GE.len (h:GE t):t.kZ.length<=1000000:=by
 obtain ⟨k,n,c,r,d,s,w,ks⟩:=t;have hc:=h.cnt;rw [br] at hc;have:=si ks;show ks.length<=_
 omega
theorem GE.b64 (h:GE t) {l:List Cel} (hc:∀q∈l,B64 q.n):B64 (cmT l t).1:=B7 hc t h.may h.fit h.cnt
theorem GE.itB (h:GE t) {l:List Cel} (hc:∀q∈l,B64 q.n):∀q∈itL l t.kZ,B64 q.1:=by
 obtain ⟨k,n,c,r,d,s,w,ks⟩:=t;have hcn:=h.cnt;rw [br] at hcn;have hf:=h.fit;cases hf with
 |mk _ hf=>exact Cf hc ks (jC h.may) hf (show bU ks<=1000000 by omega)
theorem GE.itLen (h:GE t) (l:List Cel):(itL l t.kZ).length<=maxLen:=by
 have h1:=rJ l t.kZ;have h2:=h.len;unfold maxLen;omega
theorem zD (h:ks[i]? =ZV u) (hk:(u.kY==2)=Zy):(ks.any fun u=>u.kY==2)=Zy:=List.any_eq_true.2 ⟨u,List.mem_of_getElem? h,hk⟩
theorem EC (h:ks[i]? =ZV u) (hp:((ks.take i).any fun u=>u.kY==2)=Zz) (hk:(u.kY==2)=Zz):((ks.take (i+1)).any fun u=>u.kY==2)=Zz:=by
 rw [List.take_add_one,h,List.any_append,hp];show (Zz || ([u].any fun u=>u.kY==2))=Zz
 rw [List.any_cons,hk];rfl
theorem F6 (hm:ay t=Zy) (h:t.kY=3):∃a,t.kZ=[a]:=by
 rw [Jq h,Bool.and_eq_true] at hm;obtain ⟨k,n,c,r,d,s,w,ks⟩:=t;have h1:=hm.1;unfold aR at h1;simp only [Bool.and_eq_true,beq_iff_eq] at h1;exact List.length_eq_one_iff.1 h1.2.2.2
theorem Fy (hm:ay t=Zy) (h:t.kY=4):∃a b,t.kZ=[a,b]:=by
 rw [CG h,Bool.and_eq_true] at hm;obtain ⟨k,n,c,r,d,s,w,ks⟩:=t;have h1:=hm.1;unfold aR at h1;simp only [Bool.and_eq_true,beq_iff_eq] at h1;have h2:=h1.2.2.2;show ∃a b,ks=[a,b]
 match ks,h2 with
 |[a,b],_=>exact ⟨a,b,rfl⟩
theorem FL (hm:ay t=Zy) (h:t.kY=5):(t.wZ=[73,70]/\∃a b c,t.kZ=[a,b,c])\/t.wZ=[83,85,77]\/t.wZ=[77,73,78]\/t.wZ=[77,65,88]\/t.wZ=[67,79,85,78,84]:=by
 rw [lN h,Bool.and_eq_true,Bool.and_eq_true] at hm;have h2:=hm.2.2;by_cases hw:t.wZ=[73,70]
 ·rw [if_pos hw,beq_iff_eq] at h2
  refine .inl ⟨hw,?_⟩;obtain ⟨k,n,c,r,d,s,w,ks⟩:=t;show ∃a b c,ks=[a,b,c]
  match ks,h2 with
  |[a,b,c],_=>exact ⟨a,b,c,rfl⟩
 ·rw [if_neg hw] at h2
  split at h2
  ·rename_i h3;exact .inr h3
  ·cases h2
theorem tk (hm:ay t=Zy):t.kY=0\/t.kY=1\/t.kY=2\/t.kY=6\/t.kY=3\/t.kY=4\/t.kY=5:=by
 by_cases h0:t.kY=0
 ·exact .inl h0
 by_cases h1:t.kY=1
 ·exact .inr (.inl h1)
 by_cases h2:t.kY=2
 ·exact .inr (.inr (.inl h2))
 by_cases h6:t.kY=6
 ·exact .inr (.inr (.inr (.inl h6)))
 by_cases h3:t.kY=3
 ·exact .inr (.inr (.inr (.inr (.inl h3))))
 by_cases h4:t.kY=4
 ·exact .inr (.inr (.inr (.inr (.inr (.inl h4)))))
 by_cases h5:t.kY=5
 ·exact .inr (.inr (.inr (.inr (.inr (.inr h5)))))
 rw [FV h0 h1 h2 h6 h3 h4 h5] at hm;cases hm
theorem KT:(prog.info? 63).map (fun i=>(i.zero,i.size,i.bytes))=ZV (ZV (Zu #[ZZ ZY 0,ZZ ZY 0,ZZ ZY 0,ZZ ZY 0]),4,32):=by kernel_rfl
def vP (F:TxF) (plB:List UInt8->Bool) (w:Z3) (l:List Src) (e:Ending) (w':Z3):Prop:=Z2 w.heap.size w w'/\((cR plB l=0/\∃A c,e=ZX (.tuple #[Zw A (ck (bu l 1024) (ff F (bu l 1024) ((bu l 1024).length+1))).length c,ZZ ZY 0])/\eH w' (fun k=>w.heap.size<=k) A (ck (bu l 1024) (ff F (bu l 1024) ((bu l 1024).length+1))))\/(cR plB l≠0/\e=ZX (.tuple #[Zw ZU 0 0,ZZ ZY (cR plB l:Nat)])))
theorem KF:∀q:Cel,∀u∈clW q,u.oneCell'=Zy:=by
 intro q u hu;simp [clW] at hu
 rcases hu with rfl|rfl|rfl|rfl<;>rfl
theorem mX {E:TypeId} {L:List Cel} (h:av E 4 clW base w v L):∃(A:Option Addr) (cap:Nat),v=Zw A L.length cap/\L.length<=cap/\eH w (fun g=>base<=g) A L:=by
 obtain ⟨O,co,e,hk,hc⟩:=av.shape (f:=clW) (n:=4) (fun _=>rfl) h;refine ⟨O,co,e,hk,?_⟩;by_cases hne:L=[]
 ·exact .inl hne
 ·obtain ⟨g,o,e',hat⟩:=hc hne
  have hob:v.ownBlock=ZV g:=(by rw [e,e'];rfl);have hl:=World.ownsRow.lt h g hob;exact .inr ⟨g,o,e',hl.1,hl.2,hat⟩
theorem AK (q:Cel) (w:Z3):
 Calls ZW 211 #[Zu #[ZZ ZY q.n,ZZ ZY q.f]] w fun e w'=>e=ZX (Zu #[ZZ ZY (bX q).1,ZZ ZY (bX q).2])/\Z2 w.heap.size w w':=by
 cases hf:(q.f !=0) with
 |true=>
  have E:Hid (bX q=(0,q.f)):=qf (by unfold bX;rw [if_neg qqb]);go_enter func211,ntmps211;go_wp2_with fail
  exact bodyPost_ret (v:=Zu #[ZZ ZY 0,ZZ ZY q.f]) qqU rfl
   ⟨by rw [E.out],qox⟩
 |false=>
  have E:Hid (bX q=(q.n,q.f)):=qf (by unfold bX;rw [if_pos qqb]);go_enter func211,ntmps211;go_wp2_with fail
  exact bodyPost_ret (v:=Zu #[ZZ ZY q.n,ZZ ZY q.f]) qqU rfl
   ⟨by rw [E.out],qox⟩
theorem D2 {l:List Cel} {q:Cel} (h:l[i]? =ZV q):l.take (i+1)=l.take i++[q]:=by rw [List.take_add_one,h];rfl
theorem Bu (l:List Cel) (hl:l.length<maxLen) (hb:∀q∈l,B64 q.c/\B64 q.r) (LA:Option Addr) (lc:Nat) (w:Z3) (hc:fe w LA l):
 Calls ZW 155 #[Zw LA l.length lc] w fun e w'=>∃b,e=ZX (.map (ZV b))/\cU w' b l/\Z2 w.heap.size w w':=by
 have HC:=qgx;have HB:=qf hb;have HL:=qge;have hmm:=qfj;unfold maxLen at hl;clear hc hb;go_enter func155,ntmps155;go_wp2_with fail;go_loopw [11] (fun vi wr=>∃i:Nat,i<=l.length/\vi=ZZ ZY (i:Int)/\Hid (cU wr w.heap.size (l.take i))/\Z2 w.heap.size w wr) (fun vi _=>l.length - (RowKit.intOf vi).toNat)
 case atStart=>exact ⟨0,qe,rfl,qf (by rw [List.take_zero];exact cU.made w),qa⟩
 case round=>
  obtain ⟨i,hi,rfl,HM,hbel⟩:=hrel;by_cases hlt:i<l.length
  ·obtain ⟨q,hq⟩:∃q,l[i]? =ZV q:=⟨_,List.getElem?_eq_getElem hlt⟩
   obtain ⟨g,o,rfl,hat⟩:=HC.out qqy;obtain ⟨c0,c1,c2,c3⟩:=(hat.below hbel).get hq;obtain ⟨hqc,hqr⟩:=HB.out q (List.mem_of_getElem? hq);have HQ:=qf (And.intro hqc hqr);have HT:=qf (D2 hq);have HA:=qf (fun w=>AK q w);have hlk:(l.take i).length<9223372036854775807:=qpo;have zs:=hbel.size;clear hat hq;cases hs:(cAt q.c q.r (l.take i)).isSome with
   |true=>
    have HM2:=qf (HM.out.old hs);rw [<-HT.out] at HM2;obtain ⟨vn,hvn⟩:∃vn,oN (cAt q.c q.r (l.take i))=vn:=⟨_,rfl⟩
    obtain ⟨vf,hvf⟩:∃vf,oF (cAt q.c q.r (l.take i))=vf:=⟨_,rfl⟩
    have HMb:=qfr;have HF:Hid (∀w',Z2 wr.heap.size wr w'->∃i2:Nat,i2<=l.length/\Value.int .i64 ((i:Int)+1)=ZZ ZY (i2:Int)/\Hid (cU w' w.heap.size (l.take i2))/\Z2 w.heap.size w w'):=qf fun w' h=>⟨i+1,hlt,qnG,qf (HM2.out.below h),hbel.trans (h.mono zs)⟩
    have HV:=qf (And.intro hvn (And.intro hvf hs));clear hvn hvf hs HM2 HM hqc hqr;exact qiU
   |false=>
    obtain ⟨vn,hvn⟩:∃vn,oN (cAt q.c q.r (l.take i))=vn:=⟨_,rfl⟩
    obtain ⟨vf,hvf⟩:∃vf,oF (cAt q.c q.r (l.take i))=vf:=⟨_,rfl⟩
    have HMlt:=qf HM.out.lt;have HMb:=qfr;have HF:Hid (∀w' w4,Z2 wr.heap.size wr w'->cU w4 w.heap.size (l.take i++[q])->w'.grownBy w4 (ZV w.heap.size)->∃i2:Nat,i2<=l.length/\Value.int .i64 ((i:Int)+1)=ZZ ZY (i2:Int)/\Hid (cU w4 w.heap.size (l.take i2))/\Z2 w.heap.size w w4):=qf fun w' w4 h hm hg=>⟨i+1,hlt,qnG,qf (by rw [HT.out];exact hm),(hbel.trans (h.mono zs)).grown hg (Nat.le_trans zs h.size) (fun k hk=>by cases hk;exact qd)⟩
    have HV:=qf (And.intro hvn (And.intro hvf hs));have HS:=qf hs;clear hvn hvf hs HM hqc hqr;go_wp2_with (at_lookup;refine gT _ rfl _ _ rfl rfl (HMb.out _ qok) HQ.out.1 HQ.out.2 rfl HV.out.1 HV.out.2.1 HV.out.2.2 ?_)
    have k0:((wr.alloc (.cells #[ZZ ZY q.c,ZZ ZY q.r,ZZ ZY q.n,ZZ ZY q.f] 63)).alloc (.cells #[ZZ ZY vn,ZZ ZY vf] 61)).cell? ⟨wr.heap.size,0,ZU⟩=ZV (ZZ ZY q.c):=qnp;have k1:((wr.alloc (.cells #[ZZ ZY q.c,ZZ ZY q.r,ZZ ZY q.n,ZZ ZY q.f] 63)).alloc (.cells #[ZZ ZY vn,ZZ ZY vf] 61)).cell? ⟨wr.heap.size,1,ZU⟩=ZV (ZZ ZY q.r):=qnp;have k2:((wr.alloc (.cells #[ZZ ZY q.c,ZZ ZY q.r,ZZ ZY q.n,ZZ ZY q.f] 63)).alloc (.cells #[ZZ ZY vn,ZZ ZY vf] 61)).cell? ⟨wr.heap.size,2,ZU⟩=ZV (ZZ ZY q.n):=qnp;have k3:((wr.alloc (.cells #[ZZ ZY q.c,ZZ ZY q.r,ZZ ZY q.n,ZZ ZY q.f] 63)).alloc (.cells #[ZZ ZY vn,ZZ ZY vf] 61)).cell? ⟨wr.heap.size,3,ZU⟩=ZV (ZZ ZY q.f):=qnp;have hB2:Z2 wr.heap.size wr ((wr.alloc (.cells #[ZZ ZY q.c,ZZ ZY q.r,ZZ ZY q.n,ZZ ZY q.f] 63)).alloc (.cells #[ZZ ZY vn,ZZ ZY vf] 61)):=qa.alloc qns _;have hz2:((wr.alloc (.cells #[ZZ ZY q.c,ZZ ZY q.r,ZZ ZY q.n,ZZ ZY q.f] 63)).alloc (.cells #[ZZ ZY vn,ZZ ZY vf] 61)).heap.size=wr.heap.size+1+1:=qns;generalize ((wr.alloc (.cells #[ZZ ZY q.c,ZZ ZY q.r,ZZ ZY q.n,ZZ ZY q.f] 63)).alloc (.cells #[ZZ ZY vn,ZZ ZY vf] 61))=W2 at*;have zB:wr.heap.size<W2.heap.size:=qoq;have zw:w.heap.size<wr.heap.size:=HMlt.out
    go_region_held3 (fun w'=>w'.cell? ⟨wr.heap.size,0,ZU⟩=ZV (ZZ ZY q.c)/\w'.cell? ⟨wr.heap.size,1,ZU⟩=ZV (ZZ ZY q.r)/\w'.cell? ⟨wr.heap.size,2,ZU⟩=ZV (ZZ ZY q.n)/\w'.cell? ⟨wr.heap.size,3,ZU⟩=ZV (ZZ ZY q.f))
     (first|(simp only [World.cell?_drew];with_reducible exact ⟨k0,k1,k2,k3⟩)|(with_reducible exact ⟨m0,m1,m2,m3⟩)|(with_reducible exact ⟨n0,n1,n2,n3⟩)|go_keep|fail)
     (first
     |(go_at_call 211;refine Calls.mono (HA.out _) ?_;rintro e w3 ⟨rfl,b3⟩
       have B3:Z2 W2.heap.size W2 w3:=(Below.refl _ W2).drew.trans b3;have m0:=aa B3 k0;have m1:=aa B3 k1;have m2:=aa B3 k2;have m3:=aa B3 k3;have hB3:=hB2.trans (B3.mono qoq);have zB3:wr.heap.size<w3.heap.size:=Nat.lt_of_lt_of_le zB B3.size;obtain ⟨w4,hrun4,hM4,hg4⟩:=(HMb.out w3 hB3).put qnH HQ.out HS.out;have HR:=qf (HF.out w3 w4 hB3 hM4 hg4);have hne4:ZV wr.heap.size≠ZV w.heap.size:=fun e=>by have:=Option.some.inj e;omega
       have n0:=(hg4.cell_far ⟨wr.heap.size,0,ZU⟩ zB3 hne4).trans m0;have n1:=(hg4.cell_far ⟨wr.heap.size,1,ZU⟩ zB3 hne4).trans m1;have n2:=(hg4.cell_far ⟨wr.heap.size,2,ZU⟩ zB3 hne4).trans m2;have n3:=(hg4.cell_far ⟨wr.heap.size,3,ZU⟩ zB3 hne4).trans m3;clear b3 B3 k0 k1 k2 k3 hM4 hg4 hne4)
     |fail)
    exact qln
  ·have hii:i=l.length:=by omega
   subst hii;have hz:=HM.out;rw [List.take_length] at hz;have HZ:=qf hz;clear hz;go_wp2_with fail;go_ret;exact ⟨_,rfl,HZ.out,hbel⟩
theorem D1 {b c:Int} {n:Nat} (hn:n<=1024):∀p∈ax a b c d n,B64 p.1/\B64 p.2:=by
 intro p hp;unfold ax at hp;obtain ⟨j,hj,rfl⟩:=List.mem_map.1 hp;have hj2:=List.mem_range.1 (List.mem_filter.1 hj).1;unfold atC atR B64;constructor<;>omega
theorem Li (w:Z3) (X Y:Obj) (a b:Int) (j:Nat) (u:Value) (h:[Value.int .i64 a,Value.int .i64 b][j]? =ZV u):(((w.alloc X).alloc Y).alloc (.cells #[ZZ ZY a,ZZ ZY b] 61)).cell? ((⟨w.heap.size+1+1,0,ZU⟩:Addr).add j)=ZV u:=by
 match j,h with
 |0,h=>exact qmU
 |1,h=>exact qmU
theorem ow (l:List Cel) (b:Nat) (p0 p1 p2 p3:Int) (w:Z3) (hm:cU w b l):
 Calls ZW 303 #[.map (ZV b),Zu #[ZZ ZY p0,ZZ ZY p1,ZZ ZY p2,ZZ ZY p3]] w fun e w'=>∃v,e=ZX v/\dF w.heap.size w' v (cIn l p0 p1 p2 p3)/\Z2 w.heap.size w w':=by
 obtain ⟨i0,hi0,hz0,hz1,hz2⟩:=info_parts lu;have HI0:=qf hi0;have HZ0:=qf hz0;have HZ1:=qf hz1;have HZ2:=qf hz2;have HM:=qgz;have HCl:=qf (fun w=>pX p0 p1 p2 p3 w);have hcl:=ia p0 p1 p2 p3 1024;have HB:=qf (D1 (a:=p0) (b:=p1) (c:=p2) (d:=p3) (n:=1024) qd);have HE:Hid (cIn l p0 p1 p2 p3=fmT l (ax p0 p1 p2 p3 1024) (ax p0 p1 p2 p3 1024).length):=qf (by unfold fmT cIn;rw [List.take_length]);clear hi0 hz0 hz1 hz2;generalize cIn l p0 p1 p2 p3=R at*;generalize ax p0 p1 p2 p3 1024=C at*;clear hm;go_enter func303,ntmps303;go_wp2_with fail;refine (HCl.out _).mono ?_;rintro e w1 ⟨v7,rfl,hown7,b1⟩;obtain ⟨A7,cap7,rfl,hsh⟩:=p9 hown7
 have HPA:Hid (PlA w1 (Zw ZU 0 0) A7 C):=qf fun j hj=>by
  obtain ⟨g7,e,hb7,hl7,hat⟩:=hsh j hj;exact ⟨g7,e,hl7,fun e2=>by simp [Value.ownBlock] at e2,hat⟩
 have hb1:Z2 w.heap.size w w1:=qa.trans (b1.mono qns);clear hsh hown7 b1;go_wp2_with fail;go_loopw [5,13] (fun v n wr=>∃k:Nat,k<=C.length/\n=ZZ ZY (k:Int)/\dF w.heap.size wr v (fmT l C k)/\Hid (PlA wr v A7 C)/\Z2 w.heap.size w wr) (fun _ n _=>C.length - (RowKit.intOf n).toNat)
 case atStart=>exact ⟨0,qe,rfl,World.ownsRow_nil _ _ _ _,HPA,hb1⟩
 case round=>
  obtain ⟨k,hk2,rfl,hown2,HP2,hbel⟩:=hrel;have HO:=qf hown2;have hfl:=Kg l C k;have zs:=hbel.size;clear HPA hb1 hown2;by_cases hlt2:k<C.length
  ·obtain ⟨x,y,hxy⟩:∃x y,C[k]? =ZV (x,y):=⟨_,_,List.getElem?_eq_getElem hlt2⟩
   obtain ⟨g7,rfl,hg7,hn7,hat7⟩:=HP2.out k hlt2;obtain ⟨a0,a1⟩:=hat7 k x y hxy;have HQ:=qf (HB.out (x,y) (List.mem_of_getElem? hxy));have HMb:Hid (∀w',Z2 wr.heap.size wr w'->cU w' b l):=qf fun w' h=>(HM.out.below hbel).below h
   have HY:=qf (fun v=>Ds (l:=l) (v:=v) hxy);have HN:=qf (J6 (l:=l) hxy);clear hat7 hxy;cases hv:cAt x y l with
   |none=>
    have HN2:=qf (HN.out hv);have HV:Hid (oN (cAt x y l)=0/\oF (cAt x y l)=0/\(cAt x y l).isSome=Zz):=qf (by rw [hv];exact ⟨rfl,rfl,rfl⟩)
    have HF:Hid (∀wf,Z2 wr.heap.size wr wf->∃k2:Nat,k2<=C.length/\Value.int .i64 ((k:Int)+1)=ZZ ZY (k2:Int)/\dF w.heap.size wf u5 (fmT l C k2)/\Hid (PlA wf u5 (ZV ⟨g7,0,ZU⟩) C)/\Z2 w.heap.size w wf):=qf fun wf bf=>by
     refine ⟨k+1,hlt2,qnG,(by rw [HN2.out];exact dS HO.out bf),qf fun j hj=>?_,hbel.trans (bf.mono zs)⟩;obtain ⟨g',e,h1,h2,h3⟩:=HP2.out j hj;exact ⟨g',e,Nat.lt_of_lt_of_le h1 bf.size,h2,km h3 bf h1⟩
    clear HN HY hv HP2 HO;exact qiU
   |some p=>
    obtain ⟨pn,pf⟩:=p;have HY2:=qf (HY.out (pn,pf) hv);have HV:Hid (oN (cAt x y l)=pn/\oF (cAt x y l)=pf/\(cAt x y l).isSome=Zy):=qf (by rw [hv];exact ⟨rfl,rfl,rfl⟩)
    have HF:Hid (∀w3 wf v',Z2 wr.heap.size wr w3->wf.ownsRow w.heap.size 61 2 v' ((fmT l C k).length+1) (bj (fmT l C k)++[ZZ ZY pn,ZZ ZY pf])->w3.grownBy wf u5.ownBlock->(∀q,v'.ownBlock=ZV q->u5.ownBlock=ZV q\/wr.heap.size<=q)->∃k2:Nat,k2<=C.length/\Value.int .i64 ((k:Int)+1)=ZZ ZY (k2:Int)/\dF w.heap.size wf v' (fmT l C k2)/\Hid (PlA wf v' (ZV ⟨g7,0,ZU⟩) C)/\Z2 w.heap.size w wf):=qf fun w3 wf v' b3 ho hg hq=>by
     refine ⟨k+1,hlt2,qnG,?_,qf fun j hj=>?_,(hbel.trans (b3.mono zs)).grown hg (Nat.le_trans zs b3.size) (fun q hk=>(HO.out.lt q hk).1)⟩
     ·unfold dF
      rw [HY2.out,List.length_append,js];exact ho
     ·obtain ⟨g',e,h1,h2,h3⟩:=HP2.out j hj
      have hgl:g'<w3.heap.size:=Nat.lt_of_lt_of_le h1 b3.size;refine ⟨g',e,Nat.lt_of_lt_of_le hgl hg.size,fun e2=>?_,?_⟩
      ·rcases hq g' e2 with h4|h4
       ·exact h2 h4
       ·omega
      ·have hat:=km h3 b3 h1
       exact qjT
    clear HN HY hv HP2
    go_wp2_with (first
     |(at_lookup;refine gT _ rfl _ _ rfl rfl (HMb.out _ qok) HQ.out.1 HQ.out.2 rfl HV.out.1 HV.out.2.1 HV.out.2.2 ?_)
     |(at_builtin;refine eh ?_))
    refine ek ?_;have hO3:∀wf,Z2 wr.heap.size wr wf->wf.ownsRow w.heap.size 61 2 u5 (fmT l C k).length (bj (fmT l C k)):=fun wf h=>dS HO.out h
    refine wpList_append_lies _ rfl _ _ 226 rfl w.heap.size 61 i0 (Zu #[ZZ ZY 0,ZZ ZY 0]) 2 16 underlying226 HI0.out HZ0.out HZ1.out HZ2.out rfl qnv u5 _ _ rfl (hO3 _ qoT)
     ⟨wr.heap.size+1+1,0,ZU⟩ 1 1 [ZZ ZY pn,ZZ ZY pf] rfl rfl (Li wr _ _ pn pf) (xe pn pf) qnv qnH qoq qnu (wr.heap.size+1+1+1) qns ?_
    intro gq cq w4 hown4 hg4 hat4 _
    have hob:∀q,(Value.slice (ZV ⟨gq,0,ZU⟩) ((fmT l C k).length+1) cq).ownBlock=ZV q->u5.ownBlock=ZV q\/wr.heap.size<=q:=fun q hq=>by
     exact qkq
    have HR:=qf (HF.out _ w4 _ qoT hown4 hg4 hob);clear HF HO hown4 hg4 hat4 hob hO3;exact qln
  ·have hkk:k=C.length:=by omega
   subst hkk
   have hown5:dF w.heap.size wr u5 R:=by
    rw [HE.out];exact HO.out
   clear HO;go_wp2_with fail;go_ret;exact ⟨_,rfl,hown5,hbel⟩
section
theorem sp (w:Z3) (i:TypeInfo) (hi:prog.info? 61=ZV i) (ty:TypeId) (hown:dF base w v X):
 (Builtin.append_ #[226,226] ty #[v,Zw ZU 0 0]).run ZW w=.ok v w:=by
 rcases hown.2 with ⟨rfl,hl⟩|⟨g,cap,cur,rfl,_,hh,hn,_⟩
 ·simp [Builtin.append_,run_underlying underlying226,sizeOf,typeInfo,hi,Builtin.lenOf,Builtin.firstCells,loadCells,loadCellsFrom,storeCells]
 ·simp [Builtin.append_,run_underlying underlying226,sizeOf,typeInfo,hi,Builtin.lenOf,Builtin.firstCells,loadCells,loadCellsFrom,storeCells,hn]
theorem mj:∀(l:List (Int×Int)) (j:Nat) (u:Value),(bj l)[j]? =ZV u->∃i x y,l[i]? =ZV (x,y)/\((j=i*2/\u=ZZ ZY x)\/(j=i*2+1/\u=ZZ ZY y))
 |[],j,u,h=>by simp [bj] at h
 |p::t,0,u,h=>by
  have e:=qdo;rw [e] at h;simp at h;exact ⟨0,p.1,p.2,rfl,.inl ⟨rfl,h.symm⟩⟩
 |p::t,1,u,h=>by
  have e:=qdo;rw [e] at h;simp at h;exact ⟨0,p.1,p.2,rfl,.inr ⟨rfl,h.symm⟩⟩
 |p::t,j+2,u,h=>by
  have e:=qdo;rw [e,List.getElem?_cons_succ,List.getElem?_cons_succ] at h;obtain ⟨i,x,y,h1,h2⟩:=mj t j u h;refine ⟨i+1,x,y,h1,?_⟩;rcases h2 with ⟨rfl,rfl⟩|⟨rfl,rfl⟩
  ·exact .inl ⟨qoq,rfl⟩
  ·exact .inr ⟨qoq,rfl⟩
section
variable (w:Z3) {ops:Array Oper} {rest:List Oper} {o:Oper} {a:Act} {Q:Exit->Act->Z3->Prop}
theorem iX (hg:o.guard=ZU) (s x:Operand) (ho:o.op=.call { callee:=.builtin .append,args:=#[s,x],argTypes:=#[226,226] })
 (hs:a.eval s=v) (hown:dF base w v X) {A2:Option Addr} {cap2:Nat} {L2:List (Int×Int)} (hx:a.eval x=Zw A2 L2.length cap2) (hL:fH w A2 L2) (hnil:A2=ZU->cap2=0) (hlen:X.length+L2.length<=2000000000) (hbase:base<=w.heap.size)
 (h:∀v' w',dF base w' v' (X++L2)->w.grownBy w' v.ownBlock->wpList ZW ops Q rest (a.put o.dst v') w'):wpList ZW ops Q (o::rest) a w:=by
 obtain ⟨i0,hi0,hz0,hz1,hz2⟩:=info_parts lu;cases A2 with
 |none=>
  have hne:L2=[]:=by
   cases L2 with
   |nil=>rfl
   |cons p t=>obtain ⟨g,o,e,_⟩:=hL qns;cases e
  subst hne;have hc:=hnil rfl;subst hc;refine wpList_plain hg fun K' hK'=>?_
  have hr:=sp w i0 hi0 o.type hown;unfold Oper.wp execOp;simp only [ho,Go.resolve,invoke,builtin,Sem.run_bind,Sem.run_pure,Result.andThen_ok,List.map_toArray,List.map_cons,List.map_nil,hs,hx,List.length_nil,hr];exact hK' _ _ (h v w (by rw [List.append_nil];exact hown) ⟨rfl,rfl,rfl,qd,fun _ _ _=>rfl⟩)
 |some ad=>
  refine wpList_append_own w hg s x 226 ho base 61 i0 (Zu #[ZZ ZY 0,ZZ ZY 0]) 2 16 underlying226 hi0 hz0 hz1 hz2 rfl qnv v X.length (bj X) hs hown ad L2.length cap2 (bj L2) hx (Cb L2) ?_ ?_ qnH qoq hbase fun v' w' hown' hg' _=>h v' w' (by unfold dF;rw [List.length_append,js];exact hown') hg'
  ·intro j u hj
   obtain ⟨i,p,q,hi,hpq⟩:=mj L2 j u hj;obtain ⟨g,off,e,hat⟩:=hL (by rintro rfl;simp at hi);cases e;obtain ⟨h1,h2⟩:=hat i p q hi;rw [Go.WideShapes.add_plain];rcases hpq with ⟨rfl,rfl⟩|⟨rfl,rfl⟩
   ·exact h1
   ·rw [<-Nat.add_assoc];exact h2
  ·intro u hu
   obtain ⟨j,hj⟩:=List.mem_iff_getElem?.1 hu;obtain ⟨i,p,q,hi,hpq⟩:=mj L2 j u hj;rcases hpq with ⟨_,rfl⟩|⟨_,rfl⟩<;>rfl
end
theorem dF.shape2 {L:List (Int×Int)} (h:dF base w v L):
 ∃(A:Option Addr) (cap:Nat),v=Zw A L.length cap/\fH w A L/\(A=ZU->cap=0):=by
 rcases h.2 with ⟨rfl,hl⟩|⟨g,cap,cur,rfl,_,hh,_⟩
 ·refine ⟨ZU,0,(by rw [hl]),fun hne=>?_,fun _=>rfl⟩
  exact qlP
 ·refine ⟨_,cap,rfl,?_,fun e=>by cases e⟩
  obtain ⟨A',cap',e,hl⟩:=h.shape;cases e;exact hl
theorem IY (w:Z3) (a b:Int):fH (w.alloc (.cells #[ZZ ZY a,ZZ ZY b] 61)) (ZV ⟨w.heap.size,0,ZU⟩) [(a,b)]:=fun _=>⟨w.heap.size,0,rfl,fun i x y hi=>by
 match i,hi with
 |0,hi=>simp at hi;obtain ⟨rfl,rfl⟩:=hi;constructor<;>simp [go_sem]⟩
def gj (l:List Cel) (t:Tr):Prop:=∀(w:Z3) (P:Nat->Prop) (A:Option Addr) (cap b:Nat),KV w P t A->cU w b l->
 Calls ZW 156 #[.map (ZV b),.agg (Ku.k t A cap)] w fun e w'=>e=ZX (Zu #[ZZ ZY (cmT l t).1,ZZ ZY (cmT l t).2])/\Z2 w.heap.size w w'
def Ao (l:List Cel) (t:Tr):Prop:=∀(w:Z3) (P:Nat->Prop) (A:Option Addr) (cap b:Nat),KV w P t A->cU w b l->
 Calls ZW 260 #[.map (ZV b),Zw A t.kZ.length cap] w fun e w'=>∃v,e=ZX v/\dF w.heap.size w' v (itL l t.kZ)/\Z2 w.heap.size w w'
theorem yE {l:List Cel} (hu:ks[i]? =ZV u) (h6:u.kY=6):itL l (ks.take (i+1))=itL l (ks.take i)++cIn l u.c1 u.r1 u.c2 u.r2:=by rw [o8 hu,if_pos h6]
theorem uG {W:Z3} (b1:Z2 (W.alloc (.cells #[v0,v1,v2,v3,v4,v5,v6,v7] 33)).heap.size (W.alloc (.cells #[v0,v1,v2,v3,v4,v5,v6,v7] 33)) w1):
 Z2 W.heap.size W w1/\W.heap.size<w1.heap.size:=⟨qa.trans (b1.mono qns),qpI⟩
theorem D0 {l:List Cel} (t:Tr) (hlen:t.kZ.length<=1000000) (ih:∀u∈t.kZ,gj l u):Ao l t:=by
 intro w P A cap b hk hm;have HK:=qfq;have HI:=qf ih;have HM:=qgz;clear hk ih hm;go_enter func260,ntmps260;go_wp2_with fail;go_loopw [5,10] (fun v n wr=>∃i:Nat,i<=t.kZ.length/\n=ZZ ZY (i:Int)/\dF w.heap.size wr v (itL l (t.kZ.take i))/\Z2 w.heap.size w wr) (fun _ n _=>t.kZ.length - (RowKit.intOf n).toNat)
 case atStart=>exact qmV
 case round=>
  obtain ⟨i,hi,rfl,hown,hbel⟩:=hrel;have HO:=qf hown;obtain ⟨hle,hlt1⟩:=qdR;have zs:=hbel.size;clear hown;by_cases hlt:i<t.kZ.length
  ·have hu:t.kZ[i]? =ZV (t.kZ[i]'hlt):=List.getElem?_eq_getElem hlt
   obtain ⟨g,o,rfl⟩:=HK.out.addr hu;obtain ⟨hg,A',cap',h8,hkv⟩:=HK.out.kidAt hbel hu;have HT1:=qf (Gk (l:=l) hu);have HT2:=qf (yE (l:=l) hu);have HCo:=qf (fun w1 (hb:Z2 wr.heap.size wr w1)=>HI.out _ (List.getElem_mem hlt) w1 _ A' cap' b (hkv.kept (Kept.of_below hb)) ((HM.out.below hbel).below hb));have HFl:=qf (fun (w1:Z3) (hb:Z2 wr.heap.size wr w1) p q r s=>ow l b p q r s w1 ((HM.out.below hbel).below hb));generalize t.kZ[i]'hlt=u at*;have hcl:=wo l u.c1 u.r1 u.c2 u.r2;obtain ⟨q0,q1,q2,q3,q4,q5,q6,q7⟩:=h8;clear hkv hu hg;by_cases h6:u.kY=6
   ·have d6:(u.kY==6)=Zy:=by simpa using h6
    have HT:=qf (HT2.out h6);have HF2:=qf (fun w1 hb=>HFl.out w1 hb u.c1 u.r1 u.c2 u.r2);clear HT1 HT2 h6 HCo HFl;generalize cIn l u.c1 u.r1 u.c2 u.r2=L2 at*;go_wp2_with fail;refine (HF2.out _ qa).mono ?_;rintro e w1 ⟨v2,rfl,hown2,b1⟩;obtain ⟨hB1,zw⟩:=uG b1;obtain ⟨A2,cap2,rfl,hL2,hnil⟩:=hown2.shape2;obtain ⟨HO1,hb1⟩:=qgh;clear b1 hB1 hown2 q0 q1 q2 q3 q4 q5 q6 q7 HO HF2 d6;go_wp2_with (at_builtin;refine eh ?_)
    refine ek ?_;refine iX _ rfl _ _ rfl rfl HO1.out rfl hL2 hnil qoq qoq ?_;intro v' w4 hown4 hg4;have hb4:Z2 w.heap.size w w4:=hb1.grown hg4 qoq (fun k hk=>(HO1.out.lt k hk).1);rw [<-HT.out] at hown4;clear hg4 hL2 hnil HO1;exact qkG
   ·have d6:(u.kY==6)=Zz:=by simpa using h6
    have HT:=qf (HT1.out h6);clear HT1 HT2 h6 HFl hcl;generalize cmT l u=cu at*;go_wp2_with fail;refine Calls.mono (HCo.out _ qa) ?_;rintro e w1 ⟨rfl,b1⟩;obtain ⟨hB1,zw⟩:=uG b1;obtain ⟨HO1,hb1⟩:=qgh;obtain ⟨cn,cf⟩:=cu;clear b1 hB1 q0 q1 q2 q3 q4 q5 q6 q7 HO HCo d6;go_wp2_with (at_builtin;refine eh ?_)
    refine ek ?_;refine iX _ rfl _ _ rfl rfl (HO1.out.alloc _) (L2:=[(cn,cf)]) rfl (IY w1 cn cf) (fun e=>by cases e) qnu qnu ?_;intro v' w4 hown4 hg4;have hb4:=qfh;rw [<-HT.out] at hown4;clear hg4 HO1;exact qkG
  ·have hii:i=t.kZ.length:=by omega
   exact qla
end
section
open Go.Maps
theorem eN (hb:Z2 (w.heap.size+1) (w.alloc (.cells #[ZZ ZY 0,ZZ ZY 0] 61)) w1):
 (w1.cell? ⟨w.heap.size,0,ZU⟩=ZV (ZZ ZY 0)/\w1.cell? ⟨w.heap.size,1,ZU⟩=ZV (ZZ ZY 0)/\w1.frozen? ⟨w.heap.size,0,ZU⟩=Zz/\w1.frozen? ⟨w.heap.size,1,ZU⟩=Zz)/\w.heap.size<w1.heap.size/\Z2 w.heap.size w w1:=by
 have hs:=hb.size;simp at hs
 refine ⟨⟨?_,?_,?_,?_⟩,qoq,qa.trans (hb.mono qoq)⟩;all_goals first|(rw [hb.cell qns];simp [go_sem];done)|(rw [hb.frozen qns];simp [go_sem])
def ChC (l:List Cel) (t:Tr) (f:FuncId):Prop:=∀(w:Z3) (P:Nat->Prop) (A:Option Addr) (cap b:Nat),KV w P t A->cU w b l->
 Calls ZW f #[.map (ZV b),Zw A t.kZ.length cap] w fun e w'=>e=ZX (Zu #[ZZ ZY (cmT l t).1,ZZ ZY (cmT l t).2])/\Z2 w.heap.size w w'
theorem GX {l:List Cel} (t a b c:Tr) (hlen:t.kZ.length<=1000000) (h5:t.kY=5) (hwd:t.wZ=[73,70]) (h0:t.kZ[0]? =ZV a) (h1:t.kZ[1]? =ZV b) (h2:t.kZ[2]? =ZV c) (ih:∀u∈t.kZ,gj l u) (hf:(cmT l a).2≠0):ChC l t 257:=by
 intro w P A cap B hk hm;have HE:=qgB;obtain ⟨g,o,rfl⟩:=hk.addr h0;have HA:=qdJ;have HR:=qf (ih a (List.mem_of_getElem? h0));have HK:=qfq;have HM:=qgz;obtain ⟨Ha,Hz,l2,df⟩:=qeQ;have hb0:=qcJ;obtain ⟨⟨kr0,kr1,kf0,kf1⟩,kz0,kb⟩:=eN hb0;obtain ⟨hg,A0,c0,⟨q0,q1,q2,q3,q4,q5,q6,q7⟩,hk0⟩:=HK.out.kidAt kb Ha.out;simp only [Nat.zero_mul,Nat.add_zero] at q0 q1 q2 q3 q4 q5 q6 q7;have HC0:=qga;clear hk hm h0 h1 h2 ih h5 hwd hf hk0 hg HA kr0 kr1 kf0 kf1;go_enter func257,ntmps257;go_wp2_with fail;refine Calls.mono HC0.out ?_;rintro e w1 ⟨rfl,b1⟩;have hb1:=qbs;obtain ⟨⟨mr0,mr1,mf0,mf1⟩,mz0,mb⟩:=eN hb1;clear b1 hb1 q0 q1 q2 q3 q4 q5 q6 q7 kb kz0;go_wp2_with fail;exact bodyPost_ret (v:=Zu #[ZZ ZY (cmT l a).1,ZZ ZY (cmT l a).2]) (by simp [results,results257,go_sem,mr0,mr1,mz0,mf0,mf1]) rfl ⟨qnI,qnn⟩
theorem Ib {l:List Cel} (t a b c:Tr) (hlen:t.kZ.length<=1000000) (h5:t.kY=5) (hwd:t.wZ=[73,70]) (h0:t.kZ[0]? =ZV a) (h1:t.kZ[1]? =ZV b) (h2:t.kZ[2]? =ZV c) (ih:∀u∈t.kZ,gj l u) (hf:(cmT l a).2=0) (hn:(cmT l a).1≠0):ChC l t 257:=by
 intro w P A cap B hk hm;have HE:=qfl;obtain ⟨g,o,rfl⟩:=hk.addr h0;have HA:=qdJ;have HR:=qf (ih b (List.mem_of_getElem? h1));have HK:=qfq;have HM:=qgz;have Ha:=qf h0;have Hb:=qf h1;obtain ⟨l2,df⟩:=qcA;have dn:((cmT l a).1 !=0)=Zy:=qpF;have hb0:=qcJ;obtain ⟨⟨kr0,kr1,kf0,kf1⟩,kz0,kb⟩:=eN hb0;obtain ⟨hg,A0,c0,⟨q0,q1,q2,q3,q4,q5,q6,q7⟩,hk0⟩:=HK.out.kidAt kb Ha.out;simp only [Nat.zero_mul,Nat.add_zero] at q0 q1 q2 q3 q4 q5 q6 q7;have HC0:=qga;clear hk hm h0 h1 h2 ih h5 hwd hf hn hk0 hg HA kr0 kr1 kf0 kf1;go_enter func257,ntmps257;go_wp2_with fail;refine Calls.mono HC0.out ?_;rintro e w1 ⟨rfl,b1⟩;have hb1:=qbs;obtain ⟨⟨mr0,mr1,mf0,mf1⟩,mz0,mb⟩:=eN hb1;obtain ⟨hg2,A1,c1,⟨p0,p1,p2,p3,p4,p5,p6,p7⟩,hk1⟩:=HK.out.kidAt mb Hb.out;simp only [Nat.one_mul,Nat.reduceMul,Nat.add_assoc,Nat.reduceAdd] at p0 p1 p2 p3 p4 p5 p6 p7;have HC1:=qdT;have zg:=qgV;clear b1 q0 q1 q2 q3 q4 q5 q6 q7 kb kz0 hk1 hg2;go_wp2_with fail;refine Calls.mono (HC1.out _) ?_;rintro e w2 ⟨rfl,b2⟩;have hb2:=qcX;obtain ⟨⟨nr0,nr1,nf0,nf1⟩,nz0,nb⟩:=eN hb2;clear b2 hb1 hb2 mr0 mr1 mf0 mf1 mz0 mb p0 p1 p2 p3 p4 p5 p6 p7;go_wp2_with fail;exact bodyPost_ret (v:=Zu #[ZZ ZY (cmT l b).1,ZZ ZY (cmT l b).2]) qpW rfl ⟨qnI,qnn⟩
theorem Gy {l:List Cel} (t a b c:Tr) (hlen:t.kZ.length<=1000000) (h5:t.kY=5) (hwd:t.wZ=[73,70]) (h0:t.kZ[0]? =ZV a) (h1:t.kZ[1]? =ZV b) (h2:t.kZ[2]? =ZV c) (ih:∀u∈t.kZ,gj l u) (hf:(cmT l a).2=0) (hn:(cmT l a).1=0):ChC l t 257:=by
 intro w P A cap B hk hm;have HE:=qeN;obtain ⟨g,o,rfl⟩:=hk.addr h0;have HA:=qdJ;have HR:=qf (ih c (List.mem_of_getElem? h2));have HK:=qfq;have HM:=qgz;have Ha:=qf h0;have Hc:=qf h2;obtain ⟨l2,df⟩:=qcA;have dn:((cmT l a).1 !=0)=Zz:=qpF;have hb0:=qcJ;obtain ⟨⟨kr0,kr1,kf0,kf1⟩,kz0,kb⟩:=eN hb0;obtain ⟨hg,A0,c0,⟨q0,q1,q2,q3,q4,q5,q6,q7⟩,hk0⟩:=HK.out.kidAt kb Ha.out;simp only [Nat.zero_mul,Nat.add_zero] at q0 q1 q2 q3 q4 q5 q6 q7;have HC0:=qga;clear hk hm h0 h1 h2 ih h5 hwd hf hn hk0 hg HA kr0 kr1 kf0 kf1;go_enter func257,ntmps257;go_wp2_with fail;refine Calls.mono HC0.out ?_;rintro e w1 ⟨rfl,b1⟩;have hb1:=qbs;obtain ⟨⟨mr0,mr1,mf0,mf1⟩,mz0,mb⟩:=eN hb1;obtain ⟨hg2,A1,c1,⟨p0,p1,p2,p3,p4,p5,p6,p7⟩,hk1⟩:=HK.out.kidAt mb Hc.out;simp only [Nat.one_mul,Nat.reduceMul,Nat.add_assoc,Nat.reduceAdd] at p0 p1 p2 p3 p4 p5 p6 p7;have HC1:=qdT;have zg:=qgV;clear b1 q0 q1 q2 q3 q4 q5 q6 q7 kb kz0 hk1 hg2;go_wp2_with fail;refine Calls.mono (HC1.out _) ?_;rintro e w2 ⟨rfl,b2⟩;have hb2:=qcX;obtain ⟨⟨nr0,nr1,nf0,nf1⟩,nz0,nb⟩:=eN hb2;clear b2 hb1 hb2 mr0 mr1 mf0 mf1 mz0 mb p0 p1 p2 p3 p4 p5 p6 p7;go_wp2_with fail;exact bodyPost_ret (v:=Zu #[ZZ ZY (cmT l c).1,ZZ ZY (cmT l c).2]) qpW rfl ⟨qnI,qnn⟩
theorem EP {l:List Cel} (t:Tr) (hlen:t.kZ.length<=1000000) (h5:t.kY=5) (hwd:t.wZ=[67,79,85,78,84]) (hkd:∀u∈t.kZ,u.kY=6\/u.kY=2) (ih:∀u∈t.kZ,gj l u):ChC l t 266:=by
 intro w P A cap B hk hm;obtain ⟨HE1,HE2⟩:=qcL;have HK:=qfq;have HM:=qgz;have HI:=qf ih;have HD:=qf hkd;clear hk hm ih h5 hwd hkd;go_enter func266,ntmps266;go_wp2_with fail;go_loopw [5,10] (fun nv vi wr=>∃i:Nat,i<=t.kZ.length/\vi=ZZ ZY (i:Int)/\nv=ZZ ZY ((itL l (t.kZ.take i)).length:Int)/\Hid (((t.kZ.take i).any fun u=>u.kY==2)=Zz)/\Z2 (w.heap.size+1) (w.alloc (.cells #[ZZ ZY 0,ZZ ZY 0] 61)) wr) (fun _ vi _=>t.kZ.length - (RowKit.intOf vi).toNat)
 case atStart=>exact ⟨0,qe,rfl,(by rw [List.take_zero,itL];rfl),qf qqr,qb⟩
 case round=>
  obtain ⟨i,hi,rfl,rfl,HT,hb0⟩:=hrel;obtain ⟨⟨kr0,kr1,kf0,kf1⟩,kz0,kb⟩:=eN hb0;obtain ⟨hle,hlt1⟩:=qdR;by_cases hlt2:i<t.kZ.length
  ·have hu:t.kZ[i]? =ZV (t.kZ[i]'hlt2):=List.getElem?_eq_getElem hlt2
   obtain ⟨g,o,rfl⟩:=HK.out.addr hu;obtain ⟨hg,A',cap',⟨q0,q1,q2,q3,q4,q5,q6,q7⟩,hkv⟩:=HK.out.kidAt kb hu;have HY:=qf (zD hu);have HN:=qf (EC hu HT.out);have HSp:=qf (yE (l:=l) hu);have hd:=HD.out _ (List.getElem_mem hlt2);have HCo:=qf (fun w1 (hb:Z2 wr.heap.size wr w1)=>HI.out _ (List.getElem_mem hlt2) w1 _ A' cap' B (hkv.kept (Kept.of_below hb)) ((HM.out.below kb).below hb));have HFl:=qf (fun (w1:Z3) (hb:Z2 wr.heap.size wr w1) p q r s=>ow l B p q r s w1 ((HM.out.below kb).below hb));generalize t.kZ[i]'hlt2=u at*;clear hkv hu hg;by_cases h2:u.kY=2
   ·have d2:(u.kY==2)=Zy:=by simpa using h2
    have HE:=qf (HE1.out (HY.out d2));have HB:Hid (cmT l u=(0,3)):=qf (pO (.inl h2));rw [HB.out] at HCo;clear HY HN HE1 HE2 HSp HFl hd h2 HB;go_wp2_with fail;refine Calls.mono (HCo.out _ qa) ?_;rintro e w1 ⟨rfl,b1⟩;have hb1:=hb0.trans ((uG b1).1.mono qoq);obtain ⟨⟨mr0,mr1,mf0,mf1⟩,mz0,mb⟩:=eN hb1;clear b1 hb1 q0 q1 q2 q3 q4 q5 q6 q7 HCo kr0 kr1 kf0 kf1 kz0 kb hb0;go_wp2_with fail;exact bodyPost_ret (v:=Zu #[ZZ ZY 0,ZZ ZY 3]) (by simp [results,results266,go_sem,mr0,mr1,mz0,mf0,mf1]) rfl ⟨qnI,qnn⟩

   ·have h6:u.kY=6:=hd.resolve_right h2
    have d2:(u.kY==2)=Zz:=qqd;have HT2:=qf (HN.out d2);have HL:=qf (HSp.out h6);have hcl:=wo l u.c1 u.r1 u.c2 u.r2;have HF2:=qf (fun w1 hb=>HFl.out w1 hb u.c1 u.r1 u.c2 u.r2);clear HY HN HSp HFl hd h2 h6 HCo;generalize cIn l u.c1 u.r1 u.c2 u.r2=L2 at*;generalize hX:itL l (t.kZ.take i)=X at*;have hXL:X.length+L2.length<=2000000000:=qoq;have hadd:IntKind.i64.wrap ((X.length:Int)+(L2.length:Int))=(X.length:Int)+(L2.length:Int):=IntWalk.i64_in _ qoq;go_wp2_with fail;refine (HF2.out _ qa).mono ?_;rintro e w1 ⟨v2,rfl,hown2,b1⟩;obtain ⟨A2,cap2,rfl,_⟩:=hown2.shape;have hB1:=(uG b1).1;have hb1:=hb0.trans (hB1.mono qoq);clear b1 hB1 hown2 q0 q1 q2 q3 q4 q5 q6 q7 HF2;go_wp2_with fail;go_roundw
    case rel=>exact ⟨i+1,qoq,qnG,(by rw [HL.out,List.length_append];go_num),HT2,hb1⟩
    case measure=>exact qmy
  ·have hii:i=t.kZ.length:=by omega
   subst hii;have hz:=HT.out;rw [List.take_length] at hz hle;have HE:=qf (HE2.out hz);clear hz HE1 HE2;generalize hX:itL l t.kZ=X at*;rw [List.take_length,hX];go_wp2_with fail;exact bodyPost_ret (v:=Zu #[ZZ ZY X.length,ZZ ZY 0]) (by simp [results,results266,go_sem,kr0,kr1,kz0,kf0,kf1]) rfl ⟨qnI,qnn⟩
end
theorem IG:prog.eqGuardType prog.depth 61=Zz:=by kernel_rfl
theorem vg:prog.stoodInHeld 61=Zz:=by kernel_rfl
theorem tj:prog.underlying 61=ZV (.struct (prog.fieldsOf 61)):=by kernel_rfl
theorem i8 (op:BinOp) (X Y:Operand) (xs ys:Array Value) (W:Z3):(eqGuard op 61 X Y (.agg xs) (.agg ys)).run ZW W=.ok () W:=run_eqGuard_agg W op 61 X Y xs ys IG
theorem LK (x y p q:Int) (W:Z3):(binOp .eql 61 (Zu #[ZZ ZY x,ZZ ZY y]) (Zu #[ZZ ZY p,ZZ ZY q])).run ZW W=.ok (.bool (x==p&&y==q)) W:=by
 rw [run_eql_struct,run_equalIn_agg W 9999 61 _ _ tj vg];exact qkc
theorem Eg (x y:Int) (W:Z3):(binOp .eql 61 (Zu #[ZZ ZY x,ZZ ZY y]) (Zu #[ZZ ZY x,ZZ ZY y])).run ZW W=.ok (.bool Zy) W:=by
 rw [LK];simp
