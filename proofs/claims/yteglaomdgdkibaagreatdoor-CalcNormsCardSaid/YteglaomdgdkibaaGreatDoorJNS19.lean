import Derived.Test.YteglaomdgdkibaaGreatDoorJNS10
import Derived.Test.YteglaomdgdkibaaGreatDoorJNS14
import Derived.Test.YteglaomdgdkibaaGreatDoorJNS15
import Derived.Test.YteglaomdgdkibaaGreatDoorJNS17
import Derived.RangeFuncNested
import Derived.RangeFuncBound
import Derived.RangeFuncCalls
import Derived.RangeFuncLeaves
import Derived.Below
import Derived.Shelf.RegionOpen
import Derived.OwnWalkIn
import Derived.TacticsInMore
import Derived.LoopNIn
import Derived.LoopIn
import Derived.Test.YteglaomdgdkibaaGreatDoorJQNSP
import Derived.Test.YteglaomdgdkibaaGreatDoorJQNSW
set_option linter.all false
set_option maxHeartbeats 0
set_option maxRecDepth 99999
namespace Go.Proofs.YteglaomdgdkibaaGreatDoor
open Go.RowKit
open Value renaming int→ZZ,slice→Zw,pointer→Zv
open IntKind renaming i64→ZY
open Ending renaming returned→ZX
open RowKit renaming Below→Z2
open Go renaming World→Z3
open Tryz
open Tryz renaming prog→ZW
open Option renaming some→ZV,none→ZU
open Bool renaming false→Zz,true→Zy
variable {c d k s x y:Int}{B Bt ca i j l n r:Nat}{W0 a w w':World}{ks xs:List Tr}{t u:Tr}{C:Nat->Prop}{p:Addr}{A:Option Addr}{P:Program}{assign body:Code}{Q:Exit->Act->World->Prop}{J:Nat->World->Prop}{Jx:World->Prop}
def hasP (a b c d x y:Int):Bool:=(rightB a b&&rightB c d&&(decide (a<=c)&&decide (b<=d)))&&decide (a<=x/\x<=c/\b<=y/\y<=d)
mutual
def usT (x y:Int):Tr->Bool
 |.mk k _ c r d s _ ks=>if k=1\/k=6 then hasP c r d s x y else usL x y ks
def usL (x y:Int):List Tr->Bool
 |[]=>Zz
 |t::ts=>usT x y t || usL x y ts
end
theorem EK {n r:Int} {w:List UInt8} (h:ay (.mk k n c r d s w ks)=Zy) (hk:k=1\/k=6):ks=[]/\n=0/\w=[]:=by
 rw [ay] at h;unfold aR at h;rcases hk with rfl|rfl
 ·simp at h
  exact ⟨h.1.2.2,h.1.1,h.1.2.1⟩
 ·simp at h
  exact ⟨h.1.2.2,h.1.1,h.1.2.1⟩
theorem jC {n r:Int} {w:List UInt8} (h:ay (.mk k n c r d s w ks)=Zy):∀t∈ks,ay t=Zy:=by
 rw [ay] at h;unfold aR at h;by_cases h0:k=0
 ·subst h0;simp at h;rw [h.1.2.2];intro t ht;cases ht
 by_cases h1:k=1
 ·subst h1;simp at h;rw [h.1.2.2];intro t ht;cases ht
 by_cases h2:k=2
 ·subst h2;simp at h;rw [h.2.2.2];intro t ht;cases ht
 by_cases h6:k=6
 ·subst h6;simp at h;rw [h.1.2.2];intro t ht;cases ht
 by_cases h3:k=3
 ·subst h3;simp at h;exact fun t ht=>(fs h.2 t ht).1
 by_cases h4:k=4
 ·subst h4;simp at h;exact fun t ht=>(fs h.2.1 t ht).1
 by_cases h5:k=5
 ·subst h5
  rw [if_neg qnv,if_neg qnv,if_neg qnv,if_neg qnv,if_neg qnv,if_neg qnv,if_pos rfl,Bool.and_eq_true] at h;obtain ⟨_,h⟩:=h;rw [Bool.and_eq_true] at h;exact fun t ht=>(fs h.1 t ht).1
 ·rw [if_neg h0,if_neg h1,if_neg h2,if_neg h6,if_neg h3,if_neg h4,if_neg h5] at h
  cases h
mutual
theorem oI {u v:Int}:∀{t:Tr},usT u v t=Zy->rightB u v=Zy
 |.mk k _ c r d s _ ks,h=>by
  rw [usT] at h;split at h
  ·unfold hasP rightB at h
   unfold rightB;simp at h ⊢
   omega
  ·exact tU h
theorem tU {u v:Int}:∀{l:List Tr},usL u v l=Zy->rightB u v=Zy
 |[],h=>by rw [usL] at h;cases h
 |t::ts,h=>by
  rw [usL,Bool.or_eq_true] at h;rcases h with h|h
  ·exact oI h
  ·exact tU h
end
theorem zX:∀{l m:List Int},l.Pairwise (·<·)->m.Pairwise (·<·)->(∀z,z∈l↔z∈m)->l=m
 |[],[],_,_,_=>rfl
 |[],b::m,_,_,h=>by have:=(h b).2 qns;cases this
 |a::l,[],_,_,h=>by have:=(h a).1 qns;cases this
 |a::l,b::m,hl,hm,h=>by
  rw [List.pairwise_cons] at hl hm
  have hab:a=b:=by
   have h1:a∈b::m:=(h a).1 qns;have h2:b∈a::l:=(h b).2 qns;rcases List.mem_cons.1 h1 with e|e
   ·exact e
   ·rcases List.mem_cons.1 h2 with e2|e2
    ·exact e2.symm
    ·have:=hm.1 a e;have:=hl.1 b e2;omega
  subst hab;rw [zX hl.2 hm.2 fun z=>?_];constructor
  ·intro hz
   rcases List.mem_cons.1 ((h z).1 (List.mem_cons_of_mem _ hz)) with e|e
   ·have:=hl.1 z hz;omega
   ·exact e
  ·intro hz
   rcases List.mem_cons.1 ((h z).2 (List.mem_cons_of_mem _ hz)) with e|e
   ·have:=hm.1 z hz;omega
   ·exact e
def rdI (t:Tr):List Int:=((List.range 1024).filter fun (j:Nat)=>usT ((j:Int) % 16) ((j:Int) / 16) t).map fun (j:Nat)=>(j:Int)
theorem zQ {z:Int}:z∈rdI t↔0<=z/\z<=1023/\usT (z % 16) (z / 16) t=Zy:=by
 unfold rdI;rw [List.mem_map];constructor
 ·rintro ⟨j,hj,rfl⟩
  obtain ⟨h1,h2⟩:=List.mem_filter.1 hj;have:=List.mem_range.1 h1;exact ⟨qoq,qoq,h2⟩
 ·rintro ⟨h0,h1,h2⟩
  refine ⟨z.toNat,List.mem_filter.2 ⟨List.mem_range.2 qoq,?_⟩,qoq⟩;rw [show ((z.toNat:Nat):Int)=z from by omega];exact h2
mutual
def ptT:Tr->List Tr
 |.mk k n c r d s w ks=>.mk k n c r d s w ks::ptL ks
def ptL:List Tr->List Tr
 |[]=>[]
 |t::ts=>ptT t++ptL ts
end
def rdr (t:Tr):Bool:=t.kY==1 || t.kY==6
theorem wG (t:Tr):ptT t=t::ptL t.kZ:=by cases t;rw [ptT];rfl
mutual
theorem rz:∀t:Tr,(ptT t).length=br t
 |.mk _ _ _ _ _ _ _ ks=>by rw [ptT,br,List.length_cons,yJ ks]
theorem yJ:∀l:List Tr,(ptL l).length=bU l
 |[]=>by rw [ptL,bU];rfl
 |t::ts=>by rw [ptL,bU,List.length_append,rz t,yJ ts]
end
theorem Oz (x y:Int) (hf:Fit t):ay t=Zy->usT x y t=(ptT t).any fun u=>rdr u&&hasP u.c1 u.r1 u.c2 u.r2 x y:=by
 induction hf with
 |@mk k n c r d s w ks hn hk ih=>
  intro h;have hkids:=jC h
  have key:∀l:List Tr,(∀t∈l,usT x y t=(ptT t).any fun u=>rdr u&&hasP u.c1 u.r1 u.c2 u.r2 x y)->usL x y l=(ptL l).any fun u=>rdr u&&hasP u.c1 u.r1 u.c2 u.r2 x y:=by
   intro l;induction l with
   |nil=>intro _;rw [usL,ptL];rfl
   |cons a q ihq=>
    intro ha;rw [usL,ptL,List.any_append,ha a qns,ihq fun t ht=>ha t (by simp [ht])]
  have K:=key ks fun t ht=>ih t ht (hkids t ht)
  rw [usT,ptT,List.any_cons];by_cases hr:k=1\/k=6
  ·rw [if_pos hr]
   obtain ⟨rfl,_,_⟩:=EK h hr;have e:rdr (.mk k n c r d s w [])=Zy:=(by unfold rdr;simp only [Tr.kY,Bool.or_eq_true,beq_iff_eq];exact hr);rw [e,ptL,List.any_nil,Bool.or_false,Bool.true_and];rfl
  ·rw [if_neg hr]
   have e:rdr (.mk k n c r d s w ks)=Zz:=by
    cases hh:rdr (.mk k n c r d s w ks) with
    |false=>rfl
    |true=>unfold rdr at hh;simp only [Tr.kY,Bool.or_eq_true,beq_iff_eq] at hh;exact absurd hh hr
   rw [e,Bool.false_and,Bool.false_or];exact K
theorem Gb (h:ay t=Zy) (hr:rdr t=Zy):(rightB t.c1 t.r1&&rightB t.c2 t.r2&&(decide (t.c1<=t.c2)&&decide (t.r1<=t.r2)))=Zy:=by
 cases t with
 |mk k n c r d s w ks=>
  unfold rdr at hr;simp only [Tr.kY,Bool.or_eq_true,beq_iff_eq] at hr;rw [ay] at h;unfold aR at h;simp only [Tr.c1,Tr.r1,Tr.c2,Tr.r2];rcases hr with rfl|rfl
  ·simp at h ⊢
   obtain ⟨_,h1,rfl,rfl⟩:=h;first|exact ⟨⟨h1,h1⟩,Int.le_refl _,Int.le_refl _⟩|(rw [h1];simp)
  ·simp at h ⊢
   obtain ⟨_,⟨⟨a,b⟩,e⟩,f⟩:=h;first|exact ⟨⟨a,b⟩,e,f⟩|(rw [a,b,decide_eq_true e,decide_eq_true f];simp)|simp [a,b,e,f]
theorem MA (h:t.kY=1\/t.kY=6):usT x y t=hasP t.c1 t.r1 t.c2 t.r2 x y:=by
 cases t;rw [usT];exact if_pos h
def nD (t:Tr) (i:Nat):List (Int×Int):=((List.range i).filter fun (j:Nat)=>usT (atC (j:Int)) (atR (j:Int)) t).map fun (j:Nat)=>(atC (j:Int),atR (j:Int))
def rdL (t:Tr):List (Int×Int):=if iT t=Zy then nD t 1024 else []
structure Sav (C:Nat->Prop) (w w':Z3):Prop where
 os:w'.os=w.os
 tape:w'.tape=w.tape
 output:w'.output=w.output
 size:w.heap.size<=w'.heap.size
 block:∀k,k<w.heap.size->¬C k->w'.heap[k]? =w.heap[k]?
theorem Sav.refl (C:Nat->Prop) (w:Z3):Sav C w w:=⟨rfl,rfl,rfl,qd,fun _ _ _=>rfl⟩
theorem Sav.trans {b c:Z3} (h:Sav C a b) (k:Sav C b c):Sav C a c:=
 ⟨k.os.trans h.os,k.tape.trans h.tape,k.output.trans h.output,Nat.le_trans h.size k.size,fun i hi hn=>(k.block i (Nat.lt_of_lt_of_le hi h.size) hn).trans (h.block i hi hn)⟩
theorem Sav.of_below (h:Z2 w.heap.size w w'):Sav C w w':=⟨h.os,h.tape,h.output,h.size,fun k hk _=>h.block k hk⟩
theorem Sav.mono {C':Nat->Prop} (h:Sav C w w') (hc:∀k,k<w.heap.size->C k->C' k):Sav C' w w':=⟨h.os,h.tape,h.output,h.size,fun k hk hn=>h.block k hk fun hk'=>hn (hc k hk hk')⟩
theorem Sav.below (h:Sav C w w') (hn:∀k,k<n->¬C k) (hs:n<=w.heap.size):Z2 n w w':=⟨h.os,h.tape,h.output,h.size,fun k hk=>h.block k (Nat.lt_of_lt_of_le hk hs) (hn k hk)⟩
theorem Sav.cell (h:Sav C w w') {v:Value} (hn:¬C p.block) (hv:w.cell? p=ZV v):w'.cell? p=ZV v:=by
 rw [World.cell?_of_block (w:=w) (h.block p.block (Lib.lt_of_cell hv) hn)];exact hv
theorem Sav.frozen (h:Sav C w w') (hn:¬C p.block) (hl:p.block<w.heap.size) (hv:w.frozen? p=Zz):w'.frozen? p=Zz:=by
 rw [World.frozen?_of_block (w:=w) (h.block p.block hl hn)];exact hv
theorem cI {k:Nat} (o:Obj) (h:k≠r):(w.putObj r o).heap[k]? =w.heap[k]? :=World.putObj_heap_other h
theorem Sav.putObj (h:Sav C a w) (hr:C r\/a.heap.size<=r) (o:Obj):Sav C a (w.putObj r o):=
 ⟨h.os,h.tape,h.output,qrl,fun k hk hn=>by
   rw [cI o (by rintro rfl;rcases hr with hr|hr;exact hn hr;omega)];exact h.block k hk hn⟩
theorem Sav.setCell (h:Sav C a w) {g:Nat} (hr:C g\/a.heap.size<=g) (o:Nat) (u:Value):Sav C a (w.setCell ⟨g,o,ZU⟩ u):=by
 have hb:=(Below.refl 0 w).setCell (p:=⟨g,o,ZU⟩) qe u;refine ⟨hb.os.trans h.os,hb.tape.trans h.tape,hb.output.trans h.output,Nat.le_trans h.size hb.size,fun k hk hn=>?_⟩;rw [Below.heap_setCell w ⟨g,o,ZU⟩ u k (by rcases hr with hr|hr;exact fun e=>hn (e▸hr);exact fun e=>by simp at e;omega)];exact h.block k hk hn
theorem Sav.alloc (h:Sav C a w) (o:Obj):Sav C a (w.alloc o):=h.trans (Sav.of_below ((Below.refl _ w).alloc qd o))
theorem Sav.drew (h:Sav C a w):Sav C a w.drew:=⟨h.os,h.tape,h.output,h.size,h.block⟩
theorem dY (h:Z2 B a w) (hr:B<=r) (o:Obj):Z2 B a (w.putObj r o):=
 ⟨h.os,h.tape,h.output,qrl,fun k hk=>by rw [cI o qoq];exact h.block k hk⟩
theorem Sav.from {A B:Z3} (h:Sav C w A) (k:Sav (fun j=>C j\/j=l) A B) (hl:w.heap.size<=l):Sav C w B:=
 ⟨k.os.trans h.os,k.tape.trans h.tape,k.output.trans h.output,Nat.le_trans h.size k.size,fun i hi hn=>(k.block i (Nat.lt_of_lt_of_le hi h.size) (by rintro (e|rfl);exact hn e;omega)).trans (h.block i hi hn)⟩

def vr {α:Type} (P:Program) (g:Nat) (lb:Array Value) (xs:List α) (enc:α->Array Value->Prop) (S:Nat->Prop) (w:Z3):Prop:=
 ∀(l:Nat) (C:Nat->Prop) (J:Nat->Z3->Prop) (Jx:Z3->Prop) (W:Z3),Z2 w.heap.size w W->(∀k,C k->k<W.heap.size/\¬S k)->
  (∀i A B,Z2 W.heap.size A B->J i A->J i B)->(∀A B,Z2 W.heap.size A B->Jx A->Jx B)->
  (∀(m i:Nat) (x:α) (args:Array Value) (A:Z3),xs[i]? =ZV x->enc x args->Sav C W A->J i A->
    YieldAt Fence.wide m P l args A fun e B=>Sav C A B/\(e=ZX (.bool Zy)/\J (i+1) B\/e=ZX (.bool Zz)/\Jx B))->
  J 0 W->Calls P g (#[.func (.yield l) #[] #[]]++lb) W fun e B=>(∃v,e=ZX v)/\Sav C W B/\(J xs.length B\/Jx B)

def J7 (C:Nat->Prop) (I:Z3->Prop) (Ix:Code->Z3->Prop) (W:Z3):Exit->Act->Z3->Prop
 |.normal,_,B=>Sav C W B/\I B
 |.ret,_,B=>Sav C W B/\Ix .ret B
 |.exit id,_,B=>Sav C W B/\Ix (.exit id) B
 |.goto t,_,B=>Sav C W B/\Ix (.goto t) B
 |.panic _,_,_=>False
 |.outgrown,_,_=>False
theorem vW {m m':Nat} {f:FuncId} {tmps:Array Value} {R:Ending->Z3->Prop} (h:RoundIn Fence.wide m P l f tmps assign body w R):RoundIn Fence.wide m' P l f tmps assign body w R:=
 ⟨h.1,fun c cs _=>h.2 c cs (room_wide _)⟩

theorem vM {α:Type} {g:Operand} {ps:Array Tmp} {a:Act}
 {gf:Nat} {lb:Array Value} (hg:a.eval g=.func (.func gf) #[] lb) (eg:∀args w,(callFunc gf args).run P w=.ok (.enter gf args) w)
 {xs:List α} {enc:α->Array Value->Prop} {S:Nat->Prop} {w0:Z3} (hseq:vr P gf lb xs enc S w0) (hb0:Z2 w0.heap.size w0 w) (hps:∀x args,enc x args->args.size=ps.size)
 (C:Nat->Prop) (hC:∀k,C k->k<w.heap.size/\¬S k) (hS:∀k,S k->k<w.heap.size)
 (I:Nat->Z3->Prop) (Ix:Code->Z3->Prop) (hI:∀i A B,Z2 w.heap.size A B->I i A->I i B) (hIx:∀c A B,Z2 w.heap.size A B->Ix c A->Ix c B) (h0:I 0 w)
 (Ax:α->Act->Z3->Prop) (hAx:∀x a' W l r o,W.heap[l]? =ZV (.loop r)->Ax x a' W->Ax x a' (W.putObj l o))
 (hassign:∀(l i:Nat) (x:α) (args:Array Value) (W:Z3) (K:Act->Z3->Prop),xs[i]? =ZV x->enc x args->w.heap.size<=W.heap.size->(∀a' W',Z2 W.heap.size W W'->Ax x a' W'->K a' W')->
   assign.wpIn (Fence.wide.inRound l) n P (Exit.then K (fun _ _ _=>False)) { tmps:=(ps.zip args).foldl (fun t (p,v)=>t.setIfInBounds p v) a.tmps,defers:=[] } W)
 (hbody:∀(l i:Nat) (x:α) (a':Act) (W:Z3),xs[i]? =ZV x->Sav C w W->I i W->Ax x a' W->body.wpIn (Fence.wide.inRound l) n P (J7 C (I (i+1)) Ix W) a' W)
 (hdone:∀(D:Nat) (W:Z3),w.heap.size<=D->Sav C w W->I xs.length W->W.heap[D]? =ZV (.deferred (ZV []))->Q .normal { a with defers:={ target:=.collected D,args:=#[] }::a.defers } W)
 (hstop:∀(D:Nat) (c:Code) (W:Z3),w.heap.size<=D->Sav C w W->Ix c W->W.heap[D]? =ZV (.deferred (ZV []))->c.wpIn Fence.wide n P Q { a with defers:={ target:=.collected D,args:=#[] }::a.defers } W):
 (Code.rangeFunc g ps assign body).wpIn Fence.wide n P Q a w:=by
 refine wpIn_rangeFunc ?_;intro fn hfn;obtain ⟨L,hL⟩:∃L:LoopState->Option Code->Loop,L=fun st pe=>{ state:=st,pending:=pe,fn,tmps:=a.tmps,params:=ps,assign,body,defers:=w.heap.size }:=⟨_,rfl⟩
 obtain ⟨V,hV⟩:∃V,(w.alloc (.deferred (ZV []))).alloc (.loop (L .ready ZU))=V:=⟨_,rfl⟩
 have hsz:V.heap.size=w.heap.size+2:=qrm;have hl0:V.heap[w.heap.size+1]? =ZV (.loop (L .ready ZU)):=qkL;have hd0:V.heap[w.heap.size]? =ZV (.deferred (ZV [])):=qmc;have hbV:=qfR;have hlen:∀k,C k->k≠w.heap.size+1/\k≠w.heap.size:=fun k hk=>by have:=(hC k hk).1;omega
 refine ⟨w.heap.size+1,[{ target:=.collected w.heap.size,args:=#[] }],V,{ target:=.fn (.func gf) lb,args:=#[.func (.yield (w.heap.size+1)) #[] #[]] },V,gf,#[.func (.yield (w.heap.size+1)) #[] #[]]++lb,V,?_,?_,fun _ _=>trivial,?_,fun h=>by simp [Fence.wide] at h,?_⟩
 ·rw [<-hV,hL];exact run_enterLoop_outer _ _ _ _ _
 ·simp only [Go.resolve,hg]
  simp [go_sem]
 ·simp [invoke,go_sem,eg]
 refine callsIn_wide.2 ((hseq (w.heap.size+1) (fun k=>C k\/k=w.heap.size+1)
  (fun i A=>I i A/\A.heap[w.heap.size+1]? =ZV (.loop (L .ready ZU))/\A.heap[w.heap.size]? =ZV (.deferred (ZV [])))
  (fun A=>∃c,Ix c A/\A.heap[w.heap.size+1]? =ZV (.loop (L .done (ZV c)))/\A.heap[w.heap.size]? =ZV (.deferred (ZV []))) V (hb0.trans (hbV.mono hb0.size)) ?_ ?_ ?_ ?_ ?_).mono ?_)
 ·rintro k (hk|rfl)
  ·exact ⟨(by have:=(hC k hk).1;omega),(hC k hk).2⟩
  ·exact ⟨qoq,fun h=>by have:=hS _ h;omega⟩
 ·rintro i A B hb ⟨h1,h2,h3⟩
  exact ⟨hI i A B (hb.mono qoq) h1,(hb.block _ qoq).trans h2,(hb.block _ qoq).trans h3⟩
 ·rintro A B hb ⟨c,h1,h2,h3⟩
  exact ⟨c,hIx c A B (hb.mono qoq) h1,(hb.block _ qoq).trans h2,(hb.block _ qoq).trans h3⟩
 ·rintro m i x args A hx he hs ⟨h1,h2,h3⟩
  have hy:=qgY;rw [hL] at hy;have hsw:Sav C w A:=Sav.from (Sav.of_below hbV) hs qoq
  refine ⟨fn,_,assign,body,hy,vW (m:=n) (roundIn_of_wpIn trivial (hassign _ i x args A _ hx he hsw.size fun a' A1 b1 hax=>?_))⟩;obtain ⟨l1,d1,q1⟩:=qcz;refine ⟨_,run_beginRound l1 (by rw [hL]),?_⟩;obtain ⟨A2,hA2⟩:∃A2,A1.putObj (w.heap.size+1) (.loop { L .ready ZU with state:=.busy })=A2:=⟨_,rfl⟩
  obtain ⟨l2,d2,s2,q2⟩:=qbV
  have i2:I i A2:=by
   rw [<-hA2];exact hI i A1 _ (dY qb qoq _) (hI i A A1 (b1.mono hsw.size) h1)
  have x2:=qhQ;rw [hA2];refine wpIn_mono (hbody _ i x a' A2 hx (hsw.from s2 qoq) i2 x2) ?_
  have fin:∀(j:Option Code) (B:Z3),Sav C A2 B->∃B',(Instr.endRound (w.heap.size+1) j).run P B=.ok (.bool j.isNone) B'/\B'.heap[w.heap.size+1]? =ZV (.loop (L (if j.isNone then .ready else .done) j))/\
   B'.heap[w.heap.size]? =ZV (.deferred (ZV []))/\Sav (fun k=>C k\/k=w.heap.size+1) A B'/\Z2 w.heap.size B B':=fun j B hB=>by
   obtain ⟨l3,d3,q3⟩:=qcF;refine ⟨_,run_endRound j l3,?_,?_,(s2.trans (hB.mono fun _ _ h=>.inl h)).putObj (.inl (.inr rfl)) _,dY qb qoq _⟩
   ·rw [World.putObj_heap_same q3,hL]
   ·rw [cI _ qoq];exact d3
  rintro e a3 B hp;cases e with
  |normal=>
   obtain ⟨hB,hi⟩:=hp;obtain ⟨B',r,l4,d4,s4,b4⟩:=fin ZU B hB;exact ⟨_,B',r,s4,.inl ⟨rfl,hI _ _ _ b4 hi,l4,d4⟩⟩
  |ret=>
   obtain ⟨hB,hi⟩:=hp;obtain ⟨B',r,l4,d4,s4,b4⟩:=fin (ZV .ret) B hB;exact ⟨_,B',r,s4,.inr ⟨rfl,.ret,hIx _ _ _ b4 hi,l4,d4⟩⟩
  |exit id=>
   obtain ⟨hB,hi⟩:=hp;obtain ⟨B',r,l4,d4,s4,b4⟩:=fin (ZV (.exit id)) B hB;exact ⟨_,B',r,s4,.inr ⟨rfl,.exit id,hIx _ _ _ b4 hi,l4,d4⟩⟩
  |goto t=>
   obtain ⟨hB,hi⟩:=hp;obtain ⟨B',r,l4,d4,s4,b4⟩:=fin (ZV (.goto t)) B hB;exact ⟨_,B',r,s4,.inr ⟨rfl,.goto t,hIx _ _ _ b4 hi,l4,d4⟩⟩
  |panic ch=>exact hp.elim
  |outgrown=>exact hp.elim
 ·exact ⟨hI 0 w V hbV h0,hl0,hd0⟩
 ·rintro e B ⟨⟨v,rfl⟩,hs,hJ⟩
  have hsw:Sav C w B:=Sav.from (Sav.of_below hbV) hs qoq
  rcases hJ with ⟨h1,h2,h3⟩|⟨c,h1,h2,h3⟩
  ·exact ⟨ZU,_,qog,hdone _ _ qd (hsw.putObj (.inr qoq) _) (hI _ _ _ (dY qb qoq _) h1) qpy⟩
  ·exact ⟨ZV c,_,qog,hstop _ c _ qd (hsw.putObj (.inr qoq) _) (hIx c _ _ (dY qb qoq _) h1) qpy⟩
theorem uO:∀l:List Tr,l.length<=bU l
 |[]=>qe
 |t::ts=>by
  have h1:=uO ts;have h2:1<=br t:=(by cases t;rw [br];omega);rw [List.length_cons,bU];omega
theorem vF:∀{l:List Tr} {u:Tr},u∈l->br u<=bU l
 |[],u,h=>by cases h
 |t::ts,u,h=>by
  rw [bU];rcases List.mem_cons.1 h with rfl|h
  ·omega
  ·have:=vF h;omega
theorem Jd (t:Tr):t.kZ.length+1<=br t:=by cases t;rw [br];have:=uO (Tr.kZ (.mk ‹_› ‹_› ‹_› ‹_› ‹_› ‹_› ‹_› ‹_›));simp only [Tr.kZ] at*;omega
theorem Mn (h:u∈t.kZ):br u<=br t:=by cases t;rw [br];have:=vF (l:=Tr.kZ (.mk ‹_› ‹_› ‹_› ‹_› ‹_› ‹_› ‹_› ‹_›)) h;simp only [Tr.kZ] at*;omega
section
open Go.Shelf
attribute [local go_sem] Oper.semAt_some
theorem Sav.kept {P:Nat->Prop} (h:Sav C w w') (hp:∀k,P k->¬C k):Kept w w' P:=⟨h.size,fun g hg hl=>h.block g hl (hp g hg)⟩
theorem Ji (h:ks[i]? =ZV u):ptL (ks.take (i+1))=ptL (ks.take i)++ptT u:=by
 have key:∀(l m:List Tr),ptL (l++m)=ptL l++ptL m:=qlj
 rw [List.take_add_one,h,key];show _++ptL [u]=_
 rw [ptL,ptL,List.append_nil]
theorem wH (i:Nat):ptL (ks.take i)<+:ptL ks:=by
 have key:∀(l m:List Tr),ptL (l++m)=ptL l++ptL m:=qlj
 refine ⟨ptL (ks.drop i),?_⟩;rw [<-key,List.take_append_drop]
def Kd (xs:List Tr) (i:Nat) (ys:List Tr):Prop:=∀j u,ys[j]? =ZV u->xs[i+j]? =ZV u
def Bg (l:Nat) (C:Nat->Prop) (J:Nat->Z3->Prop) (Jx:Z3->Prop) (xs:List Tr) (W0:Z3) (t:Tr):Prop:=∀(i:Nat) (W:Z3) (A:Option Addr) (ca:Nat),
 Kd xs i (ptT t)->KV W (fun b=>¬C b) t A->Sav C W0 W->J i W->
 Calls ZW 287 #[.agg (Ku.k t A ca),.func (.yield l) #[] #[]] W fun e B=>
  Sav C W B/\(e=ZX (.bool Zy)/\J (i+br t) B\/e=ZX (.bool Zz)/\Jx B)
def H6 (t:Tr) (args:Array Value):Prop:=∃A ca,args=#[tv t A ca]
theorem AD (hC:∀k,C k->k<W0.heap.size)
 (hJ:∀i A B,Z2 W0.heap.size A B->J i A->J i B) (hJx:∀A B,Z2 W0.heap.size A B->Jx A->Jx B)
 (hY:∀(m i:Nat) (x:Tr) (args:Array Value) (A:Z3),xs[i]? =ZV x->H6 x args->Sav C W0 A->J i A->
   YieldAt Fence.wide m ZW l args A fun e B=>Sav C A B/\(e=ZX (.bool Zy)/\J (i+1) B\/e=ZX (.bool Zz)/\Jx B))
 (t:Tr) (hlen:t.kZ.length<=1000000) (ih:∀u∈t.kZ,Bg l C J Jx xs W0 u):Bg l C J Jx xs W0 t:=by
 intro i W A ca hsub hk hs hj;have hsz:=hs.size;obtain ⟨V,hV⟩:∃V,W.alloc (.cells (Ku.k t A ca) 33)=V:=⟨_,rfl⟩
 have hbV:Z2 W.heap.size W V:=(by rw [<-hV];exact qa);have hsV:Sav C W0 V:=hs.trans (Sav.of_below hbV);have zV:W.heap.size<V.heap.size:=qrm
 have hx0:xs[i]? =ZV t:=by
  have:=hsub 0 t (by rw [wG];rfl);simpa using this
 obtain ⟨fn,tmps,assign,body,hy,hR⟩:=hY 8 i t _ V hx0 ⟨A,ca,rfl⟩ hsV (hJ i W V (hbV.mono hsz) hj);unfold tv at hy;have HK:=qfq;have HI:=qf ih;have nC:∀k,W0.heap.size<=k->¬C k:=fun k hk h=>by have:=hC k h;omega
 have HN:=qf nC;have HS:=qf hs;have HSub:=qf hsub;clear hk ih hj hsub;refine (callsIn_wide (n:=9)).1 (callsIn_of_wp func287 rfl trivial ?_ rfl);simp only [ntmps287,List.size_toArray,List.length_cons,List.length_nil,Nat.reduceAdd,Nat.reduceSub,Array.replicate_succ,Array.replicate_zero,List.push_toArray,List.append_toArray,List.nil_append,List.cons_append];have v7:V.cell? ⟨W.heap.size,7,ZU⟩=ZV (Zw A t.kZ.length ca):=(by rw [<-hV];simp [go_sem]);have HV:=qf hV;rw [<-hV] at hy hR;clear hV;gi_wp2
 refine hR.mono ?_;rintro e B (⟨hsB,⟨rfl,hJB⟩|⟨rfl,hXB⟩⟩)
 ·rw [HV.out] at hsB
  have hk7:B.cell? ⟨W.heap.size,7,ZU⟩=ZV (Zw A t.kZ.length ca):=hsB.cell (HN.out _ hsz) v7;have hWB:Sav C W B:=(Sav.of_below hbV).trans hsB;have HWB:=qf hWB;have HJB:=qf hJB;clear hsB hWB hJB v7 hy hR;gi_wp2
  gi_loopw [14] (fun n wr=>∃k:Nat,k<=t.kZ.length/\n=ZZ ZY (k:Int)/\Sav C W wr/\J (i+1+(ptL (t.kZ.take k)).length) wr) (fun n _=>t.kZ.length - (RowKit.intOf n).toNat)
  case atStart=>exact ⟨0,qe,rfl,HWB.out,(by rw [List.take_zero,ptL];exact HJB.out)⟩
  case round=>
   obtain ⟨k,hkl,rfl,hsw,hjw⟩:=hrel;have hzw:=hsw.size;by_cases hlt:k<t.kZ.length
   ·have hu:t.kZ[k]? =ZV (t.kZ[k]'hlt):=List.getElem?_eq_getElem hlt
    obtain ⟨g,o,rfl⟩:=HK.out.addr hu;obtain ⟨hgC,hgl,A',ca',h8,hkv⟩:=(HK.out.kept (hsw.kept fun _ h=>h)).kid hu;rw [Nat.mul_comm 8 k] at h8;have hT:=Ji hu;have HT:=qf hT
    have hsub:Kd xs (i+1+(ptL (t.kZ.take k)).length) (ptT (t.kZ[k]'hlt)):=fun j u hj=>by
     have h1:=HSub.out (1+(ptL (t.kZ.take k)).length+j) u;rw [show i+(1+(ptL (t.kZ.take k)).length+j)=i+1+(ptL (t.kZ.take k)).length+j from by omega] at h1;refine h1 ?_;rw [wG,show 1+(ptL (t.kZ.take k)).length+j=((ptL (t.kZ.take k)).length+j)+1 from by omega,List.getElem?_cons_succ];obtain ⟨r,hr⟩:=wH (ks:=t.kZ) (k+1);rw [<-hr,hT,List.getElem?_append_left (by rw [List.length_append];have:=(List.getElem?_eq_some_iff.1 hj).1;omega),List.getElem?_append_right qoq,Nat.add_sub_cancel_left];exact hj
    have hlu:(ptL (t.kZ.take (k+1))).length=(ptL (t.kZ.take k)).length+br (t.kZ[k]'hlt):=(by rw [hT,List.length_append,rz]);have HL:=qf hlu;have HC:=qf (fun ob=>HI.out _ (List.getElem_mem hlt) (i+1+(ptL (t.kZ.take k)).length) (wr.alloc ob) A' ca' hsub (hkv.kept (Kept.of_below (qb.alloc qd ob))) (HS.out.trans (hsw.trans (Sav.of_below (qb.alloc qd ob)))) (hJ _ wr _ ((((Below.refl _ wr).alloc qd ob)).mono qoq) hjw));generalize t.kZ[k]'hlt=u at*;obtain ⟨q0,q1,q2,q3,q4,q5,q6,q7⟩:=h8;clear hkv hu hT hsub hlu;gi_wp2
    refine ⟨trivial,?_⟩;refine (callsIn_wide.2 (HC.out _)).mono ?_;rintro e w2 ⟨hs2,⟨rfl,hj2⟩|⟨rfl,hx2⟩⟩
    ·have hs3:Sav C W w2:=hsw.trans ((Sav.of_below ((Below.refl _ wr).alloc qd _)).trans hs2)
     clear hs2;gi_wp2
     go_roundw
     case rel=>exact ⟨k+1,qoq,qnG,hs3,(by rw [HL.out,<-Nat.add_assoc];exact hj2)⟩
     case measure=>exact qmy
    ·have hs3:Sav C W w2:=hsw.trans ((Sav.of_below ((Below.refl _ wr).alloc qd _)).trans hs2)
     gi_wp2
     go_ret;exact ⟨hs3,.inr ⟨rfl,hx2⟩⟩
   ·have hk2:k=t.kZ.length:=by omega
    subst hk2;rw [List.take_length] at hjw;have hc:i+br t=i+1+(ptL t.kZ).length:=(by rw [<-rz,wG,List.length_cons];omega);gi_wp2
    go_ret;exact ⟨hsw,.inl ⟨rfl,(by rw [hc];exact hjw)⟩⟩
 ·rw [HV.out] at hsB
  gi_wp2
  go_ret;exact ⟨(Sav.of_below hbV).trans hsB,.inr ⟨rfl,hXB⟩⟩
theorem II (hC:∀k,C k->k<W0.heap.size)
 (hJ:∀i A B,Z2 W0.heap.size A B->J i A->J i B) (hJx:∀A B,Z2 W0.heap.size A B->Jx A->Jx B)
 (hY:∀(m i:Nat) (x:Tr) (args:Array Value) (A:Z3),xs[i]? =ZV x->H6 x args->Sav C W0 A->J i A->
   YieldAt Fence.wide m ZW l args A fun e B=>Sav C A B/\(e=ZX (.bool Zy)/\J (i+1) B\/e=ZX (.bool Zz)/\Jx B)):
 ∀{t:Tr},Wid t->br t<=1000000->Bg l C J Jx xs W0 t:=by
 intro t hW;induction hW with
 |@mk k n c r d s w ks hl hk ih=>
  intro hc;have hlen:=Jd (.mk k n c r d s w ks);exact AD hC hJ hJx hY _ qoq fun u hu=>ih u hu (Nat.le_trans (Mn (t:=.mk k n c r d s w ks) hu) hc)
end
theorem yh (t:Tr) (w:Z3) (A:Option Addr) (ca:Nat):
 Calls ZW 248 #[tv t A ca] w fun e w'=>e=ZX (.bool (rdr t))/\Z2 w.heap.size w w':=by
 unfold tv;by_cases h1:t.kY=1
 ·have e1:(t.kY==1)=Zy:=by rw [beq_iff_eq];exact h1
  have HE:Hid (rdr t=Zy):=qf (by unfold rdr;rw [e1];rfl);clear h1;exact qjV
 ·have e1:(t.kY==1)=Zz:=by rw [beq_eq_false_iff_ne];exact h1
  by_cases h6:t.kY=6
  ·have e6:(t.kY==6)=Zy:=by rw [beq_iff_eq];exact h6
   have HE:Hid (rdr t=Zy):=qf (by unfold rdr;rw [e1,e6];rfl);clear h1 h6;exact qjV
  ·have e6:(t.kY==6)=Zz:=by rw [beq_eq_false_iff_ne];exact h6
   have HE:Hid (rdr t=Zz):=qf (by unfold rdr;rw [e1,e6];rfl);clear h1 h6;exact qjV
section
open Go.Shelf
attribute [local go_sem] Oper.semAt_some
def V8L (t:Tr) (A:Option Addr) (ca:Nat):Array Value:=(Ku.k t A ca)
def CT (w:Z3) (B:Nat) (t:Tr) (A:Option Addr) (ca:Nat):Prop:=C8 w B (ZZ ZY t.kY) (ZZ ZY t.num) (ZZ ZY t.c1) (ZZ ZY t.r1) (ZZ ZY t.c2) (ZZ ZY t.r2) (.string ⟨t.wZ.toArray⟩) (Zw A t.kZ.length ca)
theorem CT.world (h:CT w B t A ca) (hb:w'.heap[B]? =w.heap[B]?):CT w' B t A ca:=by
 obtain ⟨h0,h1,h2,h3,h4,h5,h6,h7⟩:=h;exact bt (fun j v hv=>by rw [World.cell?_of_block (w:=w) (a:=⟨B,j,ZU⟩) hb];exact hv) h0 h1 h2 h3 h4 h5 h6 h7
theorem CT.lt (h:CT w B t A ca):B<w.heap.size:=Lib.lt_of_cell h.1
theorem CT.below (h:CT w B t A ca) (hb:Z2 w.heap.size w w'):CT w' B t A ca:=h.world (hb.block B h.lt)
def pts (t:Tr):List Tr:=if bz t=Zy then ptT t else []
theorem Bl (t:Tr) (w:Z3) (A:Option Addr) (ca:Nat):
 Calls ZW 247 #[tv t A ca] w fun e w'=>e=ZX (.func (.func 286) #[] #[Zv (ZV ⟨w.heap.size,0,ZU⟩)])/\w'=w.alloc (.cells (V8L t A ca) 33):=by
 unfold tv V8L;go_enter func247,ntmps247;go_wp2_with fail;go_ret;exact ⟨rfl,rfl⟩
theorem xx (t:Tr) (w:Z3) (A:Option Addr) (ca:Nat):
 Calls ZW 208 #[tv t A ca] w fun e w'=>e=ZX (.func (.func 246) #[] #[Zv (ZV ⟨w.heap.size,0,ZU⟩)])/\w'=w.alloc (.cells (V8L t A ca) 33):=by
 unfold tv V8L;go_enter func208,ntmps208;go_wp2_with fail;go_ret;exact ⟨rfl,rfl⟩
theorem vm (hW:Wid t) (hc:br t<=1000000) {P:Nat->Prop} (hB:CT w Bt t A ca) (hA:KV w P t A) (hSB:B<=w.heap.size) (hSt:bh B B w):
 vr ZW 286 #[Zv (ZV ⟨Bt,0,ZU⟩)] (pts t) H6 (fun k=>k=Bt\/P k) w:=by
 intro l C J Jx W hb hC hJ hJx hY h0;show Calls ZW 286 #[.func (.yield l) #[] #[],Zv (ZV ⟨Bt,0,ZU⟩)] W _
 have hBW:=hB.below hb;have hAW:KV W P t A:=hA.kept (Kept.of_below hb);have HR:=qf (jm t hW W P A ca hAW B (Nat.le_trans hSB hb.size) (hSt.later hSB hb));have HB:=qf hBW;have HP:Hid (bz t=Zy->pts t=ptT t):=qf fun h=>if_pos h
 have HP0:Hid (bz t=Zz->pts t=[]):=qf fun h=>if_neg qnO
 have HD:Hid (bz t=Zy->∀w1,Z2 W.heap.size W w1->∀i,i=0->Calls ZW 287 #[tv t A ca,.func (.yield l) #[] #[]] w1 fun e B=>
  Sav C W B/\(e=ZX (.bool Zy)/\J (pts t).length B\/e=ZX (.bool Zz)/\Jx B)):=qf fun hr w1 b1 i hi=>by
  have hk1:KV w1 (fun b=>¬C b) t A:=(hAW.kept (Kept.of_below b1)).imp fun k hk hCk=>(hC k hCk).2 (.inr hk)
  have hY2:=hY;rw [HP.out hr] at hY2 ⊢;refine (II (fun k hk=>(hC k hk).1) hJ hJx hY2 hW hc 0 w1 A ca (fun j u hj=>by rw [Nat.zero_add];exact hj) hk1 (Sav.of_below b1) (hJ 0 W w1 b1 h0)).mono ?_;rintro e B ⟨h1,h2⟩;refine ⟨(Sav.of_below b1).trans h1,?_⟩;rw [rz];rwa [Nat.zero_add] at h2
 have HJ:Hid (bz t=Zz->∀w1,Z2 W.heap.size W w1->J (pts t).length w1):=qf fun hr w1 b1=>by rw [HP0.out hr];exact hJ 0 W w1 b1 h0
 obtain ⟨v0,v1,v2,v3,v4,v5,v6,v7⟩:=hBW;have zB:=hB.lt;clear hY hJ hJx hC h0 hB hA hAW hSt HP HP0;unfold tv at*;cases hr:bz t
 all_goals
  rw [hr] at HR;refine (callsIn_wide (n:=9)).1 (callsIn_of_wp func286 rfl trivial ?_ rfl);simp only [ntmps286,List.size_toArray,List.length_cons,List.length_nil,Nat.reduceAdd,Nat.reduceSub,Array.replicate_succ,Array.replicate_zero,List.push_toArray,List.append_toArray,List.nil_append,List.cons_append];gi_wp2
  refine ⟨trivial,?_⟩;refine (callsIn_wide.2 HR.out).mono ?_;rintro e w1 ⟨rfl,b1⟩
 ·have HF:=qf (HJ.out hr w1 b1)
  clear v0 v1 v2 v3 v4 v5 v6 v7;gi_wp2
  go_end0
  exact ⟨⟨_,rfl⟩,Sav.of_below b1,.inl HF.out⟩
 ·have HF:=qf (HD.out hr w1 b1 0 rfl)
  obtain ⟨q0,q1,q2,q3,q4,q5,q6,q7⟩:=HB.out.below b1;clear v0 v1 v2 v3 v4 v5 v6 v7;gi_wp2
  refine ⟨trivial,?_⟩;refine (callsIn_wide.2 HF.out).mono ?_;rintro e w2 ⟨h2,⟨rfl,hj2⟩|⟨rfl,hx2⟩⟩
  ·gi_wp2
   go_end0
   exact ⟨⟨_,rfl⟩,h2,.inl hj2⟩
  ·gi_wp2
   go_end0
   exact ⟨⟨_,rfl⟩,h2,.inr hx2⟩
end
section
open Go.Shelf
attribute [local go_sem] Oper.semAt_some
def rgs (t:Tr):List Tr:=(pts t).filter rdr
def PH (u:Tr) (args:Array Value):Prop:=args=#[.agg #[ZZ ZY u.c1,ZZ ZY u.r1,ZZ ZY u.c2,ZZ ZY u.r2]]
def nrd (xs:List Tr) (i:Nat):Nat:=((xs.take i).filter rdr).length
theorem Om (h:xs[i]? =ZV u) (hr:rdr u=Zz):nrd xs (i+1)=nrd xs i:=qms
theorem L4 (h:xs[i]? =ZV u) (hr:rdr u=Zy):nrd xs (i+1)=nrd xs i+1:=qms
theorem MW (h:xs[i]? =ZV u) (hr:rdr u=Zy):(xs.filter rdr)[nrd xs i]? =ZV u:=by
 unfold nrd
 have hs:xs=xs.take i++(u::xs.drop (i+1)):=by
  have hlt:=(List.getElem?_eq_some_iff.1 h).1;have hd:=List.drop_eq_getElem_cons hlt;have hg:=(List.getElem?_eq_some_iff.1 h).2;rw [hg] at hd;rw [<-hd,List.take_append_drop]
 have key:∀(a b:List Tr),((a++u::b).filter rdr)[(a.filter rdr).length]? =ZV u:=by
  intro a b;rw [List.filter_append,List.getElem?_append_right qd,Nat.sub_self,List.filter_cons,if_pos hr];rfl
 conv=>lhs;lhs;rw [hs]
 exact key _ _
theorem Lt (xs:List Tr):nrd xs xs.length=(xs.filter rdr).length:=by unfold nrd;rw [List.take_length]
theorem ur (hW:Wid t) (hc:br t<=1000000) {P:Nat->Prop} (hB:CT w Bt t A ca) (hA:KV w P t A) (hP:∀k,P k->k<w.heap.size) (hSB:B<=w.heap.size) (hSt:bh B B w):
 vr ZW 246 #[Zv (ZV ⟨Bt,0,ZU⟩)] (rgs t) PH (fun k=>k=Bt\/P k) w:=by
 intro l C J Jx W hb hC hJ hJx hY h0;show Calls ZW 246 #[.func (.yield l) #[] #[],Zv (ZV ⟨Bt,0,ZU⟩)] W _
 have hBW:=hB.below hb;have hzB:Bt<W.heap.size:=hBW.lt;obtain ⟨v0,v1,v2,v3,v4,v5,v6,v7⟩:=hBW;have HPa:=qf (fun w=>Bl t w A ca);unfold tv at HPa;refine (callsIn_wide (n:=9)).1 (callsIn_of_wp_marks func246 rfl trivial ?_ rfl);simp only [ntmps246,List.size_toArray,List.length_cons,List.length_nil,Nat.reduceAdd,Nat.reduceSub,Array.replicate_succ,Array.replicate_zero,List.push_toArray,List.append_toArray,List.nil_append,List.cons_append];gi_wp2
 refine ⟨trivial,?_⟩;refine (callsIn_wide.2 (HPa.out _)).mono ?_;rintro e w1 ⟨rfl,rfl⟩;clear v0 v1 v2 v3 v4 v5 v6 v7;gi_wp2
 obtain ⟨W1,hW1⟩:∃W1,(W.alloc (.cells #[.func (.yield l) #[] #[]] 223)).alloc (.cells (V8L t A ca) 33)=W1:=⟨_,rfl⟩
 have hbW:Z2 W.heap.size W W1:=(by rw [<-hW1];exact qa.alloc qns _);have hz1:W1.heap.size=W.heap.size+2:=qrc;have hCT:CT W1 (W.heap.size+1) t A ca:=qlD;have hyb:W1.cell? ⟨W.heap.size,0,ZU⟩=ZV (.func (.yield l) #[] #[]):=(by rw [<-hW1];simp [go_sem]);rw [hW1];have hA1:KV W1 P t A:=(hA.kept (Kept.of_below hb)).kept (Kept.of_below hbW);have hbw1:Z2 w.heap.size w W1:=hb.trans (hbW.mono hb.size);have hsw:=hb.size;clear hW1
 refine vM (gf:=286) (lb:=#[Zv (ZV ⟨W.heap.size+1,0,ZU⟩)]) rfl (enters_of func286 qnx rfl)
  (vm hW hc hCT hA1 (Nat.le_trans hSB hbw1.size) (hSt.later hSB hbw1)) qb (fun x args h=>by obtain ⟨A,ca,rfl⟩:=h;rfl)
  C (fun k hk=>⟨(by have:=(hC k hk).1;omega),(by rintro (rfl|h);have:=(hC _ hk).1;omega;exact (hC k hk).2 (.inr h))⟩) (by rintro k (rfl|h);omega;have:=hP k h;omega)
  (fun i A=>J (nrd (pts t) i) A/\A.cell? ⟨W.heap.size,0,ZU⟩=ZV (.func (.yield l) #[] #[])) (fun c A=>c=.ret/\Jx A)
  (fun i A B hab ⟨h1,h2⟩=>⟨hJ _ A B (hab.mono qoq) h1,(hab.cell (p:=⟨W.heap.size,0,ZU⟩) (by show W.heap.size<_;omega)).trans h2⟩)
  (fun c A B hab ⟨h1,h2⟩=>⟨h1,hJx A B (hab.mono qoq) h2⟩)
  ⟨(by rw [show nrd (pts t) 0=0 from rfl];exact hJ 0 W W1 hbW h0),hyb⟩
  (fun u a' V=>∃Bx A' ca',W1.heap.size<=Bx/\CT V Bx u A' ca'/\a'={ tmps:=#[.func (.yield l) #[] #[],Zv (ZV ⟨Bt,0,ZU⟩),Zv (ZV ⟨W.heap.size,0,ZU⟩),Zv (ZV ⟨Bx,0,ZU⟩),.agg (Ku.k t A ca),.func (.func 286) #[] #[Zv (ZV ⟨W.heap.size+1,0,ZU⟩)],.agg (Ku.k u A' ca'),undef,undef,undef,undef,undef,undef,undef,undef,undef],defers:=[] })
  (fun x a' V l' r o hl ⟨Bx,A',ca',h1,h2,h3⟩=>⟨Bx,A',ca',h1,h2.world (cI o (by rintro rfl;have:=h2.1;simp [World.cell?,hl] at this)),h3⟩)
  ?assign ?body ?done ?stop
 case assign=>
  rintro l' i x args V K hx ⟨A',ca',rfl⟩ hz hK;unfold tv;gi_wp2
  exact hK _ _ qa ⟨V.heap.size,A',ca',hz,(by refine ⟨?_,?_,?_,?_,?_,?_,?_,?_⟩<;>simp [go_sem]),rfl⟩
 case body=>
  rintro l' i x a' V hx hsV ⟨hjV,hyV⟩ ⟨Bx,A',ca',hBx,hct,rfl⟩;have HQ:=qf (fun w=>yh x w A' ca');unfold tv at HQ;have HCT:=qf hct;have hzx:=hct.lt;obtain ⟨v0,v1,v2,v3,v4,v5,v6,v7⟩:=hct;gi_wp2
  refine ⟨trivial,?_⟩;refine (CallsIn.inRound l' (callsIn_wide.2 (HQ.out _))).mono ?_;rintro e V2 ⟨rfl,b2⟩;have hsW:Sav C W V:=(Sav.of_below hbW).trans hsV;have hzV:=hsV.size;have y2:V2.cell? ⟨W.heap.size,0,ZU⟩=ZV (.func (.yield l) #[] #[]):=aa b2 hyV;obtain ⟨q0,q1,q2,q3,q4,q5,q6,q7⟩:=HCT.out.below b2;have hj2:=hJ _ V V2 (b2.mono qoq) hjV;have HS2:=qf (Sav.of_below (C:=C) b2);clear v0 v1 v2 v3 v4 v5 v6 v7 HCT HQ;cases hr:rdr x with
  |false=>
   have HN:=qf (Om hx hr);gi_wp2
   refine ⟨fun _ h=>qoO,?_⟩;gi_wp2
   exact ⟨HS2.out,(by show J (nrd (pts t) (i+1)) V2;rw [HN.out];exact hj2),y2⟩
  |true=>
   have HN:=qf (L4 hx hr);obtain ⟨fn,tmps,assign,bd,hy,hR⟩:=hY 8 (nrd (pts t) i) x _ V2 (MW hx hr) rfl (hsW.trans HS2.out) hj2;gi_wp2
   refine RoundIn.mono hR ?_;rintro e V3 ⟨hs3,⟨rfl,hj3⟩|⟨rfl,hx3⟩⟩
   ·have y3:V3.cell? ⟨W.heap.size,0,ZU⟩=ZV (.func (.yield l) #[] #[]):=hs3.cell (fun h=>Nat.lt_irrefl _ (hC _ h).1) y2
    gi_wp2
    exact ⟨HS2.out.trans hs3,(by show J (nrd (pts t) (i+1)) V3;rw [HN.out];exact hj3),y3⟩
   ·gi_wp2
    exact ⟨HS2.out.trans hs3,rfl,hx3⟩
 case done=>
  rintro D V hD hsV ⟨hj,_⟩ hK;gi_wp2
  refine ⟨qns,.inl ⟨_,_,rfl,run_takeDeferred hK,?_⟩⟩;refine ⟨_,results_none rfl _ _ _,⟨_,rfl⟩,((Sav.of_below hbW).trans hsV).putObj (.inr qoq) _,.inl (hJ _ V _ (dY qb qoq _) (by rw [Lt] at hj;exact hj))⟩
 case stop=>
  rintro D c V hD hsV ⟨rfl,hx⟩ hK;gi_wp2
  refine ⟨qns,.inl ⟨_,_,rfl,run_takeDeferred hK,?_⟩⟩;refine ⟨_,results_none rfl _ _ _,⟨_,rfl⟩,((Sav.of_below hbW).trans hsV).putObj (.inr qoq) _,.inr (hJx V _ (dY qb qoq _) hx)⟩
end
section
open Go.Shelf
attribute [local go_sem] Oper.semAt_some
def sG (x y:Int) (xs:List Tr) (i:Nat):Bool:=(xs.take i).any fun u=>dM u.c1 u.r1 u.c2 u.r2 x y
theorem FR (h:xs[i]? =ZV u):sG x y xs (i+1)=(sG x y xs i || dM u.c1 u.r1 u.c2 u.r2 x y):=by
 unfold sG;rw [List.take_add_one,h,List.any_append];simp
def C4 (w:Z3) (B:Nat) (u:Tr):Prop:=w.cell? ⟨B,0,ZU⟩=ZV (ZZ ZY u.c1)/\w.cell? ⟨B,1,ZU⟩=ZV (ZZ ZY u.r1)/\w.cell? ⟨B,2,ZU⟩=ZV (ZZ ZY u.c2)/\w.cell? ⟨B,3,ZU⟩=ZV (ZZ ZY u.r2)
theorem C4.world (h:C4 w B u) (hb:w'.heap[B]? =w.heap[B]?):C4 w' B u:=by
 have hc:∀j v,w.cell? ⟨B,j,ZU⟩=ZV v->w'.cell? ⟨B,j,ZU⟩=ZV v:=fun j v hv=>by rw [World.cell?_of_block (w:=w) (a:=⟨B,j,ZU⟩) hb];exact hv
 exact ⟨hc _ _ h.1,hc _ _ h.2.1,hc _ _ h.2.2.1,hc _ _ h.2.2.2⟩
theorem C4.turn {V:Z3} {r:Loop} (hl:V.heap[l]? =ZV (.loop r)) (o:Obj) (h:C4 V B u):C4 (V.putObj l o) B u:=
 h.world (cI o (by rintro rfl;have:=h.1;simp [World.cell?,hl] at this))
end
section
open Go.Shelf
attribute [local go_sem] Oper.semAt_some
theorem Az (c:Array Value) (i:Nat) (b:Bool) (hs:c.size=1024) (hi:i<1024) (h:c[i]? =ZV (.bool b)) (w:Z3):(Instr.index 152 (.agg c) (ZZ ZY (i:Int))).run ZW w=.ok (.bool b) w:=by
 have hh:c[i]'qoq=.bool b:=by
  have:=Array.getElem?_eq_some_iff.1 h;exact this.2
 simp [Instr.index,go_sem,mT,hs,hi,hh,h]
theorem oT {F:Fence} {ops:Array Oper} {rest:List Oper} {o:Oper} {a:Act} (hgd:o.guard=ZU) (ty:TypeId) (x:Operand) (ho:o.op=.load ty x)
 (g:Nat) (hx:a.eval x=Zv (ZV ⟨g,0,ZU⟩)) (t:TypeId) (cs:Array Value) (fr:Nat×Nat) (d:TypeDesc) (hg:w.heap[g]? =ZV (.cells cs t fr))
 (hu:P.underlying ty=ZV d) (hd:(match d with|.struct _|.array _ _=>Zy|_=>Zz)=Zy) (hi:(P.info? ty).map (·.size)=ZV cs.size)
 (h:wpListIn F n P ops Q rest (a.put o.dst (.agg cs)) w):wpListIn F n P ops Q (o::rest) a w:=by
 refine wpListIn_plain hgd fun K hK=>?_
 unfold Oper.wpIn;refine ⟨(by simp [Oper.about,ho]),?_⟩;rw [Oper.semAt_plain F _ _ (by rw [ho];intro c hc;cases hc)];unfold execOp;simp only [ho,hx,Instr.loadAt,Instr.sureAddr,Sem.run_bind,Sem.run_pure,Result.andThen_ok,run_loadVar_row w g t ty cs fr d hg hu hd hi];exact hK _ _ h
def dq (u:Tr):List Nat:=(List.range 1024).filter fun j=>dM u.c1 u.r1 u.c2 u.r2 (atC (j:Int)) (atR (j:Int))
theorem u2 (u:Tr):ax u.c1 u.r1 u.c2 u.r2 1024=(dq u).map fun (j:Nat)=>(atC (j:Int),atR (j:Int)):=by unfold ax dq;rfl
theorem Gi:j∈dq u↔j<1024/\dM u.c1 u.r1 u.c2 u.r2 (atC (j:Int)) (atR (j:Int))=Zy:=by
 unfold dq;generalize 1024=N;rw [List.mem_filter,List.mem_range]
theorem OP {k:Nat} (h:(dq u)[k]? =ZV j):j<1024:=(Gi.1 (List.mem_of_getElem? h)).1
theorem Nv (h:j<1024):aQ (atC (j:Int)) (atR (j:Int))=(j:Int):=by
 unfold aQ;rw [jU j h,jI j h,if_pos ((bp _ _).2 ⟨qoq,qoq,qoq,qoq⟩)];omega
def mkF (t:Tr) (i:Nat) (j:Nat):Bool:=sG (atC (j:Int)) (atR (j:Int)) (rgs t) i
theorem Gt (h:(rgs t)[i]? =ZV u) (hj:j<1024):mkF t (i+1) j=(mkF t i j || decide (j∈dq u)):=by
 have e:decide (j∈dq u)=dM u.c1 u.r1 u.c2 u.r2 (atC (j:Int)) (atR (j:Int)):=by
  rw [Bool.eq_iff_iff,decide_eq_true_iff,Gi];exact ⟨fun h=>h.2,fun h=>⟨hj,h⟩⟩
 unfold mkF;rw [FR h,e]
def rdM (t:Tr) (i:Nat):List (Int×Int):=((List.range i).filter fun (j:Nat)=>mkF t (rgs t).length j).map fun (j:Nat)=>(atC (j:Int),atR (j:Int))
theorem KM (h:mkF t (rgs t).length i=Zy):rdM t (i+1)=rdM t i++[(atC i,atR i)]:=qmb
theorem NT (h:mkF t (rgs t).length i=Zz):rdM t (i+1)=rdM t i:=qmb
theorem Od (t:Tr) (i:Nat):(rdM t i).length<=i:=by
 unfold rdM;rw [List.length_map];exact Nat.le_trans (List.length_filter_le _ _) qns
theorem BU (hW:Wid t) (hc:br t<=1000000) (w:Z3) (A:Option Addr) (ca:Nat) (hA:KV w (fun _=>True) t A) (hSB:B<=w.heap.size) (hSt:bh B B w):
 Calls ZW 145 #[tv t A ca] w fun e w'=>∃v,e=ZX v/\w'.ownsRow w.heap.size 28 2 v (rdM t 1024).length (bj (rdM t 1024))/\Z2 w.heap.size w w':=by
 have hA0:KV w (fun b=>b<w.heap.size) t A:=hA.low.imp fun _ h=>h.2
 have HPa:=qf (fun w=>xx t w A ca);obtain ⟨i0,hi0,hz0,hz1,hz2⟩:=info_parts lM;obtain ⟨HI,HZ0,HZ1,HZ2⟩:=qbC;clear hi0 hz0 hz1 hz2;unfold tv at*;refine (callsIn_wide (n:=9)).1 (callsIn_of_wp_marks func145 rfl trivial ?_ rfl);simp only [ntmps145,List.size_toArray,List.length_cons,List.length_nil,Nat.reduceAdd,Nat.reduceSub,Array.replicate_succ,Array.replicate_zero,List.push_toArray,List.append_toArray,List.nil_append,List.cons_append];gi_wp2
 refine ⟨trivial,?_⟩;refine (callsIn_wide.2 (HPa.out _)).mono ?_;rintro e w1 ⟨rfl,rfl⟩;clear HPa;gi_wp2
 obtain ⟨W1,hW1⟩:∃W1,(((w.alloc (.cells (Ku.k t A ca) 33)).alloc (.cells zeroCells152 152)).alloc (.cells (V8L t A ca) 33))=W1:=⟨_,rfl⟩
 have hbW:Z2 w.heap.size w W1:=(by rw [<-hW1];exact (qa.alloc qns _).alloc qnu _);have hz1:W1.heap.size=w.heap.size+3:=qrc;have hCT:CT W1 (w.heap.size+1+1) t A ca:=qlD
 have hn0:MK W1 (w.heap.size+1) (mkF t 0):=by
  refine ⟨zeroCells152,?_,(by rw [n8,Array.size_replicate]),fun j hj=>by rw [n8,Array.getElem?_replicate,if_pos hj];rfl⟩;rw [<-hW1,Below.heap_alloc _ _ _ qns];have:=World.alloc_heap_new (w.alloc (.cells (Ku.k t A ca) 33)) (.cells zeroCells152 152);rwa [World.size_alloc] at this
 rw [hW1];have hA1:KV W1 (fun b=>b<w.heap.size) t A:=hA0.kept (Kept.of_below hbW);clear hW1
 refine vM (gf:=246) (lb:=#[Zv (ZV ⟨w.heap.size+1+1,0,ZU⟩)]) rfl (enters_of func246 qnx rfl)
  (ur hW hc hCT hA1 (fun k hk=>by omega) (Nat.le_trans hSB hbW.size) (hSt.later hSB hbW)) qb (fun x args h=>by rw [h];rfl)
  (fun k=>k=w.heap.size+1) (by rintro k rfl;exact ⟨qoq,(by rintro (h|h);omega;have h2:w.heap.size+1<w.heap.size:=h;omega)⟩) (by rintro k (rfl|h);omega;have h2:k<w.heap.size:=h;omega)
  (fun i V=>MK V (w.heap.size+1) (mkF t i)) (fun _ _=>False)
  (fun i A B hab h=>h.world (hab.block _ qoq))
  (fun _ _ _ _ h=>h) hn0
  (fun u a' V=>∃Bx,W1.heap.size<=Bx/\C4 V Bx u/\a'={ tmps:=#[.agg (Ku.k t A ca),Zv (ZV ⟨w.heap.size,0,ZU⟩),Zw ZU 0 0,Zv (ZV ⟨w.heap.size+1,0,ZU⟩),Zv (ZV ⟨Bx,0,ZU⟩),undef,undef,undef,undef,undef,undef,undef,
    .agg (Ku.k t A ca),.func (.func 246) #[] #[Zv (ZV ⟨w.heap.size+1+1,0,ZU⟩)],.agg #[ZZ ZY u.c1,ZZ ZY u.r1,ZZ ZY u.c2,ZZ ZY u.r2],undef,undef,undef,undef,undef,undef,undef,undef,undef,undef,undef,undef,undef,undef,undef,undef,undef,undef,undef,undef,undef,undef,undef,undef,undef,undef,undef,undef],defers:=[] })
  (fun x a' V l' r o hl ⟨Bx,h1,h2,h3⟩=>⟨Bx,h1,h2.turn hl o,h3⟩)
  ?assign ?body ?done ?stop
 case assign=>
  rintro l' i u args V K hx he hz hK;subst he;gi_wp2
  exact hK _ _ qa ⟨V.heap.size,hz,(by refine ⟨?_,?_,?_,?_⟩<;>simp [go_sem]),rfl⟩
 case body=>
  rintro l' i u a' V hx hsV hmk ⟨Bx,hBx,⟨v0,v1,v2,v3⟩,rfl⟩;have HH:=qf (fun w=>pX u.c1 u.r1 u.c2 u.r2 w);have HST:=qf (fun j hj=>Gt (j:=j) hx hj);have hzV:=hsV.size;gi_wp2
  refine ⟨trivial,?_⟩;refine (CallsIn.inRound l' (callsIn_wide.2 (HH.out _))).mono ?_;rintro e V2 ⟨rv,rfl,hrow,b2⟩;obtain ⟨RA,rc,rfl,hat⟩:=Dr hrow;have HM2:=qf (hmk.world (b2.block _ hmk.lt));have HS2:=qf (Sav.of_below (C:=fun k=>k=w.heap.size+1) b2);have zV2:=b2.size;have HAT:=qf hat
  have HLow:Hid (∀g,RA=ZV ⟨g,0,ZU⟩->g≠w.heap.size+1):=qf fun g hg=>by
   have:=(hrow.lt g (by rw [hg];rfl)).1;omega
  have hlen:=ia u.c1 u.r1 u.c2 u.r2 1024;have hL:(ax u.c1 u.r1 u.c2 u.r2 1024).length=(dq u).length:=(by rw [u2,List.length_map]);clear v0 v1 v2 v3 hmk hrow b2 hat HH;gi_wp2
  rw [hL] at hlen;try rw [hL]
  gi_loopw [18] (fun n wr=>∃k:Nat,k<=(dq u).length/\n=ZZ ZY (k:Int)/\MK wr (w.heap.size+1) (fun j=>mkF t i j || decide (j∈(dq u).take k))/\Sav (fun k=>k=w.heap.size+1) V2 wr) (fun n _=>(dq u).length - (RowKit.intOf n).toNat)
  case atStart=>exact ⟨0,qe,rfl,HM2.out.congr fun j _=>by simp,Sav.refl _ _⟩
  case round=>
   obtain ⟨k,hk,rfl,hmk,hsw⟩:=hrel;have zw:=hsw.size;by_cases hlt:k<(dq u).length
   ·obtain ⟨g,rfl,hgl,hat⟩:=HAT.out k qoq
    have hj:(dq u)[k]? =ZV ((dq u)[k]'hlt):=List.getElem?_eq_getElem hlt;have hj2:=OP hj;obtain ⟨a0,a1⟩:=hat k (atC ((dq u)[k]'hlt:Nat)) (atR ((dq u)[k]'hlt:Nat)) (by rw [u2,List.getElem?_map,hj];rfl);have a2:=hsw.cell (HLow.out g rfl) a0;have a3:=hsw.cell (HLow.out g rfl) a1;have HX:=qf (fun w=>fW (atC ((dq u)[k]'hlt:Nat)) (atR ((dq u)[k]'hlt:Nat)) w);rw [Nv hj2] at HX;have HTK:Hid ((dq u).take (k+1)=(dq u).take k++[(dq u)[k]'hlt]):=qf (by rw [List.take_add_one,hj];rfl);generalize (dq u)[k]'hlt=q at*;generalize atC (q:Int)=qx at*;generalize atR (q:Int)=qy at*;clear a0 a1 hat hj;gi_wp2
    refine ⟨trivial,?_⟩;refine (CallsIn.inRound l' (callsIn_wide.2 (HX.out _))).mono ?_;rintro e w3 ⟨rfl,b3⟩;have hz3:w.heap.size+1<wr.heap.size:=hmk.lt;have b3':Z2 wr.heap.size wr w3:=qa.trans (b3.mono qns);have hm3:=hmk.world (b3'.block _ hz3);have hs3:Sav (fun k=>k=w.heap.size+1) V2 w3:=hsw.trans (Sav.of_below b3');obtain ⟨c3,f3⟩:=hm3.cell hj2;have HM3:=qf hm3;have HS3:=qf hs3;clear b3 b3' hm3 hs3 hmk hsw a2 a3 HX;gi_wp2
    go_roundw
    case rel=>exact ⟨k+1,qoq,qnG,HM3.out.set fun j _=>by rw [HTK.out];rw [Bool.eq_iff_iff];simp [or_assoc],Sav.setCell (C:=fun k=>k=w.heap.size+1) (g:=w.heap.size+1) HS3.out (.inl rfl) q (.bool Zy)⟩
    case measure=>exact qmy
   ·have hke:k=(dq u).length:=by omega
    subst hke;gi_wp2
    refine ⟨HS2.out.trans hsw,hmk.congr fun j hj=>?_⟩;rw [HST.out j hj,List.take_length]
 case done=>
  rintro D V hD hsV hmk hK;obtain ⟨c,hch,hcs,hcj⟩:=hmk;have HCH:=qf hch;have HCS:=qf hcs;have HCJ:=qf hcj;have HKD:=qf hK;have hzV:=hsV.size;have HSV:=qf hsV;have hDV:D<V.heap.size:=(Array.getElem?_eq_some_iff.1 hK).1;clear hch hcs hcj hK hsV;gi_wp2_with (refine oT rfl 152 _ rfl (w.heap.size+1) rfl 152 c (0,0) _ HCH.out mT rfl (by rw [HCS.out];exact xH) ?_)
  gi_loopw [7,27] (fun v n wr=>∃i:Nat,i<=1024/\n=ZZ ZY (i:Int)/\wr.ownsRow V.heap.size 28 2 v (rdM t i).length (bj (rdM t i))/\Z2 V.heap.size V wr) (fun _ n _=>nP n)
  case atStart=>exact qmT
  case round=>
   obtain ⟨i,hi,rfl,hown,hb⟩:=hrel;have HO:=qf hown;have hlen2:=Od t i;have zr:=hb.size;clear hown;by_cases hlt:i<1024
   ·have hrun:=Az c i (mkF t (rgs t).length i) HCS.out hlt (HCJ.out i hlt)
    have HA:=qf (fun w=>zS (i:Int) w);cases hm:mkF t (rgs t).length i with
    |true=>
     have HS:=qf (KM hm);rw [hm] at hrun;generalize atC (i:Int)=qx at*;generalize atR (i:Int)=qy at*;clear hm;gi_wp2
     refine ⟨trivial,?_⟩;refine (callsIn_wide.2 (HA.out _)).mono ?_;rintro e w2 ⟨rfl,b2⟩;have HO2:=qgZ;have hb2:=hb.trans (b2.mono qoq);have z2:=hb2.size;clear b2 HA
     gi_wp2_with (gi_at_builtin;refine wpListIn_append_own _ rfl _ _ 71 rfl V.heap.size 28 i0 (.agg #[ZZ ZY 0,ZZ ZY 0]) 2 16 underlying71 HI.out HZ0.out HZ1.out HZ2.out rfl qnv _ _ _ rfl ((HO2.out.alloc _).alloc _) ⟨w2.heap.size+1,0,ZU⟩ 1 1 [ZZ ZY qx,ZZ ZY qy] rfl rfl ?c1 ?c2 ?c3 ?c4 ?c5 ?_)
     case c1=>
      intro j u hj;match j,hj with
      |0,hj=>simp at hj;subst hj;simp [Addr.add,go_sem]
      |1,hj=>simp at hj;subst hj;simp [Addr.add,go_sem]
     case c2=>exact qmN
     case c3=>exact qmE
     case c4=>omega
     case c5=>simp;omega
     intro v' w4 hown4 hg4 _;rw [<-kF] at hown4;have e5:(rdM t i).length+1=(rdM t (i+1)).length:=(by rw [HS.out];simp);rw [e5,<-HS.out] at hown4;have HO4:=qf hown4;have hb4:Z2 V.heap.size V w4:=((hb2.alloc z2 _).alloc qnu _).grown hg4 qnu (fun g hgg=>(HO2.out.lt g hgg).1);clear hown4 e5 hg4;gi_wp2
     exact qkQ
    |false=>
     have HS:=qf (NT hm);rw [hm] at hrun;have HO3:=HO.out;clear hm HA;rw [<-HS.out] at HO3;have HO4:=qf HO3;clear HO3;gi_wp2
     go_roundw
     case rel=>exact ⟨i+1,qoq,qnG,HO4.out,hb⟩
     case measure=>exact qmO
   ·have hi2:i=1024:=by omega
    subst hi2;have hKr:wr.heap[D]? =ZV (.deferred (ZV [])):=(hb.block D hDV).trans HKD.out;gi_wp2
    refine ⟨qns,.inl ⟨_,_,rfl,run_takeDeferred hKr,?_⟩⟩;refine ⟨_,results_tmp rfl _ _ _,_,rfl,?_,hbW.trans (((HSV.out.trans (Sav.of_below hb)).putObj (.inr qoq) _).below (fun k hk h=>by have h2:k=w.heap.size+1:=h;omega) qoq)⟩;exact (ownsRow_putObj HO.out _ hKr rfl).mono qoq
 case stop=>
  rintro D c V hD hsV h hK;exact h.elim
end
