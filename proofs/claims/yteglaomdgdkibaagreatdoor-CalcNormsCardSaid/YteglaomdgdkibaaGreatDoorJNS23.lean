import Derived.Test.YteglaomdgdkibaaGreatDoorJNS19
import Derived.Test.YteglaomdgdkibaaGreatDoorJSG
import Derived.Shelf.AbstractIn
import Derived.RangeFuncMany
import Derived.Sort.MapsRangeIn
import Derived.Sort.KeysCollected
import Derived.RegionIn
import Derived.Test.YteglaomdgdkibaaGreatDoorJQNSP
import Derived.Test.YteglaomdgdkibaaGreatDoorJQNSW
set_option linter.all false
set_option maxHeartbeats 0
set_option maxRecDepth 99999
namespace Go.Proofs.YteglaomdgdkibaaGreatDoor
open Go.RowKit
open Value renaming int→ZZ,slice→Zw,pointer→Zv
open IntKind renaming i64→ZY
open Ending renaming returned→ZX
open RowKit renaming Below→Z2
open Go renaming World→Z3
open Tryz
open Tryz renaming prog→ZW
open Option renaming some→ZV,none→ZU
open Bool renaming false→Zz,true→Zy
variable {L:List Lk}{C fd found l on:List Int}{n r x y z:Int}{P:Nat->Prop}{M M' M2:Int->Bool}{R base g i j k o off:Nat}{a w w':World}{K:Act->World->Prop}{Q:Exit->Act->World->Prop}{v:Value}{p:Addr}{A:Option Addr}{d:Array Int}
def Ed (L:List Lk) (n y:Int):Prop:=∃x∈L,x.at_=n/\y∈x.rd
theorem F5:Hng L on n↔∃r,Ed L n r/\(r∈on\/Hng L on r):=by
 rw [yR];constructor
 ·rintro ⟨x,hx,e,r,hr,h⟩
  exact ⟨r,⟨x,hx,e,hr⟩,h⟩
 ·rintro ⟨r,⟨x,hx,e,hr⟩,h⟩
  exact ⟨x,hx,e,r,hr,h⟩
theorem Ed.now (h:Ed L n y) (hy:y∈on):Hng L on n:=F5.2 ⟨y,h,.inl hy⟩
theorem Ed.one (h:Ed L n y):Hng L [y] n:=h.now (List.mem_singleton.2 rfl)
theorem Ed.more (h:Ed L n y) (hy:Hng L on y):Hng L on n:=F5.2 ⟨y,h,.inr hy⟩
theorem Ed.node (h:Ed L n y):isN L n:=by
 obtain ⟨x,hx,e,_⟩:=h;exact ⟨x,hx,e⟩
theorem lh {P:Int->Prop} (h0:∀x r,Ed L x r->r∈on->P x) (h1:∀x r,Ed L x r->Hng L on r->P r->P x) (h:Hng L on n):P n:=by
 induction h with
 |now x hx r hr ho=>exact h0 _ r ⟨x,hx,rfl,hr⟩ ho
 |more x hx r hr h ih=>exact h1 _ r ⟨x,hx,rfl,hr⟩ h ih
def unm (L:List Lk) (M:Int->Bool):List Lk:=L.filter fun x=> !M x.at_
theorem nT {x:Lk}:x∈unm L M↔x∈L/\M x.at_=Zz:=by
 unfold unm;rw [List.mem_filter];cases M x.at_<;>simp
theorem LD (L:List Lk) (M:Int->Bool):(unm L M).length<=L.length:=List.length_filter_le _ _
theorem mL:Ed (unm L M) n y↔Ed L n y/\M n=Zz:=by
 constructor
 ·rintro ⟨x,hx,rfl,hy⟩
  obtain ⟨h1,h2⟩:=nT.1 hx;exact ⟨⟨x,h1,rfl,hy⟩,h2⟩
 ·rintro ⟨⟨x,hx,rfl,hy⟩,h⟩
  exact ⟨x,nT.2 ⟨hx,h⟩,rfl,hy⟩
theorem LO (h:isN (unm L M) n):isN L n/\M n=Zz:=by
 obtain ⟨x,hx,rfl⟩:=h;obtain ⟨h1,h2⟩:=nT.1 hx;exact ⟨⟨x,h1,rfl⟩,h2⟩
structure HgI (L:List Lk) (M:Int->Bool) (on found:List Int) (M':Int->Bool):Prop where
 nd:found.Nodup
 hng:∀n∈found,Hng (unm L M) on n
 mark:∀n,M' n=(M n || decide (n∈found))
theorem HgI.start (L:List Lk) (M:Int->Bool) (on:List Int):HgI L M on [] M:=⟨List.nodup_nil,fun n h=>qoO,fun n=>by simp⟩
theorem HgI.len (h:HgI L M on found M'):found.length<=L.length:=Nat.le_trans (kh (L:=unm L M) h.nd fun n hn=>eW (h.hng n hn)) (LD L M)
theorem HgI.un (h:HgI L M on found M') (hn:n∈found):isN L n/\M n=Zz:=LO (eW (h.hng n hn))
def cT (M:Int->Bool) (n:Int):Int->Bool:=fun y=>if y=n then Zy else M y
theorem HgI.step (h:HgI L M on found M') (hr:Ed L r y) (hy:y∈on++found) (hm:M' r=Zz):HgI L M on (found++[r]) (cT M' r):=by
 have h1:=h.mark r;rw [hm] at h1;obtain ⟨e1,e2⟩:=Bool.or_eq_false_iff.1 h1.symm;refine ⟨List.nodup_append.2 ⟨h.nd,qns,fun a ha b hb e=>?_⟩,fun n hn=>?_,fun n=>?_⟩
 ·obtain rfl:b=r:=by simpa using hb
  subst e;exact absurd ha (by simpa using e2)
 ·rcases List.mem_append.1 hn with q|q
  ·exact h.hng n q
  ·obtain rfl:n=r:=by simpa using q
   have he:Ed (unm L M) n y:=mL.2 ⟨hr,e1⟩;rcases List.mem_append.1 hy with c|c
   ·exact he.now c
   ·exact he.more (h.hng y c)
 ·unfold cT
  by_cases e:n=r
  ·subst e
   simp
  ·rw [if_neg e,h.mark n]
   simp [e]
theorem HgI.done (h:HgI L M on found M') (hc:∀y∈on++found,∀r,Ed L r y->M' r=Zy) (n:Int):n∈found↔Hng (unm L M) on n:=by
 refine FW h.hng (fun x hx hr=>?_) n;obtain ⟨r,hr,hor⟩:=hr;obtain ⟨h1,h2⟩:=nT.1 hx;have:=hc r (by rcases hor with q|q;exact List.mem_append.2 (.inl q);exact List.mem_append.2 (.inr q)) x.at_ ⟨x,h1,rfl,hr⟩;rw [h.mark,h2,Bool.false_or] at this;simpa using this
/- an order of numbers -/
def LdT (L:List Lk) (x z:Int):Prop:=x=z\/Hng L [z] x
theorem LdT.trans (h:LdT L x y) (h2:LdT L y z):LdT L x z:=by
 rcases h with rfl|h
 ·exact h2
 ·rcases h2 with rfl|h2
  ·exact .inr h
  ·exact .inr (dB h h2)
theorem LdT.hng (h:LdT L x y) (h2:Hng L [z] y):Hng L [z] x:=by
 rcases h with rfl|h
 ·exact h2
 ·exact dB h h2
theorem sh (h:Hng L [y] x) (h2:LdT L y z):Hng L [z] x:=by
 rcases h2 with rfl|h2
 ·exact h
 ·exact dB h h2
def wA (L:List Lk) (l:List Int):Prop:=∀p x q,l=p++x::q->∀y,Ed L x y->LdT L y x\/∀z,LdT L y z->z∈p
def Sc (L:List Lk) (x m:Int):Prop:=Hng L [m] x/\Hng L [x] m
theorem Sc.trans (h:Sc L x y) (h2:Sc L y z):Sc L x z:=⟨dB h.1 h2.1,dB h2.2 h.2⟩
theorem Sc.symm (h:Sc L x y):Sc L y x:=⟨h.2,h.1⟩
def Ot (L:List Lk) (l2:List Int) (M:Int->Bool):Prop:=∀x,M x=Zy↔x∈l2\/∃m∈l2,Sc L x m
theorem JY {l1 l2:List Int} (hF:wA L l) (hall:∀x,isN L x->x∈l) (hd:l.Nodup) (hl:l=l1++n::l2) (hM:Ot L l2 M) (x:Int):Hng (unm L M) [n] x↔M x=Zz/\Sc L x n:=by
 have hno:∀v,M v=Zz->v∉l2:=fun v hv hm=>by
  have:=(hM v).2 (.inl hm);rw [hv] at this;cases this
 constructor
 ·intro h
  have key:∀x y,Ed L x y->M x=Zz->LdT L y n->(y=n\/Sc L y n)->Sc L x n:=fun x y he hx hy hs=>by
   have hyn:LdT L n y:=by
    rcases hs with rfl|hs
    ·exact .inl rfl
    ·exact .inr hs.2
   have h1:Hng L [n] x:=sh he.one hy;refine ⟨h1,?_⟩;have hxl:=hall x he.node;rw [hl] at hxl;have hx2:=hno x hx;rcases List.mem_append.1 hxl with q|q
   ·obtain ⟨p,r,hp⟩:=List.append_of_mem q
    rcases hF p x (r++n::l2) (by rw [hl,hp];simp) y he with c|c
    ·rcases hyn.trans c with rfl|c2
     ·exact h1
     ·exact c2
    ·have hn:=c n hy
     rw [hl,hp] at hd;rw [List.append_assoc] at hd;exact absurd rfl ((List.nodup_append.1 hd).2.2 n hn n qns)
   ·rcases List.mem_cons.1 q with rfl|q
    ·exact h1
    ·exact absurd q hx2
  refine lh (P:=fun x=>M x=Zz/\Sc L x n) (fun x r he hr=>?_) (fun x r he _ ih=>?_) h
  ·obtain ⟨h1,h2⟩:=mL.1 he
   obtain rfl:r=n:=(by simpa using hr);exact ⟨h2,key x r h1 h2 (.inl rfl) (.inl rfl)⟩
  ·obtain ⟨h1,h2⟩:=mL.1 he
   exact ⟨h2,key x r h1 h2 (.inr ih.2.1) (.inr ih.2)⟩
 ·rintro ⟨h1,h2,h3⟩
  refine lh (P:=fun v=>Hng L [v] n->M v=Zz->Hng (unm L M) [n] v) (fun v r he hr _ hv=>?_) (fun v r he hr ih hv2 hv=>?_) h2 h3 h1
  ·exact (mL.2 ⟨he,hv⟩).now hr
  ·have hrn:Hng L [r] n:=dB hv2 he.one
   refine (mL.2 ⟨he,hv⟩).more (ih hrn ?_);cases e:M r with
   |false=>rfl
   |true=>
    have hvr:Sc L v r:=⟨he.one,dB hr hv2⟩
    have:M v=Zy:=(hM v).2 (by
     rcases (hM r).1 e with q|⟨m,hm,q⟩
     ·exact .inr ⟨r,q,hvr⟩
     ·exact .inr ⟨m,hm,hvr.trans q⟩)
    rw [hv] at this;cases this
structure Kos (L:List Lk) (l2 C:List Int) (M:Int->Bool):Prop where
 met:Ot L l2 M
 nd:C.Nodup
 mem:∀x,x∈C↔∃m∈l2,Sc L x m
theorem Kos.start (L:List Lk):Kos L [] [] (fun _=>Zz):=⟨fun x=>by simp,List.nodup_nil,fun x=>by simp⟩
theorem Kos.step {l1 l2:List Int} (h:Kos L l2 C M) (hF:wA L l) (hall:∀x,isN L x->x∈l) (hd:l.Nodup) (hl:l=l1++n::l2) (hI:HgI L M [n] found M') (hf:∀x,x∈found↔Hng (unm L M) [n] x):Kos L (n::l2) (C++found) (cT M' n):=by
 have hk:=JY hF hall hd hl h.met;have hfd:∀x,x∈found↔M x=Zz/\Sc L x n:=fun x=>(hf x).trans (hk x)
 have hC:∀x,x∈C->M x=Zy:=fun x hx=>(h.met x).2 (.inr ((h.mem x).1 hx))
 refine ⟨fun x=>?_,List.nodup_append.2 ⟨h.nd,hI.nd,fun a ha b hb e=>?_⟩,fun x=>?_⟩
 ·unfold cT
  by_cases e:x=n
  ·rw [if_pos e]
   exact ⟨fun _=>.inl (by rw [e];exact List.mem_cons_self),fun _=>rfl⟩
  ·rw [if_neg e,hI.mark,Bool.or_eq_true,decide_eq_true_iff,h.met x,hfd x]
   constructor
   ·rintro ((q|⟨m,hm,q⟩)|q)
    ·exact .inl (List.mem_cons_of_mem _ q)
    ·exact .inr ⟨m,List.mem_cons_of_mem _ hm,q⟩
    ·exact .inr ⟨n,List.mem_cons_self,q.2⟩
   ·rintro (q|⟨m,hm,q⟩)
    ·rcases List.mem_cons.1 q with q|q
     ·exact absurd q e
     ·exact .inl (.inl q)
    ·rcases List.mem_cons.1 hm with rfl|hm
     ·cases hx:M x with
      |false=>exact .inr ⟨rfl,q⟩
      |true=>exact .inl ((h.met x).1 hx)
     ·exact .inl (.inr ⟨m,hm,q⟩)
 ·subst e
  have h1:=hC a ha;rw [((hfd a).1 hb).1] at h1;cases h1
 ·rw [List.mem_append,h.mem x,hfd x]
  constructor
  ·rintro (⟨m,hm,q⟩|q)
   ·exact ⟨m,List.mem_cons_of_mem _ hm,q⟩
   ·exact ⟨n,List.mem_cons_self,q.2⟩
  ·rintro ⟨m,hm,q⟩
   rcases List.mem_cons.1 hm with rfl|hm
   ·cases hx:M x with
    |false=>exact .inr ⟨rfl,q⟩
    |true=>
     rcases (h.met x).1 hx with c|c
     ·exact .inl ⟨x,c,q.trans q.symm⟩
     ·exact .inl c
   ·exact .inl ⟨m,hm,q⟩
theorem Kos.all (h:Kos L l C M) (hall:∀x,isN L x->x∈l) (x:Int):x∈C↔bS L x:=by
 rw [h.mem x];constructor
 ·rintro ⟨m,_,q⟩
  exact dB q.1 q.2
 ·intro q
  exact ⟨x,hall x (eW q),q,q⟩
section
open Go.Maps Go.MapKept
theorem lK {P:Program} {o:Oper} {a:Act} {m:Sem Value} (h:m.run P w=.ok v w') (hk:K (a.put o.dst v) w'):Oper.upon P o a K Q ((m.run P w).andThen fun a w'=>Result.ok (Next.value a) w'):=by
 rw [h];exact hk
structure bk (R:Nat) (w w':Z3):Prop where
 os:w'.os=w.os
 tape:w'.tape=w.tape
 output:w'.output=w.output
 size:w.heap.size<=w'.heap.size
 block:∀k,k<w.heap.size->k≠R->w'.heap[k]? =w.heap[k]?
theorem bk.refl (R:Nat) (w:Z3):bk R w w:=⟨rfl,rfl,rfl,qd,fun _ _ _=>rfl⟩
theorem bk.trans {b c:Z3} (h:bk R a b) (k:bk R b c):bk R a c:=
 ⟨k.os.trans h.os,k.tape.trans h.tape,k.output.trans h.output,Nat.le_trans h.size k.size,fun i hi hn=>(k.block i (Nat.lt_of_lt_of_le hi h.size) hn).trans (h.block i hi hn)⟩
theorem bk.of_below (h:Z2 w.heap.size w w'):bk R w w':=⟨h.os,h.tape,h.output,h.size,fun k hk _=>h.block k hk⟩
theorem bk.alloc (h:bk R a w) (o:Obj):bk R a (w.alloc o):=h.trans (bk.of_below (qb.alloc qd o))
theorem bk.drew (h:bk R a w):bk R a w.drew:=⟨h.os,h.tape,h.output,h.size,h.block⟩
theorem bk.setCell (h:bk R a w) (hp:p.block=R\/a.heap.size<=p.block) (u:Value):bk R a (w.setCell p u):=qjy
theorem bk.setR (h:bk R a w) (o:Nat) (u:Value):bk R a (w.setCell ⟨R,o,ZU⟩ u):=h.setCell (.inl rfl) u
theorem bk.setN (h:bk R a w) {g:Nat} (hg:a.heap.size<=g) (o:Nat) (u:Value):bk R a (w.setCell ⟨g,o,ZU⟩ u):=h.setCell (.inr hg) u
theorem bk.drewN (h:bk R a w) (n:Nat):bk R a (w.drewN n):=h.trans (bk.of_below (below_drewN qb n))
theorem bk.cell (h:bk R w w') (hne:p.block≠R) (hv:w.cell? p=ZV v):w'.cell? p=ZV v:=qkt
theorem bk.frozen (h:bk R w w') (hne:p.block≠R) (hl:p.block<w.heap.size) (hv:w.frozen? p=Zz):w'.frozen? p=Zz:=qkU
theorem bk.kept (h:bk R w w'):Kept w w' (fun g=>g≠R):=⟨h.size,fun g hp hl=>h.block g hl hp⟩
theorem bk.below {n:Nat} (h:bk R w w') (hn:n<=R) (hs:n<=w.heap.size):Z2 n w w':=⟨h.os,h.tape,h.output,h.size,fun k hk=>h.block k qoq qoq⟩
theorem bk.grown {row:Option Nat} (h:bk R a w) (hg:w.grownBy w' row) (hr:∀k,row=ZV k->k=R\/a.heap.size<=k):bk R a w':=
 ⟨hg.os.trans h.os,hg.tape.trans h.tape,hg.output.trans h.output,Nat.le_trans h.size hg.size,fun k hk hn=>(hg.block k (Nat.lt_of_lt_of_le hk h.size) (fun e=>by rcases hr k e.symm with h'|h';exact hn h';omega)).trans (h.block k hk hn)⟩
def Ar {α:Type} (T:TypeId) (enc:α->Value) (V:Z3) (B:Nat) (f:Int->α):Prop:=∃c:Array Value,V.heap[B]? =ZV (.cells c T (0,0))/\c.size=1024/\∀j:Nat,j<1024->c[j]? =ZV (enc (f (j:Int)))
def NC {α:Type} (f:Int->α) (x:Int) (a:α):Int->α:=fun y=>if y=x then a else f y
section
variable {α:Type} {T:TypeId} {enc:α->Value} {V V':Z3} {B:Nat} {f g:Int->α}
theorem Ar.world (h:Ar T enc V B f) (hb:V'.heap[B]? =V.heap[B]?):Ar T enc V' B f:=qmt
theorem Ar.lt (h:Ar T enc V B f):B<V.heap.size:=qmo
theorem Ar.below (h:Ar T enc V B f) (hb:Z2 V.heap.size V V'):Ar T enc V' B f:=h.world (hb.block _ h.lt)
theorem Ar.cell (h:Ar T enc V B f) (hj:j<1024):V.cell? ⟨B,j,ZU⟩=ZV (enc (f (j:Int)))/\V.frozen? ⟨B,j,ZU⟩=Zz:=qli
theorem Ar.set (h:Ar T enc V B f) (a:α):Ar T enc (V.setCell ⟨B,j,ZU⟩ (enc a)) B (NC f (j:Int) a):=by
 obtain ⟨c,h1,h2,h3⟩:=h;refine ⟨c.setIfInBounds j (enc a),?_,(by rw [Array.size_setIfInBounds,h2]),fun i hi=>?_⟩
 ·have hlt:=(Array.getElem?_eq_some_iff.1 h1).1
  exact qjk
 ·rw [Array.getElem?_setIfInBounds]
  unfold NC;by_cases e:j=i
  ·subst e
   rw [if_pos rfl,if_pos (by rw [h2];exact hi),if_pos rfl]
  ·rw [if_neg e,if_neg qoq,h3 i hi]
theorem Ar.made {z:α} {zs:Array Value} (hz:zs=Array.replicate 1024 (enc z)) (w:Z3):Ar T enc (w.alloc (.cells zs T)) w.heap.size (fun _=>z):=by
 refine ⟨_,heap_alloc_new w _,(by rw [hz];exact Array.size_replicate ..),fun j hj=>?_⟩;rw [hz,Array.getElem?_replicate,if_pos hj]
theorem Ar.congr (h:Ar T enc V B f) (hg:∀n,f n=g n):Ar T enc V B g:=by rw [show g=f from funext fun n=>(hg n).symm];exact h
end
def MkG (V:Z3) (B:Nat) (M:Int->Bool):Prop:=Ar 153 Value.bool V B M
theorem oj:zeroCells153=Array.replicate 1024 (.bool Zz):=by kernel_rfl
def sl0:Sl:=⟨ZU,0,0⟩
structure fJ (w:Z3) (P:Nat->Prop) (s:Sl) (l:List Int):Prop where
 len:s.len=l.length
 row:bc w P s.addr l
theorem fJ.none (w:Z3) (P:Nat->Prop):fJ w P sl0 []:=⟨rfl,.inl rfl⟩
theorem fJ.below {s:Sl} (h:fJ w P s l) (hb:Z2 w.heap.size w w'):fJ w' P s l:=⟨h.len,h.row.below hb⟩
structure jg (L:List Lk) (R1 R2:Int->List Int):Prop where
 r1:∀n y,y∈R1 n↔Ed L n y
 l1:∀n,(R1 n).length<=1024
 r2:∀y n,n∈R2 y↔Ed L n y
 d2:∀y,(R2 y).Nodup
theorem jg.l2 {R1 R2:Int->List Int} (h:jg L R1 R2) (y:Int):(R2 y).length<=L.length:=kh (h.d2 y) fun n hn=>((h.r2 y n).1 hn).node
structure GrM (w:Z3) (g:Nat) (b1 b2 n1 n2:Nat) (f1 f2:Int->Option Sl) (L:List Lk) (R1 R2:Int->List Int):Prop where
 c0:w.cell? ⟨g,0,ZU⟩=ZV (.map (ZV b1))
 c1:w.cell? ⟨g,1,ZU⟩=ZV (.map (ZV b2))
 lt:g<w.heap.size
 m1:bG slE w b1 n1 f1
 m2:bG slE w b2 n2 f2
 nod:∀n,(f1 n).isSome=Zy↔isN L n
 s1:∀n,fJ w (fun h=>h<w.heap.size) ((f1 n).getD sl0) (R1 n)
 s2:∀n,fJ w (fun h=>h<w.heap.size) ((f2 n).getD sl0) (R2 n)
 ok:jg L R1 R2
theorem bc.lts (h:bc w P A l):bc w (fun h=>h<w.heap.size) A l:=by
 rcases h with h|⟨g,o,rfl,hp,hl,hc⟩
 ·exact .inl h
 ·exact .inr ⟨g,o,rfl,hl,hl,hc⟩
def ir (w:Z3) (g:Nat) (L:List Lk):Prop:=∃b1 b2 n1 n2 f1 f2 R1 R2,GrM w g b1 b2 n1 n2 f1 f2 L R1 R2
section
variable {w w':Z3} {g b1 b2 n1 n2:Nat} {f1 f2:Int->Option Sl} {L:List Lk} {R1 R2:Int->List Int}
theorem GrM.below (h:GrM w g b1 b2 n1 n2 f1 f2 L R1 R2) (hb:Z2 w.heap.size w w'):GrM w' g b1 b2 n1 n2 f1 f2 L R1 R2 where
 c0:=(hb.cell h.lt).trans h.c0
 c1:=(hb.cell h.lt).trans h.c1
 lt:=Nat.lt_of_lt_of_le h.lt hb.size
 m1:=h.m1.below hb
 m2:=h.m2.below hb
 nod:=h.nod
 s1:=fun n=>⟨(h.s1 n).len,((h.s1 n).row.below hb).lts⟩
 s2:=fun n=>⟨(h.s2 n).len,((h.s2 n).row.below hb).lts⟩
 ok:=h.ok
theorem ir.below (h:ir w g L) (hb:Z2 w.heap.size w w'):ir w' g L:=by
 obtain ⟨b1,b2,n1,n2,f1,f2,R1,R2,h⟩:=h;exact ⟨b1,b2,n1,n2,f1,f2,R1,R2,h.below hb⟩
theorem fq:prog.underlying 120=ZV (.map 3 49):=by kernel_rfl
theorem iG (W:Z3):(zeroValue 49).run ZW W=.ok (slE.val sl0) W:=by
 show (zeroValue 49).run ZW W=.ok (Zw ZU 0 0) W
 kernel_rfl
theorem GrM.readers (h:GrM w g b1 b2 n1 n2 f1 f2 L R1 R2) (hb:Z2 w.heap.size w w') (hx:KB x):(w'.cell? ⟨g,1,ZU⟩=ZV (.map (ZV b2))/\(Instr.lookup 120 (.map (ZV b2)) (ZZ ZY x) Zz).run ZW w'=.ok (.slice ((f2 x).getD sl0).addr (R2 x).length ((f2 x).getD sl0).cap) w')/\bc w' (fun h=>h<w.heap.size) ((f2 x).getD sl0).addr (R2 x):=by
 have:=(h.m2.below hb).look fq (iG w') hx;exact ⟨⟨(h.below hb).c1,(by rw [this,<-(h.s2 x).len];rfl)⟩,(h.s2 x).row.below hb⟩
theorem GrM.reads (h:GrM w g b1 b2 n1 n2 f1 f2 L R1 R2) (hb:Z2 w.heap.size w w') (hx:KB x):(w'.cell? ⟨g,0,ZU⟩=ZV (.map (ZV b1))/\(Instr.lookup 120 (.map (ZV b1)) (ZZ ZY x) Zz).run ZW w'=.ok (.slice ((f1 x).getD sl0).addr (R1 x).length ((f1 x).getD sl0).cap) w')/\bc w' (fun h=>h<w.heap.size) ((f1 x).getD sl0).addr (R1 x):=by
 have:=(h.m1.below hb).look fq (iG w') hx;exact ⟨⟨(h.below hb).c0,(by rw [this,<-(h.s1 x).len];rfl)⟩,(h.s1 x).row.below hb⟩
end
end
section
open Go.Maps
theorem zU (hv:v.ownBlock=ZV g) (h:v.ownBlock=ZV k):k=g:=Option.some.inj (h.symm.trans hv)
theorem oo (l:List Int) (A:Option Addr) (ca:Nat) (w:Z3) (P:Nat->Prop) (hA:bc w P A l) (hl:l.length<=100000):
 Calls ZW 150 #[Zw A l.length ca] w fun e w'=>∃O co,e=ZX (Zw O l.length co)/\(l=[]\/∃g,O=ZV ⟨g,0,ZU⟩/\w.heap.size<=g/\g<w'.heap.size/\av 3 1 inW w.heap.size w' (Zw (ZV ⟨g,0,ZU⟩) l.length co) l)/\Z2 w.heap.size w w'/\(O=ZU\/∃g,O=ZV ⟨g,0,ZU⟩):=by
 obtain ⟨i0,hi0,hz0,hz1,hz2⟩:=info_parts gO;by_cases hn:l=[]
 ·subst hn
  cases A with
  |none=>
   have hq:∀(w:Z3) (n c:Nat),(binOp .eql 49 (Zw ZU n c) (Zw ZU 0 0)).run ZW w=.ok (.bool Zy) w:=fun w n c=>Lib.run_eql_slice_nil w _ _ ZU n c 0 0 underlying49
   go_enter func150,ntmps150;go_wp2_with fail;go_ret;refine ⟨ZU,0,rfl,?_,qb,.inl rfl⟩;simp
  |some a=>
   have hq:∀(w:Z3) (n c:Nat),(binOp .eql 49 (Zw (ZV a) n c) (Zw ZU 0 0)).run ZW w=.ok (.bool Zz) w:=fun w n c=>Lib.run_eql_slice_nil w _ _ (ZV a) n c 0 0 underlying49
   go_enter func150,ntmps150;go_wp2_with (at_builtin;refine eh ?_)
   refine ek ?_;refine kU rfl _ _ 49 rfl 3 i0 underlying49 hi0 w.heap.size (ZV a) ca rfl rfl ?_;go_wp2_with fail;go_ret;refine ⟨_,_,rfl,?_,qa,.inr ⟨_,rfl⟩⟩;simp
 ·rcases hA with h|⟨g,o,rfl,_,hg,hc⟩
  ·exact absurd h hn
  ·have hpos:0<l.length:=List.length_pos_iff.2 hn
   have HC:=qgx;have hba:Z2 w.heap.size w (w.alloc (.cells #[] 3)):=qa;have HBa:=qf hba;have hq:∀(w:Z3) (n c:Nat),(binOp .eql 49 (Zw (ZV ⟨g,o,ZU⟩) n c) (Zw ZU 0 0)).run ZW w=.ok (.bool Zz) w:=fun w n c=>Lib.run_eql_slice_nil w _ _ (ZV ⟨g,o,ZU⟩) n c 0 0 underlying49
   clear hc hba;go_enter func150,ntmps150;go_wp2_with (at_builtin;refine eh ?_)
   refine ek ?_;refine cP (f:=inW) (n:=1) (E:=3) (nb:=8) (X:=([]:List Int)) (base:=w.heap.size) rfl _ _ rfl rfl (Ih w w.heap.size qd) (L2:=l) rfl (fun i x hi j u hj=>?_) hpos (N:=l.length) qns (Z:=l) rfl underlying49 hi0 hz0 hz1 hz2 rfl qnv qnv (fun _=>rfl) jx qoq qns ?_
   ·have:=aa HBa.out (HC.out i x hi)
    cases j with
    |zero=>rw [<-Option.some.inj hj,Nat.mul_one];exact this
    |succ j=>simp [inW] at hj
   ·intro g2 k2 w2 ho2 hg2 hat2 hl2
    have hb2:Z2 w.heap.size w w2:=HBa.out.grown hg2 qns (fun k hk=>by have:=zU (g:=w.heap.size) rfl hk;omega);have hle:w.heap.size<=g2:=(by rcases hat2 with e|e;exact Nat.le_of_eq (zU (g:=w.heap.size) rfl e).symm;simp at e;omega);have HF:=qf (⟨hle,hl2,ho2,hb2⟩:w.heap.size<=g2/\g2<w2.heap.size/\_/\Z2 w.heap.size w w2);clear ho2 hg2 hat2 hl2 hb2 hle;go_wp2_with fail;go_ret;exact ⟨_,_,rfl,.inr ⟨g2,rfl,HF.out.1,HF.out.2.1,HF.out.2.2.1⟩,HF.out.2.2.2,.inr ⟨_,rfl⟩⟩
theorem pP (l:List Int) (A:Option Addr) (ca:Nat) (w:Z3) (P:Nat->Prop) (hA:bc w P A l) (hl:l.length<=100000):
 Calls ZW 150 #[Zw A l.length ca] w fun e w'=>∃O co,e=ZX (Zw O l.length co)/\(l=[]\/∃g,O=ZV ⟨g,0,ZU⟩/\w.heap.size<=g/\g<w'.heap.size/\av 3 1 inW w.heap.size w' (Zw (ZV ⟨g,0,ZU⟩) l.length co) l)/\Z2 w.heap.size w w':=
 (oo l A ca w P hA hl).mono fun e w' ⟨O,co,he,h,hb,_⟩=>⟨O,co,he,h,hb⟩
end
section
open Go.Maps Go.Sort
def eD (w:Z3) (P:Nat->Prop) (A:Option Addr) (l:List Int):Prop:=l=[]\/∃g o,A=ZV ⟨g,o,ZU⟩/\P g/\g<w.heap.size/\Go.Sort.Holds (Value.int .i64) w g o l.toArray
theorem av.lowerG {α:Type} {E:TypeId} {n:Nat} {f:α->List Value} {b b':Nat} {L:List α} (h:av E n f b w v L) (hb:b'<=b):av E n f b' w v L:=World.ownsRow.mono h hb
theorem iO (h:Go.Sort.Holds (Value.int .i64) w g o l.toArray) (hi:l[i]? =ZV x):w.cell? ⟨g,o+i,ZU⟩=ZV (ZZ ZY x):=by
 obtain ⟨h1,h2⟩:=List.getElem?_eq_some_iff.1 hi;have:=(h i qqJ).1;rw [this];simp [h1,h2]
theorem C2 {a b:List Int} (h:Go.Sort.Holds (Value.int .i64) w g o (a++b).toArray):Go.Sort.Holds (Value.int .i64) w g (o+a.length) b.toArray:=fun j hj=>by
 have hj:j<b.length:=qpg;have:=h (a.length+j) qnu;rw [<-Nat.add_assoc] at this;refine ⟨this.1.trans ?_,this.2⟩;have h1:a.length+j<(a++b).length:=qnu;simp [hj,h1,List.getElem_append_right]
theorem eD.row (h:eD w P A l):bc w P A l:=by
 rcases h with h|⟨g,o,rfl,hp,hl,hh⟩
 ·exact .inl h
 ·exact .inr ⟨g,o,rfl,hp,hl,fun i x hi=>iO hh hi⟩
theorem eD.mono {Q:Nat->Prop} (h:eD w P A l) (hpq:∀g,P g->g<w.heap.size->Q g):eD w Q A l:=by
 rcases h with h|⟨g,o,rfl,hp,hl,hh⟩
 ·exact .inl h
 ·exact .inr ⟨g,o,rfl,hpq g hp hl,hl,hh⟩
theorem eD.kept (h:eD w P A l) (hk:Kept w w' P):eD w' P A l:=by
 rcases h with h|⟨g,o,rfl,hp,hl,hh⟩
 ·exact .inl h
 ·refine .inr ⟨g,o,rfl,hp,Nat.lt_of_lt_of_le hl hk.size,fun j hj=>?_⟩
  have e:=hk.block g hp hl;exact ⟨(World.cell?_of_block (w:=w) e).trans (hh j hj).1,(World.frozen?_of_block (w:=w) e).trans (hh j hj).2⟩
theorem eD.below (h:eD w P A l) (hb:Z2 w.heap.size w w'):eD w' P A l:=h.kept (Kept.of_below hb)
theorem iC {L:List Int} (h:av 3 1 inW base w v L):∃(A:Option Addr) (cap:Nat),v=Zw A L.length cap/\L.length<=cap/\(L≠[]->∃g,A=ZV ⟨g,0,ZU⟩)/\eD w (fun g=>base<=g) A L:=by
 obtain ⟨A,cap,e,hk,hr⟩:=dt h;refine ⟨A,cap,e,hk,?_⟩;rcases h.2 with ⟨e2,hl⟩|⟨g,cap2,cur,e2,hb,hh,hc,_⟩
 ·exact ⟨fun hne=>absurd (List.length_eq_zero_iff.1 hl) hne,.inl (List.length_eq_zero_iff.1 hl)⟩
 ·have e3:A=ZV ⟨g,0,ZU⟩:=by
   rw [e] at e2;injection e2
  refine ⟨fun _=>⟨g,e3⟩,?_⟩;rcases hr with hr|⟨g2,o2,e4,h1,h2,h3⟩
  ·exact .inl hr
  ·rw [e3] at e4
   cases e4;refine .inr ⟨g,0,e3,h1,h2,fun j hj=>⟨?_,(by simp [World.frozen?,hh])⟩⟩;have hj:j<L.length:=qpg;have:=h3 j L[j] (List.getElem?_eq_getElem hj);rw [this];simp [hj]
theorem iJ {blk n:Nat} {os:Array Obj} (hk:k<w.heap.size) (hne:k≠blk):(grow (putRow (Value.int .i64) (Sort.ahead w n) blk off d) os).heap[k]? =w.heap[k]? :=by
 rw [Sort.heap_grow_old _ os (by show k<(w.heap.modify blk _).size;rw [Array.size_modify];exact hk)];show (w.heap.modify blk _)[k]? =_
 rw [Array.getElem?_modify,if_neg (fun e=>hne e.symm)]
theorem iI {blk n:Nat} {os:Array Obj}:w.heap.size<=(grow (putRow (Value.int .i64) (Sort.ahead w n) blk off d) os).heap.size:=by
 show w.heap.size<=(w.heap.modify blk _++os).size
 rw [Array.size_append,Array.size_modify];omega
theorem gX {blk n:Nat} {os:Array Obj} (hb:base<=blk) (hs:base<=w.heap.size):Z2 base w (grow (putRow (Value.int .i64) (Sort.ahead w n) blk off d) os):=
 ⟨rfl,rfl,rfl,iI,fun k hk=>iJ qoq qoq⟩
theorem mB (w:Z3):grow w #[]=w:=by show { w with heap:=w.heap++#[] }=w;rw [Array.append_empty]
theorem u4 (l:List Int) (A:Option Addr) (c:Nat) (w:Z3) (hl:eD w P A l) (hll:l.length<=1000000) (base:Nat) (hP:∀g,P g->base<=g) (hs:base<=w.heap.size):
 Calls ZW 92 #[Zw A l.length c] w fun e w'=>e=ZX (.tuple #[])/\eD w' P A (l.mergeSort leI)/\Z2 base w w'/\∀k,k<w.heap.size->(∀o,A≠ZV ⟨k,o,ZU⟩)->w'.heap[k]? =w.heap[k]? :=by
 rcases hl with rfl|⟨g,o,rfl,hp,hg,hh⟩
 ·refine (AnyM.slices_Sort_int_none sortA A c w).mono ?_
  rintro e w' ⟨he,rfl⟩;exact ⟨he,.inl qns,qb,fun _ _ _=>rfl⟩
 ·refine (AnyM.slices_Sort_int sortA g o c l w hh hg qoq).mono ?_
  rintro e w' ⟨he,n,os,rfl⟩;refine ⟨he,.inr ⟨g,o,rfl,hp,Nat.lt_of_lt_of_le hg iI,?_⟩,gX (hP g hp) hs,fun k hk hne=>iJ hk fun e=>hne o qrb⟩;refine holds_grow _ _ _ _ _ _ (by show g<(w.heap.modify g _).size;rw [Array.size_modify];exact hg) ?_;exact holds_putRow _ _ _ _ l.toArray _ (holds_ahead _ _ _ _ _ _ hh) qns
theorem Mu {S:List Int} (hd:l.Nodup) (hS:S.Pairwise (·<·)) (h:∀x,x∈l↔x∈S):l.mergeSort leI=S:=by
 have hp:S.Perm l:=(List.perm_ext_iff_of_nodup (hS.imp fun {a b} hab=>by omega) hd).2 fun x=>(h x).symm
 rw [<-mergeSort_of_perm_i hp,mD hS]
end
section
open Go.Maps Go.Sort Go.Shelf
theorem M6 (m:Nat):AnyZI.SortsIn ZW sortedA_ren Fence.wide m:=
 ⟨fun blk off cap ss W hH hblk hsz=>callsIn_wide.2 (AnyM.slices_Sort_int sortA blk off cap ss W hH hblk hsz),
  fun p cap W=>callsIn_wide.2 (AnyM.slices_Sort_int_none sortA p cap W)⟩
theorem Jw {n:Nat} (h:w.ownsRow base 3 1 v n (l.map encZ)) (hn:n=l.length):av 3 1 inW base w v l:=by
 subst hn
 have hm:l.map encZ=l.flatMap inW:=by
  rw [List.map_eq_flatMap];rfl
 rw [hm] at h;exact h
def Ak (w:Z3) (L:List Int) (e:Ending) (w':Z3):Prop:=∃v,e=ZX v/\av 3 1 inW w.heap.size w' v L/\Z2 w.heap.size w w'
theorem BX (g:Nat) (lb:Array Value) (eg:∀args w,(callFunc g args).run ZW w=.ok (.enter g args) w) (S:List Int->Prop) (l:List Int) (hl:l.Pairwise (·<·)) (hS:∀ss,S ss->ss.Perm l) (N:Nat) (hN:N<=65536) (hseq:SeqGives Fence.wide 2 ZW g lb encZ S N w):
 Calls ZW 47 #[.func (.func g) #[] lb] w fun e w'=>Ak w l e w':=by
 have cS:=AnyZI.sorted_in sortedA Fence.wide 5 trivial trivial trivial trivial rfl qoq (M6 _) (enters_of func92 qnx rfl) g lb trivial eg _ _ qnH qoq w hseq;refine (callsIn_wide.1 cS).mono fun e w' ⟨v,ss,he,hs,hrow,_,hb⟩=>?_
 have hp:=hS ss hs
 have e1:(ss.mergeSort fun x y=>decide (x<=y))=l:=by
  show ss.mergeSort leI=l
  rw [mergeSort_of_perm_i hp,mD hl]
 rw [e1] at hrow;exact ⟨v,he,Jw hrow hp.length_eq,hb⟩
theorem DR (mb:Option Nat) (w:Z3):Calls ZW 107 #[.map mb] w fun e w'=>e=ZX (.func (.func 157) #[] #[Zv (ZV ⟨w.heap.size,0,ZU⟩)])/\w'=w.alloc (.cells #[.map mb] 120):=by
 go_enter func107,ntmps107;exact qiM
theorem lD (w:Z3) (g:Nat) (L:List Lk) (hP:ir w g L) (hk:OkK L):
 Calls ZW 60 #[Zv (ZV ⟨g,0,ZU⟩)] w fun e w'=>Ak w (bI L 1024) e w':=by
 obtain ⟨b1,b2,n1,n2,f1,f2,R1,R2,hG⟩:=hP;have c0:=hG.c0;have hba:Z2 w.heap.size w (w.alloc (.cells #[.map (ZV b1)] 120)):=qa;have hblk:=(MapKept.heap_alloc w (.cells #[.map (ZV b1)] 120)).1;have hcell:(w.alloc (.cells #[.map (ZV b1)] 120)).cell? ⟨w.heap.size,0,ZU⟩=ZV (.map (ZV b1)):=(by rw [Lib.cell_of_heap hblk];rfl);obtain ⟨D,hD,hI⟩:=hG.m1.below hba;obtain ⟨hp,hsz⟩:=hI.keys hD (L:=bI L 1024) (ie _ _) fun x=>by rw [dP hk,hG.nod x]
 have hnl:(bI L 1024).length<=1024:=eF _ _
 have HS:=qf (BX 157 #[Zv (ZV ⟨w.heap.size,0,ZU⟩)] (enters_of func157 qnx rfl) (fun ss=>ss.Perm (intKeys D)) (bI L 1024) (fQ _ _) (fun ss hs=>hs.trans hp.symm) (Maps.size D) qoq
  (AnyZI.keys_gives (ρ:=keysA_ren) { keysA with } Fence.wide _ trivial rfl qoq w.heap.size b1 _ D (w.alloc (.cells #[.map (ZV b1)] 120)) qns hcell hD))
 have HBa:=qf hba;clear hG hD hI hp hsz hnl hblk hcell hba hk;go_enter func60,ntmps60;go_wp2_with fail;refine (DR (ZV b1) w).mono ?_;rintro e w2 ⟨rfl,rfl⟩;go_wp2_with fail;refine HS.out.mono ?_;rintro e w2 ⟨v,rfl,ho,hb⟩;have HO:=qf (av.lowerG ho HBa.out.size);have HB:=qf (HBa.out.trans (hb.mono HBa.out.size));clear ho hb HS;go_wp2_with fail;go_ret;exact ⟨v,rfl,HO.out,HB.out⟩
end
section
open Go.Maps Go.Sort
theorem fE {P:Program} (w:Z3) (t ty e:TypeId) (i:TypeInfo) (ht:P.underlying t=ZV (.slice e)) (hi:P.info? e=ZV i) (s A:Option Addr) (N c c2:Nat) (hN:N<=c):
 (Builtin.append_ #[t,t] ty #[Zw s N c,Zw A 0 c2]).run P w=.ok (Zw s N c) w:=by
 cases s<;>cases A<;>simp [Builtin.append_,run_underlying ht,sizeOf,typeInfo,hi,Builtin.lenOf,Builtin.firstCells,loadCells,loadCellsFrom,storeCells,hN]
theorem lL (w:Z3) (r:Option Nat):w.grownBy w r:=⟨rfl,rfl,rfl,qd,fun _ _ _=>rfl⟩
section
variable {i0:TypeInfo} {z:Value} {w:Z3} {ops:Array Oper} {rest:List Oper} {o:Oper} {a:Act} {K:Act->Z3->Prop} {Q:Exit->Act->Z3->Prop} {E0:Prop} {base:Nat} {v:Value} {X L2 Z:List Int} {A2:Option Addr} {c2:Nat} {P:Nat->Prop}
theorem vo {P:Nat->Prop} {o:Nat} (h:∀(i:Nat) (x:Int),l[i]? =ZV x->w.cell? ⟨g,o+i,ZU⟩=ZV (ZZ ZY x)):AtR inW 1 w g o l:=fun i x hi j u hj=>by
 cases j with
 |zero=>
  have:=h i x hi;rw [Nat.mul_one,Nat.add_zero,this];exact hj
 |succ j=>simp [inW] at hj
theorem ic (hg:o.guard=ZU) (s x:Operand) (ho:o.op=.call { callee:=.builtin .append,args:=#[s,x],argTypes:=#[49,49] })
 (hs:a.eval s=v) (hown:av 3 1 inW base w v X) (hx:a.eval x=Zw A2 L2.length c2) (hL:bc w P A2 L2) (hZ:X++L2=Z)
 (hi0:prog.info? 3=ZV i0) (hz0:i0.zero=ZV z) (hz1:i0.size=1) (hz2:i0.bytes=8) (hzc:z.cells.size=1) (hlen:Z.length<=2000000) (hbase:base<=w.heap.size)
 (h:∀v' w',av 3 1 inW base w' v' Z->w.grownBy w' v.ownBlock->(v'.ownBlock=v.ownBlock\/v'.ownBlock=ZV w.heap.size)->K (a.put o.dst v') w'):
 if Region.wanted o (yielded ops a.tmps)=Zy then Oper.wp ZW o a w K Q else E0:=by
 rcases hL with rfl|⟨g2,o2,rfl,_,_,hc⟩
 ·rw [List.append_nil] at hZ
  subst hZ;obtain ⟨A,cap,e,hk,_⟩:=dt hown;have hw:=qeh;rw [if_pos hw];unfold Oper.wp execOp;have hx':a.eval x=Zw A2 0 c2:=hx;simp only [ho,Go.resolve,invoke,builtin,Sem.run_bind,Sem.run_pure,Result.andThen_ok,List.map_toArray,List.map_cons,List.map_nil,hs,hx',e,fE w 49 o.type 3 i0 underlying49 hi0 A A2 X.length cap c2 hk];exact qlY
 ·by_cases hne:L2=[]
  ·subst hne
   rw [List.append_nil] at hZ;subst hZ;obtain ⟨A,cap,e,hk,_⟩:=dt hown;have hw:=qeh;rw [if_pos hw];unfold Oper.wp execOp;have hx':a.eval x=Zw (ZV ⟨g2,o2,ZU⟩) 0 c2:=hx;simp only [ho,Go.resolve,invoke,builtin,Sem.run_bind,Sem.run_pure,Result.andThen_ok,List.map_toArray,List.map_cons,List.map_nil,hs,hx',e,fE w 49 o.type 3 i0 underlying49 hi0 A (ZV ⟨g2,o2,ZU⟩) X.length cap c2 hk];exact qlY
  ·refine pw (f:=inW) (n:=1) (E:=3) (nb:=8) (X:=X) (base:=base) hg s x ho hs hown (L2:=L2) hx (vo (P:=P) hc) (List.length_pos_iff.2 hne) (N:=Z.length) (by rw [<-hZ,List.length_append]) (Z:=Z) hZ underlying49 hi0 hz0 hz1 hz2 hzc qnv qnv (fun _=>rfl) jx hlen hbase fun g cap w' h1 h2 h3 _=>h _ w' h1 h2 ?_
   exact qlK
theorem ji (hg:o.guard=ZU) (s x:Operand) (ho:o.op=.call { callee:=.builtin .append,args:=#[s,x],argTypes:=#[49,49] })
 (hs:a.eval s=v) (hown:av 3 1 inW base w v X) (hx:a.eval x=Zw A2 L2.length c2) (hL:bc w P A2 L2) (hZ:X++L2=Z)
 (hi0:prog.info? 3=ZV i0) (hz0:i0.zero=ZV z) (hz1:i0.size=1) (hz2:i0.bytes=8) (hzc:z.cells.size=1) (hlen:Z.length<=2000000) (hbase:base<=w.heap.size)
 (h:∀v' w',av 3 1 inW base w' v' Z->w.grownBy w' v.ownBlock->(v'.ownBlock=v.ownBlock\/v'.ownBlock=ZV w.heap.size)->wpList ZW ops Q rest (a.put o.dst v') w'):wpList ZW ops Q (o::rest) a w:=by
 have same:∀(A2:Option Addr),a.eval x=Zw A2 0 c2->X=Z->wpList ZW ops Q (o::rest) a w:=fun A2 hx' hZ=>by
  subst hZ;obtain ⟨A,cap,e,hk,_⟩:=dt hown;refine wpList_plain hg fun K' hK'=>?_
  unfold Oper.wp execOp;simp only [ho,Go.resolve,invoke,builtin,Sem.run_bind,Sem.run_pure,Result.andThen_ok,List.map_toArray,List.map_cons,List.map_nil,hs,hx',e,fE w 49 o.type 3 i0 underlying49 hi0 A A2 X.length cap c2 hk];have:=h v w hown (lL _ _) (.inl rfl);rw [e] at this;exact hK' _ _ this
 rcases hL with rfl|⟨g2,o2,rfl,_,_,hc⟩
 ·exact same _ hx (by rw [<-hZ,List.append_nil])
 ·by_cases hne:L2=[]
  ·subst hne
   exact same _ hx (by rw [<-hZ,List.append_nil])
  ·refine cP (f:=inW) (n:=1) (E:=3) (nb:=8) (X:=X) (base:=base) hg s x ho hs hown (L2:=L2) hx (vo (P:=P) hc) (List.length_pos_iff.2 hne) (N:=Z.length) (by rw [<-hZ,List.length_append]) (Z:=Z) hZ underlying49 hi0 hz0 hz1 hz2 hzc qnv qnv (fun _=>rfl) jx hlen hbase fun g cap w' h1 h2 h3 _=>h _ w' h1 h2 ?_
   exact qlK
end
theorem gy (w:Z3) (q:Int):bc (w.alloc (.cells #[ZZ ZY q] 3)) (fun _=>True) (ZV ⟨w.heap.size,0,ZU⟩) [q]:=
 .inr ⟨w.heap.size,0,rfl,trivial,qns,fun i x hi=>by
  have:=kX (f:=inW) (E:=3) (n:=1) w q i x hi 0 _ rfl;rw [show 0+i=0+i*1+0 from by omega];exact this⟩
end
def zt {α:Type} (P:Program) (g:Nat) (lb:Array Value) (xs:List α) (enc:α->Array Value->Prop) (S:Nat->Prop) (w:Z3):Prop:=
 ∀(l:Nat) (C:Nat->Prop) (J:Nat->Z3->Prop) (Jx:Z3->Prop) (W:Z3),Z2 w.heap.size w W->(∀k,C k->¬S k)->
  (∀(m i:Nat) (x:α) (args:Array Value) (A:Z3),xs[i]? =ZV x->enc x args->Sav C W A->J i A->
    YieldAt Fence.wide m P l args A fun e B=>Sav C A B/\(e=ZX (.bool Zy)/\J (i+1) B\/e=ZX (.bool Zz)/\Jx B))->
  J 0 W->Calls P g (#[.func (.yield l) #[] #[]]++lb) W fun e B=>(∃v,e=ZX v)/\Sav C W B/\(J xs.length B\/Jx B)
theorem Es {α:Type} {P:Program} {n:Nat} {g:Operand} {ps:Array Tmp} {assign body:Code} {a:Act}
 {gf:Nat} {lb:Array Value} (hg:a.eval g=.func (.func gf) #[] lb) (eg:∀args w,(callFunc gf args).run P w=.ok (.enter gf args) w)
 {xs:List α} {enc:α->Array Value->Prop} {S:Nat->Prop} {w0:Z3} (hseq:zt P gf lb xs enc S w0) (hb0:Z2 w0.heap.size w0 w) (hps:∀x args,enc x args->args.size=ps.size)
 (C:Nat->Prop) (hC:∀k,C k->(k<w.heap.size\/w.heap.size+2<=k)/\¬S k) (hS:∀k,S k->k<w.heap.size)
 (I:Nat->Z3->Prop) (Ix:Code->Z3->Prop) (hI:∀i A B,Z2 A.heap.size A B->I i A->I i B) (hI2:∀i A l r o,A.heap[l]? =ZV (.loop r)->I i A->I i (A.putObj l o)) (hIx2:∀c A l r o,A.heap[l]? =ZV (.loop r)->Ix c A->Ix c (A.putObj l o)) (h0:I 0 w)
 (Ax:α->Act->Z3->Prop) (hAx:∀x a' W l r o,W.heap[l]? =ZV (.loop r)->Ax x a' W->Ax x a' (W.putObj l o))
 (hassign:∀(l i:Nat) (x:α) (args:Array Value) (W:Z3) (K:Act->Z3->Prop),xs[i]? =ZV x->enc x args->w.heap.size<=W.heap.size->(∀a' W',Z2 W.heap.size W W'->Ax x a' W'->K a' W')->
   assign.wpIn (Fence.wide.inRound l) n P (Exit.then K (fun _ _ _=>False)) { tmps:=(ps.zip args).foldl (fun t (p,v)=>t.setIfInBounds p v) a.tmps,defers:=[] } W)
 (hbody:∀(l i:Nat) (x:α) (a':Act) (W:Z3),xs[i]? =ZV x->Sav C w W->w.heap.size+2<=W.heap.size->I i W->Ax x a' W->body.wpIn (Fence.wide.inRound l) n P (J7 C (I (i+1)) Ix W) a' W)
 (hdone:∀(D:Nat) (W:Z3),w.heap.size<=D->Sav C w W->I xs.length W->W.heap[D]? =ZV (.deferred (ZV []))->Q .normal { a with defers:={ target:=.collected D,args:=#[] }::a.defers } W)
 (hstop:∀(D:Nat) (c:Code) (W:Z3),w.heap.size<=D->Sav C w W->Ix c W->W.heap[D]? =ZV (.deferred (ZV []))->c.wpIn Fence.wide n P Q { a with defers:={ target:=.collected D,args:=#[] }::a.defers } W):
 (Code.rangeFunc g ps assign body).wpIn Fence.wide n P Q a w:=by
 refine wpIn_rangeFunc ?_;intro fn hfn;obtain ⟨L,hL⟩:∃L:LoopState->Option Code->Loop,L=fun st pe=>{ state:=st,pending:=pe,fn,tmps:=a.tmps,params:=ps,assign,body,defers:=w.heap.size }:=⟨_,rfl⟩
 obtain ⟨V,hV⟩:∃V,(w.alloc (.deferred (ZV []))).alloc (.loop (L .ready ZU))=V:=⟨_,rfl⟩
 have hsz:V.heap.size=w.heap.size+2:=qrm;have hl0:V.heap[w.heap.size+1]? =ZV (.loop (L .ready ZU)):=qkL;have hd0:V.heap[w.heap.size]? =ZV (.deferred (ZV [])):=qmc;have hbV:=qfR;have hlen:∀k,C k->k≠w.heap.size+1/\k≠w.heap.size:=fun k hk=>by have:=(hC k hk).1;omega
 refine ⟨w.heap.size+1,[{ target:=.collected w.heap.size,args:=#[] }],V,{ target:=.fn (.func gf) lb,args:=#[.func (.yield (w.heap.size+1)) #[] #[]] },V,gf,#[.func (.yield (w.heap.size+1)) #[] #[]]++lb,V,?_,?_,fun _ _=>trivial,?_,fun h=>by simp [Fence.wide] at h,?_⟩
 ·rw [<-hV,hL];exact run_enterLoop_outer _ _ _ _ _
 ·simp only [Go.resolve,hg]
  simp [go_sem]
 ·simp [Go.invoke,go_sem,eg]
 refine callsIn_wide.2 ((hseq (w.heap.size+1) (fun k=>C k\/k=w.heap.size+1)
  (fun i A=>I i A/\A.heap[w.heap.size+1]? =ZV (.loop (L .ready ZU))/\A.heap[w.heap.size]? =ZV (.deferred (ZV [])))
  (fun A=>∃c,Ix c A/\A.heap[w.heap.size+1]? =ZV (.loop (L .done (ZV c)))/\A.heap[w.heap.size]? =ZV (.deferred (ZV []))) V (hb0.trans (hbV.mono hb0.size)) ?_ ?_ ?_).mono ?_)
 ·rintro k (hk|rfl)
  ·exact (hC k hk).2
  ·exact fun h=>by have:=hS _ h;omega
 ·rintro m i x args A hx he hs ⟨h1,h2,h3⟩
  have hy:=qgY;rw [hL] at hy;have hsw:Sav C w A:=Sav.from (Sav.of_below hbV) hs qoq
  refine ⟨fn,_,assign,body,hy,vW (m:=n) (roundIn_of_wpIn trivial (hassign _ i x args A _ hx he hsw.size fun a' A1 b1 hax=>?_))⟩;obtain ⟨l1,d1,q1⟩:=qcz;refine ⟨_,run_beginRound l1 (by rw [hL]),?_⟩;obtain ⟨A2,hA2⟩:∃A2,A1.putObj (w.heap.size+1) (.loop { L .ready ZU with state:=.busy })=A2:=⟨_,rfl⟩
  obtain ⟨l2,d2,s2,q2⟩:=qbV
  have i2:I i A2:=by
   rw [<-hA2];exact hI2 i A1 _ _ _ l1 (hI i A A1 b1 h1)
  have x2:=qhQ;rw [hA2];refine wpIn_mono (hbody _ i x a' A2 hx (hsw.from s2 qoq) q2 i2 x2) ?_
  have fin:∀(j:Option Code) (B:Z3),Sav C A2 B->∃B',(Instr.endRound (w.heap.size+1) j).run P B=.ok (.bool j.isNone) B'/\B'.heap[w.heap.size+1]? =ZV (.loop (L (if j.isNone then .ready else .done) j))/\
   B'.heap[w.heap.size]? =ZV (.deferred (ZV []))/\Sav (fun k=>C k\/k=w.heap.size+1) A B'/\(∀k,I k B->I k B')/\(∀c,Ix c B->Ix c B'):=fun j B hB=>by
   obtain ⟨l3,d3,q3⟩:=qcF;refine ⟨_,run_endRound j l3,?_,?_,(s2.trans (hB.mono fun _ _ h=>.inl h)).putObj (.inl (.inr rfl)) _,fun k hk=>hI2 k B _ _ _ l3 hk,fun c hc=>hIx2 c B _ _ _ l3 hc⟩
   ·rw [World.putObj_heap_same q3,hL]
   ·rw [cI _ qoq];exact d3
  rintro e a3 B hp;cases e with
  |normal=>
   obtain ⟨hB,hi⟩:=hp;obtain ⟨B',r,l4,d4,s4,b4,b5⟩:=fin ZU B hB;exact ⟨_,B',r,s4,.inl ⟨rfl,b4 _ hi,l4,d4⟩⟩
  |ret=>
   obtain ⟨hB,hi⟩:=hp;obtain ⟨B',r,l4,d4,s4,b4,b5⟩:=fin (ZV .ret) B hB;exact ⟨_,B',r,s4,.inr ⟨rfl,.ret,b5 _ hi,l4,d4⟩⟩
  |exit id=>
   obtain ⟨hB,hi⟩:=hp;obtain ⟨B',r,l4,d4,s4,b4,b5⟩:=fin (ZV (.exit id)) B hB;exact ⟨_,B',r,s4,.inr ⟨rfl,.exit id,b5 _ hi,l4,d4⟩⟩
  |goto t=>
   obtain ⟨hB,hi⟩:=hp;obtain ⟨B',r,l4,d4,s4,b4,b5⟩:=fin (ZV (.goto t)) B hB;exact ⟨_,B',r,s4,.inr ⟨rfl,.goto t,b5 _ hi,l4,d4⟩⟩
  |panic ch=>exact hp.elim
  |outgrown=>exact hp.elim
 ·exact ⟨hI 0 w V hbV h0,hl0,hd0⟩
 ·rintro e B ⟨⟨v,rfl⟩,hs,hJ⟩
  have hsw:Sav C w B:=Sav.from (Sav.of_below hbV) hs qoq
  rcases hJ with ⟨h1,h2,h3⟩|⟨c,h1,h2,h3⟩
  ·exact ⟨ZU,_,qog,hdone _ _ qd (hsw.putObj (.inr qoq) _) (hI2 _ _ _ _ _ h2 h1) qpy⟩
  ·exact ⟨ZV c,_,qog,hstop _ c _ qd (hsw.putObj (.inr qoq) _) (hIx2 c _ _ _ _ h2 h1) qpy⟩
section
open Go.Maps Go.Sort Go.Shelf
attribute [local go_sem] Oper.semAt_some
theorem FH (A:Option Addr) (cap:Nat) (k:Nat) (w:Z3):
 Calls ZW 99 #[Zw A k cap] w fun e w'=>e=ZX (.func (.func 151) #[] #[Zv (ZV ⟨w.heap.size,0,ZU⟩)])/\w'=w.alloc (.cells #[Zw A k cap] 49):=by
 go_enter func99,ntmps99;go_wp2_with fail;go_ret;exact ⟨rfl,rfl⟩
theorem Kl {a b:Int} (h:a=b):Value.int .i64 a=ZZ ZY b:=by rw [h]
def OD (q:Int) (args:Array Value):Prop:=∃i:Int,args=#[ZZ ZY i,ZZ ZY q]
def xn (w:Z3) (A:Option Addr) (l:List Int):Prop:=l≠[]->∃g o,A=ZV ⟨g,o,ZU⟩/\∀(i:Nat) (x:Int),l[i]? =ZV x->w.cell? ⟨g,o+i,ZU⟩=ZV (ZZ ZY x)
theorem xn.below (h:xn w A l) (hb:Z2 w.heap.size w w'):xn w' A l:=fun hne=>by
 obtain ⟨g,o,e,hc⟩:=h hne;exact ⟨g,o,e,fun i x hi=>aa hb (hc i x hi)⟩
theorem vh (hl:l.length<=maxLen) {Bs:Nat} {cap:Nat} (hB:w.cell? ⟨Bs,0,ZU⟩=ZV (Zw A l.length cap)) (hc:xn w A l):
 zt ZW 151 #[Zv (ZV ⟨Bs,0,ZU⟩)] l.reverse OD (fun k=>k=Bs\/l≠[]/\∃o,A=ZV ⟨k,o,ZU⟩) w:=by
 intro L C J Jx W hb hC hY h0;show Calls ZW 151 #[.func (.yield L) #[] #[],Zv (ZV ⟨Bs,0,ZU⟩)] W _
 have hBW:W.cell? ⟨Bs,0,ZU⟩=ZV (Zw A l.length cap):=aa hb hB;have HC:=qf (hc.below hb);have hnB:¬C Bs:=fun h=>hC Bs h (.inl rfl)
 unfold maxLen at hl;clear hB hc;refine (callsIn_wide (n:=9)).1 (callsIn_of_wp func151 rfl trivial ?_ rfl);simp only [ntmps151,List.size_toArray,List.length_cons,List.length_nil,Nat.reduceAdd,Nat.reduceSub,Array.replicate_succ,Array.replicate_zero,List.push_toArray,List.append_toArray,List.nil_append,List.cons_append];gi_wp2
 gi_loopw [3] (fun n wr=>∃k:Nat,k<=l.length/\n=ZZ ZY ((l.length:Int) - 1 - (k:Int))/\Sav C W wr/\J k wr) (fun n _=>(RowKit.intOf n+1).toNat)
 case atStart=>exact ⟨0,qe,Kl qoq,Sav.refl _ _,h0⟩
 case round=>
  obtain ⟨k,hk,rfl,hs,hj⟩:=hrel;have hbs:wr.cell? ⟨Bs,0,ZU⟩=ZV (Zw A l.length cap):=hs.cell hnB hBW;by_cases hlt:k<l.length
  ·obtain ⟨m,hm⟩:∃m:Nat,l.length=m+1+k:=⟨l.length - 1 - k,qoq⟩
   obtain ⟨q,hq⟩:∃q,l[m]? =ZV q:=⟨_,List.getElem?_eq_getElem qoq⟩
   have hx:l.reverse[k]? =ZV q:=(by rw [List.getElem?_reverse hlt,show l.length - 1 - k=m from by omega];exact hq);have hne:l≠[]:=qqy;obtain ⟨g,o,rfl,hat⟩:=HC.out hne;have hng:¬C g:=fun h=>hC g h (.inr ⟨hne,o,rfl⟩)
   have c0:wr.cell? ⟨g,o+m,ZU⟩=ZV (ZZ ZY q):=hs.cell hng (hat m q hq);have em:(l.length:Int) - 1 - (k:Int)=(m:Int):=qoq;rw [em];obtain ⟨fn,tmps,assign,bd,hy,hR⟩:=hY 8 k q _ wr hx ⟨(m:Int),rfl⟩ hs hj;have HN:Hid ((m:Int) - 1=(l.length:Int) - 1 - ((k+1:Nat):Int)):=qf qoq;have ml:m<l.length:=qoq;clear hat hq hx em hm;gi_wp2
   refine RoundIn.mono hR ?_;rintro e V2 ⟨hs2,⟨rfl,hj2⟩|⟨rfl,hx2⟩⟩
   ·have hs3:=hs.trans hs2
    clear hy hR c0;gi_wp2
    go_roundw
    case rel=>exact ⟨k+1,qoq,Kl (by first|exact HN.out|omega),hs3,hj2⟩
    case measure=>simp [RowKit.intOf]
   ·have hs3:=hs.trans hs2
    gi_wp2
    refine bodyPost_ret (results_none rfl _ _ _) rfl ?_;exact ⟨⟨_,rfl⟩,hs3,.inr hx2⟩
  ·have hk2:k=l.length:=by omega
   subst hk2;rw [show (l.length:Int) - 1 - (l.length:Int)= -1 from by omega];gi_wp2
   go_end0
   exact ⟨⟨_,rfl⟩,hs,.inl (by rw [List.length_reverse];exact hj)⟩
theorem sT {i0:TypeInfo} {z:Value} {X L2:List Int} {A2:Option Addr} {c2:Nat} (ty:TypeId) (hown:av 3 1 inW base w v X) (hL:bc w P A2 L2)
 (hi0:prog.info? 3=ZV i0) (hz0:i0.zero=ZV z) (hz1:i0.size=1) (hz2:i0.bytes=8) (hzc:z.cells.size=1) (hlen:X.length+L2.length<=2000000) (hbase:base<=w.heap.size):
 ∃v' w',(Builtin.append_ #[49,49] ty #[v,Zw A2 L2.length c2]).run ZW w=.ok v' w'/\av 3 1 inW base w' v' (X++L2)/\w.grownBy w' v.ownBlock/\(v'.ownBlock=v.ownBlock\/v'.ownBlock=ZV w.heap.size):=by
 by_cases hne:L2=[]
 ·subst hne
  obtain ⟨A,cap,e,hk,_⟩:=dt hown;refine ⟨v,w,?_,(by rw [List.append_nil];exact hown),lL _ _,.inl rfl⟩;rw [e];exact fE w 49 ty 3 i0 underlying49 hi0 A A2 X.length cap c2 hk
 ·rcases hL with h|⟨g2,o2,rfl,_,_,hc⟩
  ·exact absurd h hne
  ·have hfl:(L2.flatMap inW).length=L2.length*1:=et (f:=inW) (n:=1) (fun _=>rfl) L2
   obtain ⟨g,cap,w',hr,h1,h2,h3,_⟩:=run_append_lies (P:=ZW) (w:=w) 49 ty base 3 i0 z 1 8 underlying49 hi0 hz0 hz1 hz2 hzc qnv v X.length (X.flatMap inW) hown ⟨g2,o2,ZU⟩ L2.length c2 (L2.flatMap inW) hfl (fun j u hj=>by
    obtain ⟨i,q,k,hi,hk,e⟩:=oC (f:=inW) (n:=1) (fun _=>rfl) qnv hj;have:=vo (P:=P) hc i q hi k u hk;rw [Go.WideShapes.add_plain,e,<-Nat.add_assoc];exact this) (fun u hu=>by
    obtain ⟨q,_,hq⟩:=List.mem_flatMap.1 hu;exact jx q u hq) (List.length_pos_iff.2 hne) qnH qoq hbase _ rfl
   refine ⟨_,w',hr,?_,h2,?_⟩
   ·unfold av
    rw [List.length_append,List.flatMap_append];exact h1
   ·rcases h3 with h3|h3
    ·exact .inl h3.symm
    ·exact .inr qqj
theorem mw {l n:Nat} {ops:Array Oper} {o:Oper} {a:Act} {E0:Prop} (hg:o.guard=ZU) (s x:Operand) (t:TypeId) (ho:o.op=.call { callee:=.builtin .append,args:=#[s,x],argTypes:=#[t,t] }) {u r:Value}
 (hs:a.eval s=v) (hx:a.eval x=u) (hrun:(Builtin.append_ #[t,t] o.type #[v,u]).run ZW w=.ok r w') (h:K (a.put o.dst r) w'):
 if Region.wanted o (yielded ops a.tmps)=Zy then Oper.wpIn (Fence.wide.inRound l) n ZW o a w K Q else E0:=by
 have hw:=qeh;rw [if_pos hw];refine ⟨fun f _=>trivial,?_⟩;rw [Fence.inRound_round,Oper.semAt_some _ _ _ (fun c=>by rw [ho];intro e;cases e)];unfold execOp;simp only [ho,Go.resolve,invoke,builtin,Sem.run_bind,Sem.run_pure,Result.andThen_ok,List.map_toArray,List.map_cons,List.map_nil,hs,hx,hrun];exact h
end
section
def bn (n:Int):Int:= -n - 1
def num (e:Int):Int:=if e<0 then -e - 1 else e
theorem lW (n:Int):bn (bn n)=n:=by unfold bn;omega
theorem ER (h:0<=n):num (bn n)=n:=by unfold num bn;rw [if_pos qoq];omega
theorem ip (h:0<=n):num n=n:=by unfold num;rw [if_neg qoq]
def gry (left:List Int):List Int:=(left.filter fun e=>decide (e<0)).map bn
theorem nN (a b:List Int):gry (a++b)=gry a++gry b:=by unfold gry;rw [List.filter_append,List.map_append]
theorem pm {a:List Int} (h:∀x∈a,0<=x):gry a=[]:=by
 unfold gry;rw [List.map_eq_nil_iff,List.filter_eq_nil_iff];intro x hx;have:=h x hx;simp;omega
theorem yS (h:n<0):gry [n]=[bn n]:=by unfold gry;simp [h]
def wtN (R1:Int->List Int) (M:Int->Bool):Nat->Nat
 |0=>0
 |k+1=>wtN R1 M k+if M (k:Int)=Zy then 0 else 1+(R1 (k:Int)).length
theorem vJ {R1:Int->List Int} {M:Int->Bool} {j:Nat}:∀{k:Nat},k<=j->wtN R1 (cT M (j:Int)) k=wtN R1 M k
 |0,_=>rfl
 |k+1,h=>by
  rw [wtN,wtN,vJ (by omega:k<=j)];unfold cT;rw [if_neg (by omega:¬(k:Int)=(j:Int))]
theorem zJ {R1:Int->List Int} {M:Int->Bool} {j:Nat} (hM:M (j:Int)=Zz):∀{k:Nat},j<k->wtN R1 (cT M (j:Int)) k+(1+(R1 (j:Int)).length)=wtN R1 M k
 |0,h=>by omega
 |k+1,h=>by
  rw [wtN,wtN];by_cases e:j=k
  ·subst e
   rw [vJ qd,hM];unfold cT;simp
  ·have:=zJ (R1:=R1) hM (by omega:j<k)
   have h2:cT M (j:Int) (k:Int)=M (k:Int):=(by unfold cT;rw [if_neg qoq]);rw [h2];omega
theorem DT {R1:Int->List Int} {M:Int->Bool} (h:∀n,(R1 n).length<=1024):∀k:Nat,wtN R1 M k<=1025*k
 |0=>qd
 |k+1=>by
  have h1:=DT (M:=M) h k;have h2:=h (k:Int);rw [wtN];split<;>omega
structure Dfs (L:List Lk) (left:List Int) (M:Int->Bool) (l:List Int):Prop where
 rng:∀e∈left,okN (num e)
 lr:∀e∈l,okN e
 nd:(l++gry left).Nodup
 met:∀x,M x=Zy↔x∈l\/x∈gry left
 blk:∀b∈l,∀y,Ed L b y->M y=Zy
 lead:∀A g B,left=A++bn g::B->0<=g->∀e∈B,Hng L [num e] g
 gray:∀A g B,left=A++bn g::B->0<=g->∀y,Ed L g y->M y=Zy\/y∈B
 fin:wA L l
 all:∀n,isN L n->M n=Zy\/n∈left
theorem wg (hk:OkK L) (h:Ed L n y):okN n/\okN y:=qmh
theorem xb (hk:OkK L) (h:isN L n):okN n:=by
 obtain ⟨x,hx,rfl⟩:=h;exact (hk x hx).1
theorem Dfs.start (hk:OkK L):Dfs L (bI L 1024) (fun _=>Zz) []:=by
 have h0:∀x∈bI L 1024,0<=x:=fun x hx=>(im.1 hx).1
 have hg:gry (bI L 1024)=[]:=pm h0
 have hno:∀A g B,bI L 1024=A++bn g::B->0<=g->False:=fun A g B e hge=>by
  have:=h0 (bn g) qpx;unfold bn at this;omega
 refine ⟨fun e he=>?_,fun e he=>(by cases he),?_,fun x=>?_,fun b hb=>(by cases hb),fun A g B e hge=>(hno A g B e hge).elim,fun A g B e hge=>(hno A g B e hge).elim,fun p x q e=>?_,fun n hn=>.inr ((dP hk).2 hn)⟩
 ·rw [ip (h0 e he)]
  exact xb hk ((dP hk).1 he)
 ·rw [hg];exact List.nodup_nil
 ·rw [hg];simp
 ·simp at e
section
variable {L:List Lk} {left l:List Int} {M:Int->Bool} {n:Int}
theorem Dfs.close (hk:OkK L) (h:Dfs L (left++[n]) M l) (hn:n<0):Dfs L left M (l++[bn n]):=by
 have hg:gry (left++[n])=gry left++[bn n]:=(by rw [nN,yS hn]);have hnd:=h.nd;rw [hg] at hnd;have hx0:0<=bn n:=qqo
 have hme:∀y,M y=Zy↔y∈l\/y∈gry left\/y=bn n:=fun y=>by
  rw [h.met y,hg,List.mem_append,List.mem_singleton]
 have hred:∀y,Ed L (bn n) y->M y=Zy:=fun y hy=>by
  rcases h.gray left (bn n) [] (by rw [lW]) hx0 y hy with c|c
  ·exact c
  ·cases c
 have hlt:∀y,y∈gry left->Hng L [bn n] y:=fun y hy=>by
  unfold gry at hy;obtain ⟨e,he,rfl⟩:=List.mem_map.1 hy;obtain ⟨he1,he2⟩:=List.mem_filter.1 he;have he2:e<0:=(by simpa using he2);obtain ⟨A,B,hAB⟩:=List.append_of_mem he1;have:=h.lead A (bn e) (B++[n]) (by rw [lW,hAB];simp) qqo n qns;unfold num at this;rw [if_pos hn] at this;exact this
 refine ⟨fun e he=>h.rng e (List.mem_append.2 (.inl he)),fun e he=>?_,?_,fun y=>?_,fun b hb y hy=>?_,fun A g B e hge=>?_,fun A g B e hge=>?_,fun p x q e y hy=>?_,fun m hm=>?_⟩
 ·rcases List.mem_append.1 he with c|c
  ·exact h.lr e c
  ·obtain rfl:e=bn n:=by simpa using c
   have:=h.rng n qns;unfold num at this;rw [if_pos hn] at this;exact this
 ·refine (List.Perm.nodup_iff ?_).1 hnd
  rw [List.append_assoc];exact List.Perm.append_left l List.perm_append_comm
 ·rw [hme y,List.mem_append,List.mem_singleton]
  constructor
  ·rintro (c|c|c)
   ·exact .inl (.inl c)
   ·exact .inr c
   ·exact .inl (.inr c)
  ·rintro ((c|c)|c)
   ·exact .inl c
   ·exact .inr (.inr c)
   ·exact .inr (.inl c)
 ·rcases List.mem_append.1 hb with c|c
  ·exact h.blk b c y hy
  ·obtain rfl:b=bn n:=by simpa using c
   exact hred y hy
 ·intro z hz
  exact h.lead A g (B++[n]) qpx hge z (by simp [hz])
 ·intro y hy
  rcases h.gray A g (B++[n]) qpx hge y hy with c|c
  ·exact .inl c
  ·rcases List.mem_append.1 c with c|c
   ·exact .inr c
   ·obtain rfl:y=n:=by simpa using c
    have:=(wg hk hy).2;unfold okN at this;omega
 ·rcases List.append_eq_append_iff.1 e with ⟨a',e1,e2⟩|⟨c',e1,e2⟩
  · -- the last one,or ZU
   cases a' with
   |nil=>
    rw [List.nil_append] at e2;injection e2 with e3 e4
    subst e3;rw [List.append_nil] at e1;subst e1;rcases (hme y).1 (hred y hy) with c|c|c
    ·by_cases hyx:LdT L y (bn n)
     ·exact .inl hyx
     ·refine .inr fun z hz=>?_
      rcases hz with rfl|hz
      ·exact c
      ·refine lh (P:=fun v=>v∈p->¬LdT L v (bn n)->z∈p) (fun v r he hr hv hvx=>?_) (fun v r he hr ih hv hvx=>?_) hz c hyx
       ·obtain rfl:r=z:=by simpa using hr
        exact qjW
       ·have hrx:¬LdT L r (bn n):=fun q=>hvx (.inr (sh he.one q))
        exact qjX
    ·exact .inl (.inr (hlt y c))
    ·exact .inl (.inl c)
   |cons a t=>
    have:=congrArg List.length e2;simp at this
  ·cases c' with
   |nil=>
    rw [List.nil_append] at e2;injection e2 with e3 e4
    subst e3;rw [List.append_nil] at e1;subst e1;rcases (hme y).1 (hred y hy) with c|c|c
    ·by_cases hyx:LdT L y (bn n)
     ·exact .inl hyx
     ·refine .inr fun z hz=>?_
      rcases hz with rfl|hz
      ·exact c
      ·refine lh (P:=fun v=>v∈l->¬LdT L v (bn n)->z∈l) (fun v r he hr hv hvx=>?_) (fun v r he hr ih hv hvx=>?_) hz c hyx
       ·obtain rfl:r=z:=by simpa using hr
        exact qjW
       ·have hrx:¬LdT L r (bn n):=fun q=>hvx (.inr (sh he.one q))
        exact qjX
    ·exact .inl (.inr (hlt y c))
    ·exact .inl (.inl c)
   |cons a t=>
    rw [List.cons_append] at e2;injection e2 with e3 e4
    subst e3;exact h.fin p x t e1 y hy
 ·rcases h.all m hm with c|c
  ·exact .inl c
  ·rcases List.mem_append.1 c with c|c
   ·exact .inr c
   ·obtain rfl:m=n:=by simpa using c
    have:=xb hk hm;unfold okN at this;omega
theorem Dfs.drop (h:Dfs L (left++[n]) M l) (hn:0<=n) (hm:M n=Zy):Dfs L left M l:=by
 have hg:=qfu;refine ⟨fun e he=>h.rng e (List.mem_append.2 (.inl he)),h.lr,hg▸h.nd,fun x=>by rw [<-hg];exact h.met x,h.blk,fun A g B e hge z hz=>h.lead A g (B++[n]) qpx hge z (by simp [hz]),fun A g B e hge y hy=>?_,h.fin,fun m hmn=>?_⟩
 ·rcases h.gray A g (B++[n]) qpx hge y hy with c|c
  ·exact .inl c
  ·rcases List.mem_append.1 c with c|c
   ·exact .inr c
   ·obtain rfl:y=n:=by simpa using c
    exact .inl hm
 ·rcases h.all m hmn with c|c
  ·exact .inl c
  ·rcases List.mem_append.1 c with c|c
   ·exact .inr c
   ·obtain rfl:m=n:=by simpa using c
    exact .inl hm
theorem Dfs.meet (hk:OkK L) (h:Dfs L (left++[n]) M l) (hn:0<=n) (hm:M n=Zz) {R:List Int} (hR:∀y,y∈R↔Ed L n y):Dfs L (left++bn n::R) (cT M n) l:=by
 have hg:=qfu;have hR0:∀y∈R,0<=y:=fun y hy=>((wg hk ((hR y).1 hy)).2).1
 have hb0:bn n<0:=qqo
 have hg2:gry (left++bn n::R)=gry left++[n]:=by
  rw [show left++bn n::R=left++([bn n]++R) from rfl,nN,nN,yS hb0,pm hR0,lW,List.append_nil]
 have hno:n∉l/\n∉gry left:=by
  constructor
  ·intro c
   have:=(h.met n).2 (.inl c);rw [hm] at this;cases this
  ·intro c
   have:=(h.met n).2 (.inr (by rw [hg];exact c));rw [hm] at this;cases this
 have hup:∀y,M y=Zy->cT M n y=Zy:=fun y hy=>by
  unfold cT;split
  ·rfl
  ·exact hy
 have hnn:cT M n n=Zy:=(by unfold cT;rw [if_pos rfl])
 have split:∀A g B,left++bn n::R=A++bn g::B->0<=g->(∃B1,left=A++bn g::B1/\B=B1++bn n::R)\/(g=n/\B=R):=fun A g B e hge=>by
  have hbg:bn g<0:=qqo;rcases List.append_eq_append_iff.1 e with ⟨a',e1,e2⟩|⟨c',e1,e2⟩
  ·cases a' with
   |nil=>
    rw [List.nil_append] at e2;injection e2 with e3 e4
    refine .inr ⟨?_,e4.symm⟩;have:=congrArg bn e3;rw [lW,lW] at this;exact this.symm
   |cons a t=>
    rw [List.cons_append] at e2;injection e2 with e3 e4
    have:=hR0 (bn g) (by rw [e4];simp);omega
  ·cases c' with
   |nil=>
    rw [List.nil_append] at e2;injection e2 with e3 e4
    refine .inr ⟨?_,e4⟩;have:=congrArg bn e3;rw [lW,lW] at this;exact this
   |cons a t=>
    rw [List.cons_append] at e2;injection e2 with e3 e4
    subst e3;exact .inl ⟨t,e1,e4⟩
 refine ⟨fun e he=>?_,h.lr,?_,fun x=>?_,fun b hb y hy=>hup y (h.blk b hb y hy),fun A g B e hge z hz=>?_,fun A g B e hge y hy=>?_,h.fin,fun m hmn=>?_⟩
 ·rcases List.mem_append.1 he with c|c
  ·exact h.rng e (List.mem_append.2 (.inl c))
  ·rcases List.mem_cons.1 c with rfl|c
   ·rw [ER hn]
    have:=h.rng n qns;rwa [ip hn] at this
   ·rw [ip (hR0 e c)]
    exact (wg hk ((hR e).1 c)).2
 ·rw [hg2,<-List.append_assoc]
  have:=h.nd;rw [hg] at this;refine List.nodup_append.2 ⟨this,qns,fun a ha b hb e=>?_⟩;obtain rfl:b=n:=qqH;subst e;rcases List.mem_append.1 ha with c|c
  ·exact hno.1 c
  ·exact hno.2 c
 ·rw [hg2,List.mem_append,List.mem_singleton]
  unfold cT;by_cases e:x=n
  ·rw [if_pos e]
   exact ⟨fun _=>.inr (.inr e),fun _=>rfl⟩
  ·rw [if_neg e,h.met x,hg]
   constructor
   ·rintro (c|c)
    ·exact .inl c
    ·exact .inr (.inl c)
   ·rintro (c|c|c)
    ·exact .inl c
    ·exact .inr c
    ·exact absurd c e
 ·rcases split A g B e hge with ⟨B1,e1,rfl⟩|⟨rfl,rfl⟩
  ·have hgn:Hng L [n] g:=by
    have:=h.lead A g (B1++[n]) (by rw [e1];simp) hge n qns;rwa [ip hn] at this
   rcases List.mem_append.1 hz with c|c
   ·exact h.lead A g (B1++[n]) (by rw [e1];simp) hge z (by simp [c])
   ·rcases List.mem_cons.1 c with rfl|c
    ·rw [ER hn];exact hgn
    ·rw [ip (hR0 z c)]
     exact dB hgn ((hR z).1 c).one
  ·rw [ip (hR0 z hz)]
   exact ((hR z).1 hz).one
 ·rcases split A g B e hge with ⟨B1,e1,rfl⟩|⟨rfl,rfl⟩
  ·rcases h.gray A g (B1++[n]) (by rw [e1];simp) hge y hy with c|c
   ·exact .inl (hup y c)
   ·rcases List.mem_append.1 c with c|c
    ·exact .inr (List.mem_append.2 (.inl c))
    ·obtain rfl:y=n:=by simpa using c
     exact .inl hnn
  ·exact .inr ((hR y).2 hy)
 ·rcases h.all m hmn with c|c
  ·exact .inl (hup m c)
  ·rcases List.mem_append.1 c with c|c
   ·exact .inr (List.mem_append.2 (.inl c))
   ·obtain rfl:m=n:=by simpa using c
    exact .inl hnn
theorem Dfs.len (h:Dfs L left M l):l.length<=1024:=by
 have:=kh (L:=(jf (fun _=>True) 1024).map fun n=>⟨n,[]⟩) (List.nodup_append.1 h.nd).1 fun n hn=>by
  have:=h.lr n hn;unfold okN at this;exact ⟨⟨n,[]⟩,List.mem_map.2 ⟨n,im.2 ⟨this.1,qoq,trivial⟩,rfl⟩,rfl⟩
 rw [List.length_map] at this;exact Nat.le_trans this (eF _ _)
theorem Dfs.done (h:Dfs L [] M l):wA L l/\l.Nodup/\(∀n,isN L n->n∈l):=by
 have hnd:=h.nd;have hg:gry []=[]:=rfl;rw [hg,List.append_nil] at hnd;refine ⟨h.fin,hnd,fun n hn=>?_⟩;rcases h.all n hn with c|c
 ·rcases (h.met n).1 c with c|c
  ·exact c
  ·rw [hg] at c;cases c
 ·cases c
end
end
structure HgS (L:List Lk) (M:Int->Bool) (on:List Int) (i:Nat) (found:List Int) (M':Int->Bool):Prop where
 ii:HgI L M on found M'
 le:i<=on.length+found.length
 done:∀j y,j<i->(on++found)[j]? =ZV y->∀r,Ed L r y->M' r=Zy
structure HgT (L:List Lk) (M:Int->Bool) (on:List Int) (i k:Nat) (y:Int) (R:List Int) (fd:List Int) (M2:Int->Bool):Prop where
 ii:HgI L M on fd M2
 aty:(on++fd)[i]? =ZV y
 done:∀j z,j<i->(on++fd)[j]? =ZV z->∀r,Ed L r z->M2 r=Zy
 here:∀r∈R.take k,M2 r=Zy
theorem HgS.start (L:List Lk) (M:Int->Bool) (on:List Int):HgS L M on 0 [] M:=⟨HgI.start L M on,qe,fun j y h=>absurd h (Nat.not_lt_zero _)⟩
theorem HgS.enter (h:HgS L M on i found M') (hy:(on++found)[i]? =ZV y) (R:List Int):HgT L M on i 0 y R found M':=⟨h.ii,hy,h.done,fun r hr=>by simp at hr⟩
theorem rG {p:Int->Prop} {q:Int} (hq:l[i]? =ZV q) (h:∀x∈l.take i,p x) (hp:p q):∀x∈l.take (i+1),p x:=fun x hx=>by
 exact qkO
theorem HgT.skip {R:List Int} (h:HgT L M on i k y R fd M2) (hr:R[k]? =ZV r) (hm:M2 r=Zy):HgT L M on i (k+1) y R fd M2:=
 ⟨h.ii,h.aty,h.done,rG (p:=fun r=>M2 r=Zy) hr h.here hm⟩
theorem HgT.add {R:List Int} (h:HgT L M on i k y R fd M2) (hr:R[k]? =ZV r) (hm:M2 r=Zz) (he:Ed L r y):HgT L M on i (k+1) y R (fd++[r]) (cT M2 r):=by
 have hup:∀n,M2 n=Zy->cT M2 r n=Zy:=fun n hn=>by
  unfold cT;split
  ·rfl
  ·exact hn
 have hlt:=qhO;refine ⟨h.ii.step he (List.mem_of_getElem? h.aty) hm,?_,fun j z hj hz q hq=>hup _ (h.done j z hj ?_ q hq),rG (p:=fun n=>cT M2 r n=Zy) hr (fun x hx=>hup x (h.here x hx)) ?_⟩
 ·rw [<-List.append_assoc,List.getElem?_append_left hlt];exact h.aty
 ·rw [<-List.append_assoc,List.getElem?_append_left qoq] at hz;exact hz
 ·unfold cT;rw [if_pos rfl]
theorem HgT.leave {R:List Int} (h:HgT L M on i R.length y R fd M2) (hR:∀r,Ed L r y->r∈R):HgS L M on (i+1) fd M2:=by
 have hlt:=qhO;rw [List.length_append] at hlt;refine ⟨h.ii,qoq,fun j z hj hz r hr=>?_⟩;by_cases e:j=i
 ·subst e
  rw [h.aty] at hz;cases hz;exact h.here r (by rw [List.take_length];exact hR r hr)
 ·exact h.done j z qoq hz r hr
theorem HgS.all (h:HgS L M on i found M') (hi:i=on.length+found.length) (n:Int):n∈found↔Hng (unm L M) on n:=by
 refine h.ii.done (fun y hy r hr=>?_) n;obtain ⟨j,hj⟩:=List.mem_iff_getElem?.1 hy;have hl:=(List.getElem?_eq_some_iff.1 hj).1;rw [List.length_append] at hl;exact h.done j y qoq hj r hr
