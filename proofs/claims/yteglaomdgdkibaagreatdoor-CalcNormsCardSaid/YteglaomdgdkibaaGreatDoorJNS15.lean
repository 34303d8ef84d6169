import Derived.Test.YteglaomdgdkibaaGreatDoorJNS04
import Derived.OpenShut
import Derived.Deep.Slices
import Derived.Deep.SlicePairs
import Derived.ChangeSame
import Derived.Deep.AppendLies
import Derived.Maps.AppendAt
import Derived.Maps.OwnSet
import Derived.Maps.Range
import Derived.Deep.DeepHandedRow
import Derived.Lib.SlKeysI
import Derived.Test.YteglaomdgdkibaaGreatDoorJSB
import Derived.Lib.Builder
import Derived.Lib.FrozenHead
import Derived.Lib.OthersKept
import Derived.Shelf.Abstract
import Derived.Shelf.Strings.BuilderK
import Derived.Deep.QuietTactic
import Derived.BigQuiet
import Derived.Laws.Pointers
import Derived.StillTactics
import Derived.Lib.SliceRun
import Derived.Deep.RegionHeld3
import Derived.Laws.Rows
import Derived.ScopeJumps
import Derived.WalkMore
import Derived.Test.YteglaomdgdkibaaGreatDoorJQNSP
import Derived.Test.YteglaomdgdkibaaGreatDoorJQNSW
set_option linter.all false
set_option maxHeartbeats 0
set_option maxRecDepth 99999
namespace Go.Proofs.YteglaomdgdkibaaGreatDoor
open Go.RowKit
open Value renaming int→ZZ,string→Zx,slice→Zw,pointer→Zv,agg→Zu
open IntKind renaming i64→ZY
open Ending renaming returned→ZX
open RowKit renaming Below→Z2
open Go renaming World→Z3
open Tryz
open Tryz renaming prog→ZW
open Option renaming some→ZV,none→ZU
open Bool renaming false→Zz,true→Zy
variable {key u v z:Value}{p:Addr}{F N base g g2 i j nb o2:Nat}{V w w':World}{ops:Array Oper}{rest:List Oper}{o:Oper}{a:Act}{Q:Exit->Act->World->Prop}{K:Act->World->Prop}{P:Program}{m y:Int}{D:DataW Unit}{found l told:List Int}{G:Int->Int->Int×Int}{row:Option Nat}{f:Nat->Bool}{ps:List MemPlace}
section
open Go.ChangeShapes Go.WideShapes Go.Deep
section
variable {H:Type} {enc:TypeId×Value->H} {w:Z3} {base:Nat} {spare:Nat->Bool} {held:Bool}
def AtR {α:Type} (f:α->List Value) (k:Nat) (w:Z3) (g o:Nat) (l:List α):Prop:=∀(i:Nat) (q:α),l[i]? =ZV q->∀(j:Nat) (u:Value),(f q)[j]? =ZV u->w.cell? ⟨g,o+i*k+j,ZU⟩=ZV u
theorem DB {α:Type} [Inhabited α] {r:Reach} {b0:Nat} {d:DataW H} {p:List MemPlace} {ts te:TypeId} {k:Nat} (f:α->List Value) (Ok:α->Prop) (hf:∀q,(f q).length=k)
 (hts:prog.underlying ts=ZV (.slice te)) (hk:prog.cellsOf te=k) (hk0:0<k)
 (hel:∀{fuel:Nat} {cs:List Value} {x:DataW H×List MemPlace},cs.length=k->DataW.trod enc ZW w base spare held fuel te cs=ZV x->∃q,cs=f q/\Ok q)
 (hv:Value.okWide ZW w r b0 ts v) (h:DataW.Trod enc ZW w base spare held ts v d p):
 ∃(l:List α) (A:Option Addr) (cap:Nat),v=Zw A l.length cap/\l.length<=maxLen/\(∀q∈l,Ok q)/\(l≠[]->∃g o,A=ZV ⟨g,o,ZU⟩/\AtR f k w g o l):=by
 obtain ⟨a0,len,cap,rfl⟩:=okWide_slice hts hv;obtain ⟨fuel,hfu⟩:=h;rcases DataW.trod_slice hts hfu with ⟨e5,_⟩|⟨ad,len',cap',el,rs,n4,rfl,e5,_,_,hlc,hcm,hle,helem,_,_⟩
 ·simp [Value.cells] at e5
  obtain ⟨rfl,rfl,rfl⟩:=e5;exact ⟨([]:List α),ZU,0,rfl,qns,qns,fun hh=>absurd rfl hh⟩
 ·simp [Value.cells] at e5
  obtain ⟨rfl,rfl,rfl⟩:=e5
  have key:∀i,i<len->∃q:α,(∀(j:Nat) (u:Value),(f q)[j]? =ZV u->w.cell? ((ad.add (i*k)).add j)=ZV u)/\Ok q:=by
   intro i hi;have h1:=helem i hi;rw [hk] at h1;obtain ⟨y,hy⟩:∃y,el[i]? =ZV y:=⟨el[i]'qoq,List.getElem?_eq_getElem qoq⟩
   rw [hy] at h1;obtain ⟨ce,hce,hte⟩:=Option.bind_eq_some_iff.1 h1;obtain ⟨_,hcl,hcell⟩:=World.cells?_some hce;obtain ⟨q,rfl,hq⟩:=hel hcl hte;refine ⟨q,fun j u hj=>?_,hq⟩;have hjl:j<k:=(by rw [<-hf q];exact (List.getElem?_eq_some_iff.1 hj).1);rw [hcell j hjl];exact hj
  obtain ⟨Q,hQ⟩:=choose_lt key;refine ⟨(List.range len).map Q,ZV ad,cap,qns,qnu,fun q hq=>?_,fun hne=>?_⟩
  ·obtain ⟨i,hi,rfl⟩:=List.mem_map.1 hq
   exact (hQ i (List.mem_range.1 hi)).2
  ·have hpos:0<len:=by
    cases len with
    |zero=>simp at hne
    |succ k=>omega
   obtain ⟨g,o,spot⟩:=ad
   have hspot:spot=ZU:=by
    obtain ⟨u,hu⟩:∃u,(f (Q 0))[0]? =ZV u:=⟨(f (Q 0))[0]'(by rw [hf];exact hk0),List.getElem?_eq_getElem (by rw [hf];exact hk0)⟩
    have h00:=(hQ 0 hpos).1 0 u hu;simpa [Addr.add] using World.cell?_spot h00
   subst hspot;refine ⟨g,o,rfl,fun i q hi j u hj=>?_⟩
   have hlt:i<len:=by
    have:=(List.getElem?_eq_some_iff.1 hi).1;simpa using this
   have hq:Q i=q:=(by simpa [hlt] using hi);have:=(hQ i hlt).1 j u (by rw [hq];exact hj);rwa [add_plain,add_plain] at this
end
end
section
def av {α:Type} (E:TypeId) (n:Nat) (f:α->List Value) (base:Nat) (w:Z3) (v:Value) (L:List α):Prop:=w.ownsRow base E n v L.length (L.flatMap f)
section
variable {α:Type} {E:TypeId} {n:Nat} {f:α->List Value}
theorem jH (hf:∀q,(f q).length=n):∀(l:List α) (i:Nat) (q:α),l[i]? =ZV q->∀(j:Nat) (u:Value),(f q)[j]? =ZV u->(l.flatMap f)[i*n+j]? =ZV u
 |[],i,q,h,_,_,_=>by simp at h
 |p::t,0,q,h,j,u,hj=>by
  simp at h;subst h
  rw [List.flatMap_cons,Nat.zero_mul,Nat.zero_add,List.getElem?_append_left (by exact (List.getElem?_eq_some_iff.1 hj).1)];exact hj
 |p::t,i+1,q,h,j,u,hj=>by
  have:=jH hf t i q qoA j u hj;have e:(i+1)*n+j - n=i*n+j:=(by rw [Nat.succ_mul];omega);rw [List.flatMap_cons,List.getElem?_append_right (by rw [hf,Nat.succ_mul];omega),hf,e];exact this
theorem av.shape {L:List α} (hf:∀q,(f q).length=n) (h:av E n f base w v L):∃(A:Option Addr) (cap:Nat),v=Zw A L.length cap/\L.length<=cap/\(L≠[]->∃g o,A=ZV ⟨g,o,ZU⟩/\AtR f n w g o L):=by
 have h':=h;rcases h.2 with ⟨rfl,hl⟩|⟨g,cap,cur,rfl,_,hh,hc,_⟩
 ·refine ⟨ZU,0,(by rw [hl]),(by rw [hl];exact qd),fun hne=>?_⟩
  exact qlP
 ·refine ⟨_,cap,rfl,hc,fun _=>⟨g,0,rfl,fun i q hi j u hj=>?_⟩⟩
  obtain ⟨hlt,hjn⟩:=qfw
  have hle:i*n+j<L.length*n:=by
   have h1:=qia;rw [Nat.succ_mul] at h1;omega
  rw [Nat.zero_add];exact (World.ownsRow.cellAt h' (i*n+j) (by first|exact hle|omega)).trans (jH hf L i q hi j u hj)
def eI (v u:Value):Prop:=∀k,v.ownBlock=ZV k->u.ownBlock=ZV k->False
theorem eI.symm (h:eI v u):eI u v:=fun k hv hu=>h k hu hv
theorem eI.nil (u:Value):eI (Zw ZU 0 0) u:=fun k hv _=>by cases hv
theorem av.beside {L:List α} (h:av E n f base w u L) (hg:w.grownBy w' v.ownBlock) (ha:eI v u):av E n f base w' u L:=by
 refine World.ownsRow.kept h hg ?_;cases hu:u.ownBlock with
 |none=>exact .inl rfl
 |some k=>exact .inr fun e=>ha k e.symm hu
theorem av.apart {v':Value} {L:List α} (h:av E n f base w u L) (ha:eI v u) (hat:v'.ownBlock=v.ownBlock\/v'.ownBlock=ZV (w.heap.size+1)):eI v' u:=fun k hv hu=>by
 rcases hat with e|e
 ·exact ha k (e▸hv) hu
 ·have h1:=(World.ownsRow.lt h k hu).2
  rw [e] at hv;cases hv;omega
theorem av.below {L:List α} (h:av E n f base w v L) (hb:Z2 w.heap.size w w'):av E n f base w' v L:=dS h hb
theorem Gn {S:TypeId} {i0:TypeInfo}
 (w:Z3) (hg:o.guard=ZU) (s x:Operand) (ho:o.op=.call { callee:=.builtin .append,args:=#[s,x],argTypes:=#[S,S] }) {X:List α}
 (hs:a.eval s=v) {w0:Z3} {q:α} (hw:w=w0.alloc (.cells (f q).toArray E)) (hown:av E n f base w0 v X) (hx:a.eval x=Zw (ZV ⟨w0.heap.size,0,ZU⟩) 1 1)
 (hu:prog.underlying S=ZV (.slice E)) (hi0:prog.info? E=ZV i0) (hz0:i0.zero=ZV z) (hz1:i0.size=n) (hz2:i0.bytes=nb) (hzc:z.cells.size=n) (hn0:0<n) (hnb:nb<=100)
 (hf:∀q,(f q).length=n) (h1c:∀q,∀u∈f q,u.oneCell'=Zy) (hlen:X.length<=1000000) (hbase:base<=w0.heap.size)
 (h:∀v' w',av E n f base w' v' (X++[q])->w0.grownBy w' v.ownBlock->(v'.ownBlock=v.ownBlock\/v'.ownBlock=ZV (w0.heap.size+1))->wpList ZW ops Q rest (a.put o.dst v') w'):wpList ZW ops Q (o::rest) a w:=by
 subst hw;have hb:(w0.alloc (.cells (f q).toArray E)).heap[w0.heap.size]? =ZV (.cells (f q).toArray E):=(MapKept.heap_alloc w0 _).1;have hroom:nb*(X.length+1)<=200000000:=qlB;refine wpList_append_own_at _ hg s x S ho base E i0 z n nb hu hi0 hz0 hz1 hz2 hzc hn0 v X.length (X.flatMap f) hs (World.ownsRow.alloc hown _) ⟨w0.heap.size,0,ZU⟩ 1 1 (f q) hx (by rw [hf,Nat.one_mul]) ?_ (h1c q) qnH ?_ qnu fun v' w' hown' hg' _ hat=>h v' w' ?_ ?_ (by simpa using hat)
 ·intro j u hj
  exact qlz
 ·first
  |omega
  |(have e:nb*(X.length+1)=(X.length+1)*nb:=Nat.mul_comm _ _;omega)
 ·unfold av
  rw [List.length_append,List.flatMap_append];show w'.ownsRow base _ n v' (X.length+1) (X.flatMap f++[q].flatMap f)
  rw [List.flatMap_singleton];exact hown'
 ·exact ⟨hg'.os,hg'.tape,hg'.output,Nat.le_trans qns hg'.size,fun k hk hn=>(hg'.block k qnu hn).trans (Below.heap_alloc w0 _ k hk)⟩
theorem Kb {S:TypeId} {i0:TypeInfo}
 {E0:Prop} (hg:o.guard=ZU) (s x:Operand) (ho:o.op=.call { callee:=.builtin .append,args:=#[s,x],argTypes:=#[S,S] }) {X:List α}
 (hs:a.eval s=v) (B:Nat) {q:α} (hx:a.eval x=Zw (ZV ⟨B,0,ZU⟩) 1 1) (hown:av E n f base w v X) (hb:w.heap[B]? =ZV (.cells (f q).toArray E))
 (hu:prog.underlying S=ZV (.slice E)) (hi0:prog.info? E=ZV i0) (hz0:i0.zero=ZV z) (hz1:i0.size=n) (hz2:i0.bytes=nb) (hzc:z.cells.size=n) (hn0:0<n) (hnb:nb<=100)
 (hf:∀q,(f q).length=n) (h1c:∀q,∀u∈f q,u.oneCell'=Zy) (hlen:X.length<=1000000) (hbase:base<=w.heap.size)
 (h:∀g cap w',av E n f base w' (Zw (ZV ⟨g,0,ZU⟩) (X.length+1) cap) (X++[q])->w.grownBy w' v.ownBlock->(v.ownBlock=ZV g\/g=w.heap.size)->K (a.put o.dst (Zw (ZV ⟨g,0,ZU⟩) (X.length+1) cap)) w'):
 if Region.wanted o (yielded ops a.tmps)=Zy then Oper.wp ZW o a w K Q else E0:=by
 have hroom:nb*(X.length+1)<=200000000:=qlB;refine step_append_lies _ hg s x S ho base E i0 z n nb hu hi0 hz0 hz1 hz2 hzc hn0 v X.length (X.flatMap f) hs hown ⟨B,0,ZU⟩ 1 1 (f q) hx (by rw [hf,Nat.one_mul]) ?_ (h1c q) qoq qnH ?_ hbase w.heap.size rfl fun g cap w' hown' hg' hat _=>h g cap w' ?_ hg' hat
 ·intro j u hj
  exact qlz
 ·first
  |omega
  |(have e:nb*(X.length+1)=(X.length+1)*nb:=Nat.mul_comm _ _;omega)
 ·unfold av
  rw [List.length_append,List.flatMap_append];show w'.ownsRow base _ n _ (X.length+1) (X.flatMap f++[q].flatMap f)
  rw [List.flatMap_singleton];exact hown'
theorem et (hf:∀q,(f q).length=n):∀l:List α,(l.flatMap f).length=l.length*n
 |[]=>by simp
 |q::l=>by rw [List.flatMap_cons,List.length_append,et hf l,hf,List.length_cons,Nat.succ_mul];omega
theorem oC (hf:∀q,(f q).length=n) (hn0:0<n) {l:List α} (h:(l.flatMap f)[j]? =ZV u):∃i q k,l[i]? =ZV q/\(f q)[k]? =ZV u/\j=i*n+k:=by
 have hl:=(List.getElem?_eq_some_iff.1 h).1;rw [et hf] at hl;have hi:j / n<l.length:=Nat.div_lt_of_lt_mul (by rw [Nat.mul_comm];exact hl);have hk:j % n<n:=Nat.mod_lt _ hn0;have hq:=List.getElem?_eq_getElem hi;have hu:(f l[j / n])[j % n]? =ZV ((f l[j / n])[j % n]'(by rw [hf];exact hk)):=List.getElem?_eq_getElem _;have e:j / n*n+j % n=j:=Nat.div_add_mod' j n;have:=jH hf l (j / n) _ hq (j % n) _ hu;rw [e,h] at this;exact ⟨j / n,_,j % n,hq,(by rw [hu,this]),e.symm⟩
theorem cP {S:TypeId} {i0:TypeInfo}
 (hg:o.guard=ZU) (s x:Operand) (ho:o.op=.call { callee:=.builtin .append,args:=#[s,x],argTypes:=#[S,S] }) {X:List α}
 (hs:a.eval s=v) (hown:av E n f base w v X) {c2:Nat} {L2:List α} (hx:a.eval x=Zw (ZV ⟨g2,o2,ZU⟩) L2.length c2) (hL:AtR f n w g2 o2 L2) (h0:0<L2.length) (hN:X.length+L2.length=N) {Z:List α} (hZ:X++L2=Z)
 (hu:prog.underlying S=ZV (.slice E)) (hi0:prog.info? E=ZV i0) (hz0:i0.zero=ZV z) (hz1:i0.size=n) (hz2:i0.bytes=nb) (hzc:z.cells.size=n) (hn0:0<n) (hnb:nb<=100)
 (hf:∀q,(f q).length=n) (h1c:∀q,∀u∈f q,u.oneCell'=Zy) (hlen:N<=2000000) (hbase:base<=w.heap.size)
 (h:∀g cap w',av E n f base w' (Zw (ZV ⟨g,0,ZU⟩) N cap) Z->w.grownBy w' v.ownBlock->(v.ownBlock=ZV g\/g=w.heap.size)->g<w'.heap.size->wpList ZW ops Q rest (a.put o.dst (Zw (ZV ⟨g,0,ZU⟩) N cap)) w'):wpList ZW ops Q (o::rest) a w:=by
 subst hN hZ;have hroom:nb*(X.length+L2.length)<=200000000:=qlG;refine wpList_append_lies _ hg s x S ho base E i0 z n nb hu hi0 hz0 hz1 hz2 hzc hn0 v X.length (X.flatMap f) hs hown ⟨g2,o2,ZU⟩ L2.length c2 (L2.flatMap f) hx (et hf L2) ?_ ?_ h0 qnH ?_ hbase w.heap.size rfl fun g cap w' hown' hg' hat hlt=>h g cap w' ?_ hg' hat hlt
 ·intro j u hj
  exact qjn
 ·intro u hu'
  exact qld
 ·have e:nb*(X.length+L2.length)=(X.length+L2.length)*nb:=Nat.mul_comm _ _
  omega
 ·unfold av
  exact qlt
theorem kX (w:Z3) (q:α):AtR f n (w.alloc (.cells (f q).toArray E)) w.heap.size 0 [q]:=fun i p hi j u hj=>by
 cases i with
 |succ i=>simp at hi
 |zero=>
  obtain rfl:q=p:=qph;rw [Nat.zero_mul,Nat.zero_add,cell_of_row _ _ j (f q).toArray E (0,0) (MapKept.heap_alloc w _).1];simpa using hj
theorem Ih (w:Z3) (base:Nat) (hb:base<=w.heap.size):av E n f base (w.alloc (.cells #[] E)) (Zw (ZV ⟨w.heap.size,0,ZU⟩) 0 0) ([]:List α):=
 World.ownsRow_lit w #[] 0 hb qnH qns
theorem av.at {cap:Nat} {L:List α} (hf:∀q,(f q).length=n) (h:av E n f base w (Zw (ZV ⟨g,0,ZU⟩) N cap) L) (hN:N=L.length):AtR f n w g 0 L:=fun i q hi j u hj=>by
 subst hN;obtain ⟨hlt,hjn⟩:=qfw
 have hle:i*n+j<L.length*n:=by
  have h1:=qia;rw [Nat.succ_mul] at h1;omega
 rw [Nat.zero_add];exact (World.ownsRow.cellAt h (i*n+j) hle).trans (jH hf L i q hi j u hj)
theorem iP (w:Z3) (t ty e:TypeId) (i:TypeInfo) (ht:P.underlying t=ZV (.slice e)) (hi:P.info? e=ZV i) (B:Nat) (A:Option Addr) (c:Nat):
 (Builtin.append_ #[t,t] ty #[Zw (ZV ⟨B,0,ZU⟩) 0 0,Zw A 0 c]).run P w=.ok (Zw (ZV ⟨B,0,ZU⟩) 0 0) w:=by
 cases A<;>simp [Builtin.append_,run_underlying ht,sizeOf,typeInfo,hi,Builtin.lenOf,Builtin.firstCells,loadCells,loadCellsFrom,storeCells]
theorem C7 {E:Prop} (hgd:o.guard=ZU) (s x:Operand) (t:TypeId)
 (ho:o.op=.call { callee:=.builtin .append,args:=#[s,x],argTypes:=#[t,t] }) (e:TypeId) (i:TypeInfo) (ht:P.underlying t=ZV (.slice e)) (hi:P.info? e=ZV i) (B:Nat) (A:Option Addr) (c:Nat)
 (hs:a.eval s=Zw (ZV ⟨B,0,ZU⟩) 0 0) (hx:a.eval x=Zw A 0 c) (h:K (a.put o.dst (Zw (ZV ⟨B,0,ZU⟩) 0 0)) w):
 if Region.wanted o (yielded ops a.tmps)=Zy then Oper.wp P o a w K Q else E:=by
 have hw:=qcf;rw [if_pos hw];unfold Oper.wp execOp;simp only [ho,Go.resolve,invoke,builtin,Sem.run_bind,Sem.run_pure,Result.andThen_ok,List.map_toArray,List.map_cons,List.map_nil,hs,hx,iP w t o.type e i ht hi B A c];exact h
theorem kU (hgd:o.guard=ZU) (s x:Operand) (t:TypeId)
 (ho:o.op=.call { callee:=.builtin .append,args:=#[s,x],argTypes:=#[t,t] }) (e:TypeId) (i:TypeInfo) (ht:P.underlying t=ZV (.slice e)) (hi:P.info? e=ZV i) (B:Nat) (A:Option Addr) (c:Nat)
 (hs:a.eval s=Zw (ZV ⟨B,0,ZU⟩) 0 0) (hx:a.eval x=Zw A 0 c) (h:wpList P ops Q rest (a.put o.dst (Zw (ZV ⟨B,0,ZU⟩) 0 0)) w):wpList P ops Q (o::rest) a w:=by
 refine wpList_plain hgd fun K' hK'=>?_
 unfold Oper.wp execOp;simp only [ho,Go.resolve,invoke,builtin,Sem.run_bind,Sem.run_pure,Result.andThen_ok,List.map_toArray,List.map_cons,List.map_nil,hs,hx,iP w t o.type e i ht hi B A c];exact hK' _ _ h
theorem pw {S:TypeId} {i0:TypeInfo}
 {E0:Prop} (hg:o.guard=ZU) (s x:Operand) (ho:o.op=.call { callee:=.builtin .append,args:=#[s,x],argTypes:=#[S,S] }) {X:List α}
 (hs:a.eval s=v) (hown:av E n f base w v X) {c2:Nat} {L2:List α} (hx:a.eval x=Zw (ZV ⟨g2,o2,ZU⟩) L2.length c2) (hL:AtR f n w g2 o2 L2) (h0:0<L2.length) (hN:X.length+L2.length=N) {Z:List α} (hZ:X++L2=Z)
 (hu:prog.underlying S=ZV (.slice E)) (hi0:prog.info? E=ZV i0) (hz0:i0.zero=ZV z) (hz1:i0.size=n) (hz2:i0.bytes=nb) (hzc:z.cells.size=n) (hn0:0<n) (hnb:nb<=100)
 (hf:∀q,(f q).length=n) (h1c:∀q,∀u∈f q,u.oneCell'=Zy) (hlen:N<=2000000) (hbase:base<=w.heap.size)
 (h:∀g cap w',av E n f base w' (Zw (ZV ⟨g,0,ZU⟩) N cap) Z->w.grownBy w' v.ownBlock->(v.ownBlock=ZV g\/g=w.heap.size)->g<w'.heap.size->K (a.put o.dst (Zw (ZV ⟨g,0,ZU⟩) N cap)) w'):
 if Region.wanted o (yielded ops a.tmps)=Zy then Oper.wp ZW o a w K Q else E0:=by
 subst hN hZ;have hroom:nb*(X.length+L2.length)<=200000000:=qlG;refine step_append_lies _ hg s x S ho base E i0 z n nb hu hi0 hz0 hz1 hz2 hzc hn0 v X.length (X.flatMap f) hs hown ⟨g2,o2,ZU⟩ L2.length c2 (L2.flatMap f) hx (et hf L2) ?_ ?_ h0 qnH ?_ hbase w.heap.size rfl fun g cap w' hown' hg' hat hlt=>h g cap w' ?_ hg' hat hlt
 ·intro j u hj
  exact qjn
 ·intro u hu'
  exact qld
 ·have e:nb*(X.length+L2.length)=(X.length+L2.length)*nb:=Nat.mul_comm _ _
  omega
 ·unfold av
  exact qlt
theorem OW {B:Nat} (hb:base<=B) (h:w.heap[B]? =ZV (.cells #[] E (0,0))):av E n f base w (Zw (ZV ⟨B,0,ZU⟩) 0 0) ([]:List α):=
 ⟨qns,.inr ⟨B,0,#[],rfl,hb,h,qd,qe,qns,qns⟩⟩
end
end
section
open Go.Maps Go.MapKept Go.ChangeMaps
structure Elm (α:Type) where
 val:α->Value
 dat:α->DataW Unit
 rd:Value->Option (DataW Unit×List MemPlace)
 here:∀a,rd (val a)=ZV (dat a,[])
 back:∀{v:Value} {a:α} {ps:List MemPlace},rd v=ZV (dat a,ps)->v=val a
def kI (x:Int):Lit:=.int .i64 x
def KB (x:Int):Prop:= -9223372036854775808<=x/\x<=9223372036854775807
theorem iq:Keyed ZW 3:=int_keyed underlying3
theorem nL {x:Int} (h:KB x):keyOf ZW 3 (.int .i64 x)=ZV (kI x):=keyOf_int_mk underlying3 (by
 obtain ⟨e1,e2⟩:=qgK;unfold KB at h;simp [Lit.wf,e1,e2]
 omega)
theorem wk {x:Int} (h:kI x=kI y):x=y:=by
 unfold kI at h;exact (Lit.int.inj h).2
structure kK {α:Type} (E:Elm α) (D:DataW Unit) (f:Int->Option α):Prop where
 at_:∀x a z,f x=ZV a->D.atKey (kI x) z=E.dat a/\has D (kI x)=Zy
 only:∀kl,has D kl=Zy->∃x,(f x).isSome=Zy/\kl=kI x
 wide:∀x,(f x).isSome=Zy->KB x
def bJ {α:Type} (f:Int->Option α) (x:Int) (a:α):Int->Option α:=fun y=>if y=x then ZV a else f y
theorem kK.miss {α:Type} {E:Elm α} {f:Int->Option α} (h:kK E D f) {x:Int} (hx:f x=ZU):has D (kI x)=Zz:=by
 cases e:has D (kI x) with
 |false=>rfl
 |true=>
  obtain ⟨y,hy,hk⟩:=h.only _ e;rw [<-wk hk,hx] at hy;cases hy
theorem kK.put {α:Type} {E:Elm α} {f:Int->Option α} (hM:IsMap D) (h:kK E D f) {x:Int} (hx:KB x) (a:α):kK E (D.put (kI x) (E.dat a)) (bJ f x a):=by
 have hkey:=iq.key (nL hx);refine ⟨fun y b z hy=>?_,fun kl hl=>?_,fun y hy=>?_⟩
 ·unfold bJ at hy
  by_cases e:y=x
  ·rw [if_pos e] at hy
   cases hy;rw [e,atKey_put_same hM hkey,has_put_same hM hkey];exact ⟨rfl,rfl⟩
  ·rw [if_neg e] at hy
   have hne:kI y≠kI x:=fun e'=>e (wk e')
   rw [atKey_put_other hne,has_put_other hne];exact h.at_ y b z hy
 ·by_cases e:kl=kI x
  ·exact ⟨x,(by unfold bJ;rw [if_pos rfl];rfl),e⟩
  ·rw [has_put_other e] at hl
   obtain ⟨y,hy,hk⟩:=h.only kl hl;refine ⟨y,?_,hk⟩;unfold bJ;by_cases e2:y=x
   ·rw [if_pos e2];rfl
   ·rw [if_neg e2];exact hy
 ·unfold bJ at hy
  by_cases e:y=x
  ·rw [e];exact hx
  ·rw [if_neg e] at hy;exact h.wide y hy
def bG {α:Type} (E:Elm α) (w:Z3) (b n:Nat) (f:Int->Option α):Prop:=∃D:DataW Unit,w.ownsMap ZW 3 E.rd b n D/\kK E D f
section
variable {α:Type} {E:Elm α} {w w':Z3} {b n:Nat} {f:Int->Option α}
theorem bG.below (h:bG E w b n f) (hb:Z2 w.heap.size w w'):bG E w' b n f:=by
 obtain ⟨D,h1,h2⟩:=h;exact ⟨D,h1.kept (iv hb ZU) qns,h2⟩
theorem bG.lt (h:bG E w b n f):b<w.heap.size:=by
 obtain ⟨D,h1,_⟩:=h;exact h1.lt
theorem bG.mono (h:bG E w b n f) {m:Nat} (hm:n<=m):bG E w b m f:=by
 obtain ⟨D,h1,h2⟩:=h;exact ⟨D,h1.mono hm,h2⟩
theorem bG.made (E:Elm α) (w:Z3):bG E (w.alloc (.map #[] 0)) w.heap.size 0 (fun _=>ZU):=
 ⟨.map [],World.ownsMap_made w ZW 3 E.rd,⟨fun x a z h=>qoO,fun kl h=>qoO,fun x h=>qoO⟩⟩
theorem bG.look_ok (h:bG E w b n f) {tm te:TypeId} (ht:prog.underlying tm=ZV (.map 3 te)) {z:α} (hz:(zeroValue te).run ZW w=.ok (E.val z) w) {x:Int} (hx:KB x):
 (Instr.lookup tm (.map (ZV b)) (ZZ ZY x) Zy).run ZW w=.ok (.tuple #[E.val ((f x).getD z),.bool (f x).isSome]) w:=by
 obtain ⟨D,h1,h2⟩:=h;obtain ⟨v,ps,hrun,hv⟩:=h1.look_ok iq ht hz (zd:=E.dat z) (zp:=[]) (E.here z) (nL hx);cases e:f x with
 |none=>
  have hm:=h2.miss e;rw [atKey_of_not_has hm] at hv;have:=E.back hv;subst this;rw [hrun,hm];rfl
 |some a=>
  obtain ⟨e1,e2⟩:=h2.at_ x a (E.dat z) e;rw [e1] at hv;have:=E.back hv;subst this;rw [hrun,e2];rfl
theorem bG.look (h:bG E w b n f) {tm te:TypeId} (ht:prog.underlying tm=ZV (.map 3 te)) {z:α} (hz:(zeroValue te).run ZW w=.ok (E.val z) w) {x:Int} (hx:KB x):
 (Instr.lookup tm (.map (ZV b)) (ZZ ZY x) Zz).run ZW w=.ok (E.val ((f x).getD z)) w:=by
 obtain ⟨D,h1,h2⟩:=h;obtain ⟨v,ps,hrun,hv⟩:=h1.lookup iq ht hz (zd:=E.dat z) (zp:=[]) (E.here z) (nL hx);cases e:f x with
 |none=>
  rw [atKey_of_not_has (h2.miss e)] at hv;have:=E.back hv;subst this;exact hrun
 |some a=>
  rw [(h2.at_ x a (E.dat z) e).1] at hv;have:=E.back hv;subst this;exact hrun
theorem bG.put (h:bG E w b n f) {tm te:TypeId} (ht:prog.underlying tm=ZV (.map 3 te)) (hn:n<maxLen) {x:Int} (hx:KB x) (a:α):
 ∃w',(Instr.mapUpdate tm (.map (ZV b)) (ZZ ZY x) (E.val a)).run ZW w=.ok () w'/\bG E w' b (n+1) (bJ f x a)/\w.grownBy w' (ZV b)/\w'.heap.size=w.heap.size/\∀p,w'.frozen? p=w.frozen? p:=by
 obtain ⟨D,h1,h2⟩:=h;obtain ⟨w',hrun,r1,r2⟩:=h1.store iq ht hn (nL hx) (E.here a);exact ⟨w',hrun,⟨_,r1,h2.put h1.isMap hx a⟩,r2.grown,(by obtain ⟨es,clock,es',clock',hb,rfl⟩:=r2;simp [setBlock]),r2.frozen⟩
end
/- elements: bools, slices -/
structure Sl where
 A:Option (Nat×Nat)
 len:Nat
 cap:Nat
def Sl.addr (s:Sl):Option Addr:=s.A.map fun p=>⟨p.1,p.2,ZU⟩
def slE:Elm Sl where
 val s:=Zw s.addr s.len s.cap
 dat s:=.agg [.lit (.int .i64 (match s.A with|none=> -1|some p=>(p.1:Int))),.lit (.int .i64 (match s.A with|none=> -1|some p=>(p.2:Int))),.lit (.int .i64 s.len),.lit (.int .i64 s.cap)]
 rd v:=match v with
  |Zw ZU l c=>ZV (.agg [.lit (.int .i64 (-1)),.lit (.int .i64 (-1)),.lit (.int .i64 l),.lit (.int .i64 c)],[])
  |Zw (ZV ⟨g,o,ZU⟩) l c=>ZV (.agg [.lit (.int .i64 g),.lit (.int .i64 o),.lit (.int .i64 l),.lit (.int .i64 c)],[])
  |_=>ZU
 here s:=by
  obtain ⟨A,l,c⟩:=s;cases A<;>rfl
 back {v a ps} h:=by
  obtain ⟨A,l,c⟩:=a;split at h
  ·rename_i l' c'
   cases A with
   |none=>
    simp at h
    exact qma
   |some p=>
    simp at h
  ·rename_i g' o' l' c'
   cases A with
   |none=>
    simp at h
   |some p=>
    obtain ⟨g,o⟩:=p;simp at h
    obtain rfl:l'=l:=qoq;obtain rfl:c'=c:=qoq;obtain rfl:g'=g:=qoq;obtain rfl:o'=o:=qoq;rfl
  ·cases h
end
section
open Go.Maps Go.MapKept Go.ChangeMaps
theorem mD (h:l.Pairwise (·<·)):l.mergeSort leI=l:=
 List.mergeSort_of_pairwise (h.imp fun {a b} hab=>by simp only [leI,decide_eq_true_eq];omega)
section
variable {α:Type} {E:Elm α} {w w':Z3} {b n:Nat} {f:Int->Option α} {D:DataW Unit}
theorem kK.keys (h:kK E D f) (ho:w.ownsMap ZW 3 E.rd b n D) {L:List Int} (hd:L.Nodup) (hL:∀x,x∈L↔(f x).isSome=Zy):L.Perm (intKeys D)/\Maps.size D=L.length:=by
 obtain ⟨es,rfl,hp,hk⟩:=ho.entries iq
 have hint:∀p∈es,∃x,p.1=.int .i64 x:=fun p hp'=>by
  obtain ⟨x,_,e⟩:=h.only p.1 (by rw [has_eq,List.any_eq_true];exact ⟨p,hp',WideAt.sameKey_self (hk p hp')⟩);exact ⟨x,e⟩
 have hP:L.Perm (intKeys (.map es)):=perm_intKeys hp hint hd fun x=>by
  rw [hL];constructor
  ·intro hx
   obtain ⟨a,ha⟩:=Option.isSome_iff_exists.1 hx;exact (h.at_ x a (.nil) ha).2
  ·intro hx
   obtain ⟨y,hy,e⟩:=h.only _ hx;rw [wk e];exact hy
 refine ⟨hP,?_⟩;rw [hP.length_eq];show es.length=(es.map _).length
 rw [List.length_map]
theorem kK.sorted (h:kK E D f) (ho:w.ownsMap ZW 3 E.rd b n D) {L:List Int} (hL:L.Pairwise (·<·)) (hm:∀x,x∈L↔(f x).isSome=Zy):(intKeys D).mergeSort leI=L/\Maps.size D=L.length:=by
 obtain ⟨h1,h2⟩:=h.keys ho (hL.imp fun {a b} hab=>by omega) hm;exact ⟨(by rw [<-mergeSort_of_perm_i h1,mD hL]),h2⟩
theorem bG.len (h:bG E w b n f) {tm te:TypeId} (ht:prog.underlying tm=ZV (.map 3 te)) {L:List Int} (hd:L.Nodup) (hm:∀x,x∈L↔(f x).isSome=Zy) (ty:TypeId):(Builtin.len_ #[tm] ty #[.map (ZV b)]).run ZW w=.ok (ZZ ZY (L.length:Int)) w:=by
 obtain ⟨D,h1,h2⟩:=h;rw [h1.len ht ty,(h2.keys h1 hd hm).2]
end
end
def gD (ok:Bool) (n:Int):Int:=if ok=Zy then n else 0
def eu (ok:Bool):Int:=if ok=Zy then 0 else 1
def tru (b:Bool):Int:=if b=Zy then 1 else 0
def cJ (n:Int):Int×Int:=(gD (inI n) (ci (inI n) n),eu (inI n))
def vOp (l:List UInt8) (a b:Int):Option (Int×Int):=
 if l=[43] then ZV (cJ (a+b)) else if l=[45] then ZV (cJ (a - b)) else if l=[42] then ZV (cJ (a*b))
 else if l=[47] then ZV (if b=0 then (0,2) else cJ (a.tdiv b))
 else if l=[60] then ZV (tru (decide (a<b)),0) else if l=[60,61] then ZV (tru (decide (a<=b)),0) else if l=[61] then ZV (tru (a==b),0)
 else if l=[60,62] then ZV (tru (a !=b),0) else if l=[62,61] then ZV (tru (decide (b<=a)),0) else if l=[62] then ZV (tru (decide (b<a)),0) else ZU
def mI (o:Option (Int×Int)):Int:=match o with|some p=>p.1|none=>0
def mJ (o:Option (Int×Int)):Int:=match o with|some p=>p.2|none=>0
def cQ (l:List UInt8) (n f m g:Int):Int:=if f=0/\g=0 then mI (vOp l n m) else 0
def cd (l:List UInt8) (n f m g:Int):Int:=if (vOp l n m).isSome=Zy then (if f=0 then (if g=0 then mJ (vOp l n m) else g) else f) else 0

def dG (p:Int×Int) (f g:Int):Int:=if f=0/\g=0 then p.1 else 0
def dJ (p:Int×Int) (f g:Int):Int:=if f=0 then (if g=0 then p.2 else g) else f
def AtV (w:Z3) (g o:Nat) (l:List (Int×Int)):Prop:=∀(i:Nat) (x y:Int),l[i]? =ZV (x,y)->w.cell? ⟨g,o+i*2,ZU⟩=ZV (ZZ ZY x)/\w.cell? ⟨g,o+i*2+1,ZU⟩=ZV (ZZ ZY y)
theorem AtV.below {o:Nat} {l:List (Int×Int)} (h:AtV w g o l) (hb:Z2 w.heap.size w w'):AtV w' g o l:=fun i x y hi=>⟨aa hb (h i x y hi).1,aa hb (h i x y hi).2⟩
def cY (G:Int->Int->Int×Int) (p q:Int×Int):Int×Int:=(dG (G p.1 q.1) p.2 q.2,dJ (G p.1 q.1) p.2 q.2)
def bm (G:Int->Int->Int×Int) (p:Int×Int) (l:List (Int×Int)):Int×Int:=l.foldl (cY G) p
def g6 (G:Int->Int->Int×Int):Prop:=∀a b,B64 a->B64 b->B64 (G a b).1
theorem po (hG:g6 G) {p q:Int×Int} (hp:B64 p.1) (hq:B64 q.1):B64 (cY G p q).1:=by
 unfold cY dG;simp only;split
 ·exact hG _ _ hp hq
 ·unfold B64;omega
theorem su {G:Int->Int->Int×Int} (hG:g6 G):∀(l:List (Int×Int)) (p:Int×Int),B64 p.1->(∀q∈l,B64 q.1)->B64 (bm G p l).1
 |[],_,hp,_=>hp
 |q::r,p,hp,hl=>su hG r (cY G p q) (po hG hp (hl q qns)) (fun x hx=>hl x (by simp [hx]))
theorem mU {p:Int×Int} {l:List (Int×Int)} {x:Int} (h:l[i]? =ZV (x,y)):bm G p (l.take (i+1))=cY G (bm G p (l.take i)) (x,y):=by
 unfold bm;rw [List.take_add_one,h];simp
def jv (n:Nat) (v:Value):Nat:=n - (RowKit.intOf v).toNat
def de (a b:Int):Int×Int:=cJ (a+b)
def cN (a b:Int):Int×Int:=(if b<a then b else a,0)
def cM (a b:Int):Int×Int:=(if a<b then b else a,0)
theorem wV (n:Int):B64 (cJ n).1:=by
 unfold cJ gD;simp only;split
 ·rename_i h
  rw [h];have:B64 n:=(by unfold inI at h;unfold B64;simpa using h);simpa [ci] using this
 ·unfold B64;omega
theorem lw:g6 de:=fun a b _ _=>wV (a+b)
theorem pK:g6 cN:=fun a b ha hb=>by unfold cN;simp only;split<;>assumption
theorem pR:g6 cM:=fun a b ha hb=>by unfold cM;simp only;split<;>assumption
def bv (G:Int->Int->Int×Int) (l:List (Int×Int)):Int×Int:=bm G (l.headD (0,0)) l
def fH (w:Z3) (A:Option Addr) (l:List (Int×Int)):Prop:=l≠[]->∃g o,A=ZV ⟨g,o,ZU⟩/\AtV w g o l
theorem fH.below {A:Option Addr} {l:List (Int×Int)} (h:fH w A l) (hb:Z2 w.heap.size w w'):fH w' A l:=fun hl=>by
 obtain ⟨g,o,e,ha⟩:=h hl;exact ⟨g,o,e,ha.below hb⟩
section
open Go.Shelf
theorem nY:(prog.info? 194).map (·.size)=ZV 2:=by kernel_rfl
theorem JV:(prog.info? 5).map (fun i=>(i.zero,i.size,i.bytes))=ZV (ZV (.int .u8 0),1,1):=by kernel_rfl
theorem liesBuilder:liesAt ZW prog.depth 194 (2 / prog.cellsOf 194) 0 194 1=Zy:=by kernel_rfl
theorem C0 (b:Nat) (w:Z3) (h0:w.cell? ⟨b,0,ZU⟩=ZV (Zv (ZV ⟨b,0,ZU⟩))):
 Calls ZW 236 #[Zv (ZV ⟨b,0,ZU⟩)] w fun e w'=>e=ZX (.tuple #[])/\w'=w:=by
 obtain ⟨j,hj,_⟩:=Option.map_eq_some_iff.1 nY;have hne:∀W:Z3,(binOp .neq 191 (Zv (ZV ⟨b,0,ZU⟩)) (Zv (ZV ⟨b,0,ZU⟩))).run ZW W=.ok (.bool Zz) W:=fun W=>Lib.run_neq_ptr_same W _ underlying191 hj
 go_enter func236,ntmps236;go_wp2
 go_end0
 exact ⟨rfl,rfl⟩
theorem yA (b:Nat) (w:Z3) (h0:w.cell? ⟨b,0,ZU⟩=ZV (Zv ZU)) (hsh:w.shape? b=ZV (194,2)) (hfz:w.frozen? ⟨b,0,ZU⟩=Zz):
 Calls ZW 236 #[Zv (ZV ⟨b,0,ZU⟩)] w fun e w'=>e=ZX (.tuple #[])/\w'=w.setCell ⟨b,0,ZU⟩ (Zv (ZV ⟨b,0,ZU⟩)):=by
 obtain ⟨j,hj,hjs⟩:=Option.map_eq_some_iff.1 nY
 have hto:(convert 191 313 (Zv (ZV ⟨b,0,ZU⟩))).run ZW w=.ok (Zv (ZV ⟨b,0,ZU⟩)) w:=
  Lib.run_to_unsafe w ⟨b,0,ZU⟩ underlying191 underlying313 hj (by rw [hjs];decide) hsh (Nat.zero_lt_succ 1)
 have hno:(callFunc 282 #[Zv (ZV ⟨b,0,ZU⟩)]).run ZW w=.ok (.value (Zv (ZV ⟨b,0,ZU⟩))) w:=by
  rw [run_callFunc_extern func282 qnx qnx qnx (e:=Extern.AbiNoEscape.same) qnx,Lib.run_noEscape];rfl
 have hfrom:(convert 313 191 (Zv (ZV ⟨b,0,ZU⟩))).run ZW w=.ok (Zv (ZV ⟨b,0,ZU⟩)) w:=
  Lib.run_from_unsafe w ⟨b,0,ZU⟩ underlying313 underlying191 hj hsh liesBuilder
 go_enter func236,ntmps236;go_wp2
 go_end0
 exact ⟨rfl,rfl⟩
theorem DX (B b:Nat) (bs:List Value) (w:Z3) (h:Lib.IsBuilderF 194 5 B b bs w):
 Calls ZW 236 #[Zv (ZV ⟨b,0,ZU⟩)] w fun e w'=>e=ZX (.tuple #[])/\Lib.BuilderAtF 194 5 B b (Zv (ZV ⟨b,0,ZU⟩)) bs w'/\Z2 B w w'/\Lib.OthersKept 5 (ZV b) w w':=by
 rcases h with h|h
 ·refine (yA b w h.cell0 h.shape h.frozen0).mono fun e w' ⟨he,hw⟩=>?_
  subst hw;exact ⟨he,h.used _,(Below.refl B w).setCell (p:=⟨b,0,ZU⟩) h.1 _,(Lib.OthersKept.refl _ _ _).setCell ⟨b,0,ZU⟩ rfl _⟩
 ·refine (C0 b w h.cell0).mono fun e w' ⟨he,hw⟩=>?_
  subst hw;exact ⟨he,h,Below.refl B _,Lib.OthersKept.refl _ _ _⟩
theorem CP (B b:Nat) (bs:List Value) (s:ByteArray) (w:Z3) (h:Lib.IsBuilderF 194 5 B b bs w) (hlen:bs.length+s.size<=140737488355328) (hBw:B<=w.heap.size):
 Calls ZW 183 #[Zv (ZV ⟨b,0,ZU⟩),.string s] w fun e w'=>e=ZX (.tuple #[ZZ ZY s.size,.nilIface])/\Lib.IsBuilderF 194 5 B b (bs++Lib.strCells s) w'/\Z2 B w w'/\Lib.OthersKept 5 (ZV b) w w':=by
 obtain ⟨i0,hi,hz0,hz1,hz2⟩:=info_parts JV;have HI:=qf hi;have HZ0:=qf hz0;have HZ1:=qf hz1;have HZ2:=qf hz2;have HC:=qf (DX B b bs w h);clear hi hz0 hz1 hz2 h;go_enter func183,ntmps183;go_wp2_with fail;refine HC.out.mono ?_;rintro e w1 ⟨rfl,hbu,hb1,hk1⟩;obtain ⟨hB,v,hbk,hown,hne⟩:=hbu;have c0:w1.cell? ⟨b,0,ZU⟩=ZV (Zv (ZV ⟨b,0,ZU⟩)):=(by rw [Lib.cell_of_heap hbk];rfl);have c1:w1.cell? ⟨b,1,ZU⟩=ZV v:=(by rw [Lib.cell_of_heap hbk];rfl);have HO:=qf hown;have HK:=qf hbk;have HN:=qf hne;have HH:=qf (And.intro hb1 hk1);clear hown hbk hne hb1 hk1
 go_wp2_with (at_builtin;refine Lib.wpList_append_own_stringF _ rfl _ _ 192 9 rfl B 5 i0 underlying192 underlying9 HI.out HZ0.out HZ1.out HZ2.out _ _ _ rfl HO.out s rfl ?c3 ?c4 ?c5 ?_)
 case c3=>exact qmE
 case c4=>omega
 case c5=>have:=HH.out.1.size;omega
 intro v' w2 hown' hgrow _;have hlt:b<w1.heap.size:=Lib.lt_of_cell c0
 have hb2:w2.heap[b]? =ZV (.cells #[Zv (ZV ⟨b,0,ZU⟩),v] 194 (0,0)):=by
  rw [hgrow.block b hlt (fun e=>HN.out e.symm)];exact HK.out
 have d0:w2.cell? ⟨b,0,ZU⟩=ZV (Zv (ZV ⟨b,0,ZU⟩)):=(by rw [Lib.cell_of_heap hb2];rfl);have d1:w2.cell? ⟨b,1,ZU⟩=ZV v:=(by rw [Lib.cell_of_heap hb2];rfl);have f1:w2.frozen? ⟨b,1,ZU⟩=Zz:=Lib.frozen_of_heap hb2 1;have HF:Hid (Lib.IsBuilderF 194 5 B b (bs++Lib.strCells s) (w2.setCell ⟨b,1,ZU⟩ v')):=qf (.inr (Lib.BuilderAtF.put (T:=194) (e:=5) hB hb2 (bs':=bs++Lib.strCells s) (by simpa [Lib.strCells_length] using hown') qnv));have HG:Hid (Z2 B w (w2.setCell ⟨b,1,ZU⟩ v')):=qf ((HH.out.1.grown hgrow (by have:=HH.out.1.size;omega) (fun k hk=>(HO.out.lt k hk).1)).setCell (p:=⟨b,1,ZU⟩) hB _);have HL:Hid (Lib.OthersKept 5 (ZV b) w (w2.setCell ⟨b,1,ZU⟩ v')):=qf ((HH.out.2.grown hgrow (Lib.ownsRowF_kind HO.out)).setCell ⟨b,1,ZU⟩ rfl _)
 obtain ⟨ao,n',cap,rfl⟩:∃ao n' cap,v'=Zw ao n' cap:=by
  rcases hown'.2 with ⟨hv,_⟩|⟨g,cap,cur,fz,hv,_⟩
  ·exact ⟨_,_,_,hv⟩
  ·exact ⟨_,_,_,hv⟩
 clear hown' hgrow hb2 c0 c1;go_wp2_with fail;go_ret2;exact ⟨rfl,HF.out,HG.out,HL.out⟩
theorem vY:Builder.Extra ZW lays169_ren where
 sizeBuilder:=qnx
 liesBuilder:=qnx
 t5:=underlying5
 a5:=isAgg5
 z5:=sizeOf5
 v5:=zeroValue5
 infoByte:=qnx
 cellsByte:=qnx
 sizeByte:=qnx
 neB5:=qnv
theorem xK (B b:Nat) (l:List UInt8) (w:Z3) (h:Lib.IsBuilderF 194 5 B b (Lib.byteCells l) w) (hBw:B<=w.heap.size):
 Calls ZW 134 #[Zv (ZV ⟨b,0,ZU⟩)] w fun e w'=>e=ZX (Zx ⟨l.toArray⟩)/\Z2 B w w':=
 (Any.Builder_String_any_k lays169 vY B b l w h hBw).mono fun e w' ⟨he,_,hb,_⟩=>⟨he,hb⟩
end
structure Nd where
 kY:Int
 refs:List Int
 nums:List Int
 text:List UInt8
deriving Inhabited,DecidableEq
def sB (out:List Int) (r:Int):Int:=if r<0 then out.getD (-1 - r).toNat 0 else r
open Classical in
structure Lk where
 at_:Int
 rd:List Int
deriving Inhabited
def okN (n:Int):Prop:=0<=n/\n<=1023
def OkK (L:List Lk):Prop:=∀x∈L,okN x.at_/\∀r∈x.rd,okN r
def jd (L:List Lk):Prop:=L.Pairwise fun a b=>a.at_≠b.at_
inductive Hng (L:List Lk) (on:List Int):Int->Prop
 |now (x:Lk) (hx:x∈L) (r:Int) (hr:r∈x.rd) (ho:r∈on):Hng L on x.at_
 |more (x:Lk) (hx:x∈L) (r:Int) (hr:r∈x.rd) (h:Hng L on r):Hng L on x.at_
def isN (L:List Lk) (n:Int):Prop:=∃x∈L,x.at_=n
def bS (L:List Lk) (n:Int):Prop:=Hng L [n] n
theorem eW {L:List Lk} {on:List Int} {n:Int} (h:Hng L on n):isN L n:=by
 cases h with
 |now x hx r hr ho=>exact ⟨x,hx,rfl⟩
 |more x hx r hr h=>exact ⟨x,hx,rfl⟩
theorem dB {L:List Lk} {on:List Int} {n:Int} (h:Hng L [m] n) (hm:Hng L on m):Hng L on n:=by
 induction h with
 |now x hx r hr ho=>
  obtain rfl:r=m:=(by simpa using ho);exact .more x hx r hr hm
 |more x hx r hr _ ih=>exact .more x hx r hr ih
theorem yR {L:List Lk} {on:List Int} {n:Int}:Hng L on n↔∃x∈L,x.at_=n/\∃r∈x.rd,r∈on\/Hng L on r:=by
 constructor
 ·intro h
  cases h with
  |now x hx r hr ho=>exact ⟨x,hx,rfl,r,hr,.inl ho⟩
  |more x hx r hr h=>exact ⟨x,hx,rfl,r,hr,.inr h⟩
 ·rintro ⟨x,hx,rfl,r,hr,h|h⟩
  ·exact .now x hx r hr h
  ·exact .more x hx r hr h
theorem jk {L:List Lk} {on:List Int} {P:Int->Prop} (hc:∀x∈L,(∃r∈x.rd,r∈on\/P r)->P x.at_) {n:Int} (h:Hng L on n):P n:=by
 induction h with
 |now x hx r hr ho=>exact hc x hx ⟨r,hr,.inl ho⟩
 |more x hx r hr _ ih=>exact hc x hx ⟨r,hr,.inr ih⟩
noncomputable def jf (P:Int->Prop):Nat->List Int
 |0=>[]
 |k+1=>jf P k++(haveI:=Classical.propDecidable (P (k:Int));if P (k:Int) then [(k:Int)] else [])
theorem im {P:Int->Prop}:∀{k:Nat} {n:Int},n∈jf P k↔0<=n/\n<(k:Int)/\P n
 |0,n=>by
  rw [jf];constructor
  ·intro h;cases h
  ·rintro ⟨h1,h2,_⟩;omega
 |k+1,n=>by
  rw [jf,List.mem_append,im];constructor
  ·rintro (⟨h1,h2,h3⟩|h)
   ·exact ⟨h1,qoq,h3⟩
   ·split at h
    ·rename_i hp
     obtain rfl:n=(k:Int):=qoA;exact ⟨qoq,qoq,hp⟩
    ·cases h
  ·rintro ⟨h1,h2,h3⟩
   by_cases e:n=(k:Int)
   ·subst e
    refine .inr ?_;rw [if_pos h3];exact List.mem_singleton.2 rfl
   ·exact .inl ⟨h1,qoq,h3⟩
theorem fQ (P:Int->Prop):∀k:Nat,(jf P k).Pairwise (·<·)
 |0=>List.Pairwise.nil
 |k+1=>by
  rw [jf];refine List.pairwise_append.2 ⟨fQ P k,?_,fun a ha b hb=>?_⟩
  ·split
   ·exact List.pairwise_singleton _ _
   ·exact List.Pairwise.nil
  ·have h1:=(im.1 ha).2.1
   split at hb
   ·obtain rfl:b=(k:Int):=by simpa using hb
    exact h1
   ·cases hb
theorem eF (P:Int->Prop):∀k:Nat,(jf P k).length<=k
 |0=>qd
 |k+1=>by
  rw [jf,List.length_append];have:=eF P k;split
  ·simp;omega
  ·simp;omega
theorem ie (P:Int->Prop) (k:Nat):(jf P k).Nodup:=(fQ P k).imp fun {a b} h e=>by omega
noncomputable def bI (L:List Lk) (k:Nat):List Int:=jf (isN L) k
noncomputable def eO (L:List Lk) (k:Nat):List Int:=jf (bS L) k
theorem dz {L:List Lk} (h:OkK L) {n:Int} (hn:isN L n):0<=n/\n<1024:=by
 obtain ⟨x,hx,rfl⟩:=hn;have:=(h x hx).1;unfold okN at this;omega
theorem dP {L:List Lk} (h:OkK L) {n:Int}:n∈bI L 1024↔isN L n:=by
 unfold bI;rw [im];exact ⟨fun q=>q.2.2,fun q=>⟨(dz h q).1,(dz h q).2,q⟩⟩
theorem jT {L:List Lk} (h:OkK L) {n:Int}:n∈eO L 1024↔bS L n:=by
 unfold eO;rw [im];exact ⟨fun q=>q.2.2,fun q=>⟨(dz h (eW q)).1,(dz h (eW q)).2,q⟩⟩
theorem tX {L:List Lk} (h:OkK L) (hd:jd L):(bI L 1024).length=L.length:=by
 have hp:(bI L 1024).Perm (L.map Lk.at_):=by
  refine (List.perm_ext_iff_of_nodup (ie _ _) ?_).2 fun n=>?_
  ·exact List.pairwise_map.2 hd
  ·show n∈bI L 1024↔_
   rw [dP h,List.mem_map];rfl
 rw [hp.length_eq,List.length_map]
/- the order -/
def kR (L:List Lk) (told:List Int) (n:Int):Prop:=isN L n/\¬bS L n/\n∉told/\∀x∈L,x.at_=n->∀r∈x.rd,isN L r->¬bS L r->r∈told
noncomputable def dC (P:Int->Prop):Nat->Option Int
 |0=>ZU
 |k+1=>match dC P k with
  |some n=>ZV n
  |none=>haveI:=Classical.propDecidable (P (k:Int));if P (k:Int) then ZV (k:Int) else ZU
theorem jr {P:Int->Prop}:∀{k:Nat} {n:Int},dC P k=ZV n->0<=n/\n<(k:Int)/\P n
 |0,n,h=>by cases h
 |k+1,n,h=>by
  rw [dC] at h;cases e:dC P k with
  |some m=>
   rw [e] at h;have:=jr e;obtain rfl:m=n:=qoA;exact ⟨this.1,qoq,this.2.2⟩
  |none=>
   rw [e] at h;dsimp only at h;split at h
   ·rename_i hp
    obtain rfl:(k:Int)=n:=qoA;exact ⟨qoq,qoq,hp⟩
   ·cases h
theorem jp {P:Int->Prop}:∀{k:Nat},dC P k=ZU↔∀n:Int,0<=n->n<(k:Int)->¬P n
 |0=>⟨fun _ n h1 h2=>by omega,fun _=>rfl⟩
 |k+1=>by
  rw [dC];cases e:dC P k with
  |some m=>
   have:=jr e;constructor
   ·intro h;cases h
   ·intro h;exact absurd this.2.2 (h m this.1 qoq)
  |none=>
   dsimp only;constructor
   ·intro h n h1 h2
    by_cases q:n=(k:Int)
    ·subst q
     split at h
     ·cases h
     ·assumption
    ·exact jp.1 e n h1 qoq
   ·intro h
    rw [if_neg (h (k:Int) qoq qoq)]
theorem tV {P:Int->Prop} {k:Nat} (h:dC P k=ZU) (hp:P (k:Int)):∀{m:Nat},k<m->dC P m=ZV (k:Int)
 |0,hm=>by omega
 |m+1,hm=>by
  rw [dC];by_cases e:k=m
  ·subst e
   rw [h];exact if_pos hp
  ·rw [tV h hp qoq]
noncomputable def jL (L:List Lk) (N:Nat):Nat->List Int->List Int
 |0,told=>told
 |k+1,told=>match dC (kR L told) N with
  |none=>told
  |some n=>jL L N k (told++[n])
noncomputable def gm (L:List Lk) (N:Nat):List Int:=jL L N (N+1) []
structure ib (L:List Lk) (told:List Int):Prop where
 nd:told.Nodup
 nod:∀n∈told,isN L n/\¬bS L n
 behind:∀(i:Nat) (n:Int),told[i]? =ZV n->∀x∈L,x.at_=n->∀r∈x.rd,isN L r->¬bS L r->r∈told.take i
theorem ib.nil (L:List Lk):ib L []:=⟨List.nodup_nil,fun n h=>qoO,fun i n h=>qoO⟩
theorem ib.next {L:List Lk} (h:ib L told) {n:Int} (hr:kR L told n):ib L (told++[n]) where
 nd:=List.nodup_append.2 ⟨h.nd,qns,fun a ha b hb e=>by
  obtain rfl:b=n:=qqH;exact hr.2.2.1 (e▸ha)⟩
 nod:=fun m hm=>by
  rcases List.mem_append.1 hm with q|q
  ·exact h.nod m q
  ·obtain rfl:m=n:=by simpa using q
   exact ⟨hr.1,hr.2.1⟩
 behind:=fun i m hi x hx hxm r hrr h1 h2=>by
  by_cases q:i<told.length
  ·rw [List.getElem?_append_left q] at hi
   have:=h.behind i m hi x hx hxm r hrr h1 h2;rw [List.take_append_of_le_length qoq];exact this
  ·have hi1:=(List.getElem?_eq_some_iff.1 hi).1
   rw [List.length_append,List.length_singleton] at hi1;obtain rfl:i=told.length:=qoq;rw [List.getElem?_append_right qd,Nat.sub_self] at hi;obtain rfl:n=m:=qph;rw [List.take_append_of_le_length qd,List.take_length];exact hr.2.2.2 x hx hxm r hrr h1 h2
theorem jV {L:List Lk} (hk:OkK L) (h:ib L told):told.length<=1024:=by
 have hs:told.length<=(bI L 1024).length:=by
  have hp:((bI L 1024).filter fun n=>decide (n∈told)).Perm told:=by
   refine (List.perm_ext_iff_of_nodup ((ie _ _).filter _) h.nd).2 fun n=>?_
   rw [List.mem_filter];exact ⟨fun q=>by simpa using q.2,fun q=>⟨(dP hk).2 (h.nod n q).1,(by simpa using q)⟩⟩
  rw [<-hp.length_eq];exact List.length_filter_le _ _
 exact Nat.le_trans hs (eF _ _)
theorem s9 {L:List Lk} {N:Nat}:∀(k:Nat) {told:List Int},ib L told->ib L (jL L N k told)
 |0,_,h=>h
 |k+1,told,h=>by
  rw [jL];cases e:dC (kR L told) N with
  |none=>exact h
  |some n=>exact s9 k (h.next (jr e).2.2)
theorem Jm {L:List Lk} (hn:∀n,¬kR L told n):∀n,isN L n->¬bS L n->n∈told:=by
 let U:Int->Prop:=fun n=>isN L n/\¬bS L n/\n∉told
 have step:∀u,U u->∃r,U r/\Hng L [r] u:=fun u hu=>by
  have h1:=hn u;have h2:¬∀x∈L,x.at_=u->∀r∈x.rd,isN L r->¬bS L r->r∈told:=fun q=>h1 ⟨hu.1,hu.2.1,hu.2.2,q⟩
  obtain ⟨x,q⟩:=Classical.not_forall.1 h2;obtain ⟨hx,q⟩:=Classical.not_imp.1 q;obtain ⟨hxu,q⟩:=Classical.not_imp.1 q;obtain ⟨r,q⟩:=Classical.not_forall.1 q;obtain ⟨hr,q⟩:=Classical.not_imp.1 q;obtain ⟨h3,q⟩:=Classical.not_imp.1 q;obtain ⟨h4,h5⟩:=Classical.not_imp.1 q;exact ⟨r,⟨h3,h4,h5⟩,hxu▸.now x hx r hr (List.mem_singleton.2 rfl)⟩
 have key:∀(k:Nat) (u:Int),U u->((L.map Lk.at_).filter fun v=>haveI:=Classical.propDecidable (Hng L [v] u);decide (Hng L [v] u)).length<=k->False:=by
  intro k;induction k with
  |zero=>
   intro u hu hl;obtain ⟨r,hr,hh⟩:=step u hu;obtain ⟨x,hx,hxr⟩:=hr.1
   have hm:r∈((L.map Lk.at_).filter fun v=>haveI:=Classical.propDecidable (Hng L [v] u);decide (Hng L [v] u)):=by
    rw [List.mem_filter];exact ⟨List.mem_map.2 ⟨x,hx,hxr⟩,(by simpa using hh)⟩
   have:=List.length_pos_of_mem hm;omega
  |succ k ih=>
   intro u hu hl;obtain ⟨r,hr,hh⟩:=step u hu;obtain ⟨x,hx,hxr⟩:=hr.1;refine ih r hr ?_
   have hlt:((L.map Lk.at_).filter fun v=>haveI:=Classical.propDecidable (Hng L [v] r);decide (Hng L [v] r)).length<((L.map Lk.at_).filter fun v=>haveI:=Classical.propDecidable (Hng L [v] u);decide (Hng L [v] u)).length:=by
    rw [<-List.countP_eq_length_filter,<-List.countP_eq_length_filter]
    have hle:∀l:List Int,l.countP (fun v=>haveI:=Classical.propDecidable (Hng L [v] r);decide (Hng L [v] r))<=l.countP (fun v=>haveI:=Classical.propDecidable (Hng L [v] u);decide (Hng L [v] u)):=fun l=>List.countP_mono_left fun v _ hv=>by
     have hv:Hng L [v] r:=(by simpa using hv);simpa using dB hh hv
    obtain ⟨l1,l2,hl12⟩:=List.append_of_mem (List.mem_map.2 ⟨x,hx,hxr⟩:r∈L.map Lk.at_);rw [hl12,List.countP_append,List.countP_append,List.countP_cons,List.countP_cons];have h1:=hle l1;have h2:=hle l2;have h3:¬Hng L [r] r:=hr.2.1;simp only [h3,hh,decide_true,decide_false,if_true,Bool.false_eq_true,if_false];omega
   omega
 intro n h1 h2;exact Classical.byContradiction fun h3=>key _ n ⟨h1,h2,h3⟩ qd
theorem wM {L:List Lk} (hk:OkK L):∀(k:Nat) {told:List Int},ib L told->1025<=k+told.length->dC (kR L (jL L 1024 k told)) 1024=ZU
 |0,told,h,hl=>by have:=jV hk h;omega
 |k+1,told,h,hl=>by
  rw [jL];cases e:dC (kR L told) 1024 with
  |none=>exact e
  |some n=>exact wM hk k (h.next (jr e).2.2) (by rw [List.length_append,List.length_singleton];omega)
theorem kj (L:List Lk) (N:Nat):ib L (gm L N):=s9 _ (ib.nil L)
theorem jY {L:List Lk} (hk:OkK L) (hN:N=1024) {n:Int}:n∈gm L N↔isN L n/\¬bS L n:=by
 subst hN;refine ⟨fun h=>(kj L 1024).nod n h,fun h=>?_⟩;have he:=wM hk 1025 (ib.nil L) qns;exact Jm (fun m hm=>jp.1 he m (dz hk hm.1).1 (dz hk hm.1).2 hm) n h.1 h.2
theorem x9 {L:List Lk} (hk:OkK L) (hd:jd L) (hN:N=1024):(gm L N).length+(eO L N).length=L.length:=by
 rw [<-tX hk hd]
 have hp:(gm L N++eO L N).Perm (bI L 1024):=by
  refine (List.perm_ext_iff_of_nodup (List.nodup_append.2 ⟨(kj L N).nd,ie _ _,fun a ha b hb e=>?_⟩) (ie _ _)).2 fun n=>?_
  ·subst e
   have h1:=((jY hk hN).1 ha).2;subst hN;exact h1 ((jT hk).1 hb)
  ·subst hN
   show n∈gm L 1024++eO L 1024↔n∈bI L 1024
   rw [List.mem_append,jY hk rfl,dP hk,jT hk];constructor
   ·rintro (h|h)
    ·exact h.1
    ·exact eW h
   ·intro h
    by_cases q:bS L n
    ·exact .inr q
    ·exact .inl ⟨h,q⟩
 rw [<-hp.length_eq,List.length_append]
theorem FW {L:List Lk} {on:List Int} (h1:∀n∈found,Hng L on n) (hc:∀x∈L,(∃r∈x.rd,r∈on\/r∈found)->x.at_∈found) (n:Int):n∈found↔Hng L on n:=
 ⟨h1 n,fun h=>jk (P:=fun n=>n∈found) hc h⟩
theorem kh {L:List Lk} (hd:found.Nodup) (h:∀n∈found,isN L n):found.length<=L.length:=by
 have hsub:∀n∈found,n∈L.map Lk.at_:=fun n hn=>by
  obtain ⟨x,hx,e⟩:=h n hn;exact List.mem_map.2 ⟨x,hx,e⟩
 have key:∀(l m:List Int),l.Nodup->(∀n∈l,n∈m)->l.length<=m.length:=by
  intro l;induction l with
  |nil=>intro m _ _;exact qe
  |cons a l ih=>
   intro m hn hs;obtain ⟨h1,h2⟩:=List.nodup_cons.1 hn;have ha:a∈m:=hs a List.mem_cons_self;have:=ih (m.erase a) h2 fun n hnl=>(List.mem_erase_of_ne (fun e=>h1 (by rw [<-e];exact hnl))).2 (hs n (List.mem_cons_of_mem _ hnl))
   rw [List.length_erase_of_mem ha] at this;have hp:=List.length_pos_of_mem ha;rw [List.length_cons];omega
 have:=key found (L.map Lk.at_) hd hsub;rwa [List.length_map] at this
theorem Gj {L:List Lk} {k:Nat} {n:Int} (h:dC (kR L told) N=ZV n):jL L N (k+1) told=jL L N k (told++[n]):=by rw [jL,h]
section
def bc (w:Z3) (P:Nat->Prop) (A:Option Addr) (l:List Int):Prop:=l=[]\/∃g o,A=ZV ⟨g,o,ZU⟩/\P g/\g<w.heap.size/\∀(i:Nat) (x:Int),l[i]? =ZV x->w.cell? ⟨g,o+i,ZU⟩=ZV (ZZ ZY x)
theorem bc.kept {P:Nat->Prop} {A:Option Addr} (h:bc w P A l) (hk:Kept w w' P):bc w' P A l:=by
 rcases h with h|⟨g,o,rfl,hp,hl,hc⟩
 ·exact .inl h
 ·exact .inr ⟨g,o,rfl,hp,Nat.lt_of_lt_of_le hl hk.size,fun i x hi=>hk.cell hp (hc i x hi)⟩
theorem bc.mono {P Q:Nat->Prop} {A:Option Addr} (h:bc w P A l) (hpq:∀g,P g->g<w.heap.size->Q g):bc w Q A l:=qjN
theorem bc.below {P:Nat->Prop} {A:Option Addr} (h:bc w P A l) (hb:Z2 w.heap.size w w'):bc w' P A l:=h.kept (Kept.of_below hb)
def inW (x:Int):List Value:=[ZZ ZY x]
def At4 (w:Z3) (g o:Nat) (n:Nd) (A:Option Addr) (ca:Nat) (B:Option Addr) (cb:Nat):Prop:=
 w.cell? ⟨g,o,ZU⟩=ZV (ZZ ZY n.kY)/\w.cell? ⟨g,o+1,ZU⟩=ZV (Zw A n.refs.length ca)/\w.cell? ⟨g,o+2,ZU⟩=ZV (Zw B n.nums.length cb)/\w.cell? ⟨g,o+3,ZU⟩=ZV (Zx ⟨n.text.toArray⟩)
theorem At4.kept {P:Nat->Prop} {o:Nat} {n:Nd} {A B:Option Addr} {ca cb:Nat} (h:At4 w g o n A ca B cb) (hk:Kept w w' P) (hp:P g):At4 w' g o n A ca B cb:=
 ⟨hk.cell hp h.1,hk.cell hp h.2.1,hk.cell hp h.2.2.1,hk.cell hp h.2.2.2⟩
structure NdM where
 n:Nd
 A:Option Addr
 ca:Nat
 B:Option Addr
 cb:Nat
deriving Inhabited
structure aP (P:Nat->Prop) (w w':Z3):Prop where
 os:w'.os=w.os
 tape:w'.tape=w.tape
 output:w'.output=w.output
 size:w.heap.size<=w'.heap.size
 block:∀k,k<w.heap.size->¬P k->w'.heap[k]? =w.heap[k]?
section
variable {P Q:Nat->Prop} {a b c w w':Z3}
theorem aP.refl (P:Nat->Prop) (w:Z3):aP P w w:=⟨rfl,rfl,rfl,qd,fun _ _ _=>rfl⟩
theorem aP.trans' (h:aP P a b) (k:aP Q b c) (hq:∀g,g<a.heap.size->Q g->P g):aP P a c:=
 ⟨k.os.trans h.os,k.tape.trans h.tape,k.output.trans h.output,Nat.le_trans h.size k.size,fun i hi hn=>(k.block i (Nat.lt_of_lt_of_le hi h.size) (fun e=>hn (hq i hi e))).trans (h.block i hi hn)⟩
theorem aP.trans (h:aP P a b) (k:aP P b c):aP P a c:=h.trans' k fun _ _ e=>e
theorem aP.of_below (h:Z2 w.heap.size w w'):aP P w w':=⟨h.os,h.tape,h.output,h.size,fun k hk _=>h.block k hk⟩
theorem aP.alloc (h:aP P a w) (o:Obj):aP P a (w.alloc o):=h.trans (aP.of_below (qb.alloc qd o))
theorem aP.drew (h:aP P a w):aP P a w.drew:=⟨h.os,h.tape,h.output,h.size,h.block⟩
theorem aP.setCell (h:aP P a w) (hp:P p.block\/a.heap.size<=p.block) (u:Value):aP P a (w.setCell p u):=by
 have hb:=qgE;refine ⟨hb.os.trans h.os,hb.tape.trans h.tape,hb.output.trans h.output,Nat.le_trans h.size hb.size,fun k hk hn=>?_⟩;rw [Below.heap_setCell w p u k (by rcases hp with hp|hp;exact fun e=>hn (e▸hp);exact fun e=>by omega)];exact h.block k hk hn
theorem aP.drewN (h:aP P a w) (n:Nat):aP P a (w.drewN n):=h.trans (aP.of_below (below_drewN qb n))
theorem aP.kept (h:aP P w w'):Kept w w' (fun g=>¬P g):=⟨h.size,fun g hp hl=>h.block g hl hp⟩
theorem aP.keptQ (h:aP P w w') (hpq:∀g,Q g->¬P g):Kept w w' Q:=⟨h.size,fun g hp hl=>h.block g hl (hpq g hp)⟩
theorem aP.below {n:Nat} (h:aP P w w') (hn:∀k,k<n->¬P k) (hs:n<=w.heap.size):Z2 n w w':=⟨h.os,h.tape,h.output,h.size,fun k hk=>h.block k qoq (hn k hk)⟩
theorem aP.cell (h:aP P w w') (hne:¬P p.block) (hv:w.cell? p=ZV v):w'.cell? p=ZV v:=qkt
theorem aP.frozen (h:aP P w w') (hne:¬P p.block) (hl:p.block<w.heap.size) (hv:w.frozen? p=Zz):w'.frozen? p=Zz:=qkU
theorem aP.grown (h:aP P a w) (hg:w.grownBy w' row) (hr:∀k,row=ZV k->P k\/a.heap.size<=k):aP P a w':=
 ⟨hg.os.trans h.os,hg.tape.trans h.tape,hg.output.trans h.output,Nat.le_trans h.size hg.size,fun k hk hn=>(hg.block k (Nat.lt_of_lt_of_le hk h.size) (fun e=>by rcases hr k e.symm with h'|h';exact hn h';omega)).trans (h.block k hk hn)⟩
theorem aP.mono (h:aP P a w) (hpq:∀g,P g->Q g):aP Q a w:=⟨h.os,h.tape,h.output,h.size,fun k hk hn=>h.block k hk fun e=>hn (hpq k e)⟩
structure MC (w:Z3) (m room:Nat) (vN vB:Value):Prop where
 c0:w.cell? ⟨m,0,ZU⟩=ZV (ZZ ZY (room:Int))
 c1:w.cell? ⟨m,1,ZU⟩=ZV vN
 c2:w.cell? ⟨m,2,ZU⟩=ZV vB
 fM:∀j,w.frozen? ⟨m,j,ZU⟩=Zz
section
variable {m room:Nat} {vN vB:Value}
theorem MC.lt (h:MC w m room vN vB):m<w.heap.size:=Lib.lt_of_cell h.c0
theorem MC.block (h:MC w m room vN vB) (hb:w'.heap[m]? =w.heap[m]?):MC w' m room vN vB:=
 ⟨(by rw [World.cell?_of_block (w:=w) hb];exact h.c0),(by rw [World.cell?_of_block (w:=w) hb];exact h.c1),(by rw [World.cell?_of_block (w:=w) hb];exact h.c2),fun j=>by rw [World.frozen?_of_block (w:=w) hb];exact h.fM j⟩
theorem MC.grown (h:MC w m room vN vB) (hg:w.grownBy w' row) (hr:ZV m≠row):MC w' m room vN vB:=h.block (hg.block m h.lt hr)
theorem MC.below (h:MC w m room vN vB) (hb:Z2 w.heap.size w w'):MC w' m room vN vB:=h.block (hb.block m h.lt)
theorem MC.alloc (h:MC w m room vN vB) (o:Obj):MC (w.alloc o) m room vN vB:=h.below (qb.alloc qd o)
theorem MC.set (h:MC w m room vN vB) (hp:p.block≠m) (u:Value):MC (w.setCell p u) m room vN vB:=h.block (Below.heap_setCell w p u m fun e=>hp e.symm)
theorem MC.set1 (h:MC w m room vN vB) (u:Value):MC (w.setCell ⟨m,1,ZU⟩ u) m room u vB:=
 ⟨qqi,World.cell?_setCell_same _ _ _ h.c1,(by rw [World.cell?_setCell_other _ _ _ _ qns];exact h.c2),fun j=>by rw [World.frozen?_setCell];exact h.fM j⟩
theorem MC.set2 (h:MC w m room vN vB) (u:Value):MC (w.setCell ⟨m,2,ZU⟩ u) m room vN u:=
 ⟨qqi,(by rw [World.cell?_setCell_other _ _ _ _ qns];exact h.c1),World.cell?_setCell_same _ _ _ h.c2,fun j=>by rw [World.frozen?_setCell];exact h.fM j⟩
end
theorem Pe {l:List Nd} (h:∀(i:Nat) (n:Nd),l[i]? =ZV n->∃B cb C cc,At4 w g (i*4) n B cb C cc/\bc w P B n.refs/\bc w P C n.nums):
 ∃L:List NdM,L.map NdM.n=l/\(∀(i:Nat) (q:NdM),L[i]? =ZV q->At4 w g (i*4) q.n q.A q.ca q.B q.cb)/\∀q∈L,bc w P q.A q.n.refs/\bc w P q.B q.n.nums:=by
 have key:∀i,i<l.length->∃q:NdM,l[i]? =ZV q.n/\At4 w g (i*4) q.n q.A q.ca q.B q.cb/\bc w P q.A q.n.refs/\bc w P q.B q.n.nums:=fun i hi=>by
  obtain ⟨B,cb,C,cc,h4,hr,hn⟩:=h i _ (List.getElem?_eq_getElem hi);exact ⟨⟨_,B,cb,C,cc⟩,List.getElem?_eq_getElem hi,h4,hr,hn⟩
 obtain ⟨F,hF⟩:∃F:Nat->NdM,∀i,i<l.length->l[i]? =ZV (F i).n/\At4 w g (i*4) (F i).n (F i).A (F i).ca (F i).B (F i).cb/\bc w P (F i).A (F i).n.refs/\bc w P (F i).B (F i).n.nums:=by
  refine ⟨fun i=>if hi:i<l.length then (key i hi).choose else default,fun i hi=>?_⟩;simp only [dif_pos hi];exact (key i hi).choose_spec
 refine ⟨(List.range l.length).map F,?_,fun i q hq=>?_,fun q hq=>?_⟩
 ·apply List.ext_getElem?
  intro i;by_cases hi:i<l.length
  ·rw [List.getElem?_map,List.getElem?_map,List.getElem?_range hi,(hF i hi).1];rfl
  ·rw [List.getElem?_eq_none_iff.2 qnu,List.getElem?_eq_none_iff.2 qoq]
 ·have hi:i<l.length:=by have:=(List.getElem?_eq_some_iff.1 hq).1;simpa using this
  rw [List.getElem?_map,List.getElem?_range hi] at hq;obtain rfl:=Option.some.inj hq;exact (hF i hi).2.1
 ·obtain ⟨i,hi,rfl⟩:=List.mem_map.1 hq
  exact (hF i (List.mem_range.1 hi)).2.2
theorem Pc {L:List NdM} (h:∀(i:Nat) (q:NdM),L[i]? =ZV q->At4 w g (i*4) q.n q.A q.ca q.B q.cb) (hr:∀q∈L,bc w P q.A q.n.refs/\bc w P q.B q.n.nums):
 ∀(i:Nat) (n:Nd),(L.map NdM.n)[i]? =ZV n->∃B cb C cc,At4 w g (i*4) n B cb C cc/\bc w P B n.refs/\bc w P C n.nums:=fun i n hi=>by
 rw [List.getElem?_map] at hi;cases hq:L[i]? with
 |none=>rw [hq] at hi;cases hi
 |some q=>
  rw [hq] at hi;obtain rfl:=Option.some.inj hi;exact ⟨_,_,_,_,h i q hq,hr q (List.mem_of_getElem? hq)⟩
end
end
theorem bc.at {P:Nat->Prop} {A:Option Addr} (h:bc w P A l) (hi:i<l.length):∃g o,A=ZV ⟨g,o,ZU⟩/\P g/\g<w.heap.size/\∀(i:Nat) (x:Int),l[i]? =ZV x->w.cell? ⟨g,o+i,ZU⟩=ZV (ZZ ZY x):=by
 rcases h with rfl|h
 ·simp at hi
 ·exact h
section
structure LkM where
 at_:Int
 rd:List Int
 RA:Option Addr
 rc:Nat
deriving Inhabited
def LkM.k (q:LkM):Lk:=⟨q.at_,q.rd⟩
def lkS (l:List LkM):List Lk:=l.map LkM.k
def gG (w:Z3) (P:Nat->Prop) (A:Option Addr) (l:List LkM):Prop:=l=[]\/∃g o,A=ZV ⟨g,o,ZU⟩/\P g/\g<w.heap.size/\
 ∀(i:Nat) (q:LkM),l[i]? =ZV q->(w.cell? ⟨g,o+i*2,ZU⟩=ZV (ZZ ZY q.at_)/\w.cell? ⟨g,o+i*2+1,ZU⟩=ZV (Zw q.RA q.rd.length q.rc))/\bc w P q.RA q.rd
section
variable {w w':Z3} {P Q:Nat->Prop} {A:Option Addr} {l:List LkM}
theorem gG.kept (h:gG w P A l) (hk:Kept w w' P):gG w' P A l:=by
 rcases h with h|⟨g,o,rfl,hp,hl,hc⟩
 ·exact .inl h
 ·refine .inr ⟨g,o,rfl,hp,Nat.lt_of_lt_of_le hl hk.size,fun i q hi=>?_⟩
  obtain ⟨⟨c0,c1⟩,hr⟩:=hc i q hi;exact ⟨⟨hk.cell hp c0,hk.cell hp c1⟩,hr.kept hk⟩
theorem gG.mono (h:gG w P A l) (hpq:∀g,P g->g<w.heap.size->Q g):gG w Q A l:=by
 rcases h with h|⟨g,o,rfl,hp,hl,hc⟩
 ·exact .inl h
 ·refine .inr ⟨g,o,rfl,hpq g hp hl,hl,fun i q hi=>?_⟩
  obtain ⟨h3,hr⟩:=hc i q hi;exact ⟨h3,hr.mono hpq⟩
theorem gG.below (h:gG w P A l) (hb:Z2 w.heap.size w w'):gG w' P A l:=h.kept (Kept.of_below hb)
theorem gG.at (h:gG w P A l) (hi:i<l.length):∃g o,A=ZV ⟨g,o,ZU⟩/\P g/\g<w.heap.size/\
 ∀(i:Nat) (q:LkM),l[i]? =ZV q->(w.cell? ⟨g,o+i*2,ZU⟩=ZV (ZZ ZY q.at_)/\w.cell? ⟨g,o+i*2+1,ZU⟩=ZV (Zw q.RA q.rd.length q.rc))/\bc w P q.RA q.rd:=by
 rcases h with rfl|h
 ·simp at hi
 ·exact h
end
theorem mc {X:Nat} {cs:Array Value} {T:TypeId} (h:w.heap[X]? =ZV (.cells cs T (0,0))) (j:Nat):w.frozen? ⟨X,j,ZU⟩=Zz:=by simp [World.frozen?,h]
end
def lkW (q:LkM):List Value:=[ZZ ZY q.at_,Zw q.RA q.rd.length q.rc]
theorem Mg:∀q:LkM,∀u∈lkW q,u.oneCell'=Zy:=by
 intro q u hu;simp only [lkW,List.mem_cons,List.not_mem_nil,or_false] at hu;rcases hu with rfl|rfl<;>rfl
theorem jx:∀q:Int,∀u∈inW q,u.oneCell'=Zy:=by
 intro q u hu;simp only [inW,List.mem_cons,List.not_mem_nil,or_false] at hu;subst hu;rfl
theorem av.block {α:Type} {E:TypeId} {n:Nat} {f:α->List Value} {L:List α} (h:av E n f base w v L) (hb:∀k,v.ownBlock=ZV k->w'.heap[k]? =w.heap[k]?):av E n f base w' v L:=by
 obtain ⟨h1,h2⟩:=h;refine ⟨h1,?_⟩;rcases h2 with h2|⟨g,cap,cur,hv,hbs,hg,rest⟩
 ·exact .inl h2
 ·exact .inr ⟨g,cap,cur,hv,hbs,(hb g (by rw [hv];rfl)).trans hg,rest⟩
theorem gO:(prog.info? 3).map (fun i=>(i.zero,i.size,i.bytes))=ZV (ZV (ZZ ZY 0),1,8):=by kernel_rfl
def Gs (w:Z3) (L:List Int) (e:Ending) (w':Z3):Prop:=∃O co,e=ZX (Zw O L.length co)/\L.length<=co/\bc w' (fun g=>w.heap.size<=g) O L/\Z2 w.heap.size w w'
theorem dt {E:TypeId} {L:List Int} (h:av E 1 inW base w v L):∃(A:Option Addr) (cap:Nat),v=Zw A L.length cap/\L.length<=cap/\bc w (fun g=>base<=g) A L:=by
 obtain ⟨O,co,e,hk,hc⟩:=av.shape (f:=inW) (n:=1) (fun _=>rfl) h;refine ⟨O,co,e,hk,?_⟩;by_cases hne:L=[]
 ·exact .inl hne
 ·obtain ⟨g,o,e',hat⟩:=hc hne
  have hob:v.ownBlock=ZV g:=(by rw [e,e'];rfl);have hl:=World.ownsRow.lt h g hob;exact .inr ⟨g,o,e',hl.1,hl.2,fun j x hj=>by have:=hat j x hj 0 _ rfl;simpa using this⟩
section
open Go.Maps
section
variable {P:Program} {w:Z3} {ops:Array Oper} {rest:List Oper} {o:Oper} {a:Act} {K:Act->Z3->Prop} {Q:Exit->Act->Z3->Prop} {E:Prop}
theorem Pf (hgd:o.guard=ZU) (s:Operand) (t:TypeId) (ho:o.op=.call { callee:=.builtin .len,args:=#[s],argTypes:=#[t] }) (hs:a.eval s=v) {n:Int} (hrun:∀ty,(Builtin.len_ #[t] ty #[v]).run P w=.ok (ZZ ZY n) w)
 (h:K (a.put o.dst (ZZ ZY n)) w):if Region.wanted o (yielded ops a.tmps)=Zy then Oper.wp P o a w K Q else E:=by
 have hw:=qcf;rw [if_pos hw];unfold Oper.wp execOp;simp only [ho,Go.resolve,invoke,builtin,Sem.run_bind,Sem.run_pure,Result.andThen_ok,List.map_toArray,List.map_cons,List.map_nil,hs,hrun];exact h
theorem OB (hgd:o.guard=ZU) (s:Operand) (t:TypeId) (ho:o.op=.call { callee:=.builtin .len,args:=#[s],argTypes:=#[t] }) (hs:a.eval s=v) {n:Int} (hrun:∀ty,(Builtin.len_ #[t] ty #[v]).run P w=.ok (ZZ ZY n) w)
 (h:wpList P ops Q rest (a.put o.dst (ZZ ZY n)) w):wpList P ops Q (o::rest) a w:=by
 refine wpList_plain hgd fun K' hK'=>?_
 unfold Oper.wp execOp;simp only [ho,Go.resolve,invoke,builtin,Sem.run_bind,Sem.run_pure,Result.andThen_ok,List.map_toArray,List.map_cons,List.map_nil,hs,hrun];exact hK' _ _ h
theorem Cu (hgd:o.guard=ZU) (m x:Operand) (t:TypeId) (c:Bool) (ho:o.op=.lookup t m x c) (hm:a.eval m=v) (hx:a.eval x=key) {r:Value} (hrun:(Instr.lookup t v key c).run P w=.ok r w)
 (h:K (a.put o.dst r) w):if Region.wanted o (yielded ops a.tmps)=Zy then Oper.wp P o a w K Q else E:=by
 have hw:=qcf;rw [if_pos hw];unfold Oper.wp execOp;simp only [ho,Sem.run_bind,Sem.run_pure,Result.andThen_ok,hm,hx,hrun];exact h
theorem fO (hgd:o.guard=ZU) (m x y:Operand) (t:TypeId) (ho:o.op=.mapUpdate t m x y) {val:Value} (hm:a.eval m=v) (hx:a.eval x=key) (hy:a.eval y=val) (hrun:(Instr.mapUpdate t v key val).run P w=.ok () w')
 (h:K (a.put o.dst undef) w'):if Region.wanted o (yielded ops a.tmps)=Zy then Oper.wp P o a w K Q else E:=by
 have hw:=qcf;rw [if_pos hw];unfold Oper.wp execOp;simp only [ho,Sem.run_bind,Sem.run_pure,Result.andThen_ok,hm,hx,hy,hrun];exact h
theorem OC (hgd:o.guard=ZU) (m x y:Operand) (t:TypeId) (ho:o.op=.mapUpdate t m x y) {val:Value} (hm:a.eval m=v) (hx:a.eval x=key) (hy:a.eval y=val) (hrun:(Instr.mapUpdate t v key val).run P w=.ok () w')
 (h:wpList P ops Q rest (a.put o.dst undef) w'):wpList P ops Q (o::rest) a w:=by
 refine wpList_plain hgd fun K' hK'=>?_
 unfold Oper.wp execOp;simp only [ho,Sem.run_bind,Sem.run_pure,Result.andThen_ok,hm,hx,hy,hrun];exact hK' _ _ h
theorem Pg (hgd:o.guard=ZU) (m x:Operand) (t k:TypeId) (ho:o.op=.call { callee:=.builtin .delete,args:=#[m,x],argTypes:=#[t,k] }) (hm:a.eval m=v) (hx:a.eval x=key) (hrun:(Builtin.delete_ #[t,k] o.type #[v,key]).run P w=.ok (.tuple #[]) w')
 (h:K (a.put o.dst (.tuple #[])) w'):if Region.wanted o (yielded ops a.tmps)=Zy then Oper.wp P o a w K Q else E:=by
 have hw:=qcf;rw [if_pos hw];unfold Oper.wp execOp;simp only [ho,Go.resolve,invoke,builtin,Sem.run_bind,Sem.run_pure,Result.andThen_ok,List.map_toArray,List.map_cons,List.map_nil,hm,hx,hrun];exact h
end
end
theorem iY {md:Region.Mode} {S:Z3->Prop} {d:Nat} {oi:Oper} {fuel:Nat} {listed:Array Bool}
 (hi:ops[i]? =ZV oi) (hd:oi.dst=ZV d) (hs:Region.noSelect ops=Zy) (hf:Region.free md ops listed i=Zy) (hr:(Region.ready md ops listed).contains i=Zy)
 (hQ:∀c a w,Q (.panic c) (a.put oi.dst undef) w->Q (.panic c) a w) (hu:a.tmps[d]? =ZV undef) (hw:Region.wanted oi (yielded ops a.tmps)=Zz) (hS:S w)
 (h:wpAnyH P md ops Q S fuel (listed.setIfInBounds i Zy) a w):wpAnyH P md ops Q S (fuel+1) listed a w:=by
 refine wpAnyH_take hi hs hf hr hQ (Or.inr ⟨hw,rfl⟩) hS ?_
 have e:a.put oi.dst undef=a:=by
  rw [hd];obtain ⟨t,df⟩:=a;obtain ⟨hl,hv⟩:=Array.getElem?_eq_some_iff.1 hu;simp only at hl hv
  have e2:t.setIfInBounds d undef=t:=by
   apply Array.ext
   ·simp
   ·intro j h1 h2
    rw [Array.getElem_setIfInBounds];split
    ·rename_i e;subst e;exact hv.symm
    ·rfl
  show Act.mk (t.setIfInBounds d undef) df=Act.mk t df
  rw [e2]
 rw [e];exact h

theorem n8:zeroCells152=Array.replicate 1024 (.bool Zz):=by kernel_rfl
theorem mT:prog.underlying 152=ZV (.array 1024 4):=by kernel_rfl
theorem xH:(prog.info? 152).map (·.size)=ZV 1024:=by kernel_rfl
def MK (V:Z3) (B:Nat) (f:Nat->Bool):Prop:=∃c:Array Value,V.heap[B]? =ZV (.cells c 152 (0,0))/\c.size=1024/\∀j,j<1024->c[j]? =ZV (.bool (f j))
theorem MK.world {V':Z3} {B:Nat} (h:MK V B f) (hb:V'.heap[B]? =V.heap[B]?):MK V' B f:=qmt
theorem MK.lt {B:Nat} (h:MK V B f):B<V.heap.size:=qmo
theorem MK.cell {B:Nat} (h:MK V B f) (hj:j<1024):V.cell? ⟨B,j,ZU⟩=ZV (.bool (f j))/\V.frozen? ⟨B,j,ZU⟩=Zz:=qli
theorem MK.set {B:Nat} {g:Nat->Bool} (h:MK V B f) (hg:∀i,i<1024->g i=(f i || decide (i=j))):MK (V.setCell ⟨B,j,ZU⟩ (.bool Zy)) B g:=by
 obtain ⟨c,h1,h2,h3⟩:=h;refine ⟨c.setIfInBounds j (.bool Zy),?_,(by rw [Array.size_setIfInBounds,h2]),fun i hi=>?_⟩
 ·have hlt:=(Array.getElem?_eq_some_iff.1 h1).1
  exact qjk
 ·rw [Array.getElem?_setIfInBounds,hg i hi]
  by_cases e:j=i
  ·subst e
   rw [if_pos rfl,if_pos (by rw [h2];exact hi)];simp
  ·rw [if_neg e,h3 i hi,decide_eq_false (fun h=>e h.symm),Bool.or_false]
theorem MK.congr {B:Nat} {g:Nat->Bool} (h:MK V B f) (hg:∀j,j<1024->f j=g j):MK V B g:=by
 obtain ⟨c,h1,h2,h3⟩:=h;exact ⟨c,h1,h2,fun j hj=>by rw [h3 j hj,hg j hj]⟩
theorem rW {l:List UInt8} {n f g:Int} {p:Int×Int} (h:vOp l n m=ZV p):cQ l n f m g=dG p f g/\cd l n f m g=dJ p f g/\(vOp l n m).isSome=Zy:=by
 unfold cQ cd dG dJ;rw [h];exact ⟨rfl,(by simp [mJ]),rfl⟩
theorem Lx {l:List UInt8} {n f g:Int} (h:vOp l n m=ZU):cQ l n f m g=0/\cd l n f m g=0/\(vOp l n m).isSome=Zz:=by
 unfold cQ cd;rw [h];exact ⟨by simp [mI],rfl,rfl⟩
structure e8 (f:Nat) (g:Int->Int->Int×Int):Prop where
 enters:∀(args:Array Value) (w:Z3),(callFunc f args).run ZW w=.ok (.enter f args) w
 runs:∀a b:Int,B64 a->B64 b->∀w,Calls ZW f #[ZZ ZY a,ZZ ZY b] w fun e w'=>e=ZX (Zu #[ZZ ZY (g a b).1,ZZ ZY (g a b).2])/\Z2 w.heap.size w w'

theorem Dm (n:Int) (ok:Bool) (w:Z3):
 Calls ZW 252 #[ZZ ZY n,.bool ok] w fun e w'=>e=ZX (Zu #[ZZ ZY (gD ok n),ZZ ZY (eu ok)])/\Z2 w.heap.size w w':=by
 cases ok
 ·go_enter func252,ntmps252
  go_wp2_with fail;exact bodyPost_ret (v:=Zu #[ZZ ZY 0,ZZ ZY 1]) qqR rfl ⟨rfl,qa⟩
 ·go_enter func252,ntmps252
  go_wp2_with fail;exact bodyPost_ret (v:=Zu #[ZZ ZY n,ZZ ZY 0]) qqR rfl ⟨rfl,qa⟩
theorem gh (b:Bool) (w:Z3):
 Calls ZW 296 #[.bool b] w fun e w'=>e=ZX (Zu #[ZZ ZY (tru b),ZZ ZY 0])/\Z2 w.heap.size w w':=by
 cases b
 ·go_enter func296,ntmps296
  go_wp2_with fail;exact bodyPost_ret (v:=Zu #[ZZ ZY 0,ZZ ZY 0]) qqS rfl ⟨rfl,qa⟩
 ·go_enter func296,ntmps296
  go_wp2_with fail;exact bodyPost_ret (v:=Zu #[ZZ ZY 1,ZZ ZY 0]) qqS rfl ⟨rfl,qa⟩

theorem zE:e8 289 fun a b=>cJ (a+b) where
 enters:=fun args w=>enters_of func289 qnx rfl args w
 runs:=fun a b ha hb w=>by
  have H:=qf (Me a b ha hb);clear ha hb;go_enter func289,ntmps289;go_wp2_with fail;refine .mono qrz ?_;rintro e w1 ⟨rfl,b1⟩;obtain ⟨k10,k11,f10,f11⟩:=qB;have h1:=qab;have z1:=qbM;clear b1;go_wp2_with fail;refine .mono qrV ?_;rintro e w2 ⟨rfl,b2⟩;obtain ⟨k20,k21,f20,f21,h2,z2⟩:=qbE;clear b2 k10 k11 f10 f11 h1 z1;go_wp2_with fail;exact bodyPost_ret (v:=Zu #[ZZ ZY (gD (inI (a+b)) (ci (inI (a+b)) (a+b))),ZZ ZY (eu (inI (a+b)))]) (by simp [results,results289,go_sem,k20,k21]) rfl ⟨rfl,(h2.setCell qns _).setCell qns _⟩
theorem LL:e8 290 fun a b=>cJ (a - b) where
 enters:=fun args w=>enters_of func290 qnx rfl args w
 runs:=fun a b ha hb w=>by
  have H:=qf (zy a b ha hb);clear ha hb;go_enter func290,ntmps290;go_wp2_with fail;refine .mono qrz ?_;rintro e w1 ⟨rfl,b1⟩;obtain ⟨k10,k11,f10,f11⟩:=qB;have h1:=qab;have z1:=qbM;clear b1;go_wp2_with fail;refine .mono qrV ?_;rintro e w2 ⟨rfl,b2⟩;obtain ⟨k20,k21,f20,f21,h2,z2⟩:=qbE;clear b2 k10 k11 f10 f11 h1 z1;go_wp2_with fail;exact bodyPost_ret (v:=Zu #[ZZ ZY (gD (inI (a - b)) (ci (inI (a - b)) (a - b))),ZZ ZY (eu (inI (a - b)))]) (by simp [results,results290,go_sem,k20,k21]) rfl ⟨rfl,(h2.setCell qns _).setCell qns _⟩
theorem K0:e8 291 fun a b=>cJ (a*b) where
 enters:=fun args w=>enters_of func291 qnx rfl args w
 runs:=fun a b ha hb w=>by
  have H:=qf (KC a b ha hb);clear ha hb;go_enter func291,ntmps291;go_wp2_with fail;refine .mono qrz ?_;rintro e w1 ⟨rfl,b1⟩;obtain ⟨k10,k11,f10,f11⟩:=qB;have h1:=qab;have z1:=qbM;clear b1;go_wp2_with fail;refine .mono qrV ?_;rintro e w2 ⟨rfl,b2⟩;obtain ⟨k20,k21,f20,f21,h2,z2⟩:=qbE;clear b2 k10 k11 f10 f11 h1 z1;go_wp2_with fail;exact bodyPost_ret (v:=Zu #[ZZ ZY (gD (inI (a*b)) (ci (inI (a*b)) (a*b))),ZZ ZY (eu (inI (a*b)))]) (by simp [results,results291,go_sem,k20,k21]) rfl ⟨rfl,(h2.setCell qns _).setCell qns _⟩
theorem K7:e8 293 fun a b=>if b=0 then (0,2) else cJ (a.tdiv b) where
 enters:=fun args w=>enters_of func293 qnx rfl args w
 runs:=fun a b ha hb w=>by
  by_cases hz:b=0
  ·subst hz
   go_enter func293,ntmps293;go_wp2_with fail;exact bodyPost_ret (v:=Zu #[ZZ ZY 0,ZZ ZY 2]) (by simp [results,results293,go_sem]) rfl ⟨rfl,qa⟩
  ·have H:=qf (Ac a b ha hb hz)
   rw [if_neg hz];have hz1:=qid;clear ha hb hz;go_enter func293,ntmps293;go_wp2_with fail;refine .mono qrz ?_;rintro e w1 ⟨rfl,b1⟩;obtain ⟨k10,k11,f10,f11⟩:=qB;have h1:=qab;have z1:=qbM;clear b1;go_wp2_with fail;refine .mono qrV ?_;rintro e w2 ⟨rfl,b2⟩;obtain ⟨k20,k21,f20,f21,h2,z2⟩:=qbE;clear b2 k10 k11 f10 f11 h1 z1;go_wp2_with fail;exact bodyPost_ret (v:=Zu #[ZZ ZY (gD (inI (a.tdiv b)) (ci (inI (a.tdiv b)) (a.tdiv b))),ZZ ZY (eu (inI (a.tdiv b)))]) (by simp [results,results293,go_sem,k20,k21]) rfl ⟨rfl,(h2.setCell qns _).setCell qns _⟩
theorem KJ:e8 251 fun _ b=>cJ (-b) where
 enters:=fun args w=>enters_of func251 qnx rfl args w
 runs:=fun a b _ hb w=>by
  have H:=qf (Kw b hb);clear hb;go_enter func251,ntmps251;go_wp2_with fail;refine .mono qrz ?_;rintro e w1 ⟨rfl,b1⟩;obtain ⟨k10,k11,f10,f11⟩:=qB;have h1:=qab;have z1:=qbM;clear b1;go_wp2_with fail;refine .mono qrV ?_;rintro e w2 ⟨rfl,b2⟩;obtain ⟨k20,k21,f20,f21,h2,z2⟩:=qbE;clear b2 k10 k11 f10 f11 h1 z1;go_wp2_with fail;exact bodyPost_ret (v:=Zu #[ZZ ZY (gD (inI (-b)) (ci (inI (-b)) (-b))),ZZ ZY (eu (inI (-b)))]) (by simp [results,results251,go_sem,k20,k21]) rfl ⟨rfl,(h2.setCell qns _).setCell qns _⟩
theorem My:e8 295 fun a b=>(tru (decide (a<b)),0) where
 enters:=fun args w=>enters_of func295 qnx rfl args w
 runs:=fun a b _ _ w=>by
  go_enter func295,ntmps295;go_wp2_with fail;refine (gh (decide (a<b)) _).mono ?_;rintro e w1 ⟨rfl,b1⟩;obtain ⟨k10,k11,f10,f11⟩:=qB;have h1:=qab;have z1:=qbM;clear b1;go_wp2_with fail;exact bodyPost_ret (v:=Zu #[ZZ ZY (tru (decide (a<b))),ZZ ZY 0]) (by simp [results,results295,go_sem,k10,k11]) rfl ⟨rfl,(h1.setCell qns _).setCell qns _⟩
theorem Nq:e8 297 fun a b=>(tru (decide (a<=b)),0) where
 enters:=fun args w=>enters_of func297 qnx rfl args w
 runs:=fun a b _ _ w=>by
  go_enter func297,ntmps297;go_wp2_with fail;refine (gh (decide (a<=b)) _).mono ?_;rintro e w1 ⟨rfl,b1⟩;obtain ⟨k10,k11,f10,f11⟩:=qB;have h1:=qab;have z1:=qbM;clear b1;go_wp2_with fail;exact bodyPost_ret (v:=Zu #[ZZ ZY (tru (decide (a<=b))),ZZ ZY 0]) (by simp [results,results297,go_sem,k10,k11]) rfl ⟨rfl,(h1.setCell qns _).setCell qns _⟩
theorem Nl:e8 298 fun a b=>(tru (a==b),0) where
 enters:=fun args w=>enters_of func298 qnx rfl args w
 runs:=fun a b _ _ w=>by
  go_enter func298,ntmps298;go_wp2_with fail;refine (gh (a==b) _).mono ?_;rintro e w1 ⟨rfl,b1⟩;obtain ⟨k10,k11,f10,f11⟩:=qB;have h1:=qab;have z1:=qbM;clear b1;go_wp2_with fail;exact bodyPost_ret (v:=Zu #[ZZ ZY (tru (a==b)),ZZ ZY 0]) (by simp [results,results298,go_sem,k10,k11]) rfl ⟨rfl,(h1.setCell qns _).setCell qns _⟩
theorem Oc:e8 299 fun a b=>(tru (a !=b),0) where
 enters:=fun args w=>enters_of func299 qnx rfl args w
 runs:=fun a b _ _ w=>by
  go_enter func299,ntmps299;go_wp2_with fail;refine (gh (a !=b) _).mono ?_;rintro e w1 ⟨rfl,b1⟩;obtain ⟨k10,k11,f10,f11⟩:=qB;have h1:=qab;have z1:=qbM;clear b1;go_wp2_with fail;exact bodyPost_ret (v:=Zu #[ZZ ZY (tru (a !=b)),ZZ ZY 0]) (by simp [results,results299,go_sem,k10,k11]) rfl ⟨rfl,(h1.setCell qns _).setCell qns _⟩
theorem MX:e8 300 fun a b=>(tru (decide (b<=a)),0) where
 enters:=fun args w=>enters_of func300 qnx rfl args w
 runs:=fun a b _ _ w=>by
  go_enter func300,ntmps300;go_wp2_with fail;refine (gh (decide (b<=a)) _).mono ?_;rintro e w1 ⟨rfl,b1⟩;obtain ⟨k10,k11,f10,f11⟩:=qB;have h1:=qab;have z1:=qbM;clear b1;go_wp2_with fail;exact bodyPost_ret (v:=Zu #[ZZ ZY (tru (decide (b<=a))),ZZ ZY 0]) (by simp [results,results300,go_sem,k10,k11]) rfl ⟨rfl,(h1.setCell qns _).setCell qns _⟩
theorem On:e8 301 fun a b=>(tru (decide (b<a)),0) where
 enters:=fun args w=>enters_of func301 qnx rfl args w
 runs:=fun a b _ _ w=>by
  go_enter func301,ntmps301;go_wp2_with fail;refine (gh (decide (b<a)) _).mono ?_;rintro e w1 ⟨rfl,b1⟩;obtain ⟨k10,k11,f10,f11⟩:=qB;have h1:=qab;have z1:=qbM;clear b1;go_wp2_with fail;exact bodyPost_ret (v:=Zu #[ZZ ZY (tru (decide (b<a))),ZZ ZY 0]) (by simp [results,results301,go_sem,k10,k11]) rfl ⟨rfl,(h1.setCell qns _).setCell qns _⟩
theorem Gf:e8 305 fun a b=>(if b<a then b else a,0) where
 enters:=fun args w=>enters_of func305 qnx rfl args w
 runs:=fun a b _ _ w=>by
  by_cases h:b<a
  ·rw [if_pos h]
   go_enter func305,ntmps305;go_wp2_with fail;exact bodyPost_ret (v:=Zu #[ZZ ZY b,ZZ ZY 0]) qqu rfl ⟨rfl,qa⟩
  ·rw [if_neg h]
   go_enter func305,ntmps305;go_wp2_with fail;exact bodyPost_ret (v:=Zu #[ZZ ZY a,ZZ ZY 0]) qqu rfl ⟨rfl,qa⟩
theorem Hh:e8 306 fun a b=>(if a<b then b else a,0) where
 enters:=fun args w=>enters_of func306 qnx rfl args w
 runs:=fun a b _ _ w=>by
  by_cases h:a<b
  ·rw [if_pos h]
   go_enter func306,ntmps306;go_wp2_with fail;exact bodyPost_ret (v:=Zu #[ZZ ZY b,ZZ ZY 0]) qqv rfl ⟨rfl,qa⟩
  ·rw [if_neg h]
   go_enter func306,ntmps306;go_wp2_with fail;exact bodyPost_ret (v:=Zu #[ZZ ZY a,ZZ ZY 0]) qqv rfl ⟨rfl,qa⟩
def CE (v:Value):Nat:=2 - (RowKit.intOf v).toNat

theorem ki (hA:e8 F G) (n f m g:Int) (hn:B64 n) (hm:B64 m) (w:Z3):
 Calls ZW 250 #[Zu #[ZZ ZY n,ZZ ZY f],Zu #[ZZ ZY m,ZZ ZY g],.func (.func F) #[] #[]] w fun e w'=>
  e=ZX (Zu #[ZZ ZY (dG (G n m) f g),ZZ ZY (dJ (G n m) f g)])/\Z2 w.heap.size w w':=by
 have H:=qf (hA.runs n m hn hm);have hE:=hA.enters;clear hn hm;generalize G n m=X at*;have x0:∀w:Z3,(Instr.index 321 (Zu #[ZZ ZY n,ZZ ZY f,ZZ ZY m,ZZ ZY g]) (ZZ ZY 0)).run ZW w=.ok (Zu #[ZZ ZY n,ZZ ZY f]) w:=fun _=>by kernel_rfl
 have x1:∀w:Z3,(Instr.index 321 (Zu #[ZZ ZY n,ZZ ZY f,ZZ ZY m,ZZ ZY g]) (ZZ ZY 1)).run ZW w=.ok (Zu #[ZZ ZY m,ZZ ZY g]) w:=fun _=>by kernel_rfl
 go_enter func250,ntmps250;go_wp2_with fail;go_loopw [12] (fun v wr=>∃i:Nat,i<=2/\v=ZZ ZY i/\Hid ((1<=i->f=0)/\(2<=i->g=0))/\Z2 (w.heap.size+1+1+1) (((w.alloc (.cells #[ZZ ZY n,ZZ ZY f] 61)).alloc (.cells #[ZZ ZY m,ZZ ZY g] 61)).alloc (.cells #[ZZ ZY 0,ZZ ZY 0] 61)) wr) (fun v _=>CE v)
 case atStart=>exact ⟨0,qoq,rfl,qf ⟨fun h=>by omega,fun h=>by omega⟩,qb⟩
 case round=>
  obtain ⟨i,hi,rfl,HU,hb⟩:=hrel;have a0:wr.cell? ⟨w.heap.size,0,ZU⟩=ZV (ZZ ZY n):=qpe;have a1:wr.cell? ⟨w.heap.size,1,ZU⟩=ZV (ZZ ZY f):=qpe;have c0:wr.cell? ⟨w.heap.size+1,0,ZU⟩=ZV (ZZ ZY m):=qos;have c1:wr.cell? ⟨w.heap.size+1,1,ZU⟩=ZV (ZZ ZY g):=qos;have k0:wr.cell? ⟨w.heap.size+1+1,0,ZU⟩=ZV (ZZ ZY 0):=qos;have k1:wr.cell? ⟨w.heap.size+1+1,1,ZU⟩=ZV (ZZ ZY 0):=qos;have f0:wr.frozen? ⟨w.heap.size+1+1,0,ZU⟩=Zz:=qpd;have f1:wr.frozen? ⟨w.heap.size+1+1,1,ZU⟩=Zz:=qpd;have z0:w.heap.size+1+1<wr.heap.size:=qpJ;have z1:w.heap.size+1<wr.heap.size:=qoq;have z2:w.heap.size<wr.heap.size:=qoq;have b0:Z2 w.heap.size w wr:=((qa.alloc qns _).alloc qnu _).trans (hb.mono qoq);have hq:i=0\/i=1\/i=2:=qoq;clear hi;rcases hq with rfl|rfl|rfl
  ·by_cases hf:f=0
   ·have HU':Hid ((1<=0+1->f=0)/\(2<=0+1->g=0)):=qf ⟨fun _=>hf,fun h=>by omega⟩
    have d1:(f !=0)=Zz:=qqb;clear hf HU;go_wp2_with fail;go_roundw
    case rel=>exact ⟨0+1,qoq,qnG,HU',hb.alloc qoq _⟩
    case measure=>simp [CE,RowKit.intOf]
   ·have d1:(f !=0)=Zy:=by simpa using hf
    have e1:dG X f g=0:=if_neg qoq;have e2:dJ X f g=f:=if_neg hf;have E:=qf (And.intro e1 e2);clear hf HU e1 e2;go_wp2_with fail
    exact bodyPost_ret (v:=Zu #[ZZ ZY 0,ZZ ZY f]) qqq rfl
     ⟨(by rw [E.out.1,E.out.2]),((b0.setCell qnu _).setCell qnu _).alloc (by simpa using b0.size) _⟩
  ·have hf:f=0:=HU.out.1 qoq
   by_cases hg:g=0
   ·have HU':Hid ((1<=1+1->f=0)/\(2<=1+1->g=0)):=qf ⟨fun _=>hf,fun h=>hg⟩
    have d1:(g !=0)=Zz:=(by simpa using hg);clear hf hg HU;go_wp2_with fail;go_roundw
    case rel=>exact ⟨1+1,qoq,qnG,HU',hb.alloc qoq _⟩
    case measure=>simp [CE,RowKit.intOf]
   ·have d1:(g !=0)=Zy:=by simpa using hg
    have e1:dG X f g=0:=if_neg qoq;have e2:dJ X f g=g:=(by unfold dJ;rw [if_pos hf,if_neg hg]);have E:=qf (And.intro e1 e2);clear hf hg HU e1 e2;go_wp2_with fail
    exact bodyPost_ret (v:=Zu #[ZZ ZY 0,ZZ ZY g]) qqq rfl
     ⟨(by rw [E.out.1,E.out.2]),((b0.setCell qnu _).setCell qnu _).alloc (by simpa using b0.size) _⟩
  ·have hf:f=0:=HU.out.1 qoq
   have hg:g=0:=HU.out.2 qoq;subst hf hg;clear HU hb;go_wp2_with fail;refine .mono qrz ?_;rintro e w1 ⟨rfl,b1⟩;have q0:=aa b1 k0;have q1:=aa b1 k1;have p0:=ae b1 qqF f0;have p1:=ae b1 qqF f1;have h2:=b0.trans (b1.mono b0.size);clear a0 a1 c0 c1 k0 k1 f0 f1 b1;go_wp2_with fail
   exact bodyPost_ret (v:=Zu #[ZZ ZY X.1,ZZ ZY X.2]) (by simp [results,results250,go_sem,q0,q1]) rfl
    ⟨rfl,(h2.setCell qnu _).setCell qnu _⟩
section
open Go.Maps
def cW (v:Value):Option (DataW Unit×List MemPlace):=
 match v with
 |.func (.func n) a b=>if a.size=0/\b.size=0 then ZV (.lit (.int .i64 n),[]) else ZU
 |.nilFunc=>ZV (.nil,[])
 |_=>ZU
theorem om {n:Nat} (h:cW v=ZV (.lit (.int .i64 (n:Int)),ps)):v=.func (.func n) #[] #[]:=by
 unfold cW at h;split at h
 ·split at h
  ·rename_i m a b hs
   have h1:=congrArg Prod.fst (Option.some.inj h);injection h1 with h2
   injection h2 with h3 h4
   have hm:m=n:=Int.ofNat_inj.1 h4;subst hm;rw [Array.eq_empty_of_size_eq_zero hs.1,Array.eq_empty_of_size_eq_zero hs.2]
  ·cases h
 ·simp at h
 ·cases h
theorem rI (h:cW v=ZV (.nil,ps)):v=.nilFunc:=by
 unfold cW at h;split at h
 ·split at h
  ·simp at h
  ·cases h
 ·rfl
 ·cases h
theorem aY:Keyed ZW 9:=string_keyed underlying9
theorem zO (w:Z3):(zeroValue 290).run ZW w=.ok .nilFunc w:=by kernel_rfl
theorem bA {H:Type} (w:Z3)
 (hg:o.guard=ZU) (m x v:Operand) (t:TypeId) (hop:o.op=Op.insert t m x v)
 (k e:TypeId) (K:Keyed P k) (ht:P.underlying t=ZV (.map k e)) (R:Value->Option (DataW H×List MemPlace)) (b n:Nat) (D:DataW H)
 (hm:a.eval m=.map (ZV b)) (hown:w.ownsMap P k R b n D) (hn:n<maxLen) (key val:Value) (kl:Lit) (hx:a.eval x=key) (hv:a.eval v=val) (hkey:keyOf P k key=ZV kl)
 (d:DataW H) (ps:List MemPlace) (hval:R val=ZV (d,ps))
 (hK:∀w',w'.ownsMap P k R b (n+1) (D.put kl d)->w.grownBy w' (ZV b)->wpList P ops Q rest (a.put o.dst undef) w'):
 wpList P ops Q (o::rest) a w:=by
 refine wpList_plain hg fun K' hK'=>?_
 obtain ⟨w',hrun,r1,r2⟩:=hown.update K ht hn hkey hval;unfold Oper.wp;simp [execOp,hop,hm,hx,hv,hrun,Result.andThen]
 exact hK' _ _ (hK w' r1 r2)

def fb:DataW Unit:=(((((.map []:DataW Unit).put (.string [43]) (.lit (.int .i64 289))).put (.string [45]) (.lit (.int .i64 290))).put (.string [42]) (.lit (.int .i64 291))).put (.string [47]) (.lit (.int .i64 293)))
def dE (l:List UInt8):Option Nat:=
 if l=[43] then ZV 289 else if l=[45] then ZV 290 else if l=[42] then ZV 291 else if l=[47] then ZV 293 else ZU
theorem sm (l:List UInt8) (h0:l≠[43]) (h1:l≠[45]) (h2:l≠[42]) (h3:l≠[47]):fb.atKey (.string l) .nil=.nil/\has fb (.string l)=Zz:=by
 unfold fb;constructor
 ·rw [atKey_put_other (fun e=>h3 qoe:(Lit.string l)≠.string [47]),atKey_put_other (fun e=>h2 qoe:(Lit.string l)≠.string [42]),atKey_put_other (fun e=>h1 qoe:(Lit.string l)≠.string [45]),atKey_put_other (fun e=>h0 qoe:(Lit.string l)≠.string [43])]
  rfl
 ·rw [has_put_other (fun e=>h3 qoe:(Lit.string l)≠.string [47]),has_put_other (fun e=>h2 qoe:(Lit.string l)≠.string [42]),has_put_other (fun e=>h1 qoe:(Lit.string l)≠.string [45]),has_put_other (fun e=>h0 qoe:(Lit.string l)≠.string [43])]
  rfl
theorem ti (l:List UInt8):fb.atKey (.string l) .nil=(match dE l with|some n=>.lit (.int .i64 (n:Int))|none=>.nil)/\has fb (.string l)=(dE l).isSome:=by
 by_cases h0:l=[43]
 ·subst h0;exact ⟨rfl,rfl⟩
 by_cases h1:l=[45]
 ·subst h1;exact ⟨rfl,rfl⟩
 by_cases h2:l=[42]
 ·subst h2;exact ⟨rfl,rfl⟩
 by_cases h3:l=[47]
 ·subst h3;exact ⟨rfl,rfl⟩
 obtain ⟨a1,a2⟩:=sm l h0 h1 h2 h3;have e:dE l=ZU:=(by unfold dE;simp only [h0,h1,h2,h3,if_false]);rw [a1,a2,e];exact ⟨rfl,rfl⟩
def kr (l:List UInt8):Value:=match dE l with|some n=>.func (.func n) #[] #[]|none=>.nilFunc
theorem vU {l:List UInt8} (h:cW v=ZV (fb.atKey (.string l) .nil,ps)):v=kr l:=by
 rw [(ti l).1] at h;unfold kr;cases ho:dE l with
 |none=>rw [ho] at h;exact rI h
 |some n=>rw [ho] at h;exact om h
theorem wI (s:ByteArray) (hs:s.size<=maxLen) (w:Z3):
 Calls ZW 254 #[.string s] w fun e w'=>e=ZX (.tuple #[kr s.data.toList,.bool (dE s.data.toList).isSome])/\Z2 w.heap.size w w':=by
 have hmm:=qfj;have hmf:=qaw;have hkey:=qhM;have hk0:keyOf ZW 9 (Zx ⟨#[43]⟩)=ZV (.string [43]):=WideMaps.keyOf_string_mk (P:=ZW) underlying9 (by show [43].length<=maxLen;unfold maxLen;decide);have hk1:keyOf ZW 9 (Zx ⟨#[45]⟩)=ZV (.string [45]):=WideMaps.keyOf_string_mk (P:=ZW) underlying9 (by show [45].length<=maxLen;unfold maxLen;decide);have hk2:keyOf ZW 9 (Zx ⟨#[42]⟩)=ZV (.string [42]):=WideMaps.keyOf_string_mk (P:=ZW) underlying9 (by show [42].length<=maxLen;unfold maxLen;decide);have hk3:keyOf ZW 9 (Zx ⟨#[47]⟩)=ZV (.string [47]):=WideMaps.keyOf_string_mk (P:=ZW) underlying9 (by show [47].length<=maxLen;unfold maxLen;decide);obtain ⟨hown0,hb0⟩:=qhr;go_enter func254,ntmps254
 go_wp2_with (first
  |(refine bA _ rfl _ (.const (Zx ⟨#[43]⟩)) (.func 289) 322 rfl 9 290 aY underlying322 cW w.heap.size 0 _ rfl hown0 qnA _ _ _ rfl rfl hk0 (.lit (.int .i64 289)) [] rfl ?_;intro w1 hown1 hg1;have hb1:=hb0.grown hg1 hb0.size (fun j hj=>by cases hj;exact qd))
  |(refine bA _ rfl _ (.const (Zx ⟨#[45]⟩)) (.func 290) 322 rfl 9 290 aY underlying322 cW w.heap.size 1 _ rfl hown1 qnA _ _ _ rfl rfl hk1 (.lit (.int .i64 290)) [] rfl ?_;intro w2 hown2 hg2;have hb2:=hb1.grown hg2 hb1.size (fun j hj=>by cases hj;exact qd))
  |(refine bA _ rfl _ (.const (Zx ⟨#[42]⟩)) (.func 291) 322 rfl 9 290 aY underlying322 cW w.heap.size 2 _ rfl hown2 qnA _ _ _ rfl rfl hk2 (.lit (.int .i64 291)) [] rfl ?_;intro w3 hown3 hg3;have hb3:=hb2.grown hg3 hb2.size (fun j hj=>by cases hj;exact qd))
  |(refine bA _ rfl _ (.const (Zx ⟨#[47]⟩)) (.func 293) 322 rfl 9 290 aY underlying322 cW w.heap.size 3 _ rfl hown3 qnA _ _ _ rfl rfl hk3 (.lit (.int .i64 293)) [] rfl ?_;intro w4 hown4 hg4;have hb4:=hb3.grown hg4 hb3.size (fun j hj=>by cases hj;exact qd))
  |(refine wpList_lookup_own_ok _ rfl _ _ 322 rfl 9 290 aY underlying322 cW (zO _) .nil [] rfl w.heap.size 4 fb rfl hown4 _ _ rfl hkey ?_;intro v ps hv;have hv2:=vU hv;subst hv2;rw [(ti _).2])
  |fail)
 go_ret2;exact ⟨rfl,hb4⟩

def eG:DataW Unit:=(((((((.map []:DataW Unit).put (.string [60]) (.lit (.int .i64 295))).put (.string [60,61]) (.lit (.int .i64 297))).put (.string [61]) (.lit (.int .i64 298))).put (.string [60,62]) (.lit (.int .i64 299))).put (.string [62,61]) (.lit (.int .i64 300))).put (.string [62]) (.lit (.int .i64 301)))
def cX (l:List UInt8):Option Nat:=
 if l=[60] then ZV 295 else if l=[60,61] then ZV 297 else if l=[61] then ZV 298 else if l=[60,62] then ZV 299 else if l=[62,61] then ZV 300 else if l=[62] then ZV 301 else ZU
theorem pU (l:List UInt8) (h0:l≠[60]) (h1:l≠[60,61]) (h2:l≠[61]) (h3:l≠[60,62]) (h4:l≠[62,61]) (h5:l≠[62]):eG.atKey (.string l) .nil=.nil/\has eG (.string l)=Zz:=by
 unfold eG;constructor
 ·rw [atKey_put_other (fun e=>h5 qoe:(Lit.string l)≠.string [62]),atKey_put_other (fun e=>h4 qoe:(Lit.string l)≠.string [62,61]),atKey_put_other (fun e=>h3 qoe:(Lit.string l)≠.string [60,62]),atKey_put_other (fun e=>h2 qoe:(Lit.string l)≠.string [61]),atKey_put_other (fun e=>h1 qoe:(Lit.string l)≠.string [60,61]),atKey_put_other (fun e=>h0 qoe:(Lit.string l)≠.string [60])]
  rfl
 ·rw [has_put_other (fun e=>h5 qoe:(Lit.string l)≠.string [62]),has_put_other (fun e=>h4 qoe:(Lit.string l)≠.string [62,61]),has_put_other (fun e=>h3 qoe:(Lit.string l)≠.string [60,62]),has_put_other (fun e=>h2 qoe:(Lit.string l)≠.string [61]),has_put_other (fun e=>h1 qoe:(Lit.string l)≠.string [60,61]),has_put_other (fun e=>h0 qoe:(Lit.string l)≠.string [60])]
  rfl
theorem sd (l:List UInt8):eG.atKey (.string l) .nil=(match cX l with|some n=>.lit (.int .i64 (n:Int))|none=>.nil)/\has eG (.string l)=(cX l).isSome:=by
 by_cases h0:l=[60]
 ·subst h0;exact ⟨rfl,rfl⟩
 by_cases h1:l=[60,61]
 ·subst h1;exact ⟨rfl,rfl⟩
 by_cases h2:l=[61]
 ·subst h2;exact ⟨rfl,rfl⟩
 by_cases h3:l=[60,62]
 ·subst h3;exact ⟨rfl,rfl⟩
 by_cases h4:l=[62,61]
 ·subst h4;exact ⟨rfl,rfl⟩
 by_cases h5:l=[62]
 ·subst h5;exact ⟨rfl,rfl⟩
 obtain ⟨a1,a2⟩:=pU l h0 h1 h2 h3 h4 h5;have e:cX l=ZU:=(by unfold cX;simp only [h0,h1,h2,h3,h4,h5,if_false]);rw [a1,a2,e];exact ⟨rfl,rfl⟩
def jl (l:List UInt8):Value:=match cX l with|some n=>.func (.func n) #[] #[]|none=>.nilFunc
theorem uo {l:List UInt8} (h:cW v=ZV (eG.atKey (.string l) .nil,ps)):v=jl l:=by
 rw [(sd l).1] at h;unfold jl;cases ho:cX l with
 |none=>rw [ho] at h;exact rI h
 |some n=>rw [ho] at h;exact om h
theorem ua (s:ByteArray) (hs:s.size<=maxLen) (w:Z3):
 Calls ZW 255 #[.string s] w fun e w'=>e=ZX (.tuple #[jl s.data.toList,.bool (cX s.data.toList).isSome])/\Z2 w.heap.size w w':=by
 have hmm:=qfj;have hmf:=qaw;have hkey:=qhM;have hk0:keyOf ZW 9 (Zx ⟨#[60]⟩)=ZV (.string [60]):=WideMaps.keyOf_string_mk (P:=ZW) underlying9 (by show [60].length<=maxLen;unfold maxLen;decide);have hk1:keyOf ZW 9 (Zx ⟨#[60,61]⟩)=ZV (.string [60,61]):=WideMaps.keyOf_string_mk (P:=ZW) underlying9 (by show [60,61].length<=maxLen;unfold maxLen;decide);have hk2:keyOf ZW 9 (Zx ⟨#[61]⟩)=ZV (.string [61]):=WideMaps.keyOf_string_mk (P:=ZW) underlying9 (by show [61].length<=maxLen;unfold maxLen;decide);have hk3:keyOf ZW 9 (Zx ⟨#[60,62]⟩)=ZV (.string [60,62]):=WideMaps.keyOf_string_mk (P:=ZW) underlying9 (by show [60,62].length<=maxLen;unfold maxLen;decide);have hk4:keyOf ZW 9 (Zx ⟨#[62,61]⟩)=ZV (.string [62,61]):=WideMaps.keyOf_string_mk (P:=ZW) underlying9 (by show [62,61].length<=maxLen;unfold maxLen;decide);have hk5:keyOf ZW 9 (Zx ⟨#[62]⟩)=ZV (.string [62]):=WideMaps.keyOf_string_mk (P:=ZW) underlying9 (by show [62].length<=maxLen;unfold maxLen;decide);obtain ⟨hown0,hb0⟩:=qhr;go_enter func255,ntmps255
 go_wp2_with (first
  |(refine bA _ rfl _ (.const (Zx ⟨#[60]⟩)) (.func 295) 322 rfl 9 290 aY underlying322 cW w.heap.size 0 _ rfl hown0 qnA _ _ _ rfl rfl hk0 (.lit (.int .i64 295)) [] rfl ?_;intro w1 hown1 hg1;have hb1:=hb0.grown hg1 hb0.size (fun j hj=>by cases hj;exact qd))
  |(refine bA _ rfl _ (.const (Zx ⟨#[60,61]⟩)) (.func 297) 322 rfl 9 290 aY underlying322 cW w.heap.size 1 _ rfl hown1 qnA _ _ _ rfl rfl hk1 (.lit (.int .i64 297)) [] rfl ?_;intro w2 hown2 hg2;have hb2:=hb1.grown hg2 hb1.size (fun j hj=>by cases hj;exact qd))
  |(refine bA _ rfl _ (.const (Zx ⟨#[61]⟩)) (.func 298) 322 rfl 9 290 aY underlying322 cW w.heap.size 2 _ rfl hown2 qnA _ _ _ rfl rfl hk2 (.lit (.int .i64 298)) [] rfl ?_;intro w3 hown3 hg3;have hb3:=hb2.grown hg3 hb2.size (fun j hj=>by cases hj;exact qd))
  |(refine bA _ rfl _ (.const (Zx ⟨#[60,62]⟩)) (.func 299) 322 rfl 9 290 aY underlying322 cW w.heap.size 3 _ rfl hown3 qnA _ _ _ rfl rfl hk3 (.lit (.int .i64 299)) [] rfl ?_;intro w4 hown4 hg4;have hb4:=hb3.grown hg4 hb3.size (fun j hj=>by cases hj;exact qd))
  |(refine bA _ rfl _ (.const (Zx ⟨#[62,61]⟩)) (.func 300) 322 rfl 9 290 aY underlying322 cW w.heap.size 4 _ rfl hown4 qnA _ _ _ rfl rfl hk4 (.lit (.int .i64 300)) [] rfl ?_;intro w5 hown5 hg5;have hb5:=hb4.grown hg5 hb4.size (fun j hj=>by cases hj;exact qd))
  |(refine bA _ rfl _ (.const (Zx ⟨#[62]⟩)) (.func 301) 322 rfl 9 290 aY underlying322 cW w.heap.size 5 _ rfl hown5 qnA _ _ _ rfl rfl hk5 (.lit (.int .i64 301)) [] rfl ?_;intro w6 hown6 hg6;have hb6:=hb5.grown hg6 hb5.size (fun j hj=>by cases hj;exact qd))
  |(refine wpList_lookup_own_ok _ rfl _ _ 322 rfl 9 290 aY underlying322 cW (zO _) .nil [] rfl w.heap.size 6 eG rfl hown6 _ _ rfl hkey ?_;intro v ps hv;have hv2:=uo hv;subst hv2;rw [(sd _).2])
  |fail)
 go_ret2;exact ⟨rfl,hb6⟩

end
theorem GO (A:Option Addr) (cap:Nat) (n f:Int) (w:Z3):
 Calls ZW 302 #[Zu #[ZZ ZY n,ZZ ZY f],Zw A 0 cap,.func (.func F) #[] #[]] w fun e w'=>e=ZX (Zu #[ZZ ZY n,ZZ ZY f])/\Z2 w.heap.size w w':=by
 go_enter func302,ntmps302;go_wp2_with fail;go_loopw [11] (fun v wr=>v=ZZ ZY 0/\wr=(w.alloc (.cells #[ZZ ZY n,ZZ ZY f] 61)).alloc (.cells #[ZZ ZY 0,ZZ ZY 0] 61)) (fun _ _=>0)
 case atStart=>exact qmx
 case round=>
  obtain ⟨rfl,rfl⟩:=hrel;go_wp2_with fail
  exact bodyPost_ret (v:=Zu #[ZZ ZY n,ZZ ZY f]) (by simp [results,results302,go_sem]) rfl
   ⟨rfl,(by first|exact (qa.alloc qns _)|exact (((qa.alloc qns _).setCell qns _).setCell qns _))⟩

theorem FD (hA:e8 F G) (hG:g6 G) (l:List (Int×Int)) (hl:l.length<=maxLen) (hlb:∀q∈l,B64 q.1) (n f:Int) (hn:B64 n) (g o cap:Nat) (w:Z3) (hc:AtV w g o l):
 Calls ZW 302 #[Zu #[ZZ ZY n,ZZ ZY f],Zw (ZV ⟨g,o,ZU⟩) l.length cap,.func (.func F) #[] #[]] w fun e w'=>
  e=ZX (Zu #[ZZ ZY (bm G (n,f) l).1,ZZ ZY (bm G (n,f) l).2])/\Z2 w.heap.size w w':=by
 have HC:=qgx;have HL:=qf hlb;have HN:=qf hn;have HG:=qf hG;have HA:=qf hA;unfold maxLen at hl;clear hc hlb hn hG hA;go_enter func302,ntmps302;go_wp2_with fail
 go_loopw [11] (fun v wr=>∃i:Nat,∃a b:Int,i<=l.length/\v=ZZ ZY i/\Hid (bm G (n,f) (l.take i)=(a,b))/\Hid (B64 a)/\Z2 w.heap.size w wr/\w.heap.size+1<wr.heap.size/\
  wr.cell? ⟨w.heap.size,0,ZU⟩=ZV (ZZ ZY a)/\wr.cell? ⟨w.heap.size,1,ZU⟩=ZV (ZZ ZY b)/\wr.frozen? ⟨w.heap.size,0,ZU⟩=Zz/\wr.frozen? ⟨w.heap.size,1,ZU⟩=Zz/\
  wr.cell? ⟨w.heap.size+1,0,ZU⟩=ZV (ZZ ZY 0)/\wr.cell? ⟨w.heap.size+1,1,ZU⟩=ZV (ZZ ZY 0)/\wr.frozen? ⟨w.heap.size+1,0,ZU⟩=Zz/\wr.frozen? ⟨w.heap.size+1,1,ZU⟩=Zz) (fun v _=>jv l.length v)
 case atStart=>
  exact ⟨0,n,f,qe,rfl,qf (by simp [bm]),HN,qa.alloc qns _,qns,qnp,qnp,qnp,qnp,qnp,qnp,qnp,qnp⟩
 case round=>
  obtain ⟨i,a,b,hi,rfl,HP,HB,hb,z1,c0,c1,f0,f1,k0,k1,g0,g1⟩:=hrel;have z0:=qfe;by_cases hlt:i<l.length
  ·obtain ⟨x,y,hxy⟩:∃x y,l[i]? =ZV (x,y):=⟨_,_,List.getElem?_eq_getElem hlt⟩
   have hx:B64 x:=HL.out (x,y) (List.mem_of_getElem? hxy);obtain ⟨a0,a1⟩:=(HC.out.below hb) i x y hxy;have hS:=mU (G:=G) (p:=(n,f)) hxy;rw [HP.out] at hS;have HS:=qf hS;have HB2:=qf (po HG.out (p:=(a,b)) (q:=(x,y)) HB.out hx);have HM:=qf (ki HA.out a b x y HB.out hx);have zg:=qfk;clear hxy hx hS;go_wp2_with fail;refine (HM.out _).mono ?_;rintro e w1 ⟨rfl,b1⟩;have p0:=aa b1 (p:=⟨w.heap.size,0,ZU⟩) (v:=ZZ ZY a) (by simp [go_sem,c0,z0]);have p1:=aa b1 (p:=⟨w.heap.size,1,ZU⟩) (v:=ZZ ZY b) (by simp [go_sem,c1,z0]);have q0:=ae b1 (p:=⟨w.heap.size,0,ZU⟩) qnu (by simp [go_sem,f0,z0]);have q1:=ae b1 (p:=⟨w.heap.size,1,ZU⟩) qnu (by simp [go_sem,f1,z0]);have r0:=aa b1 (p:=⟨w.heap.size+1,0,ZU⟩) (v:=ZZ ZY 0) (by simp [go_sem,k0,z1]);have r1:=aa b1 (p:=⟨w.heap.size+1,1,ZU⟩) (v:=ZZ ZY 0) (by simp [go_sem,k1,z1]);have s0:=ae b1 (p:=⟨w.heap.size+1,0,ZU⟩) qnu (by simp [go_sem,g0,z1]);have s1:=ae b1 (p:=⟨w.heap.size+1,1,ZU⟩) qnu (by simp [go_sem,g1,z1]);have h2:=(hb.alloc hb.size _).trans (b1.mono (by have:=hb.size;simp;omega));have z2:w.heap.size+1<w1.heap.size:=Lib.lt_of_cell r0;clear c0 c1 f0 f1 k0 k1 g0 g1 a0 a1 b1 hb;go_wp2_with fail;go_roundw
   case rel=>
    refine ⟨i+1,(cY G (a,b) (x,y)).1,(cY G (a,b) (x,y)).2,qoq,qnG,HS,HB2,(h2.setCell qns _).setCell qns _,?_⟩;refine ⟨qnu,(by simp [go_sem,cY,p0]),(by simp [go_sem,cY,p1]),(by simp [go_sem,q0]),(by simp [go_sem,q1]),(by simp [go_sem,r0]),(by simp [go_sem,r1]),(by simp [go_sem,s0]),(by simp [go_sem,s1])⟩
   case measure=>simp [jv,RowKit.intOf];omega
  ·have hE:=HP.out
   rw [List.take_of_length_le qoq] at hE;have HE:=qf hE;clear hE;go_wp2_with fail
   exact bodyPost_ret (v:=Zu #[ZZ ZY a,ZZ ZY b]) (by simp [results,results302,go_sem,k0,k1]) rfl
    ⟨qnI,(hb.setCell qns _).setCell qns _⟩
theorem wO (hA:e8 F G) (hG:g6 G) (l:List (Int×Int)) (hl:l.length<=maxLen) (hlb:∀q∈l,B64 q.1) (n f:Int) (hn:B64 n) (A:Option Addr) (cap:Nat) (w:Z3)
 (hc:l≠[]->∃g o,A=ZV ⟨g,o,ZU⟩/\AtV w g o l):
 Calls ZW 302 #[Zu #[ZZ ZY n,ZZ ZY f],Zw A l.length cap,.func (.func F) #[] #[]] w fun e w'=>
  e=ZX (Zu #[ZZ ZY (bm G (n,f) l).1,ZZ ZY (bm G (n,f) l).2])/\Z2 w.heap.size w w':=by
 by_cases h:l=[]
 ·subst h
  exact GO A cap n f w
 ·obtain ⟨g,o,rfl,ha⟩:=hc h
  exact FD hA hG l hl hlb n f hn g o cap w ha
theorem tL (hA:e8 F G) (hG:g6 G) (l:List (Int×Int)) (hl:l.length<=maxLen) (hlb:∀q∈l,B64 q.1) (A:Option Addr) (cap:Nat) (w:Z3) (hc:fH w A l):
 Calls ZW 304 #[Zw A l.length cap,.func (.func F) #[] #[]] w fun e w'=>
  e=ZX (Zu #[ZZ ZY (bv G l).1,ZZ ZY (bv G l).2])/\Z2 w.heap.size w w':=by
 cases l with
 |nil=>
  clear hc hlb hl hG hA;go_enter func304,ntmps304;go_wp2_with fail;exact bodyPost_ret (v:=Zu #[ZZ ZY 0,ZZ ZY 0]) (by simp [results,results304,go_sem]) rfl ⟨rfl,qa⟩
 |cons q r=>
  obtain ⟨x,y⟩:=q;have HM:=qf fun W hW=>wO hA hG ((x,y)::r) hl hlb x y (hlb (x,y) qns) A cap W hW
  have HC:=qgx;obtain ⟨g,o,rfl,ha⟩:=hc qns;obtain ⟨a0,a1⟩:=ha 0 x y rfl;have e0:o+0*2=o:=qoq;rw [e0] at a0 a1;have zg:g<w.heap.size:=Lib.lt_of_cell a0;have hlen:(((x,y)::r).length:Int)=(r.length:Int)+1:=qns;have hne:((((x,y)::r).length:Int)==0)=Zz:=qoy;have hpos:(0:Int)<(((x,y)::r).length:Int):=qoq;have HX:Hid (bv G ((x,y)::r)=bm G (x,y) ((x,y)::r)):=qf rfl;rw [HX.out];clear HX ha hlb hl hG hA hlen e0 hc;generalize bm G (x,y) ((x,y)::r)=X at*;generalize hL:((x,y)::r).length=L at*;clear hL;go_enter func304,ntmps304;go_wp2_with fail;refine .mono qrW ?_;rintro e w1 ⟨rfl,b1⟩;obtain ⟨k0,k1,f0,f1⟩:=qaB;have h1:=qab;clear b1;go_wp2_with fail;exact bodyPost_ret (v:=Zu #[ZZ ZY X.1,ZZ ZY X.2]) (by simp [results,results304,go_sem,k0,k1]) rfl ⟨rfl,(h1.setCell qns _).setCell qns _⟩

theorem Hd (l:List (Int×Int)) (hl:l.length<=maxLen) (hlb:∀q∈l,B64 q.1) (A:Option Addr) (cap:Nat) (w:Z3) (hc:fH w A l):
 Calls ZW 259 #[Zw A l.length cap] w fun e w'=>e=ZX (Zu #[ZZ ZY (bm de (0,0) l).1,ZZ ZY (bm de (0,0) l).2])/\Z2 w.heap.size w w':=by
 have HM:=qf (fun W hW=>wO (G:=de) zE lw l hl hlb 0 0 qnY A cap W hW);have HC:=qgx;clear hc hlb hl;generalize bm de (0,0) l=X at*;generalize hL:l.length=L at*;have hmf:=qaw;clear hL;go_enter func259,ntmps259;go_wp2_with fail;refine .mono qrW ?_;rintro e w1 ⟨rfl,b1⟩;obtain ⟨k0,k1,f0,f1⟩:=qaB;have h1:=qab;clear b1;go_wp2_with fail;exact bodyPost_ret (v:=Zu #[ZZ ZY X.1,ZZ ZY X.2]) (by simp [results,results259,go_sem,k0,k1]) rfl ⟨rfl,(h1.setCell qns _).setCell qns _⟩

theorem CN (l:List (Int×Int)) (hl:l.length<=maxLen) (hlb:∀q∈l,B64 q.1) (A:Option Addr) (cap:Nat) (w:Z3) (hc:fH w A l):
 Calls ZW 262 #[Zw A l.length cap] w fun e w'=>e=ZX (Zu #[ZZ ZY (bv cN l).1,ZZ ZY (bv cN l).2])/\Z2 w.heap.size w w':=by
 have HM:=qf (fun W hW=>tL (G:=cN) Gf pK l hl hlb A cap W hW);have HC:=qgx;clear hc hlb hl;generalize bv cN l=X at*;generalize hL:l.length=L at*;have hmf:=qaw;clear hL;go_enter func262,ntmps262;go_wp2_with fail;refine .mono qrW ?_;rintro e w1 ⟨rfl,b1⟩;obtain ⟨k0,k1,f0,f1⟩:=qaB;have h1:=qab;clear b1;go_wp2_with fail;exact bodyPost_ret (v:=Zu #[ZZ ZY X.1,ZZ ZY X.2]) (by simp [results,results262,go_sem,k0,k1]) rfl ⟨rfl,(h1.setCell qns _).setCell qns _⟩

theorem um (l:List (Int×Int)) (hl:l.length<=maxLen) (hlb:∀q∈l,B64 q.1) (A:Option Addr) (cap:Nat) (w:Z3) (hc:fH w A l):
 Calls ZW 264 #[Zw A l.length cap] w fun e w'=>e=ZX (Zu #[ZZ ZY (bv cM l).1,ZZ ZY (bv cM l).2])/\Z2 w.heap.size w w':=by
 have HM:=qf (fun W hW=>tL (G:=cM) Hh pR l hl hlb A cap W hW);have HC:=qgx;clear hc hlb hl;generalize bv cM l=X at*;generalize hL:l.length=L at*;have hmf:=qaw;clear hL;go_enter func264,ntmps264;go_wp2_with fail;refine .mono qrW ?_;rintro e w1 ⟨rfl,b1⟩;obtain ⟨k0,k1,f0,f1⟩:=qaB;have h1:=qab;clear b1;go_wp2_with fail;exact bodyPost_ret (v:=Zu #[ZZ ZY X.1,ZZ ZY X.2]) (by simp [results,results264,go_sem,k0,k1]) rfl ⟨rfl,(h1.setCell qns _).setCell qns _⟩
theorem AO (l:List UInt8) (n:Nat) (h:dE l=ZV n):∃G,e8 n G/\∀a b,vOp l a b=ZV (G a b):=by
 by_cases h0:l=[43]
 ·subst h0;obtain rfl:289=n:=Option.some.inj h;exact ⟨_,zE,fun _ _=>rfl⟩
 by_cases h1:l=[45]
 ·subst h1;obtain rfl:290=n:=Option.some.inj h;exact ⟨_,LL,fun _ _=>rfl⟩
 by_cases h2:l=[42]
 ·subst h2;obtain rfl:291=n:=Option.some.inj h;exact ⟨_,K0,fun _ _=>rfl⟩
 by_cases h3:l=[47]
 ·subst h3;obtain rfl:293=n:=Option.some.inj h;exact ⟨_,K7,fun _ _=>rfl⟩
 unfold dE at h;simp only [h0,h1,h2,h3,if_false] at h;cases h
theorem yp (l:List UInt8) (n:Nat) (h:cX l=ZV n):∃G,e8 n G/\∀a b,vOp l a b=ZV (G a b):=by
 by_cases h0:l=[60]
 ·subst h0;obtain rfl:295=n:=Option.some.inj h;exact ⟨_,My,fun _ _=>rfl⟩
 by_cases h1:l=[60,61]
 ·subst h1;obtain rfl:297=n:=Option.some.inj h;exact ⟨_,Nq,fun _ _=>rfl⟩
 by_cases h2:l=[61]
 ·subst h2;obtain rfl:298=n:=Option.some.inj h;exact ⟨_,Nl,fun _ _=>rfl⟩
 by_cases h3:l=[60,62]
 ·subst h3;obtain rfl:299=n:=Option.some.inj h;exact ⟨_,Oc,fun _ _=>rfl⟩
 by_cases h4:l=[62,61]
 ·subst h4;obtain rfl:300=n:=Option.some.inj h;exact ⟨_,MX,fun _ _=>rfl⟩
 by_cases h5:l=[62]
 ·subst h5;obtain rfl:301=n:=Option.some.inj h;exact ⟨_,On,fun _ _=>rfl⟩
 unfold cX at h;simp only [h0,h1,h2,h3,h4,h5,if_false] at h;cases h
theorem I4 (l:List UInt8) (h:dE l=ZU) (h':cX l=ZU) (a b:Int):vOp l a b=ZU:=by
 by_cases h0:l=[43]
 ·subst h0;exact absurd h qnv
 by_cases h1:l=[45]
 ·subst h1;exact absurd h qnv
 by_cases h2:l=[42]
 ·subst h2;exact absurd h qnv
 by_cases h3:l=[47]
 ·subst h3;exact absurd h qnv
 by_cases h4:l=[60]
 ·subst h4;exact absurd h' qnv
 by_cases h5:l=[60,61]
 ·subst h5;exact absurd h' qnv
 by_cases h6:l=[61]
 ·subst h6;exact absurd h' qnv
 by_cases h7:l=[60,62]
 ·subst h7;exact absurd h' qnv
 by_cases h8:l=[62,61]
 ·subst h8;exact absurd h' qnv
 by_cases h9:l=[62]
 ·subst h9;exact absurd h' qnv
 unfold vOp;simp only [h0,h1,h2,h3,h4,h5,h6,h7,h8,h9,if_false]

theorem Lr (s:ByteArray) (hs:s.size<=maxLen) (n f m g:Int) (hn:B64 n) (hm:B64 m) (w:Z3):
 Calls ZW 213 #[.string s,Zu #[ZZ ZY n,ZZ ZY f],Zu #[ZZ ZY m,ZZ ZY g]] w fun e w'=>
  e=ZX (.tuple #[Zu #[ZZ ZY (cQ s.data.toList n f m g),ZZ ZY (cd s.data.toList n f m g)],.bool (vOp s.data.toList n m).isSome])/\Z2 w.heap.size w w':=by
 have H:=wI s hs;have K:=ua s hs;unfold kr at H;unfold jl at K;cases ho:dE s.data.toList with
 |some k=>
  obtain ⟨G,hA,hG⟩:=AO _ _ ho;obtain ⟨e1,e2,e3⟩:=rW (l:=s.data.toList) (f:=f) (g:=g) (hG n m);rw [e1,e2,e3];have HB:=qf (ki hA n f m g hn hm);rw [ho] at H;have HH:=qf H;simp only [Option.isSome_some] at HH;generalize dG (G n m) f g=X at*;generalize dJ (G n m) f g=Y at*;clear H K ho hA hG e1 e2 e3 hn hm;go_enter func213,ntmps213;go_wp2_with fail;refine (HH.out _).mono ?_;rintro e w1 ⟨rfl,b1⟩;obtain ⟨a10,a11,c10,c11,k10,f10,k11,f11,h1,z1,y1,x1⟩:=qS;clear b1;go_wp2_with fail;refine (HB.out _).mono ?_;rintro e w2 ⟨rfl,b2⟩;obtain ⟨a20,a21,c20,c21,k20,f20,k21,f21,h2,z2,y2,x2⟩:=qaU;clear b2 h1 z1 a10 a11 c10 c11 k10 k11 f10 f11;go_wp2_with fail
  exact bodyPost_ret (v:=.tuple #[Zu #[ZZ ZY X,ZZ ZY Y],.bool Zy]) qqw rfl
   ⟨rfl,(h2.setCell qnu _).setCell qnu _⟩
 |none=>
  rw [ho] at H;have HH:=qf H;simp only [Option.isSome_none] at HH;clear H;cases hc:cX s.data.toList with
  |some k=>
   obtain ⟨G,hA,hG⟩:=yp _ _ hc;obtain ⟨e1,e2,e3⟩:=rW (l:=s.data.toList) (f:=f) (g:=g) (hG n m);rw [e1,e2,e3];have HB:=qf (ki hA n f m g hn hm);rw [hc] at K;have HK:=qf K;simp only [Option.isSome_some] at HK;generalize dG (G n m) f g=X at*;generalize dJ (G n m) f g=Y at*;clear K ho hc hA hG e1 e2 e3 hn hm;go_enter func213,ntmps213;go_wp2_with fail;refine (HH.out _).mono ?_;rintro e w1 ⟨rfl,b1⟩;obtain ⟨a10,a11,c10,c11,k10,f10,k11,f11,h1,z1,y1,x1⟩:=qS;clear b1;go_wp2_with fail;refine (HK.out _).mono ?_;rintro e w2 ⟨rfl,b2⟩;obtain ⟨a20,a21,c20,c21,k20,f20,k21,f21,h2,z2,y2,x2⟩:=qaU;clear b2 h1 z1 a10 a11 c10 c11 k10 k11 f10 f11;go_wp2_with fail;refine (HB.out _).mono ?_;rintro e w3 ⟨rfl,b3⟩;have a30:=aa b3 a20;have a31:=aa b3 a21;have c30:=aa b3 c20;have c31:=aa b3 c21;have k30:=aa b3 k20;have f30:=ae b3 z2 f20;have k31:=aa b3 k21;have f31:=ae b3 z2 f21;have h3:=h2.trans (b3.mono h2.size);have z3:w.heap.size+1+1<w3.heap.size:=Lib.lt_of_cell k30;have y3:w.heap.size+1<w3.heap.size:=qoq;have x3:w.heap.size<w3.heap.size:=qoq;clear b3 h2 z2 a20 a21 c20 c21 k20 k21 f20 f21;go_wp2_with fail
   exact bodyPost_ret (v:=.tuple #[Zu #[ZZ ZY X,ZZ ZY Y],.bool Zy]) (by simp [results,results213,go_sem,k30,k31]) rfl
    ⟨rfl,(h3.setCell qnu _).setCell qnu _⟩
  |none=>
   obtain ⟨e1,e2,e3⟩:=Lx (f:=f) (g:=g) (I4 _ ho hc n m);rw [e1,e2,e3];rw [hc] at K;have HK:=qf K;simp only [Option.isSome_none] at HK;clear K ho hc e1 e2 e3 hn hm;go_enter func213,ntmps213;go_wp2_with fail;refine (HH.out _).mono ?_;rintro e w1 ⟨rfl,b1⟩;obtain ⟨a10,a11,c10,c11,k10,f10,k11,f11,h1,z1,y1,x1⟩:=qS;clear b1;go_wp2_with fail;refine (HK.out _).mono ?_;rintro e w2 ⟨rfl,b2⟩;obtain ⟨a20,a21,c20,c21,k20,f20,k21,f21,h2,z2,y2,x2⟩:=qaU;clear b2 h1 z1 a10 a11 c10 c11 k10 k11 f10 f11;go_wp2_with fail
   exact bodyPost_ret (v:=.tuple #[Zu #[ZZ ZY 0,ZZ ZY 0],.bool Zz]) qqw rfl
    ⟨rfl,(h2.setCell qnu _).setCell qnu _⟩

theorem Hs (n f:Int) (hn:B64 n) (w:Z3):
 Calls ZW 212 #[Zu #[ZZ ZY n,ZZ ZY f]] w fun e w'=>e=ZX (Zu #[ZZ ZY (cQ [45] 0 0 n f),ZZ ZY (cd [45] 0 0 n f)])/\Z2 w.heap.size w w':=by
 have e0:vOp [45] 0 n=ZV (cJ (-n)):=by
  show ZV (cJ (0 - n))=_
  rw [show (0:Int) - n= -n from by omega]
 obtain ⟨e1,e2,_⟩:=rW (f:=0) (g:=f) e0;rw [e1,e2];have H:=qf (ki KJ 0 0 n f qnY hn);have hmf:=qaw;clear hn e0 e1 e2;generalize dG (cJ (-n)) 0 f=X at*;generalize dJ (cJ (-n)) 0 f=Y at*;go_enter func212,ntmps212;go_wp2_with fail;refine .mono qrz ?_;rintro e w1 ⟨rfl,b1⟩;obtain ⟨k0,k1,f0,f1⟩:=qcj;have h1:=qcQ;clear b1;go_wp2_with fail;exact bodyPost_ret (v:=Zu #[ZZ ZY X,ZZ ZY Y]) (by simp [results,results212,go_sem,k0,k1]) rfl ⟨rfl,(h1.setCell qns _).setCell qns _⟩
section
section
variable {α:Type} {E:TypeId} {n:Nat} {f:α->List Value}
theorem DW {S:TypeId} {i0:TypeInfo}
 (hg:o.guard=ZU) (s x:Operand) (ho:o.op=.call { callee:=.builtin .append,args:=#[s,x],argTypes:=#[S,S] }) {X:List α}
 (hs:a.eval s=v) (hown:av E n f base w v X) {c2:Nat} {L2:List α} (hx:a.eval x=Zw (ZV ⟨g2,o2,ZU⟩) L2.length c2) (hL:AtR f n w g2 o2 L2) (h0:0<L2.length) (hN:X.length+L2.length=N) {Z:List α} (hZ:X++L2=Z)
 (hu:prog.underlying S=ZV (.slice E)) (hi0:prog.info? E=ZV i0) (hz0:i0.zero=ZV z) (hz1:i0.size=n) (hz2:i0.bytes=nb) (hzc:z.cells.size=n) (hn0:0<n)
 (hf:∀q,(f q).length=n) (h1c:∀q,∀u∈f q,u.oneCell'=Zy) (hroom:nb*(X.length+L2.length)<=200000000) (hlen:X.length+L2.length<=25000000) (hbase:base<=w.heap.size)
 (h:∀g cap w',av E n f base w' (Zw (ZV ⟨g,0,ZU⟩) N cap) Z->w.grownBy w' v.ownBlock->(v.ownBlock=ZV g\/g=w.heap.size)->g<w'.heap.size->wpList ZW ops Q rest (a.put o.dst (Zw (ZV ⟨g,0,ZU⟩) N cap)) w'):wpList ZW ops Q (o::rest) a w:=by
 subst hN hZ;refine wpList_append_lies _ hg s x S ho base E i0 z n nb hu hi0 hz0 hz1 hz2 hzc hn0 v X.length (X.flatMap f) hs hown ⟨g2,o2,ZU⟩ L2.length c2 (L2.flatMap f) hx (et hf L2) ?_ ?_ h0 qnH ?_ hbase w.heap.size rfl fun g cap w' hown' hg' hat hlt=>h g cap w' ?_ hg' hat hlt
 ·intro j u hj
  exact qjn
 ·intro u hu'
  exact qld
 ·have e:nb*(X.length+L2.length)=(X.length+L2.length)*nb:=Nat.mul_comm _ _
  omega
 ·unfold av
  exact qlt
theorem av.cut {A:Option Addr} {cap:Nat} {L:List α} (hf:∀q,(f q).length=n) (h:av E n f base w (Zw A N cap) L) (hne:0<L.length) (k:Nat) (hk:k<=L.length):av E n f base w (Zw A k cap) (L.take k):=by
 obtain ⟨h1,h2⟩:=h;have hkl:(L.take k).length=k:=qpo;rcases h2 with ⟨_,hz⟩|⟨g,c,cur,e,h3,h4,h5,h6,h7,h8⟩
 ·omega
 ·simp only [Value.slice.injEq] at e
  obtain ⟨rfl,rfl,rfl⟩:=e;refine ⟨(by rw [et hf,hkl]),.inr ⟨g,cap,cur,(by rw [hkl]),h3,h4,qoq,h6,h7,?_⟩⟩;rw [hkl]
  have e2:(L.take k).flatMap f=(L.flatMap f).take (k*n):=by
   conv=>rhs;rw [<-List.take_append_drop k L,List.flatMap_append,List.take_append_of_le_length (by rw [et hf,hkl];exact qd),List.take_of_length_le (by rw [et hf,hkl];exact qd)]
  rw [e2,<-h8,List.take_take,Nat.min_eq_left (Nat.mul_le_mul_right n hk)]
end
end
theorem iD {c R:Code} (l:Nat) (J:Act->Z3->Prop) (μ:Act->Z3->Nat) (hf:findLabel c l=ZV (.seq .skip R))
 (pass:∀a w,J a w->R.wp P (Exit.jump l (fun a' w'=>J a' w'/\μ a' w'<μ a w) Q) a w)
 (first:(∀a w,J a w->R.wp P (Exit.jump l J Q) a w)->c.wp P (Exit.jump l J Q) a w):(Code.scope c).wp P Q a w:=
 wp_scope_jumps l J μ hf (first fun a w hj=>wp_mono (pass a w hj) fun e a w h=>by
  cases e with
  |«goto» l'=>exact ⟨h.1,h.2.1⟩
  |_=>exact h) fun a w hj=>wp_seq (wp_skip (pass a w hj))
open Classical in
noncomputable def je (L:List Lk):Nat:=if OkK L then (if jd L then 0 else 5) else 1
theorem Ep {L:List Lk} (hk:OkK L) (h:¬jd L):je L=5:=by
 unfold je;rw [if_pos hk,if_neg h]
theorem Ev {L:List Lk} (hk:OkK L) (h:jd L):je L=0:=by
 unfold je;rw [if_pos hk,if_pos h]
def OkM (q:LkM):Prop:=okN q.at_/\∀r∈q.rd,okN r
theorem N2 {l:List LkM} (h:∀q∈l,OkM q):OkK (lkS l):=fun x hx=>by
 obtain ⟨q,hq,rfl⟩:=List.mem_map.1 hx;exact h q hq
theorem ES {l:List LkM} {q:LkM} (hq:l[i]? =ZV q) (h:jd (lkS (l.take i))) (hn:∀x∈l.take i,x.at_≠q.at_):jd (lkS (l.take (i+1))):=by
 rw [List.take_add_one,hq];unfold lkS jd;rw [List.map_append];refine List.pairwise_append.2 ⟨h,List.pairwise_singleton _ _,fun a ha b hb=>?_⟩;obtain ⟨x,hx,rfl⟩:=List.mem_map.1 ha;obtain rfl:b=q.k:=qqH;exact hn x hx
theorem Im {l:List LkM} {k:Nat} {q x:LkM} (hk:k<i) (hx:l[k]? =ZV x) (hq:l[i]? =ZV q) (e:x.at_=q.at_):¬jd (lkS l):=fun h=>by
 have h1:(lkS l)[k]? =ZV x.k:=(by unfold lkS;rw [List.getElem?_map,hx];rfl);have h2:(lkS l)[i]? =ZV q.k:=(by unfold lkS;rw [List.getElem?_map,hq];rfl);obtain ⟨h3,e3⟩:=List.getElem?_eq_some_iff.1 h1;obtain ⟨h4,e4⟩:=List.getElem?_eq_some_iff.1 h2;exact qlO
