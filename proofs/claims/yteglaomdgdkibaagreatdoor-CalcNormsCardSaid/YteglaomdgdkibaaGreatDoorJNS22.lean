import Derived.Test.YteglaomdgdkibaaGreatDoorJNS20
import Derived.Test.YteglaomdgdkibaaGreatDoorJNS21
import Derived.Shelf.Small.Wraps
import Derived.Test.YteglaomdgdkibaaGreatDoorJQNSP
import Derived.Test.YteglaomdgdkibaaGreatDoorJQNSW
import Derived.Test.YteglaomdgdkibaaGreatDoorJQNSX
import Derived.Test.YteglaomdgdkibaaGreatDoorJQYNSP
set_option linter.all false
set_option maxHeartbeats 0
set_option maxRecDepth 99999
namespace Go.Proofs.YteglaomdgdkibaaGreatDoor
open Go.RowKit
open Value renaming int→ZZ,string→Zx,slice→Zw,pointer→Zv
open IntKind renaming i64→ZY
open Ending renaming returned→ZX
open RowKit renaming Below→Z2
open Go renaming World→Z3
open Tryz
open Tryz renaming prog→ZW
open Option renaming some→ZV,none→ZU
open Bool renaming false→Zz,true→Zy
variable {t:Tr}{r s:List UInt8}{c x:Int}{l:List Src}{ft:Int->Option (List UInt8)}{W W' w:World}{S b1 b2 base n:Nat}{e:Ending}
section
open Go.Maps
def stE:Elm (List UInt8) where
 val s:=Zx ⟨s.toArray⟩
 dat s:=.lit (.string s)
 rd v:=match v with
  |.string b=>ZV (.lit (.string b.data.toList),[])
  |_=>ZU
 here _:=rfl
 back {v a ps} h:=by
  cases v<;>simp at h
  obtain ⟨h,_⟩:=h;subst h;rfl
def vlE:Elm (Int×Int) where
 val v:=.agg #[ZZ ZY v.1,ZZ ZY v.2]
 dat v:=gB v.1 v.2
 rd:=gC
 here _:=rfl
 back h:=jN h
structure Sa where
 addr:Option Addr
 len:Nat
 cap:Nat
def iL (n:Int):DataW Unit:=.lit (.int .i64 n)
def adI:Option Addr->Int×Int×Int
 |none=>(-1, -1, -1)
 |some a=>(a.block,a.off,match a.spot with|none=> -1|some k=>k)
theorem LY:∀{A B:Option Addr},adI A=adI B->A=B
 |none,ZU,_=>rfl
 |none,ZV b,h=>by simp only [adI,Prod.mk.injEq] at h;omega
 |some a,ZU,h=>by simp only [adI,Prod.mk.injEq] at h;omega
 |some ⟨ab,ao,ZU⟩,ZV ⟨bb,bo,ZU⟩,h=>by
  simp only [adI,Prod.mk.injEq] at h;obtain rfl:ab=bb:=qoq;obtain rfl:ao=bo:=qoq;rfl
 |some ⟨ab,ao,ZU⟩,ZV ⟨bb,bo,ZV k⟩,h=>by simp only [adI,Prod.mk.injEq] at h;omega
 |some ⟨ab,ao,ZV k⟩,ZV ⟨bb,bo,ZU⟩,h=>by simp only [adI,Prod.mk.injEq] at h;omega
 |some ⟨ab,ao,ZV j⟩,ZV ⟨bb,bo,ZV k⟩,h=>by
  simp only [adI,Prod.mk.injEq] at h;obtain rfl:ab=bb:=qoq;obtain rfl:ao=bo:=qoq;obtain rfl:j=k:=qoq;rfl
def saD (A:Option Addr) (l c:Nat):DataW Unit:=.agg [iL (adI A).1,iL (adI A).2.1,iL (adI A).2.2,iL l,iL c]
def saE:Elm Sa where
 val s:=Zw s.addr s.len s.cap
 dat s:=saD s.addr s.len s.cap
 rd v:=match v with
  |Zw A l c=>ZV (saD A l c,[])
  |_=>ZU
 here _:=rfl
 back {v a ps} h:=by
  obtain ⟨A,l,c⟩:=a;split at h
  ·rename_i A' l' c'
   unfold saD iL at h;simp only [Option.some.injEq,Prod.mk.injEq,DataW.agg.injEq,List.cons.injEq,DataW.lit.injEq,Lit.int.injEq,true_and,and_true] at h;obtain ⟨⟨h1,h2,h3,h4,h5⟩,_⟩:=h;obtain rfl:A'=A:=LY (Prod.ext h1 (Prod.ext h2 h3));exact qma
  ·cases h
def trV (t:Tr) (s:Sa):Value:=.agg #[ZZ ZY t.kY,ZZ ZY t.num,ZZ ZY t.c1,ZZ ZY t.r1,ZZ ZY t.c2,ZZ ZY t.r2,Zx ⟨t.wZ.toArray⟩,saE.val s]
def trD (k n c r d s:Int) (b:List UInt8) (x:DataW Unit):DataW Unit:=.agg [.lit (.int .i64 k),.lit (.int .i64 n),.lit (.int .i64 c),.lit (.int .i64 r),.lit (.int .i64 d),.lit (.int .i64 s),.lit (.string b),x]
def trE:Elm (Tr×Sa) where
 val x:=trV x.1 x.2
 dat x:=trD x.1.kY x.1.num x.1.c1 x.1.r1 x.1.c2 x.1.r2 x.1.wZ (saE.dat x.2)
 rd v:=match v with
  |.agg a=>(match a.toList with
   |[ZZ ZY k,ZZ ZY n,ZZ ZY c,ZZ ZY r,ZZ ZY d,ZZ ZY s,.string b,w]=>(saE.rd w).bind fun p=>ZV (trD k n c r d s b.data.toList p.1,p.2)
   |_=>ZU)
  |_=>ZU
 here x:=by
  show (saE.rd (saE.val x.2)).bind _=_
  rw [saE.here];rfl
 back {v x ps} h:=by
  obtain ⟨t,sl⟩:=x;split at h
  ·rename_i a
   split at h
   ·rename_i k n c r d s b w hl
    cases e:saE.rd w with
    |none=>rw [e] at h;cases h
    |some p=>
     obtain ⟨dw,qs⟩:=p;rw [e] at h;simp only [Option.bind_some,Option.some.injEq,Prod.mk.injEq] at h;obtain ⟨h1,rfl⟩:=h;unfold trD at h1;simp only [DataW.agg.injEq,List.cons.injEq,DataW.lit.injEq,Lit.int.injEq,Lit.string.injEq,true_and,and_true] at h1;obtain ⟨rfl,rfl,rfl,rfl,rfl,rfl,h7,rfl⟩:=h1;have:=saE.back e;subst this;obtain ⟨l⟩:=a;simp only at hl;rw [hl];show Value.agg _=trV _ _
     unfold trV;rw [<-h7]
   ·cases h
  ·cases h
theorem J5 {s:Sa} (h:s.len=t.kZ.length):trV t s=tv t s.addr s.cap:=by
 unfold trV tv;rw [<-h];rfl
def aO:Tr:=.mk 0 0 0 0 0 0 [] []
def lx:Sa:=⟨ZU,0,0⟩
theorem zn (W:Z3):(zeroValue 33).run ZW W=.ok (trE.val (aO,lx)) W:=by kernel_rfl
theorem Lu (W:Z3):(zeroValue 9).run ZW W=.ok (stE.val []) W:=by kernel_rfl
theorem LH (W:Z3):(zeroValue 61).run ZW W=.ok (vlE.val (0,0)) W:=oG W
end
def xk:oJ->Option Tr
 |.good t=>ZV t
 |.fail _ _=>ZU
def aU:List UInt8->Option Tr
 |[]=>ZU
 |c::r=>if c=61 then xk (aL r) else ZU
theorem kn (h:s=[]\/∃c r,s=c::r/\c≠61):aU s=ZU:=by
 rcases h with rfl|⟨c,r,rfl,h⟩
 ·rfl
 ·exact if_neg h
theorem lC (r:List UInt8):aU (61::r)=xk (aL r):=by
 show (if (61:UInt8)=61 then xk (aL r) else ZU)=_
 exact if_pos rfl
theorem ex (h:aU s=ZV t):∃r,s=61::r/\aL r=.good t:=by
 cases s with
 |nil=>cases h
 |cons c r=>
  by_cases hc:c=61
  ·subst hc
   rw [lC] at h;cases hp:aL r with
   |good u=>rw [hp] at h;cases h;exact ⟨r,rfl,hp⟩
   |fail a e=>rw [hp] at h;cases h
  ·rw [kn (.inr ⟨c,r,rfl,hc⟩)] at h;cases h
def fi:oJ->List UInt8×Int×Int
 |.fail a e=>([],wrap64 (a+1),e)
 |.good t=>if 200<(aX t).length+1 then ([],0,3) else (61::aX t,0,0)
def ew (s:List UInt8):List UInt8×Int×Int:=if 200<s.length then ([],0,3) else match s with
 |[]=>if pB []=Zy then ([],0,0) else ([],0,2)
 |c::r=>if c=61 then fi (aL r) else if pB (c::r)=Zy then (c::r,0,0) else ([],0,2)
theorem i5 (h:200<s.length):ew s=([],0,3):=if_pos h
theorem fP (h:¬200<(61::r:List UInt8).length):ew (61::r)=fi (aL r):=by
 unfold ew;rw [if_neg h];exact if_pos rfl
theorem gE (h:¬200<s.length) (hs:s=[]\/∃c r,s=c::r/\c≠61):ew s=if pB s=Zy then (s,0,0) else ([],0,2):=by
 unfold ew;rw [if_neg h];rcases hs with rfl|⟨c,r,rfl,hc⟩
 ·rfl
 ·exact if_neg hc
theorem eo (s:List UInt8):(s=[]\/∃c r,s=c::r/\c≠61)\/∃r,s=61::r:=by
 cases s with
 |nil=>exact .inl (.inl rfl)
 |cons c r=>
  by_cases h:c=61
  ·subst h;exact .inr ⟨r,rfl⟩
  ·exact .inl (.inr ⟨c,r,rfl,h⟩)
def plB (s:List UInt8):Bool:=(ew s).2.2==0&&(ew s).1==s
theorem Mi (h:200<s.length):plB s=Zz:=by
 unfold plB;rw [i5 h];rfl
theorem L3 (r:List UInt8):pB (61::r)=Zz:=by
 have h:∀n,Lib.atoiAll (61::r)≠.ok n:=fun n=>by
  unfold Lib.atoiAll;simp [Lib.parseMag,Lib.parseUint10]
 unfold pB;split
 ·rename_i n hn;exact absurd hn (h n)
 ·rfl
theorem N9 (h:¬200<s.length) (hp:pB s=Zy):plB s=Zy/\aU s=ZU:=by
 rcases eo s with hs|⟨r,rfl⟩
 ·refine ⟨?_,kn hs⟩
  unfold plB;rw [gE h hs,if_pos hp];simp
 ·rw [L3] at hp;cases hp
theorem Lf (h:¬200<s.length) (hp:pB s=Zz) (ht:aU s=ZU):plB s=Zz:=by
 unfold plB;rcases eo s with hs|⟨r,rfl⟩
 ·rw [gE h hs,if_neg (by rw [hp];decide)];rfl
 ·rw [fP h]
  rw [lC] at ht;cases hr:aL r with
  |good t=>rw [hr] at ht;cases ht
  |fail a e=>
   have:=jA hr;simp only [fi];have h2:(e==0)=Zz:=(by simpa using this);rw [h2];rfl
theorem KW (h:¬200<s.length) (ht:aU s=ZV t):plB s=((61::aX t)==s):=by
 obtain ⟨r,rfl,hr⟩:=ex ht;unfold plB;rw [fP h,hr];by_cases hz:200<(aX t).length+1
 ·rw [fi,if_pos hz]
  have:((61::aX t)==(61::r:List UInt8))=Zz:=by
   rw [beq_eq_false_iff_ne];intro e;rw [<-e] at h;simp at h;omega
  rw [this];rfl
 ·rw [fi,if_neg hz];rfl
theorem FN:plB []=Zz:=by kernel_rfl
theorem L0 (hr:bz t=Zy):rdL t=(rdI t).map fun z=>(z % 16,z / 16):=by
 unfold rdL;rw [f9,if_pos hr];unfold nD rdI;rw [List.map_map]
 have hk:∀j:Nat,j∈List.range 1024->atC (j:Int)=(j:Int) % 16/\atR (j:Int)=(j:Int) / 16:=fun j hj=>by
  have:=List.mem_range.1 hj;unfold atC atR;rw [if_pos qoq,if_pos qoq];exact ⟨rfl,rfl⟩
 have hf:((List.range 1024).filter fun (j:Nat)=>usT (atC (j:Int)) (atR (j:Int)) t)=((List.range 1024).filter fun (j:Nat)=>usT ((j:Int) % 16) ((j:Int) / 16) t):=by
  refine List.filter_congr fun j hj=>?_
  rw [(hk j hj).1,(hk j hj).2]
 rw [hf];refine List.map_congr_left fun j hj=>?_
 have hj2:=(List.mem_filter.1 hj).1;show (atC (j:Int),atR (j:Int))=((j:Int) % 16,(j:Int) / 16)
 rw [(hk j hj2).1,(hk j hj2).2]
theorem sj (hr:bz t=Zy) {r:Int}:(c,r)∈rdL t↔usT c r t=Zy:=by
 rw [L0 hr,List.mem_map];constructor
 ·rintro ⟨z,hz,he⟩
  obtain ⟨h0,h1,h2⟩:=zQ.1 hz;have e1:=congrArg Prod.fst he;have e2:=congrArg Prod.snd he;simp only at e1 e2;rw [<-e1,<-e2];exact h2
 ·intro h
  have hb:=oI h;unfold rightB at hb;simp at hb
  refine ⟨16*r+c,zQ.2 ⟨qoq,qoq,?_⟩,?_⟩
  ·rw [show (16*r+c) % 16=c from by omega,show (16*r+c) / 16=r from by omega];exact h
  ·rw [show (16*r+c) % 16=c from by omega,show (16*r+c) / 16=r from by omega]
theorem nH (t:Tr):(rdL t).length<=1024:=by
 unfold rdL;split
 ·unfold nD
  rw [List.length_map];exact Nat.le_trans (List.length_filter_le _ _) (by rw [List.length_range];exact qd)
 ·exact qe
theorem lI {l:List UInt8} (h:aL l=.good t):br t<=1000:=by
 obtain ⟨_,_,ht,_⟩:=mH h;have h1:=(BW (aE l) l.length _).line 1 0 t _ ht;have h3:=kW l;omega
theorem PJ (l:List UInt8):kM (pV l):=by
 unfold pV kM;split
 ·rename_i v h
  have:=Lib.atoiAll_bounds h;unfold ci;split<;>omega
 ·omega
def F13:TxF:=⟨aU,rdL,ofV,pV⟩
theorem AI:mY F13 where
 same t l m h:=by
  show ofV l t=ofV m t
  unfold ofV;by_cases hr:bz t=Zy
  ·rw [if_pos hr,if_pos hr]
   exact sN t ((ey t).1 hr).2.2 fun x y hu=>h (x,y) ((sj hr).2 hu)
  ·rw [if_neg hr,if_neg hr]
 nz t l h:=O4 l t h
theorem oP:TxB F13 where
 rd s t h p hp:=by
  obtain ⟨r,_,hr⟩:=ex h;exact oI ((sj (bO hr).right).1 hp)
 val s t l h hC:=by
  obtain ⟨r,_,hr⟩:=ex h;have pt:=bO hr;have hn:=lI hr;show kM (ofV l t).1
  unfold ofV;rw [if_pos pt.right];exact B7 hC t pt.may pt.fit qoq
 num s:=by
  show kM (pV s)
  exact PJ s
section
open Go.Maps
theorem lH:prog.underlying 100=ZV (.map 3 9):=by kernel_rfl
theorem oK:prog.underlying 101=ZV (.map 3 33):=by kernel_rfl
structure ShS (w:Z3) (base S b1 b2 n:Nat) (ft:Int->Option (List UInt8)) (fr:Int->Option (Tr×Sa)):Prop where
 c0:w.cell? ⟨S,0,ZU⟩=ZV (.map (ZV b1))
 c1:w.cell? ⟨S,1,ZU⟩=ZV (.map (ZV b2))
 m1:bG stE w b1 n ft
 m2:bG trE w b2 n fr
 kv:∀x t s,fr x=ZV (t,s)->s.len=t.kZ.length/\KV w (fun g=>g≠b1/\g≠b2) t s.addr
 bs:base<=S/\base<=b1/\base<=b2
 ne:S≠b1/\S≠b2/\b1≠b2
section
variable {w w':Z3} {base S b1 b2 n:Nat} {ft:Int->Option (List UInt8)} {fr:Int->Option (Tr×Sa)}
theorem ShS.below (h:ShS w base S b1 b2 n ft fr) (hb:Z2 w.heap.size w w'):ShS w' base S b1 b2 n ft fr where
 c0:=aa hb h.c0
 c1:=aa hb h.c1
 m1:=h.m1.below hb
 m2:=h.m2.below hb
 kv:=fun x t s e=>⟨(h.kv x t s e).1,(h.kv x t s e).2.kept (Kept.of_below hb)⟩
 bs:=h.bs
 ne:=h.ne
theorem ShS.lt (h:ShS w base S b1 b2 n ft fr):S<w.heap.size/\b1<w.heap.size/\b2<w.heap.size:=⟨Lib.lt_of_cell h.c0,h.m1.lt,h.m2.lt⟩
theorem oY {b:Nat} (hg:w.grownBy w' (ZV b)):aP (fun k=>k=b) w w':=(aP.refl _ w).grown hg fun k hk=>.inl (Option.some.inj hk).symm
theorem ShS.putT (h:ShS w base S b1 b2 n ft fr) (hn:n<maxLen) (hx:KB x) (a:List UInt8):
 ∃w',(Instr.mapUpdate 100 (.map (ZV b1)) (ZZ ZY x) (Zx ⟨a.toArray⟩)).run ZW w=.ok () w'/\ShS w' base S b1 b2 (n+1) (bJ ft x a) fr/\aP (fun k=>k=b1) w w'/\w'.heap.size=w.heap.size:=by
 obtain ⟨w',h1,h2,h3,h4,_⟩:=h.m1.put lH hn hx a;have hbk:∀k,k<w.heap.size->k≠b1->w'.heap[k]? =w.heap[k]? :=fun k hk hne=>h3.block k hk fun e=>hne (Option.some.inj e)
 have hK:Kept w w' (fun g=>g≠b1/\g≠b2):=⟨qoq,fun g hg hl=>hbk g hl hg.1⟩;obtain ⟨l1,l2,l3⟩:=h.lt;refine ⟨w',h1,⟨?_,?_,h2,?_,fun y t s e=>⟨(h.kv y t s e).1,(h.kv y t s e).2.kept hK⟩,h.bs,h.ne⟩,oY h3,h4⟩
 ·rw [World.cell?_of_block (w:=w) (hbk S l1 h.ne.1)];exact h.c0
 ·rw [World.cell?_of_block (w:=w) (hbk S l1 h.ne.1)];exact h.c1
 ·obtain ⟨D,d1,d2⟩:=h.m2
  exact qll
theorem ShS.putR (h:ShS w base S b1 b2 n ft fr) (hn:n<maxLen) (hx:KB x) {s:Sa} (hs:s.len=t.kZ.length) (hk:KV w (fun g=>g≠b1/\g≠b2) t s.addr):
 ∃w',(Instr.mapUpdate 101 (.map (ZV b2)) (ZZ ZY x) (trV t s)).run ZW w=.ok () w'/\ShS w' base S b1 b2 (n+1) ft (bJ fr x (t,s))/\aP (fun k=>k=b2) w w'/\w'.heap.size=w.heap.size:=by
 obtain ⟨w',h1,h2,h3,h4,_⟩:=h.m2.put oK hn hx (t,s);have hbk:∀k,k<w.heap.size->k≠b2->w'.heap[k]? =w.heap[k]? :=fun k hk hne=>h3.block k hk fun e=>hne (Option.some.inj e)
 have hK:Kept w w' (fun g=>g≠b1/\g≠b2):=⟨qoq,fun g hg hl=>hbk g hl hg.2⟩;obtain ⟨l1,l2,l3⟩:=h.lt;refine ⟨w',h1,⟨?_,?_,?_,h2,fun y u z e=>?_,h.bs,h.ne⟩,oY h3,h4⟩
 ·rw [World.cell?_of_block (w:=w) (hbk S l1 h.ne.2.1)];exact h.c0
 ·rw [World.cell?_of_block (w:=w) (hbk S l1 h.ne.2.1)];exact h.c1
 ·obtain ⟨D,d1,d2⟩:=h.m1
  exact qll
 ·unfold bJ at e
  by_cases e2:y=x
  ·rw [if_pos e2] at e
   cases e;exact ⟨hs,hk.kept hK⟩
  ·rw [if_neg e2] at e
   exact ⟨(h.kv y u z e).1,(h.kv y u z e).2.kept hK⟩
theorem ShS.more (h:ShS w base S b1 b2 n ft fr) {m:Nat} (hm:n<=m):ShS w base S b1 b2 m ft fr:=⟨h.c0,h.c1,h.m1.mono hm,h.m2.mono hm,h.kv,h.bs,h.ne⟩
theorem ShS.lookT (h:ShS w base S b1 b2 n ft fr) (hx:KB x):(Instr.lookup 100 (.map (ZV b1)) (ZZ ZY x) Zz).run ZW w=.ok (Zx ⟨((ft x).getD []).toArray⟩) w:=h.m1.look lH (Lu w) hx
theorem ShS.lookR (h:ShS w base S b1 b2 n ft fr) (hx:KB x):(Instr.lookup 101 (.map (ZV b2)) (ZZ ZY x) Zz).run ZW w=.ok (trE.val ((fr x).getD (aO,lx))) w:=h.m2.look oK (zn w) hx
theorem ShS.lookRk (h:ShS w base S b1 b2 n ft fr) (hx:KB x):(Instr.lookup 101 (.map (ZV b2)) (ZZ ZY x) Zy).run ZW w=.ok (.tuple #[trE.val ((fr x).getD (aO,lx)),.bool (fr x).isSome]) w:=h.m2.look_ok oK (zn w) hx
end
structure ShT (l:List Src) (ft:Int->Option (List UInt8)) (fr:Int->Option (Tr×Sa)):Prop where
 dom:∀x,(ft x).isSome=Zy↔∃q∈l,q.ix=x
 at_:dW l->∀q∈l,ft q.ix=ZV q.text/\(aU q.text=ZU->fr q.ix=ZU)/\∀t,aU q.text=ZV t->∃s,fr q.ix=ZV (t,s)
 no:∀x,(¬∃q∈l,q.ix=x)->fr x=ZU
theorem ShT.nil:ShT [] (fun _=>ZU) (fun _=>ZU):=⟨fun x=>⟨fun h=>qoO,fun ⟨q,hq,_⟩=>(by cases hq)⟩,fun _ q hq=>(by cases hq),fun _ _=>rfl⟩
theorem ShT.next {fr fr':Int->Option (Tr×Sa)} (h:ShT l ft fr) (hr:∀a∈l,rightB a.c a.r=Zy) {q:Src} (hq:rightB q.c q.r=Zy) (h1:aU q.text=ZU->fr'=fr) (h2:∀t,aU q.text=ZV t->∃s,fr'=bJ fr q.ix (t,s)):
 ShT (l++[q]) (bJ ft q.ix q.text) fr':=by
 have hoth:∀y,y≠q.ix->fr' y=fr y:=fun y hy=>by
  cases ht:aU q.text with
  |none=>rw [h1 ht]
  |some t=>
   obtain ⟨s,e⟩:=h2 t ht;rw [e];exact if_neg hy
 refine ⟨fun x=>?_,fun hd a ha=>?_,fun x hx=>?_⟩
 ·unfold bJ
  by_cases e:x=q.ix
  ·rw [if_pos e]
   exact ⟨fun _=>⟨q,qns,e.symm⟩,fun _=>rfl⟩
  ·rw [if_neg e,h.dom x]
   constructor
   ·rintro ⟨a,ha,e2⟩;exact ⟨a,List.mem_append.2 (.inl ha),e2⟩
   ·rintro ⟨a,ha,e2⟩
    rcases List.mem_append.1 ha with ha|ha
    ·exact ⟨a,ha,e2⟩
    ·obtain rfl:=List.mem_singleton.1 ha
     exact absurd e2.symm e
 ·obtain ⟨d1,_,d2⟩:=List.pairwise_append.1 hd
  rcases List.mem_append.1 ha with ha|ha
  ·have hne:a.ix≠q.ix:=fun e=>d2 a ha q qns (jO (hr a ha) hq e)
   unfold bJ;rw [if_neg hne,hoth _ hne];exact h.at_ d1 a ha
  ·obtain rfl:=List.mem_singleton.1 ha
   refine ⟨if_pos rfl,fun ht=>?_,fun t ht=>?_⟩
   ·rw [h1 ht]
    exact h.no _ fun ⟨b,hb,e⟩=>d2 b hb a qns (jO (hr b hb) hq e)
   ·obtain ⟨s,e⟩:=h2 t ht
    exact ⟨s,(by rw [e];exact if_pos rfl)⟩
 ·have hxq:x≠q.ix:=fun e=>hx ⟨q,qns,e.symm⟩
  rw [hoth x hxq];exact h.no x fun ⟨a,ha,e⟩=>hx ⟨a,List.mem_append.2 (.inl ha),e⟩
theorem Fm (hr:∀a∈l,rightB a.c a.r=Zy) (h:dW l):(l.map Src.ix).Nodup:=by
 unfold List.Nodup;rw [List.pairwise_map];exact List.Pairwise.imp_of_mem (fun {a b} ha hb hab e=>hab (jO (hr a ha) (hr b hb) e)) h
theorem NP (hr:∀a∈l,rightB a.c a.r=Zy) (h:¬dW l):∃L:List Int,L.Nodup/\(∀x,x∈L↔∃q∈l,q.ix=x)/\L.length<l.length:=by
 induction l with
 |nil=>exact absurd List.Pairwise.nil h
 |cons a l ih=>
  have hr2:∀b∈l,rightB b.c b.r=Zy:=fun b hb=>hr b (List.mem_cons_of_mem _ hb)
  by_cases hd:dW l
  ·have:∃b∈l,rS a b:=Classical.byContradiction fun hn=>h (List.pairwise_cons.2 ⟨fun b hb e=>hn ⟨b,hb,e⟩,hd⟩)
   obtain ⟨b,hb,e1,e2⟩:=this;refine ⟨l.map Src.ix,Fm hr2 hd,fun x=>?_,qns⟩;rw [List.mem_map];constructor
   ·rintro ⟨q,hq,e⟩;exact ⟨q,List.mem_cons_of_mem _ hq,e⟩
   ·rintro ⟨q,hq,e⟩
    rcases List.mem_cons.1 hq with rfl|hq
    ·exact ⟨b,hb,(by rw [<-e];unfold Src.ix;rw [e1,e2])⟩
    ·exact ⟨q,hq,e⟩
  ·obtain ⟨L,l1,l2,l3⟩:=ih hr2 hd
   by_cases hm:a.ix∈L
   ·refine ⟨L,l1,fun x=>?_,qnu⟩
    rw [l2];constructor
    ·rintro ⟨q,hq,e⟩;exact ⟨q,List.mem_cons_of_mem _ hq,e⟩
    ·rintro ⟨q,hq,e⟩
     rcases List.mem_cons.1 hq with rfl|hq
     ·rw [<-e];exact (l2 _).1 hm
     ·exact ⟨q,hq,e⟩
   ·refine ⟨a.ix::L,List.nodup_cons.2 ⟨hm,l1⟩,fun x=>?_,qnu⟩
    rw [List.mem_cons,l2];constructor
    ·rintro (rfl|⟨q,hq,e⟩)
     ·exact ⟨a,List.mem_cons_self,rfl⟩
     ·exact ⟨q,List.mem_cons_of_mem _ hq,e⟩
    ·rintro ⟨q,hq,e⟩
     rcases List.mem_cons.1 hq with rfl|hq
     ·exact .inl e.symm
     ·exact .inr ⟨q,hq,e⟩
end
theorem pG (r:List UInt8) (w:Z3):Calls ZW 39 #[Zx ⟨(61::r).toArray⟩,Zx ⟨#[61]⟩] w fun e w'=>e=ZX (.tuple #[Zx ⟨r.toArray⟩,.bool Zy])/\w=w':=
 (Any.strings_CutPrefix lays103 ⟨(61::r).toArray⟩ ⟨#[61]⟩ w).mono fun e w' ⟨he,hw⟩=>⟨(by rw [he];simp [Lib.trimPrefix,Lib.hasPrefix]),hw.symm⟩
theorem zY (h:s=[]\/∃c r,s=c::r/\c≠61) (w:Z3):Calls ZW 39 #[Zx ⟨s.toArray⟩,Zx ⟨#[61]⟩] w fun e w'=>e=ZX (.tuple #[Zx ⟨s.toArray⟩,.bool Zz])/\w=w':=
 (Any.strings_CutPrefix lays103 ⟨s.toArray⟩ ⟨#[61]⟩ w).mono fun e w' ⟨he,hw⟩=>⟨by
   have e2:Lib.hasPrefix s [61]=Zz:=by
    rcases h with rfl|⟨c,r,rfl,hc⟩
    ·rfl
    ·have hc2:(61==c)=Zz:=by rw [beq_eq_false_iff_ne];exact fun e=>hc e.symm
     simp [Lib.hasPrefix,List.isPrefixOf,hc2]
   rw [he];show _=Ending.returned (.tuple #[Zx ⟨s.toArray⟩,.bool Zz])
   simp [Lib.trimPrefix,e2],hw.symm⟩
def M3 (w:Z3):oJ->Ending->Z3->Prop
 |.good t,e,w'=>(∃A ca,e=ZX (.tuple #[.agg (Ku.k t A ca),ZZ ZY 0,ZZ ZY 0])/\KV w' (fun b=>w.heap.size<=b) t A)/\Z2 w.heap.size w w'
 |.fail a c,e,w'=>e=ZX (.tuple #[.agg #[ZZ ZY 0,ZZ ZY 0,ZZ ZY 0,ZZ ZY 0,ZZ ZY 0,ZZ ZY 0,Zx ⟨#[]⟩,Zw ZU 0 0],ZZ ZY a,ZZ ZY c])/\Z2 w.heap.size w w'
theorem tW (r:List UInt8) (hr:r.length<=300) (w:Z3) (hE:gl w):Calls ZW 41 #[Zx ⟨r.toArray⟩] w (M3 w (aL r)):=
 (CU ⟨r.toArray⟩ (show r.toArray.size<=_ from by simp;omega) w hE).mono fun e w' h=>by
   cases hp:aL r with
   |good t=>
    have h2:kt w (aL r) e w':=h;rw [hp] at h2;obtain ⟨⟨x,rfl,A,ca,rfl,hk⟩,hb⟩:=h2;exact ⟨⟨A,ca,rfl,hk.kv⟩,hb⟩
   |fail a c=>
    have h2:kt w (aL r) e w':=h;rw [hp] at h2;exact h2
theorem Cr (r:List UInt8) (hs:(61::r:List UInt8).length<=300) (hr:aL r=.good t) (w:Z3) (hE:gl w):
 Calls ZW 11 #[Zx ⟨(61::r).toArray⟩] w fun e w'=>Z2 w.heap.size w w'/\∃A ca,e=ZX (.tuple #[tv t A ca,.bool Zy])/\KV w' (fun k=>w.heap.size<=k) t A:=by
 obtain ⟨HP,HC⟩:=qfs;rw [hr] at HP;clear hr hs hE;go_enter func11,ntmps11;go_wp2_with fail;refine .mono qrE ?_;rintro e w0 ⟨rfl,rfl⟩;go_wp2_with fail;refine (HP.out _ qa).mono ?_;rintro e w1 hp;obtain ⟨⟨A,ca,rfl,hk⟩,hb1⟩:=hp;obtain ⟨p0,p1,p2,p3,p4,p5,p6,p7,f0,f1,f2,f3,f4,f5⟩:=qK;obtain ⟨f6,f7,hz,hB⟩:=qbv;clear HP HC;go_wp2_with fail;refine bodyPost_ret (v:=.tuple #[tv t A ca,.bool Zy]) (by simp [results,results11,go_sem,tv,hz,p0,p1,p2,p3,p4,p5,p6,p7]) rfl ⟨?_,A,ca,rfl,?_⟩
 ·with_reducible repeat' (first|exact hB|exact qd|exact hB.size|refine Below.setCell ?_ ?_ _|refine Below.alloc ?_ ?_ _)
  all_goals (simp;omega)
 ·have hk2:KV w1 (fun k=>w.heap.size<k) t A:=KV.imp (fun g hg=>by simp at hg;omega) hk
  exact qkM
theorem C1 (r:List UInt8) (hs:(61::r:List UInt8).length<=300) {a:Int} (hr:aL r=.fail a c) (w:Z3) (hE:gl w):
 Calls ZW 11 #[Zx ⟨(61::r).toArray⟩] w fun e w'=>Z2 w.heap.size w w'/\e=ZX (.tuple #[dx,.bool Zz]):=by
 obtain ⟨HP,HC⟩:=qfs;rw [hr] at HP;have hne:=jA hr;have hc0:(c==0)=Zz:=(by simpa using hne);clear hne hr hs hE;go_enter func11,ntmps11;go_wp2_with fail;refine .mono qrE ?_;rintro e w0 ⟨rfl,rfl⟩;go_wp2_with fail;refine (HP.out _ qa).mono ?_;rintro e w1 hp;obtain ⟨rfl,hb1⟩:=hp;obtain ⟨p0,p1,p2,p3,p4,p5,p6,p7,f0,f1,f2,f3,f4,f5⟩:=qK;obtain ⟨f6,f7,hz,hB⟩:=qbv;clear HP HC;go_wp2_with fail;refine bodyPost_ret (v:=.tuple #[dx,.bool Zz]) (by simp [results,results11,go_sem,dx,hz,p0,p1,p2,p3,p4,p5,p6,p7]) rfl ⟨?_,rfl⟩;with_reducible repeat' (first|exact hB|exact qd|exact hB.size|refine Below.setCell ?_ ?_ _|refine Below.alloc ?_ ?_ _)
 all_goals (simp;omega)
theorem AE (r:List UInt8) (hs:(61::r:List UInt8).length<=300) (w:Z3) (hE:gl w):
 Calls ZW 11 #[Zx ⟨(61::r).toArray⟩] w fun e w'=>Z2 w.heap.size w w'/\match xk (aL r) with
  |some t=>∃A ca,e=ZX (.tuple #[tv t A ca,.bool Zy])/\KV w' (fun k=>w.heap.size<=k) t A
  |none=>e=ZX (.tuple #[dx,.bool Zz]):=by
 cases hr:aL r with
 |good t=>exact Cr r hs hr w hE
 |fail a c=>exact C1 r hs hr w hE
theorem Dn (s:List UInt8) (hs:s=[]\/∃c r,s=c::r/\c≠61) (w:Z3):
 Calls ZW 11 #[Zx ⟨s.toArray⟩] w fun e w'=>Z2 w.heap.size w w'/\e=ZX (.tuple #[dx,.bool Zz]):=by
 have HC:=qf (fun W=>zY hs W);clear hs;go_enter func11,ntmps11;go_wp2_with fail;refine .mono qrE ?_;rintro e w0 ⟨rfl,rfl⟩;go_wp2_with fail;refine bodyPost_ret (v:=.tuple #[dx,.bool Zz]) (by simp [results,results11,go_sem,dx]) rfl ⟨?_,rfl⟩;with_reducible repeat' (first|exact qb|exact qd|refine Below.setCell ?_ ?_ _|refine Below.alloc ?_ ?_ _)
 all_goals (simp;omega)
def RN (x:List UInt8×Int×Int) (w:Z3) (e:Ending) (w':Z3):Prop:=e=ZX (.tuple #[Zx ⟨x.1.toArray⟩,ZZ ZY x.2.1,ZZ ZY x.2.2])/\Z2 w.heap.size w w'
theorem Fu (X:List UInt8) (h:X.length<=1000000):∀w,(Op.stringOp .add ⟨#[61]⟩ ⟨X.toArray⟩).run ZW w=.ok (Zx ⟨(61::X).toArray⟩) w:=fun w=>run_string_add_lists w [61] X qns qoq
theorem vQ (h:decide ((200:Int)<((aX t).length+1:Int))=Zy):fi (.good t)=([],0,3):=if_pos (by have:=of_decide_eq_true h;omega)
theorem yV (h:decide ((200:Int)<((aX t).length+1:Int))=Zz):fi (.good t)=(61::aX t,0,0):=if_neg qrv
theorem mP (h:aL r=.good t):(aX t).length<=250000/\(txT t).length<=250000:=by
 have h1:=vI h;unfold aX;rw [if_pos (bO h).right];exact ⟨h1,h1⟩
theorem nl (t:Tr) (pt:pQ t) (hl:(txT t).length<=250000) (w:Z3) (A:Option Addr) (ca:Nat) (hA:KV w (fun _=>True) t A) (hI:eS w) (hP:gl w):
 Calls ZW 42 #[tv t A ca] w fun e w'=>e=ZX (Zx ⟨(61::aX t).toArray⟩)/\Z2 w.heap.size w w':=by
 have hpl:(aX t).length<=1000000:=(by unfold aX;rw [if_pos pt.right];omega);have PA:=qf (fun w1 (hb:Z2 w.heap.size w w1)=>Cz t pt.wid pt.fit (Nat.le_trans hl qnv) w1 A ca (hA.kept (Kept.of_below hb)) (hI.below hb) (hP.strs hb hb.size));have hcat:=Fu (aX t) hpl;unfold tv at PA ⊢;generalize aX t=Z at*;clear hA hI hP pt hl;go_enter func42,ntmps42;go_wp2_with fail;refine (PA.out _ qa).mono ?_;rintro e w2 ⟨rfl,hb2⟩;go_wp2_with fail;go_ret;exact ⟨rfl,qa.trans (hb2.mono qns)⟩
theorem Ia (s:List UInt8) (hs:s.length<=300) (w:Z3) (hE:Env w):
 Calls ZW 40 #[Zx ⟨s.toArray⟩] w (RN (if pB s=Zy then (s,0,0) else ([],0,2)) w):=by
 have HN:=qf (fun w1 (hb:Z2 w.heap.size w w1)=>mK ⟨s.toArray⟩ (show s.toArray.size<=_ from by simp;omega) w1 (hE.below hb));have e0:(⟨s.toArray⟩:ByteArray).data.toList=s:=rfl;rw [e0] at HN;clear hE e0;cases hb:pB s with
 |true=>
  rw [hb] at HN;rw [if_pos rfl];exact qkd
 |false=>
  rw [hb] at HN;rw [if_neg qnv];exact qkd
section
open Go.Maps
structure cz (w:Z3):Prop where
 i:eS w
 p:gl w
theorem cz.below {w':Z3} (h:cz w) (hb:Z2 w.heap.size w w'):cz w':=⟨h.i.below hb,h.p.below hb⟩
theorem cz.num (h:cz w):Env w:=⟨h.i,h.p.l⟩
def srV (q:Src):Value:=.agg #[ZZ ZY q.c,ZZ ZY q.r,Zx ⟨q.text.toArray⟩]
def TkQ (base S b1 b2 n:Nat) (ft:Int->Option (List UInt8)) (fr:Int->Option (Tr×Sa)) (q:Src) (w:Z3) (e:Ending) (w':Z3):Prop:=
 aP (fun k=>k=b1\/k=b2) w w'/\e=ZX (.bool (dh plB q))/\(dh plB q=Zy->∃fr',ShS w' base S b1 b2 (n+2) (bJ ft q.ix q.text) fr'/\(aU q.text=ZU->fr'=fr)/\∀t,aU q.text=ZV t->∃s,fr'=bJ fr q.ix (t,s))
theorem JB {fr:Int->Option (Tr×Sa)} (q:Src) (w:Z3) (hq:rightB q.c q.r=Zz):
 Calls ZW 90 #[Zv (ZV ⟨S,0,ZU⟩),srV q] w (TkQ base S b1 b2 n ft fr q w):=by
 obtain ⟨c,r,tx⟩:=q;dsimp only at hq;have hi:decide (aQ c r<0)=Zy:=(by rw [show aQ c r= -1 from if_neg (by rw [hq];decide)];decide);have hok:dh plB ⟨c,r,tx⟩=Zz:=(by unfold dh;dsimp only;rw [hq];rfl);have HI:=qf (fun w=>fW c r w);unfold TkQ srV;dsimp only;rw [hok];generalize aQ c r=IX at*;clear hq hok;go_enter func90,ntmps90;go_wp2_with fail;refine .mono qse ?_;rintro e w1 ⟨rfl,hb1⟩;have HB1:=qf hb1;clear hb1 HI;go_wp2_with fail;go_ret;exact ⟨aP.of_below (qa.trans (HB1.out.mono qns)),rfl,fun h=>by cases h⟩
theorem tP (s:List UInt8) (hs:s.length<=300) (w:Z3) (hE:cz w):Calls ZW 11 #[Zx ⟨s.toArray⟩] w (m9 F13 s w):=by
 show Calls _ _ _ _ fun e w'=>Z2 w.heap.size w w'/\match aU s with
  |some t=>∃A ca,e=ZX (.tuple #[tv t A ca,.bool Zy])/\KV w' (fun k=>w.heap.size<=k) t A
  |none=>e=ZX (.tuple #[dx,.bool Zz])
 rcases eo s with h|⟨r,rfl⟩
 ·rw [kn h]
  exact Dn s h w
 ·rw [lC]
  exact AE r hs w hE.p
theorem Ln (ht:aU s=ZU) (h:m9 F13 s W e W'):Z2 W.heap.size W W'/\∃A ca,e=ZX (.tuple #[tv aO A ca,.bool Zz])/\KV W' (fun k=>W.heap.size<=k) aO A:=by
 obtain ⟨hb,h2⟩:=h
 have h3:match aU s with
  |some t=>∃A ca,e=ZX (.tuple #[tv t A ca,.bool Zy])/\KV W' (fun k=>W.heap.size<=k) t A
  |none=>e=ZX (.tuple #[dx,.bool Zz]):=h2
 rw [ht] at h3;exact ⟨hb,ZU,0,h3,KV.mk (.inl rfl)⟩
theorem JS (ht:aU s=ZV t) (h:m9 F13 s W e W'):Z2 W.heap.size W W'/\∃A ca,e=ZX (.tuple #[tv t A ca,.bool Zy])/\KV W' (fun k=>W.heap.size<=k) t A:=by
 obtain ⟨hb,h2⟩:=h
 have h3:match aU s with
  |some t=>∃A ca,e=ZX (.tuple #[tv t A ca,.bool Zy])/\KV W' (fun k=>W.heap.size<=k) t A
  |none=>e=ZX (.tuple #[dx,.bool Zz]):=h2
 rw [ht] at h3;exact ⟨hb,h3⟩
theorem Hy {fr:Int->Option (Tr×Sa)} (q:Src) (w:Z3) (hq:rightB q.c q.r=Zy) (hl:¬200<q.text.length) (hp:pB q.text=Zy) (h:ShS w base S b1 b2 n ft fr) (hn:n+2<maxLen) (hE:∀W,Z2 base w W->cz W):
 Calls ZW 90 #[Zv (ZV ⟨S,0,ZU⟩),srV q] w (TkQ base S b1 b2 n ft fr q w):=by
 obtain ⟨e1,ht⟩:=N9 hl hp;have hok:dh plB q=Zy:=(by unfold dh;rw [hq,e1];rfl);have hkb:KB q.ix:=qkV;have hix:decide (q.ix<0)=Zz:=qkh;obtain ⟨HI,hx⟩:=qfc;rw [hx] at HI;have h200:=qdS;obtain ⟨w0,hw0⟩:∃w0,w.alloc (.cells #[ZZ ZY q.c,ZZ ZY q.r,Zx ⟨q.text.toArray⟩] 85)=w0:=⟨_,rfl⟩
 obtain ⟨hb0,hz0,p0,p1,p2⟩:=qaJ;obtain ⟨l1,l2,l3⟩:=h.lt;obtain ⟨hne,HN,e0⟩:=qbZ;rw [e0,hp] at HN;obtain ⟨HS0,HEB,HW0,HT⟩:=qcd;unfold TkQ srV;rw [hok];clear hq hl hp h hE hx hb0 ht hok e0 e1;generalize q.ix=IX at*;obtain ⟨qc,qr,tx⟩:=q;dsimp only at*;go_enter func90,ntmps90;go_wp2_with fail;refine .mono qse ?_;rintro e w1 ⟨rfl,hb1⟩;obtain ⟨p21,hs1,hd1⟩:=qcu;obtain ⟨w2,hrun,hs2,hbu2,hz2⟩:=(hs1.below hd1).putT qoq hkb tx;obtain ⟨hB2,hz12,hzz,p22,HE2,HC1,hcc2,HB2,HS2⟩:=qY;clear hb1 hs1 hd1 hbu2 hB2 hs2 HI;go_wp2_with fail;clear hw0 p21 p0 p1 p2
 go_region_held3 (fun w'=>w'.cell? ⟨S,0,ZU⟩=ZV (.map (ZV b1))/\w'.cell? ⟨w.heap.size,2,ZU⟩=ZV (Zx ⟨tx.toArray⟩))
  (first|with_reducible exact hcc2|(exact HC1.out _ qsN)|fail)
  (first|(refine fO qnL _ _ _ 100 qnL qnL qnL qnL hrun ?_)|fail)
 clear hrun HC1 hcc2;go_wp2_with fail;refine (HN.out w2 HE2.out).mono ?_;rintro e w3 ⟨rfl,hb3⟩;have HF:=qf (HB2.out.trans (aP.of_below hb3))
 have HF2:Hid (∃fr',ShS w3 base S b1 b2 (n+2) (bJ ft IX tx) fr'/\(aU tx=ZU->fr'=fr)/\∀t,aU tx=ZV t->∃s,fr'=bJ fr IX (t,s)):=
  qf ⟨fr,(HS2.out.below hb3).more (Nat.le_succ _),fun _=>rfl,fun t ht=>by rw [HT.out] at ht;cases ht⟩
 clear hb3 HB2 HS2 HEB HE2 HN HS0 HW0 HT;go_wp2_with fail;go_ret;exact ⟨HF.out,rfl,fun _=>HF2.out⟩
theorem K5 {fr:Int->Option (Tr×Sa)} (q:Src) (w:Z3) (hq:rightB q.c q.r=Zy) (hl:¬200<q.text.length) (hp:pB q.text=Zz) (ht:aU q.text=ZU) (h:ShS w base S b1 b2 n ft fr) (hn:n+2<maxLen) (hE:∀W,Z2 base w W->cz W):
 Calls ZW 90 #[Zv (ZV ⟨S,0,ZU⟩),srV q] w (TkQ base S b1 b2 n ft fr q w):=by
 have hok:dh plB q=Zz:=(by unfold dh;rw [hq,Lf hl hp ht];rfl);have hkb:KB q.ix:=qkV;have hix:decide (q.ix<0)=Zz:=qkh;obtain ⟨HI,hx⟩:=qfc;rw [hx] at HI;have h200:=qdS;obtain ⟨w0,hw0⟩:∃w0,w.alloc (.cells #[ZZ ZY q.c,ZZ ZY q.r,Zx ⟨q.text.toArray⟩] 85)=w0:=⟨_,rfl⟩
 obtain ⟨hb0,hz0,p0,p1,p2⟩:=qaJ;obtain ⟨l1,l2,l3⟩:=h.lt;obtain ⟨hne,HN,e0⟩:=qbZ;rw [e0,hp] at HN;have HTr:=qhR;have HZ:=qf (fun W e W' (k:m9 F13 q.text W e W')=>(Ln ht k));obtain ⟨HS0,HEB,HW0,HT⟩:=qcd;unfold TkQ srV;rw [hok];clear hq hl hp h hE hx hb0 ht hok e0;generalize q.ix=IX at*;obtain ⟨qc,qr,tx⟩:=q;dsimp only at*;go_enter func90,ntmps90;go_wp2_with fail;refine .mono qse ?_;rintro e w1 ⟨rfl,hb1⟩;obtain ⟨p21,hs1,hd1⟩:=qcu;obtain ⟨w2,hrun,hs2,hbu2,hz2⟩:=(hs1.below hd1).putT qoq hkb tx;obtain ⟨hB2,hz12,hzz,p22,HE2,HC1,hcc2,HB2,HS2⟩:=qY;clear hb1 hs1 hd1 hbu2 hB2 hs2 HI;go_wp2_with fail;clear hw0 p21 p0 p1 p2
 go_region_held3 (fun w'=>w'.cell? ⟨S,0,ZU⟩=ZV (.map (ZV b1))/\w'.cell? ⟨w.heap.size,2,ZU⟩=ZV (Zx ⟨tx.toArray⟩))
  (first|with_reducible exact hcc2|(exact HC1.out _ qsN)|fail)
  (first|(refine fO qnL _ _ _ 100 qnL qnL qnL qnL hrun ?_)|fail)
 clear hrun HC1 hcc2;go_wp2_with fail;refine (HN.out w2 HE2.out).mono ?_;rintro e w3 ⟨rfl,hb3⟩;obtain ⟨p23,HS3,HB3,HE3,hz3⟩:=qeO;clear hb3 HB2 HS2 HE2 p22 HN;go_wp2_with fail;refine (HTr.out w3 HE3.out).mono ?_;rintro e w4 hk;obtain ⟨hb4,A,ca,rfl,hkv⟩:=HZ.out _ _ _ hk;obtain ⟨w5,hw5⟩:∃w5,w4.alloc (.cells (Ku.k aO A ca) 33)=w5:=⟨_,rfl⟩
 obtain ⟨hb5,hb35,hz5,hz4⟩:=qej;have t0:w5.cell? ⟨w4.heap.size,0,ZU⟩=ZV (ZZ ZY aO.kY):=qnK;have t1:w5.cell? ⟨w4.heap.size,1,ZU⟩=ZV (ZZ ZY aO.num):=qnK;have t2:w5.cell? ⟨w4.heap.size,2,ZU⟩=ZV (ZZ ZY aO.c1):=qnK;have t3:w5.cell? ⟨w4.heap.size,3,ZU⟩=ZV (ZZ ZY aO.r1):=qnK;have t4:w5.cell? ⟨w4.heap.size,4,ZU⟩=ZV (ZZ ZY aO.c2):=qnK;have t5:w5.cell? ⟨w4.heap.size,5,ZU⟩=ZV (ZZ ZY aO.r2):=qnK;have t6:w5.cell? ⟨w4.heap.size,6,ZU⟩=ZV (Zx ⟨aO.wZ.toArray⟩):=qnK;have t7:w5.cell? ⟨w4.heap.size,7,ZU⟩=ZV (Zw A aO.kZ.length ca):=qnK;have hs5:=HS3.out.below hb35;have hd5:Z2 w5.heap.size w5 w5.drew:=Below.drew qb;obtain ⟨w6,hrun,hs6,hbu6,hz6⟩:=(hs5.below hd5).putR qoq hkb (t:=aO) (s:=⟨A,aO.kZ.length,ca⟩) rfl (KV.imp (fun g hg=>by have:w3.heap.size<=g:=hg;have:=hs5.lt;omega) ((hkv.kept (Kept.of_below hb5)).kept (Kept.of_below hd5)));have hB6:=qdZ
 have HC5:=qf (fun W (hb:Z2 w5.heap.size w5 W)=>(show W.cell? ⟨S,1,ZU⟩=ZV (.map (ZV b2))/\W.cell? ⟨w4.heap.size,0,ZU⟩=ZV (ZZ ZY aO.kY)/\W.cell? ⟨w4.heap.size,1,ZU⟩=ZV (ZZ ZY aO.num)/\W.cell? ⟨w4.heap.size,2,ZU⟩=ZV (ZZ ZY aO.c1)/\W.cell? ⟨w4.heap.size,3,ZU⟩=ZV (ZZ ZY aO.r1)/\W.cell? ⟨w4.heap.size,4,ZU⟩=ZV (ZZ ZY aO.c2)/\W.cell? ⟨w4.heap.size,5,ZU⟩=ZV (ZZ ZY aO.r2)/\W.cell? ⟨w4.heap.size,6,ZU⟩=ZV (Zx ⟨aO.wZ.toArray⟩)/\W.cell? ⟨w4.heap.size,7,ZU⟩=ZV (Zw A aO.kZ.length ca) from ⟨(hs5.below hb).c1,aa hb t0,aa hb t1,aa hb t2,aa hb t3,aa hb t4,aa hb t5,aa hb t6,aa hb t7⟩));obtain ⟨p26,s0,s1,s2,s3,s4,s5,s6,s7⟩:=qaA;obtain ⟨hcc6,HB6,HS6⟩:=qeD;have hrun2:(Instr.mapUpdate 101 (.map (ZV b2)) (ZZ ZY IX) (.agg (Ku.k aO A ca))).run ZW w5.drew=.ok () w6:=hrun;clear hb4 hkv hk hb5 hb35 hs5 hd5 hbu6 hB6 hs6 t0 t1 t2 t3 t4 t5 t6 t7 HTr HZ hrun;unfold tv;go_wp2_with fail;clear hw5
 go_region_held3 (fun w'=>w'.cell? ⟨S,1,ZU⟩=ZV (.map (ZV b2))/\w'.cell? ⟨w4.heap.size,0,ZU⟩=ZV (ZZ ZY aO.kY)/\w'.cell? ⟨w4.heap.size,1,ZU⟩=ZV (ZZ ZY aO.num)/\w'.cell? ⟨w4.heap.size,2,ZU⟩=ZV (ZZ ZY aO.c1)/\w'.cell? ⟨w4.heap.size,3,ZU⟩=ZV (ZZ ZY aO.r1)/\w'.cell? ⟨w4.heap.size,4,ZU⟩=ZV (ZZ ZY aO.c2)/\w'.cell? ⟨w4.heap.size,5,ZU⟩=ZV (ZZ ZY aO.r2)/\w'.cell? ⟨w4.heap.size,6,ZU⟩=ZV (Zx ⟨aO.wZ.toArray⟩)/\w'.cell? ⟨w4.heap.size,7,ZU⟩=ZV (Zw A aO.kZ.length ca))
  (first|with_reducible exact hcc6|(exact HC5.out _ qsN)|fail)
  (first|(refine fO qnL _ _ _ 101 qnL qnL qnL qnL hrun2 ?_)|fail)
 have HF:=qf (HB6.out.drew);clear hrun2 HC5 hcc6 HB3 HS3 HE3 HEB HS0 HW0;go_wp2_with fail;refine wp_region_held_drew (S:=fun w'=>w'=w') qnx ?_ (fun hHeld=>?_)
 ·rfl
 refine wpAnyH_take (i:=0) (v:=?_) rfl qnx qnx qnx (fun _ _ _ h=>h) (Or.inl ⟨qnL,?_⟩) qoh ?_;rotate_left
 ·intro w hSw
  exact qmd
 try simp only [Act.put,List.setIfInBounds_toArray,List.set_cons_zero,List.set_cons_succ]
 refine wpAnyH_take (i:=1) (v:=?_) rfl qnx qnx qnx (fun _ _ _ h=>h) (Or.inl ⟨qnL,?_⟩) qoh ?_;rotate_left
 ·intro w hSw
  exact qmd
 try simp only [Act.put,List.setIfInBounds_toArray,List.set_cons_zero,List.set_cons_succ]
 refine iY (i:=2) (d:=49) rfl rfl qnx qnx qnx (fun _ _ _ h=>h) rfl qnL qoh ?_;try simp only [List.setIfInBounds_toArray,List.set_cons_zero,List.set_cons_succ]
 refine iY (i:=3) (d:=50) rfl rfl qnx qnx qnx (fun _ _ _ h=>h) rfl qnL qoh ?_;try simp only [List.setIfInBounds_toArray,List.set_cons_zero,List.set_cons_succ]
 refine iY (i:=4) (d:=51) rfl rfl qnx qnx qnx (fun _ _ _ h=>h) rfl qnL qoh ?_;try simp only [List.setIfInBounds_toArray,List.set_cons_zero,List.set_cons_succ]
 refine iY (i:=5) (d:=52) rfl rfl qnx qnx qnx (fun _ _ _ h=>h) rfl qnL qoh ?_;try simp only [List.setIfInBounds_toArray,List.set_cons_zero,List.set_cons_succ]
 refine iY (i:=6) (d:=53) rfl rfl qnx qnx qnx (fun _ _ _ h=>h) rfl qnL qoh ?_;try simp only [List.setIfInBounds_toArray,List.set_cons_zero,List.set_cons_succ]
 refine wpAnyH_take (i:=7) (v:=?_) rfl qnx qnx qnx (fun _ _ _ h=>h) (Or.inl ⟨qnL,?_⟩) qoh ?_;rotate_left
 ·intro w hSw
  exact qmd
 try simp only [Act.put,List.setIfInBounds_toArray,List.set_cons_zero,List.set_cons_succ]
 refine wpAnyH_take (i:=8) (v:=?_) rfl qnx qnx qnx (fun _ _ _ h=>h) (Or.inl ⟨qnL,?_⟩) qoh ?_;rotate_left
 ·intro w hSw
  exact qmd
 try simp only [Act.put,List.setIfInBounds_toArray,List.set_cons_zero,List.set_cons_succ]
 refine wpAnyH_done qnx ?_ _;go_wp2_with fail;go_ret;refine ⟨HF.out,?_⟩;first|exact rfl|exact ⟨rfl,fun h=>by cases h⟩
theorem EW {fr:Int->Option (Tr×Sa)} (q:Src) (w:Z3) (hq:rightB q.c q.r=Zy) (hl:¬200<q.text.length) (hp:pB q.text=Zz) (ht:aU q.text=ZV t) (h:ShS w base S b1 b2 n ft fr) (hn:n+2<maxLen) (hE:∀W,Z2 base w W->cz W):
 Calls ZW 90 #[Zv (ZV ⟨S,0,ZU⟩),srV q] w (TkQ base S b1 b2 n ft fr q w):=by
 have hok:dh plB q=((61::aX t)==q.text):=(by unfold dh;rw [hq,KW hl ht];rfl);obtain ⟨rr,hrr,hpr⟩:=ex ht;have pt:=bO hpr;have hpl:=mP hpr;have hkb:KB q.ix:=qkV;have hix:decide (q.ix<0)=Zz:=qkh;obtain ⟨HI,hx⟩:=qfc;rw [hx] at HI;have h200:=qdS;obtain ⟨w0,hw0⟩:∃w0,w.alloc (.cells #[ZZ ZY q.c,ZZ ZY q.r,Zx ⟨q.text.toArray⟩] 85)=w0:=⟨_,rfl⟩
 obtain ⟨hb0,hz0,p0,p1,p2⟩:=qaJ;obtain ⟨l1,l2,l3⟩:=h.lt;obtain ⟨hne,HN,e0⟩:=qbZ;rw [e0,hp] at HN;have HTr:=qhR;have HZ:=qf (fun W e W' (k:m9 F13 q.text W e W')=>(JS ht k));have HWr:=qf (fun W A ca hA (hb:cz W)=>nl t pt hpl.2 W A ca hA hb.i hb.p);obtain ⟨HS0,HEB,HW0,HT⟩:=qcd;unfold TkQ srV;rw [hok];clear hq hl hp h hE hx hb0 ht hok e0 pt hpl hrr hpr;generalize aX t=Z at*;generalize q.ix=IX at*;obtain ⟨qc,qr,tx⟩:=q;dsimp only at*;go_enter func90,ntmps90;go_wp2_with fail;refine .mono qse ?_;rintro e w1 ⟨rfl,hb1⟩;obtain ⟨p21,hs1,hd1⟩:=qcu;obtain ⟨w2,hrun,hs2,hbu2,hz2⟩:=(hs1.below hd1).putT qoq hkb tx;obtain ⟨hB2,hz12,hzz,p22,HE2,HC1,hcc2,HB2,HS2⟩:=qY;clear hb1 hs1 hd1 hbu2 hB2 hs2 HI;go_wp2_with fail;clear hw0 p21 p0 p1 p2
 go_region_held3 (fun w'=>w'.cell? ⟨S,0,ZU⟩=ZV (.map (ZV b1))/\w'.cell? ⟨w.heap.size,2,ZU⟩=ZV (Zx ⟨tx.toArray⟩))
  (first|with_reducible exact hcc2|(exact HC1.out _ qsN)|fail)
  (first|(refine fO qnL _ _ _ 100 qnL qnL qnL qnL hrun ?_)|fail)
 clear hrun HC1 hcc2;go_wp2_with fail;refine (HN.out w2 HE2.out).mono ?_;rintro e w3 ⟨rfl,hb3⟩;obtain ⟨p23,HS3,HB3,HE3,hz3⟩:=qeO;clear hb3 HB2 HS2 HE2 p22 HN;go_wp2_with fail;refine (HTr.out w3 HE3.out).mono ?_;rintro e w4 hk;obtain ⟨hb4,A,ca,rfl,hkv⟩:=HZ.out _ _ _ hk;obtain ⟨w5,hw5⟩:∃w5,w4.alloc (.cells (Ku.k t A ca) 33)=w5:=⟨_,rfl⟩
 obtain ⟨hb5,hb35,hz5,hz4⟩:=qej;have t0:w5.cell? ⟨w4.heap.size,0,ZU⟩=ZV (ZZ ZY t.kY):=qnK;have t1:w5.cell? ⟨w4.heap.size,1,ZU⟩=ZV (ZZ ZY t.num):=qnK;have t2:w5.cell? ⟨w4.heap.size,2,ZU⟩=ZV (ZZ ZY t.c1):=qnK;have t3:w5.cell? ⟨w4.heap.size,3,ZU⟩=ZV (ZZ ZY t.r1):=qnK;have t4:w5.cell? ⟨w4.heap.size,4,ZU⟩=ZV (ZZ ZY t.c2):=qnK;have t5:w5.cell? ⟨w4.heap.size,5,ZU⟩=ZV (ZZ ZY t.r2):=qnK;have t6:w5.cell? ⟨w4.heap.size,6,ZU⟩=ZV (Zx ⟨t.wZ.toArray⟩):=qnK;have t7:w5.cell? ⟨w4.heap.size,7,ZU⟩=ZV (Zw A t.kZ.length ca):=qnK;have hs5:=HS3.out.below hb35;have hd5:Z2 w5.heap.size w5 w5.drew:=Below.drew qb;obtain ⟨w6,hrun,hs6,hbu6,hz6⟩:=(hs5.below hd5).putR qoq hkb (t:=t) (s:=⟨A,t.kZ.length,ca⟩) rfl (KV.imp (fun g hg=>by have:w3.heap.size<=g:=hg;have:=hs5.lt;omega) ((hkv.kept (Kept.of_below hb5)).kept (Kept.of_below hd5)));have hB6:=qdZ
 have HC5:=qf (fun W (hb:Z2 w5.heap.size w5 W)=>(show W.cell? ⟨S,1,ZU⟩=ZV (.map (ZV b2))/\W.cell? ⟨w4.heap.size,0,ZU⟩=ZV (ZZ ZY t.kY)/\W.cell? ⟨w4.heap.size,1,ZU⟩=ZV (ZZ ZY t.num)/\W.cell? ⟨w4.heap.size,2,ZU⟩=ZV (ZZ ZY t.c1)/\W.cell? ⟨w4.heap.size,3,ZU⟩=ZV (ZZ ZY t.r1)/\W.cell? ⟨w4.heap.size,4,ZU⟩=ZV (ZZ ZY t.c2)/\W.cell? ⟨w4.heap.size,5,ZU⟩=ZV (ZZ ZY t.r2)/\W.cell? ⟨w4.heap.size,6,ZU⟩=ZV (Zx ⟨t.wZ.toArray⟩)/\W.cell? ⟨w4.heap.size,7,ZU⟩=ZV (Zw A t.kZ.length ca) from ⟨(hs5.below hb).c1,aa hb t0,aa hb t1,aa hb t2,aa hb t3,aa hb t4,aa hb t5,aa hb t6,aa hb t7⟩));obtain ⟨p26,s0,s1,s2,s3,s4,s5,s6,s7⟩:=qaA;have HK6:Hid (KV w6 (fun _=>True) t A):=qf (KV.imp (fun _ _=>trivial) ((KV.imp (Q:=fun g=>¬g=b2) (fun g hg=>by have:w3.heap.size<=g:=hg;have:=hs5.lt;have:=HS3.out.lt;omega) ((hkv.kept (Kept.of_below hb5)).kept (Kept.of_below hd5))).kept hbu6.kept));have HE6:Hid (cz w6):=qf (HEB.out w6 hB6);obtain ⟨hcc6,HB6,HS6⟩:=qeD
 have HC6:=qf (fun W (hb:Z2 w6.heap.size w6 W)=>(show W.cell? ⟨w.heap.size,2,ZU⟩=ZV (Zx ⟨tx.toArray⟩)/\W.cell? ⟨w4.heap.size,0,ZU⟩=ZV (ZZ ZY t.kY)/\W.cell? ⟨w4.heap.size,1,ZU⟩=ZV (ZZ ZY t.num)/\W.cell? ⟨w4.heap.size,2,ZU⟩=ZV (ZZ ZY t.c1)/\W.cell? ⟨w4.heap.size,3,ZU⟩=ZV (ZZ ZY t.r1)/\W.cell? ⟨w4.heap.size,4,ZU⟩=ZV (ZZ ZY t.c2)/\W.cell? ⟨w4.heap.size,5,ZU⟩=ZV (ZZ ZY t.r2)/\W.cell? ⟨w4.heap.size,6,ZU⟩=ZV (Zx ⟨t.wZ.toArray⟩)/\W.cell? ⟨w4.heap.size,7,ZU⟩=ZV (Zw A t.kZ.length ca) from ⟨aa hb p26,aa hb s0,aa hb s1,aa hb s2,aa hb s3,aa hb s4,aa hb s5,aa hb s6,aa hb s7⟩));have hrun2:(Instr.mapUpdate 101 (.map (ZV b2)) (ZZ ZY IX) (.agg (Ku.k t A ca))).run ZW w5.drew=.ok () w6:=hrun;clear hb4 hkv hk hb5 hb35 hs5 hd5 hbu6 hB6 hs6 t0 t1 t2 t3 t4 t5 t6 t7 HTr HZ hrun;unfold tv;go_wp2_with fail;clear hw5
 go_region_held3 (fun w'=>w'.cell? ⟨S,1,ZU⟩=ZV (.map (ZV b2))/\w'.cell? ⟨w4.heap.size,0,ZU⟩=ZV (ZZ ZY t.kY)/\w'.cell? ⟨w4.heap.size,1,ZU⟩=ZV (ZZ ZY t.num)/\w'.cell? ⟨w4.heap.size,2,ZU⟩=ZV (ZZ ZY t.c1)/\w'.cell? ⟨w4.heap.size,3,ZU⟩=ZV (ZZ ZY t.r1)/\w'.cell? ⟨w4.heap.size,4,ZU⟩=ZV (ZZ ZY t.c2)/\w'.cell? ⟨w4.heap.size,5,ZU⟩=ZV (ZZ ZY t.r2)/\w'.cell? ⟨w4.heap.size,6,ZU⟩=ZV (Zx ⟨t.wZ.toArray⟩)/\w'.cell? ⟨w4.heap.size,7,ZU⟩=ZV (Zw A t.kZ.length ca))
  (first|with_reducible exact hcc6|(exact HC5.out _ qsN)|fail)
  (first|(refine fO qnL _ _ _ 101 qnL qnL qnL qnL hrun2 ?_)|fail)
 have HW6:=qf (fun W (hb:Z2 w6.heap.size w6 W)=>HWr.out W A ca (HK6.out.kept (Kept.of_below hb)) (HE6.out.below hb));clear hrun2 HC5 hcc6 s0 s1 s2 s3 s4 s5 s6 s7 p26;unfold tv at HW6;clear HB3 HS3 HE3 HS0 HW0 HWr HK6 HE6 HEB;go_wp2_with fail
 go_region_held3 (fun w'=>w'.cell? ⟨w.heap.size,2,ZU⟩=ZV (Zx ⟨tx.toArray⟩)/\w'.cell? ⟨w4.heap.size,0,ZU⟩=ZV (ZZ ZY t.kY)/\w'.cell? ⟨w4.heap.size,1,ZU⟩=ZV (ZZ ZY t.num)/\w'.cell? ⟨w4.heap.size,2,ZU⟩=ZV (ZZ ZY t.c1)/\w'.cell? ⟨w4.heap.size,3,ZU⟩=ZV (ZZ ZY t.r1)/\w'.cell? ⟨w4.heap.size,4,ZU⟩=ZV (ZZ ZY t.c2)/\w'.cell? ⟨w4.heap.size,5,ZU⟩=ZV (ZZ ZY t.r2)/\w'.cell? ⟨w4.heap.size,6,ZU⟩=ZV (Zx ⟨t.wZ.toArray⟩)/\w'.cell? ⟨w4.heap.size,7,ZU⟩=ZV (Zw A t.kZ.length ca))
  (first|with_reducible exact hcc7|(exact HC6.out _ qsN)|fail)
  (first
  |(go_at_call 42;refine (HW6.out _ qsN).mono ?_;rintro e w7 ⟨rfl,hb7⟩
    have HB7:=qf (show Z2 w6.heap.size w6 w7 from (Below.drew (Below.refl w6.heap.size w6)).trans hb7);have hcc7:=HC6.out w7 HB7.out;clear hb7)
  |fail)
 all_goals
  go_wp2_with fail;go_ret
  have HF2:∃fr',ShS w7 base S b1 b2 (n+2) (bJ ft IX tx) fr'/\(aU tx=ZU->fr'=fr)/\∀u,aU tx=ZV u->∃s,fr'=bJ fr IX (u,s):=
   ⟨bJ fr IX (t,⟨A,t.kZ.length,ca⟩),HS6.out.below HB7.out,fun h=>(by rw [HT.out] at h;cases h),fun u hu=>⟨⟨A,t.kZ.length,ca⟩,(by rw [HT.out] at hu;cases hu;rfl)⟩⟩
  exact ⟨HB6.out.trans (aP.of_below HB7.out),rfl,fun _=>HF2⟩
theorem DM {fr:Int->Option (Tr×Sa)} (q:Src) (w:Z3) (hq:rightB q.c q.r=Zy) (hl:200<q.text.length):
 Calls ZW 90 #[Zv (ZV ⟨S,0,ZU⟩),srV q] w (TkQ base S b1 b2 n ft fr q w):=by
 obtain ⟨c,r,tx⟩:=q;dsimp only at hq hl
 have hi:decide (aQ c r<0)=Zz:=by
  have:=ev hq;unfold aQ;rw [if_pos hq];exact decide_eq_false qoq
 have h200:decide ((200:Int)<(tx.length:Int))=Zy:=decide_eq_true qoq;have hok:dh plB ⟨c,r,tx⟩=Zz:=(by unfold dh;dsimp only;rw [Mi hl,Bool.and_false]);have HI:=qf (fun w=>fW c r w);unfold TkQ srV;dsimp only;rw [hok];generalize aQ c r=IX at*;clear hq hok hl;go_enter func90,ntmps90;go_wp2_with fail;refine .mono qse ?_;rintro e w1 ⟨rfl,hb1⟩;have p2:w1.cell? ⟨w.heap.size,2,ZU⟩=ZV (Zx ⟨tx.toArray⟩):=aa hb1 qnp;have HB1:=qf hb1;clear hb1 HI;go_wp2_with fail;go_ret;exact ⟨aP.of_below (qa.trans (HB1.out.mono qns)),rfl,fun h=>by cases h⟩
theorem JN {fr:Int->Option (Tr×Sa)} (q:Src) (w:Z3) (h:ShS w base S b1 b2 n ft fr) (hn:n+2<maxLen) (hE:∀W,Z2 base w W->cz W):
 Calls ZW 90 #[Zv (ZV ⟨S,0,ZU⟩),srV q] w (TkQ base S b1 b2 n ft fr q w):=by
 cases hq:rightB q.c q.r with
 |false=>exact JB q w hq
 |true=>
  by_cases hl:200<q.text.length
  ·exact DM q w hq hl
  ·cases hp:pB q.text with
   |true=>exact Hy q w hq hl hp h hn hE
   |false=>
    cases ht:aU q.text with
    |none=>exact K5 q w hq hl hp ht h hn hE
    |some t=>exact EW q w hq hl hp ht h hn hE
end
