import Derived.Test.YteglaomdgdkibaaGreatDoorJNS01
import Derived.Test.YteglaomdgdkibaaGreatDoorJSA
import Derived.Test.YteglaomdgdkibaaGreatDoorJQNSP
import Derived.Test.YteglaomdgdkibaaGreatDoorJQNSW
set_option linter.all false
set_option maxHeartbeats 0
set_option maxRecDepth 99999
namespace Go.Proofs.YteglaomdgdkibaaGreatDoor
open Go.RowKit
open RowKit renaming Below→Z2
open Go renaming World→Z3
open Tryz
open Tryz renaming prog→ZW
open Option renaming some→ZV,none→ZU
variable {w w':World}{P:Nat->Prop}{g:Nat}{v:Value}{s:ByteArray}{l:List ByteArray}
structure Kept (w w':Z3) (P:Nat->Prop):Prop where
 size:w.heap.size<=w'.heap.size
 block:∀g,P g->g<w.heap.size->w'.heap[g]? =w.heap[g]?
theorem Kept.of_below (h:Z2 w.heap.size w w'):Kept w w' P:=⟨h.size,fun g _ hg=>h.block g hg⟩
theorem Kept.trans {w'':Z3} (h:Kept w w' P) (h':Kept w' w'' P):Kept w w'' P:=
 ⟨Nat.le_trans h.size h'.size,fun g hp hg=>(h'.block g hp (Nat.lt_of_lt_of_le hg h.size)).trans (h.block g hp hg)⟩
theorem Kept.refl (w:Z3) (P:Nat->Prop):Kept w w P:=⟨qd,fun _ _ _=>rfl⟩
theorem Kept.cell (h:Kept w w' P) {o:Nat} (hp:P g) (hv:w.cell? ⟨g,o,ZU⟩=ZV v):w'.cell? ⟨g,o,ZU⟩=ZV v:=by
 have hl:g<w.heap.size:=Lib.lt_of_cell hv;have hb:=h.block g hp hl;rw [<-hv];unfold World.cell?;simp only [hb]
def SAt (w:Z3) (g o:Nat) (l:List ByteArray):Prop:=∀(i:Nat) (s:ByteArray),l[i]? =ZV s->w.cell? ⟨g,o+i,ZU⟩=ZV (.string s)
def cH (s:ByteArray):List ByteArray->Option Nat
 |[]=>ZU
 |t::r=>if s=t then ZV 0 else (cH s r).map (·+1)
def pF (s:ByteArray) (l:List ByteArray):Int:=match cH s l with|some i=>(i:Int)|none=> -1
theorem xi {s:ByteArray}:∀{l:List ByteArray} {i:Nat},(∀(j:Nat) (t:ByteArray),j<i->l[j]? =ZV t->s≠t)->l[i]? =ZV s->cH s l=ZV i
 |[],i,_,h=>by simp at h
 |t::r,0,_,h=>by simp at h;subst h;simp [cH]
 |t::r,i+1,hn,h=>by
  have h0:=hn 0 t qoq rfl;have:=xi (l:=r) (i:=i) (fun j u hj hu=>hn (j+1) u qoq qqG) qoA;simp [cH,h0,this]
theorem sU {s:ByteArray}:∀{l:List ByteArray},(∀(j:Nat) (t:ByteArray),j<l.length->l[j]? =ZV t->s≠t)->cH s l=ZU
 |[],_=>rfl
 |t::r,hn=>by
  have h0:=hn 0 t qns rfl;have:=sU (l:=r) (fun j u hj hu=>hn (j+1) u qnu qqG);simp [cH,h0,this]
theorem Lg {i:Nat} (hn:∀(j:Nat) (t:ByteArray),j<i->l[j]? =ZV t->s≠t) (h:l[i]? =ZV s):pF s l=(i:Int):=by
 unfold pF;rw [xi hn h]
theorem GP (hn:∀(j:Nat) (t:ByteArray),j<l.length->l[j]? =ZV t->s≠t):pF s l= -1:=by
 unfold pF;rw [sU hn]
theorem BE (w:Z3) (g o cap:Nat) (l:List ByteArray) (s:ByteArray) (hl:l.length<=1000) (h:SAt w g o l):
 Calls ZW 279 #[.slice (ZV ⟨g,o,ZU⟩) l.length cap,.string s] w fun e w'=>e=.returned (.int .i64 (pF s l))/\w=w':=by
 have H:=qf h;clear h;go_enter func279,ntmps279;go_wp2_with fail;go_loopw [8] (fun vi wr=>∃i:Nat,i<=l.length/\vi=.int .i64 (i:Int)/\wr=w/\Hid (∀(j:Nat) (t:ByteArray),j<i->l[j]? =ZV t->s≠t)) (fun vi _=>l.length - (RowKit.intOf vi).toNat)
 case atStart=>exact ⟨0,qe,rfl,rfl,qf fun j t hj=>by omega⟩
 case round=>
  obtain ⟨i,hi,rfl,rfl,HN⟩:=hrel;by_cases hlt:i<l.length
  ·have ht:l[i]? =ZV (l[i]'hlt):=List.getElem?_eq_getElem hlt
   have q:=H.out i _ ht;have HT:=qf ht;generalize l[i]'hlt=t at*;clear ht;by_cases he:s=t
   ·subst he
    have he2:(s.toList==s.toList)=true:=qns;go_wp2_with fail;go_ret;exact ⟨fp (Lg HN.out HT.out).symm,qnT⟩
   ·have he2:(s.toList==t.toList)=false:=by
     rw [beq_eq_false_iff_ne,ByteArray.toList_eq,ByteArray.toList_eq];intro h;apply he
     obtain ⟨⟨a⟩⟩:=s;obtain ⟨⟨b⟩⟩:=t;simp at h
     rw [h]
    go_wp2_with fail;go_roundw
    case rel=>exact ⟨i+1,qoq,qnG,qnT,qf fun j u hj hu=>by
     by_cases hji:j<i
     ·exact HN.out j u hji hu
     ·obtain rfl:j=i:=by omega
      rw [HT.out] at hu;obtain rfl:=Option.some.inj hu;exact he⟩
    case measure=>exact qmy
  ·obtain rfl:i=l.length:=by omega
   go_wp2_with fail;go_ret;exact ⟨fp (GP HN.out).symm,qnT⟩
theorem uC (w:Z3) (g o cap:Nat) (l:List ByteArray) (s:ByteArray) (hl:l.length<=1000) (h:SAt w g o l):
 Calls ZW 233 #[.slice (ZV ⟨g,o,ZU⟩) l.length cap,.string s] w fun e w'=>e=.returned (.bool (cH s l).isSome)/\w=w':=by
 have H:=qf h;clear h
 have hB:∀b,decide (0<=pF s l)=b->(cH s l).isSome=b:=by
  intro b hb;subst hb;unfold pF;cases cH s l with
  |none=>rfl
  |some i=>simp
 have HB:=qf (hB _ rfl);clear hB;go_enter func233,ntmps233;go_wp2_with fail;refine (BE w g o cap l s hl H.out).mono ?_;rintro e w1 ⟨rfl,rfl⟩;go_wp2_with fail;go_ret;exact ⟨aK HB.out.symm,qnT⟩
def gt:Nat->List ByteArray
 |0=>[⟨#[60]⟩,⟨#[60,61]⟩,⟨#[61]⟩,⟨#[60,62]⟩,⟨#[62,61]⟩,⟨#[62]⟩]
 |1=>[⟨#[43]⟩,⟨#[45]⟩]
 |2=>[⟨#[42]⟩,⟨#[47]⟩]
 |_=>[]
def bh (R B:Nat) (w:Z3):Prop:=(R≠0/\0<B)/\∀i:Nat,i<3->∃g o cap,(g≠R/\g<B)/\w.cell? ⟨0,i,ZU⟩=ZV (.slice (ZV ⟨g,o,ZU⟩) (gt i).length cap)/\SAt w g o (gt i)
theorem bh.keep {R B:Nat} (h:bh R B w) (hk:∀(p:Addr) (v:Value),p.block≠R->p.block<B->w.cell? p=ZV v->w'.cell? p=ZV v):bh R B w':=by
 refine ⟨h.1,fun i hi=>?_⟩;obtain ⟨g,o,cap,hg,hc,hs⟩:=h.2 i hi;exact ⟨g,o,cap,hg,hk _ _ (Ne.symm h.1.1) h.1.2 hc,fun j s hj=>hk _ _ hg.1 hg.2 (hs j s hj)⟩
def pI (s:ByteArray):Int:=if (cH s (gt 0)).isSome=true then 0 else if (cH s (gt 1)).isSome=true then 1 else if (cH s (gt 2)).isSome=true then 2 else -1
theorem jP (R B:Nat) (w:Z3) (s:ByteArray) (h:bh R B w):
 Calls ZW 181 #[.string s] w fun e w'=>e=.returned (.int .i64 (pI s))/\w=w':=by
 obtain ⟨_,h⟩:=h;have H:=qf h;clear h;go_enter func181,ntmps181;go_wp2_with fail;go_loopw [4] (fun vi wr=>∃i:Nat,i<=3/\vi=.int .i64 (i:Int)/\wr=w/\Hid (∀j:Nat,j<i->(cH s (gt j)).isSome=false)) (fun vi _=>3 - (RowKit.intOf vi).toNat)
 case atStart=>exact ⟨0,qoq,rfl,rfl,qf fun j hj=>by omega⟩
 case round=>
  obtain ⟨i,hi,rfl,rfl,HN⟩:=hrel;by_cases hlt:i<3
  ·obtain ⟨g,o,cap,_,hc,hs⟩:=H.out i hlt
   have hll:(gt i).length<=1000:=by
    match i,hlt with
    |0,_=>decide
    |1,_=>decide
    |2,_=>decide
   have HC:=qf (uC wr g o cap (gt i) s hll hs)
   have hV:Hid ((cH s (gt i)).isSome=true->pI s=(i:Int)):=qf fun h=>by
    unfold pI;match i,hlt,h with
    |0,_,h=>rw [if_pos h];rfl
    |1,_,h=>rw [if_neg (by rw [HN.out 0 qoq];decide),if_pos h];rfl
    |2,_,h=>rw [if_neg (by rw [HN.out 0 qoq];decide),if_neg (by rw [HN.out 1 qoq];decide),if_pos h];rfl
   generalize hb:(cH s (gt i)).isSome=b at*;have HB:=qf hb;clear hb hll hs;cases b with
   |true=>
    go_wp2_with fail;refine HC.out.mono ?_;rintro e w1 ⟨rfl,rfl⟩;go_wp2_with fail;go_ret;exact ⟨fp (hV.out qnT).symm,qnT⟩
   |false=>
    go_wp2_with fail;refine HC.out.mono ?_;rintro e w1 ⟨rfl,rfl⟩;go_wp2_with fail;go_roundw
    case rel=>exact ⟨i+1,qoq,qnG,qnT,qf fun j hj=>by
     by_cases hji:j<i
     ·exact HN.out j hji
     ·obtain rfl:j=i:=by omega
      exact HB.out⟩
    case measure=>exact qmy
  ·obtain rfl:i=3:=by omega
   have hV:pI s= -1:=by
    unfold pI;rw [HN.out 0 qoq,HN.out 1 qoq,HN.out 2 qoq];rfl
   go_wp2_with fail;go_ret;exact ⟨fp hV.symm,qnT⟩
theorem I8:prog.globalNamed "internal/strconv.uint64pow10"=ZV 4:=by kernel_rfl
structure eS (w:Z3):Prop where
 tab:Lib.TabIs ZW w "internal/strconv.uint64pow10" .u64 Lib.pow10Tab
theorem eS.below (h:eS w) (hb:Z2 w.heap.size w w'):eS w':=by
 obtain ⟨ht⟩:=h;have hc:=ht.cell I8 0 (by rw [Lib.pow10Tab_length];omega);exact ⟨var?_below hb I8 (Lib.lt_of_cell hc) ht⟩
theorem Bi (w:Z3) (os:Array Obj):Z2 w.heap.size w (Sort.grow w os):=
 ⟨rfl,rfl,rfl,(by simp [Sort.grow]),fun k hk=>by simp [Sort.grow,Array.getElem?_append_left hk]⟩
theorem pk (n:Int) (hn:B64 n) (w:Z3) (hE:eS w):
 Calls ZW 171 #[.int .i64 n] w fun e w'=>e=.returned (.string ⟨(Lib.itoa n).toArray⟩)/\Z2 w.heap.size w w':=
 (Any.strconv_Itoa laysM171 n hn.1 hn.2 w hE.tab).mono fun _ _ ⟨he,k,os,hw⟩=>⟨he,hw▸(below_drewN qb k).trans (Bi (w.drewN k) os)⟩
theorem Gv:prog.globalNamed "strconv.ErrRange"=ZV 2:=by kernel_rfl
theorem IW:prog.globalNamed "strconv.ErrSyntax"=ZV 1:=by kernel_rfl
structure jc (w:Z3):Prop where
 rng:∃tp p,w.var? ZW "strconv.ErrRange"=ZV #[.iface tp p]
 syn:∃tp p,w.var? ZW "strconv.ErrSyntax"=ZV #[.iface tp p]
theorem C9 {name:String} {r:List Value} (hg:prog.globalNamed name=ZV g) (hv:w.var? ZW name=ZV (v::r).toArray):g<w.heap.size:=by
 have h0:=World.var?_cell hg hv 0;exact Lib.lt_of_cell (a:=⟨g,0,ZU⟩) (v:=v) (by simpa using h0)
theorem jc.below (h:jc w) (hb:Z2 w.heap.size w w'):jc w':=by
 obtain ⟨⟨t1,p1,h1⟩,⟨t2,p2,h2⟩⟩:=h;exact ⟨⟨t1,p1,var?_below hb Gv (C9 (r:=[]) Gv h1) h1⟩,⟨t2,p2,var?_below hb IW (C9 (r:=[]) IW h2) h2⟩⟩
