import Derived.Test.YteglaomdgdkibaaGreatDoorJNS05
import Derived.Deep.QuietTactic
import Derived.BigQuiet
import Derived.Laws.Pointers
import Derived.StillTactics
import Derived.Test.YteglaomdgdkibaaGreatDoorJQNSP
set_option linter.all false
set_option maxHeartbeats 0
set_option maxRecDepth 99999
namespace Go.Proofs.YteglaomdgdkibaaGreatDoor
open Go.RowKit
open Value renaming int→ZZ,string→Zx,slice→Zw
open IntKind renaming i64→ZY
open RowKit renaming Below→Z2
open Go renaming World→Z3
open Tryz
open Tryz renaming prog→ZW
open Option renaming some→ZV,none→ZU
open Bool renaming false→Zz,true→Zy
variable {w' wr:World}{P:Nat->Prop}{B E G O R g i lo o p:Nat}{v:Value}{L:List Tok}{f:Bool}{x:Int}{l:List UInt8}
inductive Tr where
 |mk (kY num:Int) (c r d s:Int) (wZ:List UInt8) (kZ:List Tr)
deriving Inhabited
def Tr.kY:Tr->Int|.mk k _ _ _ _ _ _ _=>k
def Tr.num:Tr->Int|.mk _ n _ _ _ _ _ _=>n
def Tr.wZ:Tr->List UInt8|.mk _ _ _ _ _ _ w _=>w
def Tr.kZ:Tr->List Tr|.mk _ _ _ _ _ _ _ ks=>ks
def lvl (s:List UInt8):Nat:=
 if s=[60]\/s=[60,61]\/s=[61]\/s=[60,62]\/s=[62,61]\/s=[62] then 1
 else if s=[43]\/s=[45] then 2 else if s=[42]\/s=[47] then 3 else 0
def ag (L:List Tok) (p:Nat) (s:List UInt8):Bool:=match L[p]? with|some t=>t.kY==5&&t.text==s|none=>Zz
def whr (L:List Tok) (E p:Nat):Nat:=match L[p]? with|some t=>t.frm|none=>E
def aJ (L:List Tok) (p:Nat):Nat:=match L[p]? with|some t=>if t.kY=5 then lvl t.text else 0|none=>0
def aB (L:List Tok) (p:Nat):Bool:=match L[p]? with|some t=>t.kY==2 || t.kY==3|none=>Zz
inductive Res where
 |ok (t:Tr) (q:Nat)
 |bad (w:Nat)
def Res.next (x:Option Res) (f:Tr->Nat->Option Res):Option Res:=match x with
 |some (.ok t q)=>f t q
 |o=>o
def az (L:List Tok) (E p:Nat) (s:List UInt8) (f:Nat->Option Res):Option Res:=if ag L p s=Zy then f (p+1) else ZV (.bad (whr L E p))
def opT (w:List UInt8) (a b:Tr):Tr:=.mk 4 0 0 0 0 0 w [a,b]
def jM (a:Tr):Tr:=.mk 3 0 0 0 0 0 [] [a]
def ik (n:Int):Tr:=.mk 0 n 0 0 0 0 [] []
def fG (c r:Int):Tr:=.mk 1 0 c r c r [] []
def bK:Tr:=.mk 2 0 0 0 0 0 [] []
def fg (c r d s:Int):Tr:=.mk 6 0 c r d s [] []
def ba (w:List UInt8) (ks:List Tr):Tr:=.mk 5 0 0 0 0 0 w ks
mutual
def ak (L:List Tok) (E:Nat):Nat->Nat->Nat->Option Res
 |0,_,_=>ZU
 |k+1,lev,p=>if 3<lev then bR L E k p else Res.next (ak L E k (lev+1) p) fun t q=>bC L E k lev t q
def bC (L:List Tok) (E:Nat):Nat->Nat->Tr->Nat->Option Res
 |0,_,_,_=>ZU
 |k+1,lev,out,p=>if aJ L p=lev then Res.next (ak L E k (lev+1) (p+1)) fun t q=>bC L E k lev (opT ((L.map Tok.text).getD p []) out t) q else ZV (.ok out p)
def bR (L:List Tok) (E:Nat):Nat->Nat->Option Res
 |0,_=>ZU
 |k+1,p=>if ag L p [45]=Zy then Res.next (bR L E k (p+1)) fun t q=>ZV (.ok (jM t) q) else ct L E k p
def ct (L:List Tok) (E:Nat):Nat->Nat->Option Res
 |0,_=>ZU
 |k+1,p=>if ag L p [40]=Zy then Res.next (ak L E k 1 (p+1)) fun t q=>az L E q [41] fun q=>ZV (.ok t q)
  else match L[p]? with
   |none=>ZV (.bad E)
   |some t=>if t.kY=5 then ZV (.bad t.frm) else if t.kY=1 then ZV (.ok (ik t.num) (p+1)) else if t.kY=2 then ZV (.ok (fG t.col t.row) (p+1)) else if t.kY=3 then ZV (.ok bK (p+1))
    else az L E (p+1) [40] fun q=>
     if t.text=[73,70] then Res.next (ak L E k 1 q) fun a q=>az L E q [44] fun q=>Res.next (ak L E k 1 q) fun b q=>az L E q [44] fun q=>Res.next (ak L E k 1 q) fun c q=>az L E q [41] fun q=>ZV (.ok (ba [73,70] [a,b,c]) q)
     else bx L E k t.text [] q
def bx (L:List Tok) (E:Nat):Nat->List UInt8->List Tr->Nat->Option Res
 |0,_,_,_=>ZU
 |k+1,w,acc,p=>Res.next (bg L E k (w==[67,79,85,78,84]) p) fun t q=>if ag L q [44]=Zy then bx L E k w (acc++[t]) (q+1) else az L E q [41] fun q=>ZV (.ok (ba w (acc++[t])) q)
def bg (L:List Tok) (E:Nat):Nat->Bool->Nat->Option Res
 |0,_,_=>ZU
 |k+1,corners,p=>
  if corners=Zz/\(aB L p=Zz\/ag L (p+1) [58]=Zz) then ak L E k 1 p
  else match L[p]? with
   |none=>ZV (.bad E)
   |some a=>
    if aB L p=Zz then ZV (.bad a.frm)
    else if ag L (p+1) [58]=Zz/\a.kY=3 then ZV (.ok bK (p+1))
    else az L E (p+1) [58] fun q=>match L[q]? with
     |none=>ZV (.bad E)
     |some b=>if aB L q=Zz then ZV (.bad b.frm) else if a.kY=3\/b.kY=3 then ZV (.ok bK (q+1)) else ZV (.ok (fg (min a.col b.col) (min a.row b.row) (max a.col b.col) (max a.row b.row)) (q+1))
end
def Tr.c1:Tr->Int|.mk _ _ c _ _ _ _ _=>c
def Tr.r1:Tr->Int|.mk _ _ _ r _ _ _ _=>r
def Tr.c2:Tr->Int|.mk _ _ _ _ d _ _ _=>d
def Tr.r2:Tr->Int|.mk _ _ _ _ _ s _ _=>s
inductive Ku|k (t:Tr) (A:Option Addr) (c:Nat)
instance {t A c}:CoeDep Ku (Ku.k t A c) (Array Value):=⟨#[ZZ ZY t.kY,ZZ ZY t.num,ZZ ZY t.c1,ZZ ZY t.r1,ZZ ZY t.c2,ZZ ZY t.r2,Zx ⟨t.wZ.toArray⟩,Zw A t.kZ.length c]⟩
def tv (t:Tr) (A:Option Addr) (cap:Nat):Value:=.agg (Ku.k t A cap)
def At8 (w:Z3) (g o:Nat) (t:Tr) (A:Option Addr) (cap:Nat):Prop:=
 w.cell? ⟨g,o,ZU⟩=ZV (ZZ ZY t.kY)/\w.cell? ⟨g,o+1,ZU⟩=ZV (ZZ ZY t.num)/\w.cell? ⟨g,o+2,ZU⟩=ZV (ZZ ZY t.c1)/\w.cell? ⟨g,o+3,ZU⟩=ZV (ZZ ZY t.r1)/\
 w.cell? ⟨g,o+4,ZU⟩=ZV (ZZ ZY t.c2)/\w.cell? ⟨g,o+5,ZU⟩=ZV (ZZ ZY t.r2)/\w.cell? ⟨g,o+6,ZU⟩=ZV (Zx ⟨t.wZ.toArray⟩)/\w.cell? ⟨g,o+7,ZU⟩=ZV (Zw A t.kZ.length cap)
mutual
def KV (w:Z3) (P:Nat->Prop):Tr->Option Addr->Prop
 |.mk _ _ _ _ _ _ _ ks,A=>ks=[]\/∃g o,A=ZV ⟨g,o,ZU⟩/\P g/\g<w.heap.size/\KL w P ks g o
def KL (w:Z3) (P:Nat->Prop):List Tr->Nat->Nat->Prop
 |[],_,_=>True
 |t::ts,g,o=>(∃A cap,At8 w g o t A cap/\KV w P t A)/\KL w P ts g (o+8)
end
theorem At8.kept {w:Z3} {t:Tr} {A:Option Addr} {cap:Nat} (h:At8 w g o t A cap) (hk:Kept w w' P) (hp:P g):At8 w' g o t A cap:=
 ⟨hk.cell hp h.1,hk.cell hp h.2.1,hk.cell hp h.2.2.1,hk.cell hp h.2.2.2.1,hk.cell hp h.2.2.2.2.1,hk.cell hp h.2.2.2.2.2.1,hk.cell hp h.2.2.2.2.2.2.1,hk.cell hp h.2.2.2.2.2.2.2⟩
mutual
theorem KV.kept {w w':Z3} {P:Nat->Prop} (hk:Kept w w' P):∀{t:Tr} {A:Option Addr},KV w P t A->KV w' P t A
 |.mk _ _ _ _ _ _ _ ks,A,h=>by
  rw [KV] at h ⊢;rcases h with h|⟨g,o,rfl,hp,hl,h⟩
  ·exact .inl h
  ·exact .inr ⟨g,o,rfl,hp,Nat.lt_of_lt_of_le hl hk.size,KL.kept hk hp h⟩
theorem KL.kept {w w':Z3} {P:Nat->Prop} (hk:Kept w w' P):∀{ks:List Tr} {g o:Nat},P g->KL w P ks g o->KL w' P ks g o
 |[],_,_,_,_=>by rw [KL];trivial
 |t::ts,g,o,hp,h=>by
  rw [KL] at h ⊢;obtain ⟨⟨A,cap,h8,hv⟩,hl⟩:=h;exact ⟨⟨A,cap,h8.kept hk hp,KV.kept hk hv⟩,KL.kept hk hp hl⟩
end
theorem KL.at {w:Z3}:∀{ks:List Tr} {g o:Nat},KL w P ks g o->∀{i:Nat} {t:Tr},ks[i]? =ZV t->∃A cap,At8 w g (o+8*i) t A cap/\KV w P t A
 |[],_,_,_,i,t,hi=>by simp at hi
 |u::us,g,o,h,i,t,hi=>by
  rw [KL] at h;exact qjp
theorem KL.of {w:Z3} {P:Nat->Prop}:∀{ks:List Tr} {g o:Nat},(∀(i:Nat) (t:Tr),ks[i]? =ZV t->∃A cap,At8 w g (o+8*i) t A cap/\KV w P t A)->KL w P ks g o
 |[],_,_,_=>by rw [KL];trivial
 |t::ts,g,o,h=>by
  rw [KL];refine ⟨?_,KL.of fun i u hu=>?_⟩
  ·have:=h 0 t qns
   simpa using this
  ·have:=h (i+1) u qqG
   rwa [show o+8+8*i=o+8*(i+1) from by omega]
theorem KV.kZ {w:Z3} {t:Tr} {A:Option Addr} (h:KV w P t A):t.kZ=[]\/∃g o,A=ZV ⟨g,o,ZU⟩/\P g/\g<w.heap.size/\KL w P t.kZ g o:=by
 cases t;rw [KV] at h;exact h
theorem KV.mk {w:Z3} {t:Tr} {A:Option Addr} (h:t.kZ=[]\/∃g o,A=ZV ⟨g,o,ZU⟩/\P g/\g<w.heap.size/\KL w P t.kZ g o):KV w P t A:=by
 cases t;rw [KV];exact h
theorem KV.kid {w:Z3} {t u:Tr} (h:KV w P t (ZV ⟨g,o,ZU⟩)) (hi:t.kZ[i]? =ZV u):P g/\g<w.heap.size/\∃A cap,At8 w g (o+8*i) u A cap/\KV w P u A:=by
 rcases h.kZ with h|⟨g',o',he,hp,hl,h⟩
 ·rw [h] at hi;simp at hi
 ·simp at he
  obtain ⟨rfl,rfl⟩:=he;exact ⟨hp,hl,h.at hi⟩
theorem KV.addr {w:Z3} {t u:Tr} {A:Option Addr} (h:KV w P t A) (hi:t.kZ[i]? =ZV u):∃g o,A=ZV ⟨g,o,ZU⟩:=by
 rcases h.kZ with h|⟨g,o,he,_⟩
 ·rw [h] at hi;simp at hi
 ·exact ⟨g,o,he⟩
structure But (R:Nat) (w w':Z3):Prop where
 os:w'.os=w.os
 tape:w'.tape=w.tape
 output:w'.output=w.output
 size:w.heap.size<=w'.heap.size
 block:∀k,k<w.heap.size->k≠R->w'.heap[k]? =w.heap[k]?
theorem But.refl (R:Nat) (w:Z3):But R w w:=⟨rfl,rfl,rfl,qd,fun _ _ _=>rfl⟩
theorem But.trans {a b c:Z3} (h:But R a b) (k:But R b c):But R a c:=
 ⟨k.os.trans h.os,k.tape.trans h.tape,k.output.trans h.output,Nat.le_trans h.size k.size,fun i hi hn=>(k.block i (Nat.lt_of_lt_of_le hi h.size) hn).trans (h.block i hi hn)⟩
theorem But.of_below {w:Z3} (h:Z2 w.heap.size w w'):But R w w':=⟨h.os,h.tape,h.output,h.size,fun k hk _=>h.block k hk⟩
theorem But.alloc {a w:Z3} (h:But R a w) (o:Obj):But R a (w.alloc o):=h.trans (But.of_below (qb.alloc qd o))
theorem But.drew {a w:Z3} (h:But R a w):But R a w.drew:=⟨h.os,h.tape,h.output,h.size,h.block⟩
theorem But.setCell {a w:Z3} (h:But R a w) {p:Addr} (hp:p.block=R\/a.heap.size<=p.block) (u:Value):But R a (w.setCell p u):=qjy
theorem But.setR {a w:Z3} (h:But R a w) (o:Nat) (u:Value):But R a (w.setCell ⟨R,o,ZU⟩ u):=h.setCell (.inl rfl) u
theorem But.setN {a w:Z3} (h:But R a w) (hg:a.heap.size<=g) (o:Nat) (u:Value):But R a (w.setCell ⟨g,o,ZU⟩ u):=h.setCell (.inr hg) u
theorem But.drewN {a w:Z3} (h:But R a w) (n:Nat):But R a (w.drewN n):=h.trans (But.of_below (below_drewN qb n))
theorem But.cell {w:Z3} (h:But R w w') {p:Addr} (hne:p.block≠R) (hv:w.cell? p=ZV v):w'.cell? p=ZV v:=qkt
theorem But.frozen {w:Z3} (h:But R w w') {p:Addr} (hne:p.block≠R) (hl:p.block<w.heap.size) (hv:w.frozen? p=Zz):w'.frozen? p=Zz:=qkU
theorem But.kept {w:Z3} (h:But R w w'):Kept w w' (fun g=>g≠R):=⟨h.size,fun g hp hl=>h.block g hl hp⟩
theorem But.below {n:Nat} {w:Z3} (h:But R w w') (hn:n<=R) (hs:n<=w.heap.size):Z2 n w w':=⟨h.os,h.tape,h.output,h.size,fun k hk=>h.block k qoq qoq⟩

def TK (w:Z3) (R:Nat) (A:Option Addr) (L:List Tok):Prop:=L=[]\/∃g,A=ZV ⟨g,0,ZU⟩/\g≠R/\g<w.heap.size/\AtT w g L
structure RC (w:Z3) (R:Nat) (A:Option Addr) (cap:Nat) (L:List Tok) (E:Nat) (p:Int) (f:Bool) (x:Int):Prop where
 c0:w.cell? ⟨R,0,ZU⟩=ZV (Zw A L.length cap)
 c1:w.cell? ⟨R,1,ZU⟩=ZV (ZZ ZY p)
 c2:w.cell? ⟨R,2,ZU⟩=ZV (ZZ ZY (E:Int))
 c3:w.cell? ⟨R,3,ZU⟩=ZV (.bool f)
 c4:w.cell? ⟨R,4,ZU⟩=ZV (ZZ ZY x)
 f1:w.frozen? ⟨R,1,ZU⟩=Zz
 f3:w.frozen? ⟨R,3,ZU⟩=Zz
 f4:w.frozen? ⟨R,4,ZU⟩=Zz
theorem RC.lt {w:Z3} {A:Option Addr} {cap:Nat} {p:Int} (h:RC w R A cap L E p f x):R<w.heap.size:=Lib.lt_of_cell h.c0
theorem RC.below {w:Z3} {A:Option Addr} {cap:Nat} {p:Int} (h:RC w R A cap L E p f x) (hb:Z2 w.heap.size w w'):RC w' R A cap L E p f x:=
 ⟨aa hb h.c0,aa hb h.c1,aa hb h.c2,aa hb h.c3,aa hb h.c4,ae hb h.lt h.f1,ae hb h.lt h.f3,ae hb h.lt h.f4⟩
theorem AtT.but {w:Z3} (h:AtT w g L) (hb:But R w w') (hg:g≠R):AtT w' g L:=fun i t hi=>by
 obtain ⟨a,b,c,d,e,f⟩:=h i t hi;exact ⟨hb.cell hg a,hb.cell hg b,hb.cell hg c,hb.cell hg d,hb.cell hg e,hb.cell hg f⟩
theorem TK.but {w:Z3} {A:Option Addr} (h:TK w R A L) (hb:But R w w'):TK w' R A L:=by
 rcases h with h|⟨g,e,hn,hl,ht⟩
 ·exact .inl h
 ·exact .inr ⟨g,e,hn,Nat.lt_of_lt_of_le hl hb.size,ht.but hb hn⟩
theorem TK.at {w:Z3} {A:Option Addr} (h:TK w R A L) {t:Tok} (hi:L[i]? =ZV t):∃g,A=ZV ⟨g,0,ZU⟩/\g≠R/\g<w.heap.size/\w.cell? ⟨g,i*6,ZU⟩=ZV (ZZ ZY t.kY)/\w.cell? ⟨g,i*6+1,ZU⟩=ZV (ZZ ZY t.num)/\w.cell? ⟨g,i*6+2,ZU⟩=ZV (ZZ ZY t.col)/\
 w.cell? ⟨g,i*6+3,ZU⟩=ZV (ZZ ZY t.row)/\w.cell? ⟨g,i*6+4,ZU⟩=ZV (Zx ⟨t.text.toArray⟩)/\w.cell? ⟨g,i*6+5,ZU⟩=ZV (ZZ ZY (t.frm:Int)):=by
 rcases h with h|⟨g,e,hn,hl,ht⟩
 ·rw [h] at hi;simp at hi
 ·exact ⟨g,e,hn,hl,ht i t hi⟩
theorem zBa {a w:Z3} (h:But R a w) (o:Obj):But R a (w.alloc o):=h.alloc o
theorem zBd {a w:Z3} (h:But R a w):But R a w.drew:=h.drew
theorem zBr {a w:Z3} (h:But R a w) (o:Nat) (u:Value):But R a (w.setCell ⟨R,o,ZU⟩ u):=h.setR o u
theorem zBs {a w:Z3} (h:But R a w) (hg:a.heap.size<=g) (o:Nat) (u:Value):But R a (w.setCell ⟨g,o,ZU⟩ u):=h.setN hg o u
theorem zBn {a w:Z3} (h:But R a w) (n:Nat):But R a (w.drewN n):=h.drewN n
def bL (n lo:Nat) (o:Option Res):Prop:=∃x,o=ZV x/\∀t q,x=.ok t q->lo<=q/\q<=n
theorem bL.bad (n lo w:Nat):bL n lo (ZV (.bad w)):=⟨_,rfl,fun _ _ h=>by cases h⟩
theorem bL.ok {n q:Nat} {t:Tr} (h:lo<=q) (h2:q<=n):bL n lo (ZV (.ok t q)):=⟨_,rfl,fun _ _ h'=>by cases h';exact ⟨h,h2⟩⟩
theorem bL.next {n lo':Nat} {a:Option Res} {f:Tr->Nat->Option Res} (h:bL n lo a) (hf:∀t q,lo<=q->q<=n->bL n lo' (f t q)):bL n lo' (Res.next a f):=by
 obtain ⟨x,rfl,hx⟩:=h;cases x with
 |ok t q=>exact hf t q (hx t q rfl).1 (hx t q rfl).2
 |bad w=>exact qmF
theorem fu {s:List UInt8} (h:ag L p s=Zy):p<L.length:=by
 unfold ag at h;exact qlW
theorem lz {lev:Nat} (h:aJ L p=lev) (hl:1<=lev):p<L.length:=by
 unfold aJ at h;split at h
 ·rename_i t ht;exact (List.getElem?_eq_some_iff.1 ht).1
 ·omega
theorem bL.must {s:List UInt8} {f:Nat->Option Res} (hf:p<L.length->bL L.length lo (f (p+1))):bL L.length lo (az L E p s f):=by
 unfold az;split
 ·rename_i h;exact hf (fu h)
 ·exact qmF
structure L5 (L:List Tok) (E k:Nat):Prop where
 line:∀lev p,1<=lev->lev<=4->p<=L.length->8*(L.length - p)+7<=k+lev->bL L.length (p+1) (ak L E k lev p)
 rest:∀lev out p,1<=lev->lev<=3->p<=L.length->8*(L.length - p)+1<=k->bL L.length p (bC L E k lev out p)
 pref:∀p,p<=L.length->8*(L.length - p)+2<=k->bL L.length (p+1) (bR L E k p)
 oper:∀p,p<=L.length->8*(L.length - p)+1<=k->bL L.length (p+1) (ct L E k p)
 items:∀w acc p,p<=L.length->8*(L.length - p)+8<=k->bL L.length (p+1) (bx L E k w acc p)
 item:∀c p,p<=L.length->8*(L.length - p)+7<=k->bL L.length (p+1) (bg L E k c p)
theorem wK (L:List Tok) (E:Nat):∀k,L5 L E k
 |0=>by
  constructor<;>intros<;>omega
 |k+1=>by
  have I:=wK L E k;constructor
  ·intro lev p h1 h4 hp hk
   simp only [ak];split
   ·exact I.pref p hp qoq
   ·refine bL.next (I.line _ _ qoq qoq hp qoq) fun t q hq hn=>?_
    obtain ⟨x,hx,h⟩:=I.rest lev t q h1 qoq hn qoq;exact qlS
  ·intro lev out p h1 h3 hp hk
   simp only [bC];split
   ·rename_i hl
    have:=lz hl h1;refine bL.next (I.line _ _ qoq qoq qoq qoq) fun t q hq hn=>?_
    obtain ⟨x,hx,h⟩:=I.rest lev (opT ((L.map Tok.text).getD p []) out t) q h1 h3 hn qoq;exact qlS
   ·exact bL.ok qd hp
  ·intro p hp hk
   simp only [bR];split
   ·rename_i hm
    have:=fu hm;exact bL.next (I.pref _ qoq qoq) fun t q hq hn=>bL.ok qoq hn
   ·exact I.oper p hp qoq
  ·intro p hp hk
   simp only [ct];split
   ·rename_i hm
    have:=fu hm;exact bL.next (I.line _ _ qoq qoq qoq qoq) fun t q hq hn=>bL.must fun h=>bL.ok qoq qoq
   ·split
    ·exact qmF
    ·rename_i t ht
     have hlt:=(List.getElem?_eq_some_iff.1 ht).1;split
     ·exact qmF
     ·split
      ·exact bL.ok qd qoq
      ·split
       ·exact bL.ok qd qoq
       ·split
        ·exact bL.ok qd qoq
        ·refine bL.must fun h=>?_
         split
         ·exact bL.next (I.line _ _ qoq qoq qoq qoq) fun a q h1 h2=>bL.must fun h3=>bL.next (I.line _ _ qoq qoq qoq qoq) fun b q h4 h5=>bL.must fun h6=>bL.next (I.line _ _ qoq qoq qoq qoq) fun c q h7 h8=>bL.must fun h9=>bL.ok qoq qoq
         ·obtain ⟨x,hx,h'⟩:=I.items t.text [] (p+1+1) qoq qoq
          exact qlL
  ·intro w acc p hp hk
   simp only [bx];refine bL.next (I.item _ _ hp qoq) fun t q hq hn=>?_
   split
   ·rename_i hm
    have:=fu hm;obtain ⟨x,hx,h'⟩:=I.items w (acc++[t]) (q+1) qoq qoq;exact qlL
   ·exact bL.must fun h=>bL.ok qoq qoq
  ·intro c p hp hk
   simp only [bg];split
   ·exact I.line _ _ qoq qoq hp qoq
   ·split
    ·exact qmF
    ·rename_i a ha
     have hlt:=(List.getElem?_eq_some_iff.1 ha).1;split
     ·exact qmF
     ·split
      ·exact qmG
      ·refine bL.must fun h=>?_
       split
       ·exact qmF
       ·rename_i b hb
        have hlt2:=(List.getElem?_eq_some_iff.1 hb).1;split
        ·exact qmF
        ·split
         ·exact qmG
         ·exact qmG
def ep (L:List Tok) (E:Nat):Option Res:=ak L E (8*L.length+6) 1 0
theorem ja (L:List Tok) (E:Nat):∃x,ep L E=ZV x/\∀t q,x=.ok t q->q<=L.length:=by
 obtain ⟨x,hx,h⟩:=(wK L E (8*L.length+6)).line 1 0 qoq qoq qe qoq;exact ⟨x,hx,fun t q e=>(h t q e).2⟩
mutual
def KVc (w:Z3) (P:Nat->Prop):Tr->Option Addr->Nat->Prop
 |.mk _ _ _ _ _ _ _ ks,A,cap=>ks.length<=cap/\(ks=[]\/∃g o,A=ZV ⟨g,o,ZU⟩/\P g/\g<w.heap.size/\KLc w P ks g o)
def KLc (w:Z3) (P:Nat->Prop):List Tr->Nat->Nat->Prop
 |[],_,_=>True
 |t::ts,g,o=>(∃A cap,At8 w g o t A cap/\KVc w P t A cap)/\KLc w P ts g (o+8)
end
mutual
theorem KVc.kv {w:Z3} {P:Nat->Prop}:∀{t:Tr} {A:Option Addr} {cap:Nat},KVc w P t A cap->KV w P t A
 |.mk _ _ _ _ _ _ _ ks,A,cap,h=>by
  rw [KVc] at h;rw [KV];rcases h.2 with h|⟨g,o,rfl,hp,hl,h⟩
  ·exact .inl h
  ·exact .inr ⟨g,o,rfl,hp,hl,KLc.kl h⟩
theorem KLc.kl {w:Z3} {P:Nat->Prop}:∀{ks:List Tr} {g o:Nat},KLc w P ks g o->KL w P ks g o
 |[],_,_,_=>by rw [KL];trivial
 |t::ts,g,o,h=>by
  rw [KLc] at h;rw [KL];obtain ⟨⟨A,cap,h8,hv⟩,hl⟩:=h;exact ⟨⟨A,cap,h8,hv.kv⟩,KLc.kl hl⟩
end
mutual
theorem KVc.kept {w w':Z3} {P Q:Nat->Prop} (hk:Kept w w' P) (hq:∀g,P g->Q g):∀{t:Tr} {A:Option Addr} {cap:Nat},KVc w P t A cap->KVc w' Q t A cap
 |.mk _ _ _ _ _ _ _ ks,A,cap,h=>by
  rw [KVc] at h ⊢;refine ⟨h.1,?_⟩;rcases h.2 with h|⟨g,o,rfl,hp,hl,h⟩
  ·exact .inl h
  ·exact .inr ⟨g,o,rfl,hq g hp,Nat.lt_of_lt_of_le hl hk.size,KLc.kept hk hq hp h⟩
theorem KLc.kept {w w':Z3} {P Q:Nat->Prop} (hk:Kept w w' P) (hq:∀g,P g->Q g):∀{ks:List Tr} {g o:Nat},P g->KLc w P ks g o->KLc w' Q ks g o
 |[],_,_,_,_=>by rw [KLc];trivial
 |t::ts,g,o,hp,h=>by
  rw [KLc] at h ⊢;obtain ⟨⟨A,cap,h8,hv⟩,hl⟩:=h;exact ⟨⟨A,cap,h8.kept hk hp,KVc.kept hk hq hv⟩,KLc.kept hk hq hp hl⟩
end
theorem KVc.below {w:Z3} {t:Tr} {A:Option Addr} {cap:Nat} (h:KVc w P t A cap) (hb:Z2 w.heap.size w w'):KVc w' (fun _=>True) t A cap:=h.kept (Kept.of_below hb) fun _ _=>trivial
theorem KLc.at {w:Z3}:∀{ks:List Tr} {g o:Nat},KLc w P ks g o->∀{i:Nat} {t:Tr},ks[i]? =ZV t->∃A cap,At8 w g (o+8*i) t A cap/\KVc w P t A cap
 |[],_,_,_,i,t,hi=>by simp at hi
 |u::us,g,o,h,i,t,hi=>by
  rw [KLc] at h;exact qjp
theorem KLc.of {w:Z3} {P:Nat->Prop}:∀{ks:List Tr} {g o:Nat},(∀(i:Nat) (t:Tr),ks[i]? =ZV t->∃A cap,At8 w g (o+8*i) t A cap/\KVc w P t A cap)->KLc w P ks g o
 |[],_,_,_=>by rw [KLc];trivial
 |t::ts,g,o,h=>by
  rw [KLc];refine ⟨?_,KLc.of fun i u hu=>?_⟩
  ·have:=h 0 t qns
   simpa using this
  ·have:=h (i+1) u qqG
   rwa [show o+8*(i+1)=o+8+8*i from by omega] at this
theorem KVc.mk' {w:Z3} {t:Tr} {A:Option Addr} {cap:Nat} (hc:t.kZ.length<=cap) (h:t.kZ=[]\/∃g o,A=ZV ⟨g,o,ZU⟩/\P g/\g<w.heap.size/\KLc w P t.kZ g o):KVc w P t A cap:=by
 cases t;rw [KVc];exact ⟨hc,h⟩
theorem KVc.cap {w:Z3} {t:Tr} {A:Option Addr} {cap:Nat} (h:KVc w P t A cap):t.kZ.length<=cap:=by
 cases t;rw [KVc] at h;exact h.1
theorem KVc.kidAt {w:Z3} {t u:Tr} {cap:Nat} (h:KVc w P t (ZV ⟨g,o,ZU⟩) cap) (hb:Z2 w.heap.size w wr) (hi:t.kZ[i]? =ZV u):
 g<w.heap.size/\∃A ca,At8 wr g (o+i*8) u A ca/\KVc wr (fun _=>True) u A ca:=by
 obtain ⟨k,n,c,r,d,s,wd,ks⟩:=t;rw [KVc] at h;rcases h.2 with h|⟨g',o',he,hp,hl,h⟩
 ·have hi:ks[i]? =ZV u:=hi
  rw [h] at hi;simp at hi
 ·simp at he
  obtain ⟨rfl,rfl⟩:=he;obtain ⟨A,ca,h8,hk⟩:=h.at hi;rw [Nat.mul_comm] at h8;exact ⟨hl,A,ca,h8.kept (P:=fun _=>True) (Kept.of_below hb) trivial,hk.below hb⟩
mutual
theorem KVc.imp {w:Z3} {P Q:Nat->Prop} (h:∀g,P g->Q g):∀{t:Tr} {A:Option Addr} {cap:Nat},KVc w P t A cap->KVc w Q t A cap
 |.mk _ _ _ _ _ _ _ ks,A,cap,hk=>by
  rw [KVc] at hk ⊢;refine ⟨hk.1,?_⟩;rcases hk.2 with hk|⟨g,o,e,hp,hl,hk⟩
  ·exact .inl hk
  ·exact .inr ⟨g,o,e,h g hp,hl,KLc.imp h hk⟩
theorem KLc.imp {w:Z3} {P Q:Nat->Prop} (h:∀g,P g->Q g):∀{ks:List Tr} {g o:Nat},KLc w P ks g o->KLc w Q ks g o
 |[],_,_,_=>by rw [KLc];trivial
 |t::ts,g,o,hk=>by
  rw [KLc] at hk ⊢;obtain ⟨⟨A,cap,h8,hv⟩,hl⟩:=hk;exact ⟨⟨A,cap,h8,KVc.imp h hv⟩,KLc.imp h hl⟩
end
mutual
theorem KVc.low {w:Z3} {P:Nat->Prop}:∀{t:Tr} {A:Option Addr} {cap:Nat},KVc w P t A cap->KVc w (fun b=>P b/\b<w.heap.size) t A cap
 |.mk _ _ _ _ _ _ _ ks,A,cap,hk=>by
  rw [KVc] at hk ⊢;refine ⟨hk.1,?_⟩;rcases hk.2 with hk|⟨g,o,e,hp,hl,hk⟩
  ·exact .inl hk
  ·exact .inr ⟨g,o,e,⟨hp,hl⟩,hl,KLc.low hk⟩
theorem KLc.low {w:Z3} {P:Nat->Prop}:∀{ks:List Tr} {g o:Nat},KLc w P ks g o->KLc w (fun b=>P b/\b<w.heap.size) ks g o
 |[],_,_,_=>by rw [KLc];trivial
 |t::ts,g,o,hk=>by
  rw [KLc] at hk ⊢;obtain ⟨⟨A,cap,h8,hv⟩,hl⟩:=hk;exact ⟨⟨A,cap,h8,KVc.low hv⟩,KLc.low hl⟩
end
theorem KLc.stay {w:Z3} (hk:Kept w w' P) {ks:List Tr} (hp:P g) (h:KLc w P ks g o):KLc w' P ks g o:=KLc.kept hk (fun _ h=>h) hp h
theorem KVc.stay {w:Z3} {t:Tr} {A:Option Addr} {cap:Nat} (h:KVc w P t A cap) (hk:Kept w w' P):KVc w' P t A cap:=h.kept hk fun _ h=>h
theorem KVc.kZ {w:Z3} {t:Tr} {A:Option Addr} {cap:Nat} (h:KVc w P t A cap):t.kZ=[]\/∃g o,A=ZV ⟨g,o,ZU⟩/\P g/\g<w.heap.size/\KLc w P t.kZ g o:=by
 cases t;rw [KVc] at h;exact h.2
mutual
theorem KV.imp {w:Z3} {P Q:Nat->Prop} (h:∀g,P g->Q g):∀{t:Tr} {A:Option Addr},KV w P t A->KV w Q t A
 |.mk _ _ _ _ _ _ _ ks,A,hk=>by
  rw [KV] at hk ⊢;rcases hk with hk|⟨g,o,e,hp,hl,hk⟩
  ·exact .inl hk
  ·exact .inr ⟨g,o,e,h g hp,hl,KL.imp h hk⟩
theorem KL.imp {w:Z3} {P Q:Nat->Prop} (h:∀g,P g->Q g):∀{ks:List Tr} {g o:Nat},KL w P ks g o->KL w Q ks g o
 |[],_,_,_=>by rw [KL];trivial
 |t::ts,g,o,hk=>by
  rw [KL] at hk ⊢;obtain ⟨⟨A,cap,h8,hv⟩,hl⟩:=hk;exact ⟨⟨A,cap,h8,KV.imp h hv⟩,KL.imp h hl⟩
end
structure V8 where
 n0:Int
 n1:Int
 n2:Int
 n3:Int
 n4:Int
 n5:Int
 s:ByteArray
 A:Option Addr
 len:Nat
 cap:Nat
def V8.val (x:V8):Value:=.agg #[ZZ ZY x.n0,ZZ ZY x.n1,ZZ ZY x.n2,ZZ ZY x.n3,ZZ ZY x.n4,ZZ ZY x.n5,.string x.s,Zw x.A x.len x.cap]
def tv8 (t:Tr) (A:Option Addr) (cap:Nat):V8:=⟨t.kY,t.num,t.c1,t.r1,t.c2,t.r2,⟨t.wZ.toArray⟩,A,t.kZ.length,cap⟩
theorem Kept.set {a w:Z3} (h:Kept a w P) (hg:¬P g\/a.heap.size<=g) (o:Nat) (u:Value):Kept a (w.setCell ⟨g,o,ZU⟩ u) P:=by
 have hb:=(Below.refl 0 w).setCell (p:=⟨g,o,ZU⟩) qe u;refine ⟨Nat.le_trans h.size hb.size,fun k hp hk=>?_⟩;rw [Below.heap_setCell w ⟨g,o,ZU⟩ u k (by rintro rfl;rcases hg with hg|hg;exact hg hp;exact absurd hk (Nat.not_lt.2 hg))];exact h.block k hp hk
theorem Kept.set1 {a w:Z3} (h:Kept a w (fun b=>B<b)) (hg:g<=B) (o:Nat) (u:Value):Kept a (w.setCell ⟨g,o,ZU⟩ u) (fun b=>B<b):=h.set (.inl fun hh=>Nat.not_lt.2 hg hh) o u
theorem Kept.set2 {a w:Z3} (h:Kept a w (fun b=>B<b/\b≠O)) (hg:g<=B) (o:Nat) (u:Value):Kept a (w.setCell ⟨g,o,ZU⟩ u) (fun b=>B<b/\b≠O):=h.set (.inl fun hh=>Nat.not_lt.2 hg hh.1) o u
theorem Kept.set2o {a w:Z3} (h:Kept a w (fun b=>B<b/\b≠O)) (o:Nat) (u:Value):Kept a (w.setCell ⟨O,o,ZU⟩ u) (fun b=>B<b/\b≠O):=h.set (.inl fun hh=>hh.2 rfl) o u
theorem Kept.setNew {a w:Z3} (h:Kept a w P) (hg:a.heap.size<=g) (o:Nat) (u:Value):Kept a (w.setCell ⟨g,o,ZU⟩ u) P:=h.set (.inr hg) o u
theorem Kept.alloc {a w:Z3} (h:Kept a w P) (o:Obj):Kept a (w.alloc o) P:=h.trans (Kept.of_below (qb.alloc qd o))
theorem Kept.drew {a w:Z3} (h:Kept a w P):Kept a w.drew P:=⟨h.size,h.block⟩
theorem Kept.drewN {a w:Z3} (h:Kept a w P) (n:Nat):Kept a (w.drewN n) P:=h.trans (Kept.of_below (below_drewN qb n))
theorem Kept.but {a w:Z3} (h:Kept a w P) (hb:But R w w') (hR:¬P R):Kept a w' P:=
 h.trans ⟨hb.size,fun g hp hl=>hb.block g hl fun e=>hR (e▸hp)⟩
def TV (w:Z3) (P:Nat->Prop) (x:V8):Option Tr->Prop
 |some t=>∃A cap,x=tv8 t A cap/\KVc w P t A cap
 |none=>True
theorem TV.kept {w:Z3} {x:V8} {ot:Option Tr} (h:TV w P x ot) (hb:Kept w w' P):TV w' P x ot:=by
 cases ot with
 |none=>trivial
 |some t=>obtain ⟨A,cap,hx,hk⟩:=h;exact ⟨A,cap,hx,hk.stay hb⟩
theorem TV.imp {w:Z3} {Q:Nat->Prop} {x:V8} {ot:Option Tr} (h:TV w P x ot) (hq:∀g,P g->Q g):TV w Q x ot:=by
 cases ot with
 |none=>trivial
 |some t=>obtain ⟨A,cap,hx,hk⟩:=h;exact ⟨A,cap,hx,hk.imp hq⟩
theorem bi {w:Z3} {b:Nat} (h:w.cell? ⟨b,o,ZU⟩=ZV v) (hg:g≠b) (o':Nat) (u:Value):(w.setCell ⟨g,o',ZU⟩ u).cell? ⟨b,o,ZU⟩=ZV v:=by
 rw [World.cell?_setCell_far w ⟨g,o',ZU⟩ ⟨b,o,ZU⟩ u hg];exact h
theorem ai {w:Z3} {b:Nat} (h:w.cell? ⟨b,o,ZU⟩=ZV v) (ob:Obj):(w.alloc ob).cell? ⟨b,o,ZU⟩=ZV v:=aa (qb.alloc qd ob) h
theorem sM {w:Z3} {b:Nat} (h:w.cell? ⟨b,o,ZU⟩=ZV v):w.drew.cell? ⟨b,o,ZU⟩=ZV v:=h
theorem Ik {w:Z3} {b:Nat} (h:w.cell? ⟨b,o,ZU⟩=ZV v) (n:Nat):(w.drewN n).cell? ⟨b,o,ZU⟩=ZV v:=h
theorem di {w:Z3} {b:Nat} (h:w.frozen? ⟨b,o,ZU⟩=Zz) (hg:g≠b) (o':Nat) (u:Value):(w.setCell ⟨g,o',ZU⟩ u).frozen? ⟨b,o,ZU⟩=Zz:=by
 rw [World.frozen?_of_block (w:=w) (a:=⟨b,o,ZU⟩) (Below.heap_setCell w ⟨g,o',ZU⟩ u b fun e=>hg e.symm)];exact h
theorem aF {w:Z3} {b:Nat} (h:w.frozen? ⟨b,o,ZU⟩=Zz) (hb:b<w.heap.size) (ob:Obj):(w.alloc ob).frozen? ⟨b,o,ZU⟩=Zz:=ae (qb.alloc qd ob) hb h
theorem se {w:Z3} {b:Nat} (h:w.frozen? ⟨b,o,ZU⟩=Zz):w.drew.frozen? ⟨b,o,ZU⟩=Zz:=h
theorem Jg {w:Z3} {b:Nat} (h:w.frozen? ⟨b,o,ZU⟩=Zz) (n:Nat):(w.drewN n).frozen? ⟨b,o,ZU⟩=Zz:=h
def oM (w:Z3) (g o:Nat) (x:V8):Prop:=
 w.cell? ⟨g,o,ZU⟩=ZV (ZZ ZY x.n0)/\w.cell? ⟨g,o+1,ZU⟩=ZV (ZZ ZY x.n1)/\w.cell? ⟨g,o+2,ZU⟩=ZV (ZZ ZY x.n2)/\w.cell? ⟨g,o+3,ZU⟩=ZV (ZZ ZY x.n3)/\
 w.cell? ⟨g,o+4,ZU⟩=ZV (ZZ ZY x.n4)/\w.cell? ⟨g,o+5,ZU⟩=ZV (ZZ ZY x.n5)/\w.cell? ⟨g,o+6,ZU⟩=ZV (.string x.s)/\w.cell? ⟨g,o+7,ZU⟩=ZV (Zw x.A x.len x.cap)
theorem TV.node {w:Z3} {cap:Nat} (k:Int) (wd:List UInt8) (xs:List (V8×Tr)) (hG:P G) (hl:G<w.heap.size)
 (h:∀(i:Nat) (x:V8) (t:Tr),xs[i]? =ZV (x,t)->oM w G (8*i) x/\TV w P x (ZV t)) (hcap:xs.length<=cap:=by first|exact qd|assumption|omega|(simp;done)):
 TV w P ⟨k,0,0,0,0,0,⟨wd.toArray⟩,ZV ⟨G,0,ZU⟩,xs.length,cap⟩ (ZV (.mk k 0 0 0 0 0 wd (xs.map Prod.snd))):=by
 refine ⟨ZV ⟨G,0,ZU⟩,cap,qpT,KVc.mk' (by rw [show (Tr.mk k 0 0 0 0 0 wd (xs.map Prod.snd)).kZ=xs.map Prod.snd from rfl,List.length_map];exact hcap) (.inr ⟨G,0,rfl,hG,hl,KLc.of fun i t hi=>?_⟩)⟩;have hi':(xs.map Prod.snd)[i]? =ZV t:=hi;rw [List.getElem?_map] at hi';cases hx:xs[i]? with
 |none=>rw [hx] at hi';cases hi'
 |some xt=>
  obtain ⟨x,t'⟩:=xt;rw [hx] at hi';obtain rfl:t'=t:=Option.some.inj hi';obtain ⟨h8,A,cap',hxv,hk⟩:=h i x t' hx;subst hxv;refine ⟨A,cap',?_,hk⟩;rw [Nat.zero_add];exact h8
theorem TV.node1 {w:Z3} {cap:Nat} (k:Int) (wd:List UInt8) (x:V8) (ot:Option Tr) (hG:P G) (hl:G<w.heap.size) (h8:oM w G 0 x) (hx:TV w P x ot) (hcap:1<=cap:=by first|exact qd|assumption|omega|(simp;done)):
 TV w P ⟨k,0,0,0,0,0,⟨wd.toArray⟩,ZV ⟨G,0,ZU⟩,1,cap⟩ (ot.map fun t=>.mk k 0 0 0 0 0 wd [t]):=by
 cases ot with
 |none=>trivial
 |some t=>
  refine TV.node k wd [(x,t)] hG hl (fun i y u hi=>?_) hcap;match i,hi with
  |0,hi=>exact qmH
theorem ka (h:aB L p=Zy):∃t,L[p]? =ZV t/\(t.kY=2\/t.kY=3):=by
 unfold aB at h;split at h
 ·rename_i t ht
  refine ⟨t,ht,?_⟩;simpa using h
 ·cases h
theorem iB {t:Tok} (h:L[p]? =ZV t):whr L E p=t.frm:=by unfold whr;rw [h]
theorem iA (h:L[p]? =ZU):whr L E p=E:=by unfold whr;rw [h]
theorem mg (h:L[p]? =ZU):aB L p=Zz:=by unfold aB;rw [h]
def la (L:List Tok) (E:Nat) (a:Tok) (q:Nat):Option Res:=match L[q]? with
 |none=>ZV (.bad E)
 |some b=>if aB L q=Zz then ZV (.bad b.frm) else if a.kY=3\/b.kY=3 then ZV (.ok bK (q+1)) else ZV (.ok (fg (min a.col b.col) (min a.row b.row) (max a.col b.col) (max a.row b.row)) (q+1))
theorem TV.node2 {w:Z3} {cap:Nat} (k:Int) (wd:List UInt8) (x y:V8) (t:Tr) (ot:Option Tr) (hG:P G) (hl:G<w.heap.size) (h8:oM w G 0 x) (k8:oM w G 8 y) (hx:TV w P x (ZV t)) (hy:TV w P y ot) (hcap:2<=cap:=by first|exact qd|assumption|omega|(simp;done)):
 TV w P ⟨k,0,0,0,0,0,⟨wd.toArray⟩,ZV ⟨G,0,ZU⟩,2,cap⟩ (ot.map fun u=>.mk k 0 0 0 0 0 wd [t,u]):=by
 cases ot with
 |none=>trivial
 |some u=>
  refine TV.node k wd [(x,t),(y,u)] hG hl (fun i z v hi=>?_) hcap;match i,hi with
  |0,hi=>exact qmH
  |1,hi=>exact qmI
mutual
theorem KV.lowT {w:Z3} {P:Nat->Prop}:∀{t:Tr} {A:Option Addr},KV w P t A->KV w (fun b=>P b/\b<w.heap.size) t A
 |.mk _ _ _ _ _ _ _ ks,A,hk=>by
  rw [KV] at hk ⊢;rcases hk with hk|⟨g,o,e,hp,hl,hk⟩
  ·exact .inl hk
  ·exact .inr ⟨g,o,e,⟨hp,hl⟩,hl,KL.lowT hk⟩
theorem KL.lowT {w:Z3} {P:Nat->Prop}:∀{ks:List Tr} {g o:Nat},KL w P ks g o->KL w (fun b=>P b/\b<w.heap.size) ks g o
 |[],_,_,_=>by rw [KL];trivial
 |t::ts,g,o,hk=>by
  rw [KL] at hk ⊢;obtain ⟨⟨A,cap,h8,hv⟩,hl⟩:=hk;exact ⟨⟨A,cap,h8,KV.lowT hv⟩,KL.lowT hl⟩
end
theorem KV.low {w:Z3}:∀{t:Tr} {A:Option Addr},KV w P t A->KV w (fun b=>P b/\b<w.heap.size) t A:=by
 intro t A h;exact KV.lowT h
theorem TV.fresh {w:Z3} {x:V8} {ot:Option Tr} (h:TV w P x ot):TV w (fun b=>P b/\b≠w.heap.size) x ot:=by
 cases ot with
 |none=>trivial
 |some t=>obtain ⟨A,cap,hx,hk⟩:=h;exact ⟨A,cap,hx,hk.low.imp fun b hb=>⟨hb.1,Nat.ne_of_lt hb.2⟩⟩
theorem dT {w:Z3} {p:Addr} (h:w.cell? p=ZV v) {ob:Obj}:(w.alloc ob).cell? p=ZV v:=by
 rw [(qb.alloc qd ob).cell (Lib.lt_of_cell h)];exact h
theorem But.kept' {w:Z3} (h:But R w w') (hR:R<B):Kept w w' (fun b=>B<=b):=⟨h.size,fun g hp hl=>h.block g hl fun e=>by have:B<=g:=hp;omega⟩
theorem zCs {w:Z3} {b:Nat} (h:w.cell? ⟨b,o,ZU⟩=ZV v) (hg:g≠b) (o':Nat) (u:Value):(w.setCell ⟨g,o',ZU⟩ u).cell? ⟨b,o,ZU⟩=ZV v:=bi h hg o' u
theorem zCa {w:Z3} {b:Nat} (h:w.cell? ⟨b,o,ZU⟩=ZV v) (ob:Obj):(w.alloc ob).cell? ⟨b,o,ZU⟩=ZV v:=ai h ob
theorem zCd {w:Z3} {b:Nat} (h:w.cell? ⟨b,o,ZU⟩=ZV v):w.drew.cell? ⟨b,o,ZU⟩=ZV v:=sM h
theorem zCn {w:Z3} {b:Nat} (h:w.cell? ⟨b,o,ZU⟩=ZV v) (n:Nat):(w.drewN n).cell? ⟨b,o,ZU⟩=ZV v:=Ik h n
theorem zFs {w:Z3} {b:Nat} (h:w.frozen? ⟨b,o,ZU⟩=Zz) (hg:g≠b) (o':Nat) (u:Value):(w.setCell ⟨g,o',ZU⟩ u).frozen? ⟨b,o,ZU⟩=Zz:=di h hg o' u
theorem zFa {w:Z3} {b:Nat} (h:w.frozen? ⟨b,o,ZU⟩=Zz) (hb:b<w.heap.size) (ob:Obj):(w.alloc ob).frozen? ⟨b,o,ZU⟩=Zz:=aF h hb ob
theorem zFd {w:Z3} {b:Nat} (h:w.frozen? ⟨b,o,ZU⟩=Zz):w.drew.frozen? ⟨b,o,ZU⟩=Zz:=se h
theorem zFn {w:Z3} {b:Nat} (h:w.frozen? ⟨b,o,ZU⟩=Zz) (n:Nat):(w.drewN n).frozen? ⟨b,o,ZU⟩=Zz:=Jg h n
theorem Lb {t:Tok} (h:L[p]? =ZV t) (hk:t.kY=5):ag L p t.text=Zy:=by
 unfold ag;rw [h];simp [hk]
def mkT (s:List UInt8):Tok:=⟨5,0,0,0,s,0⟩
def OA (n:Int):Tok:=⟨1,n,0,0,[],0⟩
def rp (c r:Int):Tok:=⟨2,0,c,r,[],0⟩
def ME:Tok:=⟨3,0,0,0,[],0⟩
def kp (w:List UInt8):Tok:=⟨4,0,0,0,w,0⟩
def dK (L:List Tok) (p:Nat) (ts:List Tok):Prop:=∀i t,ts[i]? =ZV t->∃f,L[p+i]? =ZV { t with frm:=f }
theorem dK.cons {t:Tok} {ts:List Tok} (h:dK L p (t::ts)):(∃f,L[p]? =ZV { t with frm:=f })/\dK L (p+1) ts:=
 ⟨h 0 t rfl,fun i u hi=>by have:=h (i+1) u qph;rwa [show p+(i+1)=p+1+i from by omega] at this⟩
theorem dK.right {a b:List Tok} (h:dK L p (a++b)):dK L (p+a.length) b:=fun i t hi=>by
 have:=h (a.length+i) t (by rw [List.getElem?_append_right qoq];simpa using hi);rwa [<-Nat.add_assoc] at this
theorem dK.mark {s:List UInt8} {ts:List Tok} (h:dK L p (mkT s::ts)):ag L p s=Zy:=by
 obtain ⟨f,hf⟩:=h.cons.1;exact Lb hf rfl
inductive fS where
 |tree|wi (m:Nat)|item (corners:Bool)|its (corners:Bool)
inductive Pr:fS->Tr->List UInt8->List Tok->Prop
 |num {n:Nat}:n<=9223372036854775807->Pr .tree (ik n) (Lib.decDigits n) [OA n]
 |read {c r:Int}:rightB c r=Zy->Pr .tree (fG c r) (am c r) [rp c r]
 |bad:Pr .tree bK [35,82,69,70] [ME]
 |neg {a:Tr} {s:List UInt8} {ts:List Tok}:Pr (.wi 4) a s ts->Pr .tree (jM a) (45::s) (mkT [45]::ts)
 |op {w sa sb:List UInt8} {a b:Tr} {ta tb:List Tok}:1<=lvl w->Pr (.wi (lvl w)) a sa ta->Pr (.wi (lvl w+1)) b sb tb->Pr .tree (opT w a b) (sa++(w++sb)) (ta++mkT w::tb)
 |plain {m:Nat} {t:Tr} {s:List UInt8} {ts:List Tok}:Pr .tree t s ts->(t.kY=4->m<=lvl t.wZ)->Pr (.wi m) t s ts
 |brk {m:Nat} {t:Tr} {s:List UInt8} {ts:List Tok}:Pr .tree t s ts->t.kY=4->lvl t.wZ<m->Pr (.wi m) t (40::(s++[41])) (mkT [40]::(ts++[mkT [41]]))
 |cif {a b c:Tr} {sa sb sc:List UInt8} {ta tb tc:List Tok}:Pr .tree a sa ta->Pr .tree b sb tb->Pr .tree c sc tc->
   Pr .tree (ba [73,70] [a,b,c]) ([73,70,40]++(sa++44::(sb++44::(sc++[41])))) (kp [73,70]::mkT [40]::(ta++mkT [44]::(tb++mkT [44]::(tc++[mkT [41]]))))
 |call {w s:List UInt8} {ks:List Tr} {ts:List Tok}:(w=[83,85,77]\/w=[77,73,78]\/w=[77,65,88]\/w=[67,79,85,78,84])->Pr (.its (w==[67,79,85,78,84])) (ba [] ks) s ts->Pr .tree (ba w ks) (w++40::s) (kp w::mkT [40]::ts)
 |itT {t:Tr} {s:List UInt8} {ts:List Tok}:Pr .tree t s ts->Pr (.item Zz) t s ts
 |itBad:Pr (.item Zy) bK [35,82,69,70] [ME]
 |itSpan {k:Bool} {c r d s:Int}:rightB c r=Zy->rightB d s=Zy->c<=d->r<=s->Pr (.item k) (fg c r d s) (am c r++58::am d s) [rp c r,mkT [58],rp d s]
 |last {k:Bool} {t:Tr} {s:List UInt8} {ts:List Tok}:Pr (.item k) t s ts->Pr (.its k) (ba [] [t]) (s++[41]) (ts++[mkT [41]])
 |more {k:Bool} {t:Tr} {ks:List Tr} {s s':List UInt8} {ts ts':List Tok}:Pr (.item k) t s ts->Pr (.its k) (ba [] ks) s' ts'->Pr (.its k) (ba [] (t::ks)) (s++44::s') (ts++mkT [44]::ts')
theorem rP (w:List UInt8):lvl w<=3:=by unfold lvl;split<;>(try split)<;>(try split)<;>omega
section
open Go.Lib
theorem fK {w:List UInt8} (h:1<=lvl w):w=[60]\/w=[60,61]\/w=[61]\/w=[60,62]\/w=[62,61]\/w=[62]\/w=[43]\/w=[45]\/w=[42]\/w=[47]:=by
 unfold lvl at h;split at h
 ·rename_i e;rcases e with e|e|e|e|e|e<;>simp [e]
 ·split at h
  ·rename_i e;rcases e with e|e<;>simp [e]
  ·split at h
   ·rename_i e;rcases e with e|e<;>simp [e]
   ·omega
def Ex (md:fS) (t:Tr):Prop:=∃s ts,Pr md t s ts
theorem Ex.wi {t:Tr} (h:Ex .tree t) (m:Nat):Ex (.wi m) t:=by
 obtain ⟨s,ts,h⟩:=h;by_cases hk:t.kY=4
 ·by_cases hl:lvl t.wZ<m
  ·exact ⟨_,_,.brk h hk hl⟩
  ·exact ⟨_,_,.plain h fun _=>by omega⟩
 ·exact ⟨_,_,.plain h fun e=>absurd e hk⟩
theorem Ex.op {w:List UInt8} {a b:Tr} (hw:1<=lvl w) (ha:Ex .tree a) (hb:Ex .tree b):Ex .tree (opT w a b):=by
 obtain ⟨_,_,h1⟩:=ha.wi (lvl w);obtain ⟨_,_,h2⟩:=hb.wi (lvl w+1);exact ⟨_,_,.op hw h1 h2⟩
theorem Ex.neg {a:Tr} (ha:Ex .tree a):Ex .tree (jM a):=by
 obtain ⟨_,_,h1⟩:=ha.wi 4;exact ⟨_,_,.neg h1⟩
theorem wt {k:Bool}:∀(ks:List Tr),ks≠[]->(∀t∈ks,Ex (.item k) t)->Ex (.its k) (ba [] ks)
 |[],h,_=>absurd rfl h
 |[t],_,h=>by
  obtain ⟨_,_,h1⟩:=h t qns;exact ⟨_,_,.last h1⟩
 |t::u::ks,_,h=>by
  obtain ⟨_,_,h1⟩:=h t qns;obtain ⟨_,_,h2⟩:=wt (u::ks) qns fun x hx=>h x (by simp only [List.mem_cons] at hx ⊢;exact .inr hx)
  exact ⟨_,_,.more h1 h2⟩
structure uK (t:Tok):Prop where
 num:t.kY=1->∃n:Nat,t.num=(n:Int)/\n<=9223372036854775807
 place:t.kY=2->rightB t.col t.row=Zy
 wZ:t.kY=4->bP t.text=Zy
 kY:1<=t.kY/\t.kY<=5
def gx (L:List Tok):Prop:=∀(p:Nat) (t:Tok),L[p]? =ZV t->uK t
def eB (md:fS) (o:Option Res):Prop:=∀t q,o=ZV (.ok t q)->Ex md t
theorem eB.ok {md:fS} {t:Tr} {q:Nat} (h:Ex md t):eB md (ZV (.ok t q)):=fun _ _ e=>by cases e;exact h
theorem eB.bad {md:fS} {w:Nat}:eB md (ZV (.bad w)):=fun _ _ e=>by cases e
theorem eB.next {md md':fS} {a:Option Res} {f:Tr->Nat->Option Res} (h:eB md a) (hf:∀t q,Ex md t->eB md' (f t q)):eB md' (Res.next a f):=fun t q e=>by
 exact qkX
theorem eB.must {md:fS} {s:List UInt8} {f:Nat->Option Res} (hf:∀q,eB md (f q)):eB md (az L E p s f):=by
 unfold az;split
 ·exact hf _
 ·exact .bad
theorem rV {w:List UInt8} (h:bP w=Zy):w=[73,70]\/w=[83,85,77]\/w=[77,73,78]\/w=[77,65,88]\/w=[67,79,85,78,84]:=by
 unfold bP at h;simpa [or_assoc] using h
structure Ju (L:List Tok) (E k:Nat):Prop where
 line:∀lev p,1<=lev->eB .tree (ak L E k lev p)
 rest:∀lev out p,1<=lev->Ex .tree out->eB .tree (bC L E k lev out p)
 pref:∀p,eB .tree (bR L E k p)
 oper:∀p,eB .tree (ct L E k p)
 items:∀w acc p,bP w=Zy->w≠[73,70]->(∀t∈acc,Ex (.item (w==[67,79,85,78,84])) t)->eB .tree (bx L E k w acc p)
 item:∀c p,eB (.item c) (bg L E k c p)
theorem th {L:List Tok} (hL:gx L) (E:Nat):∀k,Ju L E k
 |0=>by
  exact qiW
 |k+1=>by
  have I:=th hL E k;constructor
  ·intro lev p h1
   simp only [ak];split
   ·exact I.pref p
   ·exact (I.line _ _ qoq).next fun t q ht=>I.rest lev t q h1 ht
  ·intro lev out p h1 ho
   simp only [bC];split
   ·rename_i hl
    refine (I.line _ _ qoq).next fun t q ht=>I.rest lev _ q h1 (Ex.op ?_ ho ht)
    have hlt:=lz hl h1;unfold aJ at hl;rw [List.getElem?_eq_getElem hlt] at hl;simp only at hl;split at hl
    ·simp only [List.getD_eq_getElem?_getD,List.getElem?_map,List.getElem?_eq_getElem hlt,Option.map_some,Option.getD_some]
     omega
    ·omega
   ·exact .ok ho
  ·intro p
   simp only [bR];split
   ·exact (I.pref _).next fun t q ht=>.ok ht.neg
   ·exact I.oper p
  ·intro p
   simp only [ct];split
   ·exact (I.line _ _ qoq).next fun t q ht=>.must fun _=>.ok ht
   ·split
    ·exact .bad
    ·rename_i t ht
     have G:=hL p t ht;split
     ·exact .bad
     ·split
      ·rename_i h1
       obtain ⟨n,hn,hle⟩:=G.num h1;rw [hn];exact .ok ⟨_,_,.num hle⟩
      ·split
       ·rename_i h2
        exact .ok ⟨_,_,.read (G.place h2)⟩
       ·split
        ·exact .ok ⟨_,_,.bad⟩
        ·have h4:t.kY=4:=by have:=G.kY;omega
         have hw:=G.wZ h4;refine .must fun q=>?_
         split
         ·refine (I.line _ _ qoq).next fun a q ha=>.must fun q=>(I.line _ _ qoq).next fun b q hb=>.must fun q=>(I.line _ _ qoq).next fun c q hc=>.must fun q=>.ok ?_
          obtain ⟨_,_,ha⟩:=ha;obtain ⟨_,_,hb⟩:=hb;obtain ⟨_,_,hc⟩:=hc;exact ⟨_,_,.cif ha hb hc⟩
         ·rename_i hn
          exact I.items t.text [] q hw hn fun x hx=>by cases hx
  ·intro w acc p hw hn ha
   simp only [bx];refine (I.item _ _).next fun t q ht=>?_
   have hall:∀x∈acc++[t],Ex (.item (w==[67,79,85,78,84])) x:=fun x hx=>by
    rcases List.mem_append.1 hx with h|h
    ·exact ha x h
    ·rw [List.mem_singleton.1 h];exact ht
   split
   ·exact I.items w _ _ hw hn hall
   ·refine .must fun _=>.ok ?_
    obtain ⟨_,_,h⟩:=wt (acc++[t]) qns hall;exact ⟨_,_,.call ((rV hw).resolve_left hn) h⟩
  ·intro c p
   simp only [bg];split
   ·rename_i h
    obtain ⟨rfl,_⟩:=h;intro t q e;obtain ⟨_,_,h⟩:=I.line 1 p qoq t q e;exact ⟨_,_,.itT h⟩
   ·rename_i hc
    have hB:Ex (.item c) bK:=qlX;split
    ·exact .bad
    ·rename_i a ha
     split
     ·exact .bad
     ·rename_i he
      split
      ·exact .ok hB
      ·refine .must fun q=>?_
       split
       ·exact .bad
       ·rename_i b hb
        split
        ·exact .bad
        ·rename_i he2
         split
         ·exact .ok hB
         ·rename_i h3
          unfold aB at he he2;rw [ha] at he;rw [hb] at he2;simp at he he2
          have h1:=(hL _ _ ha).place qoq;have h2:=(hL _ _ hb).place qoq;obtain ⟨a0,a1,a2,a3⟩:=(bp _ _).1 h1;obtain ⟨b0,b1,b2,b3⟩:=(bp _ _).1 h2;exact .ok ⟨_,_,.itSpan ((bp _ _).2 qoq) ((bp _ _).2 qoq) qoq qoq⟩
theorem J0 (hL:gx L) {t:Tr} {q:Nat} (h:ep L E=ZV (.ok t q)):Ex .tree t:=(th hL E _).line 1 0 qoq t q h
theorem Hn {n:Nat} {f:Nat->Bool} (h:(List.range n).find? f=ZV i):i<n:=List.mem_range.1 (List.mem_of_find?_eq_some h)
theorem LQ (h:jo l=ZV i):i<1024:=Hn (f:=fun i=>eL i==l) h
theorem yt (h:prE l=0):rightB (prC l) (prR l)=Zy:=by
 unfold prE at h;unfold prC prR;split at h
 ·rename_i hf
  rw [if_pos hf,if_pos hf];cases e:jo l with
  |none=>rw [e] at h;exact absurd h qnv
  |some i=>
   have hi:i<1024:=LQ e;show rightB (atC (i:Int)) (atR (i:Int))=Zy
   rw [jU i hi,jI i hi];exact (bp _ _).2 qoq
 ·exact absurd h qnv
theorem vw {n:Nat} {t:Tok} (h:aD l p=ZV (t,n)):uK t:=by
 unfold aD at h;split at h
 ·split at h
  ·rename_i u hu
   have h:=(Prod.mk.inj (Option.some.inj h)).1;subst h;refine ⟨fun _=>⟨u,rfl,?_⟩,fun e=>by simp at e,fun e=>by simp at e,qns⟩;unfold dX at hu;split at hu
   ·split at hu
    ·rename_i hle;cases hu;exact hle
    ·cases hu
   ·cases hu
  ·cases h
 ·split at h
  ·split at h
   ·rename_i hw
    have h:=(Prod.mk.inj (Option.some.inj h)).1;subst h;exact ⟨fun e=>by simp at e,fun e=>by simp at e,fun _=>hw,qns⟩
   ·split at h
    ·rename_i hp
     have hr:=yt hp;have h:=(Prod.mk.inj (Option.some.inj h)).1;subst h;exact ⟨fun e=>by simp at e,fun _=>by simp only;exact hr,fun e=>by simp at e,qns⟩
    ·split at h
     ·have h:=(Prod.mk.inj (Option.some.inj h)).1;subst h
      exact qko
     ·cases h
  ·split at h
   ·have h:=(Prod.mk.inj (Option.some.inj h)).1;subst h
    exact qko
   ·split at h
    ·cases h
    ·have h:=(Prod.mk.inj (Option.some.inj h)).1;subst h
     exact qko
theorem Jp {r:List UInt8} {ts:List Tok} (h:Lex r o ts):∀t∈ts,uK t:=by
 induction h with
 |nil=>intro t ht;cases ht
 |blank _ ih=>exact ih
 |tok _ _ ho _ ih=>
  intro t ht;rcases List.mem_cons.1 ht with rfl|ht
  ·have G:=vw ho
   exact ⟨G.num,G.place,G.wZ,G.kY⟩
  ·exact ih t ht
theorem wm (h:cF l=0) (hl:l.length<=200):gx (aE l):=fun _ t ht=>Jp (Dc h hl) t (List.mem_of_getElem? ht)
end
mutual
def aG:Tr->Nat
 |.mk _ _ _ _ _ _ _ ks=>aV ks+1
def aV:List Tr->Nat
 |[]=>0
 |t::ts=>max (aG t) (aV ts)
end
def txW (m:Nat) (t:Tr) (s:List UInt8):List UInt8:=if t.kY=4/\lvl t.wZ<m then 40::(s++[41]) else s
def txJ:List (List UInt8)->List UInt8
 |[]=>[41]
 |[s]=>s++[41]
 |s::t::r=>s++44::txJ (t::r)
mutual
def txT:Tr->List UInt8
 |.mk k n c r d s w ks=>
  if k=0 then Lib.decDigits n.toNat else if k=1 then am c r else if k=6 then am c r++58::am d s
  else if k=3 then 45::txW 4 (ks.getD 0 bK) ((txL ks).getD 0 [])
  else if k=4 then txW (lvl w) (ks.getD 0 bK) ((txL ks).getD 0 [])++(w++txW (lvl w+1) (ks.getD 1 bK) ((txL ks).getD 1 []))
  else if k=5 then w++40::txJ (txL ks) else [35,82,69,70]
def txL:List Tr->List (List UInt8)
 |[]=>[]
 |t::ts=>txT t::txL ts
end
theorem dU:txL []=[]:=by rw [txL]
theorem cx (t:Tr) (ts:List Tr):txL (t::ts)=txT t::txL ts:=by rw [txL]
theorem jF:∀{ks:List Tr} {i:Nat} {u:Tr},ks[i]? =ZV u->aG u<=aV ks
 |[],i,u,h=>by simp at h
 |t::ts,i,u,h=>by
  rw [aV];match i,h with
  |0,h=>simp at h;subst h;exact Nat.le_max_left _ _
  |i+1,h=>have:=jF (ks:=ts) (i:=i) qoA;exact Nat.le_trans this (Nat.le_max_right _ _)
theorem nh:∀(ks:List Tr) (u:Tr),aV (ks++[u])=max (aV ks) (aG u)
 |[],u=>by simp only [List.nil_append,aV];omega
 |t::ts,u=>by simp only [List.cons_append];rw [aV,aV,nh ts u];omega
theorem tM {ks:List Tr} {u:Tr} (h:ks[i]? =ZV u):aV (ks.take (i+1))=max (aV (ks.take i)) (aG u):=by
 rw [List.take_add_one,h];exact nh _ _
theorem ke:∀(ks:List Tr) (i:Nat),aV (ks.take i)<=aV ks
 |[],i=>by simp
 |t::ts,0=>by rw [List.take_zero,aV];exact qe
 |t::ts,i+1=>by
  rw [List.take_succ_cons,aV,aV];have:=ke ts i;omega
inductive Wid:Tr->Prop
 |mk {k n c r d s:Int} {w:List UInt8} {ks:List Tr}:ks.length<=maxLen->(∀t∈ks,Wid t)->Wid (.mk k n c r d s w ks)
theorem Wid.len {t:Tr} (h:Wid t):t.kZ.length<=maxLen:=by cases h with|mk h _=>exact h
theorem Wid.kid {t u:Tr} (h:Wid t) (hi:t.kZ[i]? =ZV u):Wid u:=by cases h with|mk _ h=>exact h u (List.mem_of_getElem? hi)
theorem gM (t:Tr):aG t=aV t.kZ+1:=by cases t;rw [aG];rfl
theorem KV.kidAt {w:Z3} {t u:Tr} (h:KV w P t (ZV ⟨g,o,ZU⟩)) (hb:Z2 w.heap.size w wr) (hi:t.kZ[i]? =ZV u):
 g<w.heap.size/\∃A cap,At8 wr g (o+i*8) u A cap/\KV wr (fun _=>True) u A:=by
 obtain ⟨_,hg,A,cap,h8,hk⟩:=h.kid hi;rw [Nat.mul_comm] at h8;exact ⟨hg,A,cap,h8.kept (P:=fun _=>True) (Kept.of_below hb) trivial,(hk.kept (Kept.of_below hb)).imp fun _ _=>trivial⟩
theorem Ca:prog.eqGuardType prog.depth 30=Zz:=by kernel_rfl
theorem pq:prog.stoodInHeld 30=Zz:=by kernel_rfl
theorem ov:prog.underlying 30=ZV (.struct (prog.fieldsOf 30)):=by kernel_rfl
theorem kL (op:BinOp) (X Y:Operand) (xs ys:Array Value) (W:Z3):(eqGuard op 30 X Y (.agg xs) (.agg ys)).run ZW W=.ok () W:=run_eqGuard_agg W op 30 X Y xs ys Ca
theorem Fh (a b c d a' b' c' d':Int) (W:Z3):(binOp .eql 30 (.agg #[ZZ ZY a,ZZ ZY b,ZZ ZY c,ZZ ZY d]) (.agg #[ZZ ZY a',ZZ ZY b',ZZ ZY c',ZZ ZY d'])).run ZW W
 =.ok (.bool (a==a'&&b==b'&&(c==c'&&d==d'))) W:=by
 rw [run_eql_struct,run_equalIn_agg W 9999 30 _ _ ov pq];by_cases h1:a=a'<;>by_cases h2:b=b'<;>by_cases h3:c=c'<;>by_cases h4:d=d'<;>simp [go_sem,h1,h2,h3,h4]
theorem tq (a b c d a' b' c' d':Int) (W:Z3):(binOp .neq 30 (.agg #[ZZ ZY a,ZZ ZY b,ZZ ZY c,ZZ ZY d]) (.agg #[ZZ ZY a',ZZ ZY b',ZZ ZY c',ZZ ZY d'])).run ZW W
 =.ok (.bool (!(a==a'&&b==b'&&(c==c'&&d==d')))) W:=by
 rw [run_neq_struct,run_equalIn_agg W 9999 30 _ _ ov pq];by_cases h1:a=a'<;>by_cases h2:b=b'<;>by_cases h3:c=c'<;>by_cases h4:d=d'<;>simp [go_sem,h1,h2,h3,h4]
section
open Go.Lib
def aR (t:Tr) (n:Nat):Bool:=match t with
 |.mk k num c r d s w ks=>(k==0 || num==0)&&((k==1 || k==6 || (c==0&&r==0&&d==0&&s==0))&&((k==4 || k==5 || w==[])&&ks.length==n))
mutual
def ay:Tr->Bool
 |.mk k n c r d s w ks=>
  if k=0 then aR (.mk k n c r d s w ks) 0&&decide (0<=n)
  else if k=1 then aR (.mk k n c r d s w ks) 0&&(rightB c r&&(c==d&&r==s))
  else if k=2 then aR (.mk k n c r d s w ks) 0
  else if k=6 then aR (.mk k n c r d s w ks) 0&&(rightB c r&&rightB d s&&decide (c<=d)&&decide (r<=s))
  else if k=3 then aR (.mk k n c r d s w ks) 1&&be ks Zz Zz
  else if k=4 then aR (.mk k n c r d s w ks) 2&&(be ks Zz Zz&&decide (1<=lvl w))
  else if k=5 then aR (.mk k n c r d s w ks) ks.length&&(be ks (w !=[73,70]) (w==[67,79,85,78,84])&&(if w=[73,70] then ks.length==3 else if w=[83,85,77]\/w=[77,73,78]\/w=[77,65,88]\/w=[67,79,85,78,84] then decide (0<ks.length) else Zz))
  else Zz
def be:List Tr->Bool->Bool->Bool
 |[],_,_=>Zy
 |t::ts,spans,corners=>(ay t&&((spans || t.kY !=6)&&(!corners || t.kY==6 || t.kY==2)))&&be ts spans corners
end
inductive Fit:Tr->Prop
 |mk {k n c r d s:Int} {w:List UInt8} {ks:List Tr}:n<=9223372036854775807->(∀t∈ks,Fit t)->Fit (.mk k n c r d s w ks)
theorem fs {ks:List Tr} {a b:Bool} (h:be ks a b=Zy):∀t∈ks,ay t=Zy/\(a=Zy\/t.kY≠6)/\(b=Zz\/t.kY=6\/t.kY=2):=by
 induction ks with
 |nil=>intro t ht;cases ht
 |cons u r ih=>
  rw [be] at h;simp only [Bool.and_eq_true,Bool.or_eq_true,Bool.not_eq_true',bne_iff_ne,beq_iff_eq] at h;obtain ⟨⟨h1,h2,h3⟩,h4⟩:=h;intro t ht;rcases List.mem_cons.1 ht with rfl|ht
  ·exact ⟨h1,h2,(by rcases h3 with (h3|h3)|h3;exact .inl h3;exact .inr (.inl h3);exact .inr (.inr h3))⟩
  ·exact ih h4 t ht
end
