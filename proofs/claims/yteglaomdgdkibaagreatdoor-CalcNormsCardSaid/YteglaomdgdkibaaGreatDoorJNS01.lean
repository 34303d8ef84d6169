import Derived.WalkKit
import Derived.Test.YteglaomdgdkibaaGreatDoorProg
import Derived.WalkSmall
import Derived.Lib.Hide
import Derived.Lib.AtoiErrMem
import Derived.Deep.CutRange
import Derived.OwnWalk
import Derived.Deep.Onto
import Derived.RowKit
import Derived.IntWalk
import Derived.WalkSpells
import Derived.WalkLawsBesides
import Derived.Lib.Atoi
import Derived.Lib.AtoiAll
import Derived.Lib.AtoiAllCases
import Derived.Lib.ItoaNum
import Derived.Lib.ItoaMem
import Derived.Laws.Strings
import Derived.Lib.ConvBytes
import Derived.Deep.RegionWith
import Derived.Test.YteglaomdgdkibaaGreatDoorJQNSP
import Derived.Test.YteglaomdgdkibaaGreatDoorJQNSW
set_option linter.all false
set_option maxHeartbeats 0
set_option maxRecDepth 99999
namespace Go.Proofs.YteglaomdgdkibaaGreatDoor
open Go.RowKit
open Value renaming int→ZZ,string→Zx,slice→Zw
open IntKind renaming i64→ZY
open Ending renaming returned→ZX
open RowKit renaming Below→Z2
open Go renaming World→Z3
open Tryz
open Tryz renaming prog→ZW
open Option renaming some→ZV,none→ZU
open Bool renaming false→Zz,true→Zy
variable {a b n:Int}{c d x y:Bool}{W w w' w1:World}{p:Addr}{v:Value}{cs:Array Value}{l:List UInt8}{s:ByteArray}
theorem aK {a b:Bool} (h:a=b):Ending.returned (.bool a)=ZX (.bool b):=by rw [h]
theorem fp (h:a=b):Ending.returned (ZZ ZY a)=ZX (ZZ ZY b):=by rw [h]
theorem yP (h:a=b):Ending.returned (.int .u64 a)=ZX (.int .u64 b):=by rw [h]
theorem gL {a b:ByteArray} (h:a=b):Ending.returned (.string a)=ZX (.string b):=by rw [h]
theorem fT (h:a=b) (k:c=d):Ending.returned (.tuple #[ZZ ZY a,.bool c])=ZX (.tuple #[ZZ ZY b,.bool d]):=by rw [h,k]
theorem gS (h:a=b/\c=d):Ending.returned (.tuple #[ZZ ZY a,.bool c])=ZX (.tuple #[ZZ ZY b,.bool d]):=by rw [h.1,h.2]
theorem aa (hb:Z2 W.heap.size W w1) (h:W.cell? p=ZV v):w1.cell? p=ZV v:=by
 rw [hb.cell (Lib.lt_of_cell h)];exact h
theorem ae (hb:Z2 W.heap.size W w1) (hp:p.block<W.heap.size) (h:W.frozen? p=Zz):w1.frozen? p=Zz:=by
 rw [hb.frozen hp];exact h

theorem af {T:TypeId} (hb:Z2 (W.alloc (.cells cs T)).heap.size (W.alloc (.cells cs T)) w1) (i:Nat) (h:cs[i]? =ZV v):w1.cell? ⟨W.heap.size,i,ZU⟩=ZV v:=
 aa hb (by rw [cell_of_row _ _ i cs T (0,0) (heap_alloc_new W _)];exact h)

theorem ah {T:TypeId} (hb:Z2 (W.alloc (.cells cs T)).heap.size (W.alloc (.cells cs T)) w1) (i:Nat):w1.frozen? ⟨W.heap.size,i,ZU⟩=Zz:=
 ae hb qns qnp
theorem lF {W0:Z3} (B:Z2 W0.heap.size W0 W) (b:Z2 W.heap.size W w1):Z2 W0.heap.size W0 w1:=B.trans (b.mono B.size)
theorem iv (h:Z2 w.heap.size w w') (row:Option Nat):w.grownBy w' row:=⟨h.os,h.tape,h.output,h.size,fun i hi _=>h.block i hi⟩
theorem dS {base:Nat} {e:TypeId} {size:Nat} {n:Nat} {xs:List Value} (h:w.ownsRow base e size v n xs) (hb:Z2 w.heap.size w w'):w'.ownsRow base e size v n xs:=
 h.kept (iv hb ZU) (by cases v.ownBlock<;>simp)
def CR (P:Prop):Prop:=P
theorem eh {P:Prop} (h:CR P):P:=h
theorem ek {P:Prop} (h:P):CR P:=h
def B64 (n:Int):Prop:= -9223372036854775808<=n/\n<=9223372036854775807
def inI (n:Int):Bool:=decide (-9223372036854775808<=n/\n<=9223372036854775807)
def ci (x:Bool) (n:Int):Int:=if x=Zy then n else 0

theorem iu (n:Int):inI n=Zy↔B64 n:=by unfold inI B64;simp
theorem Ky (n:Int):inI n=Zz↔¬B64 n:=by unfold inI B64;simp
theorem gF (h:x=Zy↔y=Zy):x=y:=by cases x<;>cases y<;>simp_all
theorem nI {m:Int} (hx:x=y) (h:y=Zy->n=m):ci x n=ci y m:=by
 subst hx;unfold ci;split
 ·exact h ‹_›
 ·rfl
theorem xg (n:Int):B64 (wrap64 n):=by unfold B64 wrap64;omega
theorem yN (h:B64 n):wrap64 n=n:=by unfold B64 at h;unfold wrap64;omega
theorem nQ (h:inI n=Zy):wrap64 n=n:=yN ((iu n).1 h)

theorem NQ (a b:Int) (ha:B64 a) (hb:B64 b):
 ((!decide (0<a) || !decide (0<b) || !decide (wrap64 (a+b)<0))&&(!decide (a<0) || !decide (b<0) || !decide (0<=wrap64 (a+b))))=inI (a+b):=by
 apply gF
 rw [iu];unfold B64 wrap64 at*;simp only [Bool.and_eq_true,Bool.or_eq_true,Bool.not_eq_true',decide_eq_false_iff_not];omega
theorem NH (a b:Int) (ha:B64 a) (hb:B64 b):
 ((!decide (0<=a) || !decide (b<0) || !decide (wrap64 (a - b)<0))&&(!decide (a<0) || !decide (0<b) || !decide (0<=wrap64 (a - b))))=inI (a - b):=by
 apply gF
 rw [iu];unfold B64 wrap64 at*;simp only [Bool.and_eq_true,Bool.or_eq_true,Bool.not_eq_true',decide_eq_false_iff_not];omega

theorem rg (c b:Int):c=b*(c.tdiv b)+c.tmod b/\(0<=c->0<=c.tmod b)/\(c<=0->c.tmod b<=0)/\(0<b-> -b<c.tmod b/\c.tmod b<b)/\(b<0->b<c.tmod b/\c.tmod b< -b):=by
 have h1:=Int.mul_tdiv_add_tmod c b;refine ⟨h1.symm,fun h=>Int.tmod_nonneg b h,fun h=>?_,fun h=>?_,fun h=>?_⟩
 ·have:=Int.tmod_nonneg (a:= -c) b qoq
  rw [Int.neg_tmod] at this;omega
 ·rcases Int.le_total 0 c with hc|hc
  ·have h2:=Int.tmod_nonneg b hc
   have h3:=Int.tmod_lt_of_pos c h;omega
  ·have h2:=Int.tmod_nonneg (a:= -c) b qoq
   have h3:=Int.tmod_lt_of_pos (-c) h;rw [Int.neg_tmod] at h2 h3;omega
 ·have hb':0< -b:=by omega
  rw [<-Int.tmod_neg c b];rcases Int.le_total 0 c with hc|hc
  ·have h2:=Int.tmod_nonneg (-b) hc
   have h3:=Int.tmod_lt_of_pos c hb';omega
  ·have h2:=Int.tmod_nonneg (a:= -c) (-b) qoq
   have h3:=Int.tmod_lt_of_pos (-c) hb';rw [Int.neg_tmod] at h2 h3;omega
theorem Kp (a b:Int) (ha:B64 a) (hb:B64 b) (h0:b≠0):(!(a== -9223372036854775808) || !(b== -1))=inI (a.tdiv b):=by
 obtain ⟨h1,h2,h3,h4,h5⟩:=rg a b;apply gF
 rw [iu];simp only [Bool.not_eq_true',Bool.or_eq_true,beq_eq_false_iff_ne];generalize a.tdiv b=q at*;generalize a.tmod b=r at*;unfold B64 at*;refine ⟨fun h=>?_,fun h=>?_⟩;rotate_left
 ·revert h
  intro hq;by_cases h:b= -1
  ·subst h;omega
  ·omega
 ·revert h
  intro hn;by_cases h:b= -1
  ·subst h;omega
  ·by_cases h':b=1
   ·subst h';omega
   ·rcases Int.lt_or_lt_of_ne h0 with hb0|hb0
    ·have:b<= -2:=by omega
     constructor
     ·apply Int.not_lt.1
      intro hc;have:=Int.mul_le_mul_of_nonpos_right (a:= -2) (b:=b) (c:=q) this qoq;omega
     ·apply Int.not_lt.1
      intro hc;have:=Int.mul_le_mul_of_nonneg_right (a:=b) (b:= -2) (c:=q) this qoq;omega
    ·have:2<=b:=by omega
     constructor
     ·apply Int.not_lt.1
      intro hc;have:=Int.mul_le_mul_of_nonpos_right (a:=b) (b:=2) (c:=q) this qoq;omega
     ·apply Int.not_lt.1
      intro hc;have:=Int.mul_le_mul_of_nonneg_right (a:=2) (b:=b) (c:=q) this qoq;omega
theorem Nr (a b:Int) (ha:B64 a) (hb:B64 b) (h0:b≠0):(inI ((wrap64 (a*b)).tdiv b)&&(ci (inI ((wrap64 (a*b)).tdiv b)) ((wrap64 (a*b)).tdiv b)==a))=inI (a*b):=by
 apply gF
 rw [Bool.and_eq_true,iu (a*b),beq_iff_eq];constructor
 ·rintro ⟨h1,h2⟩
  rw [h1] at h2;have h2':(wrap64 (a*b)).tdiv b=a:=h2;obtain ⟨g1,g2,g3,g4,g5⟩:=rg (wrap64 (a*b)) b;rw [h2'] at g1;rw [Int.mul_comm b a] at g1;have hw:=xg (a*b)
  have hm:∃k:Int,wrap64 (a*b)=a*b+18446744073709551616*k:=by
   refine ⟨-((a*b+9223372036854775808) / 18446744073709551616),?_⟩;unfold wrap64;have:=Int.emod_add_mul_ediv (a*b+9223372036854775808) 18446744073709551616;omega
  obtain ⟨k,hk⟩:=hm;generalize a*b=p at*;generalize wrap64 p=c at*;generalize c.tmod b=r at*;unfold B64 at*;omega
 ·intro h
  rw [yN h];have:(a*b).tdiv b=a:=Int.mul_tdiv_cancel a h0;rw [this];have hi:=(iu a).2 ha;exact ⟨hi,(by rw [hi];rfl)⟩

def aC (a:Int):Int:=if a<0 then -a else a
def sgn (m:Bool) (u:Int):Int:=if m=Zy then -u else u
theorem bF (h:a<0):aC a= -a:=by unfold aC;rw [if_pos h]
theorem bE (h:¬a<0):aC a=a:=by unfold aC;rw [if_neg h]
theorem gQ (u:Int):sgn Zz u=u:=rfl
theorem gI (u:Int):sgn Zy u= -u:=rfl
theorem ld (h:¬B64 n):(0:Int)=ci (inI n) n/\Zz=inI n:=by
 have:=(Ky n).2 h;rw [this];exact ⟨rfl,rfl⟩
theorem z8 (h:B64 n):n=ci (inI n) n/\Zy=inI n:=by
 have:=(iu n).2 h;rw [this];exact ⟨rfl,rfl⟩
theorem oS (a:Int) (ha:B64 a) (w:Z3):
 Calls ZW 196 #[ZZ ZY a] w fun e w'=>e=ZX (.int .u64 (aC a))/\w=w':=by
 by_cases h:a<0
 ·go_enter func196,ntmps196
  go_wp2
  go_ret;exact ⟨yP (by rw [bF h];unfold B64 at ha;simp only [IntKind.wrap_u64,wrap64];omega),rfl⟩
 ·go_enter func196,ntmps196
  go_wp2
  go_ret;exact ⟨yP (by rw [bE qoq];unfold B64 at ha;simp only [IntKind.wrap_u64];omega),rfl⟩
theorem cK (u:Int) (m:Bool) (h0:0<=u) (w:Z3):
 Calls ZW 84 #[.int .u64 u,.bool m] w fun e w'=>e=ZX (.tuple #[ZZ ZY (ci (inI (sgn m u)) (sgn m u)),.bool (inI (sgn m u))])/\w=w':=by
 cases m
 ·rw [gQ]
  go_enter func84,ntmps84;go_wp2
  ·go_ret2
   exact ⟨gS (ld qnY),rfl⟩
  ·go_ret2
   exact qlr
 ·rw [gI]
  go_enter func84,ntmps84;go_wp2
  ·go_ret2
   have h:u=9223372036854775808:=(by simpa using ‹(u==9223372036854775808)=Zy›);subst h;exact qlr
  ·go_ret2
   have h:u≠9223372036854775808:=(by simpa using ‹(u==9223372036854775808)=Zz›);exact ⟨gS (ld qnY),rfl⟩
  ·go_ret2
   exact qlr
section
open Go.Lib
theorem iH {b:UInt8} {d:Nat} (h:digitVal b=ZV d):d<10/\b=UInt8.ofNat (48+d)/\b.toNat=48+d:=by
 unfold digitVal at h;split at h
 ·injection h with h
  refine ⟨qoq,?_,qoq⟩;apply UInt8.toNat_inj.1
  rw [UInt8.toNat_ofNat'];omega
 ·cases h
theorem kQ {d:Nat} (h:d<10):digitVal (UInt8.ofNat (48+d))=ZV d:=by
 have e:(UInt8.ofNat (48+d)).toNat=48+d:=(by rw [UInt8.toNat_ofNat'];omega);unfold digitVal;rw [e,if_pos qoq];congr 1
 omega
theorem io (l:List UInt8) (b:UInt8):∀acc,decFrom acc (l++[b])=(decFrom acc l).bind fun n=>(digitVal b).map fun d=>n*10+d:=by
 induction l with
 |nil=>intro acc;simp only [List.nil_append,decFrom,Option.bind_some];cases digitVal b<;>rfl
 |cons a t ih=>
  intro acc;simp only [List.cons_append,decFrom];cases digitVal a with
  |none=>rfl
  |some d=>exact ih _
theorem mr:∀(l:List UInt8) (acc u:Nat),decFrom acc l=ZV u->acc<=u
 |[],acc,u,h=>by simp only [decFrom,Option.some.injEq] at h;omega
 |c::r,acc,u,h=>by
  simp only [decFrom] at h;split at h
  ·have:=mr r _ u h;omega
  ·cases h
theorem jR:∀(l:List UInt8) (acc u:Nat),decFrom acc l=ZV u->u<18446744073709551616->parseUint10 acc l=.ok u
 |[],acc,u,h,_=>by simp only [decFrom,Option.some.injEq] at h;subst h;rfl
 |c::r,acc,u,h,hu=>by
  simp only [decFrom] at h;split at h
  ·rename_i d hd
   have hle:=mr r _ u h;obtain ⟨h1,_,h3⟩:=iH hd;simp only [parseUint10];have e:c.toNat - 48=d:=qoq;rw [if_pos qoq,if_neg qoq,if_neg qoq,e];exact jR r _ u h hu
  ·cases h

theorem cB (u:Nat):decFrom 0 (decDigits u)=ZV u:=by
 induction u using Nat.strongRecOn with
 |_ u ih=>
  by_cases h:u<10
  ·rw [decDigits,dif_pos h]
   simp only [decFrom,kQ h];simp
  ·rw [decDigits,dif_neg h,io,ih (u / 10) qoq,kQ qoq]
   simp
   omega
theorem n9 {α:Type} {l:List α} (r:List α) (h:l≠[]):(l++r).head? =l.head? :=by
 cases l with
 |nil=>exact absurd rfl h
 |cons a t=>rfl
theorem gP (u:Nat):decDigits u≠[]:=by
 intro h;have:=decDigits_length u;have:=nDigits_pos u;rw [h] at*;simp at*
 omega
theorem xO (u:Nat) (hu:u≠0):(decDigits u).head? ≠ZV 48:=by
 induction u using Nat.strongRecOn with
 |_ u ih=>
  by_cases h:u<10
  ·rw [decDigits,dif_pos h]
   simp only [List.head?_cons,ne_eq,Option.some.injEq];intro e;have:=congrArg UInt8.toNat e;rw [UInt8.toNat_ofNat'] at this;have e2:(48:UInt8).toNat=48:=rfl;omega
  ·rw [decDigits,dif_neg h,n9 _ (gP _)]
   exact ih (u / 10) qoq qoq
theorem gu:decDigits 0=[48]:=by rw [decDigits_one qoq];rfl

theorem AL {α:Type} (l:List α) (h:l≠[]):∃t b,l=t++[b]:=⟨l.dropLast,l.getLast h,(List.dropLast_concat_getLast h).symm⟩
theorem jh (n:Nat):∀(l:List UInt8) (u:Nat),l.length=n->decFrom 0 l=ZV u->l≠[]->(l.head? ≠ZV 48\/l.length=1)->decDigits u=l:=by
 induction n using Nat.strongRecOn with
 |_ n ih=>
  intro l u hn hd hne hh;obtain ⟨t,b,rfl⟩:=AL l hne;rw [io] at hd;cases ht:decFrom 0 t with
  |none=>rw [ht] at hd;cases hd
  |some m=>
   rw [ht,Option.bind_some] at hd;cases hb:digitVal b with
   |none=>rw [hb] at hd;cases hd
   |some d=>
    rw [hb] at hd;simp only [Option.map_some,Option.some.injEq] at hd;obtain ⟨h1,h2,_⟩:=iH hb;by_cases hte:t=[]
    ·subst hte
     simp only [decFrom,Option.some.injEq] at ht;subst ht;have:u=d:=qoq;subst this;rw [decDigits_one h1,h2];rfl
    ·have hl:(t++[b]).length≠1:=by
      have:0<t.length:=List.length_pos_iff.2 hte;simp;omega
     have hh':t.head? ≠ZV 48:=by
      rcases hh with hh|hh
      ·rwa [n9 _ hte] at hh
      ·exact absurd hh hl
     have hlen:t.length+1=n:=qpF;have it:=ih t.length qoq t m rfl ht hte (.inl hh')
     have hm:m≠0:=by
      rintro rfl;rw [gu] at it;rw [<-it] at hh';simp at hh'
     rw [decDigits,dif_neg qoq,show u / 10=m by omega,show u % 10=d by omega,it,h2]
theorem lp (u:Nat) (h:u<=9223372036854775808):nDigits u<=19:=by
 by_cases h1:u<10 ^ 18
 ·have:=lt_pow_nDigits u
  rcases Nat.lt_or_ge (nDigits u) 20 with h2|h2
  ·omega
  ·exfalso
   have h3:10 ^ 19<=u:=by
    by_cases h0:u<10
    ·rw [nDigits_small h0] at h2;omega
    ·obtain ⟨k,hk⟩:∃k,nDigits u=k+20:=⟨nDigits u - 20,qoq⟩
     exfalso
     have hu:nDigits u<=18:=by
      clear hk h2 this
      have aux:∀k v,v<10 ^ k->1<=k->nDigits v<=k:=by
       intro k;induction k with
       |zero=>intro v _ h;omega
       |succ k ih=>
        intro v hv _;by_cases hv0:v<10
        ·rw [nDigits_small hv0];omega
        ·rw [nDigits_big hv0]
         rcases Nat.eq_zero_or_pos k with hk|hk
         ·subst hk;omega
         ·have:=ih (v / 10) (by rw [Nat.pow_succ] at hv;omega) hk
          omega
      exact aux 18 u h1 qoq
     omega
   omega
 ·have:=nDigits_unique 18 u qoq qoq
  omega

theorem rF (n:Int) (hn:B64 n):atoiAll (itoa n)=.ok n:=by
 unfold B64 at hn;unfold itoa
 have key:∀u:Nat,u<18446744073709551616->parseMag (decDigits u)=.ok u:=fun u hu=>by
  unfold parseMag;rw [if_neg (gP u)];exact jR _ 0 u (cB u) hu
 split
 ·rw [atoiAll_minus,key n.natAbs qoq]
  simp only [signed];rw [if_neg qoq];congr 1
  omega
 ·have hk:=key n.toNat qoq
  cases hd:decDigits n.toNat with
  |nil=>exact absurd hd (gP _)
  |cons c r=>
   obtain ⟨d,hc⟩:=digit_of_decFrom _ 0 _ (cB n.toNat) 0 c (by rw [hd];rfl);obtain ⟨h1,_,h3⟩:=iH hc;rw [atoiAll_plain c r qoq qoq,<-hd,hk];simp only [signless];rw [if_neg qoq];congr 1
   omega

def pB (l:List UInt8):Bool:=match atoiAll l with
 |.ok v=>decide (itoa v=l)
 |_=>Zz
def pV (l:List UInt8):Int:=match atoiAll l with
 |.ok v=>ci (decide (itoa v=l)) v
 |_=>0
theorem NK (hn:B64 n) (h:itoa n=l):pV l=n/\pB l=Zy:=by
 subst h;unfold pV pB;rw [rF n hn];simp [ci]
theorem DC (h:∀n,B64 n->itoa n≠l):pV l=0/\pB l=Zz:=by
 unfold pV pB;cases ha:atoiAll l
 ·have hb:=atoiAll_bounds ha
  have:=h _ hb;simp [ci,this]
 ·exact qmx
 ·exact qmx

theorem Nc (h:∀v,atoiAll l≠.ok v):pV l=0/\pB l=Zz:=by
 unfold pV pB;cases ha:atoiAll l
 ·exact absurd ha (h _)
 ·exact qmx
 ·exact qmx
theorem Fe {v:Int} (h:atoiAll s.data.toList=.ok v):(itoa v==s.toList)=pB s.data.toList:=by
 unfold pB;rw [h,ByteArray.toList_eq];exact gF qns
theorem Nk {v:Int} (h:atoiAll s.data.toList=.ok v):ci (itoa v==s.toList) v=pV s.data.toList:=by
 rw [Fe h];unfold pV pB;rw [h]

def bN (l:List UInt8):Bool:=decide (l.head? =ZV 45)
def rest (l:List UInt8):List UInt8:=if bN l=Zy then l.tail else l
theorem MM {u:Nat} (hne:rest l≠[]) (hh:(rest l).head? ≠ZV 48\/((rest l).length=1/\bN l=Zz)) (hd:decFrom 0 (rest l)=ZV u):
 pV l=ci (inI (sgn (bN l) u)) (sgn (bN l) u)/\pB l=inI (sgn (bN l) u):=by
 have hdig:decDigits u=rest l:=jh _ (rest l) u rfl hd hne (hh.imp id fun h=>h.1)
 have htext:itoa (sgn (bN l) u)=l:=by
  cases hm:bN l with
  |true=>
   have h0:u≠0:=by
    rintro rfl;rw [gu] at hdig;rw [<-hdig,hm] at hh;simp at hh
   have hr:l=45::rest l:=by
    unfold rest;rw [if_pos hm];unfold bN at hm;cases l with
    |nil=>simp at hm
    |cons c r=>simp at hm;subst hm;rfl
   rw [gI];rw [itoa_neg u qoq,hdig];exact hr.symm
  |false=>
   rw [gQ,itoa_nonneg,hdig];unfold rest;rw [if_neg qow]
 by_cases hb:B64 (sgn (bN l) u)
 ·obtain ⟨h1,h2⟩:=NK hb htext
  obtain ⟨h3,h4⟩:=z8 hb;exact ⟨h1.trans h3,h2.trans h4⟩
 ·have hn:∀n,B64 n->itoa n≠l:=by
   intro n hn he;apply hb
   have h1:=rF n hn;have:itoa n=itoa (sgn (bN l) u):=he.trans htext.symm
   have e:n=sgn (bN l) u:=by
    have hdn:∀k:Int,(rest (itoa k),bN (itoa k))=(decDigits k.natAbs,decide (k<0)):=by
     intro k;unfold itoa;split
     ·rename_i hk
      have hm:bN (45::decDigits k.natAbs)=Zy:=(by simp [bN]);unfold rest;rw [hm,if_pos rfl];simp [hk]
     ·rename_i hk
      have e:k.toNat=k.natAbs:=qoq;rw [e]
      have hm:bN (decDigits k.natAbs)=Zz:=by
       unfold bN;apply decide_eq_false
       intro hh;cases hc:decDigits k.natAbs with
       |nil=>exact absurd hc (gP _)
       |cons c r=>
        rw [hc] at hh;simp at hh
        subst hh;obtain ⟨d,hd⟩:=digit_of_decFrom _ 0 _ (cB k.natAbs) 0 45 (by rw [hc];rfl);exact qlq
      exact qmw
    have h2:=(hdn n).symm.trans (this▸hdn (sgn (bN l) u));have h3:=(Prod.mk.inj h2).1;have h4:=(Prod.mk.inj h2).2
    have h5:n.natAbs=(sgn (bN l) u).natAbs:=by
     have a:=cB n.natAbs;rw [h3,cB] at a;exact (Option.some.inj a).symm
    simp only [decide_eq_decide] at h4;omega
   rw [<-e];exact hn
  obtain ⟨h1,h2⟩:=DC hn;obtain ⟨h3,h4⟩:=ld hb;exact ⟨h1.trans h3,h2.trans h4⟩
theorem Kk (h:rest l=[]\/19<(rest l).length\/((rest l).head? =ZV 48/\(bN l=Zy\/(rest l).length≠1))\/decFrom 0 (rest l)=ZU):pV l=0/\pB l=Zz:=by
 apply DC
 intro n hn he
 have hx:(rest l=decDigits n.natAbs/\bN l=decide (n<0)):=by
  subst he;unfold itoa;split
  ·rename_i hk
   have hm:bN (45::decDigits n.natAbs)=Zy:=(by simp [bN]);unfold rest;rw [hm,if_pos rfl];simp [hk]
  ·rename_i hk
   have e:n.toNat=n.natAbs:=qoq;rw [e]
   have hm:bN (decDigits n.natAbs)=Zz:=by
    unfold bN;apply decide_eq_false
    intro hh;cases hc:decDigits n.natAbs with
    |nil=>exact absurd hc (gP _)
    |cons c r=>
     rw [hc] at hh;simp at hh
     subst hh;obtain ⟨d,hd⟩:=digit_of_decFrom _ 0 _ (cB n.natAbs) 0 45 (by rw [hc];rfl);exact qlq
   exact qmw
 obtain ⟨h1,h2⟩:=hx;rw [h1,h2] at h;unfold B64 at hn;rcases h with h|h|⟨h,h'⟩|h
 ·exact gP _ h
 ·rw [decDigits_length] at h
  have:=lp n.natAbs qoq;omega
 ·by_cases h0:n.natAbs=0
  ·have:n=0:=by omega
   subst this;rw [show (0:Int).natAbs=0 from rfl,gu] at h';simp at h'
  ·exact xO _ h0 h
 ·rw [cB] at h;cases h
end
def dig (d:Nat):UInt8:=UInt8.ofNat (48+d)
theorem Jt (W:Z3) (d:Nat) (hd:d<10) (b:Nat) (hb:W.heap.size=b):
 Sem.run ZW (convert 192 9 (Zw (ZV ⟨b,0,ZU⟩) 1 1)) (W.alloc (.cells #[.int .u8 (48+(d:Int))] 5))=
  .ok (Zx ⟨#[dig d]⟩) (W.alloc (.cells #[.int .u8 (48+(d:Int))] 5)):=by
 refine run_convert_bytes_back (W.alloc (.cells #[.int .u8 (48+(d:Int))] 5)) 192 9 5 ⟨b,0,ZU⟩ 1 [dig d] underlying192 underlying5 underlying9 ?_;intro j hj;have hj0:j=0:=qpg;subst hj0;subst hb;have e:(dig d).toNat=48+d:=(by unfold dig;rw [UInt8.toNat_ofNat'];omega);simp only [List.getElem_cons_zero,e];have h:=cell_of_row (W.alloc (.cells #[.int .u8 (48+(d:Int))] 5)) W.heap.size 0 #[.int .u8 (48+(d:Int))] 5 (0,0) (heap_alloc_new W _);rw [show ((48+d:Nat):Int)=48+(d:Int) from by omega];exact h

theorem ij (u:Nat) (h:u<18446744073709551616):(Lib.decDigits u).length<=30:=by
 rw [Lib.decDigits_length];by_cases h1:u<=9223372036854775808
 ·have:=lp u h1;omega
 ·have:Lib.nDigits u=Lib.nDigits (u / 10)+1:=Lib.nDigits_big qoq
  have:=lp (u / 10) qoq;omega
theorem yd (u:Nat):u<18446744073709551616->∀w:Z3,
 Calls ZW 195 #[.int .u64 u] w fun e w'=>e=ZX (Zx ⟨(Lib.decDigits u).toArray⟩)/\Z2 w.heap.size w w':=by
 induction u using Nat.strongRecOn with
 |_ u ih=>
  intro hu w;have hc:=Jt w (u % 10) qoq w.heap.size rfl;rw [show ((u % 10:Nat):Int)=(u:Int) % 10 from by omega] at hc;by_cases h:u<10
  ·have HR:Hid (Lib.decDigits u=[dig u]):=qf (Lib.decDigits_one h)
   have hm:u % 10=u:=qoq;rw [hm] at hc;clear hm ih;go_enter func195,ntmps195;go_wp2_with fail;go_ret;exact ⟨gL (by rw [HR.out]),qa⟩
  ·have IH:=qf (ih (u / 10) qoq qoq)
   have HR:Hid (Lib.decDigits u=Lib.decDigits (u / 10)++[dig (u % 10)]):=qf (by rw [Lib.decDigits,dif_neg h];rfl);have hlen:=ij (u / 10) qoq;rw [show ((u / 10:Nat):Int)=(u:Int) / 10 from by omega] at IH;clear ih;go_enter func195,ntmps195;go_wp2_with fail;refine (IH.out _).mono ?_;rintro e w1 ⟨rfl,h1⟩;go_wp2_with fail;go_ret;exact ⟨gL (by rw [HR.out,ByteArray.mk_append_mk]),qa.trans (h1.mono qns)⟩
theorem tt (a:Int) (ha:B64 a) (w:Z3):
 Calls ZW 138 #[ZZ ZY a] w fun e w'=>e=ZX (Zx ⟨(Lib.itoa a).toArray⟩)/\Z2 w.heap.size w w':=by
 have hn:aC a=(a.natAbs:Int):=(by unfold aC;split<;>omega);have HS:=qf (oS a ha);have HF:=qf (yd a.natAbs (by unfold B64 at ha;omega));have hlen:=ij a.natAbs (by unfold B64 at ha;omega);rw [hn] at HS;clear hn ha;obtain ⟨D,hD⟩:∃D,D=Lib.decDigits a.natAbs:=⟨_,rfl⟩
 rw [<-hD] at HF hlen;by_cases h:a<0
 ·have HR:Hid (Lib.itoa a=45::D):=qf (by unfold Lib.itoa;rw [if_pos h,hD])
  clear hD;go_enter func138,ntmps138;go_wp2_with fail;refine (HS.out _).mono ?_;rintro e w1 ⟨rfl,rfl⟩;go_wp2_with fail;refine .mono qrx ?_;rintro e w1 ⟨rfl,h1⟩;go_wp2_with fail;go_ret;exact ⟨gL (by rw [HR.out,ByteArray.mk_append_mk];simp),h1⟩
 ·have HR:Hid (Lib.itoa a=D):=qf (by unfold Lib.itoa;rw [if_neg h,hD];congr 1;omega)
  clear hD;go_enter func138,ntmps138;go_wp2_with fail;refine (HS.out _).mono ?_;rintro e w1 ⟨rfl,rfl⟩;go_wp2_with fail;refine .mono qrx ?_;rintro e w1 ⟨rfl,h1⟩;go_wp2_with fail;go_ret;exact ⟨gL (by rw [HR.out]),h1⟩
def iz (bs:List Bool) (k:Nat):Bool:=(bs.take k).all id
theorem wl (bs:List Bool):iz bs 0=Zy:=rfl
theorem wT (bs:List Bool) (k:Nat) (h:k<bs.length) (ha:iz bs k=Zy) (hb:bs.getD k Zz=Zy):iz bs (k+1)=Zy:=by
 unfold iz at*;rw [List.take_succ_eq_append_getElem h,List.all_append,ha];simp [List.getD_eq_getElem?_getD,h] at hb
 simp [hb]
theorem Ea (bs:List Bool) (k:Nat) (h:k<bs.length) (hb:bs.getD k Zz=Zz):bs.all id=Zz:=by
 simp [List.getD_eq_getElem?_getD,h] at hb
 rw [List.all_eq_false];exact ⟨bs[k],List.getElem_mem h,(by simp [hb])⟩
theorem Ij (bs:List Bool) (k:Nat) (h:bs.length<=k) (ha:iz bs k=Zy):bs.all id=Zy:=by
 unfold iz at ha;rwa [List.take_of_length_le h] at ha

theorem z9 (bs:List Bool) (b:Nat) (w:Z3) (hn:bs.length<=1000) (hc:∀k,k<bs.length->w.cell? ⟨b,k,ZU⟩=ZV (.bool (bs.getD k Zz))):
 Calls ZW 126 #[Zw (ZV ⟨b,0,ZU⟩) bs.length bs.length] w fun e w'=>e=ZX (.bool (bs.all id))/\w=w':=by
 have HC:=qgx;clear hc;go_enter func126,ntmps126;go_wp2
 go_loop [7] (fun i=>∃k:Nat,k<=bs.length/\i=ZZ ZY k/\iz bs k=Zy) (fun i=>bs.length - (RowKit.intOf i).toNat)
 case atStart=>exact ⟨0,qe,rfl,wl bs⟩
 case round=>
  obtain ⟨k,hk,rfl,ha⟩:=hrel;have HA:=qf ha;clear ha;by_cases hlt:k<bs.length
  ·have hcell:=HC.out k hlt
   cases hb:bs.getD k Zz
   ·have hf:=Ea bs k hlt hb
    rw [hb] at hcell;have HF:=qf hf;clear hf hb;go_wp2
    go_ret;exact ⟨aK HF.out.symm,rfl⟩
   ·have hs:=qf (wT bs k hlt HA.out hb)
    rw [hb] at hcell;clear hb;go_wp2
    go_round
    case rel=>exact ⟨k+1,qoq,qnG,hs.out⟩
    case measure=>exact qmy
  ·have hf:=qf (Ij bs k qoq HA.out)
   go_wp2
   go_ret;exact ⟨aK hf.out.symm,rfl⟩
theorem PG (x y z:Bool) (b:Nat) (w:Z3) (h0:w.cell? ⟨b,0,ZU⟩=ZV (.bool x)) (h1:w.cell? ⟨b,1,ZU⟩=ZV (.bool y)) (h2:w.cell? ⟨b,2,ZU⟩=ZV (.bool z)):
 Calls ZW 126 #[Zw (ZV ⟨b,0,ZU⟩) 3 3] w fun e w'=>e=ZX (.bool (x&&y&&z))/\w=w':=by
 have h:=z9 [x,y,z] b w qns (fun k hk=>by
  match k,hk with
  |0,_=>exact h0
  |1,_=>exact h1
  |2,_=>exact h2)
 refine Calls.mono h fun e w' ⟨he,hw⟩=>⟨he.trans (aK (by simp [Bool.and_assoc])),hw⟩
theorem M9 (x y:Bool) (b:Nat) (w:Z3) (h0:w.cell? ⟨b,0,ZU⟩=ZV (.bool x)) (h1:w.cell? ⟨b,1,ZU⟩=ZV (.bool y)):
 Calls ZW 126 #[Zw (ZV ⟨b,0,ZU⟩) 2 2] w fun e w'=>e=ZX (.bool (x&&y))/\w=w':=by
 have h:=z9 [x,y] b w qns (fun k hk=>by
  match k,hk with
  |0,_=>exact h0
  |1,_=>exact h1)
 refine Calls.mono h fun e w' ⟨he,hw⟩=>⟨he.trans (aK qns),hw⟩

theorem fh (W:Z3) (vs:Array Value) (t:TypeId) (b k:Nat) (hb:W.heap.size=b):(W.alloc (.cells vs t)).cell? ⟨b,k,ZU⟩=vs[k]? :=by
 subst hb;exact cell_of_row _ _ k vs t (0,0) (heap_alloc_new W _)
theorem uI (x y z:Bool) (b:Nat) (W:Z3) (hb:W.heap.size=b):
 Calls ZW 126 #[Zw (ZV ⟨b,0,ZU⟩) 3 3] (W.alloc (.cells #[.bool x,.bool y,.bool z] 4)) fun e w'=>e=ZX (.bool (x&&y&&z))/\W.alloc (.cells #[.bool x,.bool y,.bool z] 4)=w':=
 PG x y z b _ (fh W _ 4 b 0 hb) (fh W _ 4 b 1 hb) (fh W _ 4 b 2 hb)
theorem rx (x y:Bool) (b:Nat) (W:Z3) (hb:W.heap.size=b):
 Calls ZW 126 #[Zw (ZV ⟨b,0,ZU⟩) 2 2] (W.alloc (.cells #[.bool x,.bool y] 4)) fun e w'=>e=ZX (.bool (x&&y))/\W.alloc (.cells #[.bool x,.bool y] 4)=w':=
 M9 x y b _ (fh W _ 4 b 0 hb) (fh W _ 4 b 1 hb)
theorem Ox (x y:Bool) (b:Nat) (W:Z3) (hb:W.heap.size=b):
 Calls ZW 126 #[Zw (ZV ⟨b,0,ZU⟩) 2 2] (W.alloc (.cells #[.bool x,.bool y] 4)).drew fun e w'=>e=ZX (.bool (x&&y))/\(W.alloc (.cells #[.bool x,.bool y] 4)).drew=w':=
 M9 x y b _ (fh W _ 4 b 0 hb) (fh W _ 4 b 1 hb)

theorem It (n:Int) (x:Bool) (w:Z3):
 Calls ZW 125 #[ZZ ZY n,.bool x] w fun e w'=>e=ZX (.tuple #[ZZ ZY (ci x n),.bool x])/\w=w':=by
 cases x
 ·go_enter func125,ntmps125
  go_wp2
  exact qjf
 ·go_enter func125,ntmps125
  go_wp2
  exact qjf

theorem Me (a b:Int) (ha:B64 a) (hb:B64 b) (w:Z3):
 Calls ZW 321 #[ZZ ZY a,ZZ ZY b] w fun e w'=>e=ZX (.tuple #[ZZ ZY (ci (inI (a+b)) (a+b)),.bool (inI (a+b))])/\Z2 w.heap.size w w':=by
 have HF:=qf (NQ a b ha hb);clear ha hb;go_enter func321,ntmps321;go_wp2_with fail;refine (uI _ _ _ _ _ rfl).mono ?_;rintro e w1 ⟨rfl,rfl⟩;go_wp2_with fail;refine (uI _ _ _ _ _ qns).mono ?_;rintro e w1 ⟨rfl,rfl⟩;go_wp2_with fail;refine (rx _ _ _ _ qns).mono ?_;rintro e w1 ⟨rfl,rfl⟩;go_wp2_with fail;refine .mono qry ?_;rintro e w1 ⟨rfl,rfl⟩;go_wp2_with fail;go_ret2;exact ⟨fT (nI HF.out nQ) HF.out,(qa.alloc qns _).alloc qnu _⟩

theorem zy (a b:Int) (ha:B64 a) (hb:B64 b) (w:Z3):
 Calls ZW 288 #[ZZ ZY a,ZZ ZY b] w fun e w'=>e=ZX (.tuple #[ZZ ZY (ci (inI (a - b)) (a - b)),.bool (inI (a - b))])/\Z2 w.heap.size w w':=by
 have HF:=qf (NH a b ha hb);clear ha hb;go_enter func288,ntmps288;go_wp2_with fail;refine (uI _ _ _ _ _ rfl).mono ?_;rintro e w1 ⟨rfl,rfl⟩;go_wp2_with fail;refine (uI _ _ _ _ _ qns).mono ?_;rintro e w1 ⟨rfl,rfl⟩;go_wp2_with fail;refine (rx _ _ _ _ qns).mono ?_;rintro e w1 ⟨rfl,rfl⟩;go_wp2_with fail;refine .mono qry ?_;rintro e w1 ⟨rfl,rfl⟩;go_wp2_with fail;go_ret2;exact ⟨fT (nI HF.out nQ) HF.out,(qa.alloc qns _).alloc qnu _⟩

theorem Kw (a:Int) (ha:B64 a) (w:Z3):
 Calls ZW 253 #[ZZ ZY a] w fun e w'=>e=ZX (.tuple #[ZZ ZY (ci (inI (-a)) (-a)),.bool (inI (-a))])/\Z2 w.heap.size w w':=by
 have e0:(0:Int) - a= -a:=qoq;have H:=qf (zy 0 a qnY ha);rw [e0] at H;clear ha e0;go_enter func253,ntmps253;go_wp2_with fail;refine .mono qrz ?_;rintro e w1 ⟨rfl,hb⟩;go_wp2_with fail;go_ret2;exact ⟨rfl,hb⟩

theorem Ac (a b:Int) (ha:B64 a) (hb:B64 b) (h0:b≠0) (w:Z3):
 Calls ZW 294 #[ZZ ZY a,ZZ ZY b] w fun e w'=>e=ZX (.tuple #[ZZ ZY (ci (inI (a.tdiv b)) (a.tdiv b)),.bool (inI (a.tdiv b))])/\Z2 w.heap.size w w':=by
 have HF:=qf (Kp a b ha hb h0);have hz:=qgS;clear ha hb;go_enter func294,ntmps294;go_wp2_with fail;go_region_with ((first|(go_at_call 126;refine (Ox _ _ _ _ rfl).mono ?_;rintro e w1 ⟨rfl,rfl⟩)|(go_at_call 125;refine .mono qry ?_;rintro e w1 ⟨rfl,rfl⟩)))
 all_goals
  go_wp2
  go_ret2;exact ⟨fT (nI HF.out fun h=>(IntWalk.i64_left _).trans (nQ h)) HF.out,below_drewN qa 1⟩

theorem J2 (a:Int) (w:Z3):
 Calls ZW 292 #[ZZ ZY a,ZZ ZY 0] w fun e w'=>e=ZX (.tuple #[ZZ ZY 0,.bool Zy])/\w=w':=by
 go_enter func292,ntmps292;go_wp2
 go_ret2;exact ⟨rfl,rfl⟩

theorem Nj (a b:Int) (ha:B64 a) (hb:B64 b) (h0:b≠0) (w:Z3):
 Calls ZW 292 #[ZZ ZY a,ZZ ZY b] w fun e w'=>e=ZX (.tuple #[ZZ ZY (ci (inI (a*b)) (a*b)),.bool (inI (a*b))])/\Z2 w.heap.size w w':=by
 have HF:=qf (Nr a b ha hb h0);have HD:=qf (Ac (wrap64 (a*b)) b (xg _) hb h0);have hz:=qgS;clear ha hb;go_enter func292,ntmps292;go_wp2_with fail;refine (HD.out _).mono ?_;rintro e w1 ⟨rfl,hb1⟩;go_wp2_with fail;refine (rx _ _ _ _ rfl).mono ?_;rintro e w2 ⟨rfl,rfl⟩;go_wp2_with fail;refine .mono qry ?_;rintro e w2 ⟨rfl,rfl⟩;go_wp2_with fail;go_ret2;exact ⟨fT (nI HF.out nQ) HF.out,hb1.alloc hb1.size _⟩

theorem KC (a b:Int) (ha:B64 a) (hb:B64 b) (w:Z3):
 Calls ZW 292 #[ZZ ZY a,ZZ ZY b] w fun e w'=>e=ZX (.tuple #[ZZ ZY (ci (inI (a*b)) (a*b)),.bool (inI (a*b))])/\Z2 w.heap.size w w':=by
 by_cases h0:b=0
 ·subst h0
  refine (J2 a w).mono fun e w' ⟨he,hw⟩=>⟨he.trans (fT ?_ ?_),hw▸qb⟩
  ·rw [Int.mul_zero];rfl
  ·rw [Int.mul_zero];rfl
 ·exact Nj a b ha hb h0 w
