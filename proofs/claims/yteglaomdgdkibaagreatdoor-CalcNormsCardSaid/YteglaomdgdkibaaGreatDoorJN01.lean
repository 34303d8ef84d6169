import Derived.Test.YteglaomdgdkibaaGreatDoorJNS21
import Derived.Test.YteglaomdgdkibaaGreatDoorJQNP
import Derived.Test.YteglaomdgdkibaaGreatDoorJQNSP
import Derived.Test.YteglaomdgdkibaaGreatDoorJQNSW
import Derived.Test.YteglaomdgdkibaaGreatDoorJQNW
import Derived.Test.YteglaomdgdkibaaGreatDoorJQZNSP
set_option linter.all false
set_option maxHeartbeats 0
set_option maxRecDepth 99999
namespace Go.Proofs.YteglaomdgdkibaaGreatDoor
open Go.RowKit
open Value renaming int→ZZ,string→Zx,slice→Zw
open IntKind renaming i64→ZY
open Ending renaming returned→ZX
open RowKit renaming Below→Z2
open Go renaming World→Z3
open Tryz
open Tryz renaming prog→ZW
open Option renaming some→ZV,none→ZU
open Bool renaming false→Zz,true→Zy
variable {l s w x y z:List UInt8}{a b u:Tr}{f:Tr->Nat->Option Res}{c' i m n q1:Nat}{c:Int}{us:List Tok}{A':Option Addr}{ks:List Tr}
def bareT (t:Tok):Tok:={ t with frm:=0 }
theorem Lc {ts:List Tok} (h:Lex l 0 ts) (hl:l.length<=200):aE l=ts/\cF l=0:=by
 have:=pH (l:=l) qoq (F9 h);exact ⟨this.1,this.2.2⟩
def Le (a b:Option Res):Prop:=∀x,a=ZV x->b=ZV x
theorem Le.refl (a:Option Res):Le a a:=fun _ h=>h
theorem Le.none (b:Option Res):Le Option.none b:=fun _ h=>by cases h
theorem Le.next {a b:Option Res} {g:Tr->Nat->Option Res} (h:Le a b) (hf:∀t q,Le (f t q) (g t q)):Le (Res.next a f) (Res.next b g):=by
 intro x hx;cases a with
 |none=>cases hx
 |some r=>
  rw [h r rfl];cases r with
  |ok t q=>exact hf t q x hx
  |bad w=>exact hx
theorem Le.must {L:List Tok} {E p:Nat} {f g:Nat->Option Res} (hf:∀q,Le (f q) (g q)):Le (az L E p s f) (az L E p s g):=by
 unfold az;split
 ·exact hf _
 ·exact Le.refl _
structure OI (L:List Tok) (E k m:Nat):Prop where
 line:∀lev p,Le (ak L E k lev p) (ak L E m lev p)
 rest:∀lev out p,Le (bC L E k lev out p) (bC L E m lev out p)
 pref:∀p,Le (bR L E k p) (bR L E m p)
 oper:∀p,Le (ct L E k p) (ct L E m p)
 items:∀w acc p,Le (bx L E k w acc p) (bx L E m w acc p)
 item:∀c p,Le (bg L E k c p) (bg L E m c p)
theorem fo (L:List Tok) (E:Nat):∀k m,k<=m->OI L E k m
 |0,m,_=>by
  constructor<;>intros<;>first|(rw [ak];exact Le.none _)|(rw [bC];exact Le.none _)|(rw [bR];exact Le.none _)|(rw [ct];exact Le.none _)|(rw [bx];exact Le.none _)|(rw [bg];exact Le.none _)
 |k+1,0,h=>absurd h qoq
 |k+1,m+1,h=>by
  have I:=fo L E k m qoq;constructor
  ·intro lev p
   simp only [ak];split
   ·exact I.pref p
   ·exact Le.next (I.line _ _) fun t q=>I.rest _ _ _
  ·intro lev out p
   simp only [bC];split
   ·exact Le.next (I.line _ _) fun t q=>I.rest _ _ _
   ·exact Le.refl _
  ·intro p
   simp only [bR];split
   ·exact Le.next (I.pref _) fun t q=>Le.refl _
   ·exact I.oper p
  ·intro p
   simp only [ct];split
   ·exact Le.next (I.line _ _) fun t q=>Le.refl _
   ·split
    ·exact Le.refl _
    ·split
     ·exact Le.refl _
     ·split
      ·exact Le.refl _
      ·split
       ·exact Le.refl _
       ·split
        ·exact Le.refl _
        ·refine Le.must fun q=>?_
         split
         ·exact Le.next (I.line _ _) fun a q=>Le.must fun q=>Le.next (I.line _ _) fun b q=>Le.must fun q=>Le.next (I.line _ _) fun c q=>Le.refl _
         ·exact I.items _ _ _
  ·intro w acc p
   simp only [bx];refine Le.next (I.item _ _) fun t q=>?_
   split
   ·exact I.items _ _ _
   ·exact Le.refl _
  ·intro c p
   simp only [bg];split
   ·exact I.line _ _
   ·exact Le.refl _
structure Seg (L:List Tok) (E p q:Nat) (t:Tr) (m0:Nat):Prop where
 line:∀m,1<=m->m<=m0->m<=4->aJ L q<m->∃k,ak L E k m p=ZV (.ok t q)
 rest:∀m,1<=m->m<=m0->m<=3->aJ L q<=m->∀x,(∃k,bC L E k m t q=ZV x)->∃k,ak L E k m p=ZV x
 pref:4<=m0->∃k,bR L E k p=ZV (.ok t q)
theorem gd {a:Option Res} {t:Tr} {q:Nat} (h:a=ZV (.ok t q)):Res.next a f=f t q:=by rw [h];rfl
theorem sq {L:List Tok} {E k q:Nat} {t:Tr} (h:¬aJ L q=m):bC L E (k+1) m t q=ZV (.ok t q):=by
 simp only [bC];rw [if_neg h]
theorem EL {L:List Tok} {E k p:Nat} (h:3<m):ak L E (k+1) m p=bR L E k p:=by
 simp only [ak];rw [if_pos h]
theorem KO {L:List Tok} {E p q:Nat} {t:Tr} {x:Res} (h:¬3<m) (h1:∃k,ak L E k (m+1) p=ZV (.ok t q)) (h2:∃k,bC L E k m t q=ZV x):∃k,ak L E k m p=ZV x:=by
 obtain ⟨k,hk⟩:=h1;obtain ⟨j,hj⟩:=h2;have a:=(fo L E k (max k j) qoq).line _ _ _ hk;have b:=(fo L E j (max k j) qoq).rest _ _ _ _ hj;refine ⟨max k j+1,?_⟩;simp only [ak];rw [if_neg h,gd a,b]
theorem Seg.down {L:List Tok} {E p q:Nat} {t:Tr} {m0 m1:Nat} (h:Seg L E p q t m0) (hm:m1<=m0):Seg L E p q t m1:=
 ⟨fun m h1 h2 h4=>h.line m h1 qoq h4,fun m h1 h2 h3=>h.rest m h1 qoq h3,fun h4=>h.pref qoq⟩
theorem iM {L:List Tok} {E p q:Nat} {t:Tr} {n:Nat} (hD:aJ L q<n->∃k,ak L E k n p=ZV (.ok t q)):∀d m,m+d=n->1<=m->n<=4->
 (aJ L q<m->∃k,ak L E k m p=ZV (.ok t q))/\(m<n->aJ L q<=m->∀x,(∃k,bC L E k m t q=ZV x)->∃k,ak L E k m p=ZV x)
 |0,m,h,_,_=>by
  obtain rfl:m=n:=qoq;exact ⟨hD,fun h=>absurd h qoq⟩
 |d+1,m,h,h1,h4=>by
  have I:=(iM hD d (m+1) qoq qoq h4).1;have R:aJ L q<=m->∀x,(∃k,bC L E k m t q=ZV x)->∃k,ak L E k m p=ZV x:=fun hl x hx=>KO qoq (I qoq) hx
  exact ⟨fun hl=>R qoq _ ⟨1,sq qoq⟩,fun _=>R⟩
theorem jQ {L:List Tok} {E p q:Nat} {t:Tr} (h:∃k,bR L E k p=ZV (.ok t q)):Seg L E p q t 4:=by
 have hD:aJ L q<4->∃k,ak L E k 4 p=ZV (.ok t q):=fun _=>by
  obtain ⟨k,hk⟩:=h;exact ⟨k+1,(EL qoq).trans hk⟩
 exact ⟨fun m h1 _ h4=>(iM hD (4 - m) m qoq h1 qoq).1,fun m h1 _ h3=>(iM hD (4 - m) m qoq h1 qoq).2 qoq,fun _=>h⟩
theorem NJ {L:List Tok} {E p q:Nat} (h1:1<=m) (h3:m<=3) (ha:Seg L E p q1 a m) (hl:aJ L q1=m) (hw:(L.map Tok.text).getD q1 []=w) (hb:Seg L E (q1+1) q b (m+1)):
 Seg L E p q (opT w a b) m:=by
 have R:aJ L q<=m->∀x,(∃k,bC L E k m (opT w a b) q=ZV x)->∃k,ak L E k m p=ZV x:=fun hq x ⟨j,hj⟩=>by
  refine ha.rest m h1 qd h3 qoq x ?_;obtain ⟨k,hk⟩:=hb.line (m+1) qoq qd qoq qoq;have A:=(fo L E k (max k j) qoq).line _ _ _ hk;have B:=(fo L E j (max k j) qoq).rest _ _ _ _ hj;refine ⟨max k j+1,?_⟩;simp only [bC];rw [if_pos hl,gd A,hw,B]
 have hD:aJ L q<m->∃k,ak L E k m p=ZV (.ok (opT w a b) q):=fun hq=>R qoq _ ⟨1,sq qoq⟩
 refine ⟨fun n g1 g2 g4=>(iM hD (m - n) n qoq g1 qoq).1,fun n g1 g2 g3=>?_,fun h4=>by omega⟩;by_cases e:n=m
 ·subst e;exact R
 ·exact (iM hD (m - n) n qoq g1 qoq).2 qoq
theorem LS {L:List Tok} {E p q:Nat} (hm:ag L p [45]=Zy) (ha:Seg L E (p+1) q a 4):Seg L E p q (jM a) 4:=by
 obtain ⟨k,hk⟩:=ha.pref qd;refine jQ ⟨k+1,?_⟩;simp only [bR];rw [if_pos hm,gd hk]
theorem kB {L:List Tok} {E p:Nat} {x:Res} (hm:¬ag L p [45]=Zy) (h:∃k,ct L E k p=ZV x):∃k,bR L E k p=ZV x:=by
 obtain ⟨k,hk⟩:=h;refine ⟨k+1,?_⟩;simp only [bR];rw [if_neg hm,hk]
theorem gH {L:List Tok} {E p:Nat} {f:Nat->Option Res} (h:ag L p s=Zy):az L E p s f=f (p+1):=by
 unfold az;rw [if_pos h]
theorem xf {L:List Tok} {p:Nat} (h:ag L p s=Zy) (hz:ag L p z=Zy):s=z:=by
 unfold ag at h hz;cases e:L[p]? with
 |none=>rw [e] at h;cases h
 |some t=>
  rw [e] at h hz;simp at h hz
  rw [<-h.2,<-hz.2]
theorem gY {L:List Tok} {p:Nat} (h:ag L p s=Zy):aJ L p=lvl s:=by
 unfold ag at h;unfold aJ;split at h
 ·simp at h;rw [if_pos h.1,h.2]
 ·cases h
theorem Ll {L:List Tok} {E p q:Nat} {t:Tr} (hm:ag L p [40]=Zy) (h:Seg L E (p+1) q t 1) (hc:ag L q [41]=Zy):Seg L E p (q+1) t 4:=by
 have hl:aJ L q=0:=(by rw [gY hc];decide);obtain ⟨k,hk⟩:=h.line 1 qoq qoq qoq qoq;refine jQ (kB (fun h'=>by have:=xf hm h';revert this;decide) ⟨k+1,?_⟩);simp only [ct];rw [if_pos hm,gd hk,gH hc]
theorem gJ {L:List Tok} {p:Nat} {t:Tok} (ht:L[p]? =ZV t) (hk:t.kY≠5):¬ag L p s=Zy:=by
 unfold ag;rw [ht];simp [hk]
theorem pJ {L:List Tok} {E p:Nat} {t:Tok} (ht:L[p]? =ZV t) {x:Tr} (h:t.kY=1/\x=ik t.num\/t.kY=2/\x=fG t.col t.row\/t.kY=3/\x=bK):Seg L E p (p+1) x 4:=by
 have hk:t.kY≠5:=(by rcases h with h|h|h<;>omega);refine jQ (kB (gJ ht hk) ⟨1,?_⟩);simp only [ct];rw [if_neg (gJ ht hk),ht];simp only;rw [if_neg hk];rcases h with ⟨h,rfl⟩|⟨h,rfl⟩|⟨h,rfl⟩
 ·rw [if_pos h]
 ·rw [if_neg qoq,if_pos h]
 ·rw [if_neg qoq,if_neg qoq,if_pos h]
theorem pp {L:List Tok} {p:Nat} (h:ag L p s=Zy) (hz:s≠z):ag L p z=Zz:=by
 cases e:ag L p z with
 |false=>rfl
 |true=>exact absurd (xf h e) hz
theorem lX {L:List Tok} {E p q:Nat} {t:Tr} (h:Seg L E p q t 1) (hm:ag L q s=Zy) (hs:lvl s=0):∃k,ak L E k 1 p=ZV (.ok t q):=
 h.line 1 qoq qoq qoq (by rw [gY hm,hs];omega)
inductive Its (L:List Tok) (E:Nat) (corners:Bool):Nat->Nat->List Tr->Prop
 |last {p q:Nat} {t:Tr}:(∃k,bg L E k corners p=ZV (.ok t q))->ag L q [41]=Zy->Its L E corners p (q+1) [t]
 |more {p q r:Nat} {t:Tr} {ts:List Tr}:(∃k,bg L E k corners p=ZV (.ok t q))->ag L q [44]=Zy->Its L E corners (q+1) r ts->Its L E corners p r (t::ts)
theorem NG {L:List Tok} {E p r:Nat} {ts:List Tr} (h:Its L E (w==[67,79,85,78,84]) p r ts):∀acc,∃k,bx L E k w acc p=ZV (.ok (ba w (acc++ts)) r):=by
 induction h with
 |last hi hm=>
  intro acc;obtain ⟨k,hk⟩:=hi;refine ⟨k+1,?_⟩;simp only [bx];rw [gd hk,if_neg (by rw [pp hm qnv];decide),gH hm]
 |@more p q r t ts hi hm _ ih=>
  intro acc;obtain ⟨k,hk⟩:=hi;obtain ⟨j,hj⟩:=ih (acc++[t]);have a:=(fo L E k (max k j) qoq).item _ _ _ hk;have b:=(fo L E j (max k j) qoq).items _ _ _ _ hj;refine ⟨max k j+1,?_⟩;simp only [bx];rw [gd a,if_pos hm,b,List.append_assoc,List.singleton_append]
theorem GD {L:List Tok} {E p q:Nat} {t:Tok} {ts:List Tr} (ht:L[p]? =ZV t) (hk:t.kY=4) (hw:t.text≠[73,70]) (hm:ag L (p+1) [40]=Zy) (h:Its L E (t.text==[67,79,85,78,84]) (p+1+1) q ts):Seg L E p q (ba t.text ts) 4:=by
 obtain ⟨k,hk'⟩:=NG h [];refine jQ (kB (gJ ht qoq) ⟨k+1,?_⟩);simp only [ct];rw [if_neg (gJ ht qoq),ht];simp only;rw [if_neg qoq,if_neg qoq,if_neg qoq,if_neg qoq,gH hm,if_neg hw,hk',List.nil_append]
theorem MS {L:List Tok} {E p q2 q3:Nat} {t:Tok} {c:Tr} (ht:L[p]? =ZV t) (hk:t.kY=4) (hw:t.text=[73,70]) (hm:ag L (p+1) [40]=Zy) (ha:Seg L E (p+1+1) q1 a 1) (h1:ag L q1 [44]=Zy)
 (hb:Seg L E (q1+1) q2 b 1) (h2:ag L q2 [44]=Zy) (hc:Seg L E (q2+1) q3 c 1) (h3:ag L q3 [41]=Zy):Seg L E p (q3+1) (ba [73,70] [a,b,c]) 4:=by
 obtain ⟨i,hi⟩:=lX ha h1 qnv;obtain ⟨j,hj⟩:=lX hb h2 qnv;obtain ⟨k,hk'⟩:=lX hc h3 qnv;have A:=(fo L E i (i+j+k) qoq).line _ _ _ hi;have B:=(fo L E j (i+j+k) qoq).line _ _ _ hj;have C:=(fo L E k (i+j+k) qoq).line _ _ _ hk';refine jQ (kB (gJ ht qoq) ⟨i+j+k+1,?_⟩);simp only [ct];rw [if_neg (gJ ht qoq),ht];simp only;rw [if_neg qoq,if_neg qoq,if_neg qoq,if_neg qoq,gH hm,if_pos hw,gd A,gH h1,gd B,gH h2,gd C,gH h3]
def ls (L:List Tok) (p q:Nat):Prop:=aB L p=Zy->p+1=q\/0<aJ L (p+1)
theorem kz {L:List Tok} {p q:Nat} {t:Tok} (ht:L[p]? =ZV t) (h:t.kY≠2/\t.kY≠3):ls L p q:=by
 intro he;unfold aB at he;rw [ht] at he;simp at he
 omega
theorem L6 {L:List Tok} {p:Nat} (h:ag L p s=Zy):∃t,L[p]? =ZV t/\t.kY=5/\t.text=s:=by
 unfold ag at h;cases e:L[p]? with
 |none=>rw [e] at h;cases h
 |some t=>
  rw [e] at h;simp at h
  exact ⟨t,rfl,h.1,h.2⟩
theorem rD {L:List Tok} {p q:Nat} (h:ag L p s=Zy):ls L p q:=by
 obtain ⟨t,ht,hk,_⟩:=L6 h;exact kz ht qoq
theorem GW {L:List Tok} {p q:Nat} (h:ls L p q1) (hl:0<aJ L q1):ls L p q:=by
 intro he;rcases h he with h|h
 ·exact .inr (by rw [h];exact hl)
 ·exact .inr h
theorem FT {L:List Tok} {E p q:Nat} {t:Tr} (h:Seg L E p q t 1) (hf:ls L p q) (hm:ag L q s=Zy) (hs:lvl s=0) (hc:s≠[58]):∃k,bg L E k Zz p=ZV (.ok t q):=by
 obtain ⟨k,hk⟩:=lX h hm hs;refine ⟨k+1,?_⟩;simp only [bg];rw [if_pos,hk];refine ⟨trivial,?_⟩;cases he:aB L p with
 |false=>exact .inl rfl
 |true=>
  refine .inr ?_;rcases hf he with e|e
  ·rw [e];exact pp hm hc
  ·cases h':ag L (p+1) [58] with
   |false=>rfl
   |true=>rw [gY h'] at e;exact absurd e qnv
theorem Gu {L:List Tok} {E p:Nat} {a:Tok} (h:L[p]? =ZV a) (hk:a.kY=3) (hm:ag L (p+1) s=Zy) (hs:s≠[58]):∃k,bg L E k Zy p=ZV (.ok bK (p+1)):=by
 refine ⟨1,?_⟩;have he:aB L p=Zy:=(by unfold aB;rw [h];simp [hk]);simp only [bg];rw [if_neg (by rintro ⟨h,_⟩;cases h),h];simp only;rw [if_neg qpV,if_pos ⟨pp hm hs,hk⟩]
theorem DI {L:List Tok} {E p:Nat} {a b:Tok} (corners:Bool) (ha:L[p]? =ZV a) (hka:a.kY=2) (hm:ag L (p+1) [58]=Zy) (hb:L[p+1+1]? =ZV b) (hkb:b.kY=2) (hc:a.col<=b.col) (hr:a.row<=b.row):
 ∃k,bg L E k corners p=ZV (.ok (fg a.col a.row b.col b.row) (p+1+1+1)):=by
 refine ⟨1,?_⟩;have he:aB L p=Zy:=(by unfold aB;rw [ha];simp [hka]);have he2:aB L (p+1+1)=Zy:=(by unfold aB;rw [hb];simp [hkb]);simp only [bg];rw [if_neg (by rw [he,hm];simp),ha];simp only;rw [if_neg qpV,if_neg qoq,gH hm,hb];simp only;rw [if_neg (by rw [he2];decide),if_neg qoq,Int.min_eq_left hc,Int.min_eq_left hr,Int.max_eq_right hc,Int.max_eq_right hr]
theorem dK.left {L:List Tok} {p:Nat} {a b:List Tok} (h:dK L p (a++b)):dK L p a:=fun i t hi=>h i t (by rw [List.getElem?_append_left (List.getElem?_eq_some_iff.1 hi).1];exact hi)
def Mo (L:List Tok) (E p q:Nat) (t:Tr):fS->Prop
 |.tree=>Seg L E p q t (if t.kY=4 then lvl t.wZ else 4)/\ls L p q
 |.wi m=>m<=4->Seg L E p q t m/\ls L p q
 |.item k=>∀s,ag L q s=Zy->s=[44]\/s=[41]->∃j,bg L E j k p=ZV (.ok t q)
 |.its k=>Its L E k p q t.kZ
theorem lg {L:List Tok} {E p q:Nat} {t:Tr} (h:Seg L E p q t (if t.kY=4 then lvl t.wZ else 4)) (hp:t.kY=4->1<=lvl t.wZ):Seg L E p q t 1:=by
 refine h.down ?_;split
 ·rename_i e;exact hp e
 ·omega
theorem nM {md:fS} {t:Tr} {ts:List Tok} (h:Pr md t s ts):(md=.tree\/∃m,md=.wi m)->t.kY=4->1<=lvl t.wZ:=by
 induction h with
 |num=>intro _ h;simp [ik,Tr.kY] at h
 |read=>intro _ h;simp [fG,Tr.kY] at h
 |bad=>intro _ h;simp [bK,Tr.kY] at h
 |neg=>intro _ h;simp [jM,Tr.kY] at h
 |op h=>intro _ _;exact h
 |plain _ _ ih=>intro _ h;exact ih (.inl rfl) h
 |brk _ _ _ ih=>intro _ h;exact ih (.inl rfl) h
 |cif=>exact qnd
 |call=>exact qnd
 |itT _ ih=>intro _ h;exact ih (.inl rfl) h
 |itBad=>intro _ h;simp [bK,Tr.kY] at h
 |itSpan=>intro _ h;simp [fg,Tr.kY] at h
 |last=>exact qnd
 |more=>exact qnd
theorem Ns {md:fS} {t:Tr} {ts:List Tok} (h:Pr md t s ts):∀(L:List Tok) (E p:Nat),dK L p ts->Mo L E p (p+ts.length) t md:=by
 induction h with
 |@num n _=>
  intro L E p H;obtain ⟨f,hf⟩:=H.cons.1;exact ⟨pJ hf (.inl ⟨rfl,rfl⟩),kz hf (by simp [OA])⟩
 |@read c r _=>
  intro L E p H;obtain ⟨f,hf⟩:=H.cons.1;exact ⟨pJ hf (.inr (.inl ⟨rfl,rfl⟩)),fun _=>.inl rfl⟩
 |bad=>
  intro L E p H;obtain ⟨f,hf⟩:=H.cons.1;exact ⟨pJ hf (.inr (.inr ⟨rfl,rfl⟩)),fun _=>.inl rfl⟩
 |@neg a s ts _ ih=>
  intro L E p H;obtain ⟨hs,_⟩:=ih L E (p+1) H.cons.2 qd;have e:p+(mkT [45]::ts).length=p+1+ts.length:=qnu;rw [e];exact ⟨LS H.mark hs,rD H.mark⟩
 |@op w sa sb a b ta tb hw _ _ iha ihb=>
  intro L E p H;have h3:=rP w;obtain ⟨ha,hf⟩:=iha L E p H.left qoq;obtain ⟨hb,_⟩:=ihb L E (p+ta.length+1) H.right.cons.2 qoq;obtain ⟨f,hg⟩:=H.right.cons.1;have hm:=H.right.mark;have e:p+(ta++mkT w::tb).length=p+ta.length+1+tb.length:=qnu;rw [e];refine ⟨NJ hw h3 ha (gY hm) ?_ hb,GW hf (by rw [gY hm];exact hw)⟩;simp [List.getD_eq_getElem?_getD,hg,mkT]
 |@plain m t s ts hp hle ih=>
  intro L E p H hm;obtain ⟨h1,h2⟩:=ih L E p H;refine ⟨h1.down ?_,h2⟩;split
  ·rename_i e;exact hle e
  ·exact hm
 |@brk m t s ts hp hk hlt ih=>
  intro L E p H hm;obtain ⟨h1,h2⟩:=ih L E (p+1) H.cons.2.left;have e:p+(mkT [40]::(ts++[mkT [41]])).length=p+1+ts.length+1:=qnu;rw [e];exact ⟨(Ll H.mark (lg h1 (nM hp (.inl rfl))) H.cons.2.right.mark).down hm,rD H.mark⟩
 |@cif a b c sa sb sc ta tb tc pa pb pc iha ihb ihc=>
  intro L E p H;obtain ⟨f,hf⟩:=H.cons.1;have H1:=H.cons.2;have H2:=H1.cons.2;have H3:=H2.right.cons.2;have H4:=H3.right.cons.2;obtain ⟨ha,_⟩:=iha L E _ H2.left;obtain ⟨hb,_⟩:=ihb L E _ H3.left;obtain ⟨hc,_⟩:=ihc L E _ H4.left;have e:p+(kp [73,70]::mkT [40]::(ta++mkT [44]::(tb++mkT [44]::(tc++[mkT [41]])))).length=p+1+1+ta.length+1+tb.length+1+tc.length+1:=qnu;rw [e];exact ⟨MS hf rfl rfl H1.mark (lg ha (nM pa (.inl rfl))) H2.right.mark (lg hb (nM pb (.inl rfl))) H3.right.mark (lg hc (nM pc (.inl rfl))) H4.right.mark,kz hf (by simp [kp])⟩
 |@call w s ks ts hw _ ih=>
  intro L E p H;obtain ⟨f,hf⟩:=H.cons.1;have H1:=H.cons.2;have hi:=ih L E _ H1.cons.2;have e:p+(kp w::mkT [40]::ts).length=p+1+1+ts.length:=qnu;rw [e];exact ⟨GD hf rfl (by rcases hw with rfl|rfl|rfl|rfl<;>simp [kp]) H1.mark hi,kz hf (by simp [kp])⟩
 |@itT t s ts hp ih=>
  intro L E p H z hz hzz;obtain ⟨h1,h2⟩:=ih L E p H;exact FT (lg h1 (nM hp (.inl rfl))) h2 hz qpK qpK
 |itBad=>
  intro L E p H z hz hzz;obtain ⟨f,hf⟩:=H.cons.1;exact Gu hf rfl hz qpK
 |@itSpan k c r d s _ _ hc hr=>
  intro L E p H z hz hzz;obtain ⟨f,hf⟩:=H.cons.1;obtain ⟨g,hg⟩:=H.cons.2.cons.2.cons.1;exact DI k hf rfl H.cons.2.mark hg rfl hc hr
 |@last k t s ts _ ih=>
  intro L E p H;have e:p+(ts++[mkT [41]]).length=p+ts.length+1:=qnu;rw [e];exact .last (ih L E p H.left _ H.right.mark (.inr rfl)) H.right.mark
 |@more k t ks s s' ts ts' _ _ ih ih'=>
  intro L E p H;have e:p+(ts++mkT [44]::ts').length=p+ts.length+1+ts'.length:=qnu;rw [e];exact .more (ih L E p H.left _ H.right.mark (.inl rfl)) H.right.mark (ih' L E _ H.right.cons.2)
theorem Fr {a b:Option Res} {x y:Res} (h:Le a b) (ha:a=ZV x) (hb:b=ZV y):x=y:=by
 have:=h x ha;rw [hb] at this;exact (Option.some.inj this).symm
theorem JH {L:List Tok} {E lev p k j:Nat} {x y:Res} (h:ak L E k lev p=ZV x) (g:ak L E j lev p=ZV y):x=y:=by
 rcases Nat.le_total k j with e|e
 ·exact Fr ((fo L E k j e).line lev p) h g
 ·exact (Fr ((fo L E j k e).line lev p) g h).symm
theorem LF {L:List Tok} {E k:Nat} {x:Res} (h:ak L E k 1 0=ZV x):ep L E=ZV x:=by
 obtain ⟨y,hy,_⟩:=ja L E;rw [hy,JH h hy]
theorem DS (L:List Tok):aJ L L.length=0:=by
 unfold aJ;rw [List.getElem?_eq_none qd]
theorem I1 {L ts:List Tok} (h:L.map bareT=ts):dK L 0 ts:=by
 intro i t hi;subst h;rw [List.getElem?_map] at hi;obtain ⟨u,hu,rfl⟩:=Option.map_eq_some_iff.1 hi;exact ⟨u.frm,(by rw [Nat.zero_add,hu];rfl)⟩
theorem Eb {L ts:List Tok} {t:Tr} (E:Nat) (hp:Pr .tree t s ts) (h:L.map bareT=ts):ep L E=ZV (.ok t L.length):=by
 obtain ⟨h1,_⟩:=Ns hp L E 0 (I1 h);have e:0+ts.length=L.length:=(by rw [<-h];simp);rw [e] at h1;obtain ⟨k,hk⟩:=(lg h1 (nM hp (.inl rfl))).line 1 qd qd qoq (by rw [DS];omega);exact LF hk
section
open Go.Lib
theorem wn {p:Nat} {m:Int} (h1:¬isFig (l.getD p 0)=Zy) (h2:¬(65<=(l.getD p 0).toNat/\(l.getD p 0).toNat<=90)) (h3:¬ar l p 4=[35,82,69,70]) (hm:au l p=m) (h0:¬m=0) (hx:ar l p m.toNat=x):
 aD l p=ZV (⟨5,0,0,0,x,p⟩,m.toNat):=by
 unfold aD;rw [if_neg h1,if_neg h2,if_neg h3,hm,if_neg h0,hx]
theorem L9 {p u:Nat} (h1:isFig (l.getD p 0)=Zy) (hr:aH isFig l p=n) (hu:dX (ar l p n)=ZV u):aD l p=ZV (⟨1,(u:Int),0,0,[],p⟩,n):=by
 unfold aD;rw [if_pos h1,hr,hu]
theorem Ks {p:Nat} (h1:¬isFig (l.getD p 0)=Zy) (h2:¬(65<=(l.getD p 0).toNat/\(l.getD p 0).toNat<=90)) (h3:ar l p 4=[35,82,69,70]):aD l p=ZV (⟨3,0,0,0,[],p⟩,4):=by
 unfold aD;rw [if_neg h1,if_neg h2,if_pos h3]
theorem JT {p:Nat} (h1:¬isFig (l.getD p 0)=Zy) (h2:65<=(l.getD p 0).toNat/\(l.getD p 0).toNat<=90) (hr:aH bB l p=n) (hx:ar l p n=x) (hw:bP x=Zy):aD l p=ZV (⟨4,0,0,0,x,p⟩,n):=by
 unfold aD;rw [if_neg h1,if_pos h2,hr,hx,if_pos hw]
theorem EN {p:Nat} {r:Int} (h1:¬isFig (l.getD p 0)=Zy) (h2:65<=(l.getD p 0).toNat/\(l.getD p 0).toNat<=90) (hr:aH bB l p=n) (hx:ar l p n=x) (hw:¬bP x=Zy)
 (h:prC x=c/\prR x=r/\prE x=0):aD l p=ZV (⟨2,0,c,r,[],p⟩,n):=by
 unfold aD;rw [if_neg h1,if_pos h2,hr,hx,if_neg hw,if_pos h.2.2,h.1,h.2.1]
def dV (r:Nat):List UInt8:=if r<9 then [UInt8.ofNat (48+(r+1))] else [UInt8.ofNat (48+(r+1) / 10),UInt8.ofNat (48+(r+1) % 10)]
theorem Hl:∀r:Fin 64,Lib.decFrom 0 (dV r.val)=ZV (r.val+1)/\dV r.val≠[]/\(dV r.val).head? ≠ZV 48:=by decide+kernel
theorem sx (r:Nat) (h:r<64):Lib.decDigits (r+1)=dV r:=by
 obtain ⟨h1,h2,h3⟩:=Hl ⟨r,h⟩;exact jh (dV r).length (dV r) (r+1) rfl h1 h2 (.inl h3)
theorem Iy:∀c:Fin 16,∀r:Fin 64,aN (UInt8.ofNat (65+c.val)::dV r.val)=Zy:=by decide+kernel
theorem Cj {r:Int} (h:rightB c r=Zy):prC (am c r)=c/\prR (am c r)=r/\prE (am c r)=0:=by
 obtain ⟨c0,c1,r0,r1⟩:=(bp c r).1 h;have e:=qih;have e2:r+1=((r.toNat+1:Nat):Int):=qoq;rw [e,e2,Lib.itoa_nonneg,sx r.toNat qoq];have hf:aN (dm c::dV r.toNat)=Zy:=Iy ⟨c.toNat,qoq⟩ ⟨r.toNat,qoq⟩;have hl:=gU c c0 c1;obtain ⟨p1,p2,p3⟩:=tA hf qoq qoq (u:=r.toNat+1) qoq qoq (sx r.toNat qoq);exact ⟨by rw [p1];omega,(by rw [p2];omega),p3⟩


theorem sO {f:UInt8->Bool} (hx:∀c∈x,f c=Zy) (hz:∀c,z.head? =ZV c->f c=Zz):aH f (x++z) 0=x.length:=by
 unfold aH;rw [List.drop_zero]
 have hz':z.takeWhile f=[]:=by
  cases z with
  |nil=>rfl
  |cons c t=>rw [List.takeWhile_cons,hz c rfl];rfl
 have:(x++z).takeWhile f=x:=by
  induction x with
  |nil=>simpa using hz'
  |cons c t ih=>
   rw [List.cons_append,List.takeWhile_cons,hx c qns];simp only [if_true];rw [ih fun d hd=>hx d (by simp [hd])]
 rw [this]
theorem nG (x z:List UInt8):ar (x++z) 0 x.length=x:=by
 unfold ar;rw [List.drop_zero,List.take_left'];rfl
theorem kJ {u:Nat}:∀{l:List UInt8} {acc:Nat},decFrom acc l=ZV u->∀c∈l,isFig c=Zy
 |[],_,_,c,hc=>by cases hc
 |b::l,acc,h,c,hc=>by
  simp only [decFrom] at h;cases hd:digitVal b with
  |none=>rw [hd] at h;cases h
  |some d=>
   rw [hd] at h;rcases List.mem_cons.1 hc with rfl|hc
   ·unfold digitVal at hd
    split at hd
    ·rename_i hb;exact decide_eq_true hb
    ·cases hd
   ·exact kJ h c hc
theorem LV (hx:x≠[]):(x++z).getD 0 0=x.head hx:=by
 cases x with
 |nil=>exact absurd rfl hx
 |cons c t=>rfl
theorem yT (n:Nat):decDigits n≠[]:=by
 intro h;have a:=cB n;rw [h] at a;have:n=0:=(by simpa [decFrom] using a.symm);subst this;rw [gu] at h;cases h
theorem Kv (hn:n<=9223372036854775807) (hz:∀c,z.head? =ZV c->isFig c=Zz):aD (decDigits n++z) 0=ZV (⟨1,(n:Int),0,0,[],0⟩,(decDigits n).length):=by
 have hf:=kJ (cB n);refine L9 ?_ (sO hf hz) ?_
 ·rw [LV (yT n)];exact hf _ (List.head_mem _)
 ·rw [nG]
  unfold dX;rw [cB];simp only;rw [if_pos hn]
theorem Ly:∀c:Fin 16,∀r:Fin 64,(UInt8.ofNat (65+c.val)::dV r.val).all bB=Zy/\bP (UInt8.ofNat (65+c.val)::dV r.val)=Zz/\isFig (UInt8.ofNat (65+c.val))=Zz/\65<=(UInt8.ofNat (65+c.val)).toNat/\(UInt8.ofNat (65+c.val)).toNat<=90:=by decide+kernel
theorem EA {r:Int} (h:rightB c r=Zy) (hz:∀c,z.head? =ZV c->bB c=Zz):aD (am c r++z) 0=ZV (⟨2,0,c,r,[],0⟩,(am c r).length):=by
 have hp:=Cj h;obtain ⟨c0,c1,r0,r1⟩:=(bp c r).1 h;obtain ⟨g1,g2,g3,g4,g5⟩:=Ly ⟨c.toNat,qoq⟩ ⟨r.toNat,qoq⟩
 have e:am c r=dm c::dV r.toNat:=by
  have e1:am c r=dm c::Lib.itoa (r+1):=if_pos h;have e2:r+1=((r.toNat+1:Nat):Int):=qoq;rw [e1,e2,Lib.itoa_nonneg,sx r.toNat qoq]
 rw [e] at hp ⊢;refine EN (x:=dm c::dV r.toNat) ?_ ?_ (sO (List.all_eq_true.1 g1) hz) (nG _ _) ?_ hp
 ·show ¬isFig (dm c)=Zy
  unfold dm;rw [g3];decide
 ·exact ⟨g4,g5⟩
 ·show ¬bP (UInt8.ofNat (65+c.toNat)::dV r.toNat)=Zy
  rw [g2];decide
theorem Jr (hw:bP w=Zy) (hz:∀c,z.head? =ZV c->bB c=Zz):aD (w++z) 0=ZV (⟨4,0,0,0,w,0⟩,w.length):=by
 have hc:w=[73,70]\/w=[83,85,77]\/w=[77,73,78]\/w=[77,65,88]\/w=[67,79,85,78,84]:=by
  unfold bP at hw;simpa [or_assoc] using hw
 have hn:∀c∈w,bB c=Zy:=(by rcases hc with rfl|rfl|rfl|rfl|rfl<;>decide)
 refine JT ?_ ?_ (sO hn hz) (nG _ _) hw
 ·rcases hc with rfl|rfl|rfl|rfl|rfl<;>simp [isFig]
 ·rcases hc with rfl|rfl|rfl|rfl|rfl<;>simp
theorem KE (z:List UInt8):aD ([35,82,69,70]++z) 0=ZV (⟨3,0,0,0,[],0⟩,4):=Ks (show ¬isFig 35=Zy by decide) (show ¬(65<=(35:UInt8).toNat/\(35:UInt8).toNat<=90) by decide) rfl
def j9 (z:List UInt8):Prop:=∀c,z.head? =ZV c->bB c=Zz
theorem j9.fig (h:j9 z):∀c,z.head? =ZV c->isFig c=Zz:=fun c hc=>by
 have:=h c hc;unfold bB at this;unfold isFig;simp only [decide_eq_false_iff_not] at this ⊢;omega
theorem j9.nil:j9 []:=fun c h=>by cases h
theorem zP {c:UInt8} (h:bB c=Zz):j9 (c::z):=fun d hd=>by cases hd;exact h
def Beg (s:List UInt8):Prop:=∃c r,s=c::r/\c≠61/\c≠62/\c≠32
theorem vj {o:Nat} {t:Tok} {zs:List Tok} (hx:∃c r,x=c::r/\c≠32) (ho:aD (x++z) 0=ZV (t,x.length)) (hl:Lex z (o+x.length) zs):Lex (x++z) o ({ t with frm:=o }::zs):=by
 obtain ⟨c,r,rfl,hc⟩:=hx;refine .tok qns (by simpa using hc) ho ?_;rw [List.drop_left']
 ·exact hl
 ·rfl
theorem ru {c:UInt8} (h:c=45\/c=40\/c=41\/c=44\/c=58):aD ([c]++z) 0=ZV (mkT [c],1):=by
 have hm:∀d,bw c d=1:=fun d=>by rcases h with rfl|rfl|rfl|rfl|rfl<;>simp [bw]
 have:=wn (l:=[c]++z) (p:=0) (m:=1) (x:=[c]) (by rcases h with rfl|rfl|rfl|rfl|rfl<;>simp [isFig]) (by rcases h with rfl|rfl|rfl|rfl|rfl<;>simp) (by rcases h with rfl|rfl|rfl|rfl|rfl<;>simp [ar]) (hm _) qnv (by simp [ar]);exact this
theorem M1 (h:1<=lvl w) (hz:Beg z):aD (w++z) 0=ZV (mkT w,w.length):=by
 obtain ⟨d,r,rfl,h1,h2,_⟩:=hz
 have key:∀(m:Int),m.toNat=w.length->¬m=0->au (w++d::r) 0=m->aD (w++d::r) 0=ZV (mkT w,w.length):=fun m hm h0 hn=>by
  have hx:ar (w++d::r) 0 m.toNat=w:=(by rw [hm];exact nG _ _);have:=wn (l:=w++d::r) (p:=0) (m:=m) (x:=w) (by rcases fK h with e|e|e|e|e|e|e|e|e|e<;>subst e<;>simp [isFig]) (by rcases fK h with e|e|e|e|e|e|e|e|e|e<;>subst e<;>simp) (by rcases fK h with e|e|e|e|e|e|e|e|e|e<;>subst e<;>simp [ar]) hn h0 hx;rw [hm] at this;exact this
 rcases fK h with e|e|e|e|e|e|e|e|e|e<;>subst e
 ·exact key 1 rfl qnv (by simp [au,bw,h1,h2])
 ·exact qne
 ·exact qnf
 ·exact qne
 ·exact qne
 ·exact key 1 rfl qnv (by simp [au,bw,h1])
 ·exact qnf
 ·exact qnf
 ·exact qnf
 ·exact qnf
theorem KN (h:1<=lvl w):j9 (w++z):=by
 rcases fK h with e|e|e|e|e|e|e|e|e|e<;>subst e<;>exact zP qnv
theorem MG (h:1<=lvl w):∃c r,w=c::r/\c≠32:=by
 rcases fK h with e|e|e|e|e|e|e|e|e|e<;>subst e<;>exact ⟨_,_,rfl,qnv⟩
theorem Beg.app (h:Beg s) (z:List UInt8):Beg (s++z):=by
 obtain ⟨c,r,rfl,hc⟩:=h;exact ⟨c,r++z,rfl,hc⟩
theorem Beg.ne (h:Beg s):∃c r,s=c::r/\c≠32:=by
 obtain ⟨c,r,rfl,h1,h2,h3⟩:=h;exact ⟨c,r,rfl,h3⟩
theorem zl (n:Nat):Beg (decDigits n):=by
 have hf:=kJ (cB n);cases e:decDigits n with
 |nil=>exact absurd e (yT n)
 |cons c r=>
  have:=hf c qpx;unfold isFig at this;simp only [decide_eq_true_eq] at this;exact ⟨c,r,rfl,qpX,qpX,qpX⟩
theorem nc {r:Int} (h:rightB c r=Zy):Beg (am c r):=by
 obtain ⟨c0,c1,r0,r1⟩:=(bp c r).1 h;have e:=qih;have hl:=gU c c0 c1;rw [e];exact ⟨_,_,rfl,qpn,qpn,qpn⟩
theorem Nt {md:fS} {t:Tr} {ts:List Tok} (h:Pr md t s ts):Beg s:=by
 induction h with
 |num _=>exact zl _
 |read h=>exact nc h
 |bad=>exact qng
 |neg=>exact qng
 |op _ _ _ ih _=>exact ih.app _
 |plain _ _ ih=>exact ih
 |brk=>exact qng
 |cif=>exact qng
 |call hw=>rcases hw with rfl|rfl|rfl|rfl<;>exact ⟨_,_,rfl,qnv,qnv,qnv⟩
 |itT _ ih=>exact ih
 |itBad=>exact qng
 |itSpan h=>exact (nc h).app _
 |last _ ih=>exact ih.app _
 |more _ _ ih _=>exact ih.app _
def eQ (s:List UInt8) (ts:List Tok):Prop:=∀(z:List UInt8) (o:Nat) (zs:List Tok),j9 z->Lex z (o+s.length) zs->∃us,Lex (s++z) o (us++zs)/\us.map bareT=ts
theorem eQ.one {t:Tok} (hx:∃c r,x=c::r/\c≠32) (ho:∀z,j9 z->aD (x++z) 0=ZV (t,x.length)) (hb:bareT t=t):eQ x [t]:=fun z o zs hz hl=>
 ⟨[{ t with frm:=o }],vj hx (ho z hz) hl,(by show [bareT t]=[t];rw [hb])⟩
theorem eQ.app {ts:List Tok} (hx:eQ x ts) (hy:eQ y us) (hf:∀z,j9 (y++z)):eQ (x++y) (ts++us):=fun z o zs hz hl=>by
 obtain ⟨b,hb,eb⟩:=hy z (o+x.length) zs hz qqg;obtain ⟨a,ha,ea⟩:=hx (y++z) o (b++zs) (hf z) hb;refine ⟨a++b,?_,(by rw [List.map_append,ea,eb])⟩;rw [List.append_assoc,List.append_assoc];exact ha
theorem eQ.head {t:Tok} (hx:∃c r,x=c::r/\c≠32) (ho:∀z,aD (x++(y++z)) 0=ZV (t,x.length)) (hb:bareT t=t) (hy:eQ y us):eQ (x++y) (t::us):=fun z o zs hz hl=>by
 obtain ⟨b,hb',eb⟩:=hy z (o+x.length) zs hz qqg;refine ⟨{ t with frm:=o }::b,?_,(by rw [List.map_cons,eb];show bareT t::us=t::us;rw [hb])⟩;rw [List.append_assoc];exact vj hx (ho z) hb'
theorem ng {c:UInt8} (h:c=45\/c=40\/c=41\/c=44\/c=58):eQ [c] [mkT [c]]:=
 .one ⟨c,[],rfl,qpc⟩ (fun _ _=>ru h) rfl
theorem eQ.mark {c:UInt8} (h:c=45\/c=40\/c=41\/c=44\/c=58) (hy:eQ y us):eQ (c::y) (mkT [c]::us):=
 eQ.head (x:=[c]) ⟨c,[],rfl,qpc⟩ (fun _=>ru h) rfl hy
theorem lJ {r:Int} (h:rightB c r=Zy):eQ (am c r) [rp c r]:=.one (nc h).ne (fun _ hz=>EA h hz) rfl
theorem eV {c:UInt8} (h:c=45\/c=40\/c=41\/c=44\/c=58):j9 (c::y++z):=zP qpc
theorem s8 (hw:bP w=Zy) (hy:eQ y us):eQ (w++40::y) (kp w::mkT [40]::us):=by
 have hc:w=[73,70]\/w=[83,85,77]\/w=[77,73,78]\/w=[77,65,88]\/w=[67,79,85,78,84]:=by
  unfold bP at hw;simpa [or_assoc] using hw
 exact eQ.head (by rcases hc with rfl|rfl|rfl|rfl|rfl<;>exact ⟨_,_,rfl,qnv⟩) (fun z=>Jr hw (eV (.inr (.inl rfl)))) rfl (hy.mark (.inr (.inl rfl)))
theorem Oh {md:fS} {t:Tr} {ts:List Tok} (h:Pr md t s ts):eQ s ts:=by
 induction h with
 |@num n hn=>exact .one (zl n).ne (fun _ hz=>Kv hn hz.fig) rfl
 |read h=>exact lJ h
 |bad=>exact qnh
 |neg _ ih=>exact ih.mark (.inl rfl)
 |@op w sa sb a b ta tb hw _ hb iha ihb=>
  exact iha.app (eQ.head (MG hw) (fun z=>M1 hw ((Nt hb).app z)) rfl ihb) fun z=>by rw [List.append_assoc];exact KN hw
 |plain _ _ ih=>exact ih
 |brk _ _ _ ih=>exact (ih.app (ng (.inr (.inr (.inl rfl)))) fun z=>eV (.inr (.inr (.inl rfl)))).mark (.inr (.inl rfl))
 |cif _ _ _ iha ihb ihc=>
  have hC:=ihc.app (ng (c:=41) (.inr (.inr (.inl rfl)))) fun z=>eV (.inr (.inr (.inl rfl)))
  have hB:=ihb.app (hC.mark (c:=44) (.inr (.inr (.inr (.inl rfl))))) fun z=>eV (.inr (.inr (.inr (.inl rfl))))
  have hA:=iha.app (hB.mark (c:=44) (.inr (.inr (.inr (.inl rfl))))) fun z=>eV (.inr (.inr (.inr (.inl rfl))))
  exact s8 (w:=[73,70]) qnv hA
 |@call w s ks ts hw _ ih=>exact s8 qpf ih
 |itT _ ih=>exact ih
 |itBad=>exact qnh
 |itSpan h1 h2 _ _=>exact (lJ h1).app ((lJ h2).mark (.inr (.inr (.inr (.inr rfl))))) fun z=>eV (.inr (.inr (.inr (.inr rfl))))
 |last _ ih=>exact ih.app (ng (.inr (.inr (.inl rfl)))) fun z=>eV (.inr (.inr (.inl rfl)))
 |more _ _ ih ih'=>exact ih.app (ih'.mark (.inr (.inr (.inr (.inl rfl))))) fun z=>eV (.inr (.inr (.inr (.inl rfl))))
theorem Mm {t:Tr} {ts:List Tok} (h:Pr .tree t s ts) (hl:s.length<=200):cF s=0/\(aE s).map bareT=ts/\∀E,ep (aE s) E=ZV (.ok t (aE s).length):=by
 obtain ⟨us,h1,h2⟩:=Oh h [] 0 [] j9.nil (.nil _);rw [List.append_nil,List.append_nil] at h1;obtain ⟨h3,h4⟩:=Lc h1 hl;refine ⟨h4,(by rw [h3];exact h2),fun E=>?_⟩;rw [h3];exact Eb E h h2
end
def MoT (t:Tr) (s:List UInt8):fS->Prop
 |.tree=>s=txT t
 |.wi m=>s=txW m t (txT t)
 |.item _=>s=txT t
 |.its _=>t.kZ≠[]/\s=txJ (txL t.kZ)
theorem Oq {md:fS} {t:Tr} {ts:List Tok} (h:Pr md t s ts):MoT t s md:=by
 induction h with
 |@num n _=>show _=txT (ik n);unfold ik;rw [txT];simp
 |@read c r _=>show _=txT (fG c r);unfold fG;rw [txT];simp
 |bad=>show _=txT bK;unfold bK;rw [txT];simp
 |@neg a s ts _ ih=>
  have ih:s=txW 4 a (txT a):=ih;show _=txT (jM a);unfold jM;rw [txT];simp [cx,dU,ih]
 |@op w sa sb a b ta tb _ _ _ iha ihb=>
  have iha:sa=txW (lvl w) a (txT a):=iha;have ihb:sb=txW (lvl w+1) b (txT b):=ihb;show _=txT (opT w a b);unfold opT;rw [txT];simp [cx,dU,iha,ihb]
 |@plain m t s ts _ hle ih=>
  have ih:s=txT t:=ih;show _=txW m t (txT t)
  unfold txW;rw [if_neg (fun ⟨a,b⟩=>by have:=hle a;omega),ih]
 |@brk m t s ts _ hk hlt ih=>
  have ih:s=txT t:=ih;show _=txW m t (txT t)
  unfold txW;rw [if_pos ⟨hk,hlt⟩,ih]
 |@cif a b c sa sb sc ta tb tc _ _ _ iha ihb ihc=>
  have iha:sa=txT a:=iha;have ihb:sb=txT b:=ihb;have ihc:sc=txT c:=ihc;show _=txT (ba [73,70] [a,b,c]);unfold ba;rw [txT];simp [cx,dU,txJ,iha,ihb,ihc]
 |@call w s ks ts _ _ ih=>
  obtain ⟨_,ih⟩:=ih;have ih:s=txJ (txL ks):=ih;show _=txT (ba w ks);unfold ba;rw [txT];simp [ih]
 |itT _ ih=>exact ih
 |itBad=>show _=txT bK;unfold bK;rw [txT];simp
 |@itSpan k c r d s _ _ _ _=>show _=txT (fg c r d s);unfold fg;rw [txT];simp
 |@last k t s ts _ ih=>
  have ih:s=txT t:=ih;refine ⟨qpv,?_⟩;show _=txJ (txL [t])
  rw [cx,dU,ih];rfl
 |@more k t ks s s' ts ts' _ _ ih ih'=>
  have ih:s=txT t:=ih;obtain ⟨hne,ih'⟩:=ih';have hne:ks≠[]:=hne;have ih':s'=txJ (txL ks):=ih';refine ⟨qpv,?_⟩;show _=txJ (txL (t::ks))
  cases ks with
  |nil=>exact absurd rfl hne
  |cons u r=>
   rw [cx,cx,ih,ih',cx];rfl
theorem N6 {t:Tr} (h0:t.kY=u.kY) (h1:t.num=u.num) (h2:t.c1=u.c1) (h3:t.r1=u.r1) (h4:t.c2=u.c2) (h5:t.r2=u.r2) (h6:t.wZ=u.wZ) (h7:t.kZ=u.kZ):t=u:=by
 cases t;cases u;simp only [Tr.kY,Tr.num,Tr.c1,Tr.r1,Tr.c2,Tr.r2,Tr.wZ,Tr.kZ] at*;subst h0 h1 h2 h3 h4 h5 h6 h7;rfl
theorem Mx {l m:List Tr} (ha:l[i]? =ZV a) (hb:m[i]? =ZV b) (h:l.take i=m.take i) (e:a=b):l.take (i+1)=m.take (i+1):=by
 rw [List.take_add_one,List.take_add_one,ha,hb,h,e]
section
open Go.Lib
theorem NR {t:Tr} (hf:Fit t):ay t=Zy->(t.kY≠6->Ex .tree t)/\(t.kY=6->∀c,Ex (.item c) t)/\(t.kY=2->∀c,Ex (.item c) t):=by
 induction hf with
 |@mk k n c r d s w ks hn _ ih=>
  intro h;rw [ay] at h;unfold aR at h;by_cases h0:k=0
  ·subst h0
   simp at h
   obtain ⟨⟨⟨⟨⟨rfl,rfl⟩,rfl⟩,rfl⟩,rfl,rfl⟩,h⟩:=h;refine ⟨fun _=>?_,fun e=>by simp [Tr.kY] at e,fun e=>by simp [Tr.kY] at e⟩;obtain ⟨m,rfl⟩:=Int.eq_ofNat_of_zero_le h;exact ⟨_,_,.num qoq⟩
  by_cases h1:k=1
  ·subst h1
   simp at h
   obtain ⟨⟨rfl,rfl,rfl⟩,h,rfl,rfl⟩:=h;exact ⟨fun _=>⟨_,_,.read h⟩,fun e=>by simp [Tr.kY] at e,fun e=>by simp [Tr.kY] at e⟩
  by_cases h2:k=2
  ·subst h2
   simp at h
   obtain ⟨rfl,⟨⟨⟨rfl,rfl⟩,rfl⟩,rfl⟩,rfl,rfl⟩:=h;refine ⟨fun _=>⟨_,_,.bad⟩,fun e=>by simp [Tr.kY] at e,fun _ c=>?_⟩;exact qlX
  by_cases h6:k=6
  ·subst h6
   simp at h
   obtain ⟨⟨rfl,rfl,rfl⟩,⟨⟨a,b⟩,e⟩,f⟩:=h;exact ⟨fun e=>by simp [Tr.kY] at e,fun _ c=>⟨_,_,.itSpan a b e f⟩,fun e=>by simp [Tr.kY] at e⟩
  by_cases h3:k=3
  ·subst h3
   simp at h
   obtain ⟨⟨rfl,⟨⟨⟨rfl,rfl⟩,rfl⟩,rfl⟩,rfl,hk⟩,ha⟩:=h;obtain ⟨a,rfl⟩:=List.length_eq_one_iff.1 hk;have A:=qht;exact ⟨fun _=>Ex.neg ((ih a qns A.1).1 (by simpa using A.2.1)),fun e=>by simp [Tr.kY] at e,fun e=>by simp [Tr.kY] at e⟩
  by_cases h4:k=4
  ·subst h4
   simp at h
   obtain ⟨⟨rfl,⟨⟨⟨rfl,rfl⟩,rfl⟩,rfl⟩,hk⟩,ha,hw⟩:=h
   obtain ⟨a,b,rfl⟩:∃a b,ks=[a,b]:=by
    match ks,hk with
    |[a,b],_=>exact ⟨a,b,rfl⟩
   have A:=qht;have B:=fs ha b qns;exact ⟨fun _=>Ex.op hw ((ih a qns A.1).1 (by simpa using A.2.1)) ((ih b qns B.1).1 (by simpa using B.2.1)),fun e=>by simp [Tr.kY] at e,fun e=>by simp [Tr.kY] at e⟩
  by_cases h5:k=5
  ·subst h5
   rw [if_neg qnv,if_neg qnv,if_neg qnv,if_neg qnv,if_neg qnv,if_neg qnv,if_pos rfl,Bool.and_eq_true] at h;obtain ⟨ho,h⟩:=h;rw [Bool.and_eq_true] at h;obtain ⟨ha,hif⟩:=h;simp at ho
   obtain ⟨rfl,⟨⟨⟨rfl,rfl⟩,rfl⟩,rfl⟩⟩:=ho;refine ⟨fun _=>?_,fun e=>by simp [Tr.kY] at e,fun e=>by simp [Tr.kY] at e⟩;have M:=fs ha;by_cases hw:w=[73,70]
   ·subst hw
    rw [if_pos rfl,beq_iff_eq] at hif
    obtain ⟨a,b,c,rfl⟩:∃a b c,ks=[a,b,c]:=by
     match ks,hif with
     |[a,b,c],_=>exact ⟨a,b,c,rfl⟩
    have T:∀t∈[a,b,c],Ex .tree t:=fun t ht=>(ih t ht (M t ht).1).1 (by simpa using (M t ht).2.1)
    obtain ⟨_,_,A⟩:=T a qns;obtain ⟨_,_,B⟩:=T b qns;obtain ⟨_,_,C⟩:=T c qns;exact ⟨_,_,.cif A B C⟩
   ·rw [if_neg hw] at hif
    split at hif
    ·rename_i hc
     have hne:ks≠[]:=by
      rintro rfl;simp at hif
     obtain ⟨_,_,I⟩:=wt (k:=w==[67,79,85,78,84]) ks hne fun t ht=>by
      obtain ⟨m1,_,m3⟩:=M t ht;obtain ⟨i1,i2,i3⟩:=ih t ht m1;by_cases e6:t.kY=6
      ·exact i2 e6 _
      ·by_cases e2:t.kY=2
       ·exact i3 e2 _
       ·rcases m3 with m|m|m
        ·rw [m]
         obtain ⟨_,_,X⟩:=i1 e6;exact ⟨_,_,.itT X⟩
        ·exact absurd m e6
        ·exact absurd m e2
     exact ⟨_,_,.call hc I⟩
    ·cases hif
  ·simp [h0,h1,h2,h3,h4,h5,h6] at h
end
theorem JA {t:Tr} (h0:cF l=0) (ht:ep (aE l) l.length=ZV (.ok t (aE l).length)):aL l=if 16<aG t then .fail 0 6 else .good t:=by
 unfold aL;rw [if_neg (fun g=>g h0),ht];dsimp only;rw [if_neg (Nat.lt_irrefl _)]
theorem AU {t:Tr} (hf:Fit t) (hr:bz t=Zy) (hs:¬(200:Int)<((⟨(aX t).toArray⟩:ByteArray).size:Int)):aL (⟨(aX t).toArray⟩:ByteArray).data.toList=.good t:=by
 obtain ⟨h6,h16,hm⟩:=(ey t).1 hr;obtain ⟨s,ts,hp⟩:=(NR hf hm).1 h6;have hs2:s=txT t:=Oq hp;subst hs2;have e:(⟨(aX t).toArray⟩:ByteArray).data.toList=txT t:=(by unfold aX;rw [if_pos hr])
 have hl:(txT t).length<=200:=by
  rw [<-aq,e] at hs;omega
 rw [e];obtain ⟨h0,_,ht⟩:=Mm hp hl;rw [JA h0 (ht _),if_neg qoq]
def lS (t:Tr):Prop:=(txT t).length<=140737488355328->∀(w:Z3) (A:Option Addr) (ca:Nat),KV w (fun _=>True) t A->
 Calls ZW 89 #[.agg (Ku.k t A ca)] w fun e w'=>e=ZX (Zx ⟨(txT t).toArray⟩)/\Z2 w.heap.size w w'
theorem FA (l:List UInt8):((⟨#[40]⟩:ByteArray)++⟨l.toArray⟩++(⟨#[41]⟩:ByteArray))=⟨(40::(l++[41])).toArray⟩:=by
 apply ByteArray.ext;simp [ByteArray.data_append]
theorem uA (t:Tr) (hT:lS t) (hlen:t.kZ.length<=maxLen) (hl:(txT t).length<=140737488355328) (m:Int) (h4:(t.kY==4)=Zz) (w:Z3) (A:Option Addr) (ca:Nat) (hA:KV w (fun _=>True) t A):
 Calls ZW 140 #[.agg (Ku.k t A ca),ZZ ZY m] w fun e w'=>e=ZX (Zx ⟨(txT t).toArray⟩)/\Z2 w.heap.size w w':=by
 have h0:=qbi;have H:=qgR;unfold maxLen at hlen;have hsz:=qfI;generalize (⟨(txT t).toArray⟩:ByteArray)=S at*;clear hT hA h0 hl;go_enter func140,ntmps140;go_wp2_with fail;refine .mono qrz ?_;rintro e w1 ⟨rfl,b1⟩;obtain ⟨k10,k16⟩:=qdI;have h1:=qab;clear b1;go_wp2_with fail;go_ret;exact ⟨rfl,h1⟩
theorem AQ (t:Tr) (hT:lS t) (hlen:t.kZ.length<=maxLen) (hl:(txT t).length<=140737488355328) (m:Int) (h4:(t.kY==4)=Zy) (b:Bool) (hb:decide ((lvl t.wZ:Int)<m)=b) (w:Z3) (A:Option Addr) (ca:Nat) (hA:KV w (fun _=>True) t A):
 Calls ZW 140 #[.agg (Ku.k t A ca),ZZ ZY m] w fun e w'=>e=ZX (.string (if b=Zy then (⟨#[40]⟩:ByteArray)++⟨(txT t).toArray⟩++(⟨#[41]⟩:ByteArray) else ⟨(txT t).toArray⟩))/\Z2 w.heap.size w w':=by
 have h0:=qbi;have H:=qgR;obtain ⟨HL,hw⟩:=qfU;rw [hw] at HL;have hlv:=rP t.wZ;unfold maxLen at hlen;have hsz:=qfI;generalize (⟨(txT t).toArray⟩:ByteArray)=S at*;clear hT hA h0 hl;cases b with
 |true=>
  exact qjg
 |false=>
  exact qjg
theorem kD (t:Tr) (hT:lS t) (hlen:t.kZ.length<=maxLen) (hl:(txT t).length<=140737488355328) (m:Nat) (w:Z3) (A:Option Addr) (ca:Nat) (hA:KV w (fun _=>True) t A):
 Calls ZW 140 #[.agg (Ku.k t A ca),ZZ ZY (m:Int)] w fun e w'=>e=ZX (Zx ⟨(txW m t (txT t)).toArray⟩)/\Z2 w.heap.size w w':=by
 unfold txW;cases h4:(t.kY==4) with
 |false=>
  rw [if_neg (fun h=>by rw [h.1] at h4;cases h4)];exact uA t hT hlen hl m h4 w A ca hA
 |true=>
  have e4:t.kY=4:=qqa;have h:=AQ t hT hlen hl m h4 _ rfl w A ca hA;by_cases hm:lvl t.wZ<m
  ·rw [if_pos ⟨e4,hm⟩]
   rw [decide_eq_true (show (lvl t.wZ:Int)<(m:Int) by omega),if_pos rfl,FA] at h;exact h
  ·rw [if_neg (fun h=>hm h.2)]
   rw [decide_eq_false (show ¬(lvl t.wZ:Int)<(m:Int) by omega),if_neg qnv] at h;exact h
theorem dR (l m:List UInt8):((⟨l.toArray⟩:ByteArray)++⟨m.toArray⟩)=⟨(l++m).toArray⟩:=ByteArray.mk_append_mk l m
theorem fY (l:List UInt8):(⟨l.toArray⟩:ByteArray).size=l.length:=by simp [ByteArray.size]
set_option maxHeartbeats 1000001 in
theorem Eo (t:Tr) (hlen:t.kZ.length<=maxLen) (y:(t.kY==0)=Zy) (hn:B64 t.num) (w:Z3) (A:Option Addr) (ca:Nat):
 Calls ZW 89 #[.agg (Ku.k t A ca)] w fun e w'=>e=ZX (Zx ⟨(Lib.itoa t.num).toArray⟩)/\Z2 w.heap.size w w':=by
 have H:=qf (fun w=>tt t.num hn w);unfold maxLen at hlen;clear hn;go_enter func89,ntmps89;go_wp2_with fail;refine Calls.mono (H.out _) ?_;rintro e w1 ⟨rfl,b1⟩;have h1:=qab;clear b1;go_wp2_with fail;go_ret;exact ⟨rfl,h1⟩
set_option maxHeartbeats 1000001 in
theorem C5 (t:Tr) (hlen:t.kZ.length<=maxLen) (n0:(t.kY==0)=Zz) (y:(t.kY==1)=Zy) (w:Z3) (A:Option Addr) (ca:Nat):
 Calls ZW 89 #[.agg (Ku.k t A ca)] w fun e w'=>e=ZX (Zx ⟨(am t.c1 t.r1).toArray⟩)/\Z2 w.heap.size w w':=by
 have H:=qf (fun w=>ig t.c1 t.r1 w);unfold maxLen at hlen;go_enter func89,ntmps89;go_wp2_with fail;refine Calls.mono (H.out _) ?_;rintro e w1 ⟨rfl,b1⟩;have h1:=qab;clear b1;go_wp2_with fail;go_ret;exact ⟨rfl,h1⟩
set_option maxHeartbeats 1000001 in
theorem BM (t:Tr) (hlen:t.kZ.length<=maxLen) (n0:(t.kY==0)=Zz) (n1:(t.kY==1)=Zz) (y:(t.kY==6)=Zy) (w:Z3) (A:Option Addr) (ca:Nat):
 Calls ZW 89 #[.agg (Ku.k t A ca)] w fun e w'=>e=ZX (.string (⟨(am t.c1 t.r1).toArray⟩++(⟨#[58]⟩:ByteArray)++⟨(am t.c2 t.r2).toArray⟩))/\Z2 w.heap.size w w':=by
 have H:=qf (fun w=>ig t.c1 t.r1 w);have G:=qf (fun w=>ig t.c2 t.r2 w);have l1:(⟨(am t.c1 t.r1).toArray⟩:ByteArray).size<=100:=qrn;have l2:(⟨(am t.c2 t.r2).toArray⟩:ByteArray).size<=100:=qrn;generalize (⟨(am t.c1 t.r1).toArray⟩:ByteArray)=S1 at*;generalize (⟨(am t.c2 t.r2).toArray⟩:ByteArray)=S2 at*;unfold maxLen at hlen;have hcA:∀w,(Op.stringOp .add S1 ⟨#[58]⟩).run ZW w=.ok (.string (S1++(⟨#[58]⟩:ByteArray))) w:=fun w=>run_string_add_sum w S1 ⟨#[58]⟩ (by have:(⟨#[58]⟩:ByteArray).size=1:=rfl;omega)
 have hcB:∀w,(Op.stringOp .add (S1++(⟨#[58]⟩:ByteArray)) S2).run ZW w=.ok (.string (S1++(⟨#[58]⟩:ByteArray)++S2)) w:=fun w=>run_string_add_sum w _ S2 (by have:(⟨#[58]⟩:ByteArray).size=1:=rfl;rw [ByteArray.size_append];omega)
 have h0:=qhU;obtain ⟨_,_,a2,a3,a4,a5,_,_⟩:=dQ (heap_alloc_new w (.cells (Ku.k t A ca) 33));go_enter func89,ntmps89;go_wp2_with fail;generalize w.alloc (.cells (Ku.k t A ca) 33)=w0 at*
 go_region_held3 (fun w'=>w'.cell? ⟨w.heap.size,2,ZU⟩=ZV (ZZ ZY t.c1)/\w'.cell? ⟨w.heap.size,3,ZU⟩=ZV (ZZ ZY t.r1)/\w'.cell? ⟨w.heap.size,4,ZU⟩=ZV (ZZ ZY t.c2)/\w'.cell? ⟨w.heap.size,5,ZU⟩=ZV (ZZ ZY t.r2))
  (first|(simp only [World.cell?_drew];with_reducible exact ⟨a2,a3,a4,a5⟩)|with_reducible exact ⟨e2,e3,e4,e5⟩|with_reducible exact ⟨d2,d3,d4,d5⟩|fail)
  (first
  |(go_at_call 139;have x2:=d2.symm;clear x2;refine Calls.mono (G.out _) ?_;rintro e w2 ⟨rfl,b2⟩
    have e2:=aa b2 d2;have e3:=aa b2 d3;have e4:=aa b2 d4;have e5:=aa b2 d5;have h2:=qcW;clear d2 d3 d4 d5)
  |(go_at_call 139;refine Calls.mono (H.out _) ?_;rintro e w1 ⟨rfl,b1⟩
    have B1:Z2 w0.heap.size w0 w1:=(Below.refl _ w0).drew.trans b1;have d2:=aa B1 a2;have d3:=aa B1 a3;have d4:=aa B1 a4;have d5:=aa B1 a5;have h1:=h0.trans (B1.mono h0.size);clear a2 a3 a4 a5))
 all_goals go_wp2_with fail
 all_goals go_ret
 all_goals exact ⟨rfl,h2⟩
set_option maxHeartbeats 1000001 in
theorem F4 (t:Tr) (hlen:t.kZ.length<=maxLen) (y:(t.kY==2)=Zy) (n0:(t.kY==0)=Zz) (n1:(t.kY==1)=Zz) (n6:(t.kY==6)=Zz) (n3:(t.kY==3)=Zz) (n4:(t.kY==4)=Zz) (n5:(t.kY==5)=Zz) (w:Z3) (A:Option Addr) (ca:Nat):
 Calls ZW 89 #[.agg (Ku.k t A ca)] w fun e w'=>e=ZX (Zx ⟨[35,82,69,70].toArray⟩)/\Z2 w.heap.size w w':=by
 unfold maxLen at hlen;go_enter func89,ntmps89;go_wp2_with fail;go_ret;exact ⟨rfl,qa⟩
set_option maxHeartbeats 1000001 in
theorem Et (t:Tr) (hlen:t.kZ.length<=maxLen) (hk:t.kZ.length=1) (n0:(t.kY==0)=Zz) (n1:(t.kY==1)=Zz) (n6:(t.kY==6)=Zz) (y:(t.kY==3)=Zy) (w:Z3) (g o ca:Nat) (h8:At8 w g o u A' c') (hs:s.length<=140737488355328)
 (hP:∀w1,Z2 w.heap.size w w1->Calls ZW 140 #[.agg (Ku.k u A' c'),ZZ ZY 4] w1 fun e w'=>e=ZX (Zx ⟨s.toArray⟩)/\Z2 w1.heap.size w1 w'):
 Calls ZW 89 #[.agg #[ZZ ZY t.kY,ZZ ZY t.num,ZZ ZY t.c1,ZZ ZY t.r1,ZZ ZY t.c2,ZZ ZY t.r2,Zx ⟨t.wZ.toArray⟩,Zw (ZV ⟨g,o,ZU⟩) t.kZ.length ca]] w fun e w'=>e=ZX (.string ((⟨#[45]⟩:ByteArray)++⟨s.toArray⟩))/\Z2 w.heap.size w w':=by
 have h0:=qbi;have H:=qf (fun ob=>hP (w.alloc ob) (h0 ob));have H8:=qf (fun ob=>h8.kept (P:=fun _=>True) (Kept.of_below (h0 ob)) trivial);rw [hk];have hsz:(⟨s.toArray⟩:ByteArray).size<=140737488355328:=(by rw [fY];exact hs);generalize (⟨s.toArray⟩:ByteArray)=S at*;clear hP h8 h0 hk hs;obtain ⟨q0,q1,q2,q3,q4,q5,q6,q7⟩:=H8.out (.cells #[ZZ ZY t.kY,ZZ ZY t.num,ZZ ZY t.c1,ZZ ZY t.r1,ZZ ZY t.c2,ZZ ZY t.r2,Zx ⟨t.wZ.toArray⟩,Zw (ZV ⟨g,o,ZU⟩) 1 ca] 33);go_enter func89,ntmps89;go_wp2_with fail;refine Calls.mono (H.out _) ?_;rintro e w1 ⟨rfl,b1⟩;have h1:=qab;clear b1;go_wp2_with fail;go_ret;exact ⟨rfl,h1⟩
theorem JE (t:Tr) (hlen:t.kZ.length<=maxLen) (hk:t.kZ.length=2) (n0:(t.kY==0)=Zz) (n1:(t.kY==1)=Zz) (n6:(t.kY==6)=Zz) (n3:(t.kY==3)=Zz) (y:(t.kY==4)=Zy) (w:Z3) (g o ca:Nat) {v:Tr} {B':Option Addr} {d':Nat} (h8:At8 w g o u A' c') (k8:At8 w g (o+8) v B' d') {s1 s2:List UInt8} (hs:(s1++(t.wZ++s2)).length<=140737488355328)
 (hP:∀w1,Z2 w.heap.size w w1->Calls ZW 140 #[.agg (Ku.k u A' c'),ZZ ZY (lvl t.wZ:Int)] w1 fun e w'=>e=ZX (Zx ⟨s1.toArray⟩)/\Z2 w1.heap.size w1 w')
 (hQ:∀w1,Z2 w.heap.size w w1->Calls ZW 140 #[.agg (Ku.k v B' d'),ZZ ZY ((lvl t.wZ:Int)+1)] w1 fun e w'=>e=ZX (Zx ⟨s2.toArray⟩)/\Z2 w1.heap.size w1 w'):
 Calls ZW 89 #[.agg #[ZZ ZY t.kY,ZZ ZY t.num,ZZ ZY t.c1,ZZ ZY t.r1,ZZ ZY t.c2,ZZ ZY t.r2,Zx ⟨t.wZ.toArray⟩,Zw (ZV ⟨g,o,ZU⟩) t.kZ.length ca]] w fun e w'=>e=ZX (.string ((⟨s1.toArray⟩:ByteArray)++⟨t.wZ.toArray⟩++⟨s2.toArray⟩))/\Z2 w.heap.size w w':=by
 have h0:Z2 w.heap.size w (w.alloc (.cells #[ZZ ZY t.kY,ZZ ZY t.num,ZZ ZY t.c1,ZZ ZY t.r1,ZZ ZY t.c2,ZZ ZY t.r2,Zx ⟨t.wZ.toArray⟩,Zw (ZV ⟨g,o,ZU⟩) 2 ca] 33)):=qa;have H0:=qf h0;have HP:=qgy;have HQ:=qf hQ;obtain ⟨HL,hw⟩:=qfU;rw [hw] at HL;have hlv:=rP t.wZ;have H8:=qf (h8.kept (P:=fun _=>True) (Kept.of_below h0) trivial);have K8:=qf (k8.kept (P:=fun _=>True) (Kept.of_below h0) trivial);rw [hk];have z1:(⟨s1.toArray⟩:ByteArray).size<=140737488355328:=qpP;have z2:(⟨s2.toArray⟩:ByteArray).size<=140737488355328:=qpP;have z3:(⟨t.wZ.toArray⟩:ByteArray).size<=140737488355328:=qpP;have hlb:(lvl t.wZ:Int)<=3:=qoq;have hla:(0:Int)<=(lvl t.wZ:Int):=qoq;generalize (lvl t.wZ:Int)=lv at*;generalize (⟨s1.toArray⟩:ByteArray)=S1 at*;generalize (⟨s2.toArray⟩:ByteArray)=S2 at*;generalize (⟨t.wZ.toArray⟩:ByteArray)=W at*;clear hP hQ h8 k8 hk hs hw hlv h0;go_enter func89,ntmps89;go_wp2_with fail;refine Calls.mono (HL.out _) ?_;rintro e w9 ⟨rfl,rfl⟩;obtain ⟨q0,q1,q2,q3,q4,q5,q6,q7⟩:=H8.out;go_wp2_with fail;refine Calls.mono (HP.out _ H0.out) ?_;rintro e w1 ⟨rfl,b1⟩;have H1:=qf (H0.out.trans (b1.mono H0.out.size));have K1:=qf (K8.out.kept (P:=fun _=>True) (Kept.of_below b1) trivial);have k16:=af b1 6 (v:=.string W) rfl;have k17:=af b1 7 (v:=Zw (ZV ⟨g,o,ZU⟩) 2 ca) rfl;clear b1 q0 q1 q2 q3 q4 q5 q6 q7
 obtain ⟨q0,q1,q2,q3,q4,q5,q6,q7⟩:=K1.out;go_wp2_with fail;refine Calls.mono (HQ.out _ H1.out) ?_;rintro e w2 ⟨rfl,b2⟩;have H2:=qf (H1.out.trans (b2.mono H1.out.size));have k26:=aa b2 k16;clear b2 q0 q1 q2 q3 q4 q5 q6 q7 k16 k17;go_wp2_with fail;go_ret;exact ⟨rfl,H2.out⟩
def txB:List (List UInt8)->List UInt8
 |[]=>[]
 |s::r=>s++txK r
theorem kq:∀(l:List (List UInt8)),l≠[]->txH l=40::txB l
 |[],h=>absurd rfl h
 |_::_,_=>rfl
theorem oB (ks:List Tr) (i:Nat):(txB (txL (ks.take i))).length<=(txB (txL ks)).length:=by
 cases hk:ks.take i with
 |nil=>rw [dU];simp [txB]
 |cons u r=>
  have h:=nV ks i;rw [hk,kq _ (by rw [cx];simp)] at h;cases ks with
  |nil=>simp at hk
  |cons v q=>
   rw [kq (txL (v::q)) (by rw [cx];simp)] at h;simpa using h
theorem pD (h:ks[i]? =ZV u):txB (txL (ks.take (i+1)))=if i=0 then txT u else txB (txL (ks.take i))++44::txT u:=by
 have hl:=qgl;have hh:=xh h
 have hne:txL (ks.take (i+1))≠[]:=by
  rw [eJ];intro e;have e2:(List.map txT (ks.take (i+1))).length=0:=(by rw [e];rfl);have h3:=(List.getElem?_eq_some_iff.1 h).1;rw [List.length_map,List.length_take] at e2;omega
 rw [kq _ hne] at hh;by_cases h0:i=0
 ·subst h0
  rw [if_pos rfl];rw [List.take_zero,dU] at hh;simpa [txH,mkB] using hh
 ·rw [if_neg h0]
  have hne2:txL (ks.take i)≠[]:=by
   rw [eJ];intro e;have e2:(List.map txT (ks.take i)).length=0:=(by rw [e];rfl);rw [List.length_map,hl] at e2;omega
  rw [kq _ hne2] at hh;simp only [List.cons_append,List.cons.injEq,true_and] at hh;rw [hh];simp [mkB,h0]
def fC (t:Tr) (i:Nat):ByteArray:=⟨(t.wZ++40::txB (txL (t.kZ.take i))).toArray⟩
theorem Da (t:Tr):fC t 0=(⟨t.wZ.toArray⟩:ByteArray)++(⟨#[40]⟩:ByteArray):=by
 unfold fC;rw [List.take_zero,dU];exact (dR t.wZ [40]).symm
theorem GM {t:Tr} (h:t.kZ[0]? =ZV u):fC t (0+1)=fC t 0++⟨(txT u).toArray⟩:=by
 unfold fC;rw [pD h,if_pos rfl,dR,List.take_zero,dU];simp [txB]
theorem Dy {t:Tr} (h:t.kZ[i]? =ZV u) (h0:i≠0):fC t (i+1)=fC t i++(⟨#[44]⟩:ByteArray)++⟨(txT u).toArray⟩:=by
 unfold fC;rw [pD h,if_neg h0];rw [show (⟨#[44]⟩:ByteArray)=⟨([44]:List UInt8).toArray⟩ from rfl,dR,dR];simp
theorem D6 (t:Tr) (i:Nat):(fC t i).size<=t.wZ.length+1+(txB (txL t.kZ)).length:=by
 unfold fC;rw [fY];have:=oB t.kZ i;simp;omega
theorem Il (h:ks[i]? =ZV u):(txT u).length<=(txB (txL ks)).length:=by
 have h1:=oB ks (i+1);rw [pD h] at h1;split at h1
 ·exact h1
 ·simp at h1;omega
theorem CV (t:Tr) (hlen:t.kZ.length<=maxLen) (n0:(t.kY==0)=Zz) (n1:(t.kY==1)=Zz) (n6:(t.kY==6)=Zz) (n3:(t.kY==3)=Zz) (n4:(t.kY==4)=Zz) (y:(t.kY==5)=Zy) (w:Z3) (A:Option Addr) (ca:Nat) (hA:KV w (fun _=>True) t A) (hs:t.wZ.length+2+(txB (txL t.kZ)).length<=140737488355328) (ih:∀u∈t.kZ,lS u):
 Calls ZW 89 #[.agg (Ku.k t A ca)] w fun e w'=>e=ZX (.string (fC t t.kZ.length++(⟨#[41]⟩:ByteArray)))/\Z2 w.heap.size w w':=by
 have h0:=qhU;have H0:=qf h0;have k07:=(dQ (heap_alloc_new w (.cells (Ku.k t A ca) 33))).2.2.2.2.2.2.2;have HA:=qf hA;have HI:=qf ih;have HS:=qf (fun i=>D6 t i);have HB:=qf hs;have HZ:=qf (Da t);have hw2:(⟨t.wZ.toArray⟩:ByteArray).size<=140737488355328:=(by rw [fY];omega);unfold maxLen at hlen;generalize (⟨t.wZ.toArray⟩:ByteArray)=W at*;clear hA ih hs h0;go_enter func89,ntmps89;go_wp2_with fail;go_loopw [6,7] (fun vs vi wr=>∃i:Nat,i<=t.kZ.length/\vs=.string (fC t i)/\vi=ZZ ZY (i:Int)/\Hid (Z2 w.heap.size w wr)/\wr.cell? ⟨w.heap.size,7,ZU⟩=ZV (Zw A t.kZ.length ca)) (fun _ vi _=>t.kZ.length - (RowKit.intOf vi).toNat)
 case atStart=>exact ⟨0,qe,(by rw [HZ.out]),rfl,H0,k07⟩
 case round=>
  obtain ⟨i,hi,rfl,rfl,Hr,k7⟩:=hrel;clear k07 H0 HZ;have hz:=HS.out i;have hbb:=HB.out;have hzz:(fC t i).size<=140737488355328:=qoq;by_cases hlt:i<t.kZ.length
  ·have ha:t.kZ[i]? =ZV (t.kZ[i]'hlt):=List.getElem?_eq_getElem hlt
   obtain ⟨g,o,rfl⟩:=HA.out.addr ha;obtain ⟨_,hg,A',c',h8,hkv⟩:=HA.out.kid ha;rw [Nat.mul_comm] at h8;have hks:=Il ha;have HT:=qf (HI.out _ (List.getElem_mem hlt) qoq wr A' c' (hkv.kept (Kept.of_below Hr.out)));have q8:=h8.kept (P:=fun _=>True) (Kept.of_below Hr.out) trivial;have hus:(⟨(txT (t.kZ[i]'hlt)).toArray⟩:ByteArray).size<=140737488355328:=(by rw [fY];omega)
   have HC:Hid (fC t (i+1)=if i=0 then fC t i++⟨(txT (t.kZ[i]'hlt)).toArray⟩ else fC t i++(⟨#[44]⟩:ByteArray)++⟨(txT (t.kZ[i]'hlt)).toArray⟩):=qf (by
    by_cases h0:i=0
    ·subst h0;rw [if_pos rfl];exact GM ha
    ·rw [if_neg h0];exact Dy ha h0)
   generalize (⟨(txT (t.kZ[i]'hlt)).toArray⟩:ByteArray)=S at*;generalize t.kZ[i]'hlt=u at*;obtain ⟨q0,q1,q2,q3,q4,q5,q6,q7⟩:=q8;clear ha h8 hkv hks hz hbb;by_cases h0:i=0
   ·have HC2:=HC.out
    rw [if_pos h0] at HC2;have HC3:=qf HC2;clear HC HC2;subst h0;rw [Nat.zero_mul,Nat.add_zero] at q0 q1 q2 q3 q4 q5 q6 q7;have hc0:decide ((0:Int)<((0:Nat):Int))=Zz:=qnv;go_wp2_with fail;refine Calls.mono HT.out ?_;rintro e w2 ⟨rfl,b2⟩;have H2:=qf (Hr.out.trans (b2.mono Hr.out.size));have k27:=aa b2 k7;clear b2 q0 q1 q2 q3 q4 q5 q6 q7 k7;go_wp2_with fail;go_roundw
    case rel=>exact ⟨0+1,qoq,(by rw [HC3.out]),qnG,H2,k27⟩
    case measure=>exact qmy
   ·have HC2:=HC.out
    rw [if_neg h0] at HC2;have HC3:=qf HC2;have hc0:decide ((0:Int)<(i:Int))=Zy:=decide_eq_true qoq;clear HC HC2;go_wp2_with fail;refine Calls.mono HT.out ?_;rintro e w2 ⟨rfl,b2⟩;have H2:=qf (Hr.out.trans (b2.mono Hr.out.size));have k27:=aa b2 k7;clear b2 q0 q1 q2 q3 q4 q5 q6 q7 k7;go_wp2_with fail;go_roundw
    case rel=>exact ⟨i+1,qoq,(by rw [HC3.out]),qnG,H2,k27⟩
    case measure=>exact qmy
  ·have hii:i=t.kZ.length:=by omega
   subst hii;go_wp2_with fail;go_ret;exact ⟨rfl,Hr.out⟩
theorem Au (t:Tr) (hW:Wid t) (hF:Fit t) (hM:ay t=Zy) (ih:∀u∈t.kZ,lS u):lS t:=by
 intro hl w A ca hA;have hlen:=hW.len;obtain ⟨hsp,hso,_⟩:=(iW t).1 hM;by_cases h0:t.kY=0
 ·have hn:0<=t.num/\t.num<=9223372036854775807:=by
   cases hF with
   |@mk k n c r d s w ks hn _=>
    exact qkl
  have e:txT t=Lib.itoa t.num:=qjY;rw [e];exact Eo t hlen (by rw [h0];rfl) qnY w A ca
 have n0:(t.kY==0)=Zz:=(by simpa using h0);by_cases h1:t.kY=1
 ·have e:txT t=am t.c1 t.r1:=by
   cases t with
   |mk k n c r d s w ks=>
    exact qlV
  rw [e];exact C5 t hlen n0 (by rw [h1];rfl) w A ca
 have n1:(t.kY==1)=Zz:=qqJ;by_cases h2:t.kY=2
 ·have e:txT t=[35,82,69,70]:=by
   cases t with
   |mk k n c r d s w ks=>
    exact qkv
  rw [e];exact F4 t hlen qpS n0 n1 qpS qpS qpS qpS w A ca
 have n2:(t.kY==2)=Zz:=qqd;by_cases h3:t.kY=3
 ·have hks:t.kZ.length=1:=by
   cases t with
   |mk k n c r d s w ks=>
    exact qkg
  obtain ⟨u,hu⟩:=uU hks;have hi:=qfv;obtain ⟨g,o,rfl⟩:=hA.addr hi;obtain ⟨_,_,A',c',h8,hkv⟩:=hA.kid hi;have e:txT t=45::txW 4 u (txT u):=qjO;have hl2:=hl;rw [e] at hl2 ⊢;have hu4:(txT u).length<=(txW 4 u (txT u)).length:=qpL;simp only [List.length_cons] at hl2;have h:=Et t hlen hks n0 n1 qqj qqj w g o ca qqK (s:=txW 4 u (txT u)) qoq (fun w1 hb=>kD u (ih u qpM) (hW.kid hi).len qoq 4 w1 A' c' (hkv.kept (Kept.of_below hb)));rw [show (⟨#[45]⟩:ByteArray)=⟨([45]:List UInt8).toArray⟩ from rfl,dR] at h;exact h
 have n3:(t.kY==3)=Zz:=(by simpa using h3);by_cases h4:t.kY=4
 ·have hks:t.kZ.length=2:=by
   cases t with
   |mk k n c r d s w ks=>
    exact qjM
  obtain ⟨u,v,hu⟩:=EY hks;have hi:=qfv;have hj:t.kZ[1]? =ZV v:=(by rw [hu];rfl);obtain ⟨g,o,rfl⟩:=hA.addr hi;obtain ⟨_,_,A',c',h8,hkv⟩:=hA.kid hi;obtain ⟨_,_,B',d',k8,hkv2⟩:=hA.kid hj;have e:txT t=txW (lvl t.wZ) u (txT u)++(t.wZ++txW (lvl t.wZ+1) v (txT v)):=qjB;have hl2:=hl;rw [e] at hl2 ⊢;have hua:(txT u).length<=(txW (lvl t.wZ) u (txT u)).length:=qpL;have hva:(txT v).length<=(txW (lvl t.wZ+1) v (txT v)).length:=qpL;have hl3:=hl2;simp only [List.length_append] at hl3;have h:=JE t hlen hks n0 n1 (by rw [h4];rfl) n3 (by rw [h4];rfl) w g o ca qqK (by simpa using k8) (s1:=txW (lvl t.wZ) u (txT u)) (s2:=txW (lvl t.wZ+1) v (txT v)) hl2 (fun w1 hb=>kD u (ih u qpM) (hW.kid hi).len qoq (lvl t.wZ) w1 A' c' (hkv.kept (Kept.of_below hb))) (fun w1 hb=>kD v (ih v qpM) (hW.kid hj).len qoq (lvl t.wZ+1) w1 B' d' (hkv2.kept (Kept.of_below hb)));rw [dR,dR,List.append_assoc] at h;exact h
 have n4:(t.kY==4)=Zz:=qqa;by_cases h5:t.kY=5
 ·have hne:t.kZ≠[]:=by
   cases t with
   |mk k n c r d s w ks=>
    exact qjZ
  have hne2:txL t.kZ≠[]:=(by rw [eJ];simpa using hne)
  have e:txT t=t.wZ++40::(txB (txL t.kZ)++[41]):=by
   have e2:40::(txB (txL t.kZ)++[41])=40::txJ (txL t.kZ):=(by rw [<-z6 _ hne2,kq _ hne2];rfl);rw [e2];exact qjQ
  have hl2:=hl;rw [e] at hl2 ⊢;simp only [List.length_append,List.length_cons,List.length_nil] at hl2;have h:=CV t hlen n0 n1 qpu n3 n4 qpu w A ca hA qoq ih
  have e3:fC t t.kZ.length++(⟨#[41]⟩:ByteArray)=⟨(t.wZ++40::(txB (txL t.kZ)++[41])).toArray⟩:=by
   unfold fC;rw [List.take_length,show (⟨#[41]⟩:ByteArray)=⟨([41]:List UInt8).toArray⟩ from rfl,dR];simp
  rw [e3] at h;exact h
 have n5:(t.kY==5)=Zz:=(by simpa using h5);by_cases h6:t.kY=6
 ·have e:txT t=am t.c1 t.r1++58::am t.c2 t.r2:=by
   cases t with
   |mk k n c r d s w ks=>
    exact qlx
  rw [e];have h:=BM t hlen n0 n1 (by rw [h6];rfl) w A ca;rw [show (⟨#[58]⟩:ByteArray)=⟨([58]:List UInt8).toArray⟩ from rfl,dR,dR,List.append_assoc] at h;exact h
 ·exfalso
  exact qsK
theorem Hw:∀{t:Tr},Wid t->Fit t->ay t=Zy->lS t:=by
 intro t hW;induction hW with
 |@mk k n c r d s w ks hl hk ih=>
  intro hF hM;refine Au _ (.mk hl hk) hF hM fun u hu=>ih u hu ?_ ?_
  ·cases hF with
   |mk _ h=>exact h u hu
  ·exact ((iW _).1 hM).2.2 u hu
theorem DJ (t:Tr) (ht:Wid t) (hd:aG t<=1000000000) (hr:bz t=Zz) (w:Z3) (A:Option Addr) (ca:Nat) (hA:KV w (fun _=>True) t A):
 Calls ZW 45 #[tv t A ca] w fun e w'=>e=ZX (Zx ⟨#[]⟩)/\Z2 w.heap.size w w':=by
 have h0:=qbi;have H:=qgd;rw [f9,hr] at H;have hlen:=qfz;unfold maxLen at hlen;unfold tv at*;clear hA hr ht h0 hd;go_enter func45,ntmps45;go_wp2_with fail;refine .mono qrz ?_;rintro e w1 ⟨rfl,b1⟩;have h1:=qab;clear b1;go_wp2_with fail;go_ret;exact ⟨rfl,h1⟩
theorem AA (t:Tr) (ht:Wid t) (hf:Fit t) (hd:aG t<=1000000000) (hr:bz t=Zy) (hl:(txT t).length<=140737488355328) (w:Z3) (A:Option Addr) (ca:Nat) (hA:KV w (fun _=>True) t A):
 Calls ZW 45 #[tv t A ca] w fun e w'=>e=ZX (Zx ⟨(txT t).toArray⟩)/\Z2 w.heap.size w w':=by
 have h0:=qbi;have H:=qgd;have HT:=qf (fun w1 (hb:Z2 w.heap.size w w1)=>Hw ht hf ((ey t).1 hr).2.2 hl w1 A ca (hA.kept (Kept.of_below hb)));rw [f9,hr] at H;have hlen:=qfz;unfold maxLen at hlen;unfold tv at*;clear hA hr ht h0 hd hf hl;go_enter func45,ntmps45;go_wp2_with fail;refine .mono qrz ?_;rintro e w1 ⟨rfl,b1⟩;obtain ⟨k10,k11,k12,k13,k14,k15,k16⟩:=ql;have k17:=qcw;have h1:=qab;clear b1;go_wp2_with fail;refine (HT.out _ h1).mono ?_;rintro e w2 ⟨rfl,b2⟩;have h2:=qcW;clear b2 h1;go_wp2_with fail;go_ret;exact ⟨rfl,h2⟩
theorem AB (t:Tr) (ht:Wid t) (hf:Fit t) (hd:aG t<=1000000000) (hl:(txT t).length<=140737488355328) (w:Z3) (A:Option Addr) (ca:Nat) (hA:KV w (fun _=>True) t A):
 Calls ZW 45 #[tv t A ca] w fun e w'=>e=ZX (Zx ⟨(aX t).toArray⟩)/\Z2 w.heap.size w w':=by
 unfold aX;cases hr:bz t with
 |true=>exact AA t ht hf hd hr hl w A ca hA
 |false=>exact DJ t ht hd hr w A ca hA
theorem FM (t u:Tr) (A B:Option Addr) (ca cb:Nat) (w:Z3) (h0:(t.kY !=u.kY)=Zy):
 Calls ZW 13 #[.agg (Ku.k t A ca),.agg (Ku.k u B cb)] w fun e w'=>e=ZX (.bool Zz)/\Z2 w.heap.size w w':=by
 obtain ⟨hG,hN⟩:=qay;go_enter func13,ntmps13;go_wp2_with fail;go_ret;exact ⟨rfl,qa.alloc qns _⟩
theorem Fj (t u:Tr) (A B:Option Addr) (ca cb:Nat) (w:Z3) (h0:(t.kY !=u.kY)=Zz) (h1:(t.num !=u.num)=Zy):
 Calls ZW 13 #[.agg (Ku.k t A ca),.agg (Ku.k u B cb)] w fun e w'=>e=ZX (.bool Zz)/\Z2 w.heap.size w w':=by
 obtain ⟨hG,hN⟩:=qay;go_enter func13,ntmps13;go_wp2_with fail;go_ret;exact ⟨rfl,qa.alloc qns _⟩
theorem FE (t u:Tr) (A B:Option Addr) (ca cb:Nat) (w:Z3) (h0:(t.kY !=u.kY)=Zz) (h1:(t.num !=u.num)=Zz) (h2:(!(t.c1==u.c1&&t.r1==u.r1&&(t.c2==u.c2&&t.r2==u.r2)))=Zy):
 Calls ZW 13 #[.agg (Ku.k t A ca),.agg (Ku.k u B cb)] w fun e w'=>e=ZX (.bool Zz)/\Z2 w.heap.size w w':=by
 obtain ⟨hG,hN⟩:=qay;rw [h2] at hN;go_enter func13,ntmps13;go_wp2_with fail;go_ret;exact ⟨rfl,qa.alloc qns _⟩
theorem Gl (t u:Tr) (A B:Option Addr) (ca cb:Nat) (w:Z3) (h0:(t.kY !=u.kY)=Zz) (h1:(t.num !=u.num)=Zz) (h2:(!(t.c1==u.c1&&t.r1==u.r1&&(t.c2==u.c2&&t.r2==u.r2)))=Zz) (h3:(t.wZ==u.wZ)=Zz):
 Calls ZW 13 #[.agg (Ku.k t A ca),.agg (Ku.k u B cb)] w fun e w'=>e=ZX (.bool Zz)/\Z2 w.heap.size w w':=by
 obtain ⟨hG,hN⟩:=qay;rw [h2] at hN;go_enter func13,ntmps13;go_wp2_with fail;go_ret;exact ⟨rfl,qa.alloc qns _⟩
theorem DA (t u:Tr) (A B:Option Addr) (ca cb:Nat) (w:Z3) (h0:(t.kY !=u.kY)=Zz) (h1:(t.num !=u.num)=Zz) (h2:(!(t.c1==u.c1&&t.r1==u.r1&&(t.c2==u.c2&&t.r2==u.r2)))=Zz) (h3:(t.wZ==u.wZ)=Zy) (h4:((t.kZ.length:Int) !=(u.kZ.length:Int))=Zy):
 Calls ZW 13 #[.agg (Ku.k t A ca),.agg (Ku.k u B cb)] w fun e w'=>e=ZX (.bool Zz)/\Z2 w.heap.size w w':=by
 obtain ⟨hG,hN⟩:=qay;rw [h2] at hN;go_enter func13,ntmps13;go_wp2_with fail;go_ret;exact ⟨rfl,qa.alloc qns _⟩
theorem EJ (d:Nat) (ih:∀(t u:Tr),aG t<=d->Wid t->Wid u->∀(w:Z3) (P Q:Nat->Prop) (A B:Option Addr) (ca cb:Nat),KV w P t A->KV w Q u B->
 Calls ZW 13 #[tv t A ca,tv u B cb] w fun e w'=>(∃b,e=ZX (.bool b)/\(b=Zy↔t=u))/\Z2 w.heap.size w w')
 (t u:Tr) (hd:aG t<=d+1) (ht:Wid t) (hu:Wid u) (w:Z3) (P Q:Nat->Prop) (A B:Option Addr) (ca cb:Nat) (hA:KV w P t A) (hB:KV w Q u B) (h0:(t.kY !=u.kY)=Zz) (h1:(t.num !=u.num)=Zz) (h2:(!(t.c1==u.c1&&t.r1==u.r1&&(t.c2==u.c2&&t.r2==u.r2)))=Zz) (h3:(t.wZ==u.wZ)=Zy) (h4:((t.kZ.length:Int) !=(u.kZ.length:Int))=Zz):
 Calls ZW 13 #[.agg (Ku.k t A ca),.agg (Ku.k u B cb)] w fun e w'=>(∃b,e=ZX (.bool b)/\(b=Zy↔t.kZ=u.kZ))/\Z2 w.heap.size w w':=by
 obtain ⟨hG,hN⟩:=qay;rw [h2] at hN;have hlen:=qfz;unfold maxLen at hlen;have hll:t.kZ.length=u.kZ.length:=(by have h4':=h4;rw [bne_eq_false_iff_eq] at h4';omega);have HT:=qf ht;have HU:=qf hu;have HA:=qf hA;have HB:=qf hB;have HI:=qf ih;have HLL:=qf hll;have hdl:=qfP;clear ih hd ht hu hA hB hll;go_enter func13,ntmps13;go_wp2_with fail;go_loopw [5] (fun vi wr=>∃i:Nat,i<=t.kZ.length/\vi=ZZ ZY (i:Int)/\Hid (t.kZ.take i=u.kZ.take i)/\Z2 w.heap.size w wr/\w.heap.size+1<wr.heap.size/\wr.cell? ⟨w.heap.size,7,ZU⟩=ZV (Zw A t.kZ.length ca)/\wr.cell? ⟨w.heap.size+1,7,ZU⟩=ZV (Zw B u.kZ.length cb)) (fun vi _=>t.kZ.length - (RowKit.intOf vi).toNat)
 case atStart=>exact ⟨0,qe,rfl,qf rfl,qa.alloc qns _,qns,qnp,qnp⟩
 case round=>
  obtain ⟨i,hi,rfl,HTK,hbel,hsz,c7,e7⟩:=hrel;by_cases hlt:i<t.kZ.length
  ·have hlt2:i<u.kZ.length:=by have:=HLL.out;omega
   have ha:t.kZ[i]? =ZV (t.kZ[i]'hlt):=List.getElem?_eq_getElem hlt;have hb:u.kZ[i]? =ZV (u.kZ[i]'hlt2):=List.getElem?_eq_getElem hlt2;obtain ⟨g,o,rfl⟩:=HA.out.addr ha;obtain ⟨g2,o2,rfl⟩:=HB.out.addr hb;obtain ⟨hg,A',ca',h8,hkv⟩:=HA.out.kidAt hbel ha;obtain ⟨hg2,B',cb',k8,hkw⟩:=HB.out.kidAt hbel hb;have HTE:=qf fun e=>Mx ha hb HTK.out e
   have HNE:=qf (And.intro ha hb);have HC:=qf (HI.out _ _ (Nat.le_trans (jF ha) hdl) (HT.out.kid ha) (HU.out.kid hb) wr.drew _ _ A' B' ca' cb' (hkv.kept (Kept.drew (Kept.refl _ _))) (hkw.kept (Kept.drew (Kept.refl _ _))));generalize t.kZ[i]'hlt=x at*;generalize u.kZ[i]'hlt2=y at*;unfold At8 at h8 k8;unfold tv at HC;obtain ⟨q0,q1,q2,q3,q4,q5,q6,q7⟩:=h8;obtain ⟨r0,r1,r2,r3,r4,r5,r6,r7⟩:=k8;clear hkv hkw ha hb;go_wp2_with fail
   go_region_held3 (fun w'=>w'.cell? ⟨g,o+i*8,ZU⟩=ZV (ZZ ZY x.kY)/\w'.cell? ⟨g,o+i*8+1,ZU⟩=ZV (ZZ ZY x.num)/\w'.cell? ⟨g,o+i*8+2,ZU⟩=ZV (ZZ ZY x.c1)/\w'.cell? ⟨g,o+i*8+3,ZU⟩=ZV (ZZ ZY x.r1)/\w'.cell? ⟨g,o+i*8+4,ZU⟩=ZV (ZZ ZY x.c2)/\w'.cell? ⟨g,o+i*8+5,ZU⟩=ZV (ZZ ZY x.r2)/\w'.cell? ⟨g,o+i*8+6,ZU⟩=ZV (Zx ⟨x.wZ.toArray⟩)/\w'.cell? ⟨g,o+i*8+7,ZU⟩=ZV (Zw A' x.kZ.length ca')/\w'.cell? ⟨g2,o2+i*8,ZU⟩=ZV (ZZ ZY y.kY)/\w'.cell? ⟨g2,o2+i*8+1,ZU⟩=ZV (ZZ ZY y.num)/\w'.cell? ⟨g2,o2+i*8+2,ZU⟩=ZV (ZZ ZY y.c1)/\w'.cell? ⟨g2,o2+i*8+3,ZU⟩=ZV (ZZ ZY y.r1)/\w'.cell? ⟨g2,o2+i*8+4,ZU⟩=ZV (ZZ ZY y.c2)/\w'.cell? ⟨g2,o2+i*8+5,ZU⟩=ZV (ZZ ZY y.r2)/\w'.cell? ⟨g2,o2+i*8+6,ZU⟩=ZV (Zx ⟨y.wZ.toArray⟩)/\w'.cell? ⟨g2,o2+i*8+7,ZU⟩=ZV (Zw B' y.kZ.length cb')/\w'.cell? ⟨w.heap.size,7,ZU⟩=ZV (Zw (ZV ⟨g,o,ZU⟩) t.kZ.length ca)/\w'.cell? ⟨w.heap.size+1,7,ZU⟩=ZV (Zw (ZV ⟨g2,o2,ZU⟩) u.kZ.length cb))
    (first|(simp only [World.cell?_drew];with_reducible exact ⟨q0,q1,q2,q3,q4,q5,q6,q7,r0,r1,r2,r3,r4,r5,r6,r7,c7,e7⟩)|with_reducible exact ⟨mq0,mq1,mq2,mq3,mq4,mq5,mq6,mq7,mr0,mr1,mr2,mr3,mr4,mr5,mr6,mr7,mc7,me7⟩|fail)
    (first
    |(go_at_call 13;refine HC.out.mono ?_;rintro e w1 ⟨⟨b,rfl,hbb⟩,b1'⟩
      have b1:Z2 wr.heap.size wr w1:=(Below.refl _ wr).drew.trans b1';have mq0:=aa b1 q0;have mq1:=aa b1 q1;have mq2:=aa b1 q2;have mq3:=aa b1 q3;have mq4:=aa b1 q4;have mq5:=aa b1 q5;have mq6:=aa b1 q6;have mq7:=aa b1 q7;have mr0:=aa b1 r0;have mr1:=aa b1 r1;have mr2:=aa b1 r2;have mr3:=aa b1 r3;have mr4:=aa b1 r4;have mr5:=aa b1 r5;have mr6:=aa b1 r6;have mr7:=aa b1 r7;have mc7:=aa b1 c7;have me7:=aa b1 e7)
    |fail)
   have s7:w.heap.size+1<w1.heap.size:=Nat.lt_of_lt_of_le hsz b1.size;have hb1:=qgb;clear b1 b1' q0 q1 q2 q3 q4 q5 q6 q7 r0 r1 r2 r3 r4 r5 r6 r7 c7 e7 mq0 mq1 mq2 mq3 mq4 mq5 mq6 mq7 mr0 mr1 mr2 mr3 mr4 mr5 mr6 mr7;cases b with
   |true=>
    have HXY:=qf (HTE.out (hbb.1 rfl));clear hbb;go_wp2_with fail;go_roundw
    case rel=>exact ⟨i+1,qoq,qnG,HXY,hb1,s7,mc7,me7⟩
    case measure=>exact qmy
   |false=>
    have hxy:¬x=y:=fun e=>by have:=hbb.2 e;cases this
    have hk:¬t.kZ=u.kZ:=fun e=>by
     have h1:=HNE.out.1;rw [e,HNE.out.2] at h1;exact hxy (Option.some.inj h1).symm
    have HK:=qfq;clear hbb hxy hk;go_wp2_with fail;go_ret;exact ⟨⟨Zz,rfl,⟨fun h=>qoO,fun h=>absurd h HK.out⟩⟩,hb1⟩
  ·have hii:i=t.kZ.length:=by omega
   subst hii
   have hk:t.kZ=u.kZ:=by
    have:=HTK.out;rw [List.take_length,HLL.out,List.take_length] at this;exact this
   have HK:=qfq;clear hk;go_wp2_with fail;go_ret;exact ⟨⟨Zy,rfl,⟨fun _=>HK.out,fun _=>rfl⟩⟩,hbel⟩
theorem Ei:∀(d:Nat) (t u:Tr),aG t<=d->Wid t->Wid u->∀(w:Z3) (P Q:Nat->Prop) (A B:Option Addr) (ca cb:Nat),KV w P t A->KV w Q u B->
 Calls ZW 13 #[tv t A ca,tv u B cb] w fun e w'=>(∃b,e=ZX (.bool b)/\(b=Zy↔t=u))/\Z2 w.heap.size w w':=by
 intro d;induction d with
 |zero=>intro t u h;rw [gM] at h;omega
 |succ d ih=>
  intro t u hd ht hu w P Q A B ca cb hA hB
  have NO:¬t=u->∀{e:Ending} {w':Z3},e=ZX (.bool Zz)/\Z2 w.heap.size w w'->(∃b,e=ZX (.bool b)/\(b=Zy↔t=u))/\Z2 w.heap.size w w':=
   fun hne _ _ ⟨he,hb⟩=>⟨⟨Zz,he,⟨fun h=>qoO,fun h=>absurd h hne⟩⟩,hb⟩
  by_cases h0:t.kY=u.kY
  ·by_cases h1:t.num=u.num
   ·by_cases h2:t.c1=u.c1/\t.r1=u.r1/\t.c2=u.c2/\t.r2=u.r2
    ·by_cases h3:t.wZ=u.wZ
     ·by_cases h4:t.kZ.length=u.kZ.length
      ·obtain ⟨e1,e2,e3,e4⟩:=h2
       refine (EJ d ih t u hd ht hu w P Q A B ca cb hA hB qql qqP (by simp [e1,e2,e3,e4]) (by simp [h3]) (by simp [h4])).mono fun e w' ⟨⟨b,he,hb⟩,hw⟩=>⟨⟨b,he,hb.trans ⟨fun h=>N6 h0 h1 e1 e2 e3 e4 h3 h,fun h=>by rw [h]⟩⟩,hw⟩
      ·exact (DA t u A B ca cb w qql qqP (by simp [h2]) (by simp [h3]) (by rw [bne_iff_ne];omega)).mono fun _ _ h=>NO (fun e=>h4 qrb) h
     ·exact (Gl t u A B ca cb w qql qqP (by simp [h2]) (by simp [h3])).mono fun _ _ h=>NO (fun e=>h3 qrb) h
    ·exact (FE t u A B ca cb w qql qqP (by rw [Bool.not_eq_true'];rw [Bool.eq_false_iff];intro h;simp at h;exact h2 ⟨h.1.1,h.1.2,h.2.1,h.2.2⟩)).mono fun _ _ h=>NO (fun e=>h2 qpx) h
   ·exact (Fj t u A B ca cb w qql qqP).mono fun _ _ h=>NO (fun e=>h1 qrb) h
  ·exact (FM t u A B ca cb w qql).mono fun _ _ h=>NO (fun e=>h0 qrb) h
