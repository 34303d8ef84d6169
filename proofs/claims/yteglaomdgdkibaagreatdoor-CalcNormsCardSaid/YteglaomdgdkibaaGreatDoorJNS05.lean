import Derived.Test.YteglaomdgdkibaaGreatDoorJNS03
import Derived.Test.YteglaomdgdkibaaGreatDoorJNS04
import Derived.Test.YteglaomdgdkibaaGreatDoorJQNSP
import Derived.Test.YteglaomdgdkibaaGreatDoorJQNSW
import Derived.Test.YteglaomdgdkibaaGreatDoorJQNSX
set_option linter.all false
set_option maxHeartbeats 0
set_option maxRecDepth 99999
namespace Go.Proofs.YteglaomdgdkibaaGreatDoor
open Go.RowKit
open Value renaming int→ZZ,string→Zx
open IntKind renaming i64→ZY
open Ending renaming returned→ZX
open RowKit renaming Below→Z2
open Go renaming World→Z3
open Tryz
open Tryz renaming prog→ZW
open Option renaming some→ZV,none→ZU
open Bool renaming false→Zz
variable {w w':World}{base p:Nat}{v:Value}{l:List UInt8}{a:List Tok}
theorem mark_cases (s:ByteArray) (p:Nat):au s.data.toList p=0\/au s.data.toList p=1\/au s.data.toList p=2/\p+1<s.size:=by
 by_cases hp:p+1<s.size
 ·unfold au bw
  split
  ·exact .inr (.inr ⟨rfl,hp⟩)
  ·split
   ·exact .inr (.inl rfl)
   ·exact .inl rfl
 ·have e:=ni s (p+1) hp
  unfold au bw;rw [e];split
  ·rename_i h
   rcases h with ⟨_,h|h⟩|⟨_,h⟩<;>exact absurd h qnv
  ·split
   ·exact .inr (.inl rfl)
   ·exact .inl rfl

theorem Na (s:ByteArray) (hs:s.size<=4611686018427387903) (p:Nat) (h:p<s.size) (hf:isFig (s[p]'h)=Zz) (hl:(s[p]'h).toNat<65) (w:Z3):
 Calls ZW 135 #[.string s,ZZ ZY (p:Int)] w fun e w'=>e=ZX (cC (aD s.data.toList p))/\Z2 w.heap.size w w':=by
 have H1:=qgH;rw [hf] at H1;have g0:=qgT;have h2:=tQ s qoq p h;have hO:aD s.data.toList p=(if ar s.data.toList p 4=[35,82,69,70] then ZV (⟨3,0,0,0,[],p⟩,4) else if au s.data.toList p=0 then ZU else ZV (⟨5,0,0,0,ar s.data.toList p (au s.data.toList p).toNat,p⟩,(au s.data.toList p).toNat)):=qlZ;clear hf g0;by_cases h4:p+4<=s.size
 ·have d4:decide ((4:Int)<=(s.size:Int) - (p:Int))=true:=decide_eq_true qoq
  by_cases hr:ar s.data.toList p 4=[35,82,69,70]
  ·have dr:((s.extract p (p+4)).toList==[35,82,69,70])=true:=by rw [ByteArray.toList_eq,bQ,hr];rfl
   have l1:decide ((65:Int)<=((s[p]'h).toNat:Int))=Zz:=decide_eq_false qoq;exact qja
  ·have dr:((s.extract p (p+4)).toList==[35,82,69,70])=Zz:=by rw [ByteArray.toList_eq,bQ,beq_eq_false_iff_ne];exact hr
   exact qix
 ·have d4:decide ((4:Int)<=(s.size:Int) - (p:Int))=Zz:=decide_eq_false qoq
  have hr:¬ar s.data.toList p 4=[35,82,69,70]:=qkw;clear h4;exact qix

theorem NI (s:ByteArray) (hs:s.size<=4611686018427387903) (p:Nat) (h:p<s.size) (hf:isFig (s[p]'h)=Zz) (hl:90<(s[p]'h).toNat) (w:Z3):
 Calls ZW 135 #[.string s,ZZ ZY (p:Int)] w fun e w'=>e=ZX (cC (aD s.data.toList p))/\Z2 w.heap.size w w':=by
 have H1:=qgH;rw [hf] at H1;have g0:=qgT;have h2:=tQ s qoq p h;have hO:aD s.data.toList p=(if ar s.data.toList p 4=[35,82,69,70] then ZV (⟨3,0,0,0,[],p⟩,4) else if au s.data.toList p=0 then ZU else ZV (⟨5,0,0,0,ar s.data.toList p (au s.data.toList p).toNat,p⟩,(au s.data.toList p).toNat)):=qlZ;clear hf g0;by_cases h4:p+4<=s.size
 ·have d4:decide ((4:Int)<=(s.size:Int) - (p:Int))=true:=decide_eq_true qoq
  by_cases hr:ar s.data.toList p 4=[35,82,69,70]
  ·have dr:((s.extract p (p+4)).toList==[35,82,69,70])=true:=by rw [ByteArray.toList_eq,bQ,hr];rfl
   have l1:=qgp;have l2:=qbP;exact qja
  ·have dr:((s.extract p (p+4)).toList==[35,82,69,70])=Zz:=by rw [ByteArray.toList_eq,bQ,beq_eq_false_iff_ne];exact hr
   exact qiw
 ·have d4:decide ((4:Int)<=(s.size:Int) - (p:Int))=Zz:=decide_eq_false qoq
  have hr:¬ar s.data.toList p 4=[35,82,69,70]:=qkw;clear h4;exact qiw

theorem JJ (s:ByteArray) (hs:s.size<=4611686018427387903) (p:Nat) (h:p<s.size) (w:Z3):
 Calls ZW 135 #[.string s,ZZ ZY (p:Int)] w fun e w'=>e=ZX (cC (aD s.data.toList p))/\Z2 w.heap.size w w':=by
 cases hf:isFig (s[p]'h) with
 |true=>exact Jj s hs p h hf w
 |false=>
  by_cases h1:(s[p]'h).toNat<65
  ·exact Na s hs p h hf h1 w
  ·by_cases h2:90<(s[p]'h).toNat
   ·exact NI s hs p h hf h2 w
   ·exact FC s hs p h hf ⟨qoq,qoq⟩ w
theorem p8 (h:Z2 w.heap.size w w') (row:Option Nat):w.grownBy w' row:=⟨h.os,h.tape,h.output,h.size,fun i hi _=>h.block i hi⟩
theorem rU {e:TypeId} {size:Nat} {n:Nat} {xs:List Value} (h:w.ownsRow base e size v n xs) (hb:Z2 w.heap.size w w'):w'.ownsRow base e size v n xs:=
 h.kept (p8 hb ZU) (by cases v.ownBlock<;>simp)
def fy (t:Tok):List Value:=[ZZ ZY t.kY,ZZ ZY t.num,ZZ ZY t.col,ZZ ZY t.row,Zx ⟨t.text.toArray⟩,ZZ ZY (t.frm:Int)]
def c6 (l:List Tok):List Value:=l.flatMap fy
theorem gV (l:List Tok) (t:Tok):c6 (l++[t])=c6 l++fy t:=by
 unfold c6;rw [List.flatMap_append];simp
def cG (l:List UInt8):Nat->Nat->List Tok->Option (List Tok)×Nat
 |0,p,_=>(ZU,p)
 |k+1,p,acc=>
  if p<l.length then
   if l.getD p 0=32 then cG l k (p+1) acc
   else match aD l p with
    |none=>(ZU,p)
    |some (t,n)=>cG l k (p+n) (acc++[t])
  else (ZV acc,0)
def dL (l:List UInt8):Option (List Tok)×Nat:=cG l (l.length+1) 0 []
def aE (l:List UInt8):List Tok:=if 200<l.length then [] else (dL l).1.getD []
def jb (l:List UInt8):Int:=if 200<l.length then 0 else match (dL l).1 with|some _=>0|none=>((dL l).2:Int)
def cF (l:List UInt8):Int:=if 200<l.length then 3 else match (dL l).1 with|some _=>0|none=>2
theorem pH (h:¬200<l.length) (e:dL l=(ZV a,0)):aE l=a/\jb l=0/\cF l=0:=qlJ
theorem oH (h:¬200<l.length) (e:dL l=(ZU,p)):aE l=[]/\jb l=(p:Int)/\cF l=2:=qlJ
theorem sD {f:UInt8->Bool} (hp:p<l.length) (h:f (l.getD p 0)=true):0<aH f l p:=by
 have e:=qhq;have hf:f l[p]=true:=(by simpa [List.getD_eq_getElem?_getD,hp] using h);unfold aH;rw [e,List.takeWhile_cons,hf];simp
theorem rE (f:UInt8->Bool) (l:List UInt8) (p:Nat) (hp:p<=l.length):p+aH f l p<=l.length:=by
 unfold aH;have h:=(List.takeWhile_prefix f (l:=l.drop p)).length_le;rw [List.length_drop] at h;omega
theorem sA (s:ByteArray) {n:Nat} {t:Tok} (hp:p<s.size) (h:aD s.data.toList p=ZV (t,n)):0<n/\p+n<=s.size:=by
 have hl:=aq s;unfold aD at h;split at h
 ·rename_i hf
  split at h
  ·simp at h
   rw [<-h.2,<-hl];exact ⟨sD (by rw [hl];exact hp) hf,rE _ _ _ (by rw [hl];omega)⟩
  ·cases h
 ·split at h
  ·rename_i hf hc
   have hN:bB (s.data.toList.getD p 0)=true:=decide_eq_true (.inl hc)
   have hq:0<aH bB s.data.toList p/\p+aH bB s.data.toList p<=s.size:=by
    rw [<-hl];exact ⟨sD (by rw [hl];exact hp) hN,rE _ _ _ (by rw [hl];omega)⟩
   split at h
   ·simp at h;rw [<-h.2];exact hq
   ·split at h
    ·simp at h;rw [<-h.2];exact hq
    ·split at h
     ·simp at h;rw [<-h.2];exact hq
     ·cases h
  ·split at h
   ·rename_i hr
    simp at h
    have:=congrArg List.length hr;unfold ar at this;rw [List.length_take,List.length_drop,hl] at this;exact qlF
   ·split at h
    ·cases h
    ·rename_i hm
     simp at h
     rcases mark_cases s p with h0|h1|⟨h2,h3⟩
     ·exact absurd h0 hm
     ·rw [h1] at h;have:=h.2;simp at this;omega
     ·rw [h2] at h;have:=h.2;simp at this;omega
theorem IL:(prog.info? 198).map (fun i=>(i.zero,i.size,i.bytes))=ZV (ZV (.agg #[ZZ ZY 0,ZZ ZY 0,ZZ ZY 0,ZZ ZY 0,Zx ⟨#[]⟩,ZZ ZY 0]),6,56):=by kernel_rfl

theorem xr (s:ByteArray) (hs:s.size<=200) (w:Z3):
 Calls ZW 85 #[.string s] w fun e w'=>∃v,e=ZX (.tuple #[v,ZZ ZY (jb s.data.toList),ZZ ZY (cF s.data.toList)])/\
  w'.ownsRow w.heap.size 198 6 v (aE s.data.toList).length (c6 (aE s.data.toList))/\Z2 w.heap.size w w':=by
 obtain ⟨i0,hi0,hz0,hz1,hz2⟩:=info_parts IL;obtain ⟨HI,HZ0,HZ1,HZ2⟩:=qbC;have HL:=qf (aq s);obtain ⟨HN,d0⟩:=qeF;clear hi0 hz0 hz1 hz2;go_enter func85,ntmps85;go_wp2_with fail;go_loopw [5,6] (fun v a wr=>∃(p k:Nat) (acc:List Tok),p<=s.size/\a=ZZ ZY p/\acc.length<=p/\Hid (dL s.data.toList=cG s.data.toList k p acc/\s.size<k+p)/\wr.ownsRow w.heap.size 198 6 v acc.length (c6 acc)/\Z2 w.heap.size w wr) (fun _ a _=>s.size - (RowKit.intOf a).toNat)
 case atStart=>exact qmB
 case round=>
  obtain ⟨p,k,acc,hp,rfl,hacc,HS,hown,hb⟩:=hrel;have HO:=qf hown;clear hown;by_cases hlt:p<s.size
  ·have hk:∃k',k=k'+1:=by
    cases k with
    |zero=>have:=HS.out.2;omega
    |succ k'=>exact ⟨k',rfl⟩
   obtain ⟨k',rfl⟩:=hk;have g0:=bV s p hlt;have hk':s.size<k'+1+p:=HS.out.2
   have hS:dL s.data.toList=(if s[p]'hlt=32 then cG s.data.toList k' (p+1) acc else match aD s.data.toList p with|none=>(ZU,p)|some (t,n)=>cG s.data.toList k' (p+n) (acc++[t])):=by
    rw [HS.out.1,cG,if_pos qqE,g0]
   clear HS;by_cases hc:s[p]'hlt=32
   ·rw [if_pos hc] at hS
    exact qjG
   ·rw [if_neg hc] at hS
    have t32:=qhw;have h1:=JJ s qoq p hlt;clear hc g0;cases ho:aD s.data.toList p with
    |none=>
     rw [ho] at h1 hS;have HA:=qf (oH HN.out hS);have H1:=qf h1;unfold cC at H1;clear ho h1 hS hk';go_wp2_with fail;refine .mono qrC ?_;rintro e w1 ⟨rfl,b1⟩;exact qjJ
    |some r=>
     obtain ⟨⟨kd,nu,co,ro,te,fr⟩,n⟩:=r;obtain ⟨hn0,hn1⟩:=sA s hlt ho;rw [ho] at h1 hS;have HS':Hid (dL s.data.toList=cG s.data.toList k' (p+n) (acc++[⟨kd,nu,co,ro,te,fr⟩])/\s.size<k'+(p+n)):=qf ⟨hS,qoq⟩;have H1:=qf h1;unfold cC G0 at H1;have tn:=qhL;clear ho h1 hS hk';go_wp2_with fail;refine .mono qrC ?_;rintro e w1 ⟨rfl,b1⟩;have HO1:=qf (rU HO.out b1);have hb1:=hb.trans (b1.mono hb.size);have hz:=hb1.size;clear b1
     go_wp2_with (at_builtin;refine wpList_append_own _ rfl _ _ 136 rfl w.heap.size 198 i0 (.agg #[ZZ ZY 0,ZZ ZY 0,ZZ ZY 0,ZZ ZY 0,Zx ⟨#[]⟩,ZZ ZY 0]) 6 56 underlying136 HI.out HZ0.out HZ1.out HZ2.out rfl qnv _ _ _ rfl ((HO1.out.alloc _).alloc _) ⟨w1.heap.size+1,0,ZU⟩ 1 1 (fy ⟨kd,nu,co,ro,te,fr⟩) rfl rfl ?c1 ?c2 ?c3 ?c4 ?c5 ?_)
     case c1=>
      intro j u hj;match j,hj with
      |0,hj=>exact qmC
      |1,hj=>exact qmC
      |2,hj=>exact qmC
      |3,hj=>exact qmC
      |4,hj=>exact qmC
      |5,hj=>exact qmC
     case c2=>exact qmD
     case c3=>exact qmE
     case c4=>omega
     case c5=>simp;omega
     intro v' w4 hown4 hg4 _;rw [<-gV] at hown4;have e5:acc.length+1=(acc++[(⟨kd,nu,co,ro,te,fr⟩:Tok)]).length:=qns;rw [e5] at hown4;have HO4:=qf hown4;have hb4:=qey;clear hg4 hown4;go_wp2_with fail;go_roundw
     case rel=>exact ⟨p+n,k',acc++[⟨kd,nu,co,ro,te,fr⟩],hn1,qnG,qnu,HS',HO4.out,hb4⟩
     case measure=>exact qmy
  ·have hpe:¬p<s.data.toList.length:=by rw [aq];exact hlt
   exact qje
theorem CI (s:ByteArray) (hs:200<s.size) (hm:s.size<=9223372036854775807) (w:Z3):
 Calls ZW 85 #[.string s] w fun e w'=>e=ZX (.tuple #[.slice ZU 0 0,ZZ ZY 0,ZZ ZY 3])/\w=w':=by
 have d0:=qgQ;clear hs;go_enter func85,ntmps85;go_wp2_with fail;go_ret3
 exact ⟨rfl,rfl⟩
theorem Fl (s:ByteArray) (hm:s.size<=9223372036854775807) (w:Z3):
 Calls ZW 85 #[.string s] w fun e w'=>∃v,e=ZX (.tuple #[v,ZZ ZY (jb s.data.toList),ZZ ZY (cF s.data.toList)])/\
  w'.ownsRow w.heap.size 198 6 v (aE s.data.toList).length (c6 (aE s.data.toList))/\Z2 w.heap.size w w':=by
 by_cases h:s.size<=200
 ·exact xr s h w
 ·have hl:200<s.data.toList.length:=by rw [aq];omega
  obtain ⟨e1,e2,e3⟩:=qcY;refine (CI s qoq hm w).mono fun e w' ⟨he,hw⟩=>⟨.slice ZU 0 0,(by rw [he,e2,e3]),qpt,hw▸qb⟩
def AtT (w:Z3) (g:Nat) (l:List Tok):Prop:=∀(i:Nat) (t:Tok),l[i]? =ZV t->w.cell? ⟨g,i*6,ZU⟩=ZV (ZZ ZY t.kY)/\w.cell? ⟨g,i*6+1,ZU⟩=ZV (ZZ ZY t.num)/\w.cell? ⟨g,i*6+2,ZU⟩=ZV (ZZ ZY t.col)/\
 w.cell? ⟨g,i*6+3,ZU⟩=ZV (ZZ ZY t.row)/\w.cell? ⟨g,i*6+4,ZU⟩=ZV (Zx ⟨t.text.toArray⟩)/\w.cell? ⟨g,i*6+5,ZU⟩=ZV (ZZ ZY (t.frm:Int))
theorem zu:∀(l:List Tok) (i k:Nat) (t:Tok),l[i]? =ZV t->k<6->(c6 l)[i*6+k]? =(fy t)[k]?
 |[],i,k,t,h,_=>by simp at h
 |p::r,0,k,t,h,hk=>by
  simp at h;subst h
  show (fy p++c6 r)[0*6+k]? =_
  rw [Nat.zero_mul,Nat.zero_add,List.getElem?_append_left (by simpa [fy] using hk)]
 |p::r,i+1,k,t,h,hk=>by
  have:=zu r i k t qoA hk;show (fy p++c6 r)[(i+1)*6+k]? =_
  rw [List.getElem?_append_right (by simp [fy];omega),show (i+1)*6+k - (fy p).length=i*6+k from by simp [fy];omega];exact this
theorem i9 {T:Nat} {l:List Tok} (h:w.ownsRow base T 6 v l.length (c6 l)):
 ∃A cap,v=.slice A l.length cap/\(l≠[]->∃g,A=ZV ⟨g,0,ZU⟩/\g<w.heap.size/\base<=g/\AtT w g l)/\l.length<=maxLen:=by
 have h':=h;obtain ⟨_,h⟩:=h;rcases h with ⟨rfl,hl⟩|⟨g,cap,cur,rfl,_,_,hlc,hcm,_⟩
 ·have e:=List.eq_nil_of_length_eq_zero hl
  subst e;exact ⟨ZU,0,rfl,fun h=>absurd rfl h,qe⟩
 ·refine ⟨ZV ⟨g,0,ZU⟩,cap,rfl,fun _=>⟨g,rfl,(h'.lt g rfl).2,(h'.lt g rfl).1,?_⟩,qoq⟩
  intro i t hi;have hlt:i<l.length:=(List.getElem?_eq_some_iff.1 hi).1;have c:=fun k (hk:k<6)=>(h'.cellAt (i*6+k) qoq).trans (zu l i k t hi hk)
  exact ⟨c 0 qoq,c 1 qoq,c 2 qoq,c 3 qoq,c 4 qoq,c 5 qoq⟩
theorem pi {n:Nat} {t:Tok} (hp:p<l.length) (h:aD l p=ZV (t,n)):0<n/\p+n<=l.length:=by
 have e1:(⟨l.toArray⟩:ByteArray).data.toList=l:=qns;have e2:(⟨l.toArray⟩:ByteArray).size=l.length:=(by show l.toArray.size=l.length;simp);have:=sA ⟨l.toArray⟩ (p:=p) (n:=n) (t:=t) (by rw [e2];exact hp) (by rw [e1];exact h);rwa [e2] at this
theorem mh {l:List UInt8}:∀(k p:Nat) (acc a:List Tok) (q:Nat),p<=l.length->cG l k p acc=(ZV a,q)->a.length<=acc.length+(l.length - p)
 |0,p,acc,a,q,_,h=>by simp [cG] at h
 |k+1,p,acc,a,q,hp,h=>by
  unfold cG at h;split at h
  ·rename_i hlt
   split at h
   ·have:=mh k (p+1) acc a q qoq h;omega
   ·split at h
    ·simp at h
    ·rename_i t n ho
     obtain ⟨h0,h1⟩:=pi hlt ho;have:=mh k (p+n) (acc++[t]) a q h1 h;exact qlF
  ·simp at h
   rw [<-h.1];omega
theorem kW (l:List UInt8):(aE l).length<=1000:=by
 unfold aE;split
 ·simp
 ·cases hs:dL l with
  |mk o q=>
   cases o with
   |none=>simp
   |some a=>
    have:=mh (l.length+1) 0 [] a q qe hs;simp at this ⊢
    omega
theorem kx (l:List UInt8) (p i:Nat):(l.drop p).getD i 0=l.getD (p+i) 0:=by
 simp [List.getD_eq_getElem?_getD]
theorem vc (l:List UInt8) (p:Nat):aD l p=(aD (l.drop p) 0).map fun x=>({ x.1 with frm:=p },x.2):=by
 have e0:(l.drop p).getD 0 0=l.getD p 0:=kx l p 0;have e1:∀f,aH f (l.drop p) 0=aH f l p:=fun f=>by unfold aH;simp
 have e2:∀n,ar (l.drop p) 0 n=ar l p n:=fun n=>by unfold ar;simp
 have e3:au (l.drop p) 0=au l p:=by
  unfold au;rw [e0,kx]
 unfold aD;rw [e0,e1,e1,e2,e2,e2,e3,e2];split
 ·cases dX (ar l p (aH isFig l p))<;>rfl
 ·split
  ·split
   ·rfl
   ·split
    ·rfl
    ·split<;>rfl
  ·split
   ·rfl
   ·split<;>rfl
inductive Lex:List UInt8->Nat->List Tok->Prop
 |nil (o:Nat):Lex [] o []
 |blank {r:List UInt8} {o:Nat} {ts:List Tok}:Lex r (o+1) ts->Lex (32::r) o ts
 |tok {r:List UInt8} {o:Nat} {t:Tok} {n:Nat} {ts:List Tok}:r≠[]->r.head? ≠ZV 32->aD r 0=ZV (t,n)->Lex (r.drop n) (o+n) ts->Lex r o ({ t with frm:=o }::ts)
theorem pj {l:List UInt8}:∀(k p:Nat) (acc a:List Tok) (q:Nat),p<=l.length->cG l k p acc=(ZV a,q)->∃ts,a=acc++ts/\Lex (l.drop p) p ts
 |0,p,acc,a,q,_,h=>by simp [cG] at h
 |k+1,p,acc,a,q,hp,h=>by
  unfold cG at h;split at h
  ·rename_i hlt
   have e:l.drop p=l[p]::l.drop (p+1):=List.drop_eq_getElem_cons hlt;have g:l.getD p 0=l[p]:=(by simp [List.getD_eq_getElem?_getD,hlt]);split at h
   ·rename_i hc
    obtain ⟨ts,rfl,hL⟩:=pj k (p+1) acc a q qoq h;refine ⟨ts,rfl,?_⟩;rw [e,<-g,hc];exact .blank hL
   ·rename_i hc
    split at h
    ·simp at h
    ·rename_i t n ho
     obtain ⟨h0,h1⟩:=pi hlt ho;obtain ⟨ts,rfl,hL⟩:=pj k (p+n) (acc++[t]) a q h1 h;rw [vc] at ho;cases ho':aD (l.drop p) 0 with
     |none=>rw [ho'] at ho;cases ho
     |some x=>
      obtain ⟨t',n'⟩:=x;rw [ho'] at ho;simp at ho
      obtain ⟨rfl,rfl⟩:=ho;refine ⟨{ t' with frm:=p }::ts,qns,?_⟩;refine .tok (by rw [e];exact List.cons_ne_nil _ _) (by rw [e,<-g];simpa using hc) ho' ?_;rw [List.drop_drop];exact hL
  ·simp at h
   refine ⟨[],(by simp [h.1]),?_⟩;rw [List.drop_eq_nil_of_le qoq];exact .nil p
theorem Jo {r:List UInt8} {o:Nat} {ts:List Tok} (h:Lex r o ts):l.drop o=r->o<=l.length->∀k,l.length<k+o->∀acc,cG l k o acc=(ZV (acc++ts),0):=by
 induction h with
 |nil o=>
  intro hd ho k hk acc
  have hlen:l.length<=o:=by
   have:=congrArg List.length hd;exact qlF
  cases k with
  |zero=>omega
  |succ k=>
   unfold cG;rw [if_neg qoq];simp
 |@blank r o ts _ ih=>
  intro hd ho k hk acc
  have hlt:o<l.length:=by
   have:=congrArg List.length hd;exact qlF
  have g:l.getD o 0=32:=by
   have:=kx l o 0;rw [hd] at this;simpa using this.symm
  cases k with
  |zero=>omega
  |succ k=>
   unfold cG;rw [if_pos hlt,if_pos g];refine ih ?_ qoq k qoq acc;rw [show o+1=o+1 from rfl,<-List.drop_drop,hd];rfl
 |@tok r o t n ts hr h32 ho _ ih=>
  intro hd hol k hk acc
  have hlt:o<l.length:=by
   have:=congrArg List.length hd;have h1:=List.length_pos_iff.2 hr;exact qlF
  have g:l.getD o 0≠32:=by
   have:=kx l o 0;rw [hd] at this;intro e;apply h32
   cases r with
   |nil=>exact absurd rfl hr
   |cons c q=>
    have e2:c=32:=(by rw [Nat.add_zero,e] at this;simpa using this);rw [e2];rfl
  have ho2:aD l o=ZV ({ t with frm:=o },n):=(by rw [vc,hd,ho];rfl);obtain ⟨h0,h1⟩:=pi hlt ho2;cases k with
  |zero=>omega
  |succ k=>
   unfold cG;rw [if_pos hlt,if_neg g,ho2];show cG l k (o+n) (acc++[_])=_
   have hi:=ih (by rw [<-List.drop_drop,hd]) h1 k qoq (acc++[{ t with frm:=o }]);rw [List.append_assoc] at hi;exact hi
theorem MB {q:Nat} (h:dL l=(ZV a,q)):Lex l 0 a:=by
 obtain ⟨ts,rfl,hL⟩:=pj (l.length+1) 0 [] a q qe h;rw [List.drop_zero] at hL;exact hL
theorem F9 (h:Lex l 0 a):dL l=(ZV a,0):=by
 have:=Jo (l:=l) h qns qe (l.length+1) qoq [];exact this
theorem Dc (h:cF l=0) (hl:l.length<=200):Lex l 0 (aE l):=by
 cases hs:dL l with
 |mk o q=>
  cases o with
  |none=>rw [(oH qoq hs).2.2] at h;cases h
  |some a=>
   have hL:=MB hs;have e:=F9 hL;rw [(pH qoq e).1];exact hL
def O6:Prop:=∀(s:ByteArray),s.size<=300->∀w,jc w->Calls ZW 80 #[.string s] w fun e w'=>∃v,e=ZX (.tuple #[v,ZZ ZY (jb s.data.toList),ZZ ZY (cF s.data.toList)])/\
 w'.ownsRow w.heap.size 184 6 v (aE s.data.toList).length (c6 (aE s.data.toList))/\Z2 w.heap.size w w'
