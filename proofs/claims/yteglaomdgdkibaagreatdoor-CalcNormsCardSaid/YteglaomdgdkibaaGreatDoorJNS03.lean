import Derived.Test.YteglaomdgdkibaaGreatDoorJNS02
import Derived.Test.YteglaomdgdkibaaGreatDoorJQNSP
import Derived.Test.YteglaomdgdkibaaGreatDoorJQNSW
set_option linter.all false
set_option maxHeartbeats 0
set_option maxRecDepth 99999
namespace Go.Proofs.YteglaomdgdkibaaGreatDoor
open Go.RowKit
open Value renaming int→ZZ,string→Zx
open IntKind renaming i64→ZY
open Ending renaming returned→ZX
open Go renaming World→Z3
open Tryz
open Tryz renaming prog→ZW
open Option renaming some→ZV,none→ZU
open Bool renaming false→Zz,true→Zy
variable {l:List UInt8}{i n p:Nat}{c k:UInt8}
def isFig (c:UInt8):Bool:=decide (48<=c.toNat/\c.toNat<=57)
def bB (c:UInt8):Bool:=decide (65<=c.toNat/\c.toNat<=90\/48<=c.toNat/\c.toNat<=57)
theorem Ap (c:Int) (w:Z3) (b0 b1:Bool) (h0:decide ((48:Int)<=c)=b0) (h1:decide (c<=57)=b1):
 Calls ZW 187 #[.int .u8 c] w fun e w'=>e=ZX (.bool (b0&&b1))/\w=w':=by
 cases b0<;>cases b1
 all_goals
  go_enter func187,ntmps187;go_wp2_with fail;go_ret;exact ⟨rfl,rfl⟩
theorem yx (c:UInt8) (w:Z3):
 Calls ZW 187 #[.int .u8 (c.toNat:Int)] w fun e w'=>e=ZX (.bool (isFig c))/\w=w':=
 (Ap c.toNat w _ _ rfl rfl).mono fun _ _ ⟨he,hb⟩=>⟨he.trans (aK (by
   unfold isFig;rw [Bool.eq_iff_iff];simp only [Bool.and_eq_true,decide_eq_true_eq];omega)),hb⟩
theorem Di (c:Int) (w:Z3) (b0 b1 b2 b3:Bool) (h0:decide ((65:Int)<=c)=b0) (h1:decide (c<=90)=b1) (h2:decide ((48:Int)<=c)=b2) (h3:decide (c<=57)=b3):
 Calls ZW 189 #[.int .u8 c] w fun e w'=>e=ZX (.bool (b0&&b1 || b2&&b3))/\w=w':=by
 cases b0<;>cases b1<;>cases b2<;>cases b3
 all_goals
  go_enter func189,ntmps189;go_wp2_with fail;go_ret;exact ⟨rfl,rfl⟩
theorem CD (c:UInt8) (w:Z3):
 Calls ZW 189 #[.int .u8 (c.toNat:Int)] w fun e w'=>e=ZX (.bool (bB c))/\w=w':=
 (Di c.toNat w _ _ _ _ rfl rfl rfl rfl).mono fun _ _ ⟨he,hb⟩=>⟨he.trans (aK (by
   unfold bB;rw [Bool.eq_iff_iff];simp only [Bool.or_eq_true,Bool.and_eq_true,decide_eq_true_eq];omega)),hb⟩

def bP (l:List UInt8):Bool:=l==[73,70] || l==[83,85,77] || l==[77,73,78] || l==[77,65,88] || l==[67,79,85,78,84]
theorem Jh (s:ByteArray) (w:Z3) (b0 b1 b2 b3 b4:Bool) (h0:(s.toList==[73,70])=b0) (h1:(s.toList==[83,85,77])=b1) (h2:(s.toList==[77,73,78])=b2) (h3:(s.toList==[77,65,88])=b3) (h4:(s.toList==[67,79,85,78,84])=b4):
 Calls ZW 191 #[.string s] w fun e w'=>e=ZX (.bool (b0 || b1 || b2 || b3 || b4))/\w=w':=by
 cases b0 with
 |true=>
  go_enter func191,ntmps191;exact qiM
 |false=>
  cases b1 with
  |true=>
   go_enter func191,ntmps191;exact qiM
  |false=>
   cases b2<;>cases b3<;>cases b4
   all_goals
    go_enter func191,ntmps191;go_wp2_with fail;go_ret;exact ⟨rfl,rfl⟩
theorem FB (s:ByteArray) (w:Z3):
 Calls ZW 191 #[.string s] w fun e w'=>e=ZX (.bool (bP s.data.toList))/\w=w':=
 (Jh s w _ _ _ _ _ rfl rfl rfl rfl rfl).mono fun _ _ ⟨he,hb⟩=>⟨he.trans (aK (by rw [ByteArray.toList_eq];rfl)),hb⟩
def dX (l:List UInt8):Option Nat:=match Lib.decFrom 0 l with|some u=>if u<=9223372036854775807 then ZV u else ZU|none=>ZU
def AW (l:List UInt8):Int:=match dX l with|some u=>(u:Int)|none=>0
theorem I6 (h:Lib.decFrom 0 (l.take i)=ZV n) (hc:l[i]? =ZV c) (hf:isFig c=Zy):Lib.decFrom 0 (l.take (i+1))=ZV (n*10+(c.toNat - 48)):=by
 have hd:Lib.digitVal c=ZV (c.toNat - 48):=by
  have hq:48<=c.toNat/\c.toNat<=57:=of_decide_eq_true hf;have:=kQ (d:=c.toNat - 48) qoq;rwa [show 48+(c.toNat - 48)=c.toNat from by omega,show UInt8.ofNat c.toNat=c from by simp] at this
 rw [List.take_add_one,hc];show Lib.decFrom 0 (l.take i++[c])=_
 rw [io,h];simp [hd]
theorem D3 {u:Nat} (h:Lib.decFrom 0 (l.take i)=ZV n) (hu:Lib.decFrom 0 l=ZV u):n<=u:=by
 have e:l=l.take i++l.drop i:=(List.take_append_drop i l).symm
 have h2:∀(a b:List UInt8) (x y:Nat),Lib.decFrom x a=ZV y->Lib.decFrom x (a++b)=Lib.decFrom y b:=by
  intro a;induction a with
  |nil=>intro b x y h;simp [Lib.decFrom] at h;subst h;rfl
  |cons c r ih=>
   intro b x y h;simp only [List.cons_append,Lib.decFrom] at h ⊢;cases hd:Lib.digitVal c with
   |none=>rw [hd] at h;cases h
   |some d=>rw [hd] at h;exact ih b _ y h
 rw [e,h2 _ _ _ _ h] at hu;exact mr _ _ _ hu

theorem xW (s:ByteArray) (hs:s.size<=9223372036854775807) (hf:∀i (h:i<s.size),isFig (s[i]'h)=Zy) (w:Z3):
 Calls ZW 188 #[.string s] w fun e w'=>e=ZX (.tuple #[ZZ ZY (AW s.data.toList),.bool (dX s.data.toList).isSome])/\w=w':=by
 have HF:=qf hf;clear hf;go_enter func188,ntmps188;go_wp2_with fail;go_loop [4,5] (fun vn vi=>∃i n:Nat,i<=s.size/\n<=9223372036854775807/\vi=ZZ ZY i/\vn=ZZ ZY n/\Hid (Lib.decFrom 0 (s.data.toList.take i)=ZV n)) (fun _ vi=>s.size - (RowKit.intOf vi).toNat)
 case atStart=>exact ⟨0,0,qe,qe,rfl,rfl,qf (by simp [Lib.decFrom])⟩
 case round=>
  obtain ⟨i,n,hi,hn,rfl,rfl,HU⟩:=hrel;by_cases hlt:i<s.size
  ·have hc:=HF.out i hlt
   have hb:48<=(s[i]'hlt).toNat/\(s[i]'hlt).toNat<=57:=of_decide_eq_true hc;have HS:=qf (I6 HU.out (nF s i hlt) hc);obtain ⟨b1,b2⟩:=hb;clear hc;by_cases hq:(9223372036854775807 - (((s[i]'hlt).toNat:Int) - 48)) / 10<(n:Int)
   ·have hN:dX s.data.toList=ZU:=by
     unfold dX;cases hu:Lib.decFrom 0 s.data.toList with
     |none=>rfl
     |some u=>
      have h1:=D3 HS.out hu;have h2:9223372036854775807<u:=qoq;show (if u<=9223372036854775807 then ZV u else ZU)=ZU
      rw [if_neg qoq]
    exact qkH
   ·have hm:n*10+((s[i]'hlt).toNat - 48)<=9223372036854775807:=by omega
    go_wp2_with fail;go_round
    case rel=>exact ⟨i+1,n*10+((s[i]'hlt).toNat - 48),qoq,hm,qnG,(by first|go_num|(congr 1;omega)),HS⟩
    case measure=>exact qmy
  ·have hN:dX s.data.toList=ZV n:=by
    have h1:=HU.out;rw [List.take_of_length_le qnX] at h1;unfold dX;rw [h1];exact if_pos hn
   exact qkH
def bw (c d:UInt8):Int:=
 if c=60/\(d=61\/d=62)\/c=62/\d=61 then 2
 else if c=43\/c=45\/c=42\/c=47\/c=40\/c=41\/c=44\/c=58\/c=60\/c=61\/c=62 then 1 else 0
def au (l:List UInt8) (p:Nat):Int:=bw (l.getD p 0) (l.getD (p+1) 0)
theorem aI (h:¬c=k):((c.toNat:Int)==(k.toNat:Int))=Zz:=by
 rw [beq_eq_false_iff_ne];intro e;exact h (UInt8.toNat_inj.1 qoq)
theorem db (h:c=k):((c.toNat:Int)==(k.toNat:Int))=Zy:=by rw [h];simp
theorem ni (s:ByteArray) (i:Nat) (h:¬i<s.size):s.data.toList.getD i 0=0:=by
 rw [List.getD_eq_getElem?_getD,List.getElem?_eq_none qnX];rfl

theorem Df (s:ByteArray) (hs:s.size<=9223372036854775807) (p:Nat) (h:p<s.size) (hp:p+1<s.size) (w:Z3):
 Calls ZW 192 #[.string s,ZZ ZY (p:Int)] w fun e w'=>e=ZX (ZZ ZY (au s.data.toList p))/\w=w':=by
 have g0:=qgT;have g1:=bV s (p+1) hp;by_cases q60:(s[p]'h)=60
 ·by_cases d61:(s[p+1]'hp)=61
  ·have HR:=qf (show au s.data.toList p=2 from by unfold au;rw [g0,g1];simp [bw,q60,d61])
   have t60:=qhE;have u61:=qhn;clear g0 g1 q60 d61;exact qiv
  by_cases d62:(s[p+1]'hp)=62
  ·have HR:=qf (show au s.data.toList p=2 from by unfold au;rw [g0,g1];simp [bw,q60,d62])
   have t60:=qhE;have u61:=qew;have u62:(((s[p+1]'hp).toNat:Int)==62)=Zy:=db (k:=62) d62;clear g0 g1 q60 d61 d62;exact qiv
  have HR:=qf (show au s.data.toList p=1 from by unfold au;rw [g0,g1];simp [bw,q60,d61,d62]);obtain ⟨t60,t43,t45,t42,t47,t40,t41,t44,t58,t62⟩:=qaL;have u61:=qew;have u62:(((s[p+1]'hp).toNat:Int)==62)=Zz:=aI (k:=62) d62;clear g0 g1 q60 d61 d62;exact qiv
 by_cases q62:(s[p]'h)=62
 ·by_cases d61:(s[p+1]'hp)=61
  ·have HR:=qf (show au s.data.toList p=2 from by unfold au;rw [g0,g1];simp [bw,q62,d61])
   have t60:(((s[p]'h).toNat:Int)==60)=Zz:=aI (k:=60) q60;have t62:(((s[p]'h).toNat:Int)==62)=Zy:=db (k:=62) q62;have u61:=qhn;clear g0 g1 q60 q62 d61;exact qiv
  have HR:=qf (show au s.data.toList p=1 from by unfold au;rw [g0,g1];simp [bw,q62,d61]);obtain ⟨t43,t45,t42,t47,t40,t41,t44,t58,t60,t61,t62⟩:=qaT;have u61:=qew;clear g0 g1 q60 q62 d61;exact qiv
 by_cases q43:(s[p]'h)=43
 ·have HR:=qf (show au s.data.toList p=1 from by unfold au;rw [g0,g1];simp [bw,q43])
  exact qmj
 by_cases q45:(s[p]'h)=45
 ·have HR:=qf (show au s.data.toList p=1 from by unfold au;rw [g0,g1];simp [bw,q45])
  exact qlA
 by_cases q42:(s[p]'h)=42
 ·have HR:=qf (show au s.data.toList p=1 from by unfold au;rw [g0,g1];simp [bw,q42])
  exact qlk
 by_cases q47:(s[p]'h)=47
 ·have HR:=qf (show au s.data.toList p=1 from by unfold au;rw [g0,g1];simp [bw,q47])
  exact qkT
 by_cases q40:(s[p]'h)=40
 ·have HR:=qf (show au s.data.toList p=1 from by unfold au;rw [g0,g1];simp [bw,q40])
  exact qlf
 by_cases q41:(s[p]'h)=41
 ·have HR:=qf (show au s.data.toList p=1 from by unfold au;rw [g0,g1];simp [bw,q41])
  exact qkK
 by_cases q44:(s[p]'h)=44
 ·have HR:=qf (show au s.data.toList p=1 from by unfold au;rw [g0,g1];simp [bw,q44])
  exact qks
 by_cases q58:(s[p]'h)=58
 ·have HR:=qf (show au s.data.toList p=1 from by unfold au;rw [g0,g1];simp [bw,q58])
  exact qkm
 by_cases q61:(s[p]'h)=61
 ·have HR:=qf (show au s.data.toList p=1 from by unfold au;rw [g0,g1];simp [bw,q61])
  exact qkb
 have HR:=qen;obtain ⟨t60,t62,t43,t45,t42,t47⟩:=qp;obtain ⟨t40,t41,t44⟩:=qaG;have t58:=qdz;have t61:=qhB;clear g0 g1 q60 q62 q43 q45 q42 q47 q40 q41 q44 q58 q61;go_enter func192,ntmps192;go_wp2_with fail;go_ret;exact ⟨fp HR.out.symm,rfl⟩

theorem AX (s:ByteArray) (hs:s.size<=9223372036854775807) (p:Nat) (h:p<s.size) (hp:¬p+1<s.size) (w:Z3):
 Calls ZW 192 #[.string s,ZZ ZY (p:Int)] w fun e w'=>e=ZX (ZZ ZY (au s.data.toList p))/\w=w':=by
 have g0:=qgT;have g1:=ni s (p+1) hp;have dp:decide ((p:Int)+1<(s.size:Int))=Zz:=decide_eq_false qoq;by_cases q60:(s[p]'h)=60
 ·have HR:=qf (show au s.data.toList p=1 from by unfold au;rw [g0,g1];simp [bw,q60])
  obtain ⟨t60,t43,t45,t42,t47,t40,t41,t44,t58,t62⟩:=qaL;clear g0 g1 q60;exact qiv
 by_cases q62:(s[p]'h)=62
 ·have HR:=qf (show au s.data.toList p=1 from by unfold au;rw [g0,g1];simp [bw,q62])
  obtain ⟨t43,t45,t42,t47,t40,t41,t44,t58,t60,t61,t62⟩:=qaT;clear g0 g1 q60 q62;exact qiv
 by_cases q43:(s[p]'h)=43
 ·have HR:=qf (show au s.data.toList p=1 from by unfold au;rw [g0,g1];simp [bw,q43])
  exact qmj
 by_cases q45:(s[p]'h)=45
 ·have HR:=qf (show au s.data.toList p=1 from by unfold au;rw [g0,g1];simp [bw,q45])
  exact qlA
 by_cases q42:(s[p]'h)=42
 ·have HR:=qf (show au s.data.toList p=1 from by unfold au;rw [g0,g1];simp [bw,q42])
  exact qlk
 by_cases q47:(s[p]'h)=47
 ·have HR:=qf (show au s.data.toList p=1 from by unfold au;rw [g0,g1];simp [bw,q47])
  exact qkT
 by_cases q40:(s[p]'h)=40
 ·have HR:=qf (show au s.data.toList p=1 from by unfold au;rw [g0,g1];simp [bw,q40])
  exact qlf
 by_cases q41:(s[p]'h)=41
 ·have HR:=qf (show au s.data.toList p=1 from by unfold au;rw [g0,g1];simp [bw,q41])
  exact qkK
 by_cases q44:(s[p]'h)=44
 ·have HR:=qf (show au s.data.toList p=1 from by unfold au;rw [g0,g1];simp [bw,q44])
  exact qks
 by_cases q58:(s[p]'h)=58
 ·have HR:=qf (show au s.data.toList p=1 from by unfold au;rw [g0,g1];simp [bw,q58])
  exact qkm
 by_cases q61:(s[p]'h)=61
 ·have HR:=qf (show au s.data.toList p=1 from by unfold au;rw [g0,g1];simp [bw,q61])
  exact qkb
 have HR:=qen;obtain ⟨t60,t62,t43,t45,t42,t47⟩:=qp;obtain ⟨t40,t41,t44⟩:=qaG;have t58:=qdz;have t61:=qhB;clear g0 g1 q60 q62 q43 q45 q42 q47 q40 q41 q44 q58 q61;go_enter func192,ntmps192;go_wp2_with fail;go_ret;exact ⟨fp HR.out.symm,rfl⟩

theorem tQ (s:ByteArray) (hs:s.size<=9223372036854775807) (p:Nat) (h:p<s.size) (w:Z3):
 Calls ZW 192 #[.string s,ZZ ZY (p:Int)] w fun e w'=>e=ZX (ZZ ZY (au s.data.toList p))/\w=w':=by
 by_cases hp:p+1<s.size
 ·exact Df s hs p h hp w
 ·exact AX s hs p h hp w
structure Tok where
 kY:Int
 num:Int
 col:Int
 row:Int
 text:List UInt8
 frm:Nat
def aH (f:UInt8->Bool) (l:List UInt8) (p:Nat):Nat:=((l.drop p).takeWhile f).length
def ar (l:List UInt8) (p n:Nat):List UInt8:=(l.drop p).take n
def aD (l:List UInt8) (p:Nat):Option (Tok×Nat):=
 if isFig (l.getD p 0)=Zy then
  match dX (ar l p (aH isFig l p)) with
  |some u=>ZV (⟨1,(u:Int),0,0,[],p⟩,aH isFig l p)
  |none=>ZU
 else if 65<=(l.getD p 0).toNat/\(l.getD p 0).toNat<=90 then
  if bP (ar l p (aH bB l p))=Zy then ZV (⟨4,0,0,0,ar l p (aH bB l p),p⟩,aH bB l p)
  else if prE (ar l p (aH bB l p))=0 then ZV (⟨2,0,prC (ar l p (aH bB l p)),prR (ar l p (aH bB l p)),[],p⟩,aH bB l p)
  else if prE (ar l p (aH bB l p))=4 then ZV (⟨3,0,0,0,[],p⟩,aH bB l p) else ZU
 else if ar l p 4=[35,82,69,70] then ZV (⟨3,0,0,0,[],p⟩,4)
 else if au l p=0 then ZU else ZV (⟨5,0,0,0,ar l p (au l p).toNat,p⟩,(au l p).toNat)
def G0 (t:Tok):Array Value:=#[ZZ ZY t.kY,ZZ ZY t.num,ZZ ZY t.col,ZZ ZY t.row,Zx ⟨t.text.toArray⟩,ZZ ZY (t.frm:Int)]
def cC (o:Option (Tok×Nat)):Value:=match o with
 |some (t,n)=>.tuple #[.agg (G0 t),ZZ ZY (n:Int)]
 |none=>.tuple #[.agg #[ZZ ZY 0,ZZ ZY 0,ZZ ZY 0,ZZ ZY 0,Zx ⟨#[]⟩,ZZ ZY 0],ZZ ZY 0]
theorem iU {f:UInt8->Bool} {l:List UInt8}:∀{n p:Nat},(∀j,j<n->f (l.getD (p+j) 0)=Zy)->p+n<=l.length->(p+n=l.length\/f (l.getD (p+n) 0)=Zz)->aH f l p=n
 |0,p,_,h2,h3=>by
  unfold aH;by_cases hp:p<l.length
  ·have e:l.drop p=l[p]::l.drop (p+1):=List.drop_eq_getElem_cons hp
   have hf:f l[p]=Zz:=by
    rcases h3 with h3|h3
    ·omega
    ·simpa [List.getD_eq_getElem?_getD,hp] using h3
   rw [e,List.takeWhile_cons,hf];rfl
  ·rw [List.drop_eq_nil_of_le qoq];rfl
 |n+1,p,h1,h2,h3=>by
  have hp:p<l.length:=qoq;have e:=qhq
  have hf:f l[p]=Zy:=by
   have:=h1 0 qoq;simpa [List.getD_eq_getElem?_getD,hp] using this
  have ih:=iU (f:=f) (l:=l) (n:=n) (p:=p+1) (fun j hj=>by
   have:=h1 (j+1) qoq;rwa [show p+(j+1)=p+1+j from by omega] at this) qoq (by rwa [show p+1+n=p+(n+1) from by omega])
  unfold aH at ih ⊢;rw [e,List.takeWhile_cons,hf];simp [ih]
theorem bQ (s:ByteArray) (p n:Nat):(s.extract p (p+n)).data.toList=ar s.data.toList p n:=by
 unfold ar;simp [ByteArray.data_extract]
theorem sF (h:p+n<=l.length):(ar l p n).length=n:=by
 unfold ar;simp;omega
theorem Gq (hi:i<n):(ar l p n).getD i 0=l.getD (p+i) 0:=by
 unfold ar;simp [List.getD_eq_getElem?_getD,hi]
theorem kc (s:ByteArray) (p n:Nat) (h:p+n<=s.size):(s.extract p (p+n)).size=n:=by
 rw [<-aq,bQ,sF (by rw [aq];exact h)]
theorem LX (s:ByteArray) (p n:Nat) (hU:∀j,j<n->isFig (s.data.toList.getD (p+j) 0)=Zy) (hn:p+n<=s.size) (i:Nat) (h:i<(s.extract p (p+n)).size):isFig ((s.extract p (p+n))[i]'h)=Zy:=by
 have hi:i<n:=(by rw [kc s p n hn] at h;exact h);rw [<-bV (s.extract p (p+n)) i h,bQ,Gq hi];exact hU i hi
theorem dv (s:ByteArray) (p n:Nat):s.extract p (p+n)=⟨(ar s.data.toList p n).toArray⟩:=by
 rw [<-bQ]

theorem Jj (s:ByteArray) (hs:s.size<=4611686018427387903) (p:Nat) (h:p<s.size) (hf:isFig (s[p]'h)=Zy) (w:Z3):
 Calls ZW 135 #[.string s,ZZ ZY (p:Int)] w fun e w'=>e=ZX (cC (aD s.data.toList p))/\Below w.heap.size w w':=by
 have H1:=qgH;rw [hf] at H1;have g0:=qgT;have HF:=qf hf;clear hf;go_enter func135,ntmps135;go_wp2_with fail;refine .mono qrC ?_;rintro e w1 ⟨rfl,rfl⟩;go_wp2_with fail;go_loop [6] (fun v=>∃n:Nat,p+n<=s.size/\v=ZZ ZY n/\Hid (∀j,j<n->isFig (s.data.toList.getD (p+j) 0)=Zy)) (fun v=>s.size - p - (RowKit.intOf v).toNat)
 case atStart=>exact ⟨0,qoq,rfl,qf fun j hj=>by omega⟩
 case round=>
  obtain ⟨n,hn,rfl,HU⟩:=hrel;by_cases hlt:p+n<s.size
  ·have gn:=bV s (p+n) hlt
   by_cases hd:48<=(s[p+n]'hlt).toNat/\(s[p+n]'hlt).toNat<=57
   ·have HU':Hid (∀j,j<n+1->isFig (s.data.toList.getD (p+j) 0)=Zy):=qf fun j hj=>by
     by_cases e:j=n
     ·subst e;rw [gn];exact decide_eq_true hd
     ·exact HU.out j qoq
    obtain ⟨d1,d2⟩:=hd;clear gn;go_wp2_with fail;go_round
    case rel=>exact ⟨n+1,qoq,qnG,HU'⟩
    case measure=>exact qmy
   ·have hR:aH isFig s.data.toList p=n:=iU HU.out qnX (.inr (by rw [gn];exact decide_eq_false hd))
    by_cases d1:(s[p+n]'hlt).toNat<48
    ·clear hd
     exact qjv
    ·have d2:57<(s[p+n]'hlt).toNat:=by omega
     have d3:48<=(s[p+n]'hlt).toNat:=qoq;clear hd d1;exact qjv
  ·have hR:aH isFig s.data.toList p=n:=iU HU.out qnX (.inl qnX)
   have hO:aD s.data.toList p=(match dX (ar s.data.toList p n) with|some u=>ZV (⟨1,(u:Int),0,0,[],p⟩,n)|none=>ZU):=by
    unfold aD;rw [if_pos (by rw [g0];exact HF.out),hR]
   have hN:=qdq;rw [bQ] at hN;have HN:=qf hN;clear hN hR;exact qiy
theorem FC (s:ByteArray) (hs:s.size<=4611686018427387903) (p:Nat) (h:p<s.size) (hf:isFig (s[p]'h)=Zz) (hl:65<=(s[p]'h).toNat/\(s[p]'h).toNat<=90) (w:Z3):
 Calls ZW 135 #[.string s,ZZ ZY (p:Int)] w fun e w'=>e=ZX (cC (aD s.data.toList p))/\Below w.heap.size w w':=by
 have H1:=qgH;rw [hf] at H1;have g0:=qgT;have HF:=qf (And.intro hf hl);have l1:=qgp;have l2:decide (((s[p]'h).toNat:Int)<=90)=Zy:=decide_eq_true qoq;clear hf hl;go_enter func135,ntmps135;go_wp2_with fail;refine .mono qrC ?_;rintro e w1 ⟨rfl,rfl⟩;go_wp2_with fail;go_loopw [6] (fun v wr=>∃n:Nat,p+n<=s.size/\v=ZZ ZY n/\Hid (∀j,j<n->bB (s.data.toList.getD (p+j) 0)=Zy)/\wr=w.alloc (.cells #[ZZ ZY 0,ZZ ZY 0,ZZ ZY 0,ZZ ZY 0,Zx ⟨#[]⟩,ZZ ZY 0] 198)) (fun v _=>s.size - p - (RowKit.intOf v).toNat)
 case atStart=>exact ⟨0,qoq,rfl,qf fun j hj=>by omega,rfl⟩
 case round=>
  obtain ⟨n,hn,rfl,HU,rfl⟩:=hrel;by_cases hlt:p+n<s.size
  ·have gn:=bV s (p+n) hlt
   have h4:=CD (s[p+n]'hlt);cases hd:bB (s[p+n]'hlt) with
   |true=>
    rw [hd] at h4;have H4:=qf h4
    have HU':Hid (∀j,j<n+1->bB (s.data.toList.getD (p+j) 0)=Zy):=qf fun j hj=>by
     by_cases e:j=n
     ·subst e;rw [gn];exact hd
     ·exact HU.out j qoq
    clear gn hd h4;go_wp2_with fail;refine (H4.out _).mono ?_;rintro e w3 ⟨rfl,rfl⟩;go_wp2_with fail;go_roundw
    case rel=>exact ⟨n+1,qoq,qnG,HU',qnT⟩
    case measure=>exact qmy
   |false=>
    rw [hd] at h4;have H4:=qf h4;have hR:aH bB s.data.toList p=n:=iU HU.out qnX (.inr (by rw [gn];exact hd));have hO:aD s.data.toList p=(if bP (ar s.data.toList p n)=Zy then ZV (⟨4,0,0,0,ar s.data.toList p n,p⟩,n) else if prE (ar s.data.toList p n)=0 then ZV (⟨2,0,prC (ar s.data.toList p n),prR (ar s.data.toList p n),[],p⟩,n) else if prE (ar s.data.toList p n)=4 then ZV (⟨3,0,0,0,[],p⟩,n) else ZU):=qlv;obtain ⟨h2,h3⟩:=qfY;rw [bQ] at h2 h3;have H2:=qhY;have hX:=dv s p n;clear h2 hR gn hd h4;cases hw:bP (ar s.data.toList p n) with
    |true=>
     rw [hw] at h3;have H3:=qf h3;have HO:=qdb;clear hO hw h3 hX;go_wp2_with fail;refine (H4.out _).mono ?_;rintro e w3 ⟨rfl,rfl⟩;exact qiL
    |false=>
     rw [hw] at h3;have H3:=qf h3;rw [if_neg qqt] at hO;clear hw h3 hX;by_cases e0:prE (ar s.data.toList p n)=0
     ·rw [if_pos e0] at hO
      have HO:=qcM;clear hO;generalize prC (ar s.data.toList p n)=PC at*;generalize prR (ar s.data.toList p n)=PR at*;generalize prE (ar s.data.toList p n)=PE at*;have d0:(PE==0)=Zy:=(by rw [beq_iff_eq];exact e0);clear e0;go_wp2_with fail;refine (H4.out _).mono ?_;rintro e w3 ⟨rfl,rfl⟩;exact qiK
     ·rw [if_neg e0] at hO
      by_cases e4:prE (ar s.data.toList p n)=4
      ·rw [if_pos e4] at hO
       have HO:=qdv;clear hO;generalize prC (ar s.data.toList p n)=PC at*;generalize prR (ar s.data.toList p n)=PR at*;generalize prE (ar s.data.toList p n)=PE at*;have d0:=qdL;have d4:(PE==4)=Zy:=(by rw [beq_iff_eq];exact e4);clear e0 e4;go_wp2_with fail;refine (H4.out _).mono ?_;rintro e w3 ⟨rfl,rfl⟩;exact qiI
      ·rw [if_neg e4] at hO
       have HO:=qbc;clear hO;generalize prC (ar s.data.toList p n)=PC at*;generalize prR (ar s.data.toList p n)=PR at*;generalize prE (ar s.data.toList p n)=PE at*;have d0:=qdL;have d4:=qhZ;clear e0 e4;go_wp2_with fail;refine (H4.out _).mono ?_;rintro e w3 ⟨rfl,rfl⟩;exact qiJ
  ·have hR:aH bB s.data.toList p=n:=iU HU.out qnX (.inl qnX)
   have hO:aD s.data.toList p=(if bP (ar s.data.toList p n)=Zy then ZV (⟨4,0,0,0,ar s.data.toList p n,p⟩,n) else if prE (ar s.data.toList p n)=0 then ZV (⟨2,0,prC (ar s.data.toList p n),prR (ar s.data.toList p n),[],p⟩,n) else if prE (ar s.data.toList p n)=4 then ZV (⟨3,0,0,0,[],p⟩,n) else ZU):=qlv;obtain ⟨h2,h3⟩:=qfY;rw [bQ] at h2 h3;have H2:=qhY;have hX:=dv s p n;clear h2 hR;cases hw:bP (ar s.data.toList p n) with
   |true=>
    rw [hw] at h3;have H3:=qf h3;have HO:=qdb;clear hO hw h3 hX;exact qiL
   |false=>
    rw [hw] at h3;have H3:=qf h3;rw [if_neg qqt] at hO;clear hw h3 hX;by_cases e0:prE (ar s.data.toList p n)=0
    ·rw [if_pos e0] at hO
     have HO:=qcM;clear hO;generalize prC (ar s.data.toList p n)=PC at*;generalize prR (ar s.data.toList p n)=PR at*;generalize prE (ar s.data.toList p n)=PE at*;have d0:(PE==0)=Zy:=(by rw [beq_iff_eq];exact e0);clear e0;exact qiK
    ·rw [if_neg e0] at hO
     by_cases e4:prE (ar s.data.toList p n)=4
     ·rw [if_pos e4] at hO
      have HO:=qdv;clear hO;generalize prC (ar s.data.toList p n)=PC at*;generalize prR (ar s.data.toList p n)=PR at*;generalize prE (ar s.data.toList p n)=PE at*;have d0:=qdL;have d4:(PE==4)=Zy:=(by rw [beq_iff_eq];exact e4);clear e0 e4;exact qiI
     ·rw [if_neg e4] at hO
      have HO:=qbc;clear hO;generalize prC (ar s.data.toList p n)=PC at*;generalize prR (ar s.data.toList p n)=PR at*;generalize prE (ar s.data.toList p n)=PE at*;have d0:=qdL;have d4:=qhZ;clear e0 e4;exact qiJ
