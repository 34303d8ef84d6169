import Derived.Test.YteglaomdgdkibaaGreatDoorJNS06
import Derived.Laws.Runes
import Derived.Laws.Concat
import Derived.Laws.RangeAny
import Derived.Test.YteglaomdgdkibaaGreatDoorJQNSP
import Derived.Test.YteglaomdgdkibaaGreatDoorJQNSW
set_option linter.all false
set_option maxHeartbeats 0
set_option maxRecDepth 99999
namespace Go.Proofs.YteglaomdgdkibaaGreatDoor
open Go.RowKit
open Value renaming int→ZZ,string→Zx,agg→Zu
open IntKind renaming i64→ZY
open Ending renaming returned→ZX
open RowKit renaming Below→Z2
open Go renaming World→Z3
open Tryz
open Tryz renaming prog→ZW
open Option renaming some→ZV,none→ZU
open Bool renaming false→Zz,true→Zy
variable {w w':World}{B:Nat}{s:ByteArray}{a b c d:Int}
theorem pright_any (c r:Int) (w:Z3):
 Calls ZW 122 #[Zu #[ZZ ZY c,ZZ ZY r]] w fun e w'=>e=ZX (.bool (rightB c r))/\Z2 w.heap.size w w':=by
 go_enter func122,ntmps122;go_wp2_with fail;all_goals go_ret
 ·exact qmz
 ·exact qmA
 ·exact qmA
 ·exact qmA
theorem mn (a b c d:Int) (w:Z3):
 Calls ZW 249 #[Zu #[ZZ ZY a,ZZ ZY b,ZZ ZY c,ZZ ZY d]] w fun e w'=>e=ZX (.bool (bW a b c d))/\Z2 w.heap.size w w':=by
 have HF:=qf (pright_any a b);have HT:=qf (pright_any c d);cases hf:rightB a b with
 |false=>
  have e1:=qhg;rw [hf] at HF;clear hf;go_enter func249,ntmps249;go_wp2_with fail;refine .mono qrx ?_;rintro e w1 ⟨rfl,b1⟩;have h1:=qab;clear b1;exact qmv
 |true=>
  rw [hf] at HF;cases ht:rightB c d with
  |false=>
   have e1:=qgP;rw [ht] at HT;clear hf ht;go_enter func249,ntmps249;exact qiS
  |true=>
   have e1:=qfn;rw [ht] at HT;clear hf ht;go_enter func249,ntmps249;exact qiN
theorem sy:∀k:Fin 16,(Utf8.encode (65+(k.val:Int))).data.toList=[UInt8.ofNat (65+k.val)]:=by decide+kernel
theorem uf (c:Int) (c0:0<=c) (c1:c<=15):Utf8.encode (65+c)=⟨#[dm c]⟩:=by
 have e:=sy ⟨c.toNat,qoq⟩;have e1:((c.toNat:Nat):Int)=c:=qoq;simp only [e1] at e;exact qke

theorem Ga (c r:Int) (w:Z3) (hr:rightB c r=Zy) (hE:eS w):
 Calls ZW 184 #[Zu #[ZZ ZY c,ZZ ZY r]] w fun e w'=>e=ZX (Zx ⟨(am c r).toArray⟩)/\Z2 w.heap.size w w':=by
 have HR:=qf (pright_any c r);obtain ⟨c0,c1,r0,r1⟩:=(bp c r).1 hr;rw [hr] at HR;have e1:=qhb;have HEN:=qf (uf c c0 c1);have HT:=qf (pk (r+1) qnY);have hlen:=oO (r+1) qnY;have HE:=qf hE;clear hr hE;obtain ⟨D,hD⟩:∃D,D=Lib.itoa (r+1):=⟨_,rfl⟩
 rw [<-hD] at HT hlen e1;have hcat:∀w,(Op.stringOp .add ⟨#[dm c]⟩ ⟨D.toArray⟩).run ZW w=.ok (Zx ⟨(dm c::D).toArray⟩) w:=fun w=>run_string_add_lists w [dm c] D qns qoq
 have hw1:IntKind.i64.wrap (65+c)=65+c:=IntWalk.i64_in _ qoq;have hw2:=qhy;have hw3:IntKind.i32.wrap (65+c)=65+c:=(by simp only [IntKind.wrap_i32];omega);clear hD;go_enter func184,ntmps184;go_wp2_with fail;refine .mono qrA ?_;rintro e w1 ⟨rfl,b1⟩;obtain ⟨k0,k1⟩:=qhz;have h1:=qab;have HE1:=qf (HE.out.below h1);have HE2:Hid (eS w1.drew):=qf ⟨HE1.out.tab⟩;have hen:=HEN.out;go_wp2_with fail
 go_region_held3 (fun w'=>w'.cell? ⟨w.heap.size,0,ZU⟩=ZV (ZZ ZY c)/\w'.cell? ⟨w.heap.size,1,ZU⟩=ZV (ZZ ZY r))
  (first|(simp only [World.cell?_drew];with_reducible exact ⟨k0,k1⟩)|with_reducible exact ⟨m0,m1⟩|fail)
  (first
  |(go_at_call 171;refine (HT.out _ HE2.out).mono ?_;rintro e w2 ⟨rfl,b2⟩
    obtain ⟨B2,m0⟩:=qhV;have m1:=aa B2 k1))
 all_goals
  go_wp2
  go_ret;exact ⟨gL (by rw [e1.out]),h1.trans (B2.mono h1.size)⟩

theorem Iw (c r:Int) (w:Z3) (hr:rightB c r=Zz):
 Calls ZW 184 #[Zu #[ZZ ZY c,ZZ ZY r]] w fun e w'=>e=ZX (Zx ⟨(am c r).toArray⟩)/\Z2 w.heap.size w w':=by
 have HR:=qf (pright_any c r);have e1:=qhD;rw [hr] at HR;clear hr;go_enter func184,ntmps184;go_wp2_with fail;refine .mono qrA ?_;rintro e w1 ⟨rfl,b1⟩;have h1:=qab;go_wp2_with fail;go_ret;exact ⟨gL (by rw [e1.out]),h1⟩
theorem mC (c r:Int) (w:Z3) (hE:eS w):
 Calls ZW 184 #[Zu #[ZZ ZY c,ZZ ZY r]] w fun e w'=>e=ZX (Zx ⟨(am c r).toArray⟩)/\Z2 w.heap.size w w':=by
 cases hr:rightB c r with
 |true=>exact Ga c r w hr hE
 |false=>exact Iw c r w hr
theorem A6 (a b c d:Int) (w:Z3):
 Calls ZW 333 #[Zu #[ZZ ZY a,ZZ ZY b],Zu #[ZZ ZY c,ZZ ZY d]] w fun e w'=>e=ZX (Zu #[ZZ ZY (min a c),ZZ ZY (min b d)])/\Z2 w.heap.size w w':=by
 go_enter func333,ntmps333;go_wp2_with fail
 all_goals
  exact bodyPost_ret (v:=Zu #[ZZ ZY (min a c),ZZ ZY (min b d)]) (by simp [results,results333,go_sem]<;>omega) rfl
   ⟨rfl,((qa.alloc qns _).alloc qnu _)⟩
theorem Al (a b c d:Int) (w:Z3):
 Calls ZW 334 #[Zu #[ZZ ZY a,ZZ ZY b],Zu #[ZZ ZY c,ZZ ZY d]] w fun e w'=>e=ZX (Zu #[ZZ ZY (max a c),ZZ ZY (max b d)])/\Z2 w.heap.size w w':=by
 go_enter func334,ntmps334;go_wp2_with fail
 all_goals
  exact bodyPost_ret (v:=Zu #[ZZ ZY (max a c),ZZ ZY (max b d)]) (by simp [results,results334,go_sem]<;>omega) rfl
   ⟨rfl,((qa.alloc qns _).alloc qnu _)⟩
theorem DL (a b c d:Int) (w:Z3) (hp:rightB a b=Zy) (hq:rightB c d=Zy):
 Calls ZW 328 #[Zu #[ZZ ZY a,ZZ ZY b],Zu #[ZZ ZY c,ZZ ZY d]] w fun e w'=>e=ZX (.tuple #[Zu #[ZZ ZY (min a c),ZZ ZY (min b d),ZZ ZY (max a c),ZZ ZY (max b d)],.bool Zy])/\Z2 w.heap.size w w':=by
 have HP:=qf (pright_any a b);have HQ:=qf (pright_any c d);have HL:=qf (A6 a b c d);have HU:=qf (Al a b c d);rw [hp] at HP;rw [hq] at HQ;clear hp hq;generalize min a c=X0 at*;generalize min b d=X1 at*;generalize max a c=X2 at*;generalize max b d=X3 at*;go_enter func328,ntmps328;go_wp2_with fail;refine .mono qrB ?_;rintro e w1 ⟨rfl,b1⟩;obtain ⟨k0,k1,k2,k3,k4,k5,k6,k7,f0,f1,f2,f3,z1,h1⟩:=qap;clear b1;go_wp2_with fail;refine (HQ.out _).mono ?_;rintro e w2 ⟨rfl,b2⟩;obtain ⟨m0,m1,m2,m3,m4,m5,m6,m7,g0,g1,g2,g3⟩:=qcv;have z2:w.heap.size+1+1<w2.heap.size:=qpN;have h2:=qcW;have hne:w.heap.size+1+1≠w.heap.size:=qoq;clear k0 k1 k2 k3 k4 k5 k6 k7 f0 f1 f2 f3 b2;go_wp2_with fail
 go_region_held3 (fun w'=>w'.cell? ⟨w.heap.size,0,ZU⟩=ZV (ZZ ZY a)/\w'.cell? ⟨w.heap.size,1,ZU⟩=ZV (ZZ ZY b)/\w'.cell? ⟨w.heap.size+1,0,ZU⟩=ZV (ZZ ZY c)/\w'.cell? ⟨w.heap.size+1,1,ZU⟩=ZV (ZZ ZY d))
  (first|with_reducible exact ⟨m4,m5,m6,m7⟩|with_reducible exact ⟨o4,o5,o6,o7⟩|with_reducible exact ⟨q4,q5,q6,q7⟩|go_keep)
  (first
  |(go_at_call 333;refine (HL.out _).mono ?_;rintro e w3 ⟨rfl,b3⟩
    have B3:Z2 w2.heap.size w2 w3:=(Below.refl _ w2).drew.trans b3;have o0:=aa B3 m0;have o1:=aa B3 m1;have o2:=aa B3 m2;have o3:=aa B3 m3;have o4:=aa B3 m4;have o5:=aa B3 m5;have o6:=aa B3 m6;have o7:=aa B3 m7;have p0:=ae B3 z2 g0;have p1:=ae B3 z2 g1;have p2:=ae B3 z2 g2;have p3:=ae B3 z2 g3;have h3:=h2.trans (B3.mono h2.size))
  |(go_at_call 334;refine (HU.out _).mono ?_;rintro e w4 ⟨rfl,b4⟩
    have B4:Z2 w2.heap.size w2 w4:=B3.trans (b4.mono B3.size);have q0:=aa B4 m0;have q1:=aa B4 m1;have q2:=aa B4 m2;have q3:=aa B4 m3;have q4:=aa B4 m4;have q5:=aa B4 m5;have q6:=aa B4 m6;have q7:=aa B4 m7;have r0:=ae B4 z2 g0;have r1:=ae B4 z2 g1;have r2:=ae B4 z2 g2;have r3:=ae B4 z2 g3;have h4:=h2.trans (B4.mono h2.size)))
 all_goals
  go_wp2
  exact bodyPost_ret (v:=.tuple #[Zu #[ZZ ZY X0,ZZ ZY X1,ZZ ZY X2,ZZ ZY X3],.bool Zy]) (by simp [results,results328,go_sem,q0,q1,q2,q3]) rfl
   ⟨rfl,(((h4.setCell qnu _).setCell qnu _).setCell qnu _).setCell qnu _⟩

def C8 (w:Z3) (B:Nat) (v0 v1 v2 v3 v4 v5 v6 v7:Value):Prop:=
 w.cell? ⟨B,0,ZU⟩=ZV v0/\w.cell? ⟨B,1,ZU⟩=ZV v1/\w.cell? ⟨B,2,ZU⟩=ZV v2/\w.cell? ⟨B,3,ZU⟩=ZV v3/\
 w.cell? ⟨B,4,ZU⟩=ZV v4/\w.cell? ⟨B,5,ZU⟩=ZV v5/\w.cell? ⟨B,6,ZU⟩=ZV v6/\w.cell? ⟨B,7,ZU⟩=ZV v7
def F8 (w:Z3) (B:Nat):Prop:=
 w.frozen? ⟨B,0,ZU⟩=Zz/\w.frozen? ⟨B,1,ZU⟩=Zz/\w.frozen? ⟨B,2,ZU⟩=Zz/\w.frozen? ⟨B,3,ZU⟩=Zz/\
 w.frozen? ⟨B,4,ZU⟩=Zz/\w.frozen? ⟨B,5,ZU⟩=Zz/\w.frozen? ⟨B,6,ZU⟩=Zz/\w.frozen? ⟨B,7,ZU⟩=Zz
theorem bt {v0 v1 v2 v3 v4 v5 v6 v7:Value} (h:∀(j:Nat) (v:Value),w.cell? ⟨B,j,ZU⟩=ZV v->w'.cell? ⟨B,j,ZU⟩=ZV v)
 (h0:w.cell? ⟨B,0,ZU⟩=ZV v0) (h1:w.cell? ⟨B,1,ZU⟩=ZV v1) (h2:w.cell? ⟨B,2,ZU⟩=ZV v2) (h3:w.cell? ⟨B,3,ZU⟩=ZV v3)
 (h4:w.cell? ⟨B,4,ZU⟩=ZV v4) (h5:w.cell? ⟨B,5,ZU⟩=ZV v5) (h6:w.cell? ⟨B,6,ZU⟩=ZV v6) (h7:w.cell? ⟨B,7,ZU⟩=ZV v7):
 w'.cell? ⟨B,0,ZU⟩=ZV v0/\w'.cell? ⟨B,1,ZU⟩=ZV v1/\w'.cell? ⟨B,2,ZU⟩=ZV v2/\w'.cell? ⟨B,3,ZU⟩=ZV v3/\
 w'.cell? ⟨B,4,ZU⟩=ZV v4/\w'.cell? ⟨B,5,ZU⟩=ZV v5/\w'.cell? ⟨B,6,ZU⟩=ZV v6/\w'.cell? ⟨B,7,ZU⟩=ZV v7:=
 ⟨h _ _ h0,h _ _ h1,h _ _ h2,h _ _ h3,h _ _ h4,h _ _ h5,h _ _ h6,h _ _ h7⟩
theorem bq (h:∀j:Nat,w.frozen? ⟨B,j,ZU⟩=Zz->w'.frozen? ⟨B,j,ZU⟩=Zz)
 (h0:w.frozen? ⟨B,0,ZU⟩=Zz) (h1:w.frozen? ⟨B,1,ZU⟩=Zz) (h2:w.frozen? ⟨B,2,ZU⟩=Zz) (h3:w.frozen? ⟨B,3,ZU⟩=Zz)
 (h4:w.frozen? ⟨B,4,ZU⟩=Zz) (h5:w.frozen? ⟨B,5,ZU⟩=Zz) (h6:w.frozen? ⟨B,6,ZU⟩=Zz) (h7:w.frozen? ⟨B,7,ZU⟩=Zz):
 w'.frozen? ⟨B,0,ZU⟩=Zz/\w'.frozen? ⟨B,1,ZU⟩=Zz/\w'.frozen? ⟨B,2,ZU⟩=Zz/\w'.frozen? ⟨B,3,ZU⟩=Zz/\
 w'.frozen? ⟨B,4,ZU⟩=Zz/\w'.frozen? ⟨B,5,ZU⟩=Zz/\w'.frozen? ⟨B,6,ZU⟩=Zz/\w'.frozen? ⟨B,7,ZU⟩=Zz:=
 ⟨h _ h0,h _ h1,h _ h2,h _ h3,h _ h4,h _ h5,h _ h6,h _ h7⟩
theorem kG (s:ByteArray):(s.extract 1 s.size).size=s.size - 1:=by rw [ByteArray.size_extract];omega
theorem mA (s:ByteArray) (i:Nat) (h:i<(s.extract 1 s.size).size):(s.extract 1 s.size)[i]'h=s.data.toList.getD (i+1) 0:=by
 have h2:=qfK;rw [bV s (i+1) h2,ByteArray.getElem_extract];congr 1
 omega
theorem IR {t:ByteArray} {pos:Nat} (h:pos<t.size) (hn:¬(48<=(t[pos]'h).toNat/\(t[pos]'h).toNat<=57)):(Utf8.decode t pos).1<48\/57<(Utf8.decode t pos).1:=by
 by_cases ha:(t[pos]'h).toNat<128
 ·rw [decode_ascii t pos h ha]
  show (t[pos]'h).toNat<48\/57<(t[pos]'h).toNat
  omega
 ·have:=(decode_high t pos h qoq).1
  omega

theorem oz (s:ByteArray) (hs:s.size<=9223372036854775807) (w:Z3):
 Calls ZW 272 #[.string s] w fun e w'=>e=ZX (.bool (aN s.data.toList))/\Z2 w.heap.size w w':=by
 by_cases h2:s.size<2
 ·have e1:=qf (show aN s.data.toList=Zz from by
   unfold aN;rw [aq,decide_eq_false qoq];rfl)
  have d1:=qhA;clear h2;exact qiZ
 ·have d1:decide ((s.size:Int)<2)=Zz:=decide_eq_false qoq
  by_cases h4:4<s.size
  ·have e1:=qf (show aN s.data.toList=Zz from by
    unfold aN;rw [aq,decide_eq_false qoq];rfl)
   have d2:=qgX;clear h2 h4;exact qiZ
  ·have d2:decide ((4:Int)<(s.size:Int))=Zz:=decide_eq_false qoq
   have s0:0<s.size:=qoq;have s1:1<s.size:=qoq;have g0:=qf (bV s 0 s0);have g1:=qf (bV s 1 s1);by_cases ha:65<=(s[0]'s0).toNat/\(s[0]'s0).toNat<=90/\(s[1]'s1).toNat≠48
   ·obtain ⟨a1,a2,a3⟩:=ha
    obtain ⟨d3,d4,d5⟩:=qcT
    have e0:=qf (show aN s.data.toList=decide (∀i,i<s.data.toList.length->1<=i->48<=(s.data.toList.getD i 0).toNat/\(s.data.toList.getD i 0).toNat<=57) from by
     unfold aN;rw [g0.out,g1.out,aq,decide_eq_true (p:=2<=s.size/\_) qoq,Bool.true_and])
    have BS:=qf (kG s);have BA:=qf (mA s);clear a1 a2 a3 h2;go_enter func272,ntmps272;go_wp2_with fail;generalize s.extract 1 s.size=T at*;go_loopw [4] (fun _ wr=>∃pos:Nat,pos<=T.size/\wr=w.iter T pos/\Hid (∀j,j<pos+1->1<=j->48<=(s.data.toList.getD j 0).toNat/\(s.data.toList.getD j 0).toNat<=57)) (fun _ wr=>T.size - wr.iterPos w.heap.size)
    case atStart=>exact ⟨0,qe,rfl,qf fun j hj hj1=>by omega⟩
    case round=>
     obtain ⟨pos,hpos,rfl,HU⟩:=hrel;by_cases hp:pos<T.size
     ·have hb:=BA.out pos hp
      by_cases hdig:48<=(T[pos]'hp).toNat/\(T[pos]'hp).toNat<=57
      ·have HS:Hid (∀j,j<pos+1+1->1<=j->48<=(s.data.toList.getD j 0).toNat/\(s.data.toList.getD j 0).toNat<=57):=qf fun j hj hj1=>by
        by_cases e:j=pos+1
        ·subst e;rw [<-hb];exact hdig
        ·exact HU.out j qoq hj1
       have hnx:=qez;have HB:=qf hb;obtain ⟨q1,q2⟩:=hdig;have t1:decide (((T[pos]'hp).toNat:Int)<48)=Zz:=decide_eq_false qoq;have t2:decide ((57:Int)<((T[pos]'hp).toNat:Int))=Zz:=decide_eq_false qoq;clear hb q1 q2;exact qkS
      ·have hr:=IR hp hdig
       have hnx:=fun ty=>run_next_any (P:=ZW) w T pos ty hp
       have e1:=qf (show aN s.data.toList=Zz from by
        rw [e0.out];refine decide_eq_false fun h=>hdig ?_
        have:=h (pos+1) (by rw [aq];have:=BS.out;omega) qoq;rwa [<-hb] at this)
       have HB:=qf hb;clear hb hdig;generalize (Utf8.decode T pos).1=R at*;generalize (Utf8.decode T pos).2=V at*;by_cases q1:R<48
       ·have t1:decide ((R:Int)<48)=Zy:=decide_eq_true qoq
        clear hr q1;exact qkI
       ·have t1:decide ((R:Int)<48)=Zz:=decide_eq_false qoq
        have t2:decide ((57:Int)<(R:Int))=Zy:=decide_eq_true qoq;clear hr q1;exact qkI
     ·have hnx:=fun ty=>run_next_end (P:=ZW) w T pos ty hp
      have e1:=qf (show aN s.data.toList=Zy from by
       rw [e0.out];refine decide_eq_true fun j hj hj1=>HU.out j (by rw [aq] at hj;have:=BS.out;omega) hj1)
      exact qkI
   ·have e1:=qf (show aN s.data.toList=Zz from by
     unfold aN;rw [g0.out,g1.out,aq,decide_eq_false (p:=2<=s.size/\_) qoq,Bool.false_and])
    by_cases a1:(s[0]'s0).toNat<65
    ·have d3:decide (((s[0]'s0).toNat:Int)<65)=Zy:=decide_eq_true qoq
     clear a1 ha h2 h4;exact qiZ
    ·have d3:decide (((s[0]'s0).toNat:Int)<65)=Zz:=decide_eq_false qoq
     by_cases a2:90<(s[0]'s0).toNat
     ·have d4:decide ((90:Int)<((s[0]'s0).toNat:Int))=Zy:=decide_eq_true qoq
      clear a1 a2 ha h2 h4;exact qiZ
     ·have d4:decide ((90:Int)<((s[0]'s0).toNat:Int))=Zz:=decide_eq_false qoq
      have d5:=qhm;clear a1 a2 ha h2 h4;exact qiZ
theorem xu (s:ByteArray) (hs:s.size<=9223372036854775807) (w:Z3) (hf:aN s.data.toList=Zz):
 Calls ZW 228 #[.string s] w fun e w'=>e=ZX (.tuple #[Zu #[ZZ ZY (prC s.data.toList),ZZ ZY (prR s.data.toList)],ZZ ZY (prE s.data.toList)])/\Z2 w.heap.size w w':=by
 have HF:=qf (oz s hs);have HP:=qf (Bz hf);rw [hf] at HF;clear hf;go_enter func228,ntmps228;go_wp2_with fail;refine .mono qrx ?_;rintro e w1 ⟨rfl,b1⟩;obtain ⟨k0,k1,f0,f1⟩:=qcP;have h1:=qab;go_wp2_with fail
 exact bodyPost_ret (v:=.tuple #[Zu #[ZZ ZY 0,ZZ ZY 0],ZZ ZY 2]) (by simp [results,results228,go_sem,k0,k1]) rfl
  ⟨(by rw [HP.out.1,HP.out.2.1,HP.out.2.2]),(h1.setCell qns _).setCell qns _⟩

theorem OV {ch:UInt8} {ds:List UInt8} (hl:s.data.toList=ch::ds) (i:Nat) (h:i<(s.extract 1 s.size).size):ds[i]? =ZV ((s.extract 1 s.size)[i]'h):=by
 have h2:=qfK;rw [mA,bV s (i+1) h2,<-nF s (i+1) h2,hl,List.getElem?_cons_succ]
theorem Ng (hf:aN s.data.toList=Zy) (i:Nat) (h:i<(s.extract 1 s.size).size):48<=((s.extract 1 s.size)[i]'h).toNat/\((s.extract 1 s.size)[i]'h).toNat<=57:=by
 have h2:=qfK;unfold aN at hf;rw [Bool.and_eq_true,decide_eq_true_eq,decide_eq_true_eq] at hf;have:=hf.2 (i+1) (by rw [aq];exact h2) qoq;rw [mA];exact this

theorem Fd {W w1:Z3} {o p:Obj} (b:Z2 ((W.alloc o).alloc p).heap.size ((W.alloc o).alloc p) w1):Z2 W.heap.size W w1:=
 (((Below.refl _ W).alloc qd o).alloc qns p).trans (b.mono qnu)

theorem oA (s:ByteArray) (ch:UInt8) (ds:List UInt8) (u:Nat) (w:Z3) (hf:aN s.data.toList=Zy) (hl:s.data.toList=ch::ds) (h65:65<=ch.toNat) (h90:ch.toNat<=90) (hu1:1<=u) (hu9:u<=999)
 (hu:Lib.decFrom 0 ds=ZV u) (hsz:s.size<=4) (B:Bool) (hB:rightB ((ch.toNat:Int) - 65) ((u:Int) - 1)=B):
 Calls ZW 228 #[.string s] w fun e w'=>e=ZX (.tuple #[Zu #[ZZ ZY (if B=Zy then (ch.toNat:Int) - 65 else 0),ZZ ZY (if B=Zy then (u:Int) - 1 else 0)],ZZ ZY (if B=Zy then 0 else 4)])/\Z2 w.heap.size w w':=by
 have HF:=qf (oz s qoq);rw [hf] at HF;have HR:=qf (pright_any ((ch.toNat:Int) - 65) ((u:Int) - 1));rw [hB] at HR;have HD:=qf (OV hl);have HG:=qf (Ng hf);have hlen:ds.length+1=s.size:=(by rw [<-aq,hl];rfl);have s0:0<s.size:=qoq
 have HC:Hid ((s[0]'s0)=ch):=qf (by
  have:=nF s 0 s0;rw [hl] at this;exact (Option.some.inj this).symm)
 have hTs:=kG s;have HU:=qf hu;have hds:ds.length<=17:=qoq;have hT:(s.extract 1 s.size).size=ds.length:=qoq;have HT:=qf hT;have HL:=qge;have HLn:=qf hlen;have hs1:1<=s.size:=qoq;clear hf hB hl hu hTs hT hlen;go_enter func228,ntmps228;go_wp2_with fail;refine .mono qrx ?_;rintro e w1 ⟨rfl,b1⟩;obtain ⟨k0,k1,f0,f1⟩:=qcP;have h1:=qab;have z1:=qaz;clear b1;go_wp2_with fail;generalize s.extract 1 s.size=T at*;go_loopw [4] (fun v wr=>∃pos line:Nat,pos<=T.size/\v=ZZ ZY line/\wr=w1.iter T pos/\Hid (Lib.decFrom 0 (ds.take pos)=ZV line)) (fun _ wr=>T.size - wr.iterPos w1.heap.size)
 case atStart=>exact ⟨0,0,qe,rfl,rfl,qf rfl⟩
 case round=>
  obtain ⟨pos,line,hpos,rfl,rfl,HN⟩:=hrel;have hlt:=Lib.decFrom_take_lt (l:=ds) HN.out (by have:=HT.out;omega);by_cases hp:pos<T.size
  ·obtain ⟨q1,q2⟩:=HG.out pos hp
   have hnx:=fun ty=>run_next_ascii (P:=ZW) w1 T pos ty hp qoq
   have HS:Hid (Lib.decFrom 0 (ds.take (pos+1))=ZV (line*10+((T[pos]'hp).toNat - 48))):=qf (Lib.decFrom_take ds pos 0 line (T[pos]'hp) _ HN.out (HD.out pos hp) (by unfold Lib.digitVal;rw [if_pos ⟨q1,q2⟩]));generalize (T[pos]'hp).toNat=b at*;go_wp2_with fail;go_roundw
   case rel=>exact ⟨pos+1,line*10+(b - 48),qoq,(by congr 1;omega),rfl,HS⟩
   case measure=>simp;omega
  ·have hnx:=fun ty=>run_next_end (P:=ZW) w1 T pos ty hp
   have hpe:ds.take pos=ds:=List.take_of_length_le (by have:=HT.out;omega)
   have hle:line=u:=by
    have:=HN.out;rw [hpe,HU.out] at this;exact (Option.some.inj this).symm
   clear hpe;subst hle;have hch:=HC.out;clear hlt;cases B with
   |true=>
    go_wp2_with fail;refine .mono qrA ?_;rintro e w2 ⟨rfl,b2⟩;obtain ⟨B2,m0,m1,g0,g1⟩:=qeA;have p0:w2.cell? ⟨(w1.iter T pos).heap.size,0,ZU⟩=ZV (ZZ ZY ((ch.toNat:Int) - 65)):=af b2 0 rfl;have p1:w2.cell? ⟨(w1.iter T pos).heap.size,1,ZU⟩=ZV (ZZ ZY ((line:Int) - 1)):=af b2 1 rfl;have h2:=h1.trans (B2.mono h1.size);clear B2 b2 k0 k1 f0 f1;go_wp2_with fail
    exact bodyPost_ret (v:=.tuple #[Zu #[ZZ ZY ((ch.toNat:Int) - 65),ZZ ZY ((line:Int) - 1)],ZZ ZY 0]) qqA rfl
     ⟨rfl,(h2.setCell qns _).setCell qns _⟩
   |false=>
    go_wp2_with fail;refine .mono qrA ?_;rintro e w2 ⟨rfl,b2⟩;obtain ⟨B2,m0,m1,g0,g1⟩:=qeA;have h2:=h1.trans (B2.mono h1.size);clear B2 b2 k0 k1 f0 f1;go_wp2_with fail
    exact bodyPost_ret (v:=.tuple #[Zu #[ZZ ZY 0,ZZ ZY 0],ZZ ZY 4]) qqA rfl
     ⟨rfl,(h2.setCell qns _).setCell qns _⟩

theorem CJ (s:ByteArray) (hs:s.size<=9223372036854775807) (w:Z3):
 Calls ZW 228 #[.string s] w fun e w'=>e=ZX (.tuple #[Zu #[ZZ ZY (prC s.data.toList),ZZ ZY (prR s.data.toList)],ZZ ZY (prE s.data.toList)])/\Z2 w.heap.size w w':=by
 cases hf:aN s.data.toList with
 |false=>exact xu s hs w hf
 |true=>
  obtain ⟨ch,ds,u,hl,h65,h90,hu1,hu9,hd,hu⟩:=vq hf
  have hsz:s.size<=4:=by
   unfold aN at hf;rw [Bool.and_eq_true,decide_eq_true_eq,aq] at hf;exact hf.1.2.1
  have hf2:=hf;rw [hl] at hf2;cases hB:rightB ((ch.toNat:Int) - 65) ((u:Int) - 1) with
  |true=>
   have hb:=(bp _ _).1 hB;obtain ⟨e1,e2,e3⟩:=tA hf2 h65 qoq hu1 qoq hd;rw [hl,e1,e2,e3];exact oA s ch ds u w hf hl h65 h90 hu1 hu9 hu hsz Zy hB
  |false=>
   have hb:=(rH _ _).1 hB;obtain ⟨e1,e2,e3⟩:=IA hf2 qoq hd;rw [hl,e1,e2,e3];exact oA s ch ds u w hf hl h65 h90 hu1 hu9 hu hsz Zz hB
theorem zS (i:Int) (w:Z3):
 Calls ZW 49 #[ZZ ZY i] w fun e w'=>e=ZX (.tuple #[Zu #[ZZ ZY (atC i),ZZ ZY (atR i)],.bool (vx i)])/\Z2 w.heap.size w w':=by
 by_cases h:0<=i/\i<=1023
 ·have e1:=qf (show atC i=i % 16 from if_pos h)
  obtain ⟨e2,e3⟩:=qha;obtain ⟨h1,h2⟩:=h;go_enter func49,ntmps49;go_wp2_with fail
  exact bodyPost_ret (v:=.tuple #[Zu #[ZZ ZY (i % 16),ZZ ZY (i / 16)],.bool Zy]) qqZ rfl
   ⟨qoB,qa⟩
 ·have e1:=qf (show atC i=0 from if_neg h)
  obtain ⟨e2,e3⟩:=qhl;by_cases h1:i<0
  ·clear h
   exact qjH
  ·have h2:1024<=i:=by omega
   clear h;exact qjH
theorem fW (c r:Int) (w:Z3):
 Calls ZW 77 #[Zu #[ZZ ZY c,ZZ ZY r]] w fun e w'=>e=ZX (ZZ ZY (aQ c r))/\Z2 w.heap.size w w':=by
 have HR:=qf (pright_any c r);cases hr:rightB c r with
 |true=>
  obtain ⟨h1,h2,h3,h4⟩:=(bp c r).1 hr;have e1:=qf (show aQ c r=16*r+c from if_pos hr);rw [hr] at HR;clear hr;go_enter func77,ntmps77;exact qlm
 |false=>
  have e1:=qic;rw [hr] at HR;clear hr;go_enter func77,ntmps77;exact qlN
theorem mz {a b c d:Int} {i:Nat}:∀n:Nat,(∀j,i<=j->j<i+n->dM a b c d (atC (j:Int)) (atR (j:Int))=Zz)->ax a b c d (i+n)=ax a b c d i
 |0,_=>rfl
 |n+1,h=>by
  have h1:=mz (a:=a) (b:=b) (c:=c) (d:=d) (i:=i) n fun j h1 h2=>h j h1 qoq
  rw [<-h1];exact ri (h (i+n) qoq qoq)
theorem g8 {i k:Nat} (hk:i<=k) (h:∀j,i<=j->j<k->dM a b c d (atC (j:Int)) (atR (j:Int))=Zz):ax a b c d i=ax a b c d k:=by
 obtain ⟨n,rfl⟩:=Nat.exists_eq_add_of_le hk;exact (mz n h).symm
theorem nE {j:Nat} (hj:j<1024) (h:¬(a<=(j:Int) % 16/\(j:Int) % 16<=c/\b<=(j:Int) / 16/\(j:Int) / 16<=d)):dM a b c d (atC (j:Int)) (atR (j:Int))=Zz:=by
 rw [jU j hj,jI j hj];cases hx:dM a b c d ((j:Int) % 16) ((j:Int) / 16) with
 |false=>rfl
 |true=>exact absurd ((xd _ _ _ _ _ _).1 hx).2 h
theorem BG (hw:bW a b c d=Zz):ax a b c d 1024=[]:=by
 refine (g8 (i:=0) qe fun j _ _=>?_).symm;unfold dM;rw [hw,Bool.false_and]

theorem FU (a b c d:Int) (w:Z3) (hW:bW a b c d=Zz):
 Calls ZW 209 #[Zu #[ZZ ZY a,ZZ ZY b,ZZ ZY c,ZZ ZY d]] w fun e w'=>∃v,e=ZX v/\
  w'.ownsRow w.heap.size 28 2 v (ax a b c d 1024).length (bj (ax a b c d 1024))/\Z2 w.heap.size w w':=by
 have HC:=qf (BG hW);have HW:=qf (mn a b c d);rw [hW] at HW;rw [HC.out];clear hW;go_enter func209,ntmps209;go_wp2_with fail;refine (HW.out _).mono ?_;rintro e w1 ⟨rfl,b1⟩;have h1:=qab;clear b1;go_wp2_with fail;go_ret;exact ⟨_,rfl,World.ownsRow_nil _ _ _ _,h1⟩

theorem BK (a b c d:Nat) (w:Z3) (hW:bW a b c d=Zy):
 Calls ZW 209 #[Zu #[ZZ ZY a,ZZ ZY b,ZZ ZY c,ZZ ZY d]] w fun e w'=>∃v,e=ZX v/\
  w'.ownsRow w.heap.size 28 2 v (ax a b c d 1024).length (bj (ax a b c d 1024))/\Z2 w.heap.size w w':=by
 obtain ⟨i0,hi0,hz0,hz1,hz2⟩:=info_parts lM;obtain ⟨HI,HZ0,HZ1,HZ2⟩:=qbC;have HW:=qf (mn a b c d);have hq:=(lV _ _ _ _).1 hW;clear hi0 hz0 hz1 hz2
 have Hhas:Hid (∀j:Nat,j<1024->(a:Int)<=(j:Int) % 16->(j:Int) % 16<=c->(b:Int)<=(j:Int) / 16->(j:Int) / 16<=d->dM a b c d (atC (j:Int)) (atR (j:Int))=Zy):=
  qf fun j hj h1 h2 h3 h4=>by rw [jU j hj,jI j hj];exact (xd _ _ _ _ _ _).2 ⟨hW,h1,h2,h3,h4⟩
 rw [hW] at HW;have ha:a<=15:=qoq;have hb:b<=63:=qoq;have hc:c<=15:=qoq;have hd:d<=63:=qoq;have hac:a<=c:=qoq;have hbd:b<=d:=qoq;have HE0:Hid (ax a b c d (16*b)=[]):=qf (g8 (i:=0) qe fun j _ h2=>nE qoq qoq).symm;have HEd:Hid (ax a b c d (16*(d+1))=ax a b c d 1024):=qf (g8 qoq fun j h1 h2=>nE qoq qoq);have HEs:Hid (∀row:Nat,b<=row->row<=d->ax a b c d (16*row)=ax a b c d (16*row+a)):=qf fun row h1 h2=>g8 qoq fun j h3 h4=>nE qoq qoq
 have HEe:Hid (∀row:Nat,b<=row->row<=d->ax a b c d (16*row+(c+1))=ax a b c d (16*(row+1))):=qf fun row h1 h2=>g8 qoq fun j h3 h4=>nE qoq qoq
 clear hW hq
 have HEy:Hid (∀row col:Nat,b<=row->row<=d->a<=col->col<=c->ax a b c d (16*row+(col+1))=ax a b c d (16*row+col)++[((col:Int),(row:Int))]):=qf fun row col h1 h2 h3 h4=>by
  have hj:16*row+col<1024:=qoq;have h:=oc (Hhas.out (16*row+col) hj qoq qoq qoq qoq);rw [jU _ hj,jI _ hj] at h;have e1:((16*row+col:Nat):Int) % 16=(col:Int):=qoq;have e2:((16*row+col:Nat):Int) / 16=(row:Int):=qoq;rw [e1,e2] at h;exact h
 clear Hhas;go_enter func209,ntmps209;go_wp2_with fail;refine (HW.out _).mono ?_;rintro e w1 ⟨rfl,b1⟩;obtain ⟨j0,j1,j2,j3⟩:=qci;have h1:=qab;clear b1;go_wp2_with fail
 go_loopw [3,4] (fun v n wr=>∃row:Nat,b<=row/\row<=d+1/\n=ZZ ZY row/\wr.ownsRow w1.heap.size 28 2 v (ax a b c d (16*row)).length (bj (ax a b c d (16*row)))/\
  Z2 w1.heap.size w1 wr) (fun _ n _=>nP n)
 case atStart=>exact ⟨b,qd,qoq,rfl,(by rw [HE0.out];exact World.ownsRow_nil _ _ _ _),qb⟩
 case round=>
  obtain ⟨row,hr0,hr1,rfl,hown,hb0⟩:=hrel;have HO:=qf hown;have HB:=qf hb0;have k0:=aa hb0 j0;have k2:=aa hb0 j2;have k3:=aa hb0 j3;clear hown hb0;by_cases hlt:row<=d
  ·have HES:=qf (HEs.out row hr0 hlt)
   have HEE:=qf (HEe.out row hr0 hlt);go_wp2_with fail
   go_loopw [3,5] (fun v n wq=>∃col:Nat,a<=col/\col<=c+1/\n=ZZ ZY col/\wq.ownsRow w1.heap.size 28 2 v (ax a b c d (16*row+col)).length (bj (ax a b c d (16*row+col)))/\
    Z2 w1.heap.size w1 wq) (fun _ n _=>nP n)
   case atStart=>exact ⟨a,qd,qoq,rfl,(by rw [<-HES.out];exact HO.out),HB.out⟩
   case round=>
    obtain ⟨col,hc0,hc1,rfl,hown,hb0⟩:=hrel;have HO2:=qf hown;have HB2:=qf hb0;have hlen:=ia a b c d (16*row+col);have m2:=aa hb0 j2;have zq:=hb0.size;clear hown hb0;by_cases hle:col<=c
    ·have HY:=qf (HEy.out row col hr0 hlt hc0 hle)
     go_wp2_with (at_builtin;refine wpList_append_own _ rfl _ _ 71 rfl w1.heap.size 28 i0 (Zu #[ZZ ZY 0,ZZ ZY 0]) 2 16 underlying71 HI.out HZ0.out HZ1.out HZ2.out rfl qnv _ _ _ rfl (HO2.out.alloc _) ⟨wr.heap.size,0,ZU⟩ 1 1 [ZZ ZY col,ZZ ZY row] rfl rfl ?c1 ?c2 ?c3 ?c4 ?c5 ?_)
     case c1=>
      intro j u hj;match j,hj with
      |0,hj=>exact qmM
      |1,hj=>exact qmM
     case c2=>exact qmN
     case c3=>exact qmE
     case c4=>omega
     case c5=>simp;omega
     intro v' w4 hown4 hg4 _;rw [<-kF] at hown4;have e5:(ax a b c d (16*row+col)).length+1=(ax a b c d (16*row+(col+1))).length:=(by rw [HY.out];simp);rw [e5,<-HY.out] at hown4;have HO4:=qf hown4;have hb4:Z2 w1.heap.size w1 w4:=(HB2.out.alloc zq _).grown hg4 qnu (fun g hgg=>(HO2.out.lt g hgg).1);clear hown4 e5 hg4;go_wp2_with fail;go_roundw
     case rel=>exact ⟨col+1,qoq,qoq,qnG,HO4.out,hb4⟩
     case measure=>exact qmO
    ·have hce:col=c+1:=by omega
     subst hce;have HO3:Hid (wr.ownsRow w1.heap.size 28 2 _ (ax a b c d (16*(row+1))).length (bj (ax a b c d (16*(row+1))))):=qf (by rw [<-HEE.out];exact HO2.out);go_wp2_with fail;go_roundw
     case rel=>exact ⟨row+1,qoq,qoq,qnG,HO3.out,HB2.out⟩
     case measure=>exact qmO
  ·have hre:row=d+1:=by omega
   subst hre;have HO3:Hid (wr.ownsRow w1.heap.size 28 2 _ (ax a b c d 1024).length (bj (ax a b c d 1024))):=qf (by rw [<-HEd.out];exact HO.out);have h2:=h1.trans (HB.out.mono h1.size);have hz:=h1.size;go_wp2_with fail;go_ret;exact ⟨_,rfl,HO3.out.mono hz,h2⟩

theorem pX (a b c d:Int) (w:Z3):
 Calls ZW 209 #[Zu #[ZZ ZY a,ZZ ZY b,ZZ ZY c,ZZ ZY d]] w fun e w'=>∃v,e=ZX v/\
  w'.ownsRow w.heap.size 28 2 v (ax a b c d 1024).length (bj (ax a b c d 1024))/\Z2 w.heap.size w w':=by
 cases hW:bW a b c d with
 |false=>exact FU a b c d w hW
 |true=>
  have hq:=(lV _ _ _ _).1 hW;obtain ⟨a',rfl⟩:=Int.eq_ofNat_of_zero_le hq.1.1;obtain ⟨b',rfl⟩:=Int.eq_ofNat_of_zero_le hq.1.2.2.1;obtain ⟨c',rfl⟩:=Int.eq_ofNat_of_zero_le hq.2.1.1;obtain ⟨d',rfl⟩:=Int.eq_ofNat_of_zero_le hq.2.1.2.2.1;exact BK a' b' c' d' w hW
