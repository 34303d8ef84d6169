import Derived.Test.YteglaomdgdkibaaGreatDoorJN01
import Derived.Test.YteglaomdgdkibaaGreatDoorJNS37
import Derived.Test.YteglaomdgdkibaaGreatDoorJQNP
import Derived.Test.YteglaomdgdkibaaGreatDoorJQNSP
import Derived.Test.YteglaomdgdkibaaGreatDoorJQNX
set_option linter.all false
set_option maxHeartbeats 0
set_option maxRecDepth 99999
namespace Go.Proofs.YteglaomdgdkibaaGreatDoor
open Go.RowKit
open Value renaming string→Zx
open RowKit renaming Below→Z2
open Go renaming World→Z3
open Go.Proofs.Tryz
open Go.Proofs.Tryz renaming prog→ZW
open Bool renaming false→Zz,true→Zy
variable {a:List UInt8}{c p:Int}{t:Tr}
theorem norm_self {s:List UInt8} (h:ew s=(a,p,0)):ew a=(a,0,0)/\p=0:=by
 by_cases hl:200<s.length
 ·rw [i5 hl] at h;cases h
 rcases eo s with hs|⟨r,rfl⟩
 ·rw [gE hl hs] at h
  by_cases hp:pB s=Zy
  ·rw [if_pos hp] at h
   cases h;exact ⟨(by rw [gE hl hs,if_pos hp]),rfl⟩
  ·rw [if_neg hp] at h;cases h
 ·rw [fP hl] at h
  cases hr:aL r with
  |fail z e=>
   rw [hr] at h;simp only [fi,Prod.mk.injEq] at h;have:=jA hr;rw [h.2.2] at this;cases this
  |good t=>
   rw [hr] at h;by_cases ht:200<(aX t).length+1
   ·rw [fi,if_pos ht] at h;cases h
   ·rw [fi,if_neg ht] at h
    cases h;have pt:=bO hr;have hb:aL (aX t)=.good t:=AU pt.fit pt.right (by rw [<-aq];show ¬(200:Int)<((aX t).length:Int);omega);refine ⟨?_,rfl⟩;rw [fP (by simpa using ht),hb,fi,if_neg ht]
theorem Dk:pB []=Zz:=by kernel_rfl
theorem AV (s:List UInt8) (h:decide ((200:Int)<(s.length:Int))=Zy) (w:Z3):Calls ZW 10 #[Zx ⟨s.toArray⟩] w (RN ([],0,3) w):=by
 go_enter func10,ntmps10;go_wp2_with fail;go_ret3
 exact ⟨rfl,qb⟩
theorem Fx (w:Z3):Calls ZW 10 #[Zx ⟨#[]⟩] w (RN ([],0,2) w):=by
 have HN:=qf (o9 ⟨#[]⟩ qnv);have hb:pB (⟨#[]⟩:ByteArray).data.toList=Zz:=Dk;rw [hb] at HN;clear hb;exact qjj
theorem Dx (c:UInt8) (r:List UInt8) (h:decide ((200:Int)<(r.length:Int)+1)=Zz) (hl:(c::r).length<=300) (hc:c≠61) (w:Z3):
 Calls ZW 10 #[Zx ⟨(c::r).toArray⟩] w (RN (if pB (c::r)=Zy then (c::r,0,0) else ([],0,2)) w):=by
 have HN:=qf (o9 ⟨(c::r).toArray⟩ (show (c::r).toArray.size<=300 from by simp at hl ⊢;omega));have h0:((r.length:Int)+1==0)=Zz:=qnu;have h1:=qfW;have h3:((c.toNat:Int) !=61)=Zy:=qlE;have e0:(⟨(c::r).toArray⟩:ByteArray).data.toList=c::r:=rfl;rw [e0] at HN;cases hb:pB (c::r) with
 |true=>
  rw [hb] at HN;rw [if_pos rfl];clear hb hc hl e0;exact qjj
 |false=>
  rw [hb] at HN;rw [if_neg qnv];clear hb hc hl e0;exact qjj
theorem Am (r:List UInt8) (h:decide ((200:Int)<(r.length:Int)+1)=Zz) (hl:r.length<=300) {a:Int} (hp:aL r=.fail a c) (w:Z3):
 Calls ZW 10 #[Zx ⟨(61::r).toArray⟩] w (RN (fi (.fail a c)) w):=by
 obtain ⟨h0,h1⟩:=qbp;have h2:(⟨(61::r).toArray⟩:ByteArray).extract 1 (r.length+1)=⟨r.toArray⟩:=qkk;obtain ⟨HP,e0⟩:=qcn;rw [e0,hp] at HP;have hne:=jA hp;clear hp e0 hl;go_enter func10,ntmps10;go_wp2_with fail;refine .mono qrB ?_;rintro e w1 ⟨rfl,hb1⟩;go_wp2_with fail;go_ret3
 exact ⟨rfl,hb1.alloc hb1.size _⟩
theorem DN (r:List UInt8) (h:decide ((200:Int)<(r.length:Int)+1)=Zz) (hl:r.length<=300) (hp:aL r=.good t) (hz:decide ((200:Int)<((aX t).length+1:Int))=Zy) (w:Z3):
 Calls ZW 10 #[Zx ⟨(61::r).toArray⟩] w (RN (([],0,3)) w):=by
 obtain ⟨h0,h1⟩:=qbp;have h2:(⟨(61::r).toArray⟩:ByteArray).extract 1 (r.length+1)=⟨r.toArray⟩:=qkk;obtain ⟨HP,e0⟩:=qcn;rw [e0,hp] at HP;obtain ⟨pt,hpl,PA,hcat,hpl1⟩:=qda;unfold tv at PA;generalize aX t=Z at*;clear hp e0 hl pt hpl;go_enter func10,ntmps10;go_wp2_with fail;refine .mono qrB ?_;rintro e w1 ⟨⟨A,ca,rfl,hk⟩,hb1⟩;have HK:=qcg;clear hk HP;go_wp2_with fail;refine (PA.out _ A ca (HK.out _ qa)).mono ?_;rintro e w2 ⟨rfl,hb2⟩;go_wp2_with fail;go_ret3
 exact ⟨rfl,(hb1.alloc hb1.size _).trans (hb2.mono (by simp;have:=hb1.size;omega))⟩
theorem Av (r:List UInt8) (h:decide ((200:Int)<(r.length:Int)+1)=Zz) (hl:r.length<=300) (hp:aL r=.good t) (hz:decide ((200:Int)<((aX t).length+1:Int))=Zz) (w:Z3):
 Calls ZW 10 #[Zx ⟨(61::r).toArray⟩] w (RN ((61::aX t,0,0)) w):=by
 obtain ⟨h0,h1⟩:=qbp;have h2:(⟨(61::r).toArray⟩:ByteArray).extract 1 (r.length+1)=⟨r.toArray⟩:=qkk;obtain ⟨HP,e0⟩:=qcn;rw [e0,hp] at HP;obtain ⟨pt,hpl,PA,hcat,hpl1⟩:=qda;unfold tv at PA;generalize aX t=Z at*;clear hp e0 hl pt hpl;go_enter func10,ntmps10;go_wp2_with fail;refine .mono qrB ?_;rintro e w1 ⟨⟨A,ca,rfl,hk⟩,hb1⟩;have HK:=qcg;clear hk HP;go_wp2_with fail;refine (PA.out _ A ca (HK.out _ qa)).mono ?_;rintro e w2 ⟨rfl,hb2⟩;go_wp2_with fail;go_ret3
 exact ⟨rfl,(hb1.alloc hb1.size _).trans (hb2.mono (by simp;have:=hb1.size;omega))⟩
theorem Ff (s:List UInt8) (hs:s.length<=300) (w:Z3):Calls ZW 10 #[Zx ⟨s.toArray⟩] w (RN (ew s) w):=by
 by_cases hl:200<s.length
 ·rw [i5 hl]
  exact AV s (decide_eq_true qoq) w
 rcases eo s with h|⟨r,rfl⟩
 ·rw [gE hl h]
  rcases h with rfl|⟨c,r,rfl,hc⟩
  ·rw [if_neg (by rw [Dk];decide)]
   exact Fx w
  ·have:=hl
   simp at this
   exact Dx c r (decide_eq_false qoq) hs hc w
 ·rw [fP hl]
  have h1:=hl;have h2:=hs;simp at h1 h2
  have h3:=qgt;cases hp:aL r with
  |fail a c=>exact Am r h3 qoq hp w
  |good t=>
   cases hz:decide ((200:Int)<((aX t).length+1:Int)) with
   |true=>rw [vQ hz];exact DN r h3 qoq hp hz w
   |false=>rw [yV hz];exact Av r h3 qoq hp hz w
theorem sI (hAl:li) (s:List UInt8) (h:decide ((300:Int)<(s.length:Int))=Zy) (w:Z3) (hE:cz w):
 Calls ZW 3 #[Zx ⟨s.toArray⟩] w fun e w'=>e=.returned (.bool Zy)/\Z2 w.heap.size w w':=by
 have HA:=qf (hAl w hE);clear hAl hE;go_enter func3,ntmps3;go_wp2_with fail;refine HA.out.mono ?_;rintro e w1 ⟨rfl,hb1⟩;go_wp2_with fail;go_ret;exact ⟨rfl,hb1⟩
theorem G6 (s:List UInt8) (hs:s.length<=300):(ew s).1.length<=300:=by
 by_cases hl:200<s.length
 ·rw [i5 hl];exact qe
 rcases eo s with h|⟨r,rfl⟩
 ·rw [gE hl h]
  split
  ·exact hs
  ·exact qe
 ·rw [fP hl]
  cases aL r with
  |fail a c=>exact qe
  |good t=>
   unfold fi;dsimp only;split
   ·exact qe
   ·rename_i h
    show (aX t).length+1<=300
    omega
theorem uB (hAl:li) (s:List UInt8) (hs:s.length<=300) (hx:ew s=(a,p,c)) (hc:(c !=0)=Zy) (w:Z3) (hE:cz w):
 Calls ZW 3 #[Zx ⟨s.toArray⟩] w fun e w'=>e=.returned (.bool Zy)/\Z2 w.heap.size w w':=by
 obtain ⟨h300,H1,H2,H3,H4,H5,HAl⟩:=qaZ;rw [hx] at H1 H2;unfold RN at H1 H2;unfold tv at H5 H3 H4;dsimp only at H1 H2;clear hAl hE hx hs;generalize trO s=T at*;generalize (aU s).isSome=is at*;go_enter func3,ntmps3;go_wp2_with fail;refine (H1.out _ qb).mono ?_;rintro e w1 ⟨rfl,hb1⟩;go_wp2_with fail;refine .mono qrR ?_;rintro e w2 ⟨rfl,hb2⟩;have HB2:=qf (hb1.trans (hb2.mono hb1.size));clear hb1 hb2 H1 H2;go_wp2_with fail;refine (H3.out _ HB2.out).mono ?_;rintro e w3 ⟨hb3,A1,c1,rfl,hk3⟩;have HB3:=qdP;have HK3:=qf hk3;clear hb3 hk3 HB2 H3;go_wp2_with fail;refine (H4.out _).mono ?_;rintro e w4 ⟨hb4,A2,c2,rfl,hk4⟩;have t0:=qfN;obtain ⟨t1,t2,t3,t4,t5,t6,t7,ha3,hb34,HB4,HK4,HK34,hz4,H5a⟩:=qat;clear hb4 ha3 hb34 hk4 HB3 HK3 H4 H5;go_wp2_with fail;refine (H5a.out _).mono ?_;rintro e w5 ⟨rfl,hb5⟩;have HB5:=qfX;clear hb5 H5a t0 t1 t2 t3 t4 t5 t6 t7 HB4 HK4 HK34;go_wp2_with fail;refine (HAl.out _ HB5.out).mono ?_;rintro e w6 ⟨rfl,hb6⟩;go_wp2_with fail;go_ret;exact ⟨rfl,HB5.out.trans (hb6.mono HB5.out.size)⟩
theorem vV (hAl:li) (s:List UInt8) (hs:s.length<=300) (hx:ew s=(a,p,c)) (hc:(c !=0)=Zz) (w:Z3) (hE:cz w):
 Calls ZW 3 #[Zx ⟨s.toArray⟩] w fun e w'=>e=.returned (.bool Zy)/\Z2 w.heap.size w w':=by
 obtain ⟨h300,H1,H2,H3,H4,H5,HAl⟩:=qaZ;have hc0:c=0:=(by simpa using hc);subst hc0;have hal:a.length<=300:=(by have:=G6 s hs;rw [hx] at this;exact this);have HPn:=qf (fun W (hb:Z2 w.heap.size w W)=>ku a hal W (hE.below hb));rw [(norm_self hx).1] at HPn;unfold RN at HPn;dsimp only at HPn;rw [hx] at H1 H2;unfold RN at H1 H2;unfold tv at H5 H3 H4;dsimp only at H1 H2;clear hAl hE hx hs hal;generalize trO s=T at*;generalize (aU s).isSome=is at*;go_enter func3,ntmps3;go_wp2_with fail;refine (H1.out _ qb).mono ?_;rintro e w1 ⟨rfl,hb1⟩;go_wp2_with fail;refine .mono qrR ?_;rintro e w2 ⟨rfl,hb2⟩;have HB2:=qf (hb1.trans (hb2.mono hb1.size));clear hb1 hb2 H1 H2;go_wp2_with fail;refine (H3.out _ HB2.out).mono ?_;rintro e w3 ⟨hb3,A1,c1,rfl,hk3⟩;have HB3:=qdP;have HK3:=qf hk3;clear hb3 hk3 HB2 H3;go_wp2_with fail;refine (H4.out _).mono ?_;rintro e w4 ⟨hb4,A2,c2,rfl,hk4⟩;have t0:=qfN;obtain ⟨t1,t2,t3,t4,t5,t6,t7,ha3,hb34,HB4,HK4,HK34,hz4,H5a⟩:=qat;clear hb4 ha3 hb34 hk4 HB3 HK3 H4 H5;go_wp2_with fail;refine (H5a.out _).mono ?_;rintro e w5 ⟨rfl,hb5⟩;have HB5:=qfX;clear hb5 H5a t0 t1 t2 t3 t4 t5 t6 t7 HB4 HK4 HK34;go_wp2_with fail;refine (HPn.out _ HB5.out).mono ?_;rintro e w6 ⟨rfl,hb6⟩;have HB6:=qgj;clear hb6 HB5 HPn;go_wp2_with fail;refine (HAl.out _ HB6.out).mono ?_;rintro e w7 ⟨rfl,hb7⟩;go_wp2_with fail;go_ret;exact ⟨rfl,HB6.out.trans (hb7.mono HB6.out.size)⟩
theorem uh (hAl:li) (s:List UInt8) (w:Z3) (hE:cz w):
 Calls ZW 3 #[Zx ⟨s.toArray⟩] w fun e w'=>e=.returned (.bool Zy)/\Z2 w.heap.size w w':=by
 by_cases hs:s.length<=300
 ·obtain ⟨a,p,c,hx⟩:∃a p c,ew s=(a,p,c):=⟨_,_,_,rfl⟩
  cases hc:(c !=0) with
  |true=>exact uB hAl s hs hx hc w hE
  |false=>exact vV hAl s hs hx hc w hE
 ·exact sI hAl s (decide_eq_true qoq) w hE
