import Derived.Test.YteglaomdgdkibaaGreatDoorJNS18
import Derived.Test.YteglaomdgdkibaaGreatDoorJNS29
import Derived.Test.YteglaomdgdkibaaGreatDoorJQNSP
set_option linter.all false
set_option maxHeartbeats 0
set_option maxRecDepth 99999
namespace Go.Proofs.YteglaomdgdkibaaGreatDoor
open Go.RowKit
open Value renaming int→ZZ,string→Zx,slice→Zw,pointer→Zv
open IntKind renaming i64→ZY
open RowKit renaming Below→Z2
open Go renaming World→Z3
open Tryz
open Tryz renaming prog→ZW
open Option renaming some→ZV,none→ZU
open Bool renaming false→Zz
variable {t:Tr}
theorem roper_run {R:Nat} {A:Option Addr} {cap:Nat} {L:List Tok} {E k:Nat} (hL:L.length<=1000) (hk9:k<=100000)
 (hP:bl R A cap L E 86 #[Zv (ZV ⟨R,0,ZU⟩),ZZ ZY 1] (ak L E k 1))
 (hI:∀c j,j<=k->bl R A cap L E 239 #[Zv (ZV ⟨R,0,ZU⟩),.bool c] (bg L E j c)):
 bl R A cap L E 194 #[Zv (ZV ⟨R,0,ZU⟩)] (ct L E (k+1)):=by
 refine bl.of (jD hL) fun w p g hr hk hg=>?_
 rw [ct] at hg;cases hm:ag L p [40] with
 |true=>
  rw [if_pos hm] at hg;exact Fo R A cap L E hL w p hr hk hP g hm hg
 |false=>
  rw [if_neg qow] at hg;cases ht:L[p]? with
  |none=>
   rw [ht] at hg;obtain rfl:(.out E,ZU)=g:=Option.some.inj hg;have h:=Dt R A cap L E hL w p hr hk hm (fun h=>by rw [List.getElem?_eq_getElem h] at ht;cases ht);rw [iA ht] at h;exact h
  |some t=>
   rw [ht] at hg
   have hg2:toS (if t.kY=5 then ZV (.bad t.frm) else if t.kY=1 then ZV (.ok (ik t.num) (p+1)) else if t.kY=2 then ZV (.ok (fG t.col t.row) (p+1)) else if t.kY=3 then ZV (.ok bK (p+1))
    else az L E (p+1) [40] fun q=>
     if t.text=[73,70] then Res.next (ak L E k 1 q) fun a q=>az L E q [44] fun q=>Res.next (ak L E k 1 q) fun b q=>az L E q [44] fun q=>Res.next (ak L E k 1 q) fun c q=>az L E q [41] fun q=>ZV (.ok (ba [73,70] [a,b,c]) q)
     else bx L E k t.text [] q)=ZV g:=hg
   clear hg;by_cases k5:t.kY=5
   ·rw [if_pos k5] at hg2
    obtain rfl:(.out t.frm,ZU)=g:=Option.some.inj hg2;have h:=Ai R A cap L E hL w p hr hk hm t ht (by rw [beq_iff_eq];exact k5);rw [iB ht] at h;exact h
   rw [if_neg k5] at hg2;have b5:(t.kY==5)=Zz:=(by rw [beq_eq_false_iff_ne];exact k5);by_cases k1:t.kY=1
   ·rw [if_pos k1] at hg2
    obtain rfl:(.run (p+1),ZV (ik t.num))=g:=Option.some.inj hg2;exact Ej R A cap L E hL w p hr hk hm t ht b5 (by rw [beq_iff_eq];exact k1)
   rw [if_neg k1] at hg2;have b1:(t.kY==1)=Zz:=(by rw [beq_eq_false_iff_ne];exact k1);by_cases k2:t.kY=2
   ·rw [if_pos k2] at hg2
    obtain rfl:(.run (p+1),ZV (fG t.col t.row))=g:=Option.some.inj hg2;exact Bj R A cap L E hL w p hr hk hm t ht b5 b1 (by rw [beq_iff_eq];exact k2)
   rw [if_neg k2] at hg2;have b2:(t.kY==2)=Zz:=(by rw [beq_eq_false_iff_ne];exact k2);by_cases k3:t.kY=3
   ·rw [if_pos k3] at hg2
    obtain rfl:(.run (p+1),ZV bK)=g:=Option.some.inj hg2;exact Gc R A cap L E hL w p hr hk hm t ht b5 b1 b2 (by rw [beq_iff_eq];exact k3)
   rw [if_neg k3] at hg2;have b3:(t.kY==3)=Zz:=(by rw [beq_eq_false_iff_ne];exact k3);by_cases hw:t.text=[73,70]
   ·simp only [if_pos hw] at hg2
    exact GS R A cap L E hL w p hr hk hm t ht b5 b1 b2 b3 (by rw [beq_iff_eq];exact hw) hP g hg2
   ·simp only [if_neg hw] at hg2
    exact xP R A cap L E hL w p hr hk hm t ht b5 b1 b2 b3 (by rw [beq_eq_false_iff_ne];exact hw) hk9 (fun j hj=>hI _ j hj) g (must_goS hg2)
structure Nw (R:Nat) (A:Option Addr) (cap:Nat) (L:List Tok) (E k:Nat):Prop where
 l4:bl R A cap L E 86 #[Zv (ZV ⟨R,0,ZU⟩),ZZ ZY 4] (ak L E k 4)
 l3:bl R A cap L E 86 #[Zv (ZV ⟨R,0,ZU⟩),ZZ ZY 3] (ak L E k 3)
 l2:bl R A cap L E 86 #[Zv (ZV ⟨R,0,ZU⟩),ZZ ZY 2] (ak L E k 2)
 l1:bl R A cap L E 86 #[Zv (ZV ⟨R,0,ZU⟩),ZZ ZY 1] (ak L E k 1)
 pref:bl R A cap L E 136 #[Zv (ZV ⟨R,0,ZU⟩)] (bR L E k)
 oper:bl R A cap L E 194 #[Zv (ZV ⟨R,0,ZU⟩)] (ct L E k)
 item:∀c,bl R A cap L E 239 #[Zv (ZV ⟨R,0,ZU⟩),.bool c] (bg L E k c)
theorem Ez (R:Nat) (A:Option Addr) (cap:Nat) (L:List Tok) (E:Nat) (hL:L.length<=1000):Nw R A cap L E 0:=by
 refine ⟨?_,?_,?_,?_,?_,?_,fun c=>?_⟩
 ·exact bl.of (lO hL) fun w p g _ _ hg=>by rw [ak] at hg;cases hg
 ·exact bl.of (mo hL) fun w p g _ _ hg=>by rw [ak] at hg;cases hg
 ·exact bl.of (lP hL) fun w p g _ _ hg=>by rw [ak] at hg;cases hg
 ·exact bl.of (mm hL) fun w p g _ _ hg=>by rw [ak] at hg;cases hg
 ·exact bl.of (kC hL) fun w p g _ _ hg=>by rw [bR] at hg;cases hg
 ·exact bl.of (jD hL) fun w p g _ _ hg=>by rw [ct] at hg;cases hg
 ·cases c
  ·exact bl.of (ky hL) fun w p g _ _ hg=>by rw [bg] at hg;cases hg
  ·exact bl.of (lk hL) fun w p g _ _ hg=>by rw [bg] at hg;cases hg
theorem wS {R:Nat} {A:Option Addr} {cap:Nat} {L:List Tok} {E:Nat} (hL:L.length<=1000) (hG:gx L):∀k,k<=100000->∀j,j<=k->Nw R A cap L E j
 |0,_,j,hj=>by
  obtain rfl:j=0:=qoq;exact Ez R A cap L E hL
 |k+1,hk,j,hj=>by
  have H:=wS (R:=R) (A:=A) (cap:=cap) (E:=E) hL hG k qoq;by_cases hjk:j<=k
  ·exact H j hjk
  obtain rfl:j=k+1:=qoq;refine ⟨?_,?_,?_,?_,?_,?_,fun c=>?_⟩
  ·exact Bq hL (H k qd).pref
  ·exact l9 3 qnv qnv hL (mo hL) fun j hj=>(H j hj).l4
  ·exact l9 2 qnv qnv hL (lP hL) fun j hj=>(H j hj).l3
  ·exact l9 1 qnv qnv hL (mm hL) fun j hj=>(H j hj).l2
  ·exact xM hL (H k qd).pref (H k qd).oper
  ·exact roper_run hL qoq (H k qd).l1 fun c j hj=>(H j hj).item c
  ·cases c
   ·exact AJ hL hG (H k qd).l1
   ·exact An hL hG
def OE (w:Z3):oJ->Ending->Z3->Prop
 |.good t,e,w'=>(∃A ca,e=.returned (.tuple #[.agg (Ku.k t A ca),ZZ ZY 0,ZZ ZY 0])/\KV w' (fun b=>w.heap.size<=b) t A)/\Z2 w.heap.size w w'
 |.fail a c,e,w'=>e=.returned (.tuple #[.agg #[ZZ ZY 0,ZZ ZY 0,ZZ ZY 0,ZZ ZY 0,ZZ ZY 0,ZZ ZY 0,Zx ⟨#[]⟩,Zw ZU 0 0],ZZ ZY a,ZZ ZY c])/\Z2 w.heap.size w w'
def lj (w:Z3):oJ->Ending->Z3->Prop
 |.good t,e,w'=>(∃A ca,e=.returned (.tuple #[.agg (Ku.k t A ca),ZZ ZY 0,ZZ ZY 0])/\KVc w' (fun b=>w.heap.size<=b) t A ca)/\Z2 w.heap.size w w'
 |.fail a c,e,w'=>e=.returned (.tuple #[.agg #[ZZ ZY 0,ZZ ZY 0,ZZ ZY 0,ZZ ZY 0,ZZ ZY 0,ZZ ZY 0,Zx ⟨#[]⟩,Zw ZU 0 0],ZZ ZY a,ZZ ZY c])/\Z2 w.heap.size w w'
theorem Bm (s:ByteArray) (hs:s.size<=9223372036854775807) (w:Z3) {a c:Int} (h0:(c !=0)=true) (h1:jb s.data.toList=a) (h2:cF s.data.toList=c):
 Calls ZW 44 #[.string s] w (lj w (.fail a c)):=by
 have HSc:=qeR;rw [h1,h2] at HSc;clear h1 h2;go_enter func44,ntmps44;go_wp2_with fail;refine (HSc.out _).mono ?_;rintro e w1 ⟨v,rfl,hrow,b1⟩;have k0:=af b1 0 (v:=ZZ ZY 0) rfl;have k1:=af b1 1 (v:=ZZ ZY 0) rfl;have k2:=af b1 2 (v:=ZZ ZY 0) rfl;have k3:=af b1 3 (v:=ZZ ZY 0) rfl;have k4:=af b1 4 (v:=ZZ ZY 0) rfl;have k5:=af b1 5 (v:=ZZ ZY 0) rfl;have k6:=af b1 6 (v:=Zx ⟨#[]⟩) rfl;have k7:=af b1 7 (v:=Zw ZU 0 0) rfl;have f0:=ah b1 0;have f1:=ah b1 1;have f2:=ah b1 2;have f3:=ah b1 3;have f4:=ah b1 4;have f5:=ah b1 5;have f6:=ah b1 6;have f7:=ah b1 7;have h1:=qab;have z1:=qaz;clear b1 hrow;go_wp2_with fail
 exact bodyPost_ret (v:=.tuple #[.agg #[ZZ ZY 0,ZZ ZY 0,ZZ ZY 0,ZZ ZY 0,ZZ ZY 0,ZZ ZY 0,Zx ⟨#[]⟩,Zw ZU 0 0],ZZ ZY a,ZZ ZY c]) (by simp [results,results44,go_sem,k0,k1,k2,k3,k4,k5,k6,k7,z1]) rfl ⟨rfl,by
  with_reducible repeat' (first|exact h1|refine Below.setCell ?_ qoa _|refine Below.alloc ?_ qor _)⟩
theorem BN (s:ByteArray) (hs:s.size<=9223372036854775807) (w:Z3) (h2:cF s.data.toList=0) (hL:(aE s.data.toList).length<=1000) (hG:gx (aE s.data.toList)) {z:Nat} (hg:ep (aE s.data.toList) s.size=ZV (.bad z)):
 Calls ZW 44 #[.string s] w (lj w (.fail (z:Int) 2)):=by
 have HSc:=qeR;rw [h2] at HSc;have HL:=qbz;have HGT:Hid (goS (ak (aE s.data.toList) s.size (8*(aE s.data.toList).length+6) 1) (.run 0)=toS (ZV (.bad z))):=qf (by rw [<-hg];rfl);generalize (aE s.data.toList)=L at*;clear h2 hg hG;go_enter func44,ntmps44;go_wp2_with fail;refine (HSc.out _).mono ?_;rintro e w1 ⟨v,rfl,hrow,b1⟩;have HK1:=qam;have h1:=qab;have z1:=qaz;clear b1;obtain ⟨A,cap,rfl,hA,hcm⟩:=i9 hrow;unfold maxLen at hcm;have HA:=qf hA;have H1:=qf h1;clear hrow hA h1;go_wp2_with fail;obtain ⟨w2,hw2⟩:∃w2,w2=w1.alloc (.cells #[Zw A L.length cap,ZZ ZY 0,ZZ ZY (s.size:Int),.bool Zz,ZZ ZY 0] 141):=⟨_,rfl⟩
 rw [<-hw2];obtain ⟨hb2,HR2,z2⟩:=qaC
 have HT2:Hid (TK w2 w1.heap.size A L):=qf (by
  by_cases hl:L=[]
  ·exact .inl hl
  ·obtain ⟨gg,hgA,hgl,_,hat⟩:=HA.out hl
   exact .inr ⟨gg,hgA,qoq,qoq,hat.but (R:=w1.heap.size) (But.of_below hb2) qoq⟩)
 obtain ⟨HB2,HK2⟩:=qax;clear hb2 hw2 HK1 H1 HA;refine .mono qsm ?_;rintro e w3 ⟨⟨c0,c1,c2,c3,c4,c5,cw,cA,cl,cc⟩,rfl,v3,r3,b3⟩;obtain ⟨nK,zK2,HB3,z3,zK3,HK3,HT3,z23,HV3⟩:=qU;clear v3 HK2 HR2 HT2 HB2 b3;dsimp only [V8.val];have HR3:Hid (RS w3 w1.heap.size A cap L s.size (.out z)):=qf r3;obtain ⟨p',hc⟩:=r3;have r0:=hc.c1;have r3':=hc.c3;have r4:=hc.c4;clear hc;by_cases hp:p'<(L.length:Int)
 ·have dp:decide (p'<(L.length:Int))=true:=decide_eq_true hp
  go_wp2_with fail;clear r0 r3' r4;obtain ⟨w4,hw4⟩:∃w4,w4=w3.alloc (.cells #[ZZ ZY c0,ZZ ZY c1,ZZ ZY c2,ZZ ZY c3,ZZ ZY c4,ZZ ZY c5,.string cw,Zw cA cl cc] 33):=⟨_,rfl⟩
  rw [<-hw4];have hb4:Z2 w3.heap.size w3 w4:=(by rw [hw4];exact qa);clear hw4;refine (eA (w:=w4) (R:=w1.heap.size) (A:=A) (cap:=cap) (L:=L) (E:=s.size) (st:=.out z) hL (RS.below HR3.out hb4) (HT3.out.but (But.of_below hb4))).mono ?_;rintro e w5 ⟨rfl,r5,b5⟩;obtain ⟨hb35,HB5,z35,zK5,zR5,HK5⟩:=qbB;clear hb4 b5 hb35 HK3 HB3 HT3;obtain ⟨p5,hc5⟩:∃p5:Int,RC w5 w1.heap.size A cap L s.size p5 true (z:Int):=r5
  have r3':=hc5.c3;have r4:=hc5.c4;clear hc5;obtain ⟨⟨k0,k1,k2,k3,k4,k5,k6,k7⟩,f0,f1,f2,f3,f4,f5,f6,f7⟩:=HK5.out;go_wp2_with fail;go_region
  all_goals go_wp2_with fail
  all_goals exact bodyPost_ret (v:=.tuple #[.agg #[ZZ ZY 0,ZZ ZY 0,ZZ ZY 0,ZZ ZY 0,ZZ ZY 0,ZZ ZY 0,Zx ⟨#[]⟩,Zw ZU 0 0],ZZ ZY (z:Int),ZZ ZY 2]) qoM rfl ⟨rfl,by
   have hb:=qes;with_reducible repeat' (first|exact hb|refine Below.setCell ?_ qoa _|refine Below.drew ?_|refine Below.alloc ?_ qor _)⟩
 ·have dp:decide (p'<(L.length:Int))=Zz:=decide_eq_false hp
  obtain ⟨⟨k0,k1,k2,k3,k4,k5,k6,k7⟩,f0,f1,f2,f3,f4,f5,f6,f7⟩:=HK3.out;go_wp2_with fail;go_region
  all_goals go_wp2_with fail
  all_goals exact bodyPost_ret (v:=.tuple #[.agg #[ZZ ZY 0,ZZ ZY 0,ZZ ZY 0,ZZ ZY 0,ZZ ZY 0,ZZ ZY 0,Zx ⟨#[]⟩,Zw ZU 0 0],ZZ ZY (z:Int),ZZ ZY 2]) (by simp [results,results44,go_sem,k0,k1,k2,k3,k4,k5,k6,k7,zK3]) rfl ⟨rfl,by
   have hb:=HB3.out.below (n:=w.heap.size) qoq qd;with_reducible repeat' (first|exact hb|refine Below.setCell ?_ qoa _|refine Below.drew ?_|refine Below.alloc ?_ qor _)⟩
theorem xU (s:ByteArray) (hs:s.size<=9223372036854775807) (w:Z3) (h2:cF s.data.toList=0) (hL:(aE s.data.toList).length<=1000) (hG:gx (aE s.data.toList)) {q:Nat} (hq:q<(aE s.data.toList).length) (hg:ep (aE s.data.toList) s.size=ZV (.ok t q)):
 Calls ZW 44 #[.string s] w (lj w (.fail (whr (aE s.data.toList) s.size q:Int) 2)):=by
 have HSc:=qeR;rw [h2] at HSc;have HL:=qbz;have HGT:Hid (goS (ak (aE s.data.toList) s.size (8*(aE s.data.toList).length+6) 1) (.run 0)=toS (ZV (.ok t q))):=qf (by rw [<-hg];rfl);generalize (aE s.data.toList)=L at*;clear h2 hg hG;go_enter func44,ntmps44;go_wp2_with fail;refine (HSc.out _).mono ?_;rintro e w1 ⟨v,rfl,hrow,b1⟩;have HK1:=qam;have h1:=qab;have z1:=qaz;clear b1;obtain ⟨A,cap,rfl,hA,hcm⟩:=i9 hrow;unfold maxLen at hcm;have HA:=qf hA;have H1:=qf h1;clear hrow hA h1;go_wp2_with fail;obtain ⟨w2,hw2⟩:∃w2,w2=w1.alloc (.cells #[Zw A L.length cap,ZZ ZY 0,ZZ ZY (s.size:Int),.bool Zz,ZZ ZY 0] 141):=⟨_,rfl⟩
 rw [<-hw2];obtain ⟨hb2,HR2,z2⟩:=qaC
 have HT2:Hid (TK w2 w1.heap.size A L):=qf (by
  by_cases hl:L=[]
  ·exact .inl hl
  ·obtain ⟨gg,hgA,hgl,_,hat⟩:=HA.out hl
   exact .inr ⟨gg,hgA,qoq,qoq,hat.but (R:=w1.heap.size) (But.of_below hb2) qoq⟩)
 obtain ⟨HB2,HK2⟩:=qax;clear hb2 hw2 HK1 H1 HA;refine .mono qsm ?_;rintro e w3 ⟨⟨c0,c1,c2,c3,c4,c5,cw,cA,cl,cc⟩,rfl,v3,r3,b3⟩;obtain ⟨nK,zK2,HB3,z3,zK3,HK3,HT3,z23,HV3⟩:=qU;clear v3 HK2 HR2 HT2 HB2 b3;dsimp only [V8.val];have HR3:Hid (RS w3 w1.heap.size A cap L s.size (.run q)):=qf r3;obtain ⟨hql,x',hc⟩:=r3;have r0:=hc.c1;have r3':=hc.c3;have dp:decide ((q:Int)<(L.length:Int))=true:=decide_eq_true qoq;clear hc;go_wp2_with fail;clear r0 r3';obtain ⟨w4,hw4⟩:∃w4,w4=w3.alloc (.cells #[ZZ ZY c0,ZZ ZY c1,ZZ ZY c2,ZZ ZY c3,ZZ ZY c4,ZZ ZY c5,.string cw,Zw cA cl cc] 33):=⟨_,rfl⟩
 rw [<-hw4];have hb4:Z2 w3.heap.size w3 w4:=(by rw [hw4];exact qa);clear hw4;refine (eA (w:=w4) (R:=w1.heap.size) (A:=A) (cap:=cap) (L:=L) (E:=s.size) (st:=.run q) hL (RS.below HR3.out hb4) (HT3.out.but (But.of_below hb4))).mono ?_;rintro e w5 ⟨rfl,r5,b5⟩;obtain ⟨hb35,HB5,z35,zK5,zR5,HK5⟩:=qbB;clear hb4 b5 hb35 HK3 HB3 HT3;obtain ⟨p5,hc5⟩:∃p5:Int,RC w5 w1.heap.size A cap L s.size p5 true (whr L s.size q:Int):=r5
 have r3':=hc5.c3;have r4:=hc5.c4;clear hc5;obtain ⟨⟨k0,k1,k2,k3,k4,k5,k6,k7⟩,f0,f1,f2,f3,f4,f5,f6,f7⟩:=HK5.out;go_wp2_with fail;go_region
 all_goals go_wp2_with fail
 all_goals exact bodyPost_ret (v:=.tuple #[.agg #[ZZ ZY 0,ZZ ZY 0,ZZ ZY 0,ZZ ZY 0,ZZ ZY 0,ZZ ZY 0,Zx ⟨#[]⟩,Zw ZU 0 0],ZZ ZY (whr L s.size q:Int),ZZ ZY 2]) qoM rfl ⟨rfl,by
  have hb:=qes;with_reducible repeat' (first|exact hb|refine Below.setCell ?_ qoa _|refine Below.drew ?_|refine Below.alloc ?_ qor _)⟩
theorem yc (s:ByteArray) (hs:s.size<=9223372036854775807) (w:Z3) (h2:cF s.data.toList=0) (hL:(aE s.data.toList).length<=1000) (hG:gx (aE s.data.toList)) (hw:Wid t) (hd:aG t<=1000000000) (h16:decide ((16:Int)<(aG t:Int))=true) (hg:ep (aE s.data.toList) s.size=ZV (.ok t (aE s.data.toList).length)):
 Calls ZW 44 #[.string s] w (lj w (.fail 0 6)):=by
 have HSc:=qeR;rw [h2] at HSc;have HL:=qbz;have HGT:=qdK;generalize (aE s.data.toList)=L at*;clear h2 hg hG;go_enter func44,ntmps44;go_wp2_with fail;refine (HSc.out _).mono ?_;rintro e w1 ⟨v,rfl,hrow,b1⟩;have HK1:=qam;have h1:=qab;have z1:=qaz;clear b1;obtain ⟨A,cap,rfl,hA,hcm⟩:=i9 hrow;unfold maxLen at hcm;have HA:=qf hA;have H1:=qf h1;clear hrow hA h1;go_wp2_with fail;obtain ⟨w2,hw2⟩:∃w2,w2=w1.alloc (.cells #[Zw A L.length cap,ZZ ZY 0,ZZ ZY (s.size:Int),.bool Zz,ZZ ZY 0] 141):=⟨_,rfl⟩
 rw [<-hw2];obtain ⟨hb2,HR2,z2⟩:=qaC
 have HT2:Hid (TK w2 w1.heap.size A L):=qf (by
  by_cases hl:L=[]
  ·exact .inl hl
  ·obtain ⟨gg,hgA,hgl,_,hat⟩:=HA.out hl
   exact .inr ⟨gg,hgA,qoq,qoq,hat.but (R:=w1.heap.size) (But.of_below hb2) qoq⟩)
 obtain ⟨HB2,HK2⟩:=qax;clear hb2 hw2 HK1 H1 HA;refine .mono qsm ?_;rintro e w3 ⟨⟨c0,c1,c2,c3,c4,c5,cw,cA,cl,cc⟩,rfl,v3,r3,b3⟩;obtain ⟨nK,zK2,HB3,z3,zK3,HK3,HT3,z23,HV3⟩:=qU;obtain ⟨hql,x',hc⟩:=r3;have r0:=hc.c1;have r3':=hc.c3;clear v3 HK2 HR2 HT2 HB2 b3 hc;obtain ⟨A',ca',hx,hkv⟩:=HV3.out;obtain ⟨rfl,rfl,rfl,rfl,rfl,rfl,rfl,rfl,rfl,rfl⟩:c0=t.kY/\c1=t.num/\c2=t.c1/\c3=t.r1/\c4=t.c2/\c5=t.r2/\cw=⟨t.wZ.toArray⟩/\cA=A'/\cl=t.kZ.length/\cc=ca':=qlg;have hlen:=hw.len;clear hx HV3;unfold maxLen at hlen;have HKV:=qf hkv;have HD:=qgs;unfold tv at HD;clear hkv hw;dsimp only [V8.val];have dp:=qgr;go_wp2_with fail;clear r0 r3';obtain ⟨w4,hw4⟩:∃w4,w4=w3.alloc (.cells (Ku.k t cA cc) 33):=⟨_,rfl⟩
 rw [<-hw4];obtain ⟨hb4,HX4,z4⟩:=qcm;clear hw4;refine .mono qsn ?_;rintro e w5 ⟨rfl,b5⟩;obtain ⟨hb35,HB5,z45,zK5,zX5,HK5,HKV5,HX5⟩:=qaN;obtain ⟨x0,x1,x2,x3,x4,x5,x6,x7⟩:=HX5;clear hb4 b5 hb35 HK3 HB3 HT3 HX4 HKV;obtain ⟨⟨k0,k1,k2,k3,k4,k5,k6,k7⟩,f0,f1,f2,f3,f4,f5,f6,f7⟩:=HK5.out;go_wp2_with fail
 all_goals exact bodyPost_ret (v:=.tuple #[.agg #[ZZ ZY 0,ZZ ZY 0,ZZ ZY 0,ZZ ZY 0,ZZ ZY 0,ZZ ZY 0,Zx ⟨#[]⟩,Zw ZU 0 0],ZZ ZY 0,ZZ ZY 6]) qoM rfl ⟨rfl,by
  have hb:=qes;with_reducible repeat' (first|exact hb|refine Below.setCell ?_ qoa _|refine Below.drew ?_|refine Below.alloc ?_ qor _)⟩
theorem yu (s:ByteArray) (hs:s.size<=9223372036854775807) (w:Z3) (h2:cF s.data.toList=0) (hL:(aE s.data.toList).length<=1000) (hG:gx (aE s.data.toList)) (hw:Wid t) (hd:aG t<=1000000000) (h16:decide ((16:Int)<(aG t:Int))=Zz) (hg:ep (aE s.data.toList) s.size=ZV (.ok t (aE s.data.toList).length)):
 Calls ZW 44 #[.string s] w (lj w (.good t)):=by
 have HSc:=qeR;rw [h2] at HSc;have HL:=qbz;have HGT:=qdK;generalize (aE s.data.toList)=L at*;clear h2 hg hG;go_enter func44,ntmps44;go_wp2_with fail;refine (HSc.out _).mono ?_;rintro e w1 ⟨v,rfl,hrow,b1⟩;have HK1:=qam;have h1:=qab;have z1:=qaz;clear b1;obtain ⟨A,cap,rfl,hA,hcm⟩:=i9 hrow;unfold maxLen at hcm;have HA:=qf hA;have H1:=qf h1;clear hrow hA h1;go_wp2_with fail;obtain ⟨w2,hw2⟩:∃w2,w2=w1.alloc (.cells #[Zw A L.length cap,ZZ ZY 0,ZZ ZY (s.size:Int),.bool Zz,ZZ ZY 0] 141):=⟨_,rfl⟩
 rw [<-hw2];obtain ⟨hb2,HR2,z2⟩:=qaC
 have HT2:Hid (TK w2 w1.heap.size A L):=qf (by
  by_cases hl:L=[]
  ·exact .inl hl
  ·obtain ⟨gg,hgA,hgl,_,hat⟩:=HA.out hl
   exact .inr ⟨gg,hgA,qoq,qoq,hat.but (R:=w1.heap.size) (But.of_below hb2) qoq⟩)
 obtain ⟨HB2,HK2⟩:=qax;clear hb2 hw2 HK1 H1 HA;refine .mono qsm ?_;rintro e w3 ⟨⟨c0,c1,c2,c3,c4,c5,cw,cA,cl,cc⟩,rfl,v3,r3,b3⟩;obtain ⟨nK,zK2,HB3,z3,zK3,HK3,HT3,z23,HV3⟩:=qU;obtain ⟨hql,x',hc⟩:=r3;have r0:=hc.c1;have r3':=hc.c3;clear v3 HK2 HR2 HT2 HB2 b3 hc;obtain ⟨A',ca',hx,hkv⟩:=HV3.out;obtain ⟨rfl,rfl,rfl,rfl,rfl,rfl,rfl,rfl,rfl,rfl⟩:c0=t.kY/\c1=t.num/\c2=t.c1/\c3=t.r1/\c4=t.c2/\c5=t.r2/\cw=⟨t.wZ.toArray⟩/\cA=A'/\cl=t.kZ.length/\cc=ca':=qlg;have hlen:=hw.len;clear hx HV3;unfold maxLen at hlen;have HKV:=qf hkv;have HD:=qgs;unfold tv at HD;clear hkv hw;dsimp only [V8.val];have dp:=qgr;go_wp2_with fail;clear r0 r3';obtain ⟨w4,hw4⟩:∃w4,w4=w3.alloc (.cells (Ku.k t cA cc) 33):=⟨_,rfl⟩
 rw [<-hw4];obtain ⟨hb4,HX4,z4⟩:=qcm;clear hw4;refine .mono qsn ?_;rintro e w5 ⟨rfl,b5⟩;obtain ⟨hb35,HB5,z45,zK5,zX5,HK5,HKV5,HX5⟩:=qaN;obtain ⟨x0,x1,x2,x3,x4,x5,x6,x7⟩:=HX5;clear hb4 b5 hb35 HK3 HB3 HT3 HX4 HKV;obtain ⟨⟨k0,k1,k2,k3,k4,k5,k6,k7⟩,f0,f1,f2,f3,f4,f5,f6,f7⟩:=HK5.out;go_wp2_with fail
 exact bodyPost_ret (v:=.tuple #[.agg (Ku.k t cA cc),ZZ ZY 0,ZZ ZY 0]) (by simp [results,results44,go_sem,k0,k1,k2,k3,k4,k5,k6,k7,x0,x1,x2,x3,x4,x5,x6,x7,zK5,zX5]) rfl ⟨⟨cA,cc,rfl,by
  refine KVc.imp (fun b (hb:w2.heap.size<=b)=>by show w.heap.size<=b;omega) (HKV5.out.stay ?_);with_reducible repeat' (first|exact Kept.refl _ _|refine Kept.alloc ?_ _|refine Kept.set ?_ (.inl (by show ¬(w2.heap.size<=w.heap.size);omega)) _ _)⟩,by
  have hb:=qes;with_reducible repeat' (first|exact hb|refine Below.setCell ?_ qoa _|refine Below.alloc ?_ qor _)⟩
theorem yo (s:ByteArray) (hs:s.size<=9223372036854775807) (w:Z3):
 Calls ZW 44 #[.string s] w (lj w (aL s.data.toList)):=by
 have hlen:s.data.toList.length=s.size:=aq s;unfold aL;rw [hlen];by_cases h0:cF s.data.toList=0
 ·rw [if_neg (fun h=>h h0)]
  have hl:s.data.toList.length<=200:=qkF;have hG:=wm h0 hl;have hL:=kW s.data.toList;obtain ⟨res,ht,hq⟩:=ja (aE s.data.toList) s.size;rw [ht];cases res with
  |bad z=>exact BN s hs w h0 hL hG ht
  |ok t q=>
   dsimp only;by_cases h1:q<(aE s.data.toList).length
   ·rw [if_pos h1]
    exact xU s hs w h0 hL hG h1 ht
   ·rw [if_neg h1]
    have hqe:q=(aE s.data.toList).length:=(by have:=hq t q rfl;omega);subst hqe;obtain ⟨hw,hd⟩:=pE hL ht;by_cases h6:16<aG t
    ·rw [if_pos h6]
     exact yc s hs w h0 hL hG hw hd (decide_eq_true qoq) ht
    ·rw [if_neg h6]
     exact yu s hs w h0 hL hG hw hd (decide_eq_false qoq) ht
 ·rw [if_pos h0]
  exact Bm s hs w (by rw [bne_iff_ne];exact h0) rfl rfl
theorem pM (s:ByteArray) (hs:s.size<=9223372036854775807) (w:Z3):
 Calls ZW 44 #[.string s] w (OE w (aL s.data.toList)):=
 (yo s hs w).mono fun e w' h=>by
   cases hp:aL s.data.toList with
   |good t=>rw [hp] at h;obtain ⟨⟨A,ca,he,hk⟩,hb⟩:=h;exact ⟨⟨A,ca,he,hk.kv⟩,hb⟩
   |fail a c=>rw [hp] at h;exact h
