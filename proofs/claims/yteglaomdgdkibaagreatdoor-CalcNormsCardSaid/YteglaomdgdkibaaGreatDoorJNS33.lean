import Derived.Test.YteglaomdgdkibaaGreatDoorJNS23
import Derived.Deep.RegionLawGrows
import Derived.Laws.BitsAllLaws
import Derived.Test.YteglaomdgdkibaaGreatDoorJQNSP
import Derived.Test.YteglaomdgdkibaaGreatDoorJQNSW
set_option linter.all false
set_option maxHeartbeats 0
set_option maxRecDepth 99999
namespace Go.Proofs.YteglaomdgdkibaaGreatDoor
open Go.RowKit
open Value renaming int→ZZ,slice→Zw,pointer→Zv
open IntKind renaming i64→ZY
open Ending renaming returned→ZX
open RowKit renaming Below→Z2
open Go renaming World→Z3
open Tryz
open Tryz renaming prog→ZW
open Option renaming some→ZV,none→ZU
open Bool renaming false→Zz,true→Zy
variable {n:Int}{L:List Int}{v:Value}{X base:Nat}{w:World}{Q:Nat->Prop}{M:Int->Bool}
def HgQ (w:Z3) (L:List Lk) (M:Int->Bool) (on:List Int) (X:Nat) (e:Ending) (w':Z3):Prop:=∃(found:List Int) (M':Int->Bool) (O:Option Addr) (c:Nat),e=ZX (Zw O found.length c)/\found.length<=c/\HgI L M on found M'/\(∀n,n∈found↔Hng (unm L M) on n)/\MkG w' X M'/\eD w' (fun h=>w.heap.size<=h) O found/\bk X w w'
def vIn:Value->Int|.int _ q=>q|_=>0
theorem uF (h:okN n):KB n:=by unfold okN at h;unfold KB;omega
theorem Bd {L:List Lk} (hk:OkK L) {y:Int} (h:Ed L n y):okN n/\okN y:=qmh
theorem Mh (h:av 3 1 inW base w v L) (hX:X<base):∀q,v.ownBlock=ZV q->q≠X/\base<=q:=fun q hq=>by
 have:=(World.ownsRow.lt h q hq).1;exact ⟨qoq,this⟩
theorem uT (L:List Lk) (M:Int->Bool) (w:Z3) (g X:Nat) (hM:MkG w X M) (O:Option Addr) (co:Nat):
 Calls ZW 101 #[Zv (ZV ⟨g,0,ZU⟩),Zv (ZV ⟨X,0,ZU⟩),Zw O 0 co] w fun e w'=>HgQ w L M [] X e w':=by
 have HM:=qf hM;have HC:=qf (pP [] O co w (fun _=>True) (.inl rfl) qns);rw [List.length_nil] at HC;clear hM;go_enter func101,ntmps101;go_wp2_with fail;go_step3;go_wp2_with fail;refine HC.out.mono ?_;rintro e w1 ⟨P,c,rfl,_,hb⟩;have HB:=qf hb;clear hb HC
 have hend:∀O' c',HgQ w L M [] X (ZX (Zw O' 0 c')) w1:=fun O' c'=>⟨[],M,O',c',rfl,qe,HgI.start L M [],fun n=>by
  constructor
  ·intro h;cases h
  ·intro h
   refine absurd (lh (P:=fun _=>False) (fun x r _ hr=>by cases hr) (fun x r _ _ ih=>ih) h) id,HM.out.below HB.out,.inl rfl,bk.of_below HB.out⟩
 have HE:=qf hend;clear hend;go_wp2_with fail;go_step3;cases P with
 |none=>
  go_wp2_with fail;go_ret;exact HE.out _ _
 |some a=>
  go_wp2_with fail;go_ret;exact HE.out _ _
theorem wX (w0 w:Z3) (g:Nat) (L:List Lk) (hP:ir w0 g L) (hb0:Z2 w0.heap.size w0 w) (hk:OkK L) (hL:L.length<=60) (X:Nat) (hX:w0.heap.size<=X) (M:Int->Bool) (hM:MkG w X M) (on:List Int) (O:Option Addr) (co:Nat) (ho:bc w Q O on) (hol:on.length<=60) (hkb:∀x∈on,KB x) (hne:on≠[]):
 Calls ZW 101 #[Zv (ZV ⟨g,0,ZU⟩),Zv (ZV ⟨X,0,ZU⟩),Zw O on.length co] w fun e w'=>HgQ w L M on X e w':=by
 obtain ⟨i0,hi0,hz0,hz1,hz2⟩:=info_parts gO;obtain ⟨b1,b2,n1,n2,f1,f2,R1,R2,hG⟩:=hP;have HG:=qf hG;have HB0:=qf hb0;have HMl:=qf hM.lt;have HX:=qf hX;have HK:=qfq;have HL:=qf hL;have HKb:=qf hkb;have HM:=qf hM;have HC:=qf (pP on O co w Q ho qoq);have hpos:0<on.length:=List.length_pos_iff.2 hne;have HPos:=qf hpos;have HNe:=qf hne;have HR2l:=qf (fun y=>Nat.le_trans (hG.ok.l2 y) hL);have HGet:=qf (fun (W:Z3) (hb:Z2 w0.heap.size w0 W) (x:Int) (hx:KB x)=>hG.readers hb hx);have HEd:=qf (fun (y r:Int)=>hG.ok.r2 y r);clear hG hb0 hM ho hkb hk hX hL hne;go_enter func101,ntmps101;go_wp2_with fail
 refine iD 0 (fun a' wr=>∃(i:Nat) (found:List Int) (M':Int->Bool) (v7 u10 u11 u12 u13 u14 u15 u16 u17 u18 u19 u20 u21 u22 u23 u24 u25 u26 u27 u28 u29 u30 u31 u32 u33 u34 u35 u36 u37 u38 u39 u40 u41 u42 u43 u44 u45 u46 u47 u48 u49 u50 u51:Value),a'={ tmps:=#[Zv (ZV ⟨g,0,ZU⟩),Zv (ZV ⟨X,0,ZU⟩),Zw O on.length co,undef,undef,undef,Zw ZU 0 0,v7,ZZ ZY (i:Int),undef,u10,u11,u12,u13,u14,u15,u16,u17,u18,u19,u20,u21,u22,u23,u24,u25,u26,u27,u28,u29,u30,u31,u32,u33,u34,u35,u36,u37,u38,u39,u40,u41,u42,u43,u44,u45,u46,u47,u48,u49,u50,u51],defers:=[] }/\Hid (HgS L M on i found M')/\Hid (av 3 1 inW w.heap.size wr v7 (on++found))/\Hid (MkG wr X M')/\Hid (bk X w wr)) (fun a' _=>on.length+61 - (vIn (a'.tmps.getD 8 undef)).toNat) rfl ?_ ?_
 ·rintro a' wr ⟨i,found,M',v7,u10,u11,u12,u13,u14,u15,u16,u17,u18,u19,u20,u21,u22,u23,u24,u25,u26,u27,u28,u29,u30,u31,u32,u33,u34,u35,u36,u37,u38,u39,u40,u41,u42,u43,u44,u45,u46,u47,u48,u49,u50,u51,rfl,HS,HO,HMk,HBt⟩
  obtain ⟨A7,c7,rfl,hc7,hat7⟩:=av.shape (f:=inW) (n:=1) (fun _=>rfl) HO.out;have hne7:on++found≠[]:=(by have:=HNe.out;simp [this]);obtain ⟨g7,o7,rfl,hat8⟩:=hat7 hne7;clear hne7;obtain ⟨N,hN⟩:∃N,(on++found).length=N:=⟨_,rfl⟩
  have hN2:on.length+found.length=N:=(by rw [<-hN,List.length_append]);have hfl:found.length<=60:=Nat.le_trans HS.out.ii.len HL.out;have hil:=HS.out.le;rw [hN] at hc7 HO ⊢;have HN:=qf hN;have HN2:=qf hN2;have HAt:=qf hat8;clear hat7 hat8 hN;by_cases hlt:i<N
  ·obtain ⟨y,hy⟩:∃y,(on++found)[i]? =ZV y:=⟨_,List.getElem?_eq_getElem (by rw [HN.out];exact hlt)⟩
   have hd:((i:Int)==(N:Int))=Zz:=qnu
   have hkb:KB y:=by
    rcases List.mem_append.1 (List.mem_of_getElem? hy) with q|q
    ·exact HKb.out y q
    ·obtain ⟨x,hx,e⟩:=(HS.out.ii.un q).1
     rw [<-e];exact uF (HK.out x hx).1
   have c7y:wr.cell? ⟨g7,o7+i,ZU⟩=ZV (ZZ ZY y):=(by have:=HAt.out i y hy 0 _ rfl;simpa using this);have HT:=qf (HS.out.enter hy (R2 y));have HLk:=qf (fun (W:Z3) (hb:Z2 wr.heap.size wr W)=>HGet.out W (HB0.out.trans ((HBt.out.below HX.out HB0.out.size).trans (hb.mono (Nat.le_trans HB0.out.size HBt.out.size)))) y hkb);have HYs:=qf (HEd.out y);have hRl:=HR2l.out y;have HCy:=qf (fun (W:Z3) (hb:Z2 wr.heap.size wr W)=>(show W.cell? ⟨g7,o7+i,ZU⟩=ZV (ZZ ZY y) from aa hb c7y));have hI:(i:Int)<(N:Int):=qoq;have hJ:=qbX;have HRR:=qf (fun (W:Z3) (hb:bk X w W)=>((HGet.out w HB0.out y hkb).2.mono (Q:=fun h=>h≠X) (fun h hh _=>by have:=HX.out;omega)).kept hb.kept);clear hy hkb c7y HS;generalize ((f2 y).getD sl0).addr=A2 at*;generalize ((f2 y).getD sl0).cap=c2 at*;generalize R2 y=RR at*;go_wp2_with fail
   go_region_held3 (fun w'=>w'.cell? ⟨g,1,ZU⟩=ZV (.map (ZV b2))/\w'.cell? ⟨g7,o7+i,ZU⟩=ZV (ZZ ZY y))
    (first|(exact ⟨(HLk.out _ (have hv:=qb;qnP)).1.1,HCy.out _ (have hv:=qb;qnP)⟩)|fail)
    (first
    |(refine lK (HLk.out _ (have hv:=qb;qnP)).1.2 ?_)
    |fail)
   have hbd:Z2 wr.heap.size wr wr.drew:=Below.drew qb;have HO1:=qf (HO.out.below hbd);have HMk1:=qf (HMk.out.below hbd);have HBt1:=qf (HBt.out.trans (bk.of_below hbd));clear hbd HO HMk HBt HLk HCy HAt hd hI hJ;generalize wr.drew=wd at*;go_wp2_with fail;go_loopw [7,31] (fun v7 vk wx=>∃(k:Nat) (fd:List Int) (M2:Int->Bool),k<=RR.length/\vk=ZZ ZY (k:Int)/\Hid (HgT L M on i k y RR fd M2)/\Hid (av 3 1 inW w.heap.size wx v7 (on++fd))/\Hid (MkG wx X M2)/\Hid (bk X w wx)) (fun _ vk _=>RR.length - (vIn vk).toNat)
   case atStart=>exact ⟨0,found,M',qe,rfl,HT,HO1,HMk1,HBt1⟩
   case round=>
    clear HT HO1 HMk1 HBt1;obtain ⟨k,fd,M2,hk,rfl,HT,HO,HMk,HBt⟩:=hrel;by_cases hkl:k<RR.length
    ·obtain ⟨r,hr⟩:∃r,RR[k]? =ZV r:=⟨_,List.getElem?_eq_getElem hkl⟩
     have hed:=(HYs.out r).1 (List.mem_of_getElem? hr);have hor:=(Bd HK.out hed).1;obtain ⟨j,hj⟩:∃j:Nat,r=(j:Int):=⟨r.toNat,qqs⟩
     have hj1:=qgF;subst hj;rcases HRR.out wr HBt.out with hnil|⟨gr,orr,rfl,_,hgl,hcr⟩
     ·exact qnb
     have c9:=hcr k (j:Int) hr;obtain ⟨m0,m1⟩:=HMk.out.cell hj1;have hI:(k:Int)<(RR.length:Int):=qoq;have hJ:(0:Int)<=(k:Int):=qoq;have hfd:fd.length<=60:=Nat.le_trans HT.out.ii.len HL.out;have hbs:=HBt.out.size;have hXs:=HMl.out;have HOs:=qf (Mh HO.out HMl.out);cases hm:M2 (j:Int) with
     |true=>
      have HT2:=qf (HT.out.skip hr hm);rw [hm] at m0;clear hcr hed hor hr;go_wp2_with fail;go_roundw
      case rel=>exact ⟨k+1,fd,M2,qoq,qnG,HT2,HO,HMk,HBt⟩
      case measure=>simp [vIn];omega
     |false=>
      have HT2:=qf (HT.out.add hr hm hed);rw [hm] at m0;have hM9:MkG (wr.setCell ⟨X,j,ZU⟩ (.bool Zy)) X (cT M2 (j:Int)):=HMk.out.set (enc:=Value.bool) (j:=j) Zy;have HM9:=qf hM9;have HO9:=qf (av.block HO.out (w':=wr.setCell ⟨X,j,ZU⟩ (.bool Zy)) fun q hq=>Below.heap_setCell _ _ _ q (fun e=>(HOs.out q hq).1 e));have HB9:=qf (HBt.out.setR j (.bool Zy));obtain ⟨Nf,hNf⟩:∃Nf,(on++fd).length=Nf:=⟨_,rfl⟩
      have HNf:=qf hNf;rw [List.length_append] at hNf;have hs9:(wr.setCell ⟨X,j,ZU⟩ (.bool Zy)).heap.size=wr.heap.size:=qns;have HS9:=qf hs9;clear hcr hed hor hr HO HMk HBt hM9 hs9 HT;go_wp2_with (at_builtin;refine eh ?_)
      refine ek ?_;clear c9 m0 m1;generalize wr.setCell ⟨X,j,ZU⟩ (.bool Zy)=w9 at*;have b0:Z2 w9.heap.size w9 (w9.alloc (.cells #[ZZ ZY (j:Int)] 3)):=qa;refine cP (f:=inW) (n:=1) (E:=3) (nb:=8) (X:=on++fd) (base:=w.heap.size) rfl _ _ rfl rfl (av.below HO9.out b0) (L2:=[(j:Int)]) rfl (by rw [<-HS9.out];exact kX w9 (j:Int)) qns (N:=Nf+1) (by rw [HNf.out];rfl) (Z:=on++(fd++[(j:Int)])) (by rw [List.append_assoc]) underlying49 hi0 hz0 hz1 hz2 rfl qnv qnv (fun _=>rfl) jx qoq (by simp;have:=HB9.out.size;omega) ?_;intro g4 k4 w4 ho4 hg4 hat4 hl4;have hBt4:bk X w w4:=(HB9.out.alloc _).grown hg4 fun q hq=>.inr (HOs.out q hq).2
      have HO4:=qf ho4;have HM4:Hid (MkG w4 X (cT M2 (j:Int))):=qf ((HM9.out.below b0).world (hg4.block X (HM9.out.below b0).lt fun e=>(HOs.out X e.symm).1 rfl));have HB4:=qf hBt4;clear ho4 hg4 hat4 hl4 b0 hBt4;go_wp2_with fail;go_roundw
      case rel=>exact ⟨k+1,fd++[(j:Int)],cT M2 (j:Int),qoq,qnG,HT2,HO4,HM4,HB4⟩
      case measure=>simp [vIn];omega
    ·have hkk:k=RR.length:=by omega
     subst hkk;have HS2:=qf (HT.out.leave fun r h=>(HYs.out r).2 h);have w64:=qgo;clear HT;go_wp2_with fail;go_step3;refine ⟨rfl,⟨i+1,fd,M2,_,_,_,_,_,_,_,_,_,_,_,_,_,_,_,_,_,_,_,_,_,_,_,_,_,_,_,_,_,_,_,_,_,_,_,_,_,_,_,_,_,_,_,rfl,HS2,HO,HMk,HBt⟩,?_⟩;simp [vIn];omega
  ·have hd:((i:Int)==(N:Int))=Zy:=by simp;omega
   have hiN:i=on.length+found.length:=qoq
   have HF:Hid (∀O' c,(O'=ZV ⟨g7,o7+on.length,ZU⟩\/N - on.length=0)->N - on.length<=c->HgQ w L M on X (ZX (Zw O' (N - on.length) c)) wr):=qf fun O' c hor hc=>by
    have e:N - on.length=found.length:=qoq;rw [e] at hor hc ⊢;refine ⟨found,M',O',c,rfl,hc,HS.out.ii,HS.out.all hiN,HMk.out,?_,HBt.out⟩;rcases hor with rfl|hor
    ·by_cases hf:found=[]
     ·exact .inl hf
     ·have hH:eD wr (fun h=>w.heap.size<=h) (ZV ⟨g7,o7,ZU⟩) (on++found):=by
       obtain ⟨A',c',e',_,_,hr⟩:=iC HO.out;injection e' with e1 e2 e3
       rw [e1];exact hr
      rcases hH with h|⟨g',o',e',hp,hl,hh⟩
      ·exact absurd (List.append_eq_nil_iff.1 h).2 hf
      ·cases e'
       exact .inr ⟨g7,o7+on.length,rfl,hp,hl,C2 hh⟩
    ·exact .inl (List.length_eq_zero_iff.1 hor)
   clear HS HMk HO HBt HAt;go_wp2_with fail;all_goals (simp only [Exit.jump];go_ret;refine HF.out _ _ ?_ ?_<;>first|omega|(left;rfl)|(right;omega)|trace_state)
 ·intro HJ
  go_wp2_with fail;refine HC.out.mono ?_;rintro e w1 ⟨P,c,rfl,hcase,hb⟩;have HB1:=qf hb
  have HO1:Hid (av 3 1 inW w.heap.size w1 (Zw P on.length c) (on++[])):=qf (by
   rcases hcase with h|⟨g2,rfl,_,_,h⟩
   ·exact absurd h HNe.out
   ·rw [List.append_nil];exact h)
  clear hcase hb;go_wp2_with fail;go_step3;rename_i K1 hK1
  exact hK1 _ _ (HJ _ _ ⟨0,[],M,_,_,_,_,_,_,_,_,_,_,_,_,_,_,_,_,_,_,_,_,_,_,_,_,_,_,_,_,_,_,_,_,_,_,_,_,_,_,_,_,_,_,_,rfl,qf (HgS.start L M on),HO1,qf (HM.out.below HB1.out),qf (bk.of_below HB1.out)⟩)
theorem oU (n:Int) (h0: -1048576<=n) (h1:n<1048576):bits .xor .i64 (-1) n=bn n:=by
 show IntKind.i64.wrap ((BitVec.ofInt 64 (-1) ^^^ BitVec.ofInt 64 n).toNat:Int)=_
 have h1:BitVec.ofInt 64 (-1)=BitVec.allOnes 64:=qnv;rw [h1,BitVec.allOnes_xor,BitVec.toNat_not,BitVec.toNat_ofInt];unfold bn;simp [IntKind.wrap,IntKind.bits,IntKind.signed]
 omega
def kN (w:Z3) (X:Nat):Int->Bool:=fun n=>match w.cell? ⟨X,n.toNat,ZU⟩ with
 |some (.bool b)=>b
 |_=>Zz
theorem KH (h:MkG w X M) {j:Nat} (hj:j<1024):kN w X (j:Int)=M (j:Int):=by
 unfold kN;rw [Int.toNat_natCast,(h.cell hj).1]
theorem tC {R1:Int->List Int} {M M':Int->Bool}:∀{k:Nat},(∀j:Nat,j<k->M (j:Int)=M' (j:Int))->wtN R1 M k=wtN R1 M' k
 |0,_=>rfl
 |k+1,h=>by rw [wtN,wtN,tC fun j hj=>h j qoq,h k qoq]
theorem sK {R1:Int->List Int} (h:MkG w X M):wtN R1 (kN w X) 1024=wtN R1 M 1024:=tC fun _ hj=>KH h hj
def slN:Value->Nat|Zw _ n _=>n|_=>0
def N3 (w:Z3) (L:List Lk) (e:Ending) (w':Z3):Prop:=∃(l:List Int) (v:Value),e=ZX v/\av 3 1 inW w.heap.size w' v l/\wA L l/\l.Nodup/\(∀n,isN L n->n∈l)/\(∀n∈l,okN n)/\l.length<=1024/\Z2 w.heap.size w w'
theorem pY {n:Nat} {o:Obj} (h:n<=w.heap.size):n<=(w.alloc o).heap.size:=Nat.le_trans h qns
theorem uD {n:Nat} (h:n<=w.heap.size):n<=w.drew.heap.size:=h
theorem kH {v' u:Value} (hu:av 3 1 inW base w u L) (ha:eI v u) (h:v'.ownBlock=v.ownBlock\/∃s,w.heap.size<=s/\v'.ownBlock=ZV s):eI v' u:=fun k hv hk=>by
 rcases h with e|⟨s,hs,e⟩
 ·exact ha k (e▸hv) hk
 ·have:=(World.ownsRow.lt hu k hk).2
  rw [e] at hv;cases hv;omega
theorem Cs (w:Z3) (g:Nat) (L:List Lk) (hP:ir w g L) (hk:OkK L):
 Calls ZW 100 #[Zv (ZV ⟨g,0,ZU⟩)] w fun e w'=>N3 w L e w':=by
 obtain ⟨i0,hi0,hz0,hz1,hz2⟩:=info_parts gO;have hb1:Z2 w.heap.size w (w.alloc (.cells zeroCells153 153)):=qa;have HB1:=qf hb1;have HM1:Hid (MkG (w.alloc (.cells zeroCells153 153)) w.heap.size (fun _=>Zz)):=qf (Ar.made oj w);have HNd:=qf (lD _ g L (hP.below hb1) hk);obtain ⟨b1,b2,n1,n2,f1,f2,R1,R2,hG⟩:=hP;have HGet:=qf (fun (W:Z3) (hb:Z2 w.heap.size w W) (x:Int) (hx:KB x)=>hG.reads hb hx);have HEd:=qf (fun (n y:Int)=>hG.ok.r1 n y);have HRl:=qf hG.ok.l1;have HK:=qfq;have HX:Hid (w.heap.size<(w.alloc (.cells zeroCells153 153)).heap.size):=qf qns;clear hG hk hb1;go_enter func100,ntmps100;go_wp2_with fail
 refine iD 0 (fun a' wr=>∃(left:List Int) (M:Int->Bool) (l:List Int) (v3 v5 u6 u7 u8 u9 u10 u11 u12 u13 u14 u15 u16 u17 u18 u19 u20 u21 u22 u23 u24 u25 u26 u27 u28 u29 u30 u31 u32 u33 u34 u35 u36 u37 u38 u39 u40 u41 u42 u43 u44 u45 u46 u47 u48 u49 u50:Value),a'={ tmps:=#[Zv (ZV ⟨g,0,ZU⟩),undef,Zw ZU 0 0,v3,Zv (ZV ⟨w.heap.size,0,ZU⟩),v5,u6,u7,u8,u9,u10,u11,u12,u13,u14,u15,u16,u17,u18,u19,u20,u21,u22,u23,u24,u25,u26,u27,u28,u29,u30,u31,u32,u33,u34,u35,u36,u37,u38,u39,u40,u41,u42,u43,u44,u45,u46,u47,u48,u49,u50],defers:=[] }/\Hid (Dfs L left M l)/\Hid (av 3 1 inW (w.heap.size+1) wr v3 l)/\Hid (av 3 1 inW (w.heap.size+1) wr v5 left)/\Hid (eI v3 v5)/\Hid (MkG wr w.heap.size M)/\Hid (Z2 w.heap.size w wr)/\Hid (left.length+wtN R1 M 1024<=1050624)) (fun a' wr=>slN (a'.tmps.getD 5 undef)+wtN R1 (kN wr w.heap.size) 1024) rfl ?_ ?_
 ·rintro a' wr ⟨left,M,l,v3,v5,u6,u7,u8,u9,u10,u11,u12,u13,u14,u15,u16,u17,u18,u19,u20,u21,u22,u23,u24,u25,u26,u27,u28,u29,u30,u31,u32,u33,u34,u35,u36,u37,u38,u39,u40,u41,u42,u43,u44,u45,u46,u47,u48,u49,u50,rfl,HD,H3,H5,HAp,HMk,HB,HW⟩
  obtain ⟨A5,c5,rfl,hc5,hat5,hr5⟩:=iC H5.out;by_cases hnil:left=[]
  ·subst hnil
   have HF:Hid (N3 w L (ZX v3) wr):=qf (by
    obtain ⟨d1,d2,d3⟩:=HD.out.done;exact ⟨l,v3,rfl,av.lowerG H3.out qoq,d1,d2,d3,HD.out.lr,HD.out.len,HB.out⟩)
   rw [List.length_nil];clear HD H3 H5 HAp HMk HB HW hr5 hat5 hc5;exact qmk
  ·obtain ⟨g5,rfl⟩:=hat5 hnil
   obtain ⟨lf,n,rfl⟩:∃lf n,left=lf++[n]:=⟨left.dropLast,left.getLast hnil,(List.dropLast_concat_getLast hnil).symm⟩
   have hlen:(lf++[n]).length=lf.length+1:=qns;have hw:=HW.out;have hl2:=HD.out.len;have H5c:=qf (av.cut (f:=inW) (fun _=>rfl) H5.out (by rw [hlen];omega) lf.length (by rw [hlen];omega));rw [List.take_left' rfl] at H5c;rw [hlen] at hc5 hw ⊢
   have hcn:wr.cell? ⟨g5,lf.length,ZU⟩=ZV (ZZ ZY n):=by
    rcases hr5 with h|⟨g',o',e',_,_,hh⟩
    ·simp at h
    ·cases e'
     have:=iO hh (i:=lf.length) (x:=n) qns;rwa [Nat.zero_add] at this
   have hrn:=HD.out.rng n qns;have hd:((lf.length:Int)+1==0)=Zz:=qnu;have w64:IntKind.i64.wrap ((lf.length:Int)+1 - 1)=(lf.length:Int):=qpp;have hlt:(lf.length:Int)<((lf.length+1:Nat):Int):=qoq;have hge:(0:Int)<=(lf.length:Int):=qoq;have HWt:=qf (sK (R1:=R1) HMk.out);have HC5:=qf hc5;have HRn:=qf hrn;clear hr5 hat5 HW hnil;obtain ⟨ln,hln⟩:∃ln,lf.length=ln:=⟨_,rfl⟩
   have HLn:=qf hln;rw [hln] at hcn hd w64 hlt hge H5c hc5 hw ⊢;clear hln hlen;by_cases hneg:n<0
   ·have hbx:bits .xor .i64 (-1) n=bn n:=by
     unfold okN num at hrn;rw [if_pos hneg] at hrn;exact oU n qoq qoq
    have HD2:=qf (HD.out.close HK.out hneg);have hbs:=HB.out.size;have HAp3:Hid (∀q,v3.ownBlock=ZV q->w.heap.size+1<=q):=qf fun q hq=>(World.ownsRow.lt H3.out q hq).1
    clear hrn HD;go_wp2_with (at_builtin;refine eh ?_)
    refine ek ?_;have b0:Z2 wr.heap.size wr (wr.alloc (.cells #[ZZ ZY (bn n)] 3)):=qa;have hX1:=HX.out;have hMl:=HMk.out.lt;refine ji rfl _ _ rfl rfl (av.below H3.out b0) (L2:=[bn n]) rfl (gy wr (bn n)) (Z:=l++[bn n]) rfl hi0 hz0 hz1 hz2 rfl qnu qnu ?_;intro v4 w4 ho4 hg4 hat4;have HO4:=qf ho4;have H54:=qf ((av.below H5c.out b0).beside hg4 HAp.out);have HA4:Hid (eI v4 (Zw (ZV ⟨g5,0,ZU⟩) ln c5)):=qf (kH (av.below H5c.out b0) HAp.out (hat4.imp id fun e=>⟨_,qd,e⟩));have HM4:Hid (MkG w4 w.heap.size M):=qf ((HMk.out.below b0).world (hg4.block _ (HMk.out.below b0).lt fun e=>by have:=HAp3.out _ e.symm;omega));have HB4:Hid (Z2 w.heap.size w w4):=qf ((HB.out.trans (b0.mono hbs)).grown hg4 qnu fun k hk=>by have:=HAp3.out k hk;omega);have HMu:Hid (ln+wtN R1 (kN w4 w.heap.size) 1024<ln+1+wtN R1 (kN wr w.heap.size) 1024):=qf (by rw [sK HM4.out,HWt.out];omega);have HW4:=qgM;clear ho4 hg4 hat4 b0 HMk HB HAp H5c H5 H3 HWt;go_wp2_with fail;go_step3;exact ⟨rfl,⟨lf,M,l++[bn n],_,_,_,_,_,_,_,_,_,_,_,_,_,_,_,_,_,_,_,_,_,_,_,_,_,_,_,_,_,_,_,_,_,_,_,_,_,_,_,_,_,_,_,_,_,_,_,rfl,HD2,HO4,H54,HA4,HM4,HB4,HW4⟩,HMu.out⟩
   ·have hn0:0<=n:=by omega
    rw [ip hn0] at hrn;obtain ⟨j,rfl⟩:∃j:Nat,n=(j:Int):=⟨n.toNat,qoq⟩
    have hj1:j<1024:=(by unfold okN at hrn;omega);have hkb:KB (j:Int):=uF hrn;obtain ⟨m0,m1⟩:=HMk.out.cell hj1;have hbs:=HB.out.size;have hI:(j:Int)<1024:=qoq;have hlt0:decide ((j:Int)<0)=Zz:=decide_eq_false qoq;cases hm:M (j:Int) with
    |true=>
     have HD2:=qf (HD.out.drop hn0 hm);have HW4:=qgM;have HMu:Hid (ln+wtN R1 (kN wr w.heap.size) 1024<ln+1+wtN R1 (kN wr w.heap.size) 1024):=qf qoq;rw [hm] at m0;clear HD hm H5;go_wp2_with fail;go_step3;exact ⟨rfl,⟨lf,M,l,_,_,_,_,_,_,_,_,_,_,_,_,_,_,_,_,_,_,_,_,_,_,_,_,_,_,_,_,_,_,_,_,_,_,_,_,_,_,_,_,_,_,_,_,_,_,_,rfl,HD2,H3,H5c,HAp,HMk,HB,HW4⟩,HMu.out⟩
    |false=>
     have hbx:bits .xor .i64 (-1) (j:Int)=bn (j:Int):=oU _ qoq qoq;have HD2:=qf (HD.out.meet HK.out hn0 hm (fun y=>HEd.out (j:Int) y));have hwu:=zJ (R1:=R1) hm hj1;have hrl:=HRl.out (j:Int);have HM9:Hid (MkG (wr.setCell ⟨w.heap.size,j,ZU⟩ (.bool Zy)) w.heap.size (cT M (j:Int))):=qf (HMk.out.set (enc:=Value.bool) (j:=j) Zy);have hX5:g5≠w.heap.size:=(by have:=(World.ownsRow.lt H5.out g5 rfl).1;omega);have HX3:Hid (∀q,v3.ownBlock=ZV q->q≠w.heap.size):=qf fun q hq=>by have:=(World.ownsRow.lt H3.out q hq).1;omega
     have H39:=qf (av.block H3.out (w':=wr.setCell ⟨w.heap.size,j,ZU⟩ (.bool Zy)) fun q hq=>Below.heap_setCell _ _ _ q (fun e=>HX3.out q hq e));have H59:=qf (av.block H5c.out (w':=wr.setCell ⟨w.heap.size,j,ZU⟩ (.bool Zy)) fun q hq=>Below.heap_setCell _ _ _ q (fun e=>by cases hq;exact hX5 e));have HB9:=qf (HB.out.setCell (p:=⟨w.heap.size,j,ZU⟩) qd (.bool Zy));have hz8:=HMk.out.lt;have hz9:w.heap.size<=(wr.setCell ⟨w.heap.size,j,ZU⟩ (.bool Zy)).heap.size:=qnu;have hz7:w.heap.size+1<=(wr.setCell ⟨w.heap.size,j,ZU⟩ (.bool Zy)).heap.size:=qnu;have HC0:=(HGet.out _ HB9.out (j:Int) hkb).1.1;rw [hm] at m0;have HWr:=HWt.out;have HX5:Hid (g5≠w.heap.size):=qf hX5;have HAs:=qf HAp.out.symm;clear HD hm H5 H5c H3 HMk hX5 HWt;go_wp2_with fail;clear m0 m1;generalize wr.setCell ⟨w.heap.size,j,ZU⟩ (.bool Zy)=w9 at*;have hbq:∀q,Z2 w.heap.size w (w9.alloc (.cells #[ZZ ZY q] 3)).drew:=fun q=>Below.drew (HB9.out.alloc hz9 _)
     have hcd:∀q,(w9.alloc (.cells #[ZZ ZY q] 3)).drew.cell? ⟨g,0,ZU⟩=ZV (.map (ZV b1)):=fun q=>(HGet.out _ (hbq q) (j:Int) hkb).1.1
     have hld:∀q,(Instr.lookup 120 (.map (ZV b1)) (ZZ ZY (j:Int)) Zz).run ZW (w9.alloc (.cells #[ZZ ZY q] 3)).drew=.ok (.slice ((f1 (j:Int)).getD sl0).addr (R1 (j:Int)).length ((f1 (j:Int)).getD sl0).cap) (w9.alloc (.cells #[ZZ ZY q] 3)).drew:=fun q=>(HGet.out _ (hbq q) (j:Int) hkb).1.2
     have hce:w9.drew.cell? ⟨g,0,ZU⟩=ZV (.map (ZV b1)):=HC0;have hle:=(HGet.out w9.drew (Below.drew HB9.out) (j:Int) hkb).1.2;have hbq2:∀q,Z2 w.heap.size w (w9.drew.alloc (.cells #[ZZ ZY q] 3)):=fun q=>(Below.drew HB9.out).alloc hz9 _
     have hcf:∀q,(w9.drew.alloc (.cells #[ZZ ZY q] 3)).cell? ⟨g,0,ZU⟩=ZV (.map (ZV b1)):=fun q=>(HGet.out _ (hbq2 q) (j:Int) hkb).1.1
     have hlf:∀q,(Instr.lookup 120 (.map (ZV b1)) (ZZ ZY (j:Int)) Zz).run ZW (w9.drew.alloc (.cells #[ZZ ZY q] 3))=.ok (.slice ((f1 (j:Int)).getD sl0).addr (R1 (j:Int)).length ((f1 (j:Int)).getD sl0).cap) (w9.drew.alloc (.cells #[ZZ ZY q] 3)):=fun q=>(HGet.out _ (hbq2 q) (j:Int) hkb).1.2
     clear hbq hbq2
     go_region_law (first
      |(refine ic qnL _ _ qnL qnL (av.below H59.out (have hv:=qb;qnE)) (L2:=[_]) qnL (by first|exact (gy _ _).below (Below.drew qb)|exact gy _ _) (Z:=lf++[bn (j:Int)]) (by exact congrArg (fun x=>lf++[x]) (oU _ qoq qoq)) hi0 hz0 hz1 hz2 rfl qqe (have hv:=hz7;qoJ) ?_
        intro v4 w4 ho4 hg4 hat4;have hs4:w.heap.size+1<=w4.heap.size:=Nat.le_trans (have hv:=hz7;qoJ) hg4.size;have hB4:Z2 w.heap.size w w4:=Below.grown ((have hv:=HB9.out;(by with_reducible repeat' (first|exact hv|exact hz9|refine Below.drew ?_|refine Below.alloc ?_ ?_ _|refine pY ?_|refine uD ?_)))) hg4 (have hv:=hz9;qoJ) (fun k hk=>by have:=(World.ownsRow.lt H59.out k hk).1;omega);have hc4:=(HGet.out _ hB4 (j:Int) hkb).1.1;have hl4:=(HGet.out _ hB4 (j:Int) hkb).1.2;have H34:=qf ((av.below H39.out (have hv:=qb;qnE)).beside hg4 HAs.out);have HA4:=qf (kH (av.below H39.out (have hv:=qb;qnE)) HAs.out (hat4.imp id fun e=>⟨_,qd,e⟩));have HM4:Hid (MkG w4 w.heap.size (cT M (j:Int))):=qf ((HM9.out.below (have hv:=qb;qnE)).world (hg4.block _ (HM9.out.below (have hv:=qb;qnE)).lt fun e=>HX5.out (Option.some.inj e).symm));have HO4:=qf ho4;clear hg4 hat4 ho4)
      |(refine Cu qnL _ _ 120 Zz qnL qnL qnL (HGet.out _ (have hv:=hB4;(by with_reducible repeat' (first|exact hv|exact HB9.out|exact hz9|refine Below.drew ?_|refine Below.alloc ?_ ?_ _|refine pY ?_|refine uD ?_))) (j:Int) hkb).1.2 ?_)
      |(refine ic qnL _ _ qnL qnL HO4.out (L2:=R1 (j:Int)) qnL (HGet.out _ hB4 (j:Int) hkb).2 (Z:=lf++bn (j:Int)::R1 (j:Int)) qns hi0 hz0 hz1 hz2 rfl qqe hs4 ?_
        intro v5 w5 ho5 hg5 hat5;have H35:=qf (H34.out.beside hg5 HA4.out);have HA5:=qf (kH H34.out HA4.out (hat5.imp id fun e=>⟨_,qd,e⟩)).symm;have HM5:Hid (MkG w5 w.heap.size (cT M (j:Int))):=qf (HM4.out.world (hg5.block _ HM4.out.lt fun e=>by have:=(World.ownsRow.lt HO4.out _ e.symm).1;omega));have HB5:Hid (Z2 w.heap.size w w5):=qf (Below.grown hB4 hg5 qoq fun k hk=>by have:=(World.ownsRow.lt HO4.out k hk).1;omega);have HO5:=qf ho5
        have hsl:slN v5=ln+(1+(R1 (j:Int)).length):=by
         obtain ⟨A,cap,e,_⟩:=dt ho5;rw [e];show (lf++bn (j:Int)::R1 (j:Int)).length=_
         have:=HLn.out;simp;omega
        have HMu:Hid (slN v5+wtN R1 (kN w5 w.heap.size) 1024<ln+1+wtN R1 (kN wr w.heap.size) 1024):=qf (by rw [sK HM5.out,HWr,hsl];omega);clear hg5 hat5 ho5 hsl hB4 hc4 hl4 hs4 H34 HA4 HM4 HO4)
      |fail)
     all_goals
      have HW5:Hid ((lf++bn (j:Int)::R1 (j:Int)).length+wtN R1 (cT M (j:Int)) 1024<=1050624):=qf qqe;clear hcd hld hce hle hcf hlf hwu hrl HC0 H39 H59 HB9 hz9 hz8 hz7 HM9;go_wp2_with fail;go_step3;exact ⟨rfl,⟨lf++bn (j:Int)::R1 (j:Int),cT M (j:Int),l,_,_,_,_,_,_,_,_,_,_,_,_,_,_,_,_,_,_,_,_,_,_,_,_,_,_,_,_,_,_,_,_,_,_,_,_,_,_,_,_,_,_,_,_,_,_,_,rfl,HD2,H35,HO5,HA5,HM5,HB5,HW5⟩,HMu.out⟩
 ·intro HJ
  go_wp2_with fail;refine HNd.out.mono ?_;rintro e w1 ⟨v,rfl,ho,hb⟩;have HB2:=qf (HB1.out.trans (hb.mono HB1.out.size));have HO:=qf (av.lowerG ho (b':=w.heap.size+1) (by have:=HX.out;omega));have HM2:Hid (MkG w1 w.heap.size (fun _=>Zz)):=qf (HM1.out.below hb)
  have HW:Hid ((bI L 1024).length+wtN R1 (fun _=>Zz) 1024<=1050624):=qf (by
   have h1:(bI L 1024).length<=1024:=eF _ _;have h2:=DT (M:=fun _=>Zz) HRl.out 1024;omega)
  clear ho hb HNd;go_wp2_with fail;go_step3;rename_i K1 hK1
  exact hK1 _ _ (HJ _ _ ⟨bI L 1024,_,[],_,_,_,_,_,_,_,_,_,_,_,_,_,_,_,_,_,_,_,_,_,_,_,_,_,_,_,_,_,_,_,_,_,_,_,_,_,_,_,_,_,_,_,_,_,_,_,rfl,qf (Dfs.start HK.out),qf (World.ownsRow_nil _ _ _ _),HO,qf (eI.nil _),HM2,HB2,HW⟩)
theorem yr (w0 w:Z3) (g:Nat) (L:List Lk) (hP:ir w0 g L) (hb0:Z2 w0.heap.size w0 w) (hk:OkK L) (hL:L.length<=60) (X:Nat) (hX:w0.heap.size<=X) (M:Int->Bool) (hM:MkG w X M) (on:List Int) (O:Option Addr) (co:Nat) (ho:bc w Q O on) (hol:on.length<=60) (hkb:∀x∈on,KB x):
 Calls ZW 101 #[Zv (ZV ⟨g,0,ZU⟩),Zv (ZV ⟨X,0,ZU⟩),Zw O on.length co] w fun e w'=>HgQ w L M on X e w':=by
 by_cases h:on=[]
 ·subst h
  exact uT L M w g X hM O co
 ·exact wX w0 w g L hP hb0 hk hL X hX M hM on O co ho hol hkb h
