import Derived.Test.YteglaomdgdkibaaGreatDoorJS02
import Derived.Test.YteglaomdgdkibaaGreatDoorJNS37
import Derived.Test.YteglaomdgdkibaaGreatDoorJQNSP
import Derived.Test.YteglaomdgdkibaaGreatDoorJQNSW
import Derived.Test.YteglaomdgdkibaaGreatDoorJQSP
import Derived.Test.YteglaomdgdkibaaGreatDoorJQSX
import Derived.Test.YteglaomdgdkibaaGreatDoorJQYNSP
set_option linter.all false
set_option maxHeartbeats 0
set_option maxRecDepth 99999
namespace Go.Proofs.YteglaomdgdkibaaGreatDoor
open Go.RowKit
open Value renaming int→ZZ
open IntKind renaming i64→ZY
open RowKit renaming Below→Z2
open Go renaming World→Z3
open Go.Proofs.Tryz
open Go.Proofs.Tryz renaming prog→ZW
open Option renaming some→ZV,none→ZU
open Bool renaming false→Zz,true→Zy
variable {P:Nat->Prop}{l s:List Src}{q:Src}
section
open Go.ChangeShapes Go.WideShapes Go.ChangeAt
theorem DP:prog.cellsOf 3=1:=by kernel_rfl
theorem yb:prog.cellsOf 28=2:=by kernel_rfl
theorem Hg:prog.cellsOf 85=3:=by kernel_rfl
section
variable {H:Type} {enc:TypeId×Value->H} {w:Z3} {base:Nat} {spare:Nat->Bool} {held:Bool}
theorem Dl {r:Reach} {b0:Nat} {v:Value} {d:DataW H} {p:List MemPlace} (hv:Value.okWide ZW w r b0 38 v) (h:DataW.Trod enc ZW w base spare held 38 v d p):
 ∃(l:List Src) (A:Option Addr) (cap:Nat),v=.slice A l.length cap/\l.length<=maxLen/\fa w (fun _=>True) A l:=by
 obtain ⟨l,A,cap,e,hl,ho,ha⟩:=DB srW (fun _=>True) (fun _=>rfl) underlying38 Hg qnv (fun {fuel cs x} hl ht=>by
  match cs,hl with
  |[c0,c1,c2],_=>
   obtain ⟨xs,n,rfl,rfl,hcl,hxl,hf⟩:=DataW.trod_struct underlying85 ht;match xs,hxl with
   |[y0,y1],_=>
   have g0:DataW.trod enc ZW w base spare held n 28 [c0,c1]=ZV y0:=(by have:=hf 0 _ rfl;rw [show ∀z:TypeId,z=28->prog.cellsOf z=2 from fun z hz=>by rw [hz];exact yb] at this;exact this;rfl);have g1:DataW.trod enc ZW w base spare held n 9 [c2]=ZV y1:=(by have:=hf 1 _ rfl;rw [show ∀z:TypeId,z=9->prog.cellsOf z=1 from fun z hz=>by rw [hz];exact lA] at this;exact this;rfl);obtain ⟨z0,z1,m,rfl,_,hz0,hz1⟩:=trod_struct2 underlying28 g0;simp only [DP] at hz0 hz1;obtain ⟨a,e0,_,_⟩:=DataW.trod_int underlying3 hz0;obtain ⟨b,e1,_,_⟩:=DataW.trod_int underlying3 hz1;obtain ⟨z,e2,_,_⟩:=DataW.trod_string underlying9 g1;simp at e0 e1 e2
   subst e0 e1 e2;exact ⟨⟨a,b,z.data.toList⟩,(by simp [srW]),trivial⟩) hv h
 refine ⟨l,A,cap,e,hl,?_⟩;by_cases hn:l=[]
 ·exact .inl hn
 ·obtain ⟨g,o,e2,hat⟩:=ha hn
  obtain ⟨x,hx⟩:∃x,l[0]? =ZV x:=by
   cases l with
   |nil=>exact absurd rfl hn
   |cons x r=>exact ⟨x,rfl⟩
  have q0:=hat 0 x hx 0 _ rfl;exact .inr ⟨g,o,e2,trivial,Lib.lt_of_cell q0,hat⟩
end
end
theorem MV:OfH F13:=by
 intro w s t A ca l LA lc _ ht hk hl hb hll;obtain ⟨r,_,hr⟩:=ex ht;have pt:=bO hr;exact yI qnH hb t pt.wid pt.fit (by have:=lI hr;omega) (Nat.le_trans pt.deep qnv) w A ca LA lc hk (pd hl)
theorem KY:MF F13:=by
 intro w s hs;refine (o9 ⟨s.toArray⟩ (show s.toArray.size<=300 from by simp;omega) w).mono fun e w' ⟨he,hw⟩=>⟨_,he,hw▸qb⟩
def Pm (w:Z3) (l:List Src) (e:Ending) (w':Z3):Prop:=∃b,e=.returned (.bool b)/\Z2 w.heap.size w w'/\(b=Zy->l.length<=30/\∀q∈l,q.text.length<=300)
theorem Dv (l:List Src) (A:Option Addr) (ca:Nat) (w:Z3) (hl:fa w P A l) (hll:l.length<=maxLen):
 Calls ZW 14 #[.slice A l.length ca] w (Pm w l):=by
 unfold maxLen at hll;have HL:=qge;clear hl;by_cases h30:(30:Int)<(l.length:Int)
 ·go_enter func14,ntmps14
  go_wp2_with fail;go_ret;exact ⟨Zz,rfl,qb,fun h=>by cases h⟩
 ·have h3:decide ((30:Int)<(l.length:Int))=Zz:=decide_eq_false h30
  go_enter func14,ntmps14;go_wp2_with fail;go_loopw [3] (fun vi wr=>∃i:Nat,i<=l.length/\vi=ZZ ZY (i:Int)/\Hid (∀q∈l.take i,q.text.length<=300)/\Hid (Z2 w.heap.size w wr)) (fun vi _=>l.length - (RowKit.intOf vi).toNat)
  case atStart=>exact ⟨0,qe,rfl,qf qns,qf qb⟩
  case round=>
   obtain ⟨i,hi,rfl,HO,HB⟩:=hrel;by_cases hlt:i<l.length
   ·obtain ⟨q,hq⟩:∃q,l[i]? =ZV q:=⟨_,List.getElem?_eq_getElem hlt⟩
    obtain ⟨g,o,rfl,_,hgl,_,_,q2⟩:=HL.out.at hq;have c2:=aa HB.out q2;have HNx:=qf (fun (h:q.text.length<=300)=>lG (p:=fun z:Src=>z.text.length<=300) hq HO.out h);have hI:=qdu;have hJ:=qbX;obtain ⟨qc,qr,qt⟩:=q;dsimp only at*;clear hq q2 HO hgl;by_cases h300:(300:Int)<(qt.length:Int)
    ·have h4:decide ((300:Int)<(qt.length:Int))=Zy:=decide_eq_true h300
     clear HNx;go_wp2_with fail;go_ret;exact ⟨Zz,rfl,HB.out,fun h=>by cases h⟩
    ·have h4:decide ((300:Int)<(qt.length:Int))=Zz:=decide_eq_false h300
     have HN2:=qf (HNx.out qoq);clear HNx;go_wp2_with fail;go_roundw
     case rel=>exact ⟨i+1,qoq,qnG,HN2,HB⟩
     case measure=>exact qmy
   ·have hii:i=l.length:=by omega
    subst hii;have hall:=HO.out;rw [List.take_length] at hall;have HA:=qf hall;clear hall HO;go_wp2_with fail;go_ret;exact ⟨Zy,rfl,HB.out,fun _=>⟨qoq,HA.out⟩⟩
section
open Go.Maps
theorem Og (h:cR plB l=0) (hq:q∈l):gW l q.c q.r=q.text:=by
 obtain ⟨_,h2⟩:=fN h;exact qiX
theorem DQ (h:sL l):(bu l 1024).length=l.length:=by
 have h1:=congrArg List.length (uP h.ok h.mem);rw [List.length_map,tX h.kk (uX h.ok),vp] at h1;exact h1.symm
theorem Ey (hs:fx s) (hq:q∈s) (ht:aU q.text=ZU):¬bS (lkC F13 s) q.ix:=fun h=>by
 obtain ⟨x,hx,e,r,hr,_⟩:=yR.1 h;obtain ⟨a,ha,rfl⟩:=List.mem_map.1 hx;have hca:=jO (hs.1 a ha) (hs.1 q hq) e
 have haq:a=q:=Classical.byContradiction fun hne=>by
  obtain ⟨i,hi⟩:=List.mem_iff_getElem?.1 ha;obtain ⟨k,hk⟩:=List.mem_iff_getElem?.1 hq;rcases Nat.lt_trichotomy i k with hik|hik|hik
  ·exact pC hik hi hk hca hs.2
  ·subst hik;rw [hi] at hk;exact hne (Option.some.inj hk)
  ·exact pC hik hk hi ⟨hca.1.symm,hca.2.symm⟩ hs.2
 subst haq
 have:(⟨a.ix,match F13.tree a.text with|some t=>(F13.rds t).map fun p=>aQ p.1 p.2|none=>[]⟩:Lk).rd=[]:=by
  show (match aU a.text with|some t=>_|none=>[])=[]
  rw [ht]
 have hr2:r∈([]:List Int):=(by rw [<-this];exact hr);cases hr2
theorem N4 (h:sL l) (hq:q∈bu l 1024):
 (aU q.text=ZU/\dd l q.ix=(pV q.text,0))\/∃t,aU q.text=ZV t/\(dd l q.ix=ofV (ck (bu l 1024) (dd l)) t\/dd l q.ix=(0,4)):=by
 have h1:dd l q.ix=g9 F13 (bu l 1024) (ck (bu l 1024) (dd l)) q:=by
  have h2:=jz (F:=F13) (f:=dd l) h.okS hq;rw [h.fix] at h2;exact h2
 unfold g9 at h1;cases ht:aU q.text with
 |none=>
  refine .inl ⟨rfl,?_⟩;rw [if_neg (Ey h.okS hq ht)] at h1;rw [h1];exact qjU
 |some t=>
  refine .inr ⟨t,rfl,?_⟩;by_cases hc:bS (lkC F13 (bu l 1024)) q.ix
  ·rw [if_pos hc] at h1;exact .inr h1
  ·rw [if_neg hc] at h1
   left
   rw [h1];exact qjU
theorem zM (s:List UInt8):Fit (trO s)/\br (trO s)<=1000000:=by
 unfold trO;cases h:aU s with
 |none=>exact ⟨.mk qnv (fun t h=>by cases h),qnv⟩
 |some t=>
  obtain ⟨r,_,hr⟩:=ex h;exact ⟨(bO hr).fit,qqC⟩
theorem MP {C:List Cel} (h:pA C):∀x∈C,B64 x.n:=h
theorem O5 (l s:List Src):pA (ck s (dd l)):=J4 fun n=>Bh oP _ _ _
theorem L7 (s:List Src) (f:Int->Int×Int):(ck s f).length=s.length:=List.length_map _
theorem LI {f:Int->Int×Int} {i:Nat} (hq:s[i]? =ZV q):(ck s f)[i]? =ZV ⟨q.c,q.r,(f q.ix).1,(f q.ix).2⟩:=by
 unfold ck;rw [List.getElem?_map,hq];rfl
theorem K6 (l:List Src):ff F13 (bu l 1024) ((bu l 1024).length+1)=dd l:=by unfold dd;rfl
theorem sP (hAl:li) (l:List Src) (A:Option Addr) (ca:Nat) (w:Z3) (hl:fa w P A l) (hll:l.length<=maxLen) (hE:cz w):
 Calls ZW 5 #[.slice A l.length ca] w fun e w'=>e=.returned (.bool Zy)/\Z2 w.heap.size w w':=by
 have HFt:=qf (Dv l A ca w hl hll);have HL:=qf (fun W (hb:Z2 w.heap.size w W)=>hl.below hb);have HEn:=qfi;have HAl:=qf (fun W (hb:Z2 w.heap.size w W)=>hAl W (hE.below hb));clear hl hE hAl hll;go_enter func5,ntmps5;go_wp2_with fail;refine HFt.out.mono ?_;rintro e w1 ⟨b,rfl,hb1,hfit⟩;have HB1:=qf hb1;clear hb1 HFt;cases b with
 |false=>
  clear hfit;go_wp2_with fail;refine (HAl.out _ HB1.out).mono ?_;rintro e w2 ⟨rfl,hb2⟩;go_wp2_with fail;go_ret;exact ⟨rfl,HB1.out.trans (hb2.mono HB1.out.size)⟩
 |true=>
  obtain ⟨hll,htx⟩:=hfit rfl;have HTx:=qf htx;have HV:=qf (nX l A ca w1 (HL.out w1 HB1.out) qoq htx (HEn.out w1 HB1.out));clear hfit htx;go_wp2_with fail;refine HV.out.mono ?_;rintro e w2 ⟨hb2,hcase⟩;have HB2:=qeH;clear hb2 HB1 HV;rcases hcase with ⟨h0,A1,c1,rfl,hr⟩|⟨h0,rfl⟩;rotate_left
  ·have hn2:(((cR plB l:Nat):Int) !=0)=Zy:=by rw [bne_iff_ne];omega
   clear h0;generalize ((cR plB l:Nat):Int)=cc at*;go_wp2_with fail;refine (HAl.out _ HB2.out).mono ?_;rintro e w3 ⟨rfl,hb3⟩;go_wp2_with fail;go_ret;exact ⟨rfl,HB2.out.trans (hb3.mono HB2.out.size)⟩
  ·have hvs:=vC h0
   have hlen:=DQ hvs;have HFnd:=qf (fun q (hq:q∈bu l 1024) W (hb:Z2 w.heap.size w W)=>ED l A ca q.c q.r W (HL.out W hb) qoq);have HF0:=qf (fun q (hq:q∈bu l 1024)=>Og h0 ((hvs.mem q).2 hq));have HVi:=qf (fun q (hq:q∈bu l 1024)=>N4 hvs hq);have HTq:=qf (fun q (hq:q∈bu l 1024)=>HTx.out q ((hvs.mem q).2 hq))
   have HNe:=qf (fun q (hq:q∈bu l 1024)=>(show q.text≠[] from fun e=>by
    have h1:=(fN h0).1 q ((hvs.mem q).2 hq);unfold dh at h1;rw [e,FN,Bool.and_false] at h1;cases h1))
   have HRi:=qf (nB l 1024 qd).1;rw [K6] at hr ⊢;have HRw:=qf hr;have hcb:=MP (O5 l (bu l 1024));have HCb:=qf hcb;have hcl:(ck (bu l 1024) (dd l)).length=l.length:=(by rw [L7,hlen]);rw [hcl];have HGet:=qf (fun i q (hq:(bu l 1024)[i]? =ZV q)=>LI (f:=dd l) hq);clear hvs hr hcb h0 HTx;generalize bu l 1024=SS at*;generalize dd l=f at*;have HLn:=qf hlen;have HCl:=qf hcl;clear hlen hcl;go_wp2_with fail;go_loopw [6] (fun vi wr=>∃i:Nat,i<=l.length/\vi=ZZ ZY (i:Int)/\Hid (Z2 w2.heap.size w2 wr)) (fun vi _=>l.length - (RowKit.intOf vi).toNat)
   case atStart=>exact ⟨0,qe,rfl,qf qb⟩
   case round=>
    obtain ⟨i,hi,rfl,HB⟩:=hrel;by_cases hlt:i<l.length
    ·obtain ⟨q,hq⟩:∃q,SS[i]? =ZV q:=⟨_,List.getElem?_eq_getElem (by have:=HLn.out;omega)⟩
     have hqm:=qhk;have hRr:=HRw.out.below HB.out
     have HRow:=qf (fun k p (hp:SS[k]? =ZV p) W (hb:Z2 wr.heap.size wr W)=>(show ∃g o,A1=ZV ⟨g,o,ZU⟩/\W.cell? ⟨g,o+k*4,ZU⟩=ZV (ZZ ZY p.c)/\W.cell? ⟨g,o+k*4+1,ZU⟩=ZV (ZZ ZY p.r)/\W.cell? ⟨g,o+k*4+2,ZU⟩=ZV (ZZ ZY (f p.ix).1)/\W.cell? ⟨g,o+k*4+3,ZU⟩=ZV (ZZ ZY (f p.ix).2) from by
      obtain ⟨g,o,e,_,_,d0,d1,d2,d3⟩:=(hRr.below hb).at (HGet.out k p hp);exact ⟨g,o,e,d0,d1,d2,d3⟩))
     have HLs:=qf (fun W (hb:Z2 wr.heap.size wr W)=>pd (hRr.below hb));obtain ⟨g,o,hA1,c0,c1',_,_⟩:=HRow.out i q hq wr qb;subst hA1;have HBr:=qf (HB2.out.trans (HB.out.mono HB2.out.size));have HFq:=qf (HFnd.out q hqm wr HBr.out);rw [HF0.out q hqm] at HFq;have HTr:=qf (fun W=>(m8 W q.text (HTq.out q hqm)).mono fun e w' k=>wL k);have HOf:=qf (fun W A ca LA lc hA hc=>yI (l:=ck SS f) (by have:=HCl.out;unfold maxLen;omega) HCb.out (trO q.text) (sn q.text) (zM q.text).1 (zM q.text).2 (Nat.le_trans (vL q.text) qnv) W A ca LA lc hA hc);have HVl:=qf (fun W=>Ct F13 m8 MV KY q.text (HTq.out q hqm) Zz [] ZU 0 W (P:=fun _=>True) (.inl rfl) qns (fun x hx=>by cases hx))
     have hV:((aU q.text).isSome=Zz/\f q.ix=kO F13 [] Zz q.text)\/((aU q.text).isSome=Zy/\(f q.ix=ofV (ck SS f) (trO q.text)\/f q.ix=(0,4))):=by
      rcases HVi.out q hqm with ⟨ht,e⟩|⟨t,ht,e⟩
      ·refine .inl ⟨by rw [ht];rfl,?_⟩
       rw [e];unfold kO;show _=(if Zz=Zy then _ else match aU q.text with|some t=>_|none=>_)
       rw [if_neg qnv,ht];rfl
      ·refine .inr ⟨by rw [ht];rfl,?_⟩
       have e2:trO q.text=t:=(by unfold trO;rw [ht];rfl);rw [e2];exact e
     have hemp:(([]:List UInt8)==q.text)=Zz:=by
      rw [beq_eq_false_iff_ne];exact fun e=>HNe.out q hqm e.symm
     have hemp2:(q.text==([]:List UInt8))=Zz:=by
      rw [beq_eq_false_iff_ne];exact HNe.out q hqm
     rw [HCl.out] at HOf;have HV:=qf hV;have HQ:=qf hq;unfold tv at HTr HOf;have hI:=qdu;have hJ:=qbX;clear hV hRr hqm hq HFnd HF0 HVi HTq HNe HGet;generalize ofV (ck SS f) (trO q.text)=U at*;generalize kO F13 [] Zz q.text=U2 at*;generalize (aU q.text).isSome=is at*;generalize trO q.text=T at*;go_wp2_with fail;refine HFq.out.mono ?_;rintro e w3 ⟨rfl,hb3⟩;go_wp2_with fail;refine (HTr.out _).mono ?_;rintro e w4 ⟨hb4,A2,c2,rfl,hk4⟩;have hb34:=hb3.trans (hb4.mono hb3.size);have hb45:Z2 w4.heap.size w4 (w4.alloc (.cells (Ku.k T A2 c2) 33)):=qa;have HK4:=qf (HOf.out _ A2 c2 _ c1 (hk4.kept (Kept.of_below hb45)) (HLs.out _ (hb34.trans (hb45.mono hb34.size))));have HB5:=qf (hb34.trans (hb45.mono hb34.size));clear hb3 hb4 hb34 hb45 hk4 HFq HTr HOf HLs c0 c1';go_wp2_with fail;refine HK4.out.mono ?_;rintro e w6 ⟨rfl,hb6⟩;obtain ⟨w7,hw7⟩:∃w7,w6.alloc (.cells #[ZZ ZY U.1,ZZ ZY U.2] 61)=w7:=⟨_,rfl⟩
     have hb67:Z2 w6.heap.size w6 w7:=(by rw [<-hw7];exact qa);have HB7:=qf (HB5.out.trans ((hb6.trans (hb67.mono hb6.size)).mono HB5.out.size));have u0:w7.cell? ⟨w6.heap.size,0,ZU⟩=ZV (ZZ ZY U.1):=(by rw [<-hw7];simp [go_sem]);have u1:w7.cell? ⟨w6.heap.size,1,ZU⟩=ZV (ZZ ZY U.2):=(by rw [<-hw7];simp [go_sem]);have HU:=qf (fun W (hb:Z2 w7.heap.size w7 W)=>(show W.cell? ⟨w6.heap.size,0,ZU⟩=ZV (ZZ ZY U.1)/\W.cell? ⟨w6.heap.size,1,ZU⟩=ZV (ZZ ZY U.2) from ⟨aa hb u0,aa hb u1⟩));have HRow7:=qf (fun k p (hp:SS[k]? =ZV p) W (hb:Z2 w7.heap.size w7 W)=>HRow.out k p hp W (HB7.out.trans (hb.mono HB7.out.size)));have HW7:=qf hw7;clear hb6 hb67 u0 u1 hw7 HK4 HB5 HRow;go_upto_region 15 with fail
     rw [HW7.out];clear HW7;go_cut [76] from 34 to 107 (fun v wx=>v=.bool Zz/\Z2 w7.heap.size w7 wx)
     case first=>
      by_cases hi0:i=0
      ·have hgt:decide (0<i)=Zz:=decide_eq_false qoq
       clear hi0;go_quiet (fail)
       go_wp2_with fail;go_meet
       exact ⟨rfl,below_drewN qb _⟩
      ·obtain ⟨k,hk⟩:∃k,i=k+1:=⟨i - 1,qoq⟩
       have hem:(i:Int) - 1=(k:Int):=qoq;obtain ⟨p,hp⟩:∃p,SS[k]? =ZV p:=⟨_,List.getElem?_eq_getElem (by have:=(List.getElem?_eq_some_iff.1 HQ.out).1;omega)⟩
       have hlt3:aQ p.c p.r<aQ q.c q.r:=by
        have h1:(SS.map Src.ix)[k]? =ZV p.ix:=(by rw [List.getElem?_map,hp];rfl);have h2:(SS.map Src.ix)[i]? =ZV q.ix:=(by rw [List.getElem?_map,HQ.out];rfl);obtain ⟨k1,e1⟩:=List.getElem?_eq_some_iff.1 h1;obtain ⟨k2,e2⟩:=List.getElem?_eq_some_iff.1 h2;have:=List.pairwise_iff_getElem.1 HRi.out k i k1 k2 qoq;rw [e1,e2] at this;exact this
       have HC:=qf (fun W (hb:Z2 w7.heap.size w7 W)=>(show W.cell? ⟨g,o+k*4,ZU⟩=ZV (ZZ ZY p.c)/\W.cell? ⟨g,o+k*4+1,ZU⟩=ZV (ZZ ZY p.r)/\W.cell? ⟨g,o+i*4,ZU⟩=ZV (ZZ ZY q.c)/\W.cell? ⟨g,o+i*4+1,ZU⟩=ZV (ZZ ZY q.r) from by
        obtain ⟨g1,o1,e,d0,d1,_,_⟩:=HRow7.out k p hp W hb;obtain ⟨g2,o2,e',d2,d3,_,_⟩:=HRow7.out i q HQ.out W hb;injection e with e
        injection e with e1 e2
        subst e1 e2;injection e' with e'
        injection e' with e3 e4
        subst e3 e4;exact ⟨d0,d1,d2,d3⟩))
       have HIp:=qf (fun W=>pN p.c p.r W);have HIq:=qf (fun W=>pN q.c q.r W);have hge:decide (aQ q.c q.r<=aQ p.c p.r)=Zz:=decide_eq_false qoq;have hgt:decide (0<i)=Zy:=decide_eq_true qoq;have hI1:(k:Int)<(l.length:Int):=qoq;have hJ1:(0:Int)<=(k:Int):=qoq;have w65:wrap64 ((i:Int) - 1)=(k:Int):=(by simp only [wrap64];omega);have w64:IntKind.i64.wrap ((i:Int) - 1)=(k:Int):=qpp;clear hlt3 hp hk hi0 hem;generalize aQ p.c p.r=IP at*;generalize aQ q.c q.r=IQ at*;generalize p.c=pc at*;generalize p.r=pr at*;generalize q.c=qc at*;generalize q.r=qr at*
       go_region_held3 (fun w'=>w'.cell? ⟨g,o+k*4,ZU⟩=ZV (ZZ ZY pc)/\w'.cell? ⟨g,o+k*4+1,ZU⟩=ZV (ZZ ZY pr)/\w'.cell? ⟨g,o+i*4,ZU⟩=ZV (ZZ ZY qc)/\w'.cell? ⟨g,o+i*4+1,ZU⟩=ZV (ZZ ZY qr))
        (first|with_reducible exact k9|with_reducible exact k8|(exact HC.out _ qsN)|fail)
        (first
        |(go_at_call 26;refine (HIp.out _).mono ?_;rintro e w8 ⟨rfl,hb8⟩
          have HB8:=qf (show Z2 w7.heap.size w7 w8 from (Below.drew (Below.refl w7.heap.size w7)).trans hb8);have k8:=HC.out w8 HB8.out;clear hb8 HIp)
        |(go_at_call 26;refine (HIq.out _).mono ?_;rintro e w9 ⟨rfl,hb9⟩
          have HB9:=qf (HB8.out.trans (hb9.mono HB8.out.size));have k9:=HC.out w9 HB9.out;clear hb9)
        |fail)
       all_goals
        go_wp2_with fail;go_meet
        exact ⟨rfl,HB9.out⟩
     case rest=>
      obtain ⟨rfl,hbc⟩:=hcut;have HBc:=qf hbc;clear hbc hemp hemp2;obtain ⟨g2,o2,e2,_,_,c2',c3'⟩:=HRow7.out i q HQ.out wc HBc.out;injection e2 with e2
      injection e2 with e3 e4
      subst e3 e4;obtain ⟨u0,u1⟩:=HU.out wc HBc.out;have HEnd:=qf (fun W (hb:Z2 wc.heap.size wc W)=>qf (HB.out.trans ((HB7.out.trans ((HBc.out.trans (hb.mono HBc.out.size)).mono HB7.out.size)).mono HB.out.size)));clear HRow7 HU HQ HB7 HB HBr HRi;rcases HV.out with ⟨his,hv⟩|⟨his,hv|hv⟩
      ·subst his
       rw [hv] at c2' c3';have HC:=qf (fun W (hb:Z2 wc.heap.size wc W)=>(show W.cell? ⟨g,o+i*4+2,ZU⟩=ZV (ZZ ZY U2.1)/\W.cell? ⟨g,o+i*4+3,ZU⟩=ZV (ZZ ZY U2.2) from ⟨aa hb c2',aa hb c3'⟩));have hG:=fun X Y W=>i8 .neq X Y #[ZZ ZY U2.1,ZZ ZY U2.2] #[ZZ ZY U2.1,ZZ ZY U2.2] W
       have hE:=fun W=>nj U2.1 U2.2 W
       clear hv HV c2' c3' u0 u1 HBc;go_wp2_with fail;go_quiet (fail)
       go_wp2_with fail
       go_region_held3 (fun w'=>w'.cell? ⟨g,o+i*4+2,ZU⟩=ZV (ZZ ZY U2.1)/\w'.cell? ⟨g,o+i*4+3,ZU⟩=ZV (ZZ ZY U2.2))
        (first|with_reducible exact k8|(exact HC.out _ qsQ)|fail)
        (first
        |(go_at_call 27;refine (HVl.out _).mono ?_;rintro e w8 ⟨rfl,hb8⟩
          have HB8:=qf (show Z2 wc.heap.size wc w8 from Below.trans qsQ hb8);have k8:=HC.out w8 HB8.out;clear hb8)
        |fail)
       all_goals
        go_wp2_with fail;go_roundw
        case rel=>exact ⟨i+1,qoq,qnG,HEnd.out _ HB8.out⟩
        case measure=>exact qmy
      ·subst his
       rw [hv] at c2' c3';have hG:=fun X Y W=>i8 .neq X Y #[ZZ ZY U.1,ZZ ZY U.2] #[ZZ ZY U.1,ZZ ZY U.2] W
       have hE:=fun W=>nj U.1 U.2 W
       clear hv HV HBc;exact qiP
      ·subst his
       rw [hv] at c2' c3';have hG:=fun X Y W=>i8 .neq X Y #[ZZ ZY 0,ZZ ZY 4] #[ZZ ZY U.1,ZZ ZY U.2] W
       have hG2:=fun X Y W=>i8 .neq X Y #[ZZ ZY 0,ZZ ZY 4] #[ZZ ZY 0,ZZ ZY 4] W
       have hE2:=fun W=>nj 0 4 W
       cases hbb:(!((0:Int)==U.1&&(4:Int)==U.2)) with
       |true=>
        exact qle
       |false=>
        exact qle
    ·have hii:i=l.length:=by omega
     subst hii;have HBr:=qf (HB2.out.trans (HB.out.mono HB2.out.size));clear HB;go_wp2_with fail;refine (HAl.out _ HBr.out).mono ?_;rintro e w3 ⟨rfl,hb3⟩;go_wp2_with fail;go_ret;exact ⟨rfl,HBr.out.trans (hb3.mono HBr.out.size)⟩
end
