import Derived.Test.YteglaomdgdkibaaGreatDoorJNS22
import Derived.Test.YteglaomdgdkibaaGreatDoorJNS23
import Derived.Test.YteglaomdgdkibaaGreatDoorJNS30
import Derived.Test.YteglaomdgdkibaaGreatDoorJQNSP
import Derived.Test.YteglaomdgdkibaaGreatDoorJQNSW
set_option linter.all false
set_option maxHeartbeats 0
set_option maxRecDepth 99999
namespace Go.Proofs.YteglaomdgdkibaaGreatDoor
open Go.RowKit
open Value renaming int→ZZ,string→Zx,slice→Zw,pointer→Zv
open IntKind renaming i64→ZY
open Ending renaming returned→ZX
open RowKit renaming Below→Z2
open Go renaming World→Z3
open Tryz
open Tryz renaming prog→ZW
open Option renaming some→ZV,none→ZU
open Bool renaming false→Zz,true→Zy
variable {w w':World}{S b1 b2 base n:Nat}{l:List Src}{a c r:Int}{q:Src}{ft:Int->Option (List UInt8)}{fr:Int->Option (Tr×Sa)}{P:Nat->Prop}{t:Tr}
section
open Go.Maps
def ShP (w:Z3) (base S:Nat) (l:List Src):Prop:=∃b1 b2 n ft fr,ShS w base S b1 b2 n ft fr/\ShT l ft fr
theorem ShP.below (h:ShP w base S l) (hb:Z2 w.heap.size w w'):ShP w' base S l:=by
 obtain ⟨b1,b2,n,ft,fr,h1,h2⟩:=h;exact ⟨b1,b2,n,ft,fr,h1.below hb,h2⟩
def RdQ (w:Z3) (l:List Src) (e:Ending) (w':Z3):Prop:=Z2 w.heap.size w w'/\((cR plB l=0/\∃S,e=ZX (.tuple #[Zv (ZV ⟨S,0,ZU⟩),ZZ ZY 0])/\ShP w' w.heap.size S l)\/(cR plB l≠0/\e=ZX (.tuple #[Zv ZU,ZZ ZY (cR plB l:Nat)])))
theorem RdQ.bad (h:cR plB l=n) (hn:n≠0) (hc:c=(n:Int)) (hb:Z2 w.heap.size w w'):RdQ w l (ZX (.tuple #[Zv ZU,ZZ ZY c])) w':=⟨hb,.inr ⟨qoq,(by rw [h,hc])⟩⟩
theorem jS (h:dh plB q=Zy):rightB q.c q.r=Zy:=by
 unfold dh at h;rw [Bool.and_eq_true] at h;exact h.1
theorem M7 (h:ShS w base S b1 b2 n ft fr) (ht:ShT l ft fr) (hr:∀a∈l,rightB a.c a.r=Zy) (ty:TypeId):
 ∃k:Nat,(Builtin.len_ #[100] ty #[.map (ZV b1)]).run ZW w=.ok (ZZ ZY (k:Int)) w/\(dW l->k=l.length)/\(¬dW l->k<l.length):=by
 by_cases hd:dW l
 ·refine ⟨l.length,?_,fun _=>rfl,fun h=>absurd hd h⟩
  have:=h.m1.len lH (Fm hr hd) (fun x=>by rw [ht.dom x,List.mem_map]) ty;rw [List.length_map] at this;exact this
 ·obtain ⟨L,l1,l2,l3⟩:=NP hr hd
  exact ⟨L.length,h.m1.len lH l1 (fun x=>by rw [ht.dom x,l2]) ty,fun h=>absurd h hd,fun _=>l3⟩
theorem FP (l:List Src) (A:Option Addr) (ca:Nat) (w:Z3) (hl:fa w P A l) (hll:l.length<=60) (htx:∀q∈l,q.text.length<=300) (hE:cz w):
 Calls ZW 46 #[Zw A l.length ca] w (RdQ w l):=by
 have hmm:=qfj;have HL:=qge;have HT:=qf htx;have HEn:=qfi;clear hl htx hE;obtain ⟨W3,hW3⟩:∃W3,((w.alloc (.map #[] 0)).alloc (.map #[] 0)).alloc (.cells #[.map (ZV w.heap.size),.map (ZV (w.heap.size+1))] 103)=W3:=⟨_,rfl⟩
 have hz3:W3.heap.size=w.heap.size+3:=(by rw [<-hW3];simp);have hb3:Z2 w.heap.size w W3:=qqz
 have hm1:bG stE W3 w.heap.size 0 (fun _=>ZU):=by
  rw [<-hW3];exact (bG.made stE w).below (qa.alloc qns _)
 have hm2:bG trE W3 (w.heap.size+1) 0 (fun _=>ZU):=by
  have h:=bG.made trE (w.alloc (.map #[] 0));rw [show (w.alloc (.map #[] 0)).heap.size=w.heap.size+1 from by simp] at h;rw [<-hW3];exact h.below qa
 have hS3:ShS W3 w.heap.size (w.heap.size+1+1) w.heap.size (w.heap.size+1) 0 (fun _=>ZU) (fun _=>ZU):={
  c0:=qpr
  c1:=qpr
  m1:=hm1
  m2:=hm2
  kv:=fun x t s h=>by cases h
  bs:=qoq
  ne:=by omega }
 have HS3:=qf hS3;have HB3:=qf hb3;clear hm1 hm2 hS3 hb3;go_enter func46,ntmps46;go_wp2_with fail;generalize hg:w.heap.size+1+1=S at*;generalize hb2:w.heap.size+1=b2 at*;obtain ⟨b1,hb1⟩:∃b1,b1=w.heap.size:=⟨_,rfl⟩
 rw [<-hb1] at HS3;clear hmm;go_loopw [13] (fun vi wr=>∃(i:Nat) (ft:Int->Option (List UInt8)) (fr:Int->Option (Tr×Sa)),i<=l.length/\vi=ZZ ZY (i:Int)/\Hid (ShS wr b1 S b1 b2 (2*i) ft fr)/\Hid (ShT (l.take i) ft fr)/\Hid (∀q∈l.take i,dh plB q=Zy)/\Hid (Z2 w.heap.size w wr)) (fun vi _=>l.length - (RowKit.intOf vi).toNat)
 case atStart=>exact ⟨0,_,_,qe,rfl,HS3,qf (by rw [List.take_zero];exact ShT.nil),qf (fun q hq=>by simp at hq),HB3⟩
 case round=>
  obtain ⟨i,ft,fr,hi,rfl,HS,HST,HO,HB⟩:=hrel;clear HS3 HB3;by_cases hlt:i<l.length
  ·obtain ⟨q,hq⟩:∃q,l[i]? =ZV q:=⟨_,List.getElem?_eq_getElem hlt⟩
   obtain ⟨ga,oa,rfl,_,hla,q0,q1,q2⟩:=HL.out.at hq;have hqm:=qhk;obtain ⟨c0,c1⟩:=qeX;have c2:=aa HB.out q2;have htk:l.take (i+1)=l.take i++[q]:=(by rw [List.take_add_one,hq];rfl);have HTk:=qf htk;have HNx:=qf (fun h=>lG (p:=fun z:Src=>dh plB z=Zy) hq HO.out h);have HBd:=qf (fun h=>KA (plB:=plB) hqm h);have hbv:Z2 wr.heap.size wr (wr.alloc (.cells #[ZZ ZY q.c,ZZ ZY q.r,Zx ⟨q.text.toArray⟩] 85)):=qa;have HBv:=qf (HB.out.trans (hbv.mono HB.out.size));have HTa:=qf (JN q _ (HS.out.below hbv) qnH (fun W hb=>HEn.out W (HBv.out.trans (by rw [<-hb1];exact hb))));have hI:=qdu;have hJ:=qbX;have HRt:=qf (fun a (ha:a∈l.take i)=>jS (HO.out a ha));unfold srV at HTa;clear hq hqm q0 q1 q2 hbv HS HB htk HO;go_wp2_with fail;refine HTa.out.mono ?_;rintro e w2 ⟨hbt,rfl,hsh⟩;have HB2:=qf (HBv.out.trans (hbt.below (n:=w.heap.size) (fun k hk=>by omega) HBv.out.size));have HSh:=qf hsh;clear hbt hsh HTa HBv c0 c1 c2;cases hok:dh plB q with
   |false=>
    have HM:=qf (HBd.out hok);rw [hok] at*;clear HNx HBd HSh HTk HRt;go_wp2_with fail;go_ret2;exact RdQ.bad HM.out qnv rfl HB2.out
   |true=>
    have HN2:=qf (HNx.out hok);have hrq:=jS hok;obtain ⟨fr',hs',ht1,ht2⟩:=HSh.out hok;have HS2:=qf hs';have HT2:Hid (ShT (l.take (i+1)) (bJ ft q.ix q.text) fr'):=qf (by rw [HTk.out];exact HST.out.next HRt.out hrq ht1 ht2);clear HNx HBd HSh HTk HRt hs' ht1 ht2 HST hrq;go_wp2_with fail;go_roundw
    case rel=>exact ⟨i+1,_,_,qoq,qnG,qf (by rw [show 2*(i+1)=2*i+2 from by omega];exact HS2.out),HT2,HN2,HB2⟩
    case measure=>exact qmy
  ·have hii:i=l.length:=by omega
   subst hii;have hall:=HO.out;have hst:=HST.out;rw [List.take_length] at hall hst;have hrt:∀a∈l,rightB a.c a.r=Zy:=fun a ha=>jS (hall a ha)
   obtain ⟨k,hM,hk1,hk2⟩:=M7 HS.out hst hrt 3;rw [hb1] at hM;have hc:=HS.out.c0;by_cases hd:dW l
   ·have HF:Hid (RdQ w l (ZX (.tuple #[Zv (ZV ⟨S,0,ZU⟩),ZZ ZY 0])) wr):=qf ⟨HB.out,.inl ⟨Ew hall hd,S,rfl,b1,b2,_,ft,fr,(by rw [<-hb1];exact HS.out),hst⟩⟩
    have hlt2:decide (k<l.length)=Zz:=decide_eq_false (by have:=hk1 hd;omega);clear hk1 hk2 hd HO HST HS HB hall hst hrt;exact qlh
   ·have HM:=qf (FQ (plB:=plB) hall hd)
    have hlt2:decide (k<l.length)=Zy:=decide_eq_true (by have:=hk2 hd;omega);clear hk1 hk2 hd HO HST HS hall hst hrt;go_wp2_with fail;go_ret2;exact RdQ.bad HM.out qnv rfl HB.out
end
def usV (x y:Int) (t:Tr):Bool:=bz t&&usT x y t
theorem OL (hf:Fit t) (x y:Int):sG x y (rgs t) (rgs t).length=usV x y t:=by
 unfold sG usV;rw [List.take_length];unfold rgs pts;cases hr:bz t with
 |false=>rw [if_neg qnv];rfl
 |true=>
  rw [if_pos rfl,Oz x y hf ((ey t).1 hr).2.2,List.any_filter,Bool.true_and];rfl
theorem OX (hf:Fit t):rdM t 1024=rdL t:=by
 unfold rdM rdL;rw [f9];have hk:∀j:Nat,mkF t (rgs t).length j=usV (atC (j:Int)) (atR (j:Int)) t:=fun j=>OL hf _ _
 cases hr:bz t with
 |true=>
  rw [if_pos rfl];unfold nD;congr 2
  funext j
  rw [hk j];unfold usV;rw [hr,Bool.true_and]
 |false=>
  rw [if_neg qnv]
  have:((List.range 1024).filter fun (j:Nat)=>mkF t (rgs t).length j)=[]:=by
   rw [List.filter_eq_nil_iff];intro j _;rw [hk j];unfold usV;rw [hr];simp
  rw [this];rfl
def plW (p:Int×Int):List Value:=[ZZ ZY p.1,ZZ ZY p.2]
theorem Mp {v:Value} {L:List (Int×Int)} (h:w.ownsRow base 28 2 v L.length (bj L)):∃RA cr,v=Zw RA L.length cr/\∀(k:Nat) (p:Int×Int),L[k]? =ZV p->∃g,RA=ZV ⟨g,0,ZU⟩/\base<=g/\w.cell? ⟨g,k*2,ZU⟩=ZV (ZZ ZY p.1)/\w.cell? ⟨g,k*2+1,ZU⟩=ZV (ZZ ZY p.2):=by
 have ho:av 28 2 plW base w v L:=h;obtain ⟨A,cap,rfl,hc,_⟩:=av.shape (f:=plW) (fun _=>rfl) ho;refine ⟨A,cap,rfl,fun k p hk=>?_⟩;have hpos:0<L.length:=(by have:=(List.getElem?_eq_some_iff.1 hk).1;omega);obtain ⟨g,cap',hv,hb,hg⟩:=World.ownsRow.form h hpos;have ha:=av.at (f:=plW) (fun _=>rfl) (hv▸ho) rfl;simp at hv
 have h0:=ha k p hk 0 _ rfl;have h1:=ha k p hk 1 _ rfl;simp only [Nat.zero_add] at h0 h1;exact ⟨g,hv.1,hb,h0,h1⟩
theorem pd {A:Option Addr} {l:List Cel} (h:eH w P A l):fe w A l:=fun hne=>by
 rcases h with h|⟨g,o,e,_,_,ha⟩
 ·exact absurd h hne
 ·exact ⟨g,o,e,ha⟩
section
open Go.Maps
def rdC (q:Src):List Int:=match aU q.text with
 |some t=>(rdL t).map fun p=>aQ p.1 p.2
 |none=>[]
theorem yQ:Wid aO/\Fit aO:=⟨.mk qe (fun t h=>by cases h),.mk qnv (fun t h=>by cases h)⟩
theorem Ls:rdL aO=[]:=by
 have hr:bz aO=Zy:=qnx;refine List.eq_nil_iff_forall_not_mem.2 fun p hp=>?_
 have:=(sj hr (c:=p.1) (r:=p.2)).1 hp;unfold aO at this;rw [usT,if_neg qnv,usL] at this;cases this
structure ShR (w:Z3) (q:Src) (x:Tr×Sa) (is:Bool):Prop where
 len:x.2.len=x.1.kZ.length
 kv:KV w (fun _=>True) x.1 x.2.addr
 wid:Wid x.1
 fit:Fit x.1
 cnt:br x.1<=1000000
 rd:(rdL x.1).map (fun p=>aQ p.1 p.2)=rdC q
 is:aU q.text=if is=Zy then ZV x.1 else ZU
theorem za (h:ShS w base S b1 b2 n ft fr) (ht:ShT l ft fr) (hd:dW l) (hq:q∈l):
 ShR w q ((fr q.ix).getD (aO,lx)) (fr q.ix).isSome:=by
 obtain ⟨_,h1,h2⟩:=ht.at_ hd q hq;cases hT:aU q.text with
 |none=>
  rw [h1 hT];exact ⟨rfl,KV.mk (.inl rfl),yQ.1,yQ.2,qnv,(by unfold rdC;rw [hT];show List.map _ (rdL aO)=[];rw [Ls];rfl),hT⟩
 |some t=>
  obtain ⟨s,hs⟩:=h2 t hT;obtain ⟨k1,k2⟩:=h.kv _ _ _ hs;obtain ⟨r,_,hr⟩:=ex hT;have pt:=bO hr;rw [hs];exact ⟨k1,KV.imp (fun _ _=>trivial) k2,pt.wid,pt.fit,qqC,(by unfold rdC;rw [hT];rfl),hT⟩
theorem Ge:(prog.info? 3).map (fun i=>(i.zero,i.size,i.bytes))=ZV (ZV (ZZ ZY 0),1,8):=by kernel_rfl
theorem oh (l:List Src) (q:Src) (hq:q∈l) (hd:dW l) (hkb:KB q.ix) (w:Z3) (base S:Nat) (h:ShP w base S l) (hE:cz w):
 Calls ZW 94 #[Zv (ZV ⟨S,0,ZU⟩),ZZ ZY q.ix] w fun e w'=>Ak w (rdC q) e w':=by
 obtain ⟨i0,hi0,hz0,hz1,hz2⟩:=info_parts Ge;obtain ⟨b1,b2,n,ft,fr,hs,ht⟩:=h;have hR:=za hs ht hd hq;have hlk:=hs.lookR hkb;have hc1:=hs.c1;generalize hx:(fr q.ix).getD (aO,lx)=x at*;generalize (fr q.ix).isSome=is at*;obtain ⟨T,sl⟩:=x;have hval:trE.val (T,sl)=tv T sl.addr sl.cap:=J5 hR.len;rw [hval] at hlk;have HRd:=qf (BU hR.wid hR.cnt w sl.addr sl.cap hR.kv (Nat.le_refl w.heap.size) hE.p.s);rw [OX hR.fit] at HRd;have HM:=qf hR.rd;have hln:=nH T;unfold tv at HRd hlk;dsimp only at HM;generalize rdC q=RC at*;generalize rdL T=RL at*;clear hval hR hs ht hd hq hE hx;go_enter func94,ntmps94;go_wp2_with fail;refine HRd.out.mono ?_;rintro e w1 ⟨v,rfl,ho,hb1⟩;obtain ⟨RA,cr,rfl,hc⟩:=Mp ho;have HC:=qgx;have HB1:=qf hb1;clear ho hc hb1 HRd hlk hc1;go_wp2_with fail;go_loopw [5,16] (fun v5 vi wr=>∃i:Nat,i<=RL.length/\vi=ZZ ZY (i:Int)/\Hid (av 3 1 inW w1.heap.size wr v5 ((RL.take i).map fun p=>aQ p.1 p.2))/\Hid (Z2 w1.heap.size w1 wr)) (fun _ vi _=>RL.length - (RowKit.intOf vi).toNat)
 case atStart=>exact qna
 case round=>
  obtain ⟨i,hi,rfl,HO,HB⟩:=hrel;by_cases hlt:i<RL.length
  ·obtain ⟨p,hp⟩:∃p,RL[i]? =ZV p:=⟨_,List.getElem?_eq_getElem hlt⟩
   obtain ⟨g,rfl,_,q0,q1⟩:=HC.out i p hp;obtain ⟨c0,c1⟩:=qeX;have hE2:((RL.take (i+1)).map fun p=>aQ p.1 p.2)=((RL.take i).map fun p=>aQ p.1 p.2)++[aQ p.1 p.2]:=(by rw [List.take_add_one,hp,List.map_append];rfl);have HE:=qf hE2.symm;have HLn:Hid (((RL.take i).map fun p=>aQ p.1 p.2).length=i):=qf (by rw [List.length_map,List.length_take];omega);have HI:=qf (fun W=>fW p.1 p.2 W);have hI:(i:Int)<(RL.length:Int):=qoq;have hJ:=qbX;have hs1:=HB.out.size;obtain ⟨pc,pr⟩:=p;dsimp only at*;clear hp q0 q1 hE2;generalize aQ pc pr=IX at*;obtain ⟨Z1,hZ1⟩:∃Z1,((RL.take (i+1)).map fun p=>aQ p.1 p.2)=Z1:=⟨_,rfl⟩
   rw [hZ1] at HE;have HZ1:=qf hZ1;clear hZ1;generalize ((RL.take i).map fun p=>aQ p.1 p.2)=Z0 at*;go_wp2_with fail;refine .mono qse ?_;rintro e w2 ⟨rfl,hb2⟩;have hb3:=qif;obtain ⟨HO2,HB2,hs2⟩:=qib;clear hb2 hb3 HO HB c0 c1 HI;go_wp2_with (at_builtin;refine eh ?_)
   refine ek ?_;have b0:Z2 w2.heap.size w2 (w2.alloc (.cells (inW IX).toArray 3)):=qa;refine cP (f:=inW) (n:=1) (E:=3) (nb:=8) (X:=Z0) (base:=w1.heap.size) rfl _ _ rfl rfl (av.below HO2.out b0) (L2:=[IX]) rfl (kX w2 IX) qns (N:=i+1) (by rw [HLn.out];rfl) (Z:=Z1) HE.out underlying49 hi0 hz0 hz1 hz2 rfl qnv qnv (fun _=>rfl) jx qoq qnu ?_;intro g4 k4 w4 ho4 hg4 hat4 hl4;have HO4:=qf ho4;have HB4:Hid (Z2 w1.heap.size w1 w4):=qf ((HB2.out.trans (b0.mono hs2)).grown hg4 (by have:=b0.size;omega) (fun k hk=>(World.ownsRow.lt HO2.out k hk).1));exact qjR
  ·have hii:i=RL.length:=by omega
   subst hii;have ho:=HO.out;rw [List.take_length,HM.out] at ho;have HF:Hid (∀v,av 3 1 inW w1.heap.size wr v RC->Ak w RC (ZX v) wr):=qf fun v hv=>⟨v,rfl,av.lowerG hv HB1.out.size,HB1.out.trans (HB.out.mono HB1.out.size)⟩
   have HO0:=qf ho;exact qmf
end
section
theorem wh {L M:List Lk} (h:∀x,x∈L->x∈M) {on:List Int} {n:Int} (k:Hng L on n):Hng M on n:=by
 induction k with
 |now x hx r hr ho=>exact .now x (h x hx) r hr ho
 |more x hx r hr _ ih=>exact .more x (h x hx) r hr ih
section
variable {F:TxF} {l s:List Src} {f:Int->Int×Int} {g:Int->Option (Int×Int)}
theorem D7 (h:∀q,q∈l↔q∈s) (x:Lk):x∈lkC F l↔x∈lkC F s:=by
 unfold lkC;simp only [List.mem_map,h]
theorem uS (h:∀q,q∈l↔q∈s) {n:Int}:bS (lkC F l) n↔bS (lkC F s) n:=
 ⟨wh fun x=>(D7 h x).1,wh fun x=>(D7 h x).2⟩
theorem Pd (h:∀q,q∈l↔q∈s) {n:Int}:isN (lkC F l) n↔isN (lkC F s) n:=by
 rw [fL,fL];constructor
 ·rintro ⟨q,hq,e⟩;exact ⟨q,(h q).1 hq,e⟩
 ·rintro ⟨q,hq,e⟩;exact ⟨q,(h q).2 hq,e⟩
def vAt (x y:Int) (v:Int×Int):Int×Int:=bX ⟨x,y,v.1,v.2⟩
theorem vT (x y:Int):∀s:List Src,((∃q∈s,q.c=x/\q.r=y)->cAt x y (ck s f)=ZV (vAt x y (f (aQ x y))))/\((¬∃q∈s,q.c=x/\q.r=y)->cAt x y (ck s f)=ZU)
 |[]=>⟨fun ⟨q,hq,_⟩=>(by cases hq),fun _=>rfl⟩
 |a::l=>by
  obtain ⟨h1,h2⟩:=vT x y l;have e0:cAt x y (ck (a::l) f)=if a.c=x/\a.r=y then ZV (bX ⟨a.c,a.r,(f a.ix).1,(f a.ix).2⟩) else cAt x y (ck l f):=rfl
  by_cases e:a.c=x/\a.r=y
  ·rw [e0,if_pos e]
   refine ⟨fun _=>?_,fun h=>absurd ⟨a,List.mem_cons_self,e⟩ h⟩;obtain ⟨rfl,rfl⟩:=e;rfl
  ·rw [e0,if_neg e]
   refine ⟨fun ⟨q,hq,k⟩=>h1 ?_,fun h=>h2 fun ⟨q,hq,k⟩=>h ⟨q,List.mem_cons_of_mem _ hq,k⟩⟩;rcases List.mem_cons.1 hq with rfl|hq
   ·exact absurd k e
   ·exact ⟨q,hq,k⟩
def bT (R:List Int) (g:Int->Option (Int×Int)):List Cel:=R.filterMap fun r=>(g r).map fun v=>⟨atC r,atR r,v.1,v.2⟩
theorem Ho (R:List Int) (r:Int) (g:Int->Option (Int×Int)):bT (R++[r]) g=bT R g++(match g r with|some v=>[⟨atC r,atR r,v.1,v.2⟩]|none=>[]):=by
 unfold bT;rw [List.filterMap_append];congr 1
 cases e:g r<;>simp [e]
theorem nA {x y:Int} (h:rightB x y=Zy):atC (aQ x y)=x/\atR (aQ x y)=y:=by
 have:=ev h;unfold aQ atC atR;rw [if_pos h,if_pos qoq,if_pos qoq];omega
theorem nw (h:okN r):rightB (atC r) (atR r)=Zy/\aQ (atC r) (atR r)=r:=by
 unfold okN at h
 have hb:rightB (atC r) (atR r)=Zy:=by
  unfold rightB atC atR;rw [if_pos qoq,if_pos qoq];exact decide_eq_true qoq
 refine ⟨hb,?_⟩;unfold aQ;rw [if_pos hb];unfold atC atR;rw [if_pos qoq,if_pos qoq];omega
theorem vu {x y:Int} (hxy:rightB x y=Zy):∀R:List Int,(∀r∈R,okN r)->cAt x y (bT R g)=if aQ x y∈R then (g (aQ x y)).map (vAt x y) else ZU
 |[],_=>rfl
 |r::R,hR=>by
  have ih:=vu hxy R fun z hz=>hR z (List.mem_cons_of_mem _ hz)
  have hr:=nw (hR r List.mem_cons_self);cases e:g r with
  |none=>
   have e0:bT (r::R) g=bT R g:=by
    unfold bT;rw [List.filterMap_cons];simp [e]
   rw [e0,ih];by_cases h:aQ x y∈R
   ·rw [if_pos h,if_pos (List.mem_cons_of_mem _ h)]
   ·rw [if_neg h]
    by_cases h2:aQ x y=r
    ·rw [if_pos (h2▸List.mem_cons_self),h2,e];rfl
    ·rw [if_neg fun h3=>(List.mem_cons.1 h3).elim h2 h]
  |some v=>
   have e0:bT (r::R) g=⟨atC r,atR r,v.1,v.2⟩::bT R g:=by
    unfold bT;rw [List.filterMap_cons];simp [e]
   rw [e0,cAt];by_cases h:atC r=x/\atR r=y
   ·have h2:aQ x y=r:=by rw [<-h.1,<-h.2];exact hr.2
    rw [if_pos h,if_pos (h2▸List.mem_cons_self),h2,e];obtain ⟨rfl,rfl⟩:=h;rfl
   ·have h2:aQ x y≠r:=fun k=>h (by rw [<-k];exact nA hxy)
    rw [if_neg h,ih];by_cases h3:aQ x y∈R
    ·rw [if_pos h3,if_pos (List.mem_cons_of_mem _ h3)]
    ·rw [if_neg h3,if_neg fun h4=>(List.mem_cons.1 h4).elim h2 h3]
def jj (F:TxF) (tx:List UInt8) (g:Int->Option (Int×Int)):Int×Int:=match F.tree tx with
 |some t=>F.val (bT ((F.rds t).map fun p=>aQ p.1 p.2) g) t
 |none=>(F.num tx,0)
theorem Hj (hF:mY F) (hB:TxB F) (hS:fx s) (hl:fx l) (hm:∀q,q∈l↔q∈s) (hf:bH F s f=f) (hg:∀n v,g n=ZV v->v=f n/\isN (lkC F l) n) (hq:q∈l) (hc:¬bS (lkC F l) q.ix)
 (hr:∀x∈lkC F l,x.at_=q.ix->∀r∈x.rd,isN (lkC F l) r->(g r).isSome=Zy):jj F q.text g=f q.ix:=by
 have hqs:=(hm q).1 hq;rw [<-hf,jz hS hqs];unfold g9 jj;rw [if_neg fun h=>hc ((uS hm).2 h)];cases ht:F.tree q.text with
 |none=>rfl
 |some t=>
  refine hF.same t _ _ fun p hp=>?_
  have hpr:=hB.rd _ t ht p hp;have hmem:aQ p.1 p.2∈(F.rds t).map fun p=>aQ p.1 p.2:=List.mem_map.2 ⟨p,hp,rfl⟩
  rw [vu hpr _ (fun r h=>by obtain ⟨z,hz,rfl⟩:=List.mem_map.1 h;exact mN (hB.rd _ t ht z hz)),if_pos hmem];obtain ⟨h1,h2⟩:=vT (f:=f) p.1 p.2 s;by_cases hn:∃z∈s,z.c=p.1/\z.r=p.2
  ·rw [h1 hn]
   obtain ⟨z,hz,e1,e2⟩:=hn;have hnode:isN (lkC F l) (aQ p.1 p.2):=fL.2 ⟨z,(hm z).2 hz,(by unfold Src.ix;rw [e1,e2])⟩;have hs:=hr ⟨q.ix,(F.rds t).map fun p=>aQ p.1 p.2⟩ (List.mem_map.2 ⟨q,hq,(by rw [ht])⟩) rfl _ hmem hnode;obtain ⟨v,hv⟩:=Option.isSome_iff_exists.1 hs;rw [hv,(hg _ _ hv).1];rfl
  ·rw [h2 hn]
   cases hv:g (aQ p.1 p.2) with
   |none=>rfl
   |some v=>
    obtain ⟨z,hz,e⟩:=fL.1 (hg _ _ hv).2;have:=jO (hl.1 z hz) hpr e;exact absurd ⟨z,(hm z).1 hz,this⟩ hn
end
theorem nB (l:List Src):∀k,k<=1024->((bu l k).map Src.ix).Pairwise (·<·)/\∀q∈bu l k,q.ix<(k:Int)
 |0,_=>⟨List.Pairwise.nil,fun q h=>qoO⟩
 |k+1,hk=>by
  obtain ⟨h1,h2⟩:=nB l k qoq;have hx:∀t:List UInt8,(⟨atC (k:Int),atR (k:Int),t⟩:Src).ix=(k:Int):=fun t=>(nw (r:=(k:Int)) (by unfold okN;omega)).2
  rw [bu];split
  ·rw [List.append_nil]
   exact ⟨h1,fun q hq=>by have:=h2 q hq;omega⟩
  ·rw [List.map_append]
   refine ⟨List.pairwise_append.2 ⟨h1,List.pairwise_singleton _ _,fun a ha b hb=>?_⟩,fun q hq=>?_⟩
   ·obtain ⟨q,hq,rfl⟩:=List.mem_map.1 ha
    obtain rfl:=List.mem_singleton.1 hb;rw [hx];exact h2 q hq
   ·rcases List.mem_append.1 hq with hq|hq
    ·have:=h2 q hq;omega
    ·obtain rfl:=List.mem_singleton.1 hq
     rw [hx];omega
end
section
open Go.Maps
theorem vG:prog.underlying 113=ZV (.map 3 61):=by kernel_rfl
def Mz (w:Z3) (L:List Cel) (e:Ending) (w':Z3):Prop:=∃v,e=ZX v/\av 63 4 clW w.heap.size w' v L/\Z2 w.heap.size w w'
theorem FX {R:List Int} {g:Int->Option (Int×Int)} {i:Nat} (h:R[i]? =ZV r):bT (R.take (i+1)) g=bT (R.take i) g++(match g r with|some v=>[⟨atC r,atR r,v.1,v.2⟩]|none=>[]):=by
 rw [List.take_add_one,h];exact Ho _ _ _
theorem xa (R:List Int) (g:Int->Option (Int×Int)):(bT R g).length<=R.length:=List.length_filterMap_le _ _
theorem oe (g:Int->Option (Int×Int)) (b n:Nat) (R:List Int) (A:Option Addr) (ca:Nat) (w:Z3) (hM:bG vlE w b n g) (hR:bc w P A R) (hln:R.length<=100000) (hkb:∀r∈R,KB r):
 Calls ZW 59 #[.map (ZV b),Zw A R.length ca] w fun e w'=>Mz w (bT R g) e w':=by
 obtain ⟨i0,hi0,hz0,hz1,hz2⟩:=info_parts KT;have HM:=qf hM;have HR:=qf hR;have HKb:=qf hkb;clear hM hR hkb;go_enter func59,ntmps59;go_wp2_with fail;go_loopw [5,14] (fun v5 vi wr=>∃i:Nat,i<=R.length/\vi=ZZ ZY (i:Int)/\Hid (av 63 4 clW w.heap.size wr v5 (bT (R.take i) g))/\Hid (Z2 w.heap.size w wr)) (fun _ vi _=>R.length - (RowKit.intOf vi).toNat)
 case atStart=>exact qna
 case round=>
  obtain ⟨i,hi,rfl,HO,HB⟩:=hrel;obtain ⟨A5,c5,hv5,hc5,_⟩:=mX HO.out;subst hv5;by_cases hlt:i<R.length
  ·obtain ⟨r,hr⟩:∃r,R[i]? =ZV r:=⟨_,List.getElem?_eq_getElem hlt⟩
   have hkr:=HKb.out r (List.mem_of_getElem? hr);have hne:R≠[]:=fun e=>by rw [e] at hlt;exact absurd hlt (Nat.not_lt_zero _)
   rcases HR.out with h0|⟨ga,oa,rfl,_,hgl,hca⟩
   ·exact absurd h0 hne
   have c0:=aa HB.out (hca i r hr);have hlk:=(HM.out.below HB.out).look_ok vG (LH wr) hkr;have HE:=qf (FX (g:=g) hr);have hlen:(bT (R.take i) g).length<=100000:=Nat.le_trans (xa _ _) qpo;have hI:(i:Int)<(R.length:Int):=qoq;have hJ:=qbX;have hs1:=HB.out.size;cases hg:g r with
   |none=>
    rw [hg] at hlk HE;have HO2:Hid (av 63 4 clW w.heap.size wr (Zw A5 (bT (R.take i) g).length c5) (bT (R.take (i+1)) g)):=qf (by rw [HE.out,List.append_nil];exact HO.out);have hlk2:(Instr.lookup 113 (.map (ZV b)) (ZZ ZY r) Zy).run ZW wr=.ok (.tuple #[.agg #[ZZ ZY 0,ZZ ZY 0],.bool Zz]) wr:=hlk;clear HO HE hg hr hgl hlk;go_wp2_with fail;go_roundw
    case rel=>exact ⟨i+1,qoq,qnG,qf (av.below HO2.out qa),qf (HB.out.alloc hs1 _)⟩
    case measure=>exact qmy
   |some v=>
    rw [hg] at hlk HE;obtain ⟨vn,vf⟩:=v;have hlk2:(Instr.lookup 113 (.map (ZV b)) (ZZ ZY r) Zy).run ZW wr=.ok (.tuple #[.agg #[ZZ ZY vn,ZZ ZY vf],.bool Zy]) wr:=hlk;have HE2:Hid (bT (R.take i) g++[⟨atC r,atR r,vn,vf⟩]=bT (R.take (i+1)) g):=qf HE.out.symm;have HA:=qf (fun W=>zS r W);clear hlk HE hg hr hgl;obtain ⟨Z1,hZ1⟩:∃Z1,bT (R.take (i+1)) g=Z1:=⟨_,rfl⟩
    rw [hZ1] at HE2;have HZ1:=qf hZ1;clear hZ1;generalize bT (R.take i) g=Z0 at*;generalize atC r=RC at*;generalize atR r=RR at*;generalize vx r=RB at*;obtain ⟨M,hM0⟩:∃M,Z0.length=M:=⟨_,rfl⟩
    have HM0:=qf hM0;have hM2:M<=100000:=qoq;clear hM0 hlen;go_wp2_with fail;refine (HA.out _).mono ?_;rintro e w2 ⟨rfl,hb2⟩;have hb3:=qif;have k0:w2.cell? ⟨wr.heap.size,0,ZU⟩=ZV (ZZ ZY vn):=aa hb2 qnp;have k1:w2.cell? ⟨wr.heap.size,1,ZU⟩=ZV (ZZ ZY vf):=aa hb2 qnp;have hz:wr.heap.size<w2.heap.size:=(by have:=hb2.size;simp at this;omega);obtain ⟨HO2,HB2,hs2⟩:=qib;clear hb2 hb3 HO HB c0 HA hlk2;go_wp2_with (at_builtin;refine eh ?_)
    refine ek ?_;have hsz:(w2.alloc (.cells #[ZZ ZY RC,ZZ ZY RR] 28)).heap.size=w2.heap.size+1:=qns;have b0:Z2 w2.heap.size w2 ((w2.alloc (.cells #[ZZ ZY RC,ZZ ZY RR] 28)).alloc (.cells (clW ⟨RC,RR,vn,vf⟩).toArray 63)):=qa.alloc qns _;refine cP (f:=clW) (n:=4) (E:=63) (nb:=32) (X:=Z0) (base:=w.heap.size) rfl _ _ rfl rfl (av.below HO2.out b0) (L2:=[(⟨RC,RR,vn,vf⟩:Cel)]) rfl (by have h:=kX (f:=clW) (n:=4) (E:=63) (w2.alloc (.cells #[ZZ ZY RC,ZZ ZY RR] 28)) (⟨RC,RR,vn,vf⟩:Cel);rw [hsz] at h;exact h) qns (N:=M+1) (by rw [HM0.out];rfl) (Z:=Z1) HE2.out underlying53 hi0 hz0 hz1 hz2 rfl qnv qnv (fun _=>rfl) KF qoq qnu ?_;intro g4 k4 w4 ho4 hg4 hat4 hl4;have HO4:=qf ho4;have HB4:Hid (Z2 w.heap.size w w4):=qf ((HB2.out.trans (b0.mono hs2)).grown hg4 (by have:=b0.size;omega) (fun k hk=>(World.ownsRow.lt HO2.out k hk).1));exact qjR
  ·have hii:i=R.length:=by omega
   subst hii;have ho:=HO.out;rw [List.take_length] at ho;have HF:Hid (∀v,av 63 4 clW w.heap.size wr v (bT R g)->Mz w (bT R g) (ZX v) wr):=qf fun v hv=>⟨v,rfl,hv,HB.out⟩
   rw [List.take_length] at HO ⊢;have HO0:=qf HO.out;exact qmf
end
theorem Cg (s:List UInt8) (h:decide ((200:Int)<(s.length:Int))=Zy) (w:Z3):Calls ZW 9 #[Zx ⟨s.toArray⟩] w (RN ([],0,3) w):=by
 go_enter func9,ntmps9;go_wp2_with fail;go_ret3
 exact ⟨rfl,qb⟩
theorem Ec (s:List UInt8) (h:decide ((200:Int)<(s.length:Int))=Zz) (hs:s=[]\/∃c r,s=c::r/\c≠61) (w:Z3) (hE:cz w):
 Calls ZW 9 #[Zx ⟨s.toArray⟩] w (RN (if pB s=Zy then (s,0,0) else ([],0,2)) w):=by
 have HC:=qf (fun W=>zY hs W);have HL:=qf (Ia s qrv w hE.num);generalize (if pB s=Zy then ((s,0,0):List UInt8×Int×Int) else ([],0,2))=x at*;clear hs hE;go_enter func9,ntmps9;go_wp2_with fail;refine .mono qrE ?_;rintro e w0 ⟨rfl,rfl⟩;go_wp2_with fail;refine HL.out.mono ?_;rintro e w1 ⟨rfl,hb1⟩;go_wp2_with fail;go_ret3
 exact ⟨rfl,hb1⟩
theorem BV (r:List UInt8) (h:decide ((200:Int)<(r.length:Int)+1)=Zz) (hl:r.length<=300) (hp:aL r=.fail a c) (w:Z3) (hE:cz w):
 Calls ZW 9 #[Zx ⟨(61::r).toArray⟩] w (RN (fi (.fail a c)) w):=by
 have HP:=qed;rw [hp] at HP;have HC:=qf (fun W=>pG r W);have hne:=jA hp;clear hp hl hE;go_enter func9,ntmps9;go_wp2_with fail;refine .mono qrE ?_;rintro e w0 ⟨rfl,rfl⟩;go_wp2_with fail;refine (HP.out _ qb).mono ?_;rintro e w1 ⟨rfl,hb1⟩;have HF:Hid (∀W,Z2 w.heap.size w W->RN (fi (.fail a c)) w (ZX (.tuple #[Zx ⟨#[]⟩,ZZ ZY (wrap64 (1+a)),ZZ ZY c])) W):=qf fun W h=>⟨by rw [Int.add_comm];rfl,h⟩
 go_wp2_with fail;go_ret3
 exact HF.out _ (hb1.alloc hb1.size _)
theorem DF (r:List UInt8) (h:decide ((200:Int)<(r.length:Int)+1)=Zz) (hl:r.length<=300) (hp:aL r=.good t) (hz:decide ((200:Int)<((aX t).length+1:Int))=Zy) (w:Z3) (hE:cz w):
 Calls ZW 9 #[Zx ⟨(61::r).toArray⟩] w (RN (([],0,3)) w):=by
 have HP:=qed;rw [hp] at HP;obtain ⟨HC,pt,hpl,PA⟩:=qdH;unfold tv at PA;generalize aX t=Z at*;clear hp hl pt hpl hE;go_enter func9,ntmps9;go_wp2_with fail;refine .mono qrE ?_;rintro e w0 ⟨rfl,rfl⟩;go_wp2_with fail;refine (HP.out _ qb).mono ?_;rintro e w1 ⟨⟨A,ca,rfl,hk⟩,hb1⟩;have HK:=qcg;have HB1:=qf hb1;clear hk HP hb1;go_wp2_with fail;refine .mono qso ?_;rintro e w2 ⟨rfl,hb2⟩;go_wp2_with fail;go_ret3
 exact ⟨rfl,(HB1.out.alloc HB1.out.size _).trans (hb2.mono (by simp;have:=HB1.out.size;omega))⟩
theorem CL (r:List UInt8) (h:decide ((200:Int)<(r.length:Int)+1)=Zz) (hl:r.length<=300) (hp:aL r=.good t) (hz:decide ((200:Int)<((aX t).length+1:Int))=Zz) (w:Z3) (hE:cz w):
 Calls ZW 9 #[Zx ⟨(61::r).toArray⟩] w (RN ((61::aX t,0,0)) w):=by
 have HP:=qed;rw [hp] at HP;obtain ⟨HC,pt,hpl,PA⟩:=qdH;unfold tv at PA;generalize aX t=Z at*;clear hp hl pt hpl hE;go_enter func9,ntmps9;go_wp2_with fail;refine .mono qrE ?_;rintro e w0 ⟨rfl,rfl⟩;go_wp2_with fail;refine (HP.out _ qb).mono ?_;rintro e w1 ⟨⟨A,ca,rfl,hk⟩,hb1⟩;have HK:=qcg;have HB1:=qf hb1;clear hk HP hb1;go_wp2_with fail;refine .mono qso ?_;rintro e w2 ⟨rfl,hb2⟩;go_wp2_with fail;go_ret3
 exact ⟨rfl,(HB1.out.alloc HB1.out.size _).trans (hb2.mono (by simp;have:=HB1.out.size;omega))⟩
theorem ku (s:List UInt8) (hs:s.length<=300) (w:Z3) (hE:cz w):Calls ZW 9 #[Zx ⟨s.toArray⟩] w (RN (ew s) w):=by
 by_cases hl:200<s.length
 ·rw [i5 hl]
  exact Cg s (decide_eq_true qoq) w
 rcases eo s with h|⟨r,rfl⟩
 ·rw [gE hl h]
  exact Ec s (decide_eq_false qoq) h w hE
 ·rw [fP hl]
  have h1:=hl;have h2:=hs;simp at h1 h2
  have h3:=qgt;cases hp:aL r with
  |fail a c=>exact BV r h3 qoq hp w hE
  |good t=>
   cases hz:decide ((200:Int)<((aX t).length+1:Int)) with
   |true=>rw [vQ hz];exact DF r h3 qoq hp hz w hE
   |false=>rw [yV hz];exact CL r h3 qoq hp hz w hE
theorem CB (r:List UInt8) (hs:(61::r:List UInt8).length<=300) (hr:aL r=.good t) (w:Z3):
 Calls ZW 12 #[Zx ⟨(61::r).toArray⟩] w fun e w'=>Z2 w.heap.size w w'/\∃A ca,e=ZX (.tuple #[tv t A ca,.bool Zy])/\KV w' (fun k=>w.heap.size<=k) t A:=by
 obtain ⟨HP,e0⟩:=qdW;rw [e0,hr] at HP;obtain ⟨h0,h1⟩:=qbp;have h2:(⟨(61::r).toArray⟩:ByteArray).extract 1 (r.length+1)=⟨r.toArray⟩:=qkk;clear hr hs e0;go_enter func12,ntmps12;go_wp2_with fail;refine .mono qrB ?_;rintro e w1 hp;obtain ⟨⟨A,ca,rfl,hk⟩,hb1⟩:=hp;obtain ⟨p0,p1,p2,p3,p4,p5,p6,p7,f0,f1,f2,f3,f4,f5⟩:=qK;obtain ⟨f6,f7,hz,hB⟩:=qbv;clear HP h0 h1 h2;go_wp2_with fail;refine bodyPost_ret (v:=.tuple #[tv t A ca,.bool Zy]) (by simp [results,results12,go_sem,tv,hz,p0,p1,p2,p3,p4,p5,p6,p7]) rfl ⟨?_,A,ca,rfl,?_⟩
 ·with_reducible repeat' (first|exact hB|exact qd|exact hB.size|refine Below.setCell ?_ ?_ _|refine Below.alloc ?_ ?_ _)
  all_goals (simp;omega)
 ·have hk2:KV w1 (fun k=>w.heap.size<k) t A:=KV.imp (fun g hg=>by simp at hg;omega) hk
  exact qkM
theorem Bf (r:List UInt8) (hs:(61::r:List UInt8).length<=300) (hr:aL r=.fail a c) (w:Z3):
 Calls ZW 12 #[Zx ⟨(61::r).toArray⟩] w fun e w'=>Z2 w.heap.size w w'/\e=ZX (.tuple #[dx,.bool Zz]):=by
 obtain ⟨HP,e0⟩:=qdW;rw [e0,hr] at HP;obtain ⟨h0,h1⟩:=qbp;have h2:(⟨(61::r).toArray⟩:ByteArray).extract 1 (r.length+1)=⟨r.toArray⟩:=qkk;have hne:=jA hr;have hc0:(c==0)=Zz:=(by simpa using hne);clear hne hr hs e0;go_enter func12,ntmps12;go_wp2_with fail;refine .mono qrB ?_;rintro e w1 hp;obtain ⟨rfl,hb1⟩:=hp;obtain ⟨p0,p1,p2,p3,p4,p5,p6,p7,f0,f1,f2,f3,f4,f5⟩:=qK;obtain ⟨f6,f7,hz,hB⟩:=qbv;clear HP h0 h1 h2;go_wp2_with fail;refine bodyPost_ret (v:=.tuple #[dx,.bool Zz]) (by simp [results,results12,go_sem,dx,hz,p0,p1,p2,p3,p4,p5,p6,p7]) rfl ⟨?_,rfl⟩;with_reducible repeat' (first|exact hB|exact qd|exact hB.size|refine Below.setCell ?_ ?_ _|refine Below.alloc ?_ ?_ _)
 all_goals (simp;omega)
theorem Ay (r:List UInt8) (hs:(61::r:List UInt8).length<=300) (w:Z3):
 Calls ZW 12 #[Zx ⟨(61::r).toArray⟩] w fun e w'=>Z2 w.heap.size w w'/\match xk (aL r) with
  |some t=>∃A ca,e=ZX (.tuple #[tv t A ca,.bool Zy])/\KV w' (fun k=>w.heap.size<=k) t A
  |none=>e=ZX (.tuple #[dx,.bool Zz]):=by
 cases hr:aL r with
 |good t=>exact CB r hs hr w
 |fail a c=>exact Bf r hs hr w
theorem F3 (s:List UInt8) (hs:s=[]\/∃c r,s=c::r/\c≠61) (w:Z3):
 Calls ZW 12 #[Zx ⟨s.toArray⟩] w fun e w'=>Z2 w.heap.size w w'/\e=ZX (.tuple #[dx,.bool Zz]):=by
 rcases hs with rfl|⟨c,r,rfl,hc⟩
 ·go_enter func12,ntmps12
  exact qkP
 ·have h0:((r.length:Int)+1==0)=Zz:=by simp;omega
  have h1:=qfW;have h3:((c.toNat:Int) !=61)=Zy:=qlE;go_enter func12,ntmps12;exact qkP
theorem m8:Ki F13:=by
 intro w s hs;unfold m9
 show Calls _ _ _ _ fun e w'=>Z2 w.heap.size w w'/\match aU s with
  |some t=>∃A ca,e=ZX (.tuple #[tv t A ca,.bool Zy])/\KV w' (fun k=>w.heap.size<=k) t A
  |none=>e=ZX (.tuple #[dx,.bool Zz])
 rcases eo s with h|⟨r,rfl⟩
 ·rw [kn h]
  exact F3 s h w
 ·rw [lC]
  exact Ay r hs w
