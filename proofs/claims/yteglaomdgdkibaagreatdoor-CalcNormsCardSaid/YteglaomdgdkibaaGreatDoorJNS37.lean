import Derived.Test.YteglaomdgdkibaaGreatDoorJNS31
import Derived.Test.YteglaomdgdkibaaGreatDoorJNS32
import Derived.Test.YteglaomdgdkibaaGreatDoorJNS36
import Derived.Test.YteglaomdgdkibaaGreatDoorJQNSP
import Derived.Test.YteglaomdgdkibaaGreatDoorJQNSW
import Derived.Test.YteglaomdgdkibaaGreatDoorJQYNSP
set_option linter.all false
set_option maxHeartbeats 0
set_option maxRecDepth 99999
namespace Go.Proofs.YteglaomdgdkibaaGreatDoor
open Go.RowKit
open Value renaming int→ZZ,string→Zx,slice→Zw,pointer→Zv,agg→Zu
open IntKind renaming i64→ZY
open Ending renaming returned→ZX
open RowKit renaming Below→Z2
open Go renaming World→Z3
open Go.Proofs.Tryz
open Go.Proofs.Tryz renaming prog→ZW
open Option renaming some→ZV,none→ZU
open Bool renaming true→Zy
variable {P:Nat->Prop}{w w':World}{l:List Src}{q:Src}{g:Int->Option (Int×Int)}{t:Tr}{f:Int->Int×Int}{D:List Int}{e:Ending}{b:Nat}
section
open Go.Maps
theorem KI:(prog.info? 51).map (fun i=>(i.zero,i.size,i.bytes))=ZV (ZV (Zu #[ZZ ZY 0,Zw ZU 0 0]),2,32):=by kernel_rfl
theorem ww {c r:Int} (h:rightB c r=Zy):KB (aQ c r):=by
 have:=mN h;unfold okN at this;unfold KB;omega
theorem JD (q:Src):(rdC q).length<=1024:=by
 unfold rdC;split
 ·rw [List.length_map];exact nH _
 ·exact qe
def LkR (w:Z3) (l:List Src) (e:Ending) (w':Z3):Prop:=∃(L:List LkM) (A:Option Addr) (ca:Nat),e=ZX (Zw A L.length ca)/\gG w' (fun k=>w.heap.size<=k) A L/\lkS L=lkC F13 l/\(∀q∈L,q.rd.length<=1024)/\Z2 w.heap.size w w'
theorem Bv (l:List Src) (A:Option Addr) (ca:Nat) (w:Z3) (hl:fa w P A l) (hll:l.length<=60) (hr:∀q∈l,rightB q.c q.r=Zy) (hd:dW l) (base S:Nat) (h:ShP w base S l) (hE:cz w):
 Calls ZW 53 #[Zv (ZV ⟨S,0,ZU⟩),Zw A l.length ca] w (LkR w l):=by
 obtain ⟨i0,hi0,hz0,hz1,hz2⟩:=info_parts KI;have HL:=qge;have HR:=qf hr;have HRd:=qf (fun q (hq:q∈l) W (hb:Z2 w.heap.size w W)=>oh l q hq hd (ww (hr q hq)) W base S (h.below hb) (hE.below hb));clear hl hr h hE hd;go_enter func53,ntmps53;go_wp2_with fail;go_loopw [5,11] (fun v5 vi wr=>∃(i:Nat) (L:List LkM) (R:Nat->Prop),i<=l.length/\vi=ZZ ZY (i:Int)/\Hid (OwK 51 wr w.heap.size v5 L R)/\Hid (lkS L=lkC F13 (l.take i))/\Hid (∀q∈L,q.rd.length<=1024)/\Hid (Z2 w.heap.size w wr)) (fun _ vi _=>l.length - (RowKit.intOf vi).toNat)
 case atStart=>exact ⟨0,[],fun _=>False,qe,rfl,qf ⟨World.ownsRow_nil _ _ _ _,qns,fun _ h=>h.elim,qd⟩,qf qqr,qf qns,qf qb⟩
 case round=>
  obtain ⟨i,L,R,hi,rfl,HO,HE,HLn,HB⟩:=hrel;by_cases hlt:i<l.length
  ·obtain ⟨q,hq⟩:∃q,l[i]? =ZV q:=⟨_,List.getElem?_eq_getElem hlt⟩
   obtain ⟨g,o,rfl,_,hgl,q0,q1,q2⟩:=HL.out.at hq;have hqm:=qhk;obtain ⟨c0,c1⟩:=qeX;have c2:=aa HB.out q2;have HRq:=qf (fun W hb=>HRd.out q hqm W hb);have HI:=qf (fun W=>fW q.c q.r W);have HNx:=qf (fun (x:LkM) (hx:x.k=⟨aQ q.c q.r,rdC q⟩)=>JF (F:=F13) hq HE.out (x:=x) hx);have HLq:=qf (JD q);have HXi:Hid (q.ix=aQ q.c q.r):=qf rfl;rw [HXi.out] at HRq;have hI:=qdu;have hJ:=qbX;have hLl:L.length=i:=(by have:=congrArg List.length HE.out;simp [lkS,lkC] at this;omega);have hs1:=HB.out.size;clear hq hqm q0 q1 q2 HE HXi;generalize aQ q.c q.r=IX at*;generalize rdC q=RC at*;obtain ⟨qc,qr,qt⟩:=q;dsimp only at*;go_wp2_with fail;refine .mono qse ?_;rintro e w1 ⟨rfl,hb1⟩;have hb2:Z2 wr.heap.size wr w1:=qa.trans (hb1.mono qns);have HB1:=qf (HB.out.trans (hb2.mono hs1));have HW1:=qf hb2;clear hb1 hb2 c0 c1 c2 HI;go_wp2_with fail;refine (HRq.out _ HB1.out).mono ?_;rintro e w2 ⟨v2,rfl,ho2,hb3⟩;obtain ⟨RA,cr,hv2,hcr,hrow⟩:=dt ho2;subst hv2;have HRow:=qf hrow;have HW2:=qf (HW1.out.trans (hb3.mono HW1.out.size));have HA2:Hid (bc w2 (fun k=>wr.heap.size<=k) RA RC):=qf (hrow.mono fun k hk _=>Nat.le_trans HW1.out.size hk);clear ho2 hb3 hrow hcr HRow HB1 HRq HW1;obtain ⟨M,hM⟩:∃M,L.length=M:=⟨_,rfl⟩
   have HM:=qf hM;have hM2:M<=100000:=qoq;have hsz2:=HW2.out.size;clear hM hLl;go_wp2_with (at_builtin;refine eh ?_)
   refine ek ?_;have b0:Z2 w2.heap.size w2 (w2.alloc (.cells (lkW ⟨IX,RC,RA,cr⟩).toArray 51)):=qa;refine cP (f:=lkW) (n:=2) (E:=51) (nb:=32) (X:=L) (base:=w.heap.size) rfl _ _ rfl rfl (av.below (HO.out.below HW2.out).own b0) (L2:=[(⟨IX,RC,RA,cr⟩:LkM)]) rfl (kX _ (⟨IX,RC,RA,cr⟩:LkM)) qns (N:=M+1) qoN (Z:=L++[(⟨IX,RC,RA,cr⟩:LkM)]) rfl underlying44 hi0 hz0 hz1 hz2 rfl qnv qnv (fun _=>rfl) Mg qoq qnu ?_;intro g4 k4 w4 ho4 hg4 hat4 hl4;have HO4:=qf (OwK.app HO.out HW2.out HA2.out b0 ho4 hg4 (hat4.elim (fun e=>.inl e.symm) (fun e=>.inr ⟨g4,rfl,Nat.le_of_eq e.symm⟩)));have HB4:Hid (Z2 w.heap.size w w4):=qf (((HB.out.trans (HW2.out.mono HB.out.size)).trans (b0.mono (Nat.le_trans HB.out.size HW2.out.size))).grown hg4 (by have:=HB.out.size;have:=HW2.out.size;have:=b0.size;omega) (fun k hk=>(World.ownsRow.lt HO.out.own k hk).1));have HE4:=qf (HNx.out (⟨IX,RC,RA,cr⟩:LkM) qnL)
   have HL4:Hid (∀q∈L++[(⟨IX,RC,RA,cr⟩:LkM)],q.rd.length<=1024):=qf (fun q hq=>by
    rcases List.mem_append.1 hq with e|e
    ·exact HLn.out q e
    ·obtain rfl:q=(⟨IX,RC,RA,cr⟩:LkM):=by simpa using e
     exact HLq.out)
   clear ho4 hg4 hat4 hl4 b0 HO HB HNx HLn HW2 HA2;go_wp2_with fail;go_roundw
   case rel=>exact ⟨i+1,_,_,qoq,qnG,HO4,HE4,HL4,HB4⟩
   case measure=>exact qmy
  ·have hii:i=l.length:=by omega
   subst hii;have he:=HE.out;rw [List.take_length] at he;obtain ⟨A5,c5,hv5,hc5,hrow⟩:=HO.out.row;subst hv5;have HF:Hid (LkR w l (ZX (Zw A5 L.length c5)) wr):=qf ⟨L,A5,c5,rfl,hrow,he,HLn.out,HB.out⟩;clear HO HE HLn HB he hrow;go_wp2_with fail;go_ret;exact HF.out
theorem ve {base S:Nat} (h:ShP w base S l) (hd:dW l) (hq:q∈l) (hkb:KB q.ix):
 ∃b1 b2,w.cell? ⟨S,0,ZU⟩=ZV (.map (ZV b1))/\w.cell? ⟨S,1,ZU⟩=ZV (.map (ZV b2))/\(Instr.lookup 100 (.map (ZV b1)) (ZZ ZY q.ix) false).run ZW w=.ok (Zx ⟨q.text.toArray⟩) w/\
  ∃x is,(Instr.lookup 101 (.map (ZV b2)) (ZZ ZY q.ix) Zy).run ZW w=.ok (.tuple #[tv x.1 x.2.addr x.2.cap,.bool is]) w/\ShR w q x is:=by
 obtain ⟨b1,b2,n,ft,fr,hs,ht⟩:=h;have hR:=za hs ht hd hq;have h1:=hs.lookT hkb;have h2:=hs.lookRk hkb;rw [(ht.at_ hd q hq).1] at h1;refine ⟨b1,b2,hs.c0,hs.c1,h1,_,_,?_,hR⟩;rw [h2];have hval:trE.val ((fr q.ix).getD (aO,lx))=tv ((fr q.ix).getD (aO,lx)).1 ((fr q.ix).getD (aO,lx)).2.addr ((fr q.ix).getD (aO,lx)).2.cap:=J5 hR.len;rw [hval]
theorem yz (l:List Src) (q:Src) (hq:q∈l) (hd:dW l) (hkb:KB q.ix) (w:Z3) (base S:Nat) (h:ShP w base S l) (hE:cz w) (b:Nat) (htx:q.text.length<=300) (ht:aU q.text=ZU):
 Calls ZW 58 #[Zv (ZV ⟨S,0,ZU⟩),ZZ ZY q.ix,.map (ZV b)] w fun e w'=>e=ZX (Zu #[ZZ ZY (pV q.text),ZZ ZY 0])/\Z2 w.heap.size w w':=by
 obtain ⟨w1,hw1⟩:∃w1,w.alloc (.cells #[ZZ ZY 0,ZZ ZY 0] 61)=w1:=⟨_,rfl⟩
 have hb1:Z2 w.heap.size w w1:=(by rw [<-hw1];exact qa);obtain ⟨b1,b2,c0,c1,hl1,x,is,hl2,hR⟩:=ve (h.below hb1) hd hq hkb;have his:=hR.is;rw [ht] at his;cases is with
 |true=>rw [if_pos rfl] at his;cases his
 |false=>
 obtain ⟨hz1,p0,p1,pf⟩:=qch;obtain ⟨T,sl⟩:=x;dsimp only at hl2;unfold tv at hl2;obtain ⟨w2,hw2⟩:∃w2,w1.alloc (.cells (Ku.k T sl.addr sl.cap) 33)=w2:=⟨_,rfl⟩
 obtain ⟨hb2,hz2⟩:=qfJ;obtain ⟨b1',b2',d0,_,hl3,_⟩:=ve ((h.below hb1).below hb2) hd hq hkb;have HN:=qf (mK ⟨q.text.toArray⟩ (show q.text.toArray.size<=_ from by simp;omega) w2 ((hE.below hb1).below hb2).num);have e0:(⟨q.text.toArray⟩:ByteArray).data.toList=q.text:=rfl;rw [e0] at HN;have HB:=qf (hb1.trans (hb2.mono hb1.size))
 have HP:=qf (fun W (hb:Z2 w2.heap.size w2 W)=>(show (W.cell? ⟨w.heap.size,0,ZU⟩=ZV (ZZ ZY 0)/\W.cell? ⟨w.heap.size,1,ZU⟩=ZV (ZZ ZY 0))/\∀j,W.frozen? ⟨w.heap.size,j,ZU⟩=false from
  ⟨⟨aa hb (aa hb2 p0),aa hb (aa hb2 p1)⟩,fun j=>ae hb (show w.heap.size<w2.heap.size by omega) (ae hb2 (show w.heap.size<w1.heap.size by omega) (pf j))⟩))
 clear h hE hR his hd hq hb1 hb2 p0 p1 pf e0 hkb;generalize q.ix=IX at*;generalize pV q.text=NV at*;generalize pB q.text=NB at*;go_enter func58,ntmps58;go_wp2_with fail;refine HN.out.mono ?_;rintro e w3 ⟨rfl,hb3⟩;obtain ⟨⟨p0,p1⟩,pf⟩:=HP.out w3 hb3;have f0:=pf 0;have f1:=pf 1;have HB3:=qf (HB.out.trans (hb3.mono HB.out.size));have hz:w.heap.size<w3.heap.size:=(by have:=hb3.size;omega);clear pf hb3 HB HN HP;go_wp2_with fail;refine bodyPost_ret (v:=Zu #[ZZ ZY NV,ZZ ZY 0]) (by simp [results,results58,go_sem,hz,p0,p1]) rfl ⟨rfl,?_⟩;have hB:=HB3.out;with_reducible repeat' (first|exact hB|exact qd|refine Below.setCell ?_ ?_ _)
theorem NM {R:List Int} (hg:∀r v,g r=ZV v->B64 v.1) (hR:∀r∈R,okN r):(∀x∈bT R g,B64 x.n)/\∀x∈bT R g,B64 x.c/\B64 x.r:=by
 have key:∀x∈bT R g,∃r v,r∈R/\g r=ZV v/\x=⟨atC r,atR r,v.1,v.2⟩:=fun x hx=>by
  obtain ⟨r,hr,e⟩:=List.mem_filterMap.1 hx;cases hv:g r with
  |none=>rw [hv] at e;cases e
  |some v=>rw [hv] at e;exact ⟨r,v,hr,hv,(Option.some.inj e).symm⟩
 refine ⟨fun x hx=>?_,fun x hx=>?_⟩
 ·obtain ⟨r,v,_,hv,rfl⟩:=key x hx
  exact hg r v hv
 ·obtain ⟨r,v,hr,_,rfl⟩:=key x hx
  have h1:=ev (nw (hR r hr)).1;dsimp only;unfold B64;omega
theorem vX (l:List Src) (q:Src) (hq:q∈l) (hd:dW l) (hkb:KB q.ix) (w:Z3) (base S:Nat) (h:ShP w base S l) (hE:cz w) (b n:Nat) (g:Int->Option (Int×Int)) (hM:bG vlE w b n g) (hg:∀r v,g r=ZV v->B64 v.1) (ht:aU q.text=ZV t):
 Calls ZW 58 #[Zv (ZV ⟨S,0,ZU⟩),ZZ ZY q.ix,.map (ZV b)] w fun e w'=>e=ZX (Zu #[ZZ ZY (ofV (bT (rdC q) g) t).1,ZZ ZY (ofV (bT (rdC q) g) t).2])/\Z2 w.heap.size w w':=by
 obtain ⟨w1,hw1⟩:∃w1,w.alloc (.cells #[ZZ ZY 0,ZZ ZY 0] 61)=w1:=⟨_,rfl⟩
 have hb1:Z2 w.heap.size w w1:=(by rw [<-hw1];exact qa);obtain ⟨b1,b2,c0,c1,hl1,x,is,hl2,hR⟩:=ve (h.below hb1) hd hq hkb;have his:=hR.is;rw [ht] at his;cases is with
 |false=>rw [if_neg qnv] at his;cases his
 |true=>
 obtain ⟨hz1,p0,p1,pf⟩:=qch;obtain ⟨T,sl⟩:=x;dsimp only at hl2;have hT:t=T:=(by rw [if_pos rfl] at his;exact Option.some.inj his);subst hT
 have hok:∀r∈rdC q,okN r:=fun r hr=>by
  unfold rdC at hr;rw [ht] at hr;obtain ⟨p,hp,rfl⟩:=List.mem_map.1 hr;exact mN (oP.rd _ t ht p hp)
 obtain ⟨m1,m2⟩:=NM hg hok
 have hcl:(bT (rdC q) g).length<=1024:=Nat.le_trans (xa _ _) (by
  unfold rdC;rw [ht,List.length_map];exact nH t)
 have hrl:(rdC q).length<=1024:=by
  unfold rdC;rw [ht,List.length_map];exact nH t
 unfold tv at hl2;obtain ⟨w2,hw2⟩:∃w2,w1.alloc (.cells (Ku.k t sl.addr sl.cap) 33)=w2:=⟨_,rfl⟩
 obtain ⟨hb2,hz2⟩:=qfJ;have hb12:=hb1.trans (hb2.mono hb1.size);have HB:=qf hb12;have HRd:=qf (fun W (hb:Z2 w2.heap.size w2 W)=>oh l q hq hd hkb W base S ((h.below hb12).below hb) ((hE.below hb12).below hb))
 have HCl:=qf (fun W (hb:Z2 w2.heap.size w2 W) A ca (P:Nat->Prop) (hr:bc W P A (rdC q))=>oe g b n (rdC q) A ca W ((hM.below hb12).below hb) hr qoq fun r hr=>by
  have:=hok r hr;unfold okN at this;unfold KB;omega)
 have HOf:=qf (fun W (hb:Z2 w2.heap.size w2 W) LA lc (hc:fe W LA (bT (rdC q) g))=>L8 (l:=bT (rdC q) g) qnH m1 m2 t hR.wid hR.fit hR.cnt W sl.addr sl.cap LA lc ((hR.kv.kept (Kept.of_below hb2)).kept (Kept.of_below hb)) hc (Nat.le_refl W.heap.size) ((hE.below hb12).below hb).p.s);have t0:w2.cell? ⟨w1.heap.size,0,ZU⟩=ZV (ZZ ZY t.kY):=qoi;have t1:w2.cell? ⟨w1.heap.size,1,ZU⟩=ZV (ZZ ZY t.num):=qoi;have t2:w2.cell? ⟨w1.heap.size,2,ZU⟩=ZV (ZZ ZY t.c1):=qoi;have t3:w2.cell? ⟨w1.heap.size,3,ZU⟩=ZV (ZZ ZY t.r1):=qoi;have t4:w2.cell? ⟨w1.heap.size,4,ZU⟩=ZV (ZZ ZY t.c2):=qoi;have t5:w2.cell? ⟨w1.heap.size,5,ZU⟩=ZV (ZZ ZY t.r2):=qoi;have t6:w2.cell? ⟨w1.heap.size,6,ZU⟩=ZV (Zx ⟨t.wZ.toArray⟩):=qoi;have t7:w2.cell? ⟨w1.heap.size,7,ZU⟩=ZV (Zw sl.addr t.kZ.length sl.cap):=qoi;rw [hz1] at t0 t1 t2 t3 t4 t5 t6 t7
 have HK:=qf (fun W (hb:Z2 w2.heap.size w2 W)=>(show (W.cell? ⟨w.heap.size+1,0,ZU⟩=ZV (ZZ ZY t.kY)/\W.cell? ⟨w.heap.size+1,1,ZU⟩=ZV (ZZ ZY t.num)/\W.cell? ⟨w.heap.size+1,2,ZU⟩=ZV (ZZ ZY t.c1)/\W.cell? ⟨w.heap.size+1,3,ZU⟩=ZV (ZZ ZY t.r1)/\W.cell? ⟨w.heap.size+1,4,ZU⟩=ZV (ZZ ZY t.c2)/\W.cell? ⟨w.heap.size+1,5,ZU⟩=ZV (ZZ ZY t.r2)/\W.cell? ⟨w.heap.size+1,6,ZU⟩=ZV (Zx ⟨t.wZ.toArray⟩)/\W.cell? ⟨w.heap.size+1,7,ZU⟩=ZV (Zw sl.addr t.kZ.length sl.cap)) from
  ⟨aa hb t0,aa hb t1,aa hb t2,aa hb t3,aa hb t4,aa hb t5,aa hb t6,aa hb t7⟩))
 have HR:=qf (fun W (hb:Z2 w2.heap.size w2 W)=>(show W.cell? ⟨w.heap.size,0,ZU⟩=ZV (ZZ ZY 0)/\W.cell? ⟨w.heap.size,1,ZU⟩=ZV (ZZ ZY 0) from ⟨aa hb (aa hb2 p0),aa hb (aa hb2 p1)⟩));have HFz:=qf (fun W (hb:Z2 w2.heap.size w2 W)=>(show ∀j,W.frozen? ⟨w.heap.size,j,ZU⟩=false from fun j=>ae hb (show w.heap.size<w2.heap.size by omega) (ae hb2 (show w.heap.size<w1.heap.size by omega) (pf j))));clear h hE hR his hd hq hb1 hb2 hb12 p0 p1 pf hkb hM hg m1 m2 t0 t1 t2 t3 t4 t5 t6 t7 hok hl1 ht;unfold tv at HOf;generalize ofV (bT (rdC q) g) t=RV at*;generalize q.ix=IX at*;generalize bT (rdC q) g=CM at*;generalize rdC q=RQ at*;go_enter func58,ntmps58;go_wp2_with fail;rw [hz1] at*;clear hw1 hw2
 go_region_held3 (fun w'=>w'.cell? ⟨w.heap.size+1,0,ZU⟩=ZV (ZZ ZY t.kY)/\w'.cell? ⟨w.heap.size+1,1,ZU⟩=ZV (ZZ ZY t.num)/\w'.cell? ⟨w.heap.size+1,2,ZU⟩=ZV (ZZ ZY t.c1)/\w'.cell? ⟨w.heap.size+1,3,ZU⟩=ZV (ZZ ZY t.r1)/\w'.cell? ⟨w.heap.size+1,4,ZU⟩=ZV (ZZ ZY t.c2)/\w'.cell? ⟨w.heap.size+1,5,ZU⟩=ZV (ZZ ZY t.r2)/\w'.cell? ⟨w.heap.size+1,6,ZU⟩=ZV (Zx ⟨t.wZ.toArray⟩)/\w'.cell? ⟨w.heap.size+1,7,ZU⟩=ZV (Zw sl.addr t.kZ.length sl.cap))
  (first|with_reducible exact k6 _ _|with_reducible exact k5|with_reducible exact k4|with_reducible exact k3|(exact HK.out _ qsN)|fail)
  (first
  |(go_at_call 94;refine (HRd.out _ qsN).mono ?_;rintro e w3 ⟨v3,rfl,ho3,hb3⟩
    obtain ⟨A3,c3,rfl,_,hr3⟩:=dt ho3;have HB3:=qf (show Z2 w2.heap.size w2 w3 from (Below.drew (Below.refl w2.heap.size w2)).trans hb3);have HR3:=qf hr3;have k3:=HK.out w3 HB3.out;clear ho3 hb3 hr3)
  |(go_at_call 59;refine (HCl.out w3 HB3.out _ _ _ HR3.out).mono ?_;rintro e w4 ⟨v4,rfl,ho4,hb4⟩
    obtain ⟨A4,c4,rfl,_,hr4⟩:=mX ho4;have HB4:=qf (HB3.out.trans (hb4.mono HB3.out.size));have HL4:=qf (pd hr4);have k4:=HK.out w4 HB4.out;clear ho4 hb4 hr4)
  |(go_at_call 106;refine (HOf.out w4 HB4.out _ _ HL4.out).mono ?_;rintro e w5 ⟨rfl,hb5⟩
    have HB5:=qf (HB4.out.trans (hb5.mono HB4.out.size));have k5:=HK.out w5 HB5.out;have hgb:w.heap.size≠w.heap.size+1:=qoq
    have k6:∀u v:Value,((w5.setCell ⟨w.heap.size,0,ZU⟩ u).setCell ⟨w.heap.size,1,ZU⟩ v).cell? ⟨w.heap.size+1,0,ZU⟩=ZV (ZZ ZY t.kY)/\((w5.setCell ⟨w.heap.size,0,ZU⟩ u).setCell ⟨w.heap.size,1,ZU⟩ v).cell? ⟨w.heap.size+1,1,ZU⟩=ZV (ZZ ZY t.num)/\((w5.setCell ⟨w.heap.size,0,ZU⟩ u).setCell ⟨w.heap.size,1,ZU⟩ v).cell? ⟨w.heap.size+1,2,ZU⟩=ZV (ZZ ZY t.c1)/\((w5.setCell ⟨w.heap.size,0,ZU⟩ u).setCell ⟨w.heap.size,1,ZU⟩ v).cell? ⟨w.heap.size+1,3,ZU⟩=ZV (ZZ ZY t.r1)/\((w5.setCell ⟨w.heap.size,0,ZU⟩ u).setCell ⟨w.heap.size,1,ZU⟩ v).cell? ⟨w.heap.size+1,4,ZU⟩=ZV (ZZ ZY t.c2)/\((w5.setCell ⟨w.heap.size,0,ZU⟩ u).setCell ⟨w.heap.size,1,ZU⟩ v).cell? ⟨w.heap.size+1,5,ZU⟩=ZV (ZZ ZY t.r2)/\((w5.setCell ⟨w.heap.size,0,ZU⟩ u).setCell ⟨w.heap.size,1,ZU⟩ v).cell? ⟨w.heap.size+1,6,ZU⟩=ZV (Zx ⟨t.wZ.toArray⟩)/\((w5.setCell ⟨w.heap.size,0,ZU⟩ u).setCell ⟨w.heap.size,1,ZU⟩ v).cell? ⟨w.heap.size+1,7,ZU⟩=ZV (Zw sl.addr t.kZ.length sl.cap):=fun u v=>by
     obtain ⟨q0,q1,q2,q3,q4,q5,q6,q7⟩:=k5;exact ⟨bi (bi q0 hgb _ _) hgb _ _,bi (bi q1 hgb _ _) hgb _ _,bi (bi q2 hgb _ _) hgb _ _,bi (bi q3 hgb _ _) hgb _ _,bi (bi q4 hgb _ _) hgb _ _,bi (bi q5 hgb _ _) hgb _ _,bi (bi q6 hgb _ _) hgb _ _,bi (bi q7 hgb _ _) hgb _ _⟩
    obtain ⟨r0,r1⟩:=HR.out w5 HB5.out;have f0:=HFz.out w5 HB5.out 0;have f1:=HFz.out w5 HB5.out 1;have hz:w.heap.size<w5.heap.size:=(by have:=HB5.out.size;omega);clear hb5)
  |fail)
 all_goals
  go_wp2_with fail;refine bodyPost_ret (v:=Zu #[ZZ ZY RV.1,ZZ ZY RV.2]) (by simp [results,results58,go_sem,hz,r0,r1]) rfl ⟨rfl,?_⟩;have hB:=HB.out.trans (HB5.out.mono HB.out.size);with_reducible repeat' (first|exact hB|exact qd|refine Below.setCell ?_ ?_ _)
theorem xT (l:List Src) (q:Src) (hq:q∈l) (hd:dW l) (hkb:KB q.ix) (w:Z3) (base S:Nat) (h:ShP w base S l) (hE:cz w) (b n:Nat) (g:Int->Option (Int×Int)) (hM:bG vlE w b n g) (hg:∀r v,g r=ZV v->B64 v.1) (htx:q.text.length<=300):
 Calls ZW 58 #[Zv (ZV ⟨S,0,ZU⟩),ZZ ZY q.ix,.map (ZV b)] w fun e w'=>e=ZX (Zu #[ZZ ZY (jj F13 q.text g).1,ZZ ZY (jj F13 q.text g).2])/\Z2 w.heap.size w w':=by
 cases ht:aU q.text with
 |none=>
  have e:jj F13 q.text g=(pV q.text,0):=by
   unfold jj;exact qjU
  rw [e];exact yz l q hq hd hkb w base S h hE b htx ht
 |some t=>
  have e:jj F13 q.text g=ofV (bT (rdC q) g) t:=by
   unfold jj rdC;exact qjU
  rw [e];exact vX l q hq hd hkb w base S h hE b n g hM hg ht
theorem uP (hl:fx l) (hm:∀q,q∈l↔q∈bu l 1024):bI (lkC F13 l) 1024=(bu l 1024).map Src.ix:=by
 refine zX (fQ _ _) (nB l 1024 qd).1 fun n=>?_
 rw [dP (Cy oP hl),fL,List.mem_map];exact ⟨fun ⟨q,hq,e⟩=>⟨q,(hm q).1 hq,e⟩,fun ⟨q,hq,e⟩=>⟨q,(hm q).2 hq,e⟩⟩
theorem Lv {s:List Src} (hr:∀q∈s,rightB q.c q.r=Zy) (h:∀q∈s,g q.ix=ZV (f q.ix)):bT (s.map Src.ix) g=ck s f:=by
 induction s with
 |nil=>rfl
 |cons a s ih=>
  have e:=h a List.mem_cons_self;have h2:=nA (hr a List.mem_cons_self);have ih2:=ih (fun q hq=>hr q (List.mem_cons_of_mem _ hq)) fun q hq=>h q (List.mem_cons_of_mem _ hq)
  show bT (a.ix::s.map Src.ix) g=⟨a.c,a.r,(f a.ix).1,(f a.ix).2⟩::ck s f
  rw [<-ih2];unfold bT;rw [List.filterMap_cons,e];show (⟨atC a.ix,atR a.ix,(f a.ix).1,(f a.ix).2⟩:Cel)::_=_
  have e1:atC a.ix=a.c:=h2.1;have e2:atR a.ix=a.r:=h2.2;rw [e1,e2]
noncomputable def dd (l:List Src):Int->Int×Int:=ff F13 (bu l 1024) ((bu l 1024).length+1)
structure sL (l:List Src):Prop where
 ok:fx l
 okS:fx (bu l 1024)
 mem:∀q,q∈l↔q∈bu l 1024
 kk:OkK (lkC F13 l)
 fix:bH F13 (bu l 1024) (dd l)=dd l
theorem MT (h:cR plB l=0) (q:Src):q∈l↔q∈bu l 1024:=by
 refine ⟨fun hq=>?_,fun hq=>(jB hq).1⟩;obtain ⟨h1,h2⟩:=fN h;have hok:=h1 q hq;unfold dh at hok;rw [Bool.and_eq_true] at hok;have hrr:=ev hok.1
 have hne:q.text≠[]:=fun e=>by
  have:=hok.2;rw [e,FN] at this;cases this
 have hf:gW l q.c q.r=q.text:=qiX
 have key:∀k:Nat,k<=1024->q.ix<(k:Int)->q∈bu l k:=by
  intro k;induction k with
  |zero=>
   intro _ hx;unfold Src.ix aQ at hx;rw [if_pos hok.1] at hx;omega
  |succ k ih=>
   intro hk hx;rw [bu,List.mem_append];by_cases hlt:q.ix<(k:Int)
   ·exact .inl (ih qoq hlt)
   ·right
    have he:q.ix=(k:Int):=qoq;have h3:=nA hok.1;have e1:atC (k:Int)=q.c:=(by rw [<-he];exact h3.1);have e2:atR (k:Int)=q.r:=(by rw [<-he];exact h3.2);rw [e1,e2,hf,if_neg hne];simp
 refine key 1024 qd ?_;unfold Src.ix aQ;rw [if_pos hok.1];omega
theorem vC (h:cR plB l=0):sL l where
 ok:=by
  obtain ⟨h1,h2⟩:=fN h;exact ⟨fun q hq=>jS (h1 q hq),h2⟩
 okS:=oW h
 mem:=MT h
 kk:=Cy oP (by obtain ⟨h1,h2⟩:=fN h;exact ⟨fun q hq=>jS (h1 q hq),h2⟩)
 fix:=yU AI (oW h) (Cy oP (oW h))
structure VSo (l:List Src) (g:Int->Option (Int×Int)) (D:List Int):Prop where
 val:∀n v,g n=ZV v->v=dd l n/\isN (lkC F13 l) n
 cyc:∀n,bS (lkC F13 l) n->n∈D->(g n).isSome=Zy
 ord:∀n∈D,(g n).isSome=Zy
theorem VSo.nil (l:List Src):VSo l (fun _=>ZU) []:=⟨fun n v h=>qoO,fun n _ h=>qoO,fun n h=>qoO⟩
theorem VSo.next (h:VSo l g D) {n:Int} {v:Int×Int} (hv:v=dd l n) (hn:isN (lkC F13 l) n):VSo l (bJ g n v) (D++[n]):=by
 have ho:∀m∈D++[n],(bJ g n v m).isSome=Zy:=fun m hm=>by
  unfold bJ;by_cases e:m=n
  ·rw [if_pos e];rfl
  ·rw [if_neg e]
   rcases List.mem_append.1 hm with hm|hm
   ·exact h.ord m hm
   ·exact absurd (List.mem_singleton.1 hm) e
 refine ⟨fun m u hu=>?_,fun m _ hm=>ho m hm,ho⟩;unfold bJ at hu;by_cases e:m=n
 ·rw [if_pos e] at hu
  cases hu;rw [e];exact ⟨hv,hn⟩
 ·rw [if_neg e] at hu
  exact h.val m u hu
theorem VSo.b64 (h:VSo l g D):∀r v,g r=ZV v->B64 v.1:=fun r v hv=>by
 rw [(h.val r v hv).1];exact Bh oP _ _ _
theorem VSo.reck (hs:sL l) (h:VSo l g D) (hq:q∈l) (hc:¬bS (lkC F13 l) q.ix) (hr:∀x∈lkC F13 l,x.at_=q.ix->∀r∈x.rd,isN (lkC F13 l) r->r∈D):jj F13 q.text g=dd l q.ix:=
 Hj AI oP hs.okS hs.ok hs.mem hs.fix h.val hq hc fun x hx e r hrr hn=>h.ord r (hr x hx e r hrr hn)
theorem VSo.cells (hs:sL l) (h:VSo l g D) (hD:∀q∈l,q.ix∈D):bT (bI (lkC F13 l) 1024) g=ck (bu l 1024) (dd l):=by
 rw [uP hs.ok hs.mem];refine Lv hs.okS.1 fun q hq=>?_
 obtain ⟨v,hv⟩:=Option.isSome_iff_exists.1 (h.ord _ (hD q ((hs.mem q).2 hq)));rw [hv,(h.val _ _ hv).1]
end
def li:Prop:=∀w:Z3,cz w->Calls ZW 8 #[] w fun e w'=>e=ZX (.bool Zy)/\Z2 w.heap.size w w'
def trO (s:List UInt8):Tr:=(aU s).getD (.mk 0 0 0 0 0 0 [] [])
theorem sn (s:List UInt8):Wid (trO s):=by
 unfold trO;cases h:aU s with
 |none=>exact .mk qe (fun t h=>by cases h)
 |some t=>
  obtain ⟨r,_,hr⟩:=ex h;exact (bO hr).wid
theorem vL (s:List UInt8):aG (trO s)<=16:=by
 unfold trO;cases h:aU s with
 |none=>decide
 |some t=>
  obtain ⟨r,_,hr⟩:=ex h;exact (bO hr).deep
theorem wL {s:List UInt8} (h:m9 F13 s w e w'):Z2 w.heap.size w w'/\∃A ca,e=ZX (.tuple #[tv (trO s) A ca,.bool (aU s).isSome])/\KV w' (fun _=>True) (trO s) A:=by
 obtain ⟨hb,h2⟩:=h;refine ⟨hb,?_⟩
 have h3:match aU s with
  |some t=>∃A ca,e=ZX (.tuple #[tv t A ca,.bool Zy])/\KV w' (fun k=>w.heap.size<=k) t A
  |none=>e=ZX (.tuple #[dx,.bool false]):=h2
 unfold trO;cases ht:aU s with
 |none=>rw [ht] at h3;exact ⟨ZU,0,h3,KV.mk (.inl rfl)⟩
 |some t=>
  rw [ht] at h3;obtain ⟨A,ca,he,hk⟩:=h3;exact ⟨A,ca,he,KV.imp (fun _ _=>trivial) hk⟩
def Js:List UInt8:=[61,32,83,85,77,40,32,66,50,58,65,49,32,41,32,45,32,81,49]
def Ow:List UInt8:=[61,83,85,77,40,65,49,58,66,50,41,45,35,82,69,70]
def xA2:Src:=⟨0,1,[61,65,49,42,50]⟩
def xA1:Src:=⟨0,0,[50,49]⟩
def xB1:Src:=⟨1,0,[61,67,49]⟩
def xC1:Src:=⟨2,0,[61,66,49,43,65,50]⟩
def xD1:Src:=⟨3,0,[61,73,70,40,65,50,62,52,49,44,65,50,44,66,49,41]⟩
def l13:List Src:=[xA2,xA1,xB1,xC1,xD1]
def s13:List Src:=[xA1,xB1,xC1,xD1,xA2]
theorem LM:ew Js=(Ow,0,0):=by kernel_rfl
theorem LE:ew [61,49,43]=([],3,2):=by kernel_rfl
theorem sH:bu l13 1024=s13:=by kernel_rfl
theorem K4:∀q∈l13,dh plB q=Zy:=by
 have h:l13.all (dh plB)=Zy:=qnx;exact List.all_eq_true.1 h
theorem IK:dW l13:=by
 unfold dW l13 xA2 xA1 xB1 xC1 xD1 rS;simp
theorem yL:cR plB l13=0:=by
 have h:∀q∈l13,dh plB q=Zy:=K4
 unfold cR;rw [if_pos h,if_pos IK]
def k13:List Lk:=[⟨0,[]⟩,⟨1,[2]⟩,⟨2,[1,16]⟩,⟨3,[1,16]⟩,⟨16,[0]⟩]
theorem Ae:lkC F13 s13=k13:=by kernel_rfl
theorem Ko:(⟨1,[2]⟩:Lk)∈k13:=.tail _ (.head _)
theorem Kf:(⟨2,[1,16]⟩:Lk)∈k13:=.tail _ (.tail _ (.head _))
theorem KK:bS k13 1:=.more ⟨1,[2]⟩ Ko 2 qnv (.now ⟨2,[1,16]⟩ Kf 1 qnv qnv)
theorem Lj:bS k13 2:=.more ⟨2,[1,16]⟩ Kf 1 qnv (.now ⟨1,[2]⟩ Ko 2 qnv qnv)
theorem sw {P:Lk->Prop} (h0:P ⟨0,[]⟩) (h1:P ⟨1,[2]⟩) (h2:P ⟨2,[1,16]⟩) (h3:P ⟨3,[1,16]⟩) (h4:P ⟨16,[0]⟩):∀x∈k13,P x:=by
 intro x hx;unfold k13 at hx;simp only [List.mem_cons,List.not_mem_nil,or_false] at hx;rcases hx with rfl|rfl|rfl|rfl|rfl
 ·exact h0
 ·exact h1
 ·exact h2
 ·exact h3
 ·exact h4
theorem LB:¬bS k13 0:=fun h=>by
 have:=jk (P:=fun n=>n≠0) (sw (fun ⟨r,hr,_⟩=>by cases hr) (fun _=>by decide) (fun _=>by decide) (fun _=>by decide) (fun _=>by decide)) h;exact this rfl
theorem Gp:¬bS k13 16:=fun h=>by
 have:=jk (P:=fun n=>n≠0/\n≠16) (sw (fun ⟨r,hr,_⟩=>by cases hr) (fun _=>by decide) (fun _=>by decide) (fun _=>by decide) (fun ⟨r,hr,e⟩=>by
  simp at hr
  subst hr;simp at e)) h
 exact this.2 rfl
theorem KR:¬bS k13 3:=fun h=>by
 refine jk (P:=fun _=>False) (sw (fun ⟨r,hr,e⟩=>?_) (fun ⟨r,hr,e⟩=>?_) (fun ⟨r,hr,e⟩=>?_) (fun ⟨r,hr,e⟩=>?_) (fun ⟨r,hr,e⟩=>?_)) h;all_goals (simp at hr;try (rcases hr with rfl|rfl)<;>simp at e)
 all_goals (try (subst hr;simp at e))
theorem wW:sL l13:=vC yL
theorem Jl:bH F13 s13 (dd l13)=dd l13:=by
 have h:=wW.fix;rw [sH] at h;exact h
theorem Hq:fx s13:=by
 have h:=wW.okS;rw [sH] at h;exact h
theorem yO (h:bH F13 s13 f=f) (hq:q∈s13):f q.ix=g9 F13 s13 (ck s13 f) q:=by
 have h2:=jz (F:=F13) (f:=f) Hq hq;rw [h] at h2;exact h2
theorem zL (h:bH F13 s13 f=f) (hq:q∈s13) (hc:bS k13 q.ix):f q.ix=(0,4):=by
 rw [yO h hq];unfold g9;rw [if_pos (by rw [Ae];exact hc)]
theorem yW (h:bH F13 s13 f=f) (hq:q∈s13) (hc:¬bS k13 q.ix):f q.ix=match F13.tree q.text with
 |some t=>F13.val (ck s13 f) t
 |none=>(F13.num q.text,0):=by
 rw [yO h hq];unfold g9;rw [if_neg (by rw [Ae];exact hc)];cases F13.tree q.text<;>rfl
theorem sJ (h:bH F13 s13 f=f):f 0=(21,0):=by
 have e:=yW h (q:=xA1) (.head _) LB;have e2:F13.tree xA1.text=ZU:=qnx;rw [e2] at e;have e3:F13.num xA1.text=21:=qnx;rw [e3] at e;exact e
theorem yG (h:bH F13 s13 f=f):f 1=(0,4):=zL h (q:=xB1) (.tail _ (.head _)) KK
theorem zA (h:bH F13 s13 f=f):f 2=(0,4):=zL h (q:=xC1) (.tail _ (.tail _ (.head _))) Lj
theorem yM (h:bH F13 s13 f=f) (hq:q∈s13) (hc:¬bS k13 q.ix) (ht:F13.tree q.text=ZV t) {C:List Cel} (hC:∀p∈F13.rds t,cAt p.1 p.2 (ck s13 f)=cAt p.1 p.2 C):f q.ix=F13.val C t:=by
 have e:=yW h hq hc;rw [ht] at e;exact e.trans (AI.same t _ _ hC)
def t16:Tr:=trO [61,65,49,42,50]
def t3:Tr:=trO [61,73,70,40,65,50,62,52,49,44,65,50,44,66,49,41]
theorem No:F13.tree xA2.text=ZV t16:=by kernel_rfl
theorem OG:F13.tree xD1.text=ZV t3:=by kernel_rfl
theorem N5:F13.rds t16=[(0,0)]:=by kernel_rfl
theorem O1:F13.rds t3=[(1,0),(0,1)]:=by kernel_rfl
theorem vD (h:bH F13 s13 f=f):f 16=(42,0):=by
 have e:=yM h (q:=xA2) (.tail _ (.tail _ (.tail _ (.tail _ (.head _))))) Gp No (C:=[⟨0,0,21,0⟩]) (by
  intro p hp;rw [N5] at hp;rw [List.mem_singleton.1 hp];show cAt 0 0 (⟨0,0,(f 0).1,(f 0).2⟩::_)=_
  rw [sJ h,cAt,cAt];rfl)
 have e2:F13.val [⟨0,0,21,0⟩] t16=(42,0):=qnx;rw [e2] at e;exact e
theorem KP (h:bH F13 s13 f=f):f 3=(42,0):=by
 have e:=yM h (q:=xD1) (.tail _ (.tail _ (.tail _ (.head _)))) KR OG (C:=[⟨1,0,0,4⟩,⟨0,1,42,0⟩]) (by
  have hC:ck s13 f=[⟨0,0,21,0⟩,⟨1,0,0,4⟩,⟨2,0,0,4⟩,⟨3,0,(f 3).1,(f 3).2⟩,⟨0,1,42,0⟩]:=by
   show [(⟨0,0,(f 0).1,(f 0).2⟩:Cel),⟨1,0,(f 1).1,(f 1).2⟩,⟨2,0,(f 2).1,(f 2).2⟩,⟨3,0,(f 3).1,(f 3).2⟩,⟨0,1,(f 16).1,(f 16).2⟩]=_
   rw [sJ h,yG h,zA h,vD h]
  rw [hC];intro p hp;rw [O1] at hp;simp only [List.mem_cons,List.not_mem_nil,or_false] at hp;rcases hp with rfl|rfl
  ·simp [cAt]
  ·simp [cAt])
 have e2:F13.val [⟨1,0,0,4⟩,⟨0,1,42,0⟩] t3=(42,0):=qnx;rw [e2] at e;exact e
def c13:List Cel:=[⟨0,0,21,0⟩,⟨1,0,0,4⟩,⟨2,0,0,4⟩,⟨3,0,42,0⟩,⟨0,1,42,0⟩]
theorem ID (h:bH F13 s13 f=f):ck s13 f=c13:=by
 show [(⟨0,0,(f 0).1,(f 0).2⟩:Cel),⟨1,0,(f 1).1,(f 1).2⟩,⟨2,0,(f 2).1,(f 2).2⟩,⟨3,0,(f 3).1,(f 3).2⟩,⟨0,1,(f 16).1,(f 16).2⟩]=_
 rw [sJ h,yG h,zA h,vD h,KP h];rfl
theorem G4:ck (bu l13 1024) (dd l13)=c13:=by
 have h:=Jl;rw [sH];exact ID h
theorem sr (c r:Int) (w:Z3):Calls ZW 38 #[ZZ ZY c,ZZ ZY r] w fun e w'=>e=ZX (Zu #[ZZ ZY c,ZZ ZY r])/\Z2 w.heap.size w w':=by
 go_enter func38,ntmps38;go_wp2_with fail;refine bodyPost_ret (v:=Zu #[ZZ ZY c,ZZ ZY r]) (by simp [results,results38,go_sem]) rfl ⟨rfl,?_⟩;with_reducible repeat' (first|exact qb|exact qd|refine Below.setCell ?_ ?_ _|refine Below.alloc ?_ ?_ _)
 all_goals (simp;omega)
section
open Go.Maps
theorem sV {m:Nat} {A:Option Addr} {l:List Int} (h:bc w (fun k=>m<=k) A l) (hb:aP (fun k=>k=b) w w') (hm:b<m):bc w' (fun k=>m<=k) A l:=
 h.kept (hb.keptQ fun k hk e=>by omega)
theorem zN {n:Nat} (h:bG vlE w b n g) (hn:n<maxLen) {x:Int} (hx:KB x) (v:Int×Int):
 ∃w',(Instr.mapUpdate 113 (.map (ZV b)) (ZZ ZY x) (Zu #[ZZ ZY v.1,ZZ ZY v.2])).run ZW w=.ok () w'/\bG vlE w' b (n+1) (bJ g x v)/\aP (fun k=>k=b) w w':=by
 obtain ⟨w',h1,h2,h3,_⟩:=h.put vG hn hx v;exact ⟨w',h1,h2,oY h3⟩
theorem nX (l:List Src) (A:Option Addr) (ca:Nat) (w:Z3) (hl:fa w P A l) (hll:l.length<=60) (htx:∀q∈l,q.text.length<=300) (hE:cz w):
 Calls ZW 21 #[Zw A l.length ca] w (vP F13 plB w l):=by
 have hmm:=qfj;have HRd:=qf (FP l A ca w hl hll htx hE);have HL:=qf (fun W (hb:Z2 w.heap.size w W)=>hl.below hb);have HEn:=qfi;have HTx:=qf htx;clear hl htx hE;go_enter func21,ntmps21;go_wp2_with fail;refine HRd.out.mono ?_;rintro e w1 ⟨hb1,hcase⟩;have HB1:=qf hb1;clear hb1 HRd;rcases hcase with ⟨h0,S,rfl,hsp⟩|⟨h0,rfl⟩;rotate_left
 ·have hne:((cR plB l:Nat):Int)≠0:=by omega
  have hn2:(((cR plB l:Nat):Int) !=0)=Zy:=(by rw [bne_iff_ne];exact hne);have HF:Hid (vP F13 plB w l (ZX (.tuple #[Zw ZU 0 0,ZZ ZY (cR plB l:Nat)])) w1):=qf ⟨HB1.out,.inr ⟨h0,rfl⟩⟩;clear hne h0 HL HEn HTx hmm;generalize ((cR plB l:Nat):Int)=cc at*;exact qlh
 ·have hvs:=vC h0
  obtain ⟨z1,z2⟩:=fN h0;have HV:=qf hvs;have HSp:=qf (fun W (hb:Z2 w1.heap.size w1 W)=>hsp.below hb);have HLk:=qf (Bv l A ca w1 (HL.out w1 HB1.out) hll hvs.ok.1 z2 w.heap.size S hsp (HEn.out w1 HB1.out));have H0:=qf h0;have HD:=qf z2;clear h0 hsp z1 z2 hvs;go_wp2_with fail;refine HLk.out.mono ?_;rintro e w2 ⟨L,A2,c2,rfl,hrl,hls,hld,hb2⟩;have hLl:L.length=l.length:=(by have:=congrArg List.length hls;simpa [lkS,lkC] using this);have hmay:je (lkS L)=0:=(by rw [hls];exact Ev HV.out.kk (uX HV.out.ok));have HNw:=qf (GQ w2 L A2 c2 _ hrl qoq hld);have HB2:=qeH;have HW2:=qf hb2;clear hrl hld hb2 HLk;unfold pz at HNw;rw [hmay,hls] at HNw;clear hmay hls hLl;go_wp2_with fail;refine HNw.out.mono ?_;rintro e w3 ⟨hb3,hc3⟩;rcases hc3 with ⟨_,gp,rfl,hgp⟩|⟨hne,_⟩;rotate_left
  ·exact absurd rfl hne
  have HB3:=qdP;have HW3:=qf (HW2.out.trans (hb3.mono HW2.out.size));have hKk:=HV.out.kk;have hkl:(lkC F13 l).length<=60:=(by rw [vp];exact hll);obtain ⟨w4,hw4⟩:∃w4,w3.alloc (.map #[] 0)=w4:=⟨_,rfl⟩
  have hb4:Z2 w3.heap.size w3 w4:=(by rw [<-hw4];exact qa);have hm4:bG vlE w4 w3.heap.size 0 (fun _=>ZU):=(by rw [<-hw4];exact bG.made vlE w3);have HG:=qf (fun W (hb:Z2 w3.heap.size w3 W)=>(show ir W gp (lkC F13 l) from hgp.below hb));have HCy:=qf (ox w4 gp (lkC F13 l) (HG.out w4 hb4) hKk hkl);have HM4:=qf hm4;have HW4:=qf hb4;have hz4:w4.heap.size=w3.heap.size+1:=(by rw [<-hw4];simp);have HKk:=qf hKk;have HKl:=qf hkl;have HZ4:=qf hz4;have HE4:=qf hw4;clear hgp hb3 hm4 hb4 HNw HW2 hKk hkl hz4 hw4;go_wp2_with fail;clear hmm;rw [HE4.out];refine HCy.out.mono ?_;rintro e w5 ⟨A5,c5,rfl,hc5,hr5,hb5⟩;have HR5:=qf hr5;have HM5:=qf (HM4.out.below hb5);have HW5:=qf (HW4.out.trans (hb5.mono HW4.out.size));have HCm:Hid (∀n,n∈eO (lkC F13 l) 1024↔bS (lkC F13 l) n):=qf fun n=>jT HKk.out
  have hcl:(eO (lkC F13 l) 1024).length<=1024:=eF _ _;have hz4:=HZ4.out;have hz5:w4.heap.size<=w5.heap.size:=hb5.size;clear hz4 hr5 hb5 HCy HM4 HW4 HE4;obtain ⟨b,hbd⟩:∃b,w3.heap.size=b:=⟨_,rfl⟩
  rw [hbd] at HM5 ⊢;have HBd:=qf hbd;have hb4:b<w4.heap.size:=(by have:=HZ4.out;omega);clear hbd;generalize eO (lkC F13 l) 1024=CY at*;go_wp2_with fail;go_loopw [32] (fun vi wr=>∃(i:Nat) (g:Int->Option (Int×Int)),i<=CY.length/\vi=ZZ ZY (i:Int)/\Hid (bG vlE wr b i g)/\Hid (VSo l g (CY.take i))/\Hid (aP (fun k=>k=b) w5 wr)) (fun vi _=>CY.length - (RowKit.intOf vi).toNat)
  case atStart=>exact ⟨0,_,qe,rfl,HM5,qf (by rw [List.take_zero];exact VSo.nil l),qf (aP.refl _ _)⟩
  case round=>
   obtain ⟨i,g,hi,rfl,HM,HS,HB⟩:=hrel;clear HM5;by_cases hlt:i<CY.length
   ·obtain ⟨c,hc⟩:∃c,CY[i]? =ZV c:=⟨_,List.getElem?_eq_getElem hlt⟩
    have hcm:=(HCm.out c).1 (List.mem_of_getElem? hc);have hcn:=eW hcm
    have hck:KB c:=my (by
     obtain ⟨x,hx,e⟩:=hcn;rw [<-e];exact (HKk.out x hx).1)
    have hne:CY≠[]:=fun e=>by rw [e] at hlt;exact absurd hlt (Nat.not_lt_zero _)
    have hr:=sV HR5.out HB.out qoq;rcases hr with h0|⟨ga,oa,rfl,_,hgl,hca⟩
    ·exact absurd h0 hne
    have c0:=hca i c hc;obtain ⟨w6,hrun,hm6,hbu6⟩:=zN HM.out qnH hck (0,4);have HM6:=qf hm6
    have HS6:Hid (VSo l (bJ g c (0,4)) (CY.take (i+1))):=qf (by
     rw [List.take_add_one,hc];refine HS.out.next ?_ hcn;rw [<-HV.out.fix,gA HV.out.okS ((uS HV.out.mem).1 hcm)])
    have HB6:=qf (HB.out.trans hbu6);have hI:(i:Int)<(CY.length:Int):=qoq;have hJ:=qbX;clear hcm hcn hca hgl hm6 hbu6 HM HS HB hc;dsimp only at hrun;go_wp2_with fail;go_roundw
    case rel=>exact ⟨i+1,_,qoq,qnG,HM6,HS6,HB6⟩
    case measure=>exact qmy
   ·have hii:i=CY.length:=by omega
    subst hii;have hs:=HS.out;rw [List.take_length] at hs;have hW6:Z2 w3.heap.size w3 wr:=HW5.out.trans (HB.out.below (fun k hk e=>by have:=HBd.out;omega) HW5.out.size);have HS6:=qf hs;have HW6:=qf hW6;have HOr:=qf (AM wr gp (lkC F13 l) (HG.out wr hW6) HKk.out HKl.out);have hzr:=HB.out.size;clear hs hW6 HS HB HW5 HR5;obtain ⟨wa,hwa⟩:∃wa:Z3,wa=wr:=⟨wr,rfl⟩
    subst hwa;go_wp2_with fail;refine HOr.out.mono ?_;rintro e w7 ⟨A7,c7,rfl,hc7,hr7,hb7⟩;have HR7:=qf hr7;have HM7:=qf (HM.out.below hb7);have HW7:=qf (HW6.out.trans (hb7.mono HW6.out.size));have HTo:=qf (kj (lkC F13 l) 1024);have HOa:Hid (∀n,n∈gm (lkC F13 l) 1024↔isN (lkC F13 l) n/\¬bS (lkC F13 l) n):=qf fun n=>jY HKk.out rfl
    have hol:(gm (lkC F13 l) 1024).length<=1024:=jV HKk.out HTo.out;have hz7:b<wa.heap.size:=qoq;clear hr7 hb7 HOr HM HW6;generalize gm (lkC F13 l) 1024=OR at*;go_wp2_with fail;go_loopw [43] (fun vi wr=>∃(i:Nat) (g:Int->Option (Int×Int)),i<=OR.length/\vi=ZZ ZY (i:Int)/\Hid (bG vlE wr b (CY.length+i) g)/\Hid (VSo l g (CY++OR.take i))/\Hid (aP (fun k=>k=b) w7 wr)) (fun vi _=>OR.length - (RowKit.intOf vi).toNat)
    case atStart=>exact ⟨0,_,qe,rfl,HM7,qf (by rw [List.take_zero,List.append_nil];exact HS6.out),qf (aP.refl _ _)⟩
    case round=>
     obtain ⟨i,g,hi,rfl,HM,HS,HB⟩:=hrel;clear HM7 HS6;by_cases hlt:i<OR.length
     ·obtain ⟨c,hc⟩:∃c,OR[i]? =ZV c:=⟨_,List.getElem?_eq_getElem hlt⟩
      obtain ⟨hcn,hcc⟩:=(HOa.out c).1 (List.mem_of_getElem? hc);obtain ⟨q,hq,rfl⟩:=fL.1 hcn;have hck:KB q.ix:=ww (HV.out.ok.1 q hq);have hne:OR≠[]:=fun e=>by rw [e] at hlt;exact absurd hlt (Nat.not_lt_zero _)
      have hr:=sV HR7.out HB.out qoq;rcases hr with h0|⟨ga,oa,rfl,_,hgl,hca⟩
      ·exact absurd h0 hne
      have c0:=hca i q.ix hc;have hWr2:=qfd;have hW1r:Z2 w1.heap.size w1 wr:=HW3.out.trans (hWr2.mono HW3.out.size);have hWr0:Z2 w.heap.size w wr:=HB1.out.trans (hW1r.mono HB1.out.size)
      have hrk:=VSo.reck HV.out HS.out hq hcc fun x hx e r hrr hn=>by
       by_cases hcr:bS (lkC F13 l) r
       ·exact List.mem_append.2 (.inl ((HCm.out r).2 hcr))
       ·exact List.mem_append.2 (.inr (HTo.out.behind i q.ix hc x hx e r hrr hn hcr))
      have HRk:=qf (xT l q hq HD.out hck wr w.heap.size S (HSp.out wr hW1r) (HEn.out wr hWr0) b _ g HM.out HS.out.b64 (HTx.out q hq));rw [hrk] at HRk
      have HSn:Hid (VSo l (bJ g q.ix (dd l q.ix)) (CY++OR.take (i+1))):=qf (by
       rw [List.take_add_one,hc,<-List.append_assoc];exact HS.out.next rfl hcn)
      have HP:=qf (fun W (hb:Z2 wr.heap.size wr W)=>zN (HM.out.below hb) qnH hck (dd l q.ix));have hI:(i:Int)<(OR.length:Int):=qoq;have hJ:=qbX;have hzr:=HB.out.size;clear hcn hcc hca hgl HM HS hc hWr2 hW1r hWr0 hrk hq hck;generalize dd l q.ix=vv at*;generalize q.ix=IX at*;obtain ⟨vn,vf⟩:=vv;dsimp only at*;go_wp2_with fail;refine HRk.out.mono ?_;rintro e w8 ⟨rfl,hb8⟩;obtain ⟨w9,hrun,hm9,hbu9⟩:=HP.out w8 hb8;have HM9:=qf hm9;have HB9:=qf ((HB.out.trans (aP.of_below hb8)).trans hbu9);clear hm9 hbu9 hb8 HRk HP HB;go_wp2_with fail;go_roundw
      case rel=>exact ⟨i+1,_,qoq,qnG,HM9,HSn,HB9⟩
      case measure=>exact qmy
     ·have hii:i=OR.length:=by omega
      subst hii;have hs:=HS.out;rw [List.take_length] at hs;have hWr2:=qfd;have HWr:=qf (HB3.out.trans (hWr2.mono HB3.out.size));have HNd:=qf (lD wr gp (lkC F13 l) (HG.out wr hWr2) HKk.out)
      have hcel:=VSo.cells HV.out hs fun q hq=>by
       have hn:isN (lkC F13 l) q.ix:=fL.2 ⟨q,hq,rfl⟩;by_cases hcr:bS (lkC F13 l) q.ix
       ·exact List.mem_append.2 (.inl ((HCm.out _).2 hcr))
       ·exact List.mem_append.2 (.inr ((HOa.out _).2 ⟨hn,hcr⟩))
      have hnl:(bI (lkC F13 l) 1024).length<=1024:=eF _ _
      have HNk:Hid (∀r∈bI (lkC F13 l) 1024,KB r):=qf fun r hr=>my (by
       obtain ⟨x,hx,e⟩:=(dP HKk.out).1 hr;rw [<-e];exact (HKk.out x hx).1)
      have HMr:=qf (fun W (hb:Z2 wr.heap.size wr W)=>HM.out.below hb);have HCe:=qf hcel;have HH0:Hid (cR plB l=0):=H0;clear hs hWr2 HS HB HM hcel;generalize bI (lkC F13 l) 1024=ND at*;go_wp2_with fail;refine HNd.out.mono ?_;rintro e w8 ⟨v8,rfl,ho8,hb8⟩;obtain ⟨A8,c8,rfl,_,hr8⟩:=dt ho8;have HCl:=qf (oe g b _ ND A8 c8 w8 (HMr.out w8 hb8) hr8 qoq HNk.out);rw [HCe.out] at HCl;have HB8:=qf (HWr.out.trans (hb8.mono HWr.out.size));clear ho8 hb8 hr8 HNd HMr;go_wp2_with fail;refine HCl.out.mono ?_;rintro e w9 ⟨v9,rfl,ho9,hb9⟩;obtain ⟨A9,c9,rfl,_,hr9⟩:=mX ho9;have HF:Hid (vP F13 plB w l (ZX (.tuple #[Zw A9 (ck (bu l 1024) (dd l)).length c9,ZZ ZY 0])) w9):=qf ⟨HB8.out.trans (hb9.mono HB8.out.size),.inl ⟨HH0.out,A9,c9,rfl,hr9.mono fun k hk _=>Nat.le_trans HB8.out.size hk⟩⟩;clear ho9 hb9 hr9 HCl HCe;exact qlh
end
theorem Cd:∀q∈l13,q.text.length<=300:=by
 have h:(l13.all fun q=>decide (q.text.length<=300))=Zy:=qnx;intro q hq;exact of_decide_eq_true (List.all_eq_true.1 h q hq)
theorem Jy (w:Z3):fa (w.alloc (.cells #[ZZ ZY 0,ZZ ZY 1,Zx ⟨#[61,65,49,42,50]⟩,ZZ ZY 0,ZZ ZY 0,Zx ⟨#[50,49]⟩,ZZ ZY 1,ZZ ZY 0,Zx ⟨#[61,67,49]⟩,ZZ ZY 2,ZZ ZY 0,Zx ⟨#[61,66,49,43,65,50]⟩,ZZ ZY 3,ZZ ZY 0,Zx ⟨#[61,73,70,40,65,50,62,52,49,44,65,50,44,66,49,41]⟩] 85)) (fun _=>True) (ZV ⟨w.heap.size,0,ZU⟩) l13:=by
 refine .inr ⟨w.heap.size,0,rfl,trivial,qns,fun i q hi j u hj=>?_⟩;rw [Nat.zero_add,Lib.cell_of_heap (heap_alloc_new w _) (i*3+j)];have:=jH (f:=srW) (n:=3) (fun _=>rfl) l13 i q hi j u hj;have hc:(#[ZZ ZY 0,ZZ ZY 1,Zx ⟨#[61,65,49,42,50]⟩,ZZ ZY 0,ZZ ZY 0,Zx ⟨#[50,49]⟩,ZZ ZY 1,ZZ ZY 0,Zx ⟨#[61,67,49]⟩,ZZ ZY 2,ZZ ZY 0,Zx ⟨#[61,66,49,43,65,50]⟩,ZZ ZY 3,ZZ ZY 0,Zx ⟨#[61,73,70,40,65,50,62,52,49,44,65,50,44,66,49,41]⟩]:Array Value).toList=l13.flatMap srW:=rfl;rw [<-hc] at this;simpa using this
theorem LC (l:List Src):ff F13 (bu l 1024) ((bu l 1024).length+1)=dd l:=by unfold dd;rfl
def LvQ (w:Z3) (e:Ending) (w':Z3):Prop:=∃g o c,e=ZX (.tuple #[Zw (ZV ⟨g,o,ZU⟩) 5 c,ZZ ZY 0])/\Z2 w.heap.size w w'/\AtR clW 4 w' g o c13
theorem Ip (h:vP F13 plB w l13 e w'):LvQ w e w':=by
 unfold vP at h;rw [LC,G4] at h;obtain ⟨hb,h|h⟩:=h
 ·obtain ⟨_,A,c,rfl,hr⟩:=h
  rcases hr with hr|⟨g,o,rfl,_,_,hat⟩
  ·cases hr
  ·exact ⟨g,o,c,rfl,hb,hat⟩
 ·exact absurd yL h.1
theorem Ad (c r n f:Int) (W:Z3):(binOp .eql 63 (Zu #[ZZ ZY c,ZZ ZY r,ZZ ZY n,ZZ ZY f]) (Zu #[ZZ ZY c,ZZ ZY r,ZZ ZY n,ZZ ZY f])).run ZW W=.ok (.bool Zy) W:=by
 rw [run_eql_struct,run_equalIn_agg W 9999 63 _ _ Fs G2];simp [go_sem]
theorem rQ:li:=by
 intro w hE;have H1:=qf (ku Js qnv w hE);have H2:=qf (fun W (hb:Z2 w.heap.size w W)=>ku [61,49,43] qnv W (hE.below hb));have HV:=qf (fun (W:Z3) (hb:Z2 w.heap.size w W)=>(nX l13 _ 5 _ (Jy W) qnv Cd (hE.below (hb.alloc hb.size _))).mono (R':=LvQ _) fun e w' k=>Ip k);rw [LM] at H1;rw [LE] at H2;unfold RN Js Ow at H1;unfold RN at H2;dsimp only at H1 H2;clear hE;go_enter func8,ntmps8;go_wp2_with fail;refine H1.out.mono ?_;rintro e w1 ⟨rfl,hb1⟩;have HB1:=qf hb1;clear hb1 H1;go_wp2_with fail;refine (H2.out _ HB1.out).mono ?_;rintro e w2 ⟨rfl,hb2⟩;have HB2:=qeH;clear hb2 H2 HB1;go_wp2_with fail;refine .mono qsq ?_;rintro e w3 ⟨rfl,hb3⟩;have HB3:=qdP;clear hb3 HB2;go_wp2_with fail;refine .mono qsq ?_;rintro e w4 ⟨rfl,hb4⟩;have HB4:=qf (HB3.out.trans (hb4.mono HB3.out.size));clear hb4 HB3;go_wp2_with fail;refine .mono qsq ?_;rintro e w5 ⟨rfl,hb5⟩;have HB5:=qf (HB4.out.trans (hb5.mono HB4.out.size));clear hb5 HB4;go_wp2_with fail;refine .mono qsq ?_;rintro e w6 ⟨rfl,hb6⟩;have HB6:=qgj;clear hb6 HB5;go_wp2_with fail;refine .mono qsq ?_;rintro e w7 ⟨rfl,hb7⟩;have HB7:=qf (HB6.out.trans (hb7.mono HB6.out.size));clear hb7 HB6;go_wp2_with fail;have HVl:=qf (HV.out w7 HB7.out);clear HV;refine HVl.out.mono ?_;rintro e w8 ⟨g,o,c,rfl,hb8,hat⟩;have HB8:=qf ((HB7.out.alloc HB7.out.size _).trans (hb8.mono (by simp;have:=HB7.out.size;omega)))
 have HC:=qf (fun W (hb:Z2 w8.heap.size w8 W)=>(show W.cell? ⟨g,o,ZU⟩=ZV (ZZ ZY 0)/\W.cell? ⟨g,o+1,ZU⟩=ZV (ZZ ZY 0)/\W.cell? ⟨g,o+2,ZU⟩=ZV (ZZ ZY 21)/\W.cell? ⟨g,o+3,ZU⟩=ZV (ZZ ZY 0)/\W.cell? ⟨g,o+7,ZU⟩=ZV (ZZ ZY 4)/\W.cell? ⟨g,o+11,ZU⟩=ZV (ZZ ZY 4)/\W.cell? ⟨g,o+14,ZU⟩=ZV (ZZ ZY 42)/\W.cell? ⟨g,o+15,ZU⟩=ZV (ZZ ZY 0)/\W.cell? ⟨g,o+16,ZU⟩=ZV (ZZ ZY 0)/\W.cell? ⟨g,o+17,ZU⟩=ZV (ZZ ZY 1)/\W.cell? ⟨g,o+18,ZU⟩=ZV (ZZ ZY 42)/\W.cell? ⟨g,o+19,ZU⟩=ZV (ZZ ZY 0) from ⟨aa hb (hat 0 _ rfl 0 _ rfl),aa hb (hat 0 _ rfl 1 _ rfl),aa hb (hat 0 _ rfl 2 _ rfl),aa hb (hat 0 _ rfl 3 _ rfl),aa hb (hat 1 _ rfl 3 _ rfl),aa hb (hat 2 _ rfl 3 _ rfl),aa hb (hat 3 _ rfl 2 _ rfl),aa hb (hat 3 _ rfl 3 _ rfl),aa hb (hat 4 _ rfl 0 _ rfl),aa hb (hat 4 _ rfl 1 _ rfl),aa hb (hat 4 _ rfl 2 _ rfl),aa hb (hat 4 _ rfl 3 _ rfl)⟩));have hG1:=fun X Y W=>tw .eql X Y #[ZZ ZY 0,ZZ ZY 0,ZZ ZY 21,ZZ ZY 0] #[ZZ ZY 0,ZZ ZY 0,ZZ ZY 21,ZZ ZY 0] W
 have hG2:=fun X Y W=>tw .eql X Y #[ZZ ZY 0,ZZ ZY 1,ZZ ZY 42,ZZ ZY 0] #[ZZ ZY 0,ZZ ZY 1,ZZ ZY 42,ZZ ZY 0] W
 have hG3:=fun X Y W=>i8 .eql X Y #[ZZ ZY 42,ZZ ZY 0] #[ZZ ZY 42,ZZ ZY 0] W
 have hE1:=fun W=>Ad 0 0 21 0 W
 have hE2:=fun W=>Ad 0 1 42 0 W
 have hE3:=fun W=>Eg 42 0 W
 clear hb8 HVl HB7;go_wp2_with fail;clear hat
 go_region_held3 (fun w'=>w'.cell? ⟨g,o,ZU⟩=ZV (ZZ ZY 0)/\w'.cell? ⟨g,o+1,ZU⟩=ZV (ZZ ZY 0)/\w'.cell? ⟨g,o+2,ZU⟩=ZV (ZZ ZY 21)/\w'.cell? ⟨g,o+3,ZU⟩=ZV (ZZ ZY 0)/\w'.cell? ⟨g,o+7,ZU⟩=ZV (ZZ ZY 4)/\w'.cell? ⟨g,o+11,ZU⟩=ZV (ZZ ZY 4)/\w'.cell? ⟨g,o+14,ZU⟩=ZV (ZZ ZY 42)/\w'.cell? ⟨g,o+15,ZU⟩=ZV (ZZ ZY 0)/\w'.cell? ⟨g,o+16,ZU⟩=ZV (ZZ ZY 0)/\w'.cell? ⟨g,o+17,ZU⟩=ZV (ZZ ZY 1)/\w'.cell? ⟨g,o+18,ZU⟩=ZV (ZZ ZY 42)/\w'.cell? ⟨g,o+19,ZU⟩=ZV (ZZ ZY 0))
  (first|with_reducible exact k9|with_reducible exact k8|(exact HC.out _ qsQ)|fail)
  (first
  |(go_at_call 38;refine (sr 0 0 _).mono ?_;rintro e w9 ⟨rfl,hb9⟩
    have HB9:=qf (show Z2 w8.heap.size w8 w9 from Below.trans qsQ hb9);have k8:=HC.out w9 HB9.out;clear hb9)
  |(go_at_call 38;refine (sr 0 1 _).mono ?_;rintro e w10 ⟨rfl,hb10⟩
    have HB10:=qf (HB9.out.trans (hb10.mono HB9.out.size));have k9:=HC.out w10 HB10.out;clear hb10)
  |fail)
 all_goals
  go_wp2_with fail;go_ret;exact ⟨rfl,HB8.out.trans (HB10.out.mono HB8.out.size)⟩
