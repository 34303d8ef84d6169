import Derived.Test.YteglaomdgdkibaaGreatDoorJNS33
import Derived.Shelf.Slices.Empties
import Derived.Test.YteglaomdgdkibaaGreatDoorJQNSP
import Derived.Test.YteglaomdgdkibaaGreatDoorJQNSW
import Derived.Test.YteglaomdgdkibaaGreatDoorJQNSX
set_option linter.all false
set_option maxHeartbeats 0
set_option maxRecDepth 99999
namespace Go.Proofs.YteglaomdgdkibaaGreatDoor
open Go.RowKit
open Value renaming int→ZZ,slice→Zw,pointer→Zv
open IntKind renaming i64→ZY
open Ending renaming returned→ZX
open RowKit renaming Below→Z2
open Go renaming World→Z3
open Tryz
open Tryz renaming prog→ZW
open Option renaming some→ZV,none→ZU
open Bool renaming false→Zz
variable {B0 base c h i k lc mt:Nat}{fr:Nat×Nat}{w w':World}{l ns:List Int}{r:Loop}{L:List Lk}{A:Option Addr}{P Q:Nat->Prop}{v:Value}{x:Int}{s:Sl}
section
open Go.Maps Go.Sort Go.Shelf
attribute [local go_sem] Oper.semAt_some
theorem nU {V:Z3} {B:Nat} {c:Array Value} {T:TypeId} (h1:V.heap[B]? =ZV (.cells c T fr)) (j:Nat) (v:Value):(V.setCell ⟨B,j,ZU⟩ v).heap[B]? =ZV (.cells (c.setIfInBounds j v) T fr):=by
 have hlt:=(Array.getElem?_eq_some_iff.1 h1).1;exact qjk
theorem mE {l:Nat} {cs:Array Value} {T:TypeId} (hk:w.heap[k]? =ZV (.cells cs T fr)) (hl:w.heap[l]? =ZV (.loop r)) (o:Obj):(w.putObj l o).heap[k]? =w.heap[k]? :=cI o fun e=>by
 rw [e,hl] at hk;cases hk
def CyI (L:List Lk) (ns:List Int) (B0 mt lc:Nat) (i:Nat) (V:Z3):Prop:=∃(C:List Int) (M:Int->Bool) (vl:Value),V.heap[lc]? =ZV (.cells #[vl] 49 (0,0))/\av 3 1 inW B0 V vl C/\MkG V mt M/\Kos L (ns.drop (ns.length - i)) C M
theorem CyI.grow {A B:Z3} (hb:Z2 A.heap.size A B) (h:CyI L ns B0 mt lc i A):CyI L ns B0 mt lc i B:=by
 obtain ⟨C,M,vl,h1,h2,h3,h4⟩:=h;exact ⟨C,M,vl,(hb.block _ (Array.getElem?_eq_some_iff.1 h1).1).trans h1,h2.below hb,h3.below hb,h4⟩
theorem CyI.turn {l:Nat} {A:Z3} (o:Obj) (hl:A.heap[l]? =ZV (.loop r)) (h:CyI L ns B0 mt lc i A):CyI L ns B0 mt lc i (A.putObj l o):=by
 obtain ⟨C,M,vl,h1,h2,h3,h4⟩:=h;refine ⟨C,M,vl,(mE h1 hl o).trans h1,ownsRow_putObj h2 o hl rfl,?_,h4⟩;obtain ⟨c,m1,m2,m3⟩:=h3;exact ⟨c,(mE m1 hl o).trans m1,m2,m3⟩
def CyC (w W1:Z3):Nat->Prop:=fun k=>k=w.heap.size+1\/k=w.heap.size+1+1\/W1.heap.size+2<=k
theorem pT {q:Int} (h:l.reverse[i]? =ZV q):l.drop (l.length - (i+1))=q::l.drop (l.length - i):=by
 have hi:i<l.length:=(by have:=(List.getElem?_eq_some_iff.1 h).1;rwa [List.length_reverse] at this);rw [List.getElem?_reverse hi] at h;have hlt:l.length - (i+1)<l.length:=qoq;rw [List.drop_eq_getElem_cons hlt];rw [show l.length - 1 - i=l.length - (i+1) from by omega,List.getElem?_eq_getElem hlt] at h;rw [Option.some.inj h,show l.length - (i+1)+1=l.length - i from by omega]
theorem ox (w:Z3) (g:Nat) (L:List Lk) (hP:ir w g L) (hk:OkK L) (hL:L.length<=60):
 Calls ZW 56 #[Zv (ZV ⟨g,0,ZU⟩)] w fun e w'=>Gs w (eO L 1024) e w':=by
 obtain ⟨i0,hi0,hz0,hz1,hz2⟩:=info_parts gO;obtain ⟨Wa,hWa⟩:∃Wa,((w.alloc (.cells #[Zv (ZV ⟨g,0,ZU⟩)] 109)).alloc (.cells zeroCells153 153)).alloc (.cells #[Zw ZU 0 0] 49)=Wa:=⟨_,rfl⟩
 have hba:Z2 w.heap.size w Wa:=(by rw [<-hWa];exact (qa.alloc qns _).alloc qnu _);have hza:Wa.heap.size=w.heap.size+3:=(by rw [<-hWa];simp);have hcg:Wa.cell? ⟨w.heap.size,0,ZU⟩=ZV (Zv (ZV ⟨g,0,ZU⟩)):=(by rw [<-hWa];simp [go_sem])
 have hmk:MkG Wa (w.heap.size+1) (fun _=>Zz):=by
  have h1:MkG _ _ _:=Ar.made (T:=153) (enc:=Value.bool) oj (w.alloc (.cells #[Zv (ZV ⟨g,0,ZU⟩)] 109));rw [show (w.alloc (.cells #[Zv (ZV ⟨g,0,ZU⟩)] 109)).heap.size=w.heap.size+1 from by simp] at h1;rw [<-hWa];exact h1.below qa
 have hlc:Wa.heap[w.heap.size+1+1]? =ZV (.cells #[Zw ZU 0 0] 49 (0,0)):=by
  have h1:=heap_alloc_new ((w.alloc (.cells #[Zv (ZV ⟨g,0,ZU⟩)] 109)).alloc (.cells zeroCells153 153)) (.cells #[Zw ZU 0 0] 49);rw [show ((w.alloc (.cells #[Zv (ZV ⟨g,0,ZU⟩)] 109)).alloc (.cells zeroCells153 153)).heap.size=w.heap.size+1+1 from by simp] at h1;rw [<-hWa];exact h1
 have HBe:=qf (Cs Wa g L (hP.below hba) hk);have HP:=qgy;have HBa:=qf hba;have HK:=qfq;have HMk:=qf hmk;have HLc:=qf hlc;clear hP hmk hk;refine (callsIn_wide (n:=9)).1 (callsIn_of_wp_marks func56 rfl trivial ?_ rfl);simp only [ntmps56,List.size_toArray,List.length_cons,List.length_nil,Nat.reduceAdd,Nat.reduceSub,Array.replicate_succ,Array.replicate_zero,List.push_toArray,List.append_toArray,List.nil_append,List.cons_append];gi_wp2
 refine ⟨trivial,?_⟩;refine (callsIn_wide.2 HBe.out).mono ?_;rintro e w1 ⟨ns,v,rfl,ho,hF,hd,hall,hok,hln,hb1⟩;obtain ⟨A,cap,rfl,hcap,hA0,hrn⟩:=iC ho
 have hnA:∀k,(ns≠[]/\∃o,A=ZV ⟨k,o,ZU⟩)->Wa.heap.size<=k/\k<w1.heap.size:=by
  rintro k ⟨hne,o,e⟩;rcases hrn with h|⟨g',o',e',hp,hl,_⟩
  ·exact absurd h hne
  ·rw [e] at e';cases e';exact ⟨hp,hl⟩
 have hrb:xn w1 A ns:=fun hne=>by
  rcases hrn with h|⟨g',o',e',hp,hl,hh⟩
  ·exact absurd h hne
  ·exact ⟨g',o',e',fun i x hi=>iO hh hi⟩
 obtain ⟨W1,hW1⟩:∃W1,w1.alloc (.cells #[Zw A ns.length cap] 49)=W1:=⟨_,rfl⟩
 have hb11:Z2 w1.heap.size w1 W1:=(by rw [<-hW1];exact qa);have hz1':W1.heap.size=w1.heap.size+1:=qrc;have hs0:W1.cell? ⟨w1.heap.size,0,ZU⟩=ZV (Zw A ns.length cap):=(by rw [<-hW1];simp [go_sem]);have hzw:=hb1.size;have hbW:Z2 Wa.heap.size Wa W1:=hb1.trans (hb11.mono hzw);have hbw:Z2 w.heap.size w W1:=hba.trans (hbW.mono qoq);have hmk1:MkG W1 (w.heap.size+1) (fun _=>Zz):=HMk.out.below hbW;have hlc1:W1.heap[w.heap.size+1+1]? =ZV (.cells #[Zw ZU 0 0] 49 (0,0)):=(hbW.block _ qoq).trans hlc;have hcg1:W1.cell? ⟨w.heap.size,0,ZU⟩=ZV (Zv (ZV ⟨g,0,ZU⟩)):=(hbW.cell (p:=⟨w.heap.size,0,ZU⟩) (by show w.heap.size<_;omega)).trans hcg;have hml:ns.length<=maxLen:=qnH;have HG:=qf (fun w2=>FH A cap ns.length w2);have HFi:=qf hF;have HNd:=qf hd;have HAl:=qf hall;have HOk:=qf hok;clear hcg hlc ho hrn hF hd hall hok HMk HLc HBe;gi_wp2
 refine ⟨trivial,?_⟩;refine (callsIn_wide.2 (HG.out _)).mono ?_;rintro e w2 ⟨rfl,rfl⟩;rw [hW1];clear HG;gi_wp2
 refine Es (gf:=151) (lb:=#[Zv (ZV ⟨w1.heap.size,0,ZU⟩)]) rfl (enters_of func151 qnx rfl)
  (vh hml hs0 (hrb.below hb11)) qb (fun x args h=>by obtain ⟨i,rfl⟩:=h;rfl)
  (CyC w W1) (by
    rintro k hk;have hk2:k<Wa.heap.size\/W1.heap.size+2<=k:=(by rcases hk with h|h|h<;>omega);refine ⟨qoq,?_⟩;rintro (h|h)
    ·omega
    ·have:=hnA _ h;omega) (by rintro k (rfl|h);omega;have:=(hnA _ h).2;omega)
  (fun i V=>CyI L ns (W1.heap.size+2) (w.heap.size+1) (w.heap.size+1+1) i V) (fun _ _=>False)
  (fun i A B hab h=>h.grow hab) (fun i A l r o hl h=>h.turn o hl) (fun _ _ _ _ _ _ h=>h)
  ⟨[],fun _=>Zz,_,hlc1,World.ownsRow_nil _ _ _ _,hmk1,(by rw [Nat.sub_zero,List.drop_length];exact Kos.start L)⟩
  (fun q a' V=>∃(i:Int),a'={ tmps:=#[Zv (ZV ⟨g,0,ZU⟩),Zv (ZV ⟨w.heap.size,0,ZU⟩),Zw ZU 0 0,Zv (ZV ⟨w.heap.size+1,0,ZU⟩),Zv (ZV ⟨w.heap.size+1+1,0,ZU⟩),undef,ZZ ZY q,Zv (ZV ⟨g,0,ZU⟩),.bool Zz,Zv (ZV ⟨g,0,ZU⟩),Zw A ns.length cap,.func (.func 151) #[] #[Zv (ZV ⟨w1.heap.size,0,ZU⟩)],ZZ ZY i,ZZ ZY q,undef,undef,undef,undef,undef,undef,undef,undef,undef,undef,undef],defers:=[] })
  (fun x a' V l' r o hl h=>h)
  ?assign ?body ?done ?stop
 case assign=>
  rintro l' i x args V K hx ⟨ix,rfl⟩ hz hK;gi_wp2
  exact hK _ _ qb ⟨ix,rfl⟩
 case body=>
  rintro l' i n a' V hx hsV hz2V ⟨C,M,vl,hcl,hov,hmk,hkos⟩ ⟨ix,rfl⟩;gi_wp2
  have hc0:V.cell? ⟨w.heap.size+1+1,0,ZU⟩=ZV vl:=(by rw [Lib.cell_of_heap hcl];rfl);have hc1:V.cell? ⟨w.heap.size,0,ZU⟩=ZV (Zv (ZV ⟨g,0,ZU⟩)):=hsV.cell (by rintro (h|h|h)<;>simp at h<;>omega) hcg1;have HBV:∀X,Z2 V.heap.size V X->X.cell? ⟨w.heap.size+1+1,0,ZU⟩=ZV vl/\X.cell? ⟨w.heap.size,0,ZU⟩=ZV (Zv (ZV ⟨g,0,ZU⟩)):=fun X hb=>⟨aa hb hc0,aa hb hc1⟩
  have hc0a:=(HBV V.drew (Below.drew qb)).1;have hc1a:=(HBV V.drew (Below.drew qb)).2;have hbq:∀q,Z2 V.heap.size V (V.alloc (.cells #[q] 3)).drew:=fun q=>Below.drew qa
  have hc0b:∀q,(V.alloc (.cells #[q] 3)).drew.cell? ⟨w.heap.size+1+1,0,ZU⟩=ZV vl:=fun q=>(HBV _ (hbq q)).1
  have hc1b:∀q,(V.alloc (.cells #[q] 3)).drew.cell? ⟨w.heap.size,0,ZU⟩=ZV (Zv (ZV ⟨g,0,ZU⟩)):=fun q=>(HBV _ (hbq q)).2
  have hn:n∈ns:=List.mem_reverse.1 (List.mem_of_getElem? hx);have hokn:=HOk.out n hn;obtain ⟨j,rfl⟩:∃j:Nat,n=(j:Int):=⟨n.toNat,(by unfold okN at hokn;omega)⟩
  have hj1:j<1024:=(by unfold okN at hokn;omega);have hwV:Z2 w.heap.size w V:=hbw.trans (hsV.below (fun k hk h=>by rcases h with h|h|h<;>omega) qoq);have hzV:W1.heap.size<=V.heap.size:=qoq;have HCal:=qf (yr w _ g L HP.out (hwV.trans ((hbq (ZZ ZY (j:Int))).mono qoq)) HK.out hL (w.heap.size+1) qoq M (hmk.below (hbq (ZZ ZY (j:Int)))) [(j:Int)] (ZV ⟨V.heap.size,0,ZU⟩) 1 (Q:=fun _=>True) ((gy V (j:Int)).below (Below.drew qb)) qns (fun x hx=>(List.mem_singleton.1 hx).symm▸uF hokn))
  have hfin:∀(w3:Z3) (found:List Int) (M':Int->Bool) (O:Option Addr),HgI L M [(j:Int)] found M'->(∀n,n∈found↔Hng (unm L M) [(j:Int)] n)->MkG w3 (w.heap.size+1) M'->eD w3 (fun h=>(V.alloc (.cells #[ZZ ZY (j:Int)] 3)).drew.heap.size<=h) O found->bk (w.heap.size+1) (V.alloc (.cells #[ZZ ZY (j:Int)] 3)).drew w3->
   w3.cell? ⟨w.heap.size+1+1,0,ZU⟩=ZV vl/\w3.frozen? ⟨w.heap.size+1+1,0,ZU⟩=Zz/\∀c:Nat,∃A5 n5 c5 w5,(Builtin.append_ #[49,49] 49 #[vl,Zw O found.length c]).run ZW w3=.ok (Zw A5 n5 c5) w5/\w5.cell? ⟨w.heap.size+1+1,0,ZU⟩=ZV vl/\w5.frozen? ⟨w.heap.size+1+1,0,ZU⟩=Zz/\
    ((w5.setCell ⟨w.heap.size+1+1,0,ZU⟩ (Zw A5 n5 c5)).cell? ⟨w.heap.size+1,j,ZU⟩=ZV (.bool (M' (j:Int)))/\(w5.setCell ⟨w.heap.size+1+1,0,ZU⟩ (Zw A5 n5 c5)).frozen? ⟨w.heap.size+1,j,ZU⟩=Zz)/\Sav (CyC w W1) V ((w5.setCell ⟨w.heap.size+1+1,0,ZU⟩ (Zw A5 n5 c5)).setCell ⟨w.heap.size+1,j,ZU⟩ (.bool true))/\CyI L ns (W1.heap.size+2) (w.heap.size+1) (w.heap.size+1+1) (i+1) ((w5.setCell ⟨w.heap.size+1+1,0,ZU⟩ (Zw A5 n5 c5)).setCell ⟨w.heap.size+1,j,ZU⟩ (.bool true)):=by
   intro w3 found M' O hI hf hM3 hr3 hbt;have hVl:V.heap.size<(V.alloc (.cells #[ZZ ZY (j:Int)] 3)).drew.heap.size:=qns;have hl3:w3.heap[w.heap.size+1+1]? =ZV (.cells #[vl] 49 (0,0)):=(hbt.block _ qoq qoq).trans (((hbq (ZZ ZY (j:Int))).block _ qoq).trans hcl)
   have ho3:av 3 1 inW (W1.heap.size+2) w3 vl C:=av.block (hov.below (hbq (ZZ ZY (j:Int)))) fun q hq=>by
    have:=World.ownsRow.lt (hov.below (hbq (ZZ ZY (j:Int)))) q hq;exact hbt.block _ this.2 qoq
   have h30:w3.cell? ⟨w.heap.size+1+1,0,ZU⟩=ZV vl:=(by rw [Lib.cell_of_heap hl3];rfl);have h31:w3.frozen? ⟨w.heap.size+1+1,0,ZU⟩=Zz:=mc hl3 0;refine ⟨h30,h31,fun c=>?_⟩
   have hCl:C.length<=60:=Nat.le_trans (kh (L:=L) hkos.nd fun x hx=>by
    obtain ⟨m,_,hs⟩:=(hkos.mem x).1 hx;exact eW hs.1) hL
   have hfl:found.length<=60:=Nat.le_trans hI.len hL;have hz3:=hbt.size;obtain ⟨v5,w5,hrun,ho5,hg5,hat5⟩:=sT (c2:=c) 49 ho3 hr3.row hi0 hz0 hz1 hz2 rfl qoq qoq
   obtain ⟨A5,n5,rfl⟩:∃A5 n5,v5=Zw A5 (C++found).length n5:=by
    obtain ⟨A5,n5,e,_⟩:=dt ho5;exact ⟨A5,n5,e⟩
   have hown3:∀q,vl.ownBlock=ZV q->W1.heap.size+2<=q:=fun q hq=>(World.ownsRow.lt ho3 q hq).1
   have hl5:w5.heap[w.heap.size+1+1]? =ZV (.cells #[vl] 49 (0,0)):=(hg5.block _ (Array.getElem?_eq_some_iff.1 hl3).1 (fun e=>by have:=hown3 _ e.symm;omega)).trans hl3;have hM5:MkG w5 (w.heap.size+1) M':=hM3.world (hg5.block _ hM3.lt fun e=>by have:=hown3 _ e.symm;omega);have hM6:MkG (w5.setCell ⟨w.heap.size+1+1,0,ZU⟩ (Zw A5 (C++found).length n5)) (w.heap.size+1) M':=hM5.world (Below.heap_setCell _ _ _ _ (by show w.heap.size+1≠w.heap.size+1+1;omega));have hl6:(w5.setCell ⟨w.heap.size+1+1,0,ZU⟩ (Zw A5 (C++found).length n5)).heap[w.heap.size+1+1]? =ZV (.cells #[Zw A5 (C++found).length n5] 49 (0,0)):=nU hl5 0 (Zw A5 (C++found).length n5);have hown5:∀q,(Value.slice A5 (C++found).length n5).ownBlock=ZV q->W1.heap.size+2<=q:=fun q hq=>(World.ownsRow.lt ho5 q hq).1
   have ho6:av 3 1 inW (W1.heap.size+2) (w5.setCell ⟨w.heap.size+1+1,0,ZU⟩ (Zw A5 (C++found).length n5)) (Zw A5 (C++found).length n5) (C++found):=av.block ho5 fun q hq=>Below.heap_setCell _ _ _ q (fun e=>by have h1:=hown5 q hq;have h2:q=w.heap.size+1+1:=e;omega)
   refine ⟨A5,(C++found).length,n5,w5,hrun,(by rw [Lib.cell_of_heap hl5];rfl),mc hl5 0,hM6.cell hj1,?_,?_⟩
   ·refine Sav.setCell (Sav.setCell ?_ (.inl (.inr (.inl rfl))) 0 (Zw A5 (C++found).length n5)) (.inl (.inl rfl)) j (.bool true)
    refine (Sav.of_below (hbq (ZZ ZY (j:Int)))).trans ?_;exact ⟨hg5.os.trans hbt.os,hg5.tape.trans hbt.tape,hg5.output.trans hbt.output,Nat.le_trans hbt.size hg5.size,fun k hk hn=>(hg5.block k qoq (fun e=>hn (.inr (.inr (hown3 k e.symm))))).trans (hbt.block k hk (fun e=>hn (.inl e)))⟩
   ·refine ⟨C++found,cT M' (j:Int),Zw A5 (C++found).length n5,?_,av.block ho6 (fun q hq=>Below.heap_setCell _ _ _ q (fun e=>by have h1:=hown5 q hq;have h2:q=w.heap.size+1:=e;omega)),hM6.set (enc:=Value.bool) (j:=j) true,?_⟩
    ·rw [Below.heap_setCell _ _ _ _ (by show w.heap.size+1+1≠w.heap.size+1;omega)];exact hl6
    ·rw [pT hx]
     have hi:i<ns.length:=(by have:=(List.getElem?_eq_some_iff.1 hx).1;rwa [List.length_reverse] at this);refine hkos.step (l:=ns) (l1:=ns.take (ns.length - (i+1))) HFi.out HAl.out HNd.out ?_ hI hf;rw [<-pT hx,List.take_append_drop]
  have HFin:=qf hfin;clear hfin hcl hov hmk hkos hbq HBV hwV hx hn hokn;refine wpIn_region_any qnx ?_;change wpAnyIn _ _ _ _ _ _ _ _ _ (World.drew _)
  refine wpAnyIn_ready (rs:=[0,1,2]) qnx qns ?_;refine AllReadyIn.cons rfl (fun K hK=>?_) (AllReadyIn.cons rfl (fun K hK=>?_) (AllReadyIn.cons rfl (fun K hK=>?_) (AllReadyIn.nil)))
  ·go_simp
   refine hK _ _ ?_;clear hK K;refine wpAnyIn_ready (rs:=[1,2]) qnx qns ?_;refine AllReadyIn.cons rfl (fun K hK=>?_) (AllReadyIn.cons rfl (fun K hK=>?_) (AllReadyIn.nil))
   ·go_simp
    exact qkD
   ·go_simp
    exact qky
  ·go_simp
   refine hK _ _ ?_;clear hK K;refine wpAnyIn_ready (rs:=[0,2]) qnx qns ?_;refine AllReadyIn.cons rfl (fun K hK=>?_) (AllReadyIn.cons rfl (fun K hK=>?_) (AllReadyIn.nil))
   ·go_simp
    exact qkD
   ·go_simp
    exact qkz
  ·go_simp
   refine hK _ _ ?_;clear hK K;refine wpAnyIn_ready (rs:=[0,1,3]) qnx qns ?_;refine AllReadyIn.cons rfl (fun K hK=>?_) (AllReadyIn.cons rfl (fun K hK=>?_) (AllReadyIn.cons rfl (fun K hK=>?_) (AllReadyIn.nil)))
   ·go_simp
    exact qky
   ·go_simp
    exact qkz
   ·go_simp
    refine hK _ _ ?_;clear hK K;refine wpAnyIn_ready (rs:=[0,1]) qnx qns ?_;refine AllReadyIn.cons rfl (fun K hK=>?_) (AllReadyIn.cons rfl (fun K hK=>?_) (AllReadyIn.nil))
    ·go_simp
     refine hK _ _ ?_;clear hK K;refine wpAnyIn_ready (rs:=[1]) qnx qns ?_;exact qju
    ·go_simp
     exact qjq
 case done=>
  rintro D V hD hsV ⟨C,M,vl,hcl,hov,hmk,hkos⟩ hK;rw [List.length_reverse,Nat.sub_self,List.drop_zero] at hkos
  have hS:C.mergeSort leI=eO L 1024:=Mu hkos.nd (fQ _ _) fun x=>by
   rw [hkos.all HAl.out x,jT HK.out]
  have hlen:(eO L 1024).length=C.length:=(by rw [<-hS];simp);have hll:C.length<=1024:=(by rw [<-hlen];exact eF _ _);obtain ⟨A5,c5,rfl,hk5,_,hr5⟩:=iC hov
  have hDA:∀o,A5≠ZV ⟨D,o,ZU⟩:=by
   rintro o rfl;rcases hov.2 with ⟨e,_⟩|⟨g2,cap2,cur,e2,_,hh,_⟩
   ·cases e
   ·injection e2 with e3 _ _
    cases e3;rw [hK] at hh;cases hh
  have hDV:D<V.heap.size:=(Array.getElem?_eq_some_iff.1 hK).1;have hzV:=hsV.size;have HT:=qf (u4 C A5 c5 V hr5 qoq (w.heap.size+3) (fun k hk=>by omega) qoq);have hc0:V.cell? ⟨w.heap.size+1+1,0,ZU⟩=ZV (Zw A5 C.length c5):=(by rw [Lib.cell_of_heap hcl];rfl);have HcV:=qf hcl;have HbV:Hid (Z2 w.heap.size w V):=qf (hbw.trans (hsV.below (fun k hk h=>by rcases h with h|h|h<;>omega) qoq));have HKD:=qf hK;have HS:=qf hS;have HLe:=qf hlen;have HDA:=qf hDA;clear hcl hov hmk hkos hK hS hlen hDA hsV hr5;gi_wp2
  refine ⟨trivial,?_⟩;refine (callsIn_wide.2 HT.out).mono ?_;rintro e w3 ⟨rfl,hr3,hb3,ho3⟩;rw [HS.out] at hr3;have hKr:w3.heap[D]? =ZV (.deferred (ZV [])):=(ho3 D hDV HDA.out).trans HKD.out;have hc3:w3.cell? ⟨w.heap.size+1+1,0,ZU⟩=ZV (Zw A5 C.length c5):=(hb3.cell (p:=⟨w.heap.size+1+1,0,ZU⟩) (by show w.heap.size+1+1<_;omega)).trans hc0
  have HR3:Hid (bc (w3.putObj D (.deferred ZU)) (fun h=>w.heap.size<=h) A5 (eO L 1024)):=qf (by
   rcases hr3.row with h|⟨g3,o3,e3,hp3,hl3,hc⟩
   ·exact .inl h
   ·exact .inr ⟨g3,o3,e3,qoq,(by rw [World.putObj_size];exact hl3),fun i x hi=>(World.cell?_of_block (w:=w3) (cI _ (fun e=>HDA.out o3 (by rw [e3];exact congrArg (fun q=>ZV (⟨q,o3,ZU⟩:Addr)) e)))).trans (hc i x hi)⟩)
  clear ho3 hr3 hc0;gi_wp2
  refine ⟨qns,.inl ⟨_,_,rfl,run_takeDeferred hKr,?_⟩⟩;refine ⟨_,results_tmp rfl _ _ _,A5,c5,(by rw [HLe.out];rfl),(by rw [HLe.out];exact hk5),?_,?_⟩
  ·exact HR3.out
  ·exact dY (HbV.out.trans (hb3.mono qoq)) qoq _
 case stop=>
  rintro D c V hD hsV h hK;exact h.elim
end
section
open Go.Maps Go.Sort Go.Shelf Go.Lib
noncomputable def iw (L:List Lk):List Int:=(bI L 1024).filter fun n=> !decide (n∈eO L 1024)
theorem wC (hk:OkK L) {n:Int}:n∈iw L↔isN L n/\¬bS L n:=by
 unfold iw;rw [List.mem_filter,dP hk,Bool.not_eq_true',decide_eq_false_iff_not,jT hk]
theorem EM (L:List Lk):(iw L).Pairwise (·<·):=(fQ _ _).filter _
theorem vd (L:List Lk):(iw L).length<=1024:=Nat.le_trans (List.length_filter_le _ _) (eF _ _)
structure eX (w:Z3) (P:Nat->Prop) (A:Option Addr) (c:Nat) (l:List Int):Prop where
 le:l.length<=c
 cap:c<=maxLen
 row:eD w P A l
theorem eX.kept (h:eX w P A c l) (hk:Kept w w' P):eX w' P A c l:=⟨h.le,h.cap,h.row.kept hk⟩
theorem eX.below (h:eX w P A c l) (hb:Z2 w.heap.size w w'):eX w' P A c l:=⟨h.le,h.cap,h.row.below hb⟩
theorem eX.mono (h:eX w P A c l) (hpq:∀g,P g->g<w.heap.size->Q g):eX w Q A c l:=⟨h.le,h.cap,h.row.mono hpq⟩
theorem Jv {L:List Int} (h:av 3 1 inW base w v L):∃(A:Option Addr) (c:Nat),v=Zw A L.length c/\eX w (fun g=>base<=g) A c L:=by
 obtain ⟨A,cap,e,hk,_,hr⟩:=iC h;refine ⟨A,cap,e,hk,?_,hr⟩;rcases h.2 with ⟨e2,_⟩|⟨g,c,cur,e2,_,_,_,h6,_⟩
 ·rw [e] at e2;injection e2 with _ _ e3;rw [e3];exact qe
 ·rw [e] at e2;injection e2 with _ _ e3;rw [e3];exact h6
theorem lY {g o:Nat} {a b:List Int} (h:Go.Sort.Holds (Value.int .i64) w g o (a++b).toArray):Go.Sort.Holds (Value.int .i64) w g o a.toArray:=fun j hj=>by
 have hj:j<a.length:=qpg;have:=h j qnu;refine ⟨this.1.trans ?_,this.2⟩;simp [hj,List.getElem?_append_left]
theorem BF (rd:List Int) (A:Option Addr) (c:Nat) (w:Z3) (hl:bc w P A rd) (hll:rd.length<=1000000) (hs:rd.Pairwise (·<·)) (x:Int):
 Calls ZW 154 #[Zw A rd.length c,ZZ ZY x] w fun e w'=>∃n:Nat,e=ZX (.tuple #[ZZ ZY n,.bool (decide (x∈rd))])/\∃q,w'=w.drewN q:=by
 by_cases hn:rd=[]
 ·subst hn
  refine (Any.slices_BinarySearch_int_empty searchA A c x w).mono ?_;rintro e w' ⟨rfl,rfl⟩;exact ⟨0,qns,0,rfl⟩
 ·rcases hl with h|⟨g,o,rfl,_,_,hc⟩
  ·exact absurd h hn
  ·refine (Any.slices_BinarySearch_int searchA g o rd.length c rd x w qd qoq (fun j hj=>by
    rw [hc j rd[j] (List.getElem?_eq_getElem hj),List.getD_eq_getElem?_getD,List.getElem?_eq_getElem hj];rfl) (by rw [List.take_length];exact hs.imp fun {a b} h=>by omega)).mono ?_
   rintro e w' ⟨rfl,hq⟩;rw [List.take_length,List.contains_eq_mem];exact ⟨_,rfl,hq⟩
theorem tF (rd:List Int) (A:Option Addr) (c B:Nat) (W:Z3) (hB:W.cell? ⟨B,0,ZU⟩=ZV (Zw A rd.length c)) (hl:bc W P A rd) (hll:rd.length<=1000000) (hs:rd.Pairwise (·<·)) (x:Int):
 FnGives ZW 153 #[Zv (ZV ⟨B,0,ZU⟩)] #[ZZ ZY x] (.bool (decide (x∈rd))) W:=by
 show Calls ZW 153 #[ZZ ZY x,Zv (ZV ⟨B,0,ZU⟩)] W _
 have HS:=qf (BF rd A c W hl hll hs x);generalize decide (x∈rd)=b at*;clear hl hs;go_enter func153,ntmps153;go_wp2_with fail;refine HS.out.mono ?_;rintro e w1 ⟨n,rfl,q,rfl⟩;go_wp2_with fail;go_ret;exact ⟨rfl,q,rfl⟩
theorem Hx (p:Int->Bool) (g:Nat) (lb:Array Value) (eg:∀args w,(callFunc g args).run ZW w=.ok (.enter g args) w) (l:List Int) (A:Option Addr) (c:Nat) (w:Z3) (hr:eX w P A c l) (base:Nat) (hP:∀k,P k->base<=k) (hs:base<=w.heap.size)
 (hp:PredAt ZW g lb (Value.int .i64) p w) (hpo:∀blk o,A=ZV ⟨blk,o,ZU⟩->P blk->PredOver ZW g lb (Value.int .i64) p blk o l.length w):
 Calls ZW 152 #[Zw A l.length c,.func (.func g) #[] lb] w fun e w'=>e=ZX (Zw A (l.filter fun x=> !p x).length c)/\eX w' P A c (l.filter fun x=> !p x)/\Z2 base w w':=by
 by_cases hn:l=[]
 ·subst hn
  have HI:=qf (fun fv=>AnyE.slices_IndexFunc_empty indexA A c fv w);have HC:=qf hr.cap;clear hr hp hpo;go_enter func152,ntmps152;go_wp2_with fail;refine .mono qse ?_;rintro e w1 ⟨rfl,rfl⟩;go_wp2_with fail;go_ret;exact ⟨rfl,⟨qe,HC.out,.inl rfl⟩,qb⟩
 ·rcases hr.row with h|⟨blk,o,rfl,hPk,hlt,hh⟩
  ·exact absurd h hn
  ·have h:=AnyE.slices_DeleteFunc delfA (Value.int .i64) (fun _=>rfl) p g lb eg 0 zeroValue3 blk o c l.toArray w hp (by have:=hpo blk o rfl hPk;simpa using this) hh (by have:=hr.le;have:=hr.cap;unfold maxLen at this;simp;omega) (by simpa using hr.le)
   have hsz:l.toArray.size=l.length:=qns;rw [hsz] at h;refine h.mono ?_;rintro e w' ⟨he,q,rfl⟩;have hfl:(l.filter fun x=> !p x).length<=l.length:=List.length_filter_le _ _;have hH:=holds_putRow (Value.int .i64) (Sort.ahead w q) blk o l.toArray ((l.filter fun x=> !p x)++List.replicate (l.length - (l.filter fun x=> !p x).length) 0).toArray (holds_ahead _ _ _ _ _ _ hh) qnu;refine ⟨by rw [he],⟨Nat.le_trans hfl hr.le,hr.cap,.inr ⟨blk,o,rfl,hPk,(by show blk<(w.heap.modify _ _).size;rw [Array.size_modify];exact hlt),lY hH⟩⟩,?_⟩;have:=gX (w:=w) (blk:=blk) (off:=o) (n:=q) (base:=base) (d:=((l.filter fun x=> !p x)++List.replicate (l.length - (l.filter fun x=> !p x).length) 0).toArray) (os:=#[]) (hP blk hPk) hs;rw [mB] at this;exact this
theorem ux (w:Z3) (g:Nat) (L:List Lk) (hP:ir w g L) (hk:OkK L) (hL:L.length<=60):
 Calls ZW 102 #[Zv (ZV ⟨g,0,ZU⟩)] w fun e w'=>∃A c,e=ZX (Zw A (iw L).length c)/\eX w' (fun k=>w.heap.size<=k) A c (iw L)/\Z2 w.heap.size w w':=by
 have HCy:=qf (ox w g L hP hk hL);have HP:=qgy;have HK:=qfq;clear hP hk hL;go_enter func102,ntmps102;go_wp2_with fail;refine HCy.out.mono ?_;rintro e w1 ⟨A1,c1,rfl,hk1,hr1,hb1⟩;have hba:Z2 w1.heap.size w1 (w1.alloc (.cells #[Zw A1 (eO L 1024).length c1] 49)):=qa;obtain ⟨w2,hw2⟩:∃w2,w1.alloc (.cells #[Zw A1 (eO L 1024).length c1] 49)=w2:=⟨_,rfl⟩
 have hcB:w2.cell? ⟨w1.heap.size,0,ZU⟩=ZV (Zw A1 (eO L 1024).length c1):=qoi;have hBl:w1.heap.size<w2.heap.size:=(by rw [<-hw2];simp);rw [hw2] at hba;have hr2:=hr1.below hba;have hb2:=hb1.trans (hba.mono hb1.size);have HB2:=qf hb2;have HN:=qf (lD w2 g L (HP.out.below hb2) HK.out);have HR2:=qf ((hr1.mono (Q:=fun k=>w.heap.size<=k/\k<w1.heap.size) fun k hk hl=>⟨hk,hl⟩).below hba);have HcB:=qf hcB;have HBl:=qf hBl;have HZ:=qf hb1.size;have HCl:Hid ((eO L 1024).length<=1024):=qf (eF _ _);have HCr:Hid ((eO L 1024).Pairwise (·<·)):=qf (fQ _ _);have HSt:Hid ((bI L 1024).filter (fun n=> !decide (n∈eO L 1024))=iw L):=qf rfl;clear hr1 hr2 hb1 hb2 hcB hba HCy;generalize eO L 1024=CC at*;generalize bI L 1024=NN at*;go_wp2_with fail;refine HN.out.mono ?_;rintro e w3 ⟨v,rfl,ho,hb3⟩;obtain ⟨A3,c3,rfl,hr3⟩:=Jv ho;have hcB3:w3.cell? ⟨w1.heap.size,0,ZU⟩=ZV (Zw A1 CC.length c1):=aa hb3 HcB.out
 have HD:=qf (Hx (fun n=>decide (n∈CC)) 153 #[Zv (ZV ⟨w1.heap.size,0,ZU⟩)] (enters_of func153 qnx rfl) NN A3 c3 w3 hr3 w.heap.size (fun k hk=>by have:=HB2.out.size;omega) qqN
  (fun W x hb=>tF CC A1 c1 w1.heap.size W (aa hb hcB3) ((HR2.out.below hb3).below hb) (by have:=HCl.out;omega) HCr.out x)
  (fun blk o e hPb n os dk x hd=>by
    have hkp:Kept w3 (grow (putRow (Value.int .i64) (Sort.ahead w3 n) blk o dk) os) (fun k=>k≠blk):=⟨iI,fun k hk hl=>iJ hl hk⟩;have hb3s:=hb3.size;refine tF CC A1 c1 w1.heap.size _ (hkp.cell (g:=w1.heap.size) (by show w1.heap.size≠blk;have:=HBl.out;omega) hcB3) (((HR2.out.kept (Kept.of_below hb3)).mono (Q:=fun k=>k≠blk) fun k hk hl=>?_).kept hkp) (by have:=HCl.out;omega) HCr.out x;have:=hk.2;have:=HBl.out;omega))
 have HB3:=qdP;clear ho hr3 hb3 hcB3;go_wp2_with fail;refine HD.out.mono ?_;rintro e w4 ⟨rfl,hr4,hb4⟩;rw [HSt.out] at hr4 ⊢;have HR4:=qf hr4;have HB4:=qf (HB3.out.trans hb4);clear hr4 hb4;go_wp2_with fail;go_ret;exact ⟨A3,c3,rfl,⟨HR4.out.le,HR4.out.cap,HR4.out.row.mono fun k hk _=>by have:=HB2.out.size;omega⟩,HB4.out⟩
def gw (x:Int):Bool:=decide (x<0) || decide (1024<=x)
def lq (q:LkM):Bool:=gw q.at_ || q.rd.any gw
theorem ph:gw x=Zz↔okN x:=by
 unfold gw okN;rw [Bool.or_eq_false_iff,decide_eq_false_iff_not,decide_eq_false_iff_not];constructor<;>intro h<;>omega
theorem yX {q:LkM}:lq q=Zz↔OkM q:=by
 unfold lq OkM;rw [Bool.or_eq_false_iff,ph,List.any_eq_false];constructor
 ·rintro ⟨h1,h2⟩
  exact ⟨h1,fun r hr=>ph.1 (by simpa using h2 r hr)⟩
 ·rintro ⟨h1,h2⟩
  exact ⟨h1,fun r hr=>by rw [ph.2 (h2 r hr)];simp⟩
theorem Lz {l:List LkM} (h:l.any lq=Zz):OkK (lkS l):=N2 fun q hq=>yX.1 (by simpa using List.any_eq_false.1 h q hq)
theorem Ie {l:List LkM} (h:l.any lq=true):je (lkS l)=1:=by
 obtain ⟨q,hq,hb⟩:=List.any_eq_true.1 h;unfold je;refine if_neg fun hk=>?_
 have h2:=hk q.k (List.mem_map.2 ⟨q,hq,rfl⟩);rw [yX.2 h2] at hb;cases hb
theorem pW (x:Int) (W:Z3):FnGives ZW 148 #[] #[ZZ ZY x] (.bool (gw x)) W:=by
 show Calls ZW 148 #[ZZ ZY x] W _
 unfold gw;cases h1:decide (x<0) with
 |true=>
  exact qki
 |false=>
  cases h2:decide ((1024:Int)<=x) with
  |true=>
   exact qki
  |false=>
   exact qki
theorem GJ (l:List Int) (A:Option Addr) (c:Nat) (w:Z3) (hl:bc w P A l) (hll:l.length<=1000000):
 Calls ZW 149 #[Zw A l.length c,.func (.func 148) #[] #[]] w fun e w'=>e=ZX (.bool (l.any gw))/\∃q,w'=w.drewN q:=by
 by_cases hn:l=[]
 ·subst hn
  refine (AnyE.slices_ContainsFunc_empty containsA A c _ w).mono ?_;rintro e w' ⟨he,rfl⟩;exact ⟨he,0,rfl⟩
 ·rcases hl with h|⟨g,o,rfl,_,_,hc⟩
  ·exact absurd h hn
  ·refine (AnyE.slices_ContainsFunc containsA (Value.int .i64) gw 148 #[] (enters_of func148 qnx rfl) g o l.length c l w (fun V x _=>pW x V) qd qoq (fun j hj=>by
    rw [hc j l[j] (List.getElem?_eq_getElem hj),List.getElem!_eq_getElem?_getD,List.getElem?_eq_getElem hj];rfl)).mono ?_
   rintro e w' ⟨he,hq⟩;rw [List.take_length] at he;exact ⟨he,hq⟩
theorem Dd (q:LkM) (w:Z3) (hl:bc w P q.RA q.rd) (hll:q.rd.length<=1000000):
 Calls ZW 97 #[.agg #[ZZ ZY q.at_,Zw q.RA q.rd.length q.rc]] w fun e w'=>e=ZX (.bool (lq q))/\Z2 w.heap.size w w':=by
 obtain ⟨an,rd,RA,rc⟩:=q;dsimp only at hl hll;have hba:Z2 w.heap.size w (w.alloc (.cells #[ZZ ZY an,Zw RA rd.length rc] 51)):=qa;have HN:=qf (fun W=>pW an W);have HC:=qf (fun W (hb:Z2 w.heap.size w W)=>GJ rd RA rc W (hl.below hb) hll);have HE:Hid (lq ⟨an,rd,RA,rc⟩=(gw an || rd.any gw)):=qf rfl;have HBa:=qf hba;rw [HE.out];clear hl hba HE;generalize gw an=b at*;generalize rd.any gw=b2 at*;cases b with
 |true=>
  go_enter func97,ntmps97;go_wp2_with fail;refine (show Calls _ _ _ _ _ from HN.out _).mono ?_;rintro e w1 ⟨rfl,n,rfl⟩;have HB1:=qf (below_drewN HBa.out n);go_wp2_with fail;go_ret;exact ⟨rfl,HB1.out⟩
 |false=>
  go_enter func97,ntmps97;go_wp2_with fail;refine (show Calls _ _ _ _ _ from HN.out _).mono ?_;rintro e w1 ⟨rfl,n,rfl⟩;have HB1:=qf (below_drewN HBa.out n);go_wp2_with fail;refine (HC.out _ HB1.out).mono ?_;rintro e w1 ⟨rfl,n2,rfl⟩;have HB2:=qf (below_drewN HB1.out n2);go_wp2_with fail;go_ret;first
  |exact ⟨rfl,HB2.out⟩
  |exact ⟨rfl,below_drewN HBa.out (n+n2)⟩
def LkW (w:Z3):Type:={ q:LkM // bc w (fun _=>True) q.RA q.rd/\q.rd.length<=1000000 }
theorem zG (w:Z3):∀l:List LkM,(∀q∈l,bc w (fun _=>True) q.RA q.rd/\q.rd.length<=1000000)->∃zs:List (LkW w),(zs.map fun q:LkW w=>q.val)=l
 |[],_=>⟨[],rfl⟩
 |q::l,h=>by
  obtain ⟨zs,hz⟩:=zG w l fun x hx=>h x (List.mem_cons_of_mem _ hx)
  exact ⟨⟨q,h q List.mem_cons_self⟩::zs,congrArg (fun r=>q::r) hz⟩
theorem Cp (A:Option Addr) (c:Nat) (fv:Value) (w:Z3):Calls ZW 96 #[Zw A 0 c,fv] w fun e w'=>e=ZX (.bool Zz)/\Z2 w.heap.size w w':=by
 have HI:Hid (Calls ZW 147 #[Zw A 0 c,fv] w fun e w'=>e=ZX (ZZ ZY (-1))/\w'=w):=qf (by
  go_enter func147,ntmps147;go_wp2_with fail;go_loopw [8] (fun vi wr=>vi=ZZ ZY 0/\wr=w) (fun _ _=>0)
  case atStart=>exact qmx
  case round=>
   obtain ⟨rfl,rfl⟩:=hrel;go_wp2_with fail;go_ret;exact ⟨rfl,rfl⟩)
 go_enter func96,ntmps96;go_wp2_with fail;refine HI.out.mono ?_;rintro e w1 ⟨rfl,rfl⟩;exact qlH
theorem Eu (l:List LkM) (A:Option Addr) (ca:Nat) (w:Z3) (hl:gG w P A l) (hll:l.length<=1000000) (hrl:∀q∈l,q.rd.length<=1000000):
 Calls ZW 96 #[Zw A l.length ca,.func (.func 97) #[] #[]] w fun e w'=>e=ZX (.bool (l.any lq))/\Z2 w.heap.size w w':=by
 haveI:Inhabited (LkW w):=⟨⟨⟨0,[],ZU,0⟩,.inl rfl,qns⟩⟩
 by_cases hn:l=[]
 ·subst hn
  exact Cp A ca _ w
 ·rcases hl with h|⟨g,o,rfl,_,hg,hat⟩
  ·exact absurd h hn
  ·have hok:∀q∈l,bc w (fun _=>True) q.RA q.rd/\q.rd.length<=1000000:=fun q hq=>by
    obtain ⟨i,hi⟩:=List.mem_iff_getElem?.1 hq;exact ⟨(hat i q hi).2.mono fun _ _ _=>trivial,hrl q hq⟩
   obtain ⟨zs,rfl⟩:=zG w l hok;have hzl:(zs.map fun q:LkW w=>q.val).length=zs.length:=List.length_map _;rw [hzl] at hll ⊢
   have h:=AnyQ.slices_ContainsFunc containsLA 2 isAgg51 sizeOf51 (fun q:LkW w=>[ZZ ZY q.val.at_,Zw q.val.RA q.val.rd.length q.val.rc]) (fun _=>rfl) (fun q=>lq q.val) 97 #[] (enters_of func97 qnx rfl) g o zs.length ca zs w (fun V q hb=>(Dd q.val V (q.property.1.below hb) q.property.2).mono fun e w' ⟨he,hb'⟩=>⟨he,hb.trans (hb'.mono hb.size)⟩) qd qoq hg (fun j hj i v hv=>by
    have e1:zs[j]! =zs[j]:=(by rw [List.getElem!_eq_getElem?_getD,List.getElem?_eq_getElem hj];rfl);rw [e1] at hv;obtain ⟨⟨c0,c1⟩,_⟩:=hat j zs[j].val (by rw [List.getElem?_map,List.getElem?_eq_getElem hj];rfl);match i,hv with
    |0,hv=>rw [Nat.add_zero,c0];exact hv
    |1,hv=>rw [c1];exact hv)
   refine h.mono ?_;rintro e w' ⟨he,hb⟩;refine ⟨?_,hb⟩;rw [List.take_length] at he;rw [he,List.any_map];rfl
end
section
open Go.Maps Go.Sort
def ef (f2:Int->Option Sl) (h:Nat):Prop:=∃r s,f2 r=ZV s/\(slE.val s).ownBlock=ZV h
structure GBm (w:Z3) (base g b1 b2 n1 n2:Nat) (f1 f2:Int->Option Sl) (R1 R2:Int->List Int):Prop where
 c0:w.cell? ⟨g,0,ZU⟩=ZV (.map (ZV b1))
 c1:w.cell? ⟨g,1,ZU⟩=ZV (.map (ZV b2))
 lt:g<base/\b1<base/\b2<base/\b1≠b2/\g≠b1/\g≠b2/\base<=w.heap.size
 m1:bG slE w b1 n1 f1
 m2:bG slE w b2 n2 f2
 s1:∀n,fJ w (fun h=>base<=h/\¬ef f2 h) ((f1 n).getD sl0) (R1 n)
 o2:∀r,av 3 1 inW base w (slE.val ((f2 r).getD sl0)) (R2 r)
 ap:∀r r',r≠r'->eI (slE.val ((f2 r).getD sl0)) (slE.val ((f2 r').getD sl0))
theorem OS (h:av 3 1 inW base w v l):∃s:Sl,v=slE.val s/\s.len=l.length:=by
 obtain ⟨A,cap,e,_,_⟩:=dt h;rcases h.2 with ⟨e2,_⟩|⟨g,c,cur,e2,_⟩
 ·rw [e] at e2
  injection e2 with e3 _ _
  exact ⟨⟨ZU,l.length,cap⟩,(by rw [e,e3];rfl),rfl⟩
 ·rw [e] at e2
  injection e2 with e3 _ _
  exact ⟨⟨ZV (g,0),l.length,cap⟩,(by rw [e,e3];rfl),rfl⟩
section
variable {w w':Z3} {base g b1 b2 n1 n2:Nat} {f1 f2:Int->Option Sl} {R1 R2:Int->List Int}
theorem jy {r:Int} (hh:(slE.val ((f2 r).getD sl0)).ownBlock=ZV h):ef f2 h:=by
 cases e:f2 r with
 |none=>rw [e] at hh;cases hh
 |some s=>rw [e] at hh;exact ⟨r,s,e,hh⟩
theorem Nb (hh:ef f2 h):∃r,(slE.val ((f2 r).getD sl0)).ownBlock=ZV h:=by
 obtain ⟨r,s,e,hs⟩:=hh;exact ⟨r,(by rw [e];exact hs)⟩
theorem GBm.hot (h:GBm w base g b1 b2 n1 n2 f1 f2 R1 R2) (hk:ef f2 k):base<=k/\k<w.heap.size:=by
 obtain ⟨r,hr⟩:=Nb hk;exact World.ownsRow.lt (h.o2 r) k hr
theorem GBm.below (h:GBm w base g b1 b2 n1 n2 f1 f2 R1 R2) (hb:Z2 w.heap.size w w'):GBm w' base g b1 b2 n1 n2 f1 f2 R1 R2 where
 c0:=aa hb h.c0
 c1:=aa hb h.c1
 lt:=(by have:=h.lt;have:=hb.size;omega)
 m1:=h.m1.below hb
 m2:=h.m2.below hb
 s1:=fun n=>(h.s1 n).below hb
 o2:=fun r=>(h.o2 r).below hb
 ap:=h.ap
theorem fJ.kept (h:fJ w P s l) (hk:Kept w w' P):fJ w' P s l:=⟨h.len,h.row.kept hk⟩
theorem fJ.mono (h:fJ w P s l) (hpq:∀g,P g->g<w.heap.size->Q g):fJ w Q s l:=⟨h.len,h.row.mono hpq⟩
theorem GBm.put1 (h:GBm w base g b1 b2 n1 n2 f1 f2 R1 R2) (hx:KB x) (hn:n1<maxLen) {S:List Int} (hs:fJ w (fun h=>base<=h/\¬ef f2 h) s S):
 ∃w',(Instr.mapUpdate 120 (.map (ZV b1)) (ZZ ZY x) (slE.val s)).run ZW w=.ok () w'/\GBm w' base g b1 b2 (n1+1) n2 (bJ f1 x s) f2 (fun n=>if n=x then S else R1 n) R2/\w.grownBy w' (ZV b1)/\w'.heap.size=w.heap.size:=by
 obtain ⟨w',hrun,hm,hg,hz,_⟩:=h.m1.put fq hn hx s;obtain ⟨l1,l2,l3,l4,l5,l6,l7⟩:=h.lt;have hk:Kept w w' (fun k=>base<=k/\¬ef f2 k):=⟨hg.size,fun k hk hl=>hg.block k hl (fun e=>by have:=Option.some.inj e;omega)⟩;have hcell:∀j,w'.cell? ⟨g,j,ZU⟩=w.cell? ⟨g,j,ZU⟩:=fun j=>World.cell?_of_block (hg.block g qoq (fun e=>l5 (Option.some.inj e)))
 refine ⟨w',hrun,⟨(hcell 0).trans h.c0,(hcell 1).trans h.c1,⟨l1,l2,l3,l4,l5,l6,qoq⟩,hm,?_,fun n=>?_,fun r=>?_,h.ap⟩,hg,hz⟩
 ·obtain ⟨D,h1,h2⟩:=h.m2
  exact ⟨D,h1.kept hg (fun e=>l4 (Option.some.inj e).symm),h2⟩
 ·unfold bJ
  by_cases e:n=x
  ·rw [if_pos e,if_pos e]
   exact hs.kept hk
  ·rw [if_neg e,if_neg e]
   exact (h.s1 n).kept hk
 ·exact World.ownsRow.kept (h.o2 r) hg (by
   cases e:(slE.val ((f2 r).getD sl0)).ownBlock with
   |none=>exact .inl rfl
   |some k=>
    refine .inr fun e2=>?_
    have:=(World.ownsRow.lt (h.o2 r) k e).1;have:=Option.some.inj e2;omega)
theorem GBm.put2 (h:GBm w base g b1 b2 n1 n2 f1 f2 R1 R2) {r a:Int} (hr:KB r) (hn:n2<maxLen) {wa w1:Z3} {v':Value} (hba:Z2 w.heap.size w wa) (hg1:wa.grownBy w1 (slE.val ((f2 r).getD sl0)).ownBlock) (ho:av 3 1 inW base w1 v' (R2 r++[a])) (hat:v'.ownBlock=(slE.val ((f2 r).getD sl0)).ownBlock\/v'.ownBlock=ZV wa.heap.size):
 ∃w2 s',v'=slE.val s'/\(Instr.mapUpdate 120 (.map (ZV b2)) (ZZ ZY r) v').run ZW w1=.ok () w2/\GBm w2 base g b1 b2 n1 (n2+1) f1 (bJ f2 r s') R1 (fun y=>if y=r then R2 r++[a] else R2 y)/\w.heap.size<=w2.heap.size/\(∀k,k<w.heap.size->¬ef f2 k->k≠b2->w2.heap[k]? =w.heap[k]? /\¬ef (bJ f2 r s') k)/\w2.os=w.os/\w2.tape=w.tape/\w2.output=w.output:=by
 obtain ⟨s',rfl,hsl⟩:=OS ho;obtain ⟨l1,l2,l3,l4,l5,l6,l7⟩:=h.lt;have hza:=hba.size;have hz1:=hg1.size;have hown:∀k,(slE.val ((f2 r).getD sl0)).ownBlock=ZV k->base<=k/\k<w.heap.size:=fun k hk=>World.ownsRow.lt (h.o2 r) k hk
 have hb1:∀k,k<w.heap.size->¬ef f2 k->w1.heap[k]? =w.heap[k]? :=fun k hk hh=>(hg1.block k qoq (fun e=>hh (jy e.symm))).trans (hba.block k hk)
 have hnh:∀k,k<base->¬ef f2 k:=fun k hk hh=>by have:=(h.hot hh).1;omega
 have hm2:bG slE w1 b2 n2 f2:=by
  obtain ⟨D,h1,h2⟩:=h.m2.below hba;exact ⟨D,h1.kept hg1 (fun e=>hnh b2 l3 (jy e.symm)),h2⟩
 obtain ⟨w2,hrun,hm,hg2,hz2,_⟩:=hm2.put fq hn hr s'
 have hot':∀k,ef (bJ f2 r s') k->ef f2 k\/w.heap.size<=k:=by
  rintro k ⟨y,s,e,hs⟩;unfold bJ at e;by_cases hy:y=r
  ·rw [if_pos hy] at e
   cases e;rcases hat with q|q
   ·rw [q] at hs;exact .inl (jy hs)
   ·rw [q] at hs;have:=Option.some.inj hs;exact .inr qoq
  ·rw [if_neg hy] at e
   exact .inl ⟨y,s,e,hs⟩
 have hblk:∀k,k<w.heap.size->¬ef f2 k->k≠b2->w2.heap[k]? =w.heap[k]? :=fun k hk hh hne=>(hg2.block k qoq (fun e=>hne (Option.some.inj e))).trans (hb1 k hk hh)
 have hcell:∀j,w2.cell? ⟨g,j,ZU⟩=w.cell? ⟨g,j,ZU⟩:=fun j=>World.cell?_of_block (hblk g qoq (hnh g l1) l6)
 have hapt:∀y,y≠r->eI (slE.val s') (slE.val ((f2 y).getD sl0)):=fun y hy k hk1 hk2=>by
  rcases hat with q|q
  ·rw [q] at hk1;exact h.ap r y (fun e=>hy e.symm) k hk1 hk2
  ·rw [q] at hk1
   have:=Option.some.inj hk1;have:=(World.ownsRow.lt (h.o2 y) k hk2).2;omega
 have hsz:w.heap.size<=w2.heap.size:=qoq;refine ⟨w2,s',rfl,hrun,⟨(hcell 0).trans h.c0,(hcell 1).trans h.c1,⟨l1,l2,l3,l4,l5,l6,qoq⟩,?_,hm,fun n=>?_,fun y=>?_,fun y y' hyy=>?_⟩,hsz,fun k hk hh hne=>⟨hblk k hk hh hne,fun q=>by rcases hot' k q with c|c;exact hh c;omega⟩,hg2.os.trans (hg1.os.trans hba.os),hg2.tape.trans (hg1.tape.trans hba.tape),hg2.output.trans (hg1.output.trans hba.output)⟩
 ·obtain ⟨D,h1,h2⟩:=h.m1.below hba
  exact ⟨D,(h1.kept hg1 (fun e=>hnh b1 l2 (jy e.symm))).kept hg2 (fun e=>l4 (Option.some.inj e)),h2⟩
 ·have h1:=(h.s1 n).mono (Q:=fun k=>(base<=k/\¬ef f2 k)/\k<w.heap.size) fun k hk hl=>⟨hk,hl⟩
  refine (h1.kept (w':=w2) ⟨hsz,fun k hk hl=>hblk k hl hk.1.2 qoq⟩).mono fun k hk _=>⟨hk.1.1,fun q=>?_⟩
  rcases hot' k q with c|c
  ·exact hk.1.2 c
  ·omega
 ·unfold bJ
  have kept2:∀{v:Value} {l:List Int},av 3 1 inW base w1 v l->av 3 1 inW base w2 v l:=fun {v l} hv=>World.ownsRow.kept hv hg2 (by
   cases e:v.ownBlock with
   |none=>exact .inl rfl
   |some k=>
    refine .inr fun e2=>?_
    have:=(World.ownsRow.lt hv k e).1;have:=Option.some.inj e2;omega)
  by_cases e:y=r
  ·subst e
   rw [if_pos rfl,if_pos rfl];exact kept2 ho
  ·rw [if_neg e,if_neg e]
   exact kept2 (((h.o2 y).below hba).beside hg1 (h.ap r y fun q=>e q.symm))
 ·unfold bJ
  by_cases e:y=r
  ·have e':y'≠r:=fun q=>hyy (e.trans q.symm)
   rw [if_pos e,if_neg e'];exact hapt y' e'
  ·rw [if_neg e]
   by_cases e':y'=r
   ·rw [if_pos e']
    exact (hapt y e).symm
   ·rw [if_neg e']
    exact h.ap y y' hyy
theorem GBm.look2 (h:GBm w base g b1 b2 n1 n2 f1 f2 R1 R2) (hx:KB x):(Instr.lookup 120 (.map (ZV b2)) (ZZ ZY x) Zz).run ZW w=.ok (slE.val ((f2 x).getD sl0)) w:=h.m2.look fq (iG w) hx
theorem GBm.look1 (h:GBm w base g b1 b2 n1 n2 f1 f2 R1 R2) (hx:KB x):(Instr.lookup 120 (.map (ZV b1)) (ZZ ZY x) true).run ZW w=.ok (.tuple #[slE.val ((f1 x).getD sl0),.bool (f1 x).isSome]) w:=h.m1.look_ok fq (iG w) hx
end
end
