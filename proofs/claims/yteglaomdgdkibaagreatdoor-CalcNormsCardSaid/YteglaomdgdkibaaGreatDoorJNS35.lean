import Derived.Test.YteglaomdgdkibaaGreatDoorJNS34
import Derived.Test.YteglaomdgdkibaaGreatDoorJQNSP
import Derived.Test.YteglaomdgdkibaaGreatDoorJQNSW
import Derived.Test.YteglaomdgdkibaaGreatDoorJQYNSP
set_option linter.all false
set_option maxHeartbeats 0
set_option maxRecDepth 99999
namespace Go.Proofs.YteglaomdgdkibaaGreatDoor
open Go.RowKit
open Value renaming int→ZZ,slice→Zw,pointer→Zv
open IntKind renaming i64→ZY
open Ending renaming returned→ZX
open RowKit renaming Below→Z2
open Go renaming World→Z3
open Tryz
open Tryz renaming prog→ZW
open Option renaming some→ZV,none→ZU
open Bool renaming false→Zz
variable {S l:List Int}{P:Nat->Prop}{n r x:Int}{w:World}{R2:Int->List Int}{i k:Nat}
section
open Go.Maps Go.Sort Go.Shelf Go.Lib
theorem Fg {d:Array Int} {N:Nat} (hs:∀i j,i<=j->j<N->d[i]! <=d[j]!):∀m,m<=N->(∀x,x∈compactUpTo d m↔∃j,j<m/\d[j]! =x)/\(compactUpTo d m).Pairwise (·<·)
 |0,_=>⟨fun x=>by simp [compactUpTo],List.Pairwise.nil⟩
 |m+1,hm=>by
  obtain ⟨h1,h2⟩:=Fg hs m qoq;rw [compactUpTo_succ];by_cases hk:keeps d m=true
  ·rw [if_pos hk]
   refine ⟨fun x=>?_,List.pairwise_append.2 ⟨h2,List.pairwise_singleton _ _,fun a ha b hb=>?_⟩⟩
   ·rw [List.mem_append,h1,List.mem_singleton]
    constructor
    ·rintro (⟨j,hj,e⟩|rfl)
     ·exact ⟨j,qoq,e⟩
     ·exact ⟨m,qoq,rfl⟩
    ·rintro ⟨j,hj,e⟩
     by_cases q:j=m
     ·subst q;exact .inr e.symm
     ·exact .inl ⟨j,qoq,e⟩
   ·obtain rfl:b=d[m]! :=by simpa using hb
    obtain ⟨j,hj,rfl⟩:=(h1 a).1 ha;have a1:=hs j (m - 1) qoq qoq;have a2:=hs (m - 1) m qoq qoq;have a3:m=0\/d[m]! ≠d[m - 1]! :=of_decide_eq_true hk;rcases a3 with a3|a3<;>omega
  ·rw [if_neg hk,List.append_nil]
   have hk:¬(m=0\/d[m]! ≠d[m - 1]!):=fun q=>hk (decide_eq_true q)
   have hm0:m≠0:=fun q=>hk (.inl q)
   have hme:d[m]! =d[m - 1]! :=Classical.byContradiction fun q=>hk (.inr q)
   refine ⟨fun x=>?_,h2⟩;rw [h1];constructor
   ·rintro ⟨j,hj,e⟩
    exact ⟨j,qoq,e⟩
   ·rintro ⟨j,hj,e⟩
    by_cases q:j=m
    ·subst q;exact ⟨j - 1,qoq,(by rw [<-hme,e])⟩
    ·exact ⟨j,qoq,e⟩
theorem ya (hs:l.Pairwise (·<=·)):(∀x,x∈compact l↔x∈l)/\(compact l).Nodup/\(compact l).length<=l.length:=by
 have hg:∀j (h:j<l.length),l.toArray[j]! =l[j]:=fun j h=>by simp [h]
 obtain ⟨h1,h2⟩:=Fg (d:=l.toArray) (N:=l.length) (fun i j hij hj=>by
  rw [hg i qoq,hg j hj];by_cases e:i=j
  ·subst e;exact Int.le_refl _
  ·exact List.pairwise_iff_getElem.1 hs i j qoq hj qoq) l.length qd
 have hm:∀x,x∈compact l↔x∈l:=fun x=>by
  unfold compact;rw [h1 x,List.mem_iff_getElem];constructor
  ·rintro ⟨j,hj,e⟩
   exact ⟨j,hj,(by rw [<-hg j hj];exact e)⟩
  ·rintro ⟨j,hj,e⟩
   exact ⟨j,hj,(by rw [hg j hj];exact e)⟩
 refine ⟨hm,h2.imp fun {a b} h=>by omega,?_⟩;exact qkx
def cL (rd:List Int):List Int:=compact (rd.mergeSort leI)
theorem LJ (l:List Int):(l.mergeSort leI).Pairwise (·<=·):=by
 have:=List.pairwise_mergeSort (le:=leI) (fun a b c h1 h2=>by simp only [leI,decide_eq_true_eq] at*;omega) (fun a b=>by simp only [leI,Bool.or_eq_true,decide_eq_true_eq];omega) l;exact this.imp fun {a b} h=>by simpa [leI] using h
theorem zv (rd:List Int):(∀x,x∈cL rd↔x∈rd)/\(cL rd).Nodup/\(cL rd).length<=rd.length:=by
 obtain ⟨h1,h2,h3⟩:=ya (LJ rd);refine ⟨fun x=>(h1 x).trans (List.mergeSort_perm rd leI).mem_iff,h2,?_⟩;have:=(List.mergeSort_perm rd leI).length_eq;unfold cL;omega
theorem xv (l:List Int) (A:Option Addr) (c:Nat) (w:Z3) (hl:eD w P A l) (hc:l.length<=c) (hll:l.length<=1000000) (base:Nat) (hP:∀g,P g->base<=g) (hs:base<=w.heap.size):
 Calls ZW 119 #[Zw A l.length c] w fun e w'=>e=ZX (Zw A (compact l).length c)/\eD w' P A (compact l)/\Z2 base w w':=by
 rcases hl with rfl|⟨g,o,rfl,hp,hg,hh⟩
 ·refine (Any.slices_Compact_int_empty compactA A c w).mono ?_
  rintro e w' ⟨he,rfl⟩;have:compact ([]:List Int)=[]:=rfl;rw [this];exact ⟨he,.inl rfl,qb⟩
 ·refine (Any.slices_Compact_int compactA g o c l w hh qoq hc).mono ?_
  rintro e w' ⟨he,q,rfl⟩;have hcl:(compact l).length<=l.length:=qkx;have hH:=holds_putRow (Value.int .i64) (Sort.ahead w q) g o l.toArray (compact l++List.replicate (l.length - (compact l).length) 0).toArray (holds_ahead _ _ _ _ _ _ hh) qnu;refine ⟨he,.inr ⟨g,o,rfl,hp,(by show g<(w.heap.modify _ _).size;rw [Array.size_modify];exact hg),lY hH⟩,?_⟩;have:=gX (w:=w) (blk:=g) (off:=o) (n:=q) (base:=base) (d:=(compact l++List.replicate (l.length - (compact l).length) 0).toArray) (os:=#[]) (hP g hp) hs;rw [mB] at this;exact this
end
section
open Go.Maps Go.Sort
theorem my (h:okN n):KB n:=by unfold okN at h;unfold KB;omega
theorem D5 {n:Nat} {o:Obj} (h:n<=w.heap.size):n<=(w.alloc o).heap.size:=Nat.le_trans h qns
theorem Kc {n:Nat} (h:n<=w.heap.size):n<=w.drew.heap.size:=h
def r2k (R2:Int->List Int) (S:List Int) (an:Int) (k:Nat):Int->List Int:=fun r=>if r∈S.take k then R2 r++[an] else R2 r
theorem Gr (R2:Int->List Int) (S:List Int) (an:Int):r2k R2 S an 0=R2:=funext fun r=>by unfold r2k;simp
theorem I7 {an:Int} (hd:S.Nodup) (h:S[k]? =ZV r):r2k R2 S an k r=R2 r/\r2k R2 S an (k+1)=fun y=>if y=r then R2 r++[an] else r2k R2 S an k y:=by
 have hno:r∉S.take k:=fun hm=>by
  obtain ⟨h1,h2⟩:=List.getElem?_eq_some_iff.1 h;have e:S=S.take k++r::S.drop (k+1):=(by rw [<-h2,<-List.drop_eq_getElem_cons h1,List.take_append_drop]);rw [e] at hd;exact (List.nodup_append.1 hd).2.2 r hm r qns rfl
 have hm:∀y,y∈S.take (k+1)↔y∈S.take k\/y=r:=fun y=>by
  rw [List.take_add_one,h,List.mem_append];simp
 refine ⟨by unfold r2k;rw [if_neg hno],funext fun y=>?_⟩;unfold r2k;by_cases e:y=r
 ·subst e
  simp [hm]
 ·simp [hm,e]
def LkQ (base g b1 b2 n1 n2:Nat) (f1:Int->Option Sl) (R1 R2:Int->List Int) (an:Int) (rd:List Int) (w:Z3) (e:Ending) (w':Z3):Prop:=∃n2' f1' f2',e=ZX (.tuple #[])/\GBm w' base g b1 b2 (n1+1) n2' f1' f2' (fun n=>if n=an then cL rd else R1 n) (fun r=>if r∈cL rd then R2 r++[an] else R2 r)/\n2'<=n2+1024/\(∀n,(f1' n).isSome=true↔n=an\/(f1 n).isSome=true)/\Z2 b1 w w'
theorem Hp (w:Z3) (base g b1 b2 n1 n2:Nat) (f1 f2:Int->Option Sl) (R1 R2:Int->List Int) (hG:GBm w base g b1 b2 n1 n2 f1 f2 R1 R2) (hR2:∀r,(R2 r).length<=100) (hb12:b1<=b2/\b1<=g) (hn1:n1<=1000) (hn2:n2<=100000) (an:Int) (rd:List Int) (RA:Option Addr) (rc:Nat) (ha:okN an) (hr:∀r∈rd,okN r) (hrl:rd.length<=1024) {Q:Nat->Prop} (hrow:bc w Q RA rd):
 Calls ZW 98 #[Zv (ZV ⟨g,0,ZU⟩),.agg #[ZZ ZY an,Zw RA rd.length rc]] w fun e w'=>LkQ base g b1 b2 n1 n2 f1 R1 R2 an rd w e w':=by
 obtain ⟨i0,hi0,hz0,hz1,hz2⟩:=info_parts gO;obtain ⟨wa,hwa⟩:∃wa,w.alloc (.cells #[ZZ ZY an,Zw RA rd.length rc] 51)=wa:=⟨_,rfl⟩
 have hba:Z2 w.heap.size w wa:=(by rw [<-hwa];exact qa);have hza:wa.heap.size=w.heap.size+1:=(by rw [<-hwa];simp);have hA0:wa.cell? ⟨w.heap.size,0,ZU⟩=ZV (ZZ ZY an):=(by rw [<-hwa];simp [go_sem]);have hA1:wa.cell? ⟨w.heap.size,1,ZU⟩=ZV (Zw RA rd.length rc):=(by rw [<-hwa];simp [go_sem]);have HCl:=qf (oo rd RA rc wa Q (hrow.below hba) qoq);have HG:=qf (hG.below hba);have HB:=qf hba;have HA:=qf ha;have HR:=qf hr;have HR2:=qf hR2;have hbw0:base<=w.heap.size:=hG.lt.2.2.2.2.2.2;have HB0:Hid (∀k,ef f2 k->k<w.heap.size):=qf fun k hk=>(hG.hot hk).2
 clear hG hrow hba ha hr hR2;go_enter func98,ntmps98;go_wp2_with fail;refine HCl.out.mono ?_;rintro e w2 ⟨O,co,rfl,hcase,hb2,hO⟩
 have hrow2:rd.length<=co/\eD w2 (fun k=>wa.heap.size<=k) O rd:=by
  rcases hcase with rfl|⟨g2,rfl,_,_,h⟩
  ·exact ⟨qe,.inl rfl⟩
  ·obtain ⟨A,cap,e,hk,_,hr⟩:=iC h
   injection e with e1 _ e3
   rw [e1,e3];exact ⟨hk,hr⟩
 have HCo:=qf hrow2.1;have HSo:=qf (u4 rd O co w2 hrow2.2 qoq wa.heap.size (fun _ h=>h) hb2.size);have HB2:=qf hb2;have HO:=qf hO;clear hcase hb2 hO hrow2 HCl;go_wp2_with fail;refine HSo.out.mono ?_;rintro e w3 ⟨rfl,hr3,hb3,_⟩;have hsl:(rd.mergeSort leI).length=rd.length:=(List.mergeSort_perm rd leI).length_eq;have HCm:=qf (xv (rd.mergeSort leI) O co w3 hr3 (by have:=HCo.out;omega) qoq wa.heap.size (fun _ h=>h) qqN);rw [hsl] at HCm;have HB3:=qf (HB2.out.trans hb3);clear hr3 hb3 HSo HB2;go_wp2_with fail;refine HCm.out.mono ?_;rintro e w4 ⟨rfl,hr4,hb4⟩;have hB4:=HB3.out.trans hb4;obtain ⟨hm,hd,hl⟩:=zv rd;have hS:Lib.compact (rd.mergeSort leI)=cL rd:=rfl;rw [hS] at hr4 ⊢;have HSok:Hid (∀r∈cL rd,okN r):=qf fun r hrr=>HR.out r ((hm r).1 hrr)
 have HSd:=qf hd;have hSl:(cL rd).length<=1024:=qoq;have HG4:=qf (HG.out.below hB4);have HB4:=qf (HB.out.trans (hB4.mono qoq));have hc0:w4.cell? ⟨w.heap.size,0,ZU⟩=ZV (ZZ ZY an):=aa hB4 hA0;have hlw:=HG.out.lt;have hz4:wa.heap.size<=w4.heap.size:=hB4.size
 obtain ⟨s,hsv,hsl2⟩:∃s:Sl,slE.val s=Zw O (cL rd).length co/\s.len=(cL rd).length:=by
  rcases HO.out with rfl|⟨g2,rfl⟩
  ·exact ⟨⟨ZU,(cL rd).length,co⟩,rfl,rfl⟩
  ·exact ⟨⟨ZV (g2,0),(cL rd).length,co⟩,rfl,rfl⟩
 have hsa:s.addr=O:=by
  have h1:(Value.slice s.addr s.len s.cap)=Zw O (cL rd).length co:=hsv;injection h1
 have hnh:∀k,wa.heap.size<=k->¬ef f2 k:=fun k hk hh=>by have:=(HG.out.hot hh).2;omega
 have hnh0:¬ef f2 w.heap.size:=fun hh=>by
  have:=HB0.out _ hh;omega
 have hrs:fJ w4 (fun h=>base<=h/\¬ef f2 h) s (cL rd):=⟨hsl2,(by rw [hsa];exact hr4.row.mono fun k hk _=>⟨by omega,hnh k hk⟩)⟩;have hrs6:=hrs.below (Below.drew (Below.refl w4.heap.size w4));have hG6:=HG4.out.below (Below.drew (Below.refl w4.heap.size w4));obtain ⟨w5,hrun,hG5,hg5,hz5⟩:=hG6.put1 (x:=an) (my HA.out) qnH hrs6;rw [hsv] at hrun;have HG5:=qf hG5;have hz46:w4.drew.heap.size=w4.heap.size:=rfl;have hk5:∀k,k<w4.heap.size->k≠b1->w5.heap[k]? =w4.heap[k]? :=fun k hk hne=>hg5.block k hk (fun e=>hne (Option.some.inj e))
 have HC5:Hid (w5.cell? ⟨w.heap.size,0,ZU⟩=ZV (ZZ ZY an)):=qf ((World.cell?_of_block (w:=w4) (hk5 w.heap.size qoq qoq)).trans hc0);have hcc5:w5.cell? ⟨g,0,ZU⟩=ZV (.map (ZV b1))/\w5.cell? ⟨w.heap.size,0,ZU⟩=ZV (ZZ ZY an):=⟨hG5.c0,HC5.out⟩;have HR5:Hid (bc w5 (fun k=>wa.heap.size<=k) O (cL rd)):=qf (hr4.row.kept ⟨qoq,fun k hk hl=>hk5 k hl qoq⟩);have HB5:Hid (Z2 b1 w w5):=qf ⟨hg5.os.trans HB4.out.os,hg5.tape.trans HB4.out.tape,hg5.output.trans HB4.out.output,(by have:=HB4.out.size;omega),fun k hk=>(hk5 k qoq qoq).trans (HB4.out.block k qoq)⟩;have HZ5:Hid (wa.heap.size<=w5.heap.size):=qf qoq;have HNh:=qf hnh;have HNh0:=qf hnh0;have hcg:=HG4.out.c0;have HCd:=qf (fun W (hb:Z2 w4.heap.size w4 W)=>(show W.cell? ⟨g,0,ZU⟩=ZV (.map (ZV b1))/\W.cell? ⟨w.heap.size,0,ZU⟩=ZV (ZZ ZY an) from ⟨aa hb hcg,aa hb hc0⟩));clear hr4 hb4 hB4 hm hd hl hS hcg hc0 hrs hrs6 hG6 hG5 hg5 hk5 hnh hnh0 hsa hsl2 hsl HCm HB3;go_wp2_with fail
 go_region_held3 (fun w'=>w'.cell? ⟨g,0,ZU⟩=ZV (.map (ZV b1))/\w'.cell? ⟨w.heap.size,0,ZU⟩=ZV (ZZ ZY an))
  (first|with_reducible exact hcc5|(exact HCd.out _ qsM)|fail)
  (first
  |(refine fO qnL _ _ _ 120 qnL qnL qnL qnL hrun ?_)
  |fail)
 clear hrun hcc5 HCd hsv hz46 hz5 hz4 HG4 HB4 HG HA HR
 have HNo:Hid (∀n,(bJ f1 an s n).isSome=true↔n=an\/(f1 n).isSome=true):=qf fun n=>by
  unfold bJ;by_cases e:n=an
  ·rw [if_pos e];exact ⟨fun _=>.inl e,fun _=>rfl⟩
  ·rw [if_neg e]
   constructor
   ·exact fun h=>.inr h
   ·rintro (h|h)
    ·exact absurd h e
    ·exact h
 have HG5b:Hid (GBm w5 base g b1 b2 (n1+1) (n2+0) (bJ f1 an s) f2 (fun n=>if n=an then cL rd else R1 n) (r2k R2 (cL rd) an 0)):=qf (by rw [Gr];exact HG5.out);have HEnd:Hid (∀r,r2k R2 (cL rd) an (cL rd).length r=if r∈cL rd then R2 r++[an] else R2 r):=qf fun r=>by unfold r2k;rw [List.take_length]
 obtain ⟨W55,hW55⟩:∃W55,W55=w5:=⟨_,rfl⟩
 have HCold5:Hid (∀k,(k=w.heap.size\/∃o,O=ZV ⟨k,o,ZU⟩/\wa.heap.size<=k)->k<w5.heap.size->¬ef f2 k/\w5.heap[k]? =W55.heap[k]?):=qf fun k hk _=>⟨by
  rcases hk with rfl|⟨_,_,h⟩
  ·exact HNh0.out
  ·exact HNh.out k h,(by rw [hW55])⟩
 have hbz:=HB5.out.size;have HZ5':=HZ5.out;have HW0:Hid (w.heap.size<w5.heap.size):=qf qoq;clear HG5;generalize bJ f1 an s=f1' at*;generalize hSS:cL rd=SS at*;go_wp2_with fail;go_loopw [23] (fun vk wx=>∃(k:Nat) (f2':Int->Option Sl),k<=SS.length/\vk=ZZ ZY (k:Int)/\Hid (GBm wx base g b1 b2 (n1+1) (n2+k) f1' f2' (fun n=>if n=an then SS else R1 n) (r2k R2 SS an k))/\Hid (∀k,(k=w.heap.size\/∃o,O=ZV ⟨k,o,ZU⟩/\wa.heap.size<=k)->k<w5.heap.size->¬ef f2' k/\wx.heap[k]? =W55.heap[k]?)/\Hid (Z2 b1 w wx)/\Hid (w5.heap.size<=wx.heap.size)) (fun vk _=>SS.length - (RowKit.intOf vk).toNat)
 case atStart=>exact ⟨0,f2,qe,rfl,HG5b,HCold5,HB5,qf qd⟩
 case round=>
  obtain ⟨k,f2',hk,rfl,HGk,HCo,HBk,HZk⟩:=hrel;clear HG5b HCold5 HB5;by_cases hkl:k<SS.length
  ·obtain ⟨r,hr⟩:∃r,SS[k]? =ZV r:=⟨_,List.getElem?_eq_getElem hkl⟩
   obtain ⟨e1,e2⟩:=I7 (R2:=R2) (an:=an) HSd.out hr;have hkr:KB r:=my (HSok.out r (List.mem_of_getElem? hr));rcases HR5.out with hnil|⟨gr,orr,rfl,hgp,hgl,hcr⟩
   ·exact qnb
   have hc9:wr.cell? ⟨gr,orr+k,ZU⟩=ZV (ZZ ZY r):=(World.cell?_of_block (w:=w5) ((HCo.out gr (.inr ⟨orr,rfl,hgp⟩) hgl).2.trans (by rw [hW55]))).trans (hcr k r hr);have hc8:wr.cell? ⟨w.heap.size,0,ZU⟩=ZV (ZZ ZY an):=(World.cell?_of_block (w:=w5) ((HCo.out w.heap.size (.inl rfl) HW0.out).2.trans (by rw [hW55]))).trans HC5.out;have hcg:=HGk.out.c1;have hI:(k:Int)<(SS.length:Int):=qoq;have hJ:(0:Int)<=(k:Int):=qoq;have HC:=qf (fun W (hb:Z2 wr.heap.size wr W)=>(show W.cell? ⟨g,1,ZU⟩=ZV (.map (ZV b2))/\W.cell? ⟨w.heap.size,0,ZU⟩=ZV (ZZ ZY an) from ⟨aa hb hcg,aa hb hc8⟩));have HLk:=qf (fun W (hb:Z2 wr.heap.size wr W)=>(HGk.out.below hb).look2 hkr);have HOw:=qf (HGk.out.o2 r);rw [e1] at HOw;have hrl2:=HR2.out r;have hbw:=HGk.out.lt.2.2.2.2.2.2;have hnh8:=(HCo.out w.heap.size (.inl rfl) HW0.out).1;have hgcold:¬ef f2' g:=fun hh=>by have:=(HGk.out.hot hh).1;have:=HGk.out.lt;omega
   have hlg:=HGk.out.lt;have hwr:w.heap.size<wr.heap.size:=(by have:=HZk.out;have:=HW0.out;omega);have HWr:=qf hwr;clear hr hcr hc8 hcg;go_wp2_with fail;clear hc9
   go_region_held3 (fun w'=>w'.cell? ⟨g,1,ZU⟩=ZV (.map (ZV b2))/\w'.cell? ⟨w.heap.size,0,ZU⟩=ZV (ZZ ZY an))
    (first|with_reducible exact hcc6|with_reducible exact hcc4|(exact HC.out _ qsM)|fail)
    (first
    |(refine lK (HLk.out _ qsM) ?_)
    |(refine ic qnL _ _ qnL qnL (av.below HOw.out qsM) (L2:=[an]) qnL (by first|exact gy _ _|exact (gy _ _).below (Below.drew qb)) (Z:=R2 r++[an]) qnL hi0 hz0 hz1 hz2 rfl qnu (have hv:=hbw;(by with_reducible repeat' (first|exact hv|refine D5 ?_|refine Kc ?_))) ?_
      intro v4 w4 ho4 hg4 hat4;rw [<-e1] at ho4;obtain ⟨w6,s',rfl,hrun,hG6,hz6,hk6,hos6,htp6,hou6⟩:=HGk.out.put2 hkr qnH qoY hg4 ho4 hat4
      have hcc4:w4.cell? ⟨g,1,ZU⟩=ZV (.map (ZV b2))/\w4.cell? ⟨w.heap.size,0,ZU⟩=ZV (ZZ ZY an):=by
       have h1:=HC.out wr qb;exact ⟨(World.cell?_of_block (w:=wr) ((hg4.block g (Nat.lt_of_lt_of_le (by omega:g<wr.heap.size) qsS) (fun e=>hgcold (jy e.symm))).trans ((show RowKit.Below wr.heap.size wr _ from qoY).block g qoq))).trans h1.1,(World.cell?_of_block (w:=wr) ((hg4.block w.heap.size (Nat.lt_of_lt_of_le hwr qsS) (fun e=>hnh8 (jy e.symm))).trans ((show RowKit.Below wr.heap.size wr _ from qoY).block w.heap.size hwr))).trans h1.2⟩
      have hcc6:w6.cell? ⟨g,1,ZU⟩=ZV (.map (ZV b2))/\w6.cell? ⟨w.heap.size,0,ZU⟩=ZV (ZZ ZY an):=by
       have h1:=HC.out wr qb;exact ⟨hG6.c1,(World.cell?_of_block (w:=wr) (hk6 w.heap.size qoq hnh8 qoq).1).trans h1.2⟩
      have HG6:=qf hG6;have HZ6:=qf hz6;have HK6:=qf hk6;have HO6:=qf (And.intro hos6 (And.intro htp6 hou6));clear hG6 hz6 hk6 hos6 htp6 hou6 ho4 hg4 hat4)
    |(refine fO qnL _ _ _ 120 qnL qnL qnL qnL hrun ?_)
    |fail)
   all_goals
    have HGn:Hid (GBm w6 base g b1 b2 (n1+1) (n2+(k+1)) f1' (bJ f2' r s') (fun n=>if n=an then SS else R1 n) (r2k R2 SS an (k+1))):=qf (by
     have:=HG6.out;rw [e1] at this;rw [e2];exact this)
    have HCn:Hid (∀q,(q=w.heap.size\/∃o,ZV (⟨gr,orr,ZU⟩:Addr)=ZV ⟨q,o,ZU⟩/\wa.heap.size<=q)->q<w5.heap.size->¬ef (bJ f2' r s') q/\w6.heap[q]? =W55.heap[q]?):=qf fun q hq hl=>by
     have h1:=HCo.out q hq hl;have h2:=HK6.out q (by have:=HZk.out;omega) h1.1 (by rcases hq with rfl|⟨_,_,h⟩<;>omega);exact ⟨h2.2,h2.1.trans h1.2⟩
    have HBn:Hid (Z2 b1 w w6):=qf ⟨HO6.out.1.trans HBk.out.os,HO6.out.2.1.trans HBk.out.tape,HO6.out.2.2.trans HBk.out.output,(by have:=HBk.out.size;have:=HZ6.out;omega),fun q hq=>(HK6.out q qoq (fun hh=>by have:=(HGk.out.hot hh).1;omega) qoq).1.trans (HBk.out.block q hq)⟩;have HZn:Hid (w5.heap.size<=w6.heap.size):=qf (by have:=HZ6.out;have:=HZk.out;omega);clear hrun hcc4 hcc6 HG6 HK6 HO6 HZ6 HCo HGk HBk HZk HLk HC HOw;go_wp2_with fail;go_roundw
    case rel=>exact ⟨k+1,_,qoq,qnG,HGn,HCn,HBn,HZn⟩
    case measure=>exact qmy
  ·have hkk:k=SS.length:=by omega
   subst hkk
   have HGn:Hid (GBm wr base g b1 b2 (n1+1) (n2+SS.length) f1' f2' (fun n=>if n=an then SS else R1 n) (fun r=>if r∈SS then R2 r++[an] else R2 r)):=qf (by
    rw [<-show r2k R2 SS an SS.length=(fun r=>if r∈SS then R2 r++[an] else R2 r) from funext HEnd.out];exact HGk.out)
   clear HGk HCo HZk;go_wp2_with fail;go_end0
   exact ⟨n2+SS.length,f1',f2',rfl,(by rw [hSS];exact HGn.out),qoq,HNo.out,HBk.out⟩
end
section
def bM (R2:Int->List Int) (l:List Int) (r:Int):Int:=(l.countP fun n=>decide (r∈R2 n):Nat)
def jt (b:Bool):Int:=if b then 1 else 0
theorem GN (R2:Int->List Int) (r:Int):bM R2 [] r=0:=rfl
theorem lT (R2:Int->List Int) (a b:List Int) (r:Int):bM R2 (a++b) r=bM R2 a r+bM R2 b r:=by
 unfold bM;rw [List.countP_append];omega
theorem wN (R2:Int->List Int) (n r:Int):bM R2 [n] r=jt (decide (r∈R2 n)):=by
 unfold bM jt;by_cases h:r∈R2 n<;>simp [h]
theorem uM (R2:Int->List Int) (l:List Int) (r:Int):0<=bM R2 l r/\bM R2 l r<=l.length:=by
 unfold bM;have:=List.countP_le_length (p:=fun n=>decide (r∈R2 n)) (l:=l);omega
theorem Fq:bM R2 l r=0↔∀n∈l,r∉R2 n:=by
 unfold bM;rw [show ((l.countP fun n=>decide (r∈R2 n):Nat):Int)=0↔(l.countP fun n=>decide (r∈R2 n))=0 from by omega,List.countP_eq_zero];simp
theorem py (h:l[i]? =ZV x):l=l.take i++x::l.drop (i+1):=by
 obtain ⟨h1,rfl⟩:=List.getElem?_eq_some_iff.1 h;rw [<-List.drop_eq_getElem_cons h1,List.take_append_drop]
theorem Du (h:l[i]? =ZV n) (r:Int):bM R2 (l.take (i+1)) r=bM R2 (l.take i) r+jt (decide (r∈R2 n)):=by
 rw [List.take_add_one,h,lT];rw [show (ZV n).toList=[n] from rfl,wN]
theorem I5 (h:l[i]? =ZV n) (r:Int):bM R2 (l.take i++l.drop (i+1)) r=bM R2 l r - jt (decide (r∈R2 n)):=by
 have e:=py h;have e2:bM R2 l r=bM R2 (l.take i++n::l.drop (i+1)) r:=congrArg (fun q=>bM R2 q r) e;rw [e2,show l.take i++n::l.drop (i+1)=l.take i++([n]++l.drop (i+1)) from rfl,lT,lT,lT,wN];omega
def cE (W:Int->Int) (R:List Int) (k:Nat) (s:Int):Int->Int:=fun r=>W r+s*jt (decide (r∈R.take k))
theorem tG (W:Int->Int) (R:List Int) (s:Int):cE W R 0 s=W:=funext fun r=>by unfold cE jt;simp
theorem t9 {W:Int->Int} {R:List Int} {r0:Int} (hd:R.Nodup) (h:R[k]? =ZV r0) (s:Int):cE W R (k+1) s=fun y=>if y=r0 then cE W R k s r0+s else cE W R k s y:=funext fun y=>by
 have hno:r0∉R.take k:=fun hm=>by
  have e:=py h;rw [e] at hd;exact (List.nodup_append.1 hd).2.2 r0 hm r0 qns rfl
 have hm:y∈R.take (k+1)↔y∈R.take k\/y=r0:=by
  rw [List.take_add_one,h,List.mem_append];simp
 unfold cE jt;by_cases e:y=r0
 ·subst e
  simp [hm,hno]
 ·simp [hm,e]
theorem vR (W:Int->Int) (R:List Int) (s:Int) (r:Int):cE W R R.length s r=W r+s*jt (decide (r∈R)):=by unfold cE;rw [List.take_length]
theorem Iu {P:Int->Prop} (hS:S.Pairwise (·<·)) (hall:∀m,P m->m∈S) (hn:S[i]? =ZV n) (hr:0<=n/\n<1024) (hno:∀m∈S.take i,¬P m) (hp:P n):dC P 1024=ZV n:=by
 obtain ⟨k,rfl⟩:∃k:Nat,n=(k:Int):=⟨n.toNat,qoq⟩
 refine tV (jp.2 fun m h0 h1 hm=>?_) hp qoq;obtain ⟨j,hj⟩:=List.mem_iff_getElem?.1 (hall m hm)
 have hji:j<i:=by
  obtain ⟨hj1,ej⟩:=List.getElem?_eq_some_iff.1 hj;obtain ⟨hi1,ei⟩:=List.getElem?_eq_some_iff.1 hn;by_cases q:j<i
  ·exact q
  ·have:i<j\/i=j:=by omega
   rcases this with c|c
   ·have:=List.pairwise_iff_getElem.1 hS i j hi1 hj1 c
    rw [ei,ej] at this;omega
   ·subst c
    rw [hn] at hj;have:=Option.some.inj hj;omega
 exact hno m (List.mem_iff_getElem?.2 ⟨j,(by rw [List.getElem?_take,if_pos hji];exact hj)⟩) hm
structure fU (L:List Lk) (told lf:List Int):Prop where
 tl:ib L told
 od:jL L 1024 (1025 - told.length) told=gm L 1024
 lv:lf=(iw L).filter fun n=> !decide (n∈told)
theorem fU.start (L:List Lk):fU L [] (iw L):=⟨ib.nil L,rfl,(List.filter_eq_self.2 fun a _=>by simp).symm⟩
section
variable {L:List Lk} {told lf:List Int} {R2:Int->List Int}
theorem fU.mem (hk:OkK L) (h:fU L told lf):n∈lf↔(isN L n/\¬bS L n)/\n∉told:=by
 rw [h.lv,List.mem_filter,wC hk];simp
theorem fU.rise (h:fU L told lf):lf.Pairwise (·<·):=by
 rw [h.lv];exact (EM L).filter _
theorem fU.rdy (hk:OkK L) (h:fU L told lf) (hR:∀y n,n∈R2 y↔Ed L n y) (hx:x∈lf):kR L told x↔bM R2 lf x=0:=by
 rw [Fq];have hx2:=(h.mem hk).1 hx;constructor
 ·rintro ⟨_,_,_,h4⟩ n hn hr
  have hn2:=(h.mem hk).1 hn;obtain ⟨y,hy,e,hyr⟩:=(hR n x).1 hr;exact hn2.2 (h4 y hy e n hyr hn2.1.1 hn2.1.2)
 ·intro hz
  refine ⟨hx2.1.1,hx2.1.2,hx2.2,fun y hy e r hr h1 h2=>?_⟩;by_cases ht:r∈told
  ·exact ht
  ·exact absurd ((hR r x).2 ⟨y,hy,e,hr⟩) (hz r ((h.mem hk).2 ⟨⟨h1,h2⟩,ht⟩))
theorem fU.next (hk:OkK L) (h:fU L told lf) (hR:∀y n,n∈R2 y↔Ed L n y) (hx:lf[i]? =ZV x) (h0:bM R2 lf x=0) (hno:∀m∈lf.take i,bM R2 lf m≠0):fU L (told++[x]) (lf.take i++lf.drop (i+1)):=by
 have hxm:=List.mem_of_getElem? hx;have hr:=(h.rdy hk hR hxm).2 h0;have hl:=Iu (P:=kR L told) h.rise (fun m hm=>(h.mem hk).2 ⟨⟨hm.1,hm.2.1⟩,hm.2.2.1⟩) hx (dz hk hr.1) (fun m hm hrm=>hno m hm ((h.rdy hk hR (List.mem_of_mem_take hm)).1 hrm)) hr;have htl:=jV hk h.tl;refine ⟨h.tl.next hr,?_,?_⟩
 ·have h1:=h.od
  rw [show 1025 - told.length=(1025 - (told++[x]).length)+1 from by simp;omega,Gj hl] at h1;exact h1
 ·have e:=py hx
  have hnd:lf.Nodup:=h.rise.imp fun {a b} hab=>by omega
  have h2:lf.filter (fun n=> !decide (n=x))=lf.take i++lf.drop (i+1):=by
   have hnd2:=hnd;rw [e] at hnd2;obtain ⟨n1,n2,n3⟩:=List.nodup_append.1 hnd2
   have hA:(lf.take i).filter (fun n=> !decide (n=x))=lf.take i:=List.filter_eq_self.2 fun a ha=>by
    have:=n3 a ha x qns;simpa using this
   have hB:(lf.drop (i+1)).filter (fun n=> !decide (n=x))=lf.drop (i+1):=List.filter_eq_self.2 fun a ha=>by
    have:=(List.nodup_cons.1 n2).1;have:a≠x:=fun e=>this (e▸ha)
    simpa using this
   have e3:lf.filter (fun n=> !decide (n=x))=(lf.take i++x::lf.drop (i+1)).filter (fun n=> !decide (n=x)):=congrArg (fun q=>q.filter fun n=> !decide (n=x)) e;rw [e3,List.filter_append,List.filter_cons,hA,hB];simp
  rw [<-h2,h.lv,List.filter_filter];refine List.filter_congr fun n _=>?_
  by_cases a:n∈told<;>by_cases b:n=x<;>simp [a,b]
theorem fU.done (hk:OkK L) (h:fU L told lf) (hR:∀y n,n∈R2 y↔Ed L n y) (hno:∀m∈lf,bM R2 lf m≠0):told=gm L 1024:=by
 have hl:dC (kR L told) 1024=ZU:=jp.2 fun m _ _ hm=>by
  have hml:m∈lf:=(h.mem hk).2 ⟨⟨hm.1,hm.2.1⟩,hm.2.2.1⟩;exact hno m hml ((h.rdy hk hR hml).1 hm)
 have htl:=jV hk h.tl;have h1:=h.od;rw [show 1025 - told.length=(1024 - told.length)+1 from by omega,jL,hl] at h1;exact h1
theorem fU.len (h:fU L told lf):lf.length<=1024:=by
 rw [h.lv];exact Nat.le_trans (List.length_filter_le _ _) (vd L)
end
end
section
open Go.Maps Go.Sort Go.Shelf Go.Lib
def ArI (V:Z3) (B:Nat) (W:Int->Int):Prop:=Ar 159 (Value.int .i64) V B W
theorem CQ:zeroCells159=Array.replicate 1024 (ZZ ZY 0):=by kernel_rfl
theorem Dz (W:Int->Int) (B:Nat) (V:Z3) (hM:ArI V B W) (j:Fin 1024):
 FnGives ZW 104 #[Zv (ZV ⟨B,0,ZU⟩)] #[ZZ ZY ((j.val:Nat):Int)] (.bool (decide (W ((j.val:Nat):Int)=0))) V:=by
 show Calls ZW 104 #[ZZ ZY ((j.val:Nat):Int),Zv (ZV ⟨B,0,ZU⟩)] V _
 obtain ⟨c0,_⟩:=hM.cell j.isLt;have hj:=j.isLt;generalize (j.val:Nat)=n at*;generalize hW:W (n:Int)=x at*;have he:(x==0)=decide (x=0):=(by by_cases h:x=0<;>simp [h]);clear hM hW;go_enter func104,ntmps104;go_wp2_with fail;go_ret;exact ⟨by first|rfl|rw [he]|simp [he],0,rfl⟩
theorem tS {α:Type} (eq:α->α->Bool) (x:α):∀(zs:List α) (i:Nat),(idxByFrom eq x zs i= -1/\∀y∈zs,eq x y=Zz)\/∃k y,idxByFrom eq x zs i=((i+k:Nat):Int)/\zs[k]? =ZV y/\eq x y=true/\∀m∈zs.take k,eq x m=Zz
 |[],_=>.inl ⟨rfl,fun y h=>by cases h⟩
 |z::zs,i=>by
  by_cases h:eq x z=true
  ·exact .inr ⟨0,z,(by simp [idxByFrom,h]),rfl,h,fun m hm=>by simp at hm⟩
  ·have h:eq x z=Zz:=by simpa using h
   rcases tS eq x zs (i+1) with ⟨h1,h2⟩|⟨k,y,h1,h2,h3,h4⟩
   ·exact .inl ⟨(by simp [idxByFrom,h,h1]),fun y hy=>by rcases List.mem_cons.1 hy with rfl|hy;exact h;exact h2 y hy⟩
   ·refine .inr ⟨k+1,y,(by simp only [idxByFrom,h,Bool.false_eq_true,if_false];rw [h1];omega),qqd,h3,fun m hm=>?_⟩
    rw [List.take_succ_cons] at hm;rcases List.mem_cons.1 hm with rfl|hm
    ·exact h
    ·exact h4 m hm
def fz (x:Int):Fin 1024:=⟨x.toNat % 1024,Nat.mod_lt _ qnv⟩
theorem AC (h:0<=x/\x<1024):(((fz x).val:Nat):Int)=x:=by
 show ((x.toNat % 1024:Nat):Int)=x
 rw [Nat.mod_eq_of_lt qoq];omega
theorem IT (W:Int->Int) (B:Nat) (lf:List Int) (A:Option Addr) (c:Nat) (w:Z3) (hM:ArI w B W) (hr:bc w P A lf) (hlf:∀x∈lf,0<=x/\x<1024) (hll:lf.length<=1024):
 Calls ZW 103 #[Zw A lf.length c,.func (.func 104) #[] #[Zv (ZV ⟨B,0,ZU⟩)]] w fun e w'=>((e=ZX (ZZ ZY (-1))/\∀m∈lf,W m≠0)\/∃(i:Nat) (x:Int),e=ZX (ZZ ZY (i:Int))/\lf[i]? =ZV x/\W x=0/\∀m∈lf.take i,W m≠0)/\∃q,w'=w.drewN q:=by
 by_cases hn:lf=[]
 ·subst hn
  refine (AnyE.slices_IndexFunc_empty indexA A c _ w).mono ?_;rintro e w' ⟨he,rfl⟩;exact ⟨.inl ⟨he,fun m hm=>by cases hm⟩,0,rfl⟩
 ·rcases hr with h|⟨g,o,rfl,_,_,hc⟩
  ·exact absurd h hn
  ·have hzl:(lf.map fz).length=lf.length:=List.length_map _
   have h:=AnyE.slices_IndexFunc indexA (fun j:Fin 1024=>Value.int .i64 ((j.val:Nat):Int)) (fun j=>decide (W ((j.val:Nat):Int)=0)) 104 #[Zv (ZV ⟨B,0,ZU⟩)] (enters_of func104 qnx rfl) g o lf.length c (lf.map fz) w (fun V x hb=>Dz W B V (hM.below hb) x) (by rw [hzl];exact qd) qoq (fun j hj=>by
    rw [hzl] at hj;rw [hc j lf[j] (List.getElem?_eq_getElem hj)]
    have e:(lf.map fz)[j]! =fz lf[j]:=by
     rw [List.getElem!_eq_getElem?_getD,List.getElem?_map,List.getElem?_eq_getElem hj];rfl
    rw [e,AC (hlf _ (List.getElem_mem hj))])
   refine h.mono ?_;rintro e w' ⟨he,hq⟩;refine ⟨?_,hq⟩;have hmm:∀m∈lf,(decide (W (((fz m).val:Nat):Int)=0)=Zz↔W m≠0):=fun m hm=>by rw [AC (hlf m hm)];simp
   rw [<-hzl,List.take_length] at he;rcases tS (fun _ y:Fin 1024=>decide (W ((y.val:Nat):Int)=0)) default (lf.map fz) 0 with ⟨h1,h2⟩|⟨k,y,h1,h2,h3,h4⟩
   ·refine .inl ⟨by rw [he];unfold idxBy;rw [h1],fun m hm=>(hmm m hm).1 (h2 _ (List.mem_map.2 ⟨m,hm,rfl⟩))⟩
   ·rw [List.getElem?_map] at h2
    cases hx:lf[k]? with
    |none=>rw [hx] at h2;cases h2
    |some x=>
     rw [hx] at h2;obtain rfl:fz x=y:=qqd;have hxm:=List.mem_of_getElem? hx;refine .inr ⟨k,x,(by rw [he];unfold idxBy;rw [h1,Nat.zero_add]),hx,?_,fun m hm=>(hmm m (List.mem_of_mem_take hm)).1 (h4 _ (by rw [<-List.map_take];exact List.mem_map.2 ⟨m,hm,rfl⟩))⟩;have:=of_decide_eq_true h3;rwa [AC (hlf x hxm)] at this
theorem LT (l:List Int) (A:Option Addr) (c:Nat) (w:Z3) (hr:eX w P A c l) (i:Nat) (hi:i<l.length) (base:Nat) (hP:∀k,P k->base<=k) (hs:base<=w.heap.size):
 Calls ZW 105 #[Zw A l.length c,ZZ ZY (i:Int),ZZ ZY ((i:Int)+1)] w fun e w'=>e=ZX (Zw A (l.take i++l.drop (i+1)).length c)/\eX w' P A c (l.take i++l.drop (i+1))/\Z2 base w w'/\w.heap.size<=w'.heap.size/\∀k,k<w.heap.size->¬P k->w'.heap[k]? =w.heap[k]? :=by
 rcases hr.row with h|⟨blk,o,rfl,hPk,hlt,hh⟩
 ·subst h;exact absurd hi (Nat.not_lt_zero _)
 ·have hcm:=hr.cap
  unfold maxLen at hcm;have h:=Any.slices_Delete_int deleteA blk o c i (i+1) l w hh hr.le qoq qoq qoq;rw [show ((i+1:Nat):Int)=(i:Int)+1 from by omega] at h;refine h.mono ?_;have hlen:(l.take i++l.drop (i+1)).length=l.length - (i+1 - i):=qnu;rintro e w' ⟨he,q,rfl⟩;have hH:=holds_putRow (Value.int .i64) (Sort.ahead w q) blk o l.toArray (l.take i++l.drop (i+1)++List.replicate (i+1 - i) 0).toArray (holds_ahead _ _ _ _ _ _ hh) qnu;have hB:=gX (w:=w) (blk:=blk) (off:=o) (n:=q) (base:=base) (d:=(l.take i++l.drop (i+1)++List.replicate (i+1 - i) 0).toArray) (os:=#[]) (hP blk hPk) hs;have hZ:=iI (w:=w) (blk:=blk) (off:=o) (n:=q) (d:=(l.take i++l.drop (i+1)++List.replicate (i+1 - i) 0).toArray) (os:=#[]);have hK:=fun k hk hne=>iJ (w:=w) (blk:=blk) (off:=o) (n:=q) (d:=(l.take i++l.drop (i+1)++List.replicate (i+1 - i) 0).toArray) (os:=#[]) (k:=k) hk hne
  rw [mB] at hB hZ hK;refine ⟨(by rw [he,hlen]),⟨by have:=hr.le;omega,hr.cap,.inr ⟨blk,o,rfl,hPk,Nat.lt_of_lt_of_le hlt hZ,lY hH⟩⟩,hB,hZ,fun k hk hn=>hK k hk fun e=>hn (e▸hPk)⟩
def Pn:Value->Nat|Zw _ n _=>n|_=>0
theorem AM (w:Z3) (g:Nat) (L:List Lk) (hP:ir w g L) (hk:OkK L) (hL:L.length<=60):
 Calls ZW 57 #[Zv (ZV ⟨g,0,ZU⟩)] w fun e w'=>Gs w (gm L 1024) e w':=by
 obtain ⟨i0,hi0,hz0,hz1,hz2⟩:=info_parts gO;have hb1:Z2 w.heap.size w (w.alloc (.cells zeroCells159 159)):=qa;have HSt:=qf (ux _ g L (hP.below hb1) hk hL);have HM1:Hid (ArI (w.alloc (.cells zeroCells159 159)) w.heap.size (fun _=>0)):=qf (Ar.made CQ w);have HX:Hid (w.heap.size<(w.alloc (.cells zeroCells159 159)).heap.size):=qf qns;have HB1:=qf hb1;obtain ⟨b1,b2,n1,n2,f1,f2,R1,R2,hG⟩:=hP;have HGet:=qf (fun (W:Z3) (hb:Z2 w.heap.size w W) (x:Int) (hx:KB x)=>hG.readers hb hx);have HR2:=qf hG.ok.r2;have HD2:=qf hG.ok.d2;have HR2l:=qf (fun y=>Nat.le_trans (hG.ok.l2 y) hL);have HRw:=qf (fun (W:Z3) (hb:Z2 w.heap.size w W) (x:Int) (hx:KB x)=>(hG.readers hb hx).2);have HK:=qfq
 have HSr:Hid (∀x∈iw L,okN x):=qf fun x hx=>by
  have:=dz hk ((wC hk).1 hx).1;unfold okN;omega
 clear hG hk hL hb1;go_enter func57,ntmps57;go_wp2_with fail;refine iD 0 (fun a' wr=>∃(told lf:List Int) (A4:Option Addr) (c4:Nat) (v9 u5 u6 u7 u8 u10 u11 u12 u13 u14 u15 u16 u17 u18 u19 u20 u21 u22 u23 u24 u25 u26 u27 u28 u29 u30 u31 u32 u33 u34 u35 u36 u37 u38 u39 u40 u41 u42 u43 u44 u45 u46 u47 u48 u49 u50 u51 u52 u53 u54 u55 u56 u57 u58 u59 u60 u61 u62 u63 u64 u65 u66 u67 u68 u69 u70 u71 u72 u73 u74 u75 u76 u77 u78:Value),a'={ tmps:=#[Zv (ZV ⟨g,0,ZU⟩),undef,Zw ZU 0 0,Zv (ZV ⟨w.heap.size,0,ZU⟩),Zw A4 lf.length c4,u5,u6,u7,u8,v9,u10,u11,u12,u13,u14,u15,u16,u17,u18,u19,u20,u21,u22,u23,u24,u25,u26,u27,u28,u29,u30,u31,u32,u33,u34,u35,u36,u37,u38,u39,u40,u41,u42,u43,u44,u45,u46,u47,u48,u49,u50,u51,u52,u53,u54,u55,u56,u57,u58,u59,u60,u61,u62,u63,u64,u65,u66,u67,u68,u69,u70,u71,u72,u73,u74,u75,u76,u77,u78],defers:=[] }/\Hid (fU L told lf)/\Hid (av 3 1 inW (w.heap.size+1) wr v9 told)/\Hid (eX wr (fun k=>w.heap.size+1<=k/\v9.ownBlock≠ZV k) A4 c4 lf)/\Hid (ArI wr w.heap.size (bM R2 lf))/\Hid (Z2 w.heap.size w wr)) (fun a' wr=>Pn (a'.tmps.getD 4 undef)) rfl ?_ ?_
 ·rintro a' wr ⟨told,lf,A4,c4,v9,u5,u6,u7,u8,u10,u11,u12,u13,u14,u15,u16,u17,u18,u19,u20,u21,u22,u23,u24,u25,u26,u27,u28,u29,u30,u31,u32,u33,u34,u35,u36,u37,u38,u39,u40,u41,u42,u43,u44,u45,u46,u47,u48,u49,u50,u51,u52,u53,u54,u55,u56,u57,u58,u59,u60,u61,u62,u63,u64,u65,u66,u67,u68,u69,u70,u71,u72,u73,u74,u75,u76,u77,u78,rfl,HS,H9,H4,HAr,HB⟩
  have hll:=HS.out.len
  have hFi:=IT (bM R2 lf) w.heap.size lf A4 c4 wr HAr.out H4.out.row.row (fun x hx=>by
   have:=dz HK.out ((HS.out.mem HK.out).1 hx).1.1;omega) hll
  have HFi:=qf hFi;clear hFi;go_wp2_with fail;refine HFi.out.mono ?_;rintro e w1 ⟨hcase,q,rfl⟩;clear HFi;rcases hcase with ⟨rfl,hno⟩|⟨i,x,rfl,hx,h0,hno⟩
  ·have HF:Hid (Gs w (gm L 1024) (ZX v9) (wr.drewN q)):=qf (by
    have e:=HS.out.done HK.out HR2.out hno;obtain ⟨A,cap,hv,hkk,hr⟩:=dt H9.out;have hbd:Z2 wr.heap.size wr (wr.drewN q):=below_drewN qb q;rw [hv,<-e];exact ⟨A,cap,rfl,hkk,(hr.mono fun k hk _=>by omega).below hbd,HB.out.trans (hbd.mono HB.out.size)⟩)
   clear HS H9 H4 HAr HB hno;exact qmk
  ·have HS2:=qf (HS.out.next HK.out HR2.out hx h0 hno)
   have hil:i<lf.length:=(List.getElem?_eq_some_iff.1 hx).1;have hxm:=(HS.out.mem HK.out).1 (List.mem_of_getElem? hx)
   have hkx:KB x:=by
    have:=dz HK.out hxm.1.1;unfold KB;omega
   have htl:told.length<=1024:=jV HK.out HS.out.tl
   obtain ⟨g4,o4,rfl,hPn,hg4l,hc4x⟩:∃g4 o4,A4=ZV ⟨g4,o4,ZU⟩/\(w.heap.size+1<=g4/\v9.ownBlock≠ZV g4)/\g4<wr.heap.size/\wr.cell? ⟨g4,o4+i,ZU⟩=ZV (ZZ ZY x):=by
    rcases H4.out.row with h|⟨g4,o4,e,hp,hl,hh⟩
    ·rw [h] at hil;exact absurd hil (Nat.not_lt_zero _)
    ·exact ⟨g4,o4,e,hp,hl,iO hh hx⟩
   have hbd:Z2 wr.heap.size wr (wr.drewN q):=below_drewN qb q;have hcd:(wr.drewN q).cell? ⟨g4,o4+i,ZU⟩=ZV (ZZ ZY x):=aa hbd hc4x;have H9d:=qf (H9.out.below hbd);have H4d:=qf (H4.out.below hbd);have HAd:=qf (HAr.out.below hbd);have HBd:=qf (HB.out.trans (hbd.mono HB.out.size));have hgd:g4<(wr.drewN q).heap.size:=hg4l;have hCut:=qf (fun r=>I5 (R2:=R2) hx r);clear hbd hc4x H9 H4 HAr HB hg4l HS hno h0 hx;generalize wr.drewN q=wd at*;have hI:(i:Int)<(lf.length:Int):=qoq;have hJ:=qbX;have hneg:decide ((i:Int)<0)=Zz:=decide_eq_false qoq;have w64:=qgo;have hbs:=HBd.out.size;have hown9:Hid (∀k,v9.ownBlock=ZV k->w.heap.size+1<=k):=qf fun k hk=>(World.ownsRow.lt H9d.out k hk).1
   have hXw:=HAd.out.lt;go_wp2_with (at_builtin;refine eh ?_)
   refine ek ?_;have b0:Z2 wd.heap.size wd (wd.alloc (.cells #[ZZ ZY x] 3)):=qa;refine ji rfl _ _ rfl rfl (av.below H9d.out b0) (L2:=[x]) rfl (gy wd x) (Z:=told++[x]) rfl hi0 hz0 hz1 hz2 rfl qnu qnu ?_;intro v5 w5 ho5 hg5 hat5;have hs5:=hg5.size;have HO5:=qf ho5
   have H45:Hid (eX w5 (fun k=>w.heap.size+1<=k/\v5.ownBlock≠ZV k) (ZV ⟨g4,o4,ZU⟩) c4 lf):=qf (by
    have hk:Kept wd w5 (fun k=>w.heap.size+1<=k/\v9.ownBlock≠ZV k):=⟨(by have:wd.heap.size<=(wd.alloc (.cells #[ZZ ZY x] 3)).heap.size:=qns;omega),fun k hk hl=>(hg5.block k qnu (fun e=>hk.2 e.symm)).trans (b0.block k hl)⟩;have h1:=(H4d.out.mono (Q:=fun k=>(w.heap.size+1<=k/\v9.ownBlock≠ZV k)/\k<wd.heap.size) fun k hk hl=>⟨hk,hl⟩);have h2:Kept wd w5 (fun k=>(w.heap.size+1<=k/\v9.ownBlock≠ZV k)/\k<wd.heap.size):=⟨hk.size,fun k hk' hl=>hk.block k hk'.1 hl⟩;refine (h1.kept h2).mono fun k hk' _=>⟨hk'.1.1,fun e=>?_⟩
    rcases hat5 with h|h
    ·exact hk'.1.2 (h▸e)
    ·rw [h] at e
     have:=Option.some.inj e;have h3:(wd.alloc (.cells #[ZZ ZY x] 3)).heap.size=wd.heap.size+1:=qns;omega)
   have HA5:Hid (ArI w5 w.heap.size (bM R2 lf)):=qf ((HAd.out.below b0).world (hg5.block _ (HAd.out.below b0).lt fun e=>by have:=hown9.out _ e.symm;omega));have HB5:Hid (Z2 w.heap.size w w5):=qf ((HBd.out.trans (b0.mono hbs)).grown hg5 qnu fun k hk=>by have:=hown9.out k hk;omega);have hc5:w5.cell? ⟨g4,o4+i,ZU⟩=ZV (ZZ ZY x):=(World.cell?_of_block (w:=wd.alloc (.cells #[ZZ ZY x] 3)) (hg5.block g4 qnu (fun e=>hPn.2 e.symm))).trans (aa b0 hcd);have HC5:=qf (fun (W:Z3) (hb:Z2 w5.heap.size w5 W)=>(show W.cell? ⟨g4,o4+i,ZU⟩=ZV (ZZ ZY x) from aa hb hc5));have hs6:w.heap.size<=w5.heap.size:=HB5.out.size;have HLk:=qf (fun (W:Z3) (hb:Z2 w5.heap.size w5 W)=>HGet.out W (HB5.out.trans (hb.mono HB5.out.size)) x hkx);obtain ⟨hrl,HRx,HDx,HRwx⟩:=qgN;have HEq:Hid (∀r,cE (bM R2 lf) (R2 x) (R2 x).length (-1) r=bM R2 (lf.take i++lf.drop (i+1)) r):=qf fun r=>by rw [vR,hCut.out r];omega
   have HBd:Hid (∀r,0<=bM R2 lf r/\bM R2 lf r<=1024):=qf fun r=>by have:=uM R2 lf r;omega
   have HP4:=qf hPn.1;have hHN:(0:Nat)<=0:=qd;clear b0 ho5 hg5 hat5 H9d H4d HAd hc5 hcd hxm hCut hown9 hbs hXw hPn hkx hgd;generalize hDl:lf.take i++lf.drop (i+1)=lf2 at*;generalize hC:bM R2 lf=CW at*;generalize R2 x=RR at*;generalize ((f2 x).getD sl0).addr=A2 at*;generalize ((f2 x).getD sl0).cap=c2 at*;go_wp2_with fail
   go_region_held3 (fun w'=>w'.cell? ⟨g,1,ZU⟩=ZV (.map (ZV b2))/\w'.cell? ⟨g4,o4+i,ZU⟩=ZV (ZZ ZY x))
    (first|(exact ⟨(HLk.out _ qsP).1.1,HC5.out _ qsP⟩)|fail)
    (first
    |(refine lK (HLk.out _ qsP).1.2 ?_)
    |fail)
   have hb6:Z2 w5.heap.size w5 w5.drew:=Below.drew qb;have HO6:=qf (HO5.out.below hb6);have H46:=qf (H45.out.below hb6);have HA6:Hid (ArI w5.drew w.heap.size (cE CW RR 0 (-1))):=qf (by rw [tG];exact HA5.out.below hb6);have HB6:=qgj;clear hb6 HO5 H45 HA5 HB5 HLk HC5 hs6;generalize w5.drew=w6 at*;go_wp2_with fail;go_loopw [64] (fun vk wx=>∃(k:Nat),k<=RR.length/\vk=ZZ ZY (k:Int)/\Hid (ArI wx w.heap.size (cE CW RR k (-1)))/\Hid (bk w.heap.size w6 wx)) (fun vk _=>RR.length - (vIn vk).toNat)
   case atStart=>exact ⟨0,qe,rfl,HA6,qf (bk.refl _ _)⟩
   case round=>
    obtain ⟨k,hk,rfl,HA,HBt⟩:=hrel;clear HA6;by_cases hkl:k<RR.length
    ·obtain ⟨r,hr⟩:∃r,RR[k]? =ZV r:=⟨_,List.getElem?_eq_getElem hkl⟩
     have hed:=(HRx.out r).1 (List.mem_of_getElem? hr);have hor:=(Bd HK.out hed).1;obtain ⟨j,hj⟩:∃j:Nat,r=(j:Int):=⟨r.toNat,qqs⟩
     have hj1:=qgF;subst hj;rcases HRwx.out wr (HB6.out.trans (HBt.out.below qd HB6.out.size)) with hnil|⟨gr,orr,rfl,_,hgl,hcr⟩
     ·exact qnb
     have c9:=hcr k (j:Int) hr;obtain ⟨m0,m1⟩:=HA.out.cell hj1;obtain ⟨hIk,hJk,hvb⟩:=qgk;have hvw:cE CW RR k (-1) (j:Int)=CW (j:Int)\/cE CW RR k (-1) (j:Int)=CW (j:Int) - 1:=qlI;have hw64:IntKind.i64.wrap (cE CW RR k (-1) (j:Int) - 1)=cE CW RR k (-1) (j:Int) - 1:=qpp
     have HA2:Hid (ArI (wr.setCell ⟨w.heap.size,j,ZU⟩ (ZZ ZY (cE CW RR k (-1) (j:Int) - 1))) w.heap.size (cE CW RR (k+1) (-1))):=qf ((HA.out.set (enc:=Value.int .i64) (j:=j) (cE CW RR k (-1) (j:Int) - 1)).congr fun y=>by
      rw [t9 HDx.out hr];rfl)
     have HBt2:=qf (HBt.out.setR j (ZZ ZY (cE CW RR k (-1) (j:Int) - 1)));clear hcr hed hor hr hvb hvw HA HBt;generalize cE CW RR k (-1) (j:Int)=VV at*;exact qkJ
    ·have hkk:k=RR.length:=by omega
     subst hkk;have HA7:Hid (ArI wr w.heap.size (bM R2 lf2)):=qf (HA.out.congr HEq.out);have hXl:=HA.out.lt;have h4k:=(H46.out.mono (Q:=fun k=>(w.heap.size+1<=k/\v5.ownBlock≠ZV k)/\k≠w.heap.size) fun k hk _=>⟨hk,qoq⟩).kept (w':=wr) ⟨HBt.out.size,fun k hk hl=>HBt.out.block k hl hk.2⟩;have HDel:=qf (LT lf _ c4 wr (h4k.mono (Q:=fun k=>w.heap.size+1<=k/\v5.ownBlock≠ZV k) fun k hk _=>hk.1) i hil (w.heap.size+1) (fun k hk=>hk.1) qoq);rw [hDl] at HDel
     have HO7:=qf (av.block HO6.out (w':=wr) fun k hk=>by
      have:=World.ownsRow.lt HO6.out k hk;exact HBt.out.block k this.2 qoq)
     have HB7:=qf (HB6.out.trans (HBt.out.below qd HB6.out.size));clear h4k HA HBt H46 HO6 HB6;go_wp2_with fail;refine HDel.out.mono ?_;rintro e w8 ⟨rfl,hr8,hb8,hz8,hbk8⟩;have HR8:=qf hr8;have HO8:=qf (av.block HO7.out (w':=w8) fun k hk=>hbk8 k (World.ownsRow.lt HO7.out k hk).2 (fun h=>h.2 hk));have HA8:Hid (ArI w8 w.heap.size (bM R2 lf2)):=qf (HA7.out.world (hbk8 _ hXl (fun h=>by have:=h.1;omega)));have HB8:=qf (HB7.out.trans (hb8.mono qoq));have HMu:Hid (lf2.length<lf.length):=qf (by rw [<-hDl];simp;omega);clear hr8 hb8 hz8 hbk8 HDel HO7 HB7 HA7;go_wp2_with fail;go_step3;exact ⟨rfl,⟨told++[x],lf2,_,_,_,_,_,_,_,_,_,_,_,_,_,_,_,_,_,_,_,_,_,_,_,_,_,_,_,_,_,_,_,_,_,_,_,_,_,_,_,_,_,_,_,_,_,_,_,_,_,_,_,_,_,_,_,_,_,_,_,_,_,_,_,_,_,_,_,_,_,_,_,_,_,_,_,_,rfl,HS2,HO8,HR8,HA8,HB8⟩,HMu.out⟩
 ·intro HJ
  go_wp2_with fail;refine HSt.out.mono ?_;rintro e w2 ⟨A4,c4,rfl,hr4,hb2⟩;have HB2:=qeH;have HM2:Hid (ArI w2 w.heap.size (fun _=>0)):=qf (HM1.out.below hb2);have H42:Hid (eX w2 (fun k=>w.heap.size+1<=k) A4 c4 (iw L)):=qf (hr4.mono fun k hk _=>by have:=HX.out;omega);have hll:(iw L).length<=1024:=vd L;have HOS:=qf (fU.start L);clear hr4 hb2 HM1 HSt;generalize iw L=lf at*;go_wp2_with fail;go_loopw [19] (fun vi wx=>∃(i:Nat),i<=lf.length/\vi=ZZ ZY (i:Int)/\Hid (ArI wx w.heap.size (bM R2 (lf.take i)))/\Hid (bk w.heap.size w2 wx)) (fun vi _=>lf.length - (vIn vi).toNat)
  case atStart=>exact ⟨0,qe,rfl,qf (HM2.out.congr fun n=>by rw [List.take_zero,GN]),qf (bk.refl _ _)⟩
  case round=>
   obtain ⟨i,hi,rfl,HA,HBt⟩:=hrel;clear HM2;by_cases hil:i<lf.length
   ·obtain ⟨x,hx⟩:∃x,lf[i]? =ZV x:=⟨_,List.getElem?_eq_getElem hil⟩
    have hkx:KB x:=uF (HSr.out x (List.mem_of_getElem? hx))
    obtain ⟨g4,o4,rfl,hc4x⟩:∃g4 o4,A4=ZV ⟨g4,o4,ZU⟩/\wr.cell? ⟨g4,o4+i,ZU⟩=ZV (ZZ ZY x):=by
     rcases H42.out.row with h|⟨g4,o4,e,hp,hl,hh⟩
     ·rw [h] at hil;exact absurd hil (Nat.not_lt_zero _)
     ·exact ⟨g4,o4,e,HBt.out.cell (by show g4≠w.heap.size;omega) (iO hh hx)⟩
    have hBw:Z2 w.heap.size w wr:=HB2.out.trans (HBt.out.below qd HB2.out.size);obtain ⟨⟨hc1,hlk⟩,_⟩:=HGet.out wr hBw x hkx;obtain ⟨hrl,HRx,HDx,HRwx⟩:=qgN;have HEq:Hid (∀r,cE (bM R2 (lf.take i)) (R2 x) (R2 x).length 1 r=bM R2 (lf.take (i+1)) r):=qf fun r=>by rw [vR,Du hx r];omega
    have HBd:Hid (∀r,0<=bM R2 (lf.take i) r/\bM R2 (lf.take i) r<=1024):=qf fun r=>by
     have:=uM R2 (lf.take i) r;have h2:(lf.take i).length<=lf.length:=qpo;omega
    have HA2:Hid (ArI wr w.heap.size (cE (bM R2 (lf.take i)) (R2 x) 0 1)):=qf (by rw [tG];exact HA.out);have hI:(i:Int)<(lf.length:Int):=qoq;have hJ:=qbX;clear HA hx hBw hkx;generalize bM R2 (lf.take i)=CW at*;generalize R2 x=RR at*;generalize ((f2 x).getD sl0).addr=A2 at*;generalize ((f2 x).getD sl0).cap=c2 at*;go_wp2_with fail;clear hlk hc1 hc4x;go_loopw [30] (fun vk wx=>∃(k:Nat),k<=RR.length/\vk=ZZ ZY (k:Int)/\Hid (ArI wx w.heap.size (cE CW RR k 1))/\Hid (bk w.heap.size w2 wx)) (fun vk _=>RR.length - (vIn vk).toNat)
    case atStart=>exact ⟨0,qe,rfl,HA2,HBt⟩
    case round=>
     clear HA2 HBt;obtain ⟨k,hk,rfl,HA,HBt⟩:=hrel;by_cases hkl:k<RR.length
     ·obtain ⟨r,hr⟩:∃r,RR[k]? =ZV r:=⟨_,List.getElem?_eq_getElem hkl⟩
      have hed:=(HRx.out r).1 (List.mem_of_getElem? hr);have hor:=(Bd HK.out hed).1;obtain ⟨j,hj⟩:∃j:Nat,r=(j:Int):=⟨r.toNat,qqs⟩
      have hj1:=qgF;subst hj;rcases HRwx.out wr (HB2.out.trans (HBt.out.below qd HB2.out.size)) with hnil|⟨gr,orr,rfl,_,hgl,hcr⟩
      ·exact qnb
      have c9:=hcr k (j:Int) hr;obtain ⟨m0,m1⟩:=HA.out.cell hj1;obtain ⟨hIk,hJk,hvb⟩:=qgk;have hvw:cE CW RR k 1 (j:Int)=CW (j:Int)\/cE CW RR k 1 (j:Int)=CW (j:Int)+1:=qlI;have hw64:IntKind.i64.wrap (cE CW RR k 1 (j:Int)+1)=cE CW RR k 1 (j:Int)+1:=qpp
      have HA2:Hid (ArI (wr.setCell ⟨w.heap.size,j,ZU⟩ (ZZ ZY (cE CW RR k 1 (j:Int)+1))) w.heap.size (cE CW RR (k+1) 1)):=qf ((HA.out.set (enc:=Value.int .i64) (j:=j) (cE CW RR k 1 (j:Int)+1)).congr fun y=>by
       rw [t9 HDx.out hr];rfl)
      have HBt2:=qf (HBt.out.setR j (ZZ ZY (cE CW RR k 1 (j:Int)+1)));clear hcr hed hor hr hvb hvw HA HBt;generalize cE CW RR k 1 (j:Int)=VV at*;exact qkJ
     ·have hkk:k=RR.length:=by omega
      subst hkk;have HA7:Hid (ArI wr w.heap.size (bM R2 (lf.take (i+1)))):=qf (HA.out.congr HEq.out);clear HA;go_wp2_with fail;go_roundw
      case rel=>exact ⟨i+1,qoq,qnG,HA7,HBt⟩
      case measure=>simp [vIn];omega
   ·have hii:i=lf.length:=by omega
    subst hii;have HA7:Hid (ArI wr w.heap.size (bM R2 lf)):=qf (by have:=HA.out;rwa [List.take_length] at this);have HB7:=qf (HB2.out.trans (HBt.out.below qd HB2.out.size));have H47:Hid (eX wr (fun k=>w.heap.size+1<=k/\(Value.slice ZU 0 0).ownBlock≠ZV k) A4 c4 lf):=qf (((H42.out.mono (Q:=fun k=>w.heap.size+1<=k/\k≠w.heap.size) fun k hk _=>⟨hk,qoq⟩).kept (w':=wr) ⟨HBt.out.size,fun k hk hl=>HBt.out.block k hl hk.2⟩).mono fun k hk _=>⟨hk.1,fun e=>by cases e⟩);clear HA HBt H42;go_wp2_with fail;go_step3;rename_i K1 hK1
    exact hK1 _ _ (HJ _ _ ⟨[],lf,_,_,_,_,_,_,_,_,_,_,_,_,_,_,_,_,_,_,_,_,_,_,_,_,_,_,_,_,_,_,_,_,_,_,_,_,_,_,_,_,_,_,_,_,_,_,_,_,_,_,_,_,_,_,_,_,_,_,_,_,_,_,_,_,_,_,_,_,_,_,_,_,_,_,_,_,rfl,HOS,qf (World.ownsRow_nil _ _ _ _),H47,HA7,HB7⟩)
end
