import Derived.Test.YteglaomdgdkibaaGreatDoorJNS22
import Derived.Test.YteglaomdgdkibaaGreatDoorJNS35
import Derived.Test.YteglaomdgdkibaaGreatDoorRows
import Derived.ProofKit
import Derived.Lib.SmallJoins
import Derived.Lib.LaidTab
import Derived.Stop.LaidErr
import Derived.LaidLaws
import Derived.Lib.LaidIn
import Derived.Test.YteglaomdgdkibaaGreatDoorJQNSP
import Derived.Test.YteglaomdgdkibaaGreatDoorJQNSW
import Derived.Test.YteglaomdgdkibaaGreatDoorJQYNSP
set_option linter.all false
set_option maxHeartbeats 0
set_option maxRecDepth 99999
namespace Go.Proofs.YteglaomdgdkibaaGreatDoor
open Go.RowKit
open Value renaming int→ZZ,string→Zx,slice→Zw,pointer→Zv
open IntKind renaming i64→ZY
open RowKit renaming Below→Z2
open Go renaming World→Z3
open Go.Proofs.Tryz
open Go.Proofs.Tryz renaming prog→ZW
open Option renaming some→ZV,none→ZU
variable {l:List LkM}{w:World}{L:List Lk}{x:Lk}{n:Int}{R1 R2:Int->List Int}
section
open Go.ChangeShapes Go.WideShapes Go.ChangeAt
theorem own:ownKnob prog.godebug=ZU:=by kernel_rfl
theorem Pp:(prog.globals[1]?).map (·.type)=ZV 176:=by kernel_rfl
theorem Py:(prog.globals[2]?).map (·.type)=ZV 176:=by kernel_rfl
theorem PF:(prog.globals[4]?).map (·.type)=ZV 338:=by kernel_rfl
theorem Pk:prog.globalNamed "gridiron/syntax.strengths"=ZV 0:=by kernel_rfl
theorem PI:(prog.globals[0]?).map (·.type)=ZV 275:=by kernel_rfl
theorem I2:prog.cellsOf 338=20:=by kernel_rfl
theorem GI:prog.cellsOf 134=1:=by kernel_rfl
theorem td:prog.cellsOf 329=1:=by kernel_rfl
theorem lA:prog.cellsOf 9=1:=by kernel_rfl
theorem GA:prog.cellsOf 274=1:=by kernel_rfl
theorem Co:prog.cellsOf 275=3:=by kernel_rfl
theorem J8: "*"++ "errors.errorString"= "*errors.errorString":=by decide
theorem Nm (u:TypeId) (h:prog.typeName? 3 u=ZV "*errors.errorString"):u=327:=
 typeName_ptr_named (nm:= "errors.errorString") (by rw [J8];kernel_rfl) qnx qnv u (by rw [J8];exact h)

theorem Bp {s:ByteArray} {l:List UInt8} (h:s.data.toList=l):s=⟨l.toArray⟩:=by
 obtain ⟨d⟩:=s;simp only at h;rw [<-h]
theorem kf {fuel:Nat} {c:Value} {y:DataW Unit×List MemPlace} {l:List ByteArray} (hl:0<l.length)
 (h:DataW.trod (fun _=>()) ZW w 0 (fun _=>true) false fuel 274 [c]=ZV y) (hy:y.1=.slice (l.map fun s=>.lit (.string s.data.toList)) []):
 ∃g o cap,c=Zw (ZV ⟨g,o,ZU⟩) l.length cap/\SAt w g o l:=by
 rcases DataW.trod_slice underlying274 h with ⟨_,hx⟩|⟨a,len,cap,el,rs,m,rfl,hcs,hx,_,hlc,_,hel,helem,hsp,_⟩
 ·rw [hx] at hy;cases hy
 rw [hx] at hy;simp only [DataW.slice.injEq] at hy;obtain ⟨eE,eR⟩:=hy
 have hlen:len=l.length:=by
  have:=congrArg List.length eE;exact qlF
 have hcell:∀i (s:ByteArray),l[i]? =ZV s->w.cell? (a.add i)=ZV (.string s):=by
  intro i s hi;have hil:i<l.length:=(List.getElem?_eq_some_iff.1 hi).1;have h1:=helem i qoq;rw [lA] at h1;obtain ⟨b,hb⟩:∃b,el[i]? =ZV b:=⟨el[i]'qoq,List.getElem?_eq_getElem qoq⟩
  rw [hb] at h1;obtain ⟨ce,hce,hte⟩:=Option.bind_eq_some_iff.1 h1;obtain ⟨z,hz,hbz,_⟩:=DataW.trod_string underlying9 hte
  have hb1:b.1=.lit (.string s.data.toList):=by
   have h5:(el.map (·.1))[i]? =ZV b.1:=(by rw [List.getElem?_map,hb];rfl);rw [eE,List.getElem?_map,hi] at h5;exact (Option.some.inj h5).symm
  rw [hbz] at hb1;simp only [DataW.lit.injEq,Lit.string.injEq] at hb1
  have hzs:z=s:=by
   have:=Bp hb1;rw [this]
  obtain ⟨_,_,hcc⟩:=World.cells?_some hce;have:=hcc 0 qoq;rw [hz] at this;simp only [Nat.mul_one] at this;have e1:(a.add i).add 0=a.add i:=(by simp [Addr.add]);rw [e1] at this;rw [this,hzs];rfl
 obtain ⟨R,o,sR⟩:=a;obtain ⟨s0,hs0⟩:∃s,l[0]? =ZV s:=⟨l[0]'hl,List.getElem?_eq_getElem hl⟩
 have h00:=hcell 0 s0 hs0;have hspot:sR=ZU:=(by simpa [Addr.add] using World.cell?_spot h00);subst hspot;refine ⟨R,o,cap,?_,fun j s hj=>?_⟩
 ·simp only [List.cons.injEq,and_true] at hcs
  rw [hcs,hlen]
 ·have:=hcell j s hj
  rwa [add_plain] at this
theorem Kq {r:List (String×DataW Unit)} (h:laidMet ZW (("gridiron/syntax.strengths",Rows.laid_gridiron_syntax_strengths)::r) w):bh w.heap.size w.heap.size w:=by
 obtain ⟨ps,⟨g,t,cs,fuel,p,q,hg,ht,hvar,hd,_,_⟩,_⟩:=h;obtain rfl:=Option.some.inj (Pk.symm.trans hg);obtain rfl:=Option.some.inj (PI.symm.trans ht);obtain ⟨l⟩:=cs;cases fuel with
 |zero=>simp [DataW.trod] at hd
 |succ fuel=>
  simp only [DataW.trod,underlying275,Co,GA] at hd;split at hd
  ·rename_i hl
   obtain ⟨c0,c1,c2,rfl⟩:∃c0 c1 c2,l=[c0,c1,c2]:=by
    match l,hl with
    |[a,b,c],_=>exact ⟨a,b,c,rfl⟩
   have e:List.range 3=[0,1,2]:=rfl;rw [e] at hd;simp only [Option.map_eq_some_iff,List.mapM_cons,List.mapM_nil,Option.bind_eq_bind,Option.bind_eq_some_iff,Option.pure_def,Option.some.injEq] at hd;obtain ⟨xs,⟨y0,h0,_,⟨y1,h1,_,⟨y2,h2,_,rfl,rfl⟩,rfl⟩,rfl⟩,hx⟩:=hd;have hx1:=congrArg Prod.fst hx;simp only [Rows.laid_gridiron_syntax_strengths,List.map_cons,List.map_nil,DataW.agg.injEq,List.cons.injEq,and_true] at hx1;obtain ⟨e0,e1,e2⟩:=hx1;obtain ⟨g0,o0,k0,rfl,a0⟩:=kf (l:=gt 0) qnv h0 e0;obtain ⟨g1,o1,k1,rfl,a1⟩:=kf (l:=gt 1) qnv h1 e1;obtain ⟨g2,o2,k2,rfl,a2⟩:=kf (l:=gt 2) qnv h2 e2;have v0:=World.var?_cell hg hvar 0;have v1:=World.var?_cell hg hvar 1;have v2:=World.var?_cell hg hvar 2;have hG:0<w.heap.size:=Lib.lt_of_cell v0;have l0:g0<w.heap.size:=Lib.lt_of_cell (a0 0 _ rfl);have l1:g1<w.heap.size:=Lib.lt_of_cell (a1 0 _ rfl);have l2:g2<w.heap.size:=Lib.lt_of_cell (a2 0 _ rfl);refine ⟨⟨Nat.ne_of_gt hG,hG⟩,fun i hi=>?_⟩;match i,hi with
   |0,_=>exact ⟨g0,o0,k0,⟨Nat.ne_of_lt l0,l0⟩,v0,a0⟩
   |1,_=>exact ⟨g1,o1,k1,⟨Nat.ne_of_lt l1,l1⟩,v1,a1⟩
   |2,_=>exact ⟨g2,o2,k2,⟨Nat.ne_of_lt l2,l2⟩,v2,a2⟩
  ·cases hd
theorem E9 (h:laidMet ZW Rows.calcNormsRow.laid w):cz w:=by
 have h3:=h.tail.tail;have h4:=h3.tail;have h5:=h4.tail;refine ⟨⟨Lib.tabIs_of_head (rest:=_) I8 PF underlying338 underlying134 GI I2 h3⟩,⟨⟨?_,?_⟩,Kq h5.tail⟩⟩
 ·obtain ⟨a,s,hv,_⟩:=laid_sentinel h4 Gv Py underlying176 Nm underlying327 underlying329 rfl rfl underlying9 td lA
  exact ⟨_,_,hv⟩
 ·obtain ⟨a,s,hv,_⟩:=laid_sentinel h5 IW Pp underlying176 Nm underlying327 underlying329 rfl rfl underlying9 td lA
  exact ⟨_,_,hv⟩

def we:DataW Unit->List Value
 |.agg ds=>ds.map fun
  |.lit (.int k n)=>.int k n
  |_=>.nilIface
 |_=>[]
abbrev Pj:ByteArray:={ data:=#[105,110,118,97,108,105,100,32,115,121,110,116,97,120] }
abbrev Pu:ByteArray:={ data:=#[118,97,108,117,101,32,111,117,116,32,111,102,32,114,97,110,103,101] }
noncomputable def low:Nat:=(World.holding ZW default ⟨#[],#[],[]⟩).heap.size
noncomputable def iQ (os:Os):Z3:=
 let w0:=World.holding ZW os ⟨#[.cells #[.string Pj] 329,.cells #[.string Pu] 329,.cells #[Zx ⟨#[60]⟩,Zx ⟨#[60,61]⟩,Zx ⟨#[61]⟩,Zx ⟨#[60,62]⟩,Zx ⟨#[62,61]⟩,Zx ⟨#[62]⟩] 9,.cells #[Zx ⟨#[43]⟩,Zx ⟨#[45]⟩] 9,.cells #[Zx ⟨#[42]⟩,Zx ⟨#[47]⟩] 9],#[],[]⟩
 let put (h:Array Obj) (g:Nat) (cs:Array Value):Array Obj:=h.modify g fun
  |.cells _ t frozen=>.cells cs t frozen
  |o=>o
 let h0:=put w0.heap 1 #[.iface 327 (Zv (ZV ⟨low,0,ZU⟩))]
 let h1:=put h0 2 #[.iface 327 (Zv (ZV ⟨low+1,0,ZU⟩))]
 let h2:=put h1 4 (we Rows.laid_internal_strconv_uint64pow10).toArray
 let h3:=put h2 5 (we Rows.laid_math_bits_deBruijn32tab).toArray
 let h4:=put h3 6 (we Rows.laid_math_bits_deBruijn64tab).toArray
 let h5:=put h4 0 #[Zw (ZV ⟨low+2,0,ZU⟩) 6 6,Zw (ZV ⟨low+3,0,ZU⟩) 2 2,Zw (ZV ⟨low+4,0,ZU⟩) 2 2]
 { w0 with heap:=h5 }
theorem wE (os:Os) (args:Array Value):laidMet ZW Rows.calcNormsRow.laid ((iQ os).forCall (fun _ _=>0) ⟨#[],args,[]⟩).memory:=
 laidMet_of_run' 8 qnx qnx
end
section
open Go.Maps Go.Sort
theorem Fv {y:Int}:Ed (L++[x]) n y↔Ed L n y\/(n=x.at_/\y∈x.rd):=by
 constructor
 ·rintro ⟨z,hz,rfl,hy⟩
  rcases List.mem_append.1 hz with h|h
  ·exact .inl ⟨z,h,rfl,hy⟩
  ·obtain rfl:z=x:=by simpa using h
   exact .inr ⟨rfl,hy⟩
 ·rintro (⟨z,hz,e,hy⟩|⟨rfl,hy⟩)
  ·exact ⟨z,List.mem_append.2 (.inl hz),e,hy⟩
  ·exact ⟨x,List.mem_append.2 (.inr (List.mem_singleton.2 rfl)),rfl,hy⟩
theorem Kr:isN (L++[x]) n↔n=x.at_\/isN L n:=by
 constructor
 ·rintro ⟨z,hz,rfl⟩
  rcases List.mem_append.1 hz with h|h
  ·exact .inr ⟨z,h,rfl⟩
  ·obtain rfl:z=x:=by simpa using h
   exact .inl rfl
 ·rintro (rfl|⟨z,hz,e⟩)
  ·exact ⟨x,List.mem_append.2 (.inr (List.mem_singleton.2 rfl)),rfl⟩
  ·exact ⟨z,List.mem_append.2 (.inl hz),e⟩
theorem jg.start:jg [] (fun _=>[]) (fun _=>[]):=⟨fun n y=>⟨fun h=>qoO,fun ⟨z,hz,_⟩=>(by cases hz)⟩,fun _=>qe,fun y n=>⟨fun h=>qoO,fun ⟨z,hz,_⟩=>(by cases hz)⟩,fun _=>List.nodup_nil⟩
theorem jg.next (h:jg L R1 R2) (hn:¬isN L x.at_) (hl:x.rd.length<=1024):jg (L++[x]) (fun n=>if n=x.at_ then cL x.rd else R1 n) (fun r=>if r∈cL x.rd then R2 r++[x.at_] else R2 r):=by
 obtain ⟨hm,hd,hle⟩:=zv x.rd;refine ⟨fun n y=>?_,fun n=>?_,fun y n=>?_,fun y=>?_⟩
 ·show y∈(if n=x.at_ then cL x.rd else R1 n)↔_
  rw [Fv];by_cases e:n=x.at_
  ·rw [if_pos e,hm y]
   constructor
   ·exact fun q=>.inr ⟨e,q⟩
   ·rintro (q|q)
    ·exact absurd (e▸q.node) hn
    ·exact q.2
  ·rw [if_neg e,h.r1]
   constructor
   ·exact fun q=>.inl q
   ·rintro (q|q)
    ·exact q
    ·exact absurd q.1 e
 ·show (if n=x.at_ then cL x.rd else R1 n).length<=1024
  split
  ·omega
  ·exact h.l1 n
 ·show n∈(if y∈cL x.rd then R2 y++[x.at_] else R2 y)↔_
  rw [Fv];by_cases e:y∈cL x.rd
  ·rw [if_pos e,List.mem_append,h.r2,List.mem_singleton]
   constructor
   ·rintro (q|q)
    ·exact .inl q
    ·exact .inr ⟨q,(hm y).1 e⟩
   ·rintro (q|q)
    ·exact .inl q
    ·exact .inr q.1
  ·rw [if_neg e,h.r2]
   constructor
   ·exact fun q=>.inl q
   ·rintro (q|q)
    ·exact q
    ·exact absurd ((hm y).2 q.2) e
 ·show (if y∈cL x.rd then R2 y++[x.at_] else R2 y).Nodup
  split
  ·refine List.nodup_append.2 ⟨h.d2 y,qns,fun a ha b hb e=>?_⟩
   obtain rfl:b=x.at_:=qqH;subst e;exact hn ((h.r2 y _).1 ha).node
  ·exact h.d2 y
theorem GBm.graph {base g b1 b2 n1 n2:Nat} {f1 f2:Int->Option Sl} (h:GBm w base g b1 b2 n1 n2 f1 f2 R1 R2) (hn:∀n,(f1 n).isSome=true↔isN L n) (hr:jg L R1 R2):ir w g L:=
 ⟨b1,b2,n1,n2,f1,f2,R1,R2,{
   c0:=h.c0
   c1:=h.c1
   lt:=(by have:=h.lt;omega)
   m1:=h.m1
   m2:=h.m2
   nod:=hn
   s1:=fun n=>⟨(h.s1 n).len,(h.s1 n).row.lts⟩
   s2:=fun n=>by
    obtain ⟨A,cap,e,_,hrow⟩:=dt (h.o2 n);injection e with e1 e2 e3
    exact ⟨e2,(by rw [<-e1] at hrow;exact hrow.lts)⟩
   ok:=hr }⟩
theorem KU {i:Nat} {q:LkM} (h:l[i]? =ZV q):lkS (l.take (i+1))=lkS (l.take i)++[q.k]:=by
 unfold lkS;rw [List.take_add_one,h,List.map_append];rfl
def pz (w:Z3) (l:List LkM) (e:Ending) (w':Z3):Prop:=Z2 w.heap.size w w'/\((je (lkS l)=0/\∃g,e=.returned (.tuple #[Zv (ZV ⟨g,0,ZU⟩),ZZ ZY 0])/\ir w' g (lkS l))\/(je (lkS l)≠0/\e=.returned (.tuple #[Zv ZU,ZZ ZY (je (lkS l):Nat)])))
theorem pz.bad {w':Z3} {c:Int} {n:Nat} (h:je (lkS l)=n) (hn:n≠0) (hc:c=(n:Int)) (hb:Z2 w.heap.size w w'):pz w l (.returned (.tuple #[Zv ZU,ZZ ZY c])) w':=⟨hb,.inr ⟨qoq,(by rw [h,hc])⟩⟩
theorem GQ (w:Z3) (l:List LkM) (A:Option Addr) (ca:Nat) (P:Nat->Prop) (hl:gG w P A l) (hll:l.length<=60) (hrl:∀q∈l,q.rd.length<=1024):
 Calls ZW 55 #[Zw A l.length ca] w fun e w'=>pz w l e w':=by
 have hmm:=qfj;have HC:=qf (Eu l A ca w hl qoq (fun q hq=>by have:=hrl q hq;omega));have HL:=qge;have HRl:=qf hrl;clear hl hrl;go_enter func55,ntmps55;go_wp2_with fail;refine HC.out.mono ?_;rintro e w1 ⟨rfl,hb1⟩;have HB1:=qf hb1;clear hb1 HC;cases hbad:l.any lq with
 |true=>
  have HM:=qf (Ie hbad);go_wp2_with fail;go_ret2;exact pz.bad HM.out qnv rfl HB1.out
 |false=>
  have HK:=qf (Lz hbad);clear hbad;obtain ⟨W3,hW3⟩:∃W3,((w1.alloc (.map #[] 0)).alloc (.map #[] 0)).alloc (.cells #[.map (ZV w1.heap.size),.map (ZV (w1.heap.size+1))] 149)=W3:=⟨_,rfl⟩
  have hz3:W3.heap.size=w1.heap.size+3:=(by rw [<-hW3];simp);have hb3:Z2 w1.heap.size w1 W3:=qqz
  have hm1:bG slE W3 w1.heap.size 0 (fun _=>ZU):=by
   rw [<-hW3];exact (bG.made slE w1).below (qa.alloc qns _)
  have hm2:bG slE W3 (w1.heap.size+1) 0 (fun _=>ZU):=by
   have h:=bG.made slE (w1.alloc (.map #[] 0));rw [show (w1.alloc (.map #[] 0)).heap.size=w1.heap.size+1 from by simp] at h;rw [<-hW3];exact h.below qa
  have hG3:GBm W3 (w1.heap.size+3) (w1.heap.size+1+1) w1.heap.size (w1.heap.size+1) 0 0 (fun _=>ZU) (fun _=>ZU) (fun _=>[]) (fun _=>[]):={
   c0:=qpr
   c1:=qpr
   lt:=qoq
   m1:=hm1
   m2:=hm2
   s1:=fun n=>fJ.none _ _
   o2:=fun r=>World.ownsRow_nil _ _ _ _
   ap:=fun r r' _=>eI.nil _ }
  have HG3:=qf hG3;have HB3:=qf (HB1.out.trans (hb3.mono HB1.out.size));have hzw:=HB1.out.size;have HHb:=qf hb3;clear hm1 hm2 hG3 hb3;go_wp2_with fail;generalize hg:w1.heap.size+1+1=g at*;generalize hb2:w1.heap.size+1=b2 at*;generalize hbs:w1.heap.size+3=base at*;generalize hb1:w1.heap.size=b1 at*;clear hmm;go_loopw [17] (fun vi wr=>∃(i n1 n2:Nat) (f1 f2:Int->Option Sl) (R1 R2:Int->List Int),i<=l.length/\vi=ZZ ZY (i:Int)/\Hid (GBm wr base g b1 b2 n1 n2 f1 f2 R1 R2)/\Hid (∀n,(f1 n).isSome=true↔isN (lkS (l.take i)) n)/\Hid (jg (lkS (l.take i)) R1 R2)/\Hid (jd (lkS (l.take i)))/\Hid (n1<=i/\n2<=1024*i)/\Hid (Z2 w.heap.size w wr)) (fun vi _=>l.length - (RowKit.intOf vi).toNat)
  case atStart=>exact ⟨0,0,0,_,_,_,_,qe,rfl,HG3,qf (fun n=>⟨fun h=>qoO,fun ⟨z,hz,_⟩=>(by simp [lkS] at hz)⟩),qf (by rw [List.take_zero];exact jg.start),qf (by rw [List.take_zero];exact List.Pairwise.nil),qf ⟨qd,qd⟩,HB3⟩
  case round=>
   obtain ⟨i,n1,n2,f1,f2,R1,R2,hi,rfl,HG,HNo,HRd,HDi,HNn,HB⟩:=hrel;clear HG3 HB3;by_cases hlt:i<l.length
   ·obtain ⟨q,hq⟩:∃q,l[i]? =ZV q:=⟨_,List.getElem?_eq_getElem hlt⟩
    obtain ⟨ga,oa,rfl,hpa,hla,hat⟩:=HL.out.at hlt;obtain ⟨⟨q0,q1⟩,hrq⟩:=hat i q hq;have hqm:=qhk;have hk0:=HK.out q.k (List.mem_map.2 ⟨q,hqm,rfl⟩);have hql:=HRl.out q hqm;have HT:=qf (KU hq);have HDn:=qf (fun h=>ES hq HDi.out h);have HDx:=qf (fun (k:Nat) (x:LkM) (hk:k<i) (hx:l[k]? =ZV x) (e:x.at_=q.at_)=>Im hk hx hq e);have HRq:=qf hrq;obtain ⟨an,rd,RA,rc⟩:=q;dsimp only at hql hk0;obtain ⟨c0,c1⟩:=qeX;have hka:KB an:=my hk0.1;obtain ⟨wv,hwv⟩:∃wv,wr.alloc (.cells #[ZZ ZY an,Zw RA rd.length rc] 51)=wv:=⟨_,rfl⟩
    have hbv:Z2 wr.heap.size wr wv:=(by rw [<-hwv];exact qa);have hv0:wv.cell? ⟨wr.heap.size,0,ZU⟩=ZV (ZZ ZY an):=(by rw [<-hwv];simp [go_sem]);have hv1:wv.cell? ⟨wr.heap.size,1,ZU⟩=ZV (Zw RA rd.length rc):=(by rw [<-hwv];simp [go_sem]);have hgc:=HG.out.c0;have HGv:=qf (HG.out.below hbv);have HBv:=qf (HB.out.trans (hbv.mono HB.out.size));have hI:=qdu;have hJ:=qbX;have HCd:=qf (fun W (hb:Z2 wv.heap.size wv W)=>(show W.cell? ⟨g,0,ZU⟩=ZV (.map (ZV b1))/\W.cell? ⟨wr.heap.size,0,ZU⟩=ZV (ZZ ZY an) from ⟨aa hb (aa hbv hgc),aa hb hv0⟩));have HLk:=qf (fun W (hb:Z2 wv.heap.size wv W)=>(HGv.out.below hb).look1 hka);have hv1d:wv.drew.cell? ⟨wr.heap.size,1,ZU⟩=ZV (Zw RA rd.length rc):=hv1;have hv0d:wv.drew.cell? ⟨wr.heap.size,0,ZU⟩=ZV (ZZ ZY an):=hv0;have HI0:Hid (prog.info? 51=prog.info? 51):=qf rfl;clear hat q0 q1 hrq hq hqm HG HB hgc hv0 hv1 hbv hla;go_wp2_with fail;clear c0 c1
    go_region_held3 (fun w'=>w'.cell? ⟨g,0,ZU⟩=ZV (.map (ZV b1))/\w'.cell? ⟨wr.heap.size,0,ZU⟩=ZV (ZZ ZY an))
     (first|(exact HCd.out _ qsM)|fail)
     (first
     |(refine lK (HLk.out _ qsM) ?_)
     |fail)
    have hbd:Z2 wv.heap.size wv wv.drew:=Below.drew qb;have HGd:=qf (HGv.out.below hbd);have HBd:=qf (HBv.out.trans (hbd.mono HBv.out.size));have HRr:=qf (HRq.out.below HBd.out);clear hbd HGv HBv HCd HLk HRq;generalize wv.drew=wd at*;cases hs:(f1 an).isSome with
    |true=>
     have HM:Hid (je (lkS l)=5):=qf (by
      obtain ⟨x,hx,e⟩:=(HNo.out an).1 hs;obtain ⟨q,hqm,rfl⟩:=List.mem_map.1 hx;obtain ⟨k,hk⟩:=List.mem_iff_getElem?.1 hqm;rw [List.getElem?_take] at hk;split at hk
      ·rename_i hki
       exact Ep HK.out (HDx.out k q hki hk e)
      ·cases hk)
     clear HGd HDx HDn;go_wp2_with fail;go_ret2;exact pz.bad HM.out qnv rfl HBd.out
    |false=>
     have hno:¬isN (lkS (l.take i)) an:=fun h=>by have:=(HNo.out an).2 h;rw [hs] at this;cases this
     have HRn:=qf (HRd.out.next (x:=⟨an,rd⟩) hno hql);have HNd:=qf (HDn.out fun x hx e=>hno ⟨x.k,List.mem_map.2 ⟨x,hx,rfl⟩,e⟩)
     have HLn:=qf (Hp wd base g b1 b2 n1 n2 f1 f2 R1 R2 HGd.out (fun r=>by
      have h1:=HRd.out.l2 r;have h2:(lkS (l.take i)).length<=60:=(by unfold lkS;rw [List.length_map,List.length_take];omega);omega) qoq qqL qqL an rd RA rc hk0.1 hk0.2 hql HRr.out)
     have hb1w:w.heap.size<=b1:=qoq;clear HGd hno HDx HDn HRd HDi hs;go_wp2_with fail;refine HLn.out.mono ?_;rintro e w8 ⟨n2',f1',f2',rfl,hG8,hn8,hf8,hb8⟩;have HG8:=qf hG8;have HB8:=qf (HBd.out.trans (hb8.mono hb1w))
     have HNo8:Hid (∀n,(f1' n).isSome=true↔isN (lkS (l.take (i+1))) n):=qf fun n=>by
      rw [hf8 n,HT.out,Kr,HNo.out n];exact Iff.rfl
     have HRn8:Hid (jg (lkS (l.take (i+1))) (fun n=>if n=an then cL rd else R1 n) (fun r=>if r∈cL rd then R2 r++[an] else R2 r)):=qf (by rw [HT.out];exact HRn.out);have HNn8:Hid (n1+1<=i+1/\n2'<=1024*(i+1)):=qf qqL;clear hG8 hn8 hf8 hb8 HLn HRn HNo HNn HT;go_wp2_with fail;go_roundw
     case rel=>exact ⟨i+1,n1+1,n2',f1',f2',_,_,qoq,qnG,HG8,HNo8,HRn8,HNd,HNn8,HB8⟩
     case measure=>exact qmy
   ·have hii:i=l.length:=by omega
    subst hii;have hno:=HNo.out;have hrd:=HRd.out;have hdi:=HDi.out;rw [List.take_length] at hno hrd hdi;have HF:Hid (pz w l (.returned (.tuple #[Zv (ZV ⟨g,0,ZU⟩),ZZ ZY 0])) wr):=qf ⟨HB.out,.inl ⟨Ev HK.out hdi,g,rfl,HG.out.graph hno hrd⟩⟩;clear HG HNo HRd HDi HB hno hrd hdi;exact qlh
end
