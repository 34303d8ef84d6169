import Derived.Test.YteglaomdgdkibaaGreatDoorJNS15
import Derived.Test.YteglaomdgdkibaaGreatDoorJNS17
import Derived.Test.YteglaomdgdkibaaGreatDoorJQNSP
import Derived.Test.YteglaomdgdkibaaGreatDoorJQNSW
import Derived.Test.YteglaomdgdkibaaGreatDoorJQZNSP
set_option linter.all false
set_option maxHeartbeats 0
set_option maxRecDepth 99999
namespace Go.Proofs.YteglaomdgdkibaaGreatDoor
open Go.RowKit
open Value renaming int→ZZ,string→Zx,slice→Zw,pointer→Zv
open IntKind renaming i64→ZY
open RowKit renaming Below→Z2
open Go renaming World→Z3
open Tryz
open Tryz renaming prog→ZW
open Option renaming some→ZV,none→ZU
open Bool renaming false→Zz,true→Zy
variable {D D' E b c' k q:Nat}{w w' w0:World}{L:List Tok}{bs s:List UInt8}{ks:List Tr}{fz:Nat×Nat}{u:Tr}{A':Option Addr}
def GivD (D:Nat) (o:Option Res):Prop:=∀t q,o=ZV (.ok t q)->Wid t/\aG t<=D
theorem GivD.ok {t:Tr} (h:Wid t) (hd:aG t<=D):GivD D (ZV (.ok t q)):=fun _ _ e=>by cases e;exact ⟨h,hd⟩
theorem GivD.bad {w:Nat}:GivD D (ZV (.bad w)):=fun _ _ e=>by cases e
theorem GivD.le {o:Option Res} (h:GivD D o) (hd:D<=D'):GivD D' o:=fun t q e=>⟨(h t q e).1,Nat.le_trans (h t q e).2 hd⟩
theorem GivD.next {a:Option Res} {f:Tr->Nat->Option Res} (h:GivD D a) (hf:∀t q,Wid t->aG t<=D->GivD D' (f t q)):GivD D' (Res.next a f):=fun t q e=>by
 cases a with
 |none=>cases e
 |some r=>
  cases r with
  |ok u p=>exact hf u p (h u p rfl).1 (h u p rfl).2 t q e
  |bad w=>cases e
theorem GivD.must {p:Nat} {f:Nat->Option Res} (hf:∀q,GivD D (f q)):GivD D (az L E p s f):=by
 unfold az;split
 ·exact hf _
 ·exact .bad
theorem Gz (k n c r d s:Int) (w:List UInt8):Wid (.mk k n c r d s w []):=.mk qe fun t h=>by cases h
theorem E5 (k n c r d s:Int) (w:List UInt8):aG (.mk k n c r d s w [])=1:=by rw [aG,aV]
theorem mp {k n c r d s:Int} {w:List UInt8} (hl:ks.length<=1000000) (h:∀t∈ks,Wid t):Wid (.mk k n c r d s w ks):=.mk (Nat.le_trans hl qnv) h
structure Ps (L:List Tok) (E k:Nat):Prop where
 line:∀lev p,GivD (k*k+1) (ak L E k lev p)
 rest:∀lev out p m,Wid out->aG out<=m->k*k+1<=m->GivD (m+k) (bC L E k lev out p)
 pref:∀p,GivD (k*k+1) (bR L E k p)
 oper:∀p,GivD (k*k+1) (ct L E k p)
 items:∀w acc p m,(∀t∈acc,Wid t)->aV acc<=m->k*k+1<=m->acc.length+k<=1000000->GivD (m+1) (bx L E k w acc p)
 item:∀c p,GivD (k*k+1) (bg L E k c p)
theorem Kh (L:List Tok) (E:Nat):∀k,k<=100000->Ps L E k
 |0,_=>by
  exact qiW
 |k+1,hk=>by
  have I:=Kh L E k qoq;have e:(k+1)*(k+1)+1=k*k+1+(2*k+1):=(by rw [Nat.add_mul,Nat.mul_add];omega);have leaf:∀(a n c r d s:Int) (q:Nat),GivD ((k+1)*(k+1)+1) (ZV (.ok (.mk a n c r d s [] []) q)):=fun a n c r d s q=>.ok (Gz _ _ _ _ _ _ _) (by rw [E5];omega)
  constructor
  ·intro lev p
   simp only [ak];split
   ·exact (I.pref p).le qoq
   ·exact (I.line _ _).next fun t q hw hd=>(I.rest lev t q _ hw hd qd).le qoq
  ·intro lev out p m hw hd hm
   simp only [bC];split
   ·refine (I.line _ _).next fun t q hwt hdt=>(I.rest lev _ q (m+1) ?_ ?_ qoq).le qoq
    ·exact mp qns fun x hx=>by
      simp only [List.mem_cons,List.not_mem_nil,or_false] at hx;rcases hx with rfl|rfl
      ·exact hw
      ·exact hwt
    ·show aG (.mk _ _ _ _ _ _ _ [out,t])<=_
     rw [aG,aV,aV,aV];omega
   ·exact .ok hw qoq
  ·intro p
   simp only [bR];split
   ·refine (I.pref _).next fun t q hw hd=>.ok (mp qns fun x hx=>?_) ?_
    ·simp only [List.mem_cons,List.not_mem_nil,or_false] at hx
     rw [hx];exact hw
    ·show aG (.mk _ _ _ _ _ _ _ [t])<=_
     rw [aG,aV,aV];omega
   ·exact (I.oper p).le qoq
  ·intro p
   simp only [ct];split
   ·exact (I.line _ _).next fun t q hw hd=>.must fun _=>.ok hw qoq
   ·split
    ·exact .bad
    ·rename_i t ht
     split
     ·exact .bad
     ·split
      ·exact qmS
      ·split
       ·exact qmS
       ·split
        ·exact qmS
        ·refine .must fun q=>?_
         split
         ·refine (I.line _ _).next fun a q ha hda=>.must fun q=>(I.line _ _).next fun b q hb hdb=>.must fun q=>(I.line _ _).next fun c q hc hdc=>.must fun q=>.ok (mp qns fun x hx=>?_) ?_
          ·simp only [List.mem_cons,List.not_mem_nil,or_false] at hx
           rcases hx with rfl|rfl|rfl
           ·exact ha
           ·exact hb
           ·exact hc
          ·show aG (.mk _ _ _ _ _ _ _ [a,b,c])<=_
           rw [aG,aV,aV,aV,aV];omega
         ·exact (I.items t.text [] q (k*k+1) (fun x hx=>by cases hx) (by rw [aV];omega) qd qnu).le qoq
  ·intro w acc p m ha hd hm hl
   simp only [bx];refine (I.item _ _).next fun t q hw hdt=>?_
   have hall:∀x∈acc++[t],Wid x:=fun x hx=>by
    rcases List.mem_append.1 hx with h|h
    ·exact ha x h
    ·rw [List.mem_singleton.1 h];exact hw
   have hda:aV (acc++[t])<=m:=(by rw [nh];omega);split
   ·exact I.items w _ _ m hall hda qoq qnu
   ·refine .must fun _=>.ok (mp qnu hall) ?_
    show aG (.mk _ _ _ _ _ _ _ (acc++[t]))<=_
    rw [aG];omega
  ·intro c p
   simp only [bg];split
   ·exact (I.line 1 p).le qoq
   ·split
    ·exact .bad
    ·split
     ·exact .bad
     ·split
      ·exact qmS
      ·refine .must fun q=>?_
       split
       ·exact .bad
       ·split
        ·exact .bad
        ·split
         ·exact qmS
         ·exact qmS
theorem pE (hL:L.length<=1000) {t:Tr} (h:ep L E=ZV (.ok t q)):Wid t/\aG t<=1000000000:=by
 obtain ⟨a,b⟩:=(Kh L E (8*L.length+6) qoq).line 1 0 t q h;refine ⟨a,Nat.le_trans b ?_⟩;have:(8*L.length+6)*(8*L.length+6)<=8006*8006:=Nat.mul_le_mul qoq qoq;omega
inductive oJ where
 |good (t:Tr)
 |fail (a e:Int)
def aL (l:List UInt8):oJ:=
 if cF l≠0 then .fail (jb l) (cF l) else match ep (aE l) l.length with
  |none=>.fail 0 0
  |some (.bad z)=>.fail (z:Int) 2
  |some (.ok t q)=>if q<(aE l).length then .fail (whr (aE l) l.length q:Int) 2 else if 16<aG t then .fail 0 6 else .good t
theorem tg {o:Obj} (hk:w.heap[k]? =ZV o) (hb:Z2 w.heap.size w w'):w'.heap[k]? =ZV o:=by
 rw [hb.block k (Array.getElem?_eq_some_iff.1 hk).1];exact hk
theorem dQ {v0 v1 v2 v3 v4 v5 v6 v7:Value} (hk:w.heap[k]? =ZV (.cells #[v0,v1,v2,v3,v4,v5,v6,v7] 33 fz)):
 w.cell? ⟨k,0,ZU⟩=ZV v0/\w.cell? ⟨k,1,ZU⟩=ZV v1/\w.cell? ⟨k,2,ZU⟩=ZV v2/\w.cell? ⟨k,3,ZU⟩=ZV v3/\w.cell? ⟨k,4,ZU⟩=ZV v4/\w.cell? ⟨k,5,ZU⟩=ZV v5/\w.cell? ⟨k,6,ZU⟩=ZV v6/\w.cell? ⟨k,7,ZU⟩=ZV v7:=by
 have c:=fun j=>Lib.cell_of_heap hk j
 exact ⟨c 0,c 1,c 2,c 3,c 4,c 5,c 6,c 7⟩
theorem jW {cs:Array Value} (h:Lib.OthersKept 5 (ZV b) w w') (hk:w.heap[k]? =ZV (.cells cs 33 fz)) (hn:k≠b):w'.heap[k]? =ZV (.cells cs 33 fz):=
 h k _ hk (fun e=>hn (Option.some.inj e)) fun c fz' e=>by cases e

structure WC (w0 w:Z3) (b:Nat) (bs:List UInt8):Prop where
 low:Z2 w0.heap.size w0 w
 bld:Lib.IsBuilderF 194 5 w0.heap.size b (Lib.byteCells bs) w
theorem WC.lt (h:WC w0 w b bs):b<w.heap.size:=by
 rcases h.bld with h|h
 ·exact h.lt
 ·exact h.lt
theorem WC.alloc (h:WC w0 w b bs) (o:Obj):WC w0 (w.alloc o) b bs:=⟨h.low.alloc h.low.size o,h.bld.alloc o⟩
theorem mu {T e:TypeId} {B:Nat} {p:Value} {bs:List Value} (h:Lib.BuilderAtF T e B b p bs w) (hb:Z2 w.heap.size w w'):Lib.BuilderAtF T e B b p bs w':=by
 have hlt:=h.lt;obtain ⟨hB,v,hk,hown,hne⟩:=h;refine ⟨hB,v,(hb.block b hlt).trans hk,hown.kept (row:=ZU) ⟨hb.os,hb.tape,hb.output,hb.size,fun k hk _=>hb.block k hk⟩ ?_,hne⟩;cases v.ownBlock<;>simp
theorem WC.below (h:WC w0 w b bs) (hb:Z2 w.heap.size w w'):WC w0 w' b bs:=
 ⟨h.low.trans (hb.mono h.low.size),h.bld.elim (fun x=>.inl (mu x hb)) (fun x=>.inr (mu x hb))⟩
theorem dD {e:TypeId} {b:Option Nat} (hb:Z2 w.heap.size w w'):Lib.OthersKept e b w w':=fun k o hk _ _=>by
 rw [hb.block k (Array.getElem?_eq_some_iff.1 hk).1];exact hk
def cD (w0:Z3) (b F:Nat) (args:Array Value) (txt:List UInt8):Prop:=∀(w:Z3) (bs:List UInt8),WC w0 w b bs->bs.length+txt.length<=140737488355328->
 Calls ZW F args w fun e w'=>e=.returned (.tuple #[])/\WC w0 w' b (bs++txt)/\Lib.OthersKept 5 (ZV b) w w'/\w.heap.size<=w'.heap.size
theorem da (s:ByteArray) (w:Z3) (bs:List UInt8) (h:WC w0 w b bs) (hl:bs.length+s.data.toList.length<=140737488355328):
 Calls ZW 183 #[Zv (ZV ⟨b,0,ZU⟩),.string s] w fun e w'=>e=.returned (.tuple #[ZZ ZY s.size,.nilIface])/\WC w0 w' b (bs++s.data.toList)/\Lib.OthersKept 5 (ZV b) w w'/\w.heap.size<=w'.heap.size:=by
 have hs:s.data.toList.length=s.size:=aq s;refine (CP w0.heap.size b (Lib.byteCells bs) s w h.bld (by unfold Lib.byteCells;rw [List.length_map];omega) h.low.size).mono fun e w' ⟨he,hb,hB,hk⟩=>⟨he,⟨h.low.trans hB,?_⟩,hk,?_⟩
 ·have e1:Lib.byteCells bs++Lib.strCells s=Lib.byteCells (bs++s.data.toList):=by rw [Lib.strCells_eq];unfold Lib.byteCells;rw [List.map_append]
  rw [<-e1];exact hb
 ·exact hB.size
theorem C3 (n:Int) (hn:B64 n) (w:Z3) (hE:eS w):
 Calls ZW 127 #[ZZ ZY n] w fun e w'=>e=.returned (Zx ⟨(Lib.itoa n).toArray⟩)/\Z2 w.heap.size w w':=by
 have H:=qf (pk n hn w hE);clear hE;go_enter func127,ntmps127;go_wp2_with fail;refine H.out.mono ?_;rintro e w1 ⟨rfl,b1⟩;go_wp2_with fail;go_ret;exact ⟨rfl,b1⟩
theorem DE (hE:eS w0) (t:Tr) (hlen:t.kZ.length<=maxLen) (A:Option Addr) (ca:Nat) (y:(t.kY==0)=Zy) (hn:B64 t.num):
 cD w0 b 133 #[Zv (ZV ⟨b,0,ZU⟩),.agg (Ku.k t A ca)] (Lib.itoa t.num):=by
 intro w bs hW hl;unfold maxLen at hlen;have HW:=qf hW;have HE:=qf hE;have HL:=qge;have h0:=qbi;have H0:=qf h0;have HN:=qf (fun w hE=>C3 t.num hn w hE);clear hW hE hl h0;go_enter func133,ntmps133;go_wp2_with fail;refine .mono qrY ?_;rintro e w1 ⟨rfl,b1⟩;obtain ⟨k10,k11,k12,k13,k14,k15,k16⟩:=ql;have k17:=qcw;have h1:=qhN;have HS:=qf (da ⟨(Lib.itoa t.num).toArray⟩ w1 bs (HW.out.below h1) qpH);clear b1;go_wp2_with fail;refine HS.out.mono ?_;rintro e w3 ⟨rfl,hw3,hk3,hs3⟩;have HF:=qeW;clear hw3 hk3 hs3;go_wp2_with fail;first|go_end0|(refine bodyPost_ret (results_none rfl _ _ _) rfl ?_)
 exact ⟨rfl,qpq,(dD h1).trans HF.out.2.1,Nat.le_trans h1.size HF.out.2.2⟩
theorem Cm (hE:eS w0) (t:Tr) (hlen:t.kZ.length<=maxLen) (A:Option Addr) (ca:Nat) (n0:(t.kY==0)=Zz) (y:(t.kY==1)=Zy):
 cD w0 b 133 #[Zv (ZV ⟨b,0,ZU⟩),.agg (Ku.k t A ca)] (am t.c1 t.r1):=by
 intro w bs hW hl;unfold maxLen at hlen;have HW:=qf hW;have HE:=qf hE;have HL:=qge;have h0:=qbi;have H0:=qf h0;have HN:=qf (fun w hE=>mC t.c1 t.r1 w hE);clear hW hE hl h0;go_enter func133,ntmps133;go_wp2_with fail;refine .mono qrY ?_;rintro e w1 ⟨rfl,b1⟩;obtain ⟨k10,k11,k12,k13,k14,k15,k16⟩:=ql;have k17:=qcw;have h1:=qhN;have HS:=qf (da ⟨(am t.c1 t.r1).toArray⟩ w1 bs (HW.out.below h1) qpH);clear b1;go_wp2_with fail;refine HS.out.mono ?_;rintro e w3 ⟨rfl,hw3,hk3,hs3⟩;have HF:=qeW;clear hw3 hk3 hs3;go_wp2_with fail;first|go_end0|(refine bodyPost_ret (results_none rfl _ _ _) rfl ?_)
 exact ⟨rfl,qpq,(dD h1).trans HF.out.2.1,Nat.le_trans h1.size HF.out.2.2⟩
theorem Dp (hE:eS w0) (t:Tr) (hlen:t.kZ.length<=maxLen) (A:Option Addr) (ca:Nat) (n0:(t.kY==0)=Zz) (n1:(t.kY==1)=Zz) (y:(t.kY==2)=Zy):
 cD w0 b 133 #[Zv (ZV ⟨b,0,ZU⟩),.agg (Ku.k t A ca)] ([35,82,69,70]):=by
 intro w bs hW hl;unfold maxLen at hlen;have HW:=qf hW;have HE:=qf hE;have HL:=qge;have h0:=qbi;have H0:=qf h0;have HSS:=qf (fun ob=>da (b:=b) ⟨#[35,82,69,70]⟩ (w.alloc ob) bs (HW.out.alloc ob) qpH);clear hW hE hl h0;go_enter func133,ntmps133;go_wp2_with fail;refine (HSS.out _).mono ?_;rintro e w3 ⟨rfl,hw3,hk3,hs3⟩;have HF:=qeW;clear hw3 hk3 hs3;go_wp2_with fail;first|go_end0|(refine bodyPost_ret (results_none rfl _ _ _) rfl ?_)
 exact ⟨rfl,qpq,(dD (H0.out _)).trans HF.out.2.1,(by have:=HF.out.2.2;simp at this;omega)⟩
theorem Cx (hE:eS w0) (t:Tr) (hlen:t.kZ.length<=maxLen) (A:Option Addr) (ca:Nat) (n0:(t.kY==0)=Zz) (n1:(t.kY==1)=Zz) (n2:(t.kY==2)=Zz) (n3:(t.kY==3)=Zz) (n4:(t.kY==4)=Zz) (n5:(t.kY==5)=Zz) (y:(t.kY==6)=Zy) (ht1:(am t.c1 t.r1).length<=100) (ht2:(am t.c2 t.r2).length<=100):
 cD w0 b 133 #[Zv (ZV ⟨b,0,ZU⟩),.agg (Ku.k t A ca)] (am t.c1 t.r1++58::am t.c2 t.r2):=by
 intro w bs hW hl;unfold maxLen at hlen;have HW:=qf hW;have HE:=qf hE;have HL:=qge;have h0:=qbi;have H0:=qf h0;have HN1:=qf (fun w hE=>mC t.c1 t.r1 w hE);have HN2:=qf (fun w hE=>mC t.c2 t.r2 w hE);have hT:((am t.c1 t.r1++[58])++am t.c2 t.r2)=am t.c1 t.r1++58::am t.c2 t.r2:=qns;have HT:=qf hT;clear hW hE hl h0;generalize am t.c1 t.r1=X at*;generalize am t.c2 t.r2=Y at*;have hc1:∀w,(Op.stringOp .add ⟨X.toArray⟩ ⟨#[58]⟩).run ZW w=.ok (Zx ⟨(X++[58]).toArray⟩) w:=fun w=>run_string_add_lists w X [58] qoq qns
 have hc2:∀w,(Op.stringOp .add ⟨(X++[58]).toArray⟩ ⟨Y.toArray⟩).run ZW w=.ok (Zx ⟨(X++58::Y).toArray⟩) w:=fun w=>by rw [<-hT];exact run_string_add_lists w (X++[58]) Y qnu qoq
 clear hT;go_enter func133,ntmps133;go_wp2_with fail;have hne:=qfQ;have z2:(w.alloc (.cells (Ku.k t A ca) 33)).cell? ⟨w.heap.size,2,ZU⟩=ZV (ZZ ZY t.c1):=qnp;have z3:(w.alloc (.cells (Ku.k t A ca) 33)).cell? ⟨w.heap.size,3,ZU⟩=ZV (ZZ ZY t.r1):=qnp;have z4:(w.alloc (.cells (Ku.k t A ca) 33)).cell? ⟨w.heap.size,4,ZU⟩=ZV (ZZ ZY t.c2):=qnp;have z5:(w.alloc (.cells (Ku.k t A ca) 33)).cell? ⟨w.heap.size,5,ZU⟩=ZV (ZZ ZY t.r2):=qnp;have HE0:Hid (eS (w.alloc (.cells (Ku.k t A ca) 33)).drew):=qf ⟨(HE.out.below (HW.out.low.trans ((H0.out (.cells (Ku.k t A ca) 33)).mono HW.out.low.size))).tab⟩;have hb0:(w.alloc (.cells (Ku.k t A ca) 33)).heap[w.heap.size]? =ZV (.cells (Ku.k t A ca) 33):=heap_alloc_new w _;have HW0:=qf (HW.out.alloc (.cells (Ku.k t A ca) 33))
 go_region_held3 (fun w'=>w'.cell? ⟨w.heap.size,2,ZU⟩=ZV (ZZ ZY t.c1)/\w'.cell? ⟨w.heap.size,3,ZU⟩=ZV (ZZ ZY t.r1)/\w'.cell? ⟨w.heap.size,4,ZU⟩=ZV (ZZ ZY t.c2)/\w'.cell? ⟨w.heap.size,5,ZU⟩=ZV (ZZ ZY t.r2))
  (first|(simp only [World.cell?_drew];with_reducible exact ⟨z2,z3,z4,z5⟩)|with_reducible exact ⟨x2,x3,x4,x5⟩|with_reducible exact ⟨y2,y3,y4,y5⟩|with_reducible exact ⟨v2,v3,v4,v5⟩|fail)
  (first
  |(go_at_call_of 184 (t.c1);refine (HN1.out _ HE0.out).mono ?_;rintro e w1 ⟨rfl,b1⟩
    have B1:Z2 (w.alloc (.cells (Ku.k t A ca) 33)).heap.size (w.alloc (.cells (Ku.k t A ca) 33)) w1:=(Below.refl _ (w.alloc (.cells (Ku.k t A ca) 33))).drew.trans b1;have x2:=aa B1 z2;have x3:=aa B1 z3;have x4:=aa B1 z4;have x5:=aa B1 z5;have hb1:=tg hb0 B1;have HE1:=qf (HE0.out.below b1);have HW1:=qf (HW0.out.below B1))
  |(go_at_call_of 184 (t.c2);refine (HN2.out _ HE1.out).mono ?_;rintro e w2 ⟨rfl,b2⟩
    have y2:=aa b2 x2;have y3:=aa b2 x3;have y4:=aa b2 x4;have y5:=aa b2 x5;have hb2:=tg hb1 b2;have HW2:=qf (HW1.out.below b2);have HS:=qf (da ⟨(X++58::Y).toArray⟩ w2 bs HW2.out qpH))
  |(go_at_call 183;refine HS.out.mono ?_;rintro e w3 ⟨rfl,hw3,hk3,hs3⟩
    obtain ⟨v0,v1,v2,v3,v4,v5,v6,v7⟩:=dQ (jW hk3 hb2 hne);clear v0 v1 v6 v7))
 all_goals
  have h2:Z2 w.heap.size w w2:=(H0.out _).trans ((B1.mono qns).trans (b2.mono (by have:=B1.size;simp at this;omega)));have HF:=qeW;clear hw3 hk3 hs3;go_wp2_with fail;first|go_end0|(refine bodyPost_ret (results_none rfl _ _ _) rfl ?_)
  exact ⟨rfl,qpq,(dD h2).trans HF.out.2.1,Nat.le_trans h2.size HF.out.2.2⟩
theorem yk (t:Tr) (hlen:t.kZ.length<=maxLen) (A:Option Addr) (ca:Nat) (hP:cD w0 b 133 #[Zv (ZV ⟨b,0,ZU⟩),.agg (Ku.k t A ca)] s) (m:Int) (h4:(t.kY !=4)=Zy):
 cD w0 b 185 #[Zv (ZV ⟨b,0,ZU⟩),.agg (Ku.k t A ca),ZZ ZY m] (s):=by
 intro w bs hW hl;have HW:=qf hW;have HL:=qge;unfold maxLen at hlen;have HPP:=qf hP;obtain ⟨hne,hb0,HW0,OK0,s0,S0⟩:=qZ;clear hP hW hl s0;go_enter func185,ntmps185;go_wp2_with fail;refine .mono qrZ ?_;rintro e w1 ⟨rfl,hw,hk,hs⟩;obtain ⟨HW1,hb1,OK1,S1⟩:=qbo;clear hw hk hs hb0;go_wp2_with fail;first|go_end0|(refine bodyPost_ret (results_none rfl _ _ _) rfl ?_)
 exact ⟨rfl,HW1.out,OK1.out,S1.out⟩
theorem vO (t:Tr) (hlen:t.kZ.length<=maxLen) (A:Option Addr) (ca:Nat) (hP:cD w0 b 133 #[Zv (ZV ⟨b,0,ZU⟩),.agg (Ku.k t A ca)] s) (m:Int) (h4:(t.kY !=4)=Zz) (hm:decide (m<=(lvl t.wZ:Int) - 1)=Zy) (hS:bh w0.heap.size w0.heap.size w0):
 cD w0 b 185 #[Zv (ZV ⟨b,0,ZU⟩),.agg (Ku.k t A ca),ZZ ZY m] (s):=by
 intro w bs hW hl;have HW:=qf hW;have HL:=qge;unfold maxLen at hlen;have HPP:=qf hP;have HST:=qdj;rw [gz] at HST;generalize (lvl t.wZ:Int) - 1=lv at*;obtain ⟨hne,hb0,HW0,OK0,s0,S0⟩:=qZ;clear hS hP hW hl s0;go_enter func185,ntmps185;go_wp2_with fail;refine .mono qsa ?_;rintro e w9 ⟨rfl,rfl⟩;go_wp2_with fail;refine .mono qrZ ?_;rintro e w1 ⟨rfl,hw,hk,hs⟩;obtain ⟨HW1,hb1,OK1,S1⟩:=qbo;clear hw hk hs hb0;go_wp2_with fail;first|go_end0|(refine bodyPost_ret (results_none rfl _ _ _) rfl ?_)
 exact ⟨rfl,HW1.out,OK1.out,S1.out⟩
theorem CA (t:Tr) (hlen:t.kZ.length<=maxLen) (A:Option Addr) (ca:Nat) (hP:cD w0 b 133 #[Zv (ZV ⟨b,0,ZU⟩),.agg (Ku.k t A ca)] s) (m:Int) (h4:(t.kY !=4)=Zz) (hm:decide (m<=(lvl t.wZ:Int) - 1)=Zz) (hS:bh w0.heap.size w0.heap.size w0):
 cD w0 b 185 #[Zv (ZV ⟨b,0,ZU⟩),.agg (Ku.k t A ca),ZZ ZY m] (40::(s++[41])):=by
 intro w bs hW hl;have HW:=qf hW;have HL:=qge;unfold maxLen at hlen;have HPP:=qf hP;have HST:=qdj;rw [gz] at HST;generalize (lvl t.wZ:Int) - 1=lv at*;obtain ⟨hne,hb0,HW0,OK0,s0,S0⟩:=qZ;clear hS hP hW hl s0;go_enter func185,ntmps185;go_wp2_with fail;refine .mono qsa ?_;rintro e w9 ⟨rfl,rfl⟩;go_wp2_with fail;refine (da (b:=b) ⟨#[40]⟩ _ bs HW0.out qnN).mono ?_;rintro e w1 ⟨rfl,hw,hk,hs⟩;obtain ⟨HW1,hb1,OK1,S1⟩:=qbo;clear hw hk hs hb0;obtain ⟨c10,c11,c12,c13,c14,c15,c16,c17⟩:=dQ hb1;go_wp2_with fail;refine (HPP.out _ _ HW1.out qnN).mono ?_;rintro e w2 ⟨rfl,hw,hk,hs⟩;obtain ⟨HW2,hb2,OK2,S2⟩:=qdB;clear hw hk hs hb1 c10 c11 c12 c13 c14 c15 c16 c17;obtain ⟨c20,c21,c22,c23,c24,c25,c26,c27⟩:=dQ hb2;go_wp2_with fail;refine (da (b:=b) ⟨#[41]⟩ _ _ HW2.out qnN).mono ?_;rintro e w3 ⟨rfl,hw,hk,hs⟩;obtain ⟨HW3,hb3,OK3,S3⟩:=qgD;clear hw hk hs hb2;go_wp2_with fail;first|go_end0|(refine bodyPost_ret (results_none rfl _ _ _) rfl ?_)
 exact ⟨rfl,(by simpa using HW3.out),OK3.out,S3.out⟩
theorem mR (t:Tr) (hlen:t.kZ.length<=maxLen) (A:Option Addr) (ca:Nat) (hP:cD w0 b 133 #[Zv (ZV ⟨b,0,ZU⟩),.agg (Ku.k t A ca)] (txT t)) (m:Nat) (hS:bh w0.heap.size w0.heap.size w0):
 cD w0 b 185 #[Zv (ZV ⟨b,0,ZU⟩),.agg (Ku.k t A ca),ZZ ZY ((m:Int) - 1)] (txW m t (txT t)):=by
 unfold txW;by_cases h4:t.kY=4
 ·have h4':(t.kY !=4)=Zz:=by rw [bne_eq_false_iff_eq];exact h4
  by_cases hl:lvl t.wZ<m
  ·rw [if_pos ⟨h4,hl⟩]
   exact CA t hlen A ca hP _ h4' (decide_eq_false qoq) hS
  ·rw [if_neg (fun h=>hl h.2)]
   exact vO t hlen A ca hP _ h4' (decide_eq_true qoq) hS
 ·rw [if_neg (fun h=>h4 h.1)]
  exact yk t hlen A ca hP _ (by rw [bne_iff_ne];exact h4)
theorem GT (t:Tr) (hlen:t.kZ.length<=maxLen) (h1:t.kZ.length=1) (g o ca:Nat) (n0:(t.kY==0)=Zz) (n1:(t.kY==1)=Zz) (n2:(t.kY==2)=Zz) (y:(t.kY==3)=Zy) (h8:At8 w0 g o u A' c') (hP:cD w0 b 185 #[Zv (ZV ⟨b,0,ZU⟩),.agg (Ku.k u A' c'),ZZ ZY 3] s):
 cD w0 b 133 #[Zv (ZV ⟨b,0,ZU⟩),.agg #[ZZ ZY t.kY,ZZ ZY t.num,ZZ ZY t.c1,ZZ ZY t.r1,ZZ ZY t.c2,ZZ ZY t.r2,Zx ⟨t.wZ.toArray⟩,Zw (ZV ⟨g,o,ZU⟩) t.kZ.length ca]] (45::s):=by
 intro w bs hW hl;have HW:=qf hW;have HL:=qge;have HPP:=qf hP;have H8:=qf h8;rw [h1];have hne:=qfQ;have hb0:(w.alloc (.cells #[ZZ ZY t.kY,ZZ ZY t.num,ZZ ZY t.c1,ZZ ZY t.r1,ZZ ZY t.c2,ZZ ZY t.r2,Zx ⟨t.wZ.toArray⟩,Zw (ZV ⟨g,o,ZU⟩) 1 ca] 33)).heap[w.heap.size]? =ZV (.cells #[ZZ ZY t.kY,ZZ ZY t.num,ZZ ZY t.c1,ZZ ZY t.r1,ZZ ZY t.c2,ZZ ZY t.r2,Zx ⟨t.wZ.toArray⟩,Zw (ZV ⟨g,o,ZU⟩) 1 ca] 33):=heap_alloc_new w _;have HW0:=qf (HW.out.alloc (.cells #[ZZ ZY t.kY,ZZ ZY t.num,ZZ ZY t.c1,ZZ ZY t.r1,ZZ ZY t.c2,ZZ ZY t.r2,Zx ⟨t.wZ.toArray⟩,Zw (ZV ⟨g,o,ZU⟩) 1 ca] 33));have OK0:Hid (Lib.OthersKept 5 (ZV b) w (w.alloc (.cells #[ZZ ZY t.kY,ZZ ZY t.num,ZZ ZY t.c1,ZZ ZY t.r1,ZZ ZY t.c2,ZZ ZY t.r2,Zx ⟨t.wZ.toArray⟩,Zw (ZV ⟨g,o,ZU⟩) 1 ca] 33))):=qf (dD qa);have s0:w.heap.size<=(w.alloc (.cells #[ZZ ZY t.kY,ZZ ZY t.num,ZZ ZY t.c1,ZZ ZY t.r1,ZZ ZY t.c2,ZZ ZY t.r2,Zx ⟨t.wZ.toArray⟩,Zw (ZV ⟨g,o,ZU⟩) 1 ca] 33)).heap.size:=qns;have S0:=qf s0;clear hP h8 h1 hW hl s0;go_enter func133,ntmps133;go_wp2_with fail;refine (da (b:=b) ⟨#[45]⟩ _ bs HW0.out qnN).mono ?_;rintro e w1 ⟨rfl,hw,hk,hs⟩;obtain ⟨HW1,hb1,OK1,S1⟩:=qbo;clear hw hk hs hb0;obtain ⟨c10,c11,c12,c13,c14,c15,c16,c17⟩:=dQ hb1
 obtain ⟨q0,q1,q2,q3,q4,q5,q6,q7⟩:=H8.out.kept (P:=fun _=>True) (Kept.of_below HW1.out.low) trivial;go_wp2_with fail;refine (HPP.out _ _ HW1.out qnN).mono ?_;rintro e w2 ⟨rfl,hw,hk,hs⟩;obtain ⟨HW2,hb2,OK2,S2⟩:=qdB;clear hw hk hs hb1;go_wp2_with fail;first|go_end0|(refine bodyPost_ret (results_none rfl _ _ _) rfl ?_)
 exact ⟨rfl,(by simpa using HW2.out),OK2.out,S2.out⟩
theorem Mv (t:Tr) (hlen:t.kZ.length<=maxLen) (h2:t.kZ.length=2) (g o ca:Nat) (n0:(t.kY==0)=Zz) (n1:(t.kY==1)=Zz) (n2:(t.kY==2)=Zz) (n3:(t.kY==3)=Zz) (y:(t.kY==4)=Zy) (hS:bh w0.heap.size w0.heap.size w0) (h8:At8 w0 g o u A' c') {v:Tr} {B':Option Addr} {d':Nat} (k8:At8 w0 g (o+8) v B' d') {s1 s2:List UInt8} (hP1:cD w0 b 185 #[Zv (ZV ⟨b,0,ZU⟩),.agg (Ku.k u A' c'),ZZ ZY ((lvl t.wZ:Int) - 1)] s1) (hP2:cD w0 b 185 #[Zv (ZV ⟨b,0,ZU⟩),.agg (Ku.k v B' d'),ZZ ZY (((lvl t.wZ+1:Nat):Int) - 1)] s2):
 cD w0 b 133 #[Zv (ZV ⟨b,0,ZU⟩),.agg #[ZZ ZY t.kY,ZZ ZY t.num,ZZ ZY t.c1,ZZ ZY t.r1,ZZ ZY t.c2,ZZ ZY t.r2,Zx ⟨t.wZ.toArray⟩,Zw (ZV ⟨g,o,ZU⟩) t.kZ.length ca]] (s1++(t.wZ++s2)):=by
 intro w bs hW hl;have HW:=qf hW;have HL:=qge;have HP1:=qf hP1;have HP2:=qf hP2;have H8:=qf h8;have K8:=qf k8;have HST:=qdj;rw [gz] at HST;have hlv:(lvl t.wZ:Int) - 1+1=(((lvl t.wZ+1:Nat):Int) - 1):=qoq;have hlb:lvl t.wZ<=3:=rP t.wZ;rw [<-hlv] at HP2;have hlw: -1<=(lvl t.wZ:Int) - 1/\(lvl t.wZ:Int) - 1<=2:=qoq;generalize (lvl t.wZ:Int) - 1=lv at*;rw [h2];obtain ⟨hlw1,hlw2⟩:=hlw;have hne:=qfQ;have hb0:(w.alloc (.cells #[ZZ ZY t.kY,ZZ ZY t.num,ZZ ZY t.c1,ZZ ZY t.r1,ZZ ZY t.c2,ZZ ZY t.r2,Zx ⟨t.wZ.toArray⟩,Zw (ZV ⟨g,o,ZU⟩) 2 ca] 33)).heap[w.heap.size]? =ZV (.cells #[ZZ ZY t.kY,ZZ ZY t.num,ZZ ZY t.c1,ZZ ZY t.r1,ZZ ZY t.c2,ZZ ZY t.r2,Zx ⟨t.wZ.toArray⟩,Zw (ZV ⟨g,o,ZU⟩) 2 ca] 33):=heap_alloc_new w _;have HW0:=qf (HW.out.alloc (.cells #[ZZ ZY t.kY,ZZ ZY t.num,ZZ ZY t.c1,ZZ ZY t.r1,ZZ ZY t.c2,ZZ ZY t.r2,Zx ⟨t.wZ.toArray⟩,Zw (ZV ⟨g,o,ZU⟩) 2 ca] 33));have OK0:Hid (Lib.OthersKept 5 (ZV b) w (w.alloc (.cells #[ZZ ZY t.kY,ZZ ZY t.num,ZZ ZY t.c1,ZZ ZY t.r1,ZZ ZY t.c2,ZZ ZY t.r2,Zx ⟨t.wZ.toArray⟩,Zw (ZV ⟨g,o,ZU⟩) 2 ca] 33))):=qf (dD qa)
 have s0:w.heap.size<=(w.alloc (.cells #[ZZ ZY t.kY,ZZ ZY t.num,ZZ ZY t.c1,ZZ ZY t.r1,ZZ ZY t.c2,ZZ ZY t.r2,Zx ⟨t.wZ.toArray⟩,Zw (ZV ⟨g,o,ZU⟩) 2 ca] 33)).heap.size:=qns;have S0:=qf s0;clear hP1 hP2 h8 k8 hS hlv hlb h2 hW hl s0;go_enter func133,ntmps133;go_wp2_with fail;refine .mono qsa ?_;rintro e w9 ⟨rfl,rfl⟩;obtain ⟨q0,q1,q2,q3,q4,q5,q6,q7⟩:=H8.out.kept (P:=fun _=>True) (Kept.of_below HW0.out.low) trivial;go_wp2_with fail;refine (HP1.out _ bs HW0.out qnN).mono ?_;rintro e w1 ⟨rfl,hw,hk,hs⟩;obtain ⟨HW1,hb1,OK1,S1⟩:=qbo;clear hw hk hs hb0;obtain ⟨c10,c11,c12,c13,c14,c15,c16,c17⟩:=dQ hb1;go_wp2_with fail;refine (da (b:=b) ⟨t.wZ.toArray⟩ _ _ HW1.out qnN).mono ?_;rintro e w2 ⟨rfl,hw,hk,hs⟩;obtain ⟨HW2,hb2,OK2,S2⟩:=qdB;clear hw hk hs hb1 c10 c11 c12 c13 c14 c15 c16 c17;obtain ⟨c20,c21,c22,c23,c24,c25,c26,c27⟩:=dQ hb2;obtain ⟨r0,r1,r2,r3,r4,r5,r6,r7⟩:=K8.out.kept (P:=fun _=>True) (Kept.of_below HW2.out.low) trivial;go_wp2_with fail;refine (HP2.out _ _ HW2.out qnN).mono ?_;rintro e w3 ⟨rfl,hw,hk,hs⟩;obtain ⟨HW3,hb3,OK3,S3⟩:=qgD;clear hw hk hs hb2;go_wp2_with fail;first|go_end0|(refine bodyPost_ret (results_none rfl _ _ _) rfl ?_)
 exact ⟨rfl,(by simpa using HW3.out),OK3.out,S3.out⟩
theorem pl {a b:Bool}:be ks a b=Zy↔∀t∈ks,ay t=Zy/\(a=Zy\/t.kY≠6)/\(b=Zz\/t.kY=6\/t.kY=2):=by
 refine ⟨fs,fun h=>?_⟩;induction ks with
 |nil=>rw [be]
 |cons u r ih=>
  rw [be];obtain ⟨h1,h2,h3⟩:=h u qns;simp only [Bool.and_eq_true,Bool.or_eq_true,Bool.not_eq_true',bne_iff_ne,beq_iff_eq];exact ⟨⟨h1,h2,(by rcases h3 with h3|h3|h3;exact .inl (.inl h3);exact .inl (.inr h3);exact .inr h3)⟩,ih fun t ht=>h t (by simp [ht])⟩
theorem FJ {d:Nat}:aV ks<=d↔∀u∈ks,aG u<=d:=by
 induction ks with
 |nil=>simp [aV]
 |cons u r ih=>
  rw [aV];constructor
  ·intro h v hv
   rcases List.mem_cons.1 hv with rfl|hv
   ·omega
   ·exact ih.1 qoq v hv
  ·intro h
   have h1:=h u qns;have h2:=ih.2 fun v hv=>h v (by simp [hv])
   omega
theorem JG:ks.any (fun t=>t.kY==6)=Zz↔∀t∈ks,t.kY≠6:=by
 rw [Bool.eq_false_iff];simp [List.any_eq_true]
theorem Lw:ks.any (fun t=>(t.kY !=6)&&(t.kY !=2))=Zz↔∀t∈ks,t.kY=6\/t.kY=2:=by
 rw [Bool.eq_false_iff];simp [List.any_eq_true]
 constructor
 ·intro h t ht
  by_cases h6:t.kY=6
  ·exact .inl h6
  ·exact .inr (h t ht h6)
 ·intro h t ht h6
  exact (h t ht).resolve_left h6
theorem ny:be ks Zz Zz=Zy↔ks.any (fun t=>t.kY==6)=Zz/\∀u∈ks,ay u=Zy:=by
 rw [pl,JG];constructor
 ·intro h
  refine ⟨fun t ht=>?_,fun t ht=>(h t ht).1⟩;rcases (h t ht).2.1 with h1|h1
  ·cases h1
  ·exact h1
 ·intro h t ht
  exact ⟨h.2 t ht,.inr (h.1 t ht),.inl rfl⟩
theorem DV:be ks Zy Zz=Zy↔∀u∈ks,ay u=Zy:=by
 rw [pl];exact ⟨fun h t ht=>(h t ht).1,fun h t ht=>⟨h t ht,.inl rfl,.inl rfl⟩⟩
theorem JW:be ks Zy Zy=Zy↔ks.any (fun t=>(t.kY !=6)&&(t.kY !=2))=Zz/\∀u∈ks,ay u=Zy:=by
 rw [pl,Lw];constructor
 ·intro h
  refine ⟨fun t ht=>?_,fun t ht=>(h t ht).1⟩;rcases (h t ht).2.2 with h1|h1
  ·cases h1
  ·exact h1
 ·intro h t ht
  exact ⟨h.2 t ht,.inl rfl,.inr (h.1 t ht)⟩
theorem D4 (k:Int) (hk:k=3\/k=4\/k=5):∀a b b2 b3 b4 e l g:Bool,((k==0 || a)&&((k==1 || k==6 || (b&&b2&&b3&&b4))&&((k==4 || k==5 || e)&&l)))=
 (!(((!a)&&(k !=0)) || (((!(b&&b2&&(b3&&b4)))&&((k !=1)&&(k !=6))) || (((!e)&&((k !=4)&&(k !=5))) || (g&&((k !=3)&&((k !=4)&&(k !=5)))))))&&l):=by
 rcases hk with rfl|rfl|rfl<;>decide
theorem me (k n c r d s:Int) (w:List UInt8) (ks:List Tr) (m:Nat) (hk:k=3\/k=4\/k=5):
 aR (.mk k n c r d s w ks) m=(!mM (.mk k n c r d s w ks)&&(ks.length==m)):=
 D4 k hk (n==0) (c==0) (r==0) (d==0) (s==0) (w==[]) (ks.length==m) (decide ((0:Int)<(ks.length:Int)))
theorem Eh:∀a b b2 b3 b4 e l k0 k1 k6:Bool,(((!a)&&(!k0)) || (((!(b&&b2&&(b3&&b4)))&&((!k1)&&(!k6))) || (((!e)&&((!Zz)&&(!Zz))) || ((!l)&&((!Zz)&&((!Zz)&&(!Zz)))))))=
 !((k0 || a)&&((k1 || k6 || (b&&b2&&b3&&b4))&&(e&&l))):=qnv
theorem iW (t:Tr):ay t=Zy↔mM t=Zz/\ee t=Zy/\∀u∈t.kZ,ay u=Zy:=by
 cases t with
 |mk k n c r d s w ks=>
  by_cases h3:k=3
  ·subst h3
   have hm:ay (.mk 3 n c r d s w ks)=(aR (.mk 3 n c r d s w ks) 1&&be ks Zz Zz):=(by rw [ay];rfl);have hs:ee (.mk 3 n c r d s w ks)=((ks.length==1)&& !ks.any (fun t=>t.kY==6)):=rfl;rw [hm,hs,me _ _ _ _ _ _ _ _ _ (.inl rfl)];show _↔_/\_/\∀u∈ks,_
   simp only [Bool.and_eq_true,Bool.not_eq_true',ny];exact ⟨fun h=>⟨h.1.1,⟨h.1.2,h.2.1⟩,h.2.2⟩,fun h=>⟨⟨h.1,h.2.1.1⟩,h.2.1.2,h.2.2⟩⟩
  ·by_cases h4:k=4
   ·subst h4
    have hm:ay (.mk 4 n c r d s w ks)=(aR (.mk 4 n c r d s w ks) 2&&(be ks Zz Zz&&decide (1<=lvl w))):=(by rw [ay];rfl);have hs:ee (.mk 4 n c r d s w ks)=(decide (0<=(lvl w:Int) - 1)&&((ks.length==2)&& !ks.any (fun t=>t.kY==6))):=rfl;rw [hm,hs,me _ _ _ _ _ _ _ _ _ (.inr (.inl rfl))];show _↔_/\_/\∀u∈ks,_
    simp only [Bool.and_eq_true,Bool.not_eq_true',ny,decide_eq_true_eq];exact ⟨fun h=>⟨h.1.1,⟨qoq,h.1.2,h.2.1.1⟩,h.2.1.2⟩,fun h=>⟨⟨h.1,h.2.1.2.1⟩,⟨h.2.1.2.2,h.2.2⟩,(by have:=h.2.1.1;omega)⟩⟩
   ·by_cases h5:k=5
    ·subst h5
     have hm:ay (.mk 5 n c r d s w ks)=(aR (.mk 5 n c r d s w ks) ks.length&&(be ks (w !=[73,70]) (w==[67,79,85,78,84])&&(if w=[73,70] then ks.length==3 else if w=[83,85,77]\/w=[77,73,78]\/w=[77,65,88]\/w=[67,79,85,78,84] then decide (0<ks.length) else Zz))):=(by rw [ay];rfl);have hs:ee (.mk 5 n c r d s w ks)=(if w=[73,70] then ((ks.length==3)&& !ks.any (fun t=>t.kY==6)) else if w=[83,85,77]\/w=[77,73,78]\/w=[77,65,88] then decide ((0:Int)<(ks.length:Int)) else if w=[67,79,85,78,84] then decide ((0:Int)<(ks.length:Int))&& !ks.any (fun t=>(t.kY !=6)&&(t.kY !=2)) else Zz):=rfl;rw [hm,hs,me _ _ _ _ _ _ _ _ _ (.inr (.inr rfl))];show _↔_/\_/\∀u∈ks,_
     clear hm hs
     have hd:(decide (0<ks.length)=Zy)↔(decide ((0:Int)<(ks.length:Int))=Zy):=by
      rw [decide_eq_true_eq,decide_eq_true_eq];omega
     by_cases w1:w=[73,70]
     ·subst w1
      rw [show (([73,70]:List UInt8) !=[73,70])=Zz from by decide,show (([73,70]:List UInt8)==[67,79,85,78,84])=Zz from by decide,if_pos rfl,if_pos rfl];simp only [Bool.and_eq_true,Bool.not_eq_true',ny,beq_self_eq_true,and_true];exact qlp
     ·rw [if_neg w1,if_neg w1,show (w !=[73,70])=Zy from by simp [w1]]
      by_cases w2:w=[83,85,77]\/w=[77,73,78]\/w=[77,65,88]
      ·rw [if_pos w2,if_pos (by rcases w2 with h|h|h;exact .inl h;exact .inr (.inl h);exact .inr (.inr (.inl h))),show (w==[67,79,85,78,84])=Zz from by rcases w2 with rfl|rfl|rfl<;>decide]
       simp only [Bool.and_eq_true,Bool.not_eq_true',DV,beq_self_eq_true,and_true,hd];exact ⟨fun h=>⟨h.1,h.2.2,h.2.1⟩,fun h=>⟨h.1,h.2.2,h.2.1⟩⟩
      ·rw [if_neg w2]
       by_cases w3:w=[67,79,85,78,84]
       ·subst w3
        rw [if_pos (.inr (.inr (.inr rfl))),if_pos rfl,show (([67,79,85,78,84]:List UInt8)==[67,79,85,78,84])=Zy from by decide];simp only [Bool.and_eq_true,Bool.not_eq_true',JW,beq_self_eq_true,and_true,hd];exact qlp
       ·rw [if_neg w3,if_neg (by rintro (h|h|h|h);exact w2 (.inl h);exact w2 (.inr (.inl h));exact w2 (.inr (.inr h));exact w3 h)]
        simp
    ·have hs:∀m,aR (.mk k n c r d s w ks) m=((k==0 || n==0)&&((k==1 || k==6 || (c==0&&r==0&&d==0&&s==0))&&((w==[])&&ks.length==m))):=by
      intro m;show ((k==0 || n==0)&&((k==1 || k==6 || (c==0&&r==0&&d==0&&s==0))&&((k==4 || k==5 || w==[])&&ks.length==m)))=_
      rw [show (k==4)=Zz from by simp [h4],show (k==5)=Zz from by simp [h5]];rfl
     have hs0:∀x:Bool,(x=Zy->True):=fun _ _=>trivial
     have hsp:mM (.mk k n c r d s w ks)= !aR (.mk k n c r d s w ks) 0:=by
      rw [hs]
      have hl:decide ((0:Int)<(ks.length:Int))= !(ks.length==0):=by
       cases ks<;>simp
      have hu:mM (.mk k n c r d s w ks)=(((!(n==0))&&(!(k==0))) || (((!((c==0)&&(r==0)&&((d==0)&&(s==0))))&&((!(k==1))&&(!(k==6)))) || (((!(w==[]))&&((!(k==4))&&(!(k==5)))) || ((decide ((0:Int)<(ks.length:Int)))&&((!(k==3))&&((!(k==4))&&(!(k==5)))))))):=rfl;rw [hu,hl,show (k==3)=Zz from by simp [h3],show (k==4)=Zz from by simp [h4],show (k==5)=Zz from by simp [h5]];exact Eh _ _ _ _ _ _ _ _ _ _
     have hk:aR (.mk k n c r d s w ks) 0=Zy->∀u∈ks,ay u=Zy:=by
      intro h u hu;rw [hs] at h;simp only [Bool.and_eq_true,beq_iff_eq,List.length_eq_zero_iff] at h;rw [h.2.2.2] at hu;cases hu
     rw [hsp,ay];generalize ho:aR (.mk k n c r d s w ks) 0=o at*;rw [if_neg h3,if_neg h4,if_neg h5];have hsd:ee (.mk k n c r d s w ks)=(if k=0 then decide (0<=n) else if k=1 then rightB c r&&(c==d&&r==s) else if k=2 then Zy else if k=3 then dj ks 1 else if k=4 then decide (0<=(lvl w:Int) - 1)&&dj ks 2 else if k=5 then fV w ks else if k=6 then bW c r d s else Zz):=rfl;rw [hsd,if_neg h3,if_neg h4,if_neg h5];show _↔_/\_/\∀u∈ks,_
     have hw:bW c r d s=(rightB c r&&rightB d s&&decide (c<=d)&&decide (r<=s)):=by
      rw [Bool.eq_iff_iff,lV];simp only [Bool.and_eq_true,decide_eq_true_eq,bp];omega
     rw [hw];cases o with
     |false=>
      have:∀p q r s:Prop,∀[Decidable p] [Decidable q] [Decidable r] [Decidable s],∀x y z:Bool,(if p then Zz&&x else if q then Zz&&y else if r then Zz else if s then Zz&&z else Zz)=Zz:=by
       intro p q r s _ _ _ _ x y z;split
       ·rfl
       ·split
        ·rfl
        ·split
         ·rfl
         ·split<;>rfl
      rw [this];simp
     |true=>
      simp only [Bool.true_and,Bool.not_true,true_and];by_cases h0:k=0
      ·rw [if_pos h0]
       exact qkn
      ·by_cases h1:k=1
       ·rw [if_neg h0,if_pos h1]
        exact qkn
       ·by_cases h2:k=2
        ·rw [if_neg h0,if_neg h1,if_pos h2]
         exact qkn
        ·rw [if_neg h0,if_neg h1,if_neg h2]
         by_cases h6:k=6
         ·rw [if_pos h6]
          exact qkn
         ·rw [if_neg h6]
          exact qkn
theorem Ms:∀(d:Nat) (t:Tr),lQ d t=Zy↔aG t<=d/\ay t=Zy:=by
 intro d;induction d with
 |zero=>
  intro t;unfold lQ;cases t;rw [aG];simp
 |succ d ih=>
  intro t;rw [iW];unfold lQ;simp only [Bool.and_eq_true,Bool.not_eq_true',List.all_eq_true];cases t with
  |mk k n c r e s w ks=>
   rw [aG];simp only [Tr.kZ];have hd:aV ks+1<=d+1↔∀u∈ks,aG u<=d:=(by rw [<-FJ];omega)
   rw [hd];exact ⟨fun h=>⟨fun u hu=>((ih u).1 (h.2.2 u hu)).1,h.1,h.2.1,fun u hu=>((ih u).1 (h.2.2 u hu)).2⟩,fun h=>⟨h.2.1,h.2.2.1,fun u hu=>(ih u).2 ⟨h.1 u hu,h.2.2.2 u hu⟩⟩⟩
def MoM (t:Tr):fS->Prop
 |.tree=>ay t=Zy/\t.kY≠6
 |.wi _=>ay t=Zy/\t.kY≠6
 |.item k=>ay t=Zy/\(k=Zy->t.kY=6\/t.kY=2)
 |.its k=>t.kZ≠[]/\be t.kZ Zy k=Zy
theorem MR {md:fS} {t:Tr} {ts:List Tok} (h:Pr md t s ts):MoM t md:=by
 induction h with
 |@num n _=>exact ⟨by unfold ik;rw [ay];simp [aR],(by simp [ik,Tr.kY])⟩
 |@read c r h=>exact ⟨(by unfold fG;rw [ay];simp [aR,h]),(by simp [fG,Tr.kY])⟩
 |bad=>exact ⟨qrk,(by simp [bK,Tr.kY])⟩
 |@neg a s ts _ ih=>exact ⟨(by unfold jM;rw [ay,be,be];simp [aR,ih.1,ih.2]),(by simp [jM,Tr.kY])⟩
 |@op w sa sb a b ta tb hw _ _ iha ihb=>exact ⟨(by unfold opT;rw [ay,be,be,be];simp [aR,iha.1,iha.2,ihb.1,ihb.2,hw]),(by simp [opT,Tr.kY])⟩
 |plain _ _ ih=>exact ih
 |brk _ _ _ ih=>exact ih
 |@cif a b c sa sb sc ta tb tc _ _ _ iha ihb ihc=>
  have H:be [a,b,c] Zz Zz=Zy:=(by rw [be,be,be,be];simp [iha.1,iha.2,ihb.1,ihb.2,ihc.1,ihc.2]);exact ⟨(by unfold ba;rw [ay];simp [aR,H]),(by simp [ba,Tr.kY])⟩
 |@call w s ks ts hw _ ih=>
  have hne:ks≠[]:=ih.1;have ha:be ks Zy (w==[67,79,85,78,84])=Zy:=ih.2;have hp:0<ks.length:=List.length_pos_iff.2 hne;refine ⟨?_,(by simp [ba,Tr.kY])⟩;unfold ba;have e1:(w !=[73,70])=Zy:=qpf;have e2:¬w=[73,70]:=qpf;rw [ay,e1,ha,if_neg e2,if_pos hw,decide_eq_true hp];simp [aR]
 |itT _ ih=>exact ⟨ih.1,fun h=>by cases h⟩
 |itBad=>exact ⟨qrk,fun _=>.inr (by simp [bK,Tr.kY])⟩
 |@itSpan k c r d s h1 h2 h3 h4=>exact ⟨(by unfold fg;rw [ay];simp [aR,h1,h2,h3,h4]),fun _=>.inl (by simp [fg,Tr.kY])⟩
 |@last k t s ts _ ih=>
  refine ⟨qpv,?_⟩;show be [t] Zy k=Zy
  rw [be,be];cases k with
  |false=>simp [ih.1]
  |true=>rcases ih.2 rfl with e|e<;>simp [ih.1,e]
 |@more k t ks s s' ts ts' _ _ ih ih'=>
  have ha:be ks Zy k=Zy:=ih'.2;refine ⟨qpv,?_⟩;show be (t::ks) Zy k=Zy
  rw [be];cases k with
  |false=>simp [ih.1,ha]
  |true=>rcases ih.2 rfl with e|e<;>simp [ih.1,e,ha]
theorem nx (c r:Int):(am c r).length<=100:=by
 unfold am;by_cases h:rightB c r=Zy
 ·rw [if_pos h]
  obtain ⟨_,_,r0,r1⟩:=(bp c r).1 h;have:=oO (r+1) qnY;simp;omega
 ·rw [if_neg h];simp
theorem EY (h:ks.length=2):∃u v,ks=[u,v]:=by
 match ks,h with
 |[u,v],_=>exact ⟨u,v,rfl⟩
theorem uU (h:ks.length=1):∃u,ks=[u]:=by
 match ks,h with
 |[u],_=>exact ⟨u,rfl⟩
def txK:List (List UInt8)->List UInt8
 |[]=>[]
 |s::r=>(44::s)++txK r
theorem zm:∀(s:List UInt8) (r:List (List UInt8)),txJ (s::r)=s++(txK r++[41])
 |s,[]=>by simp [txJ,txK]
 |s,t::r=>by
  show s++44::txJ (t::r)=_
  rw [zm t r];simp [txK]
def txH:List (List UInt8)->List UInt8
 |[]=>[]
 |s::r=>40::(s++txK r)
theorem z6:∀(l:List (List UInt8)),l≠[]->txH l++[41]=40::txJ l
 |[],h=>absurd rfl h
 |s::r,_=>by rw [zm];simp [txH]
theorem uR:∀(l:List (List UInt8)) (s:List UInt8),txK (l++[s])=txK l++44::s
 |[],s=>by simp [txK]
 |x::r,s=>by simp only [List.cons_append,txK,uR r s,List.append_assoc]
def mkB (i:Nat):UInt8:=if i=0 then 40 else 44
theorem JM:∀(l:List (List UInt8)) (s:List UInt8),txH (l++[s])=txH l++mkB l.length::s
 |[],s=>by simp [txH,txK,mkB]
 |x::r,s=>by simp only [List.cons_append,txH,uR];simp [mkB]
theorem eJ:∀ks:List Tr,txL ks=ks.map txT
 |[]=>by rw [dU];rfl
 |t::ts=>by rw [cx,eJ ts];rfl
theorem xh {i:Nat} (h:ks[i]? =ZV u):txH (txL (ks.take (i+1)))=txH (txL (ks.take i))++mkB i::txT u:=by
 have hl:=qgl;rw [List.take_add_one,h];show txH (txL (ks.take i++[u]))=_
 rw [eJ,List.map_append,<-eJ];show txH (txL (ks.take i)++[txT u])=_
 rw [JM,eJ,List.length_map,hl]
theorem zh:∀(l m:List (List UInt8)),(txK l).length<=(txK (l++m)).length
 |[],m=>by simp [txK]
 |x::r,m=>by simp only [List.cons_append,txK,List.length_append,List.length_cons];have:=zh r m;omega
theorem Md:∀(l m:List (List UInt8)),(txH l).length<=(txH (l++m)).length
 |[],m=>by simp [txH]
 |x::r,m=>by simp only [List.cons_append,txH,List.length_append,List.length_cons];have:=zh r m;omega
theorem nV (ks:List Tr) (i:Nat):(txH (txL (ks.take i))).length<=(txH (txL ks)).length:=by
 have h:ks=ks.take i++ks.drop i:=(List.take_append_drop i ks).symm;have h2:txL ks=txL (ks.take i)++txL (ks.drop i):=(by rw [eJ,eJ,eJ,<-List.map_append,<-h]);rw [h2];exact Md _ _
theorem Ci (t:Tr) (hlen:t.kZ.length<=maxLen) (A:Option Addr) (ca:Nat) (hA:KV w0 (fun _=>True) t A) (hB:w0.heap.size<=b) (hP:∀u∈t.kZ,∀(A':Option Addr) (c':Nat),KV w0 (fun _=>True) u A'->cD w0 b 133 #[Zv (ZV ⟨b,0,ZU⟩),tv u A' c'] (txT u)):
 cD w0 b 186 #[Zv (ZV ⟨b,0,ZU⟩),.agg (Ku.k t A ca)] (t.wZ++(txH (txL t.kZ)++[41])):=by
 intro w bs hW hl;have HW:=qf hW;have HL:=qge;have HA:=qf hA;have HP:=qgy;unfold maxLen at hlen;obtain ⟨hne,hb0,HW0,OK0,s0,S0⟩:=qZ;clear hW hl hA hP s0;go_enter func186,ntmps186;go_wp2_with fail;refine (da (b:=b) ⟨t.wZ.toArray⟩ _ bs HW0.out qnN).mono ?_;rintro e w1 ⟨rfl,hw,hk,hs⟩;obtain ⟨HW1,hb1,OK1,S1⟩:=qbo;clear hw hk hs hb0;obtain ⟨c10,c11,c12,c13,c14,c15,c16,c17⟩:=dQ hb1;go_wp2_with fail;have HBS:=qf (show w0.heap.size<=b from hB);go_loopw [4,14] (fun vb vi wr=>∃i:Nat,i<=t.kZ.length/\vb=Zx ⟨#[mkB i]⟩/\vi=ZZ ZY (i:Int)/\Hid (WC w0 wr b (bs++t.wZ++txH (txL (t.kZ.take i))))/\Hid (Lib.OthersKept 5 (ZV b) w wr)/\Hid (w.heap.size<=wr.heap.size)) (fun _ vi _=>t.kZ.length - (RowKit.intOf vi).toNat)
 case atStart=>exact ⟨0,qe,rfl,rfl,qf (by have h:=HW1.out;simpa [dU,txH] using h),OK1,S1⟩
 case round=>
  obtain ⟨i,hi,rfl,rfl,HWr,OKr,Sr⟩:=hrel;clear hb1 c10 c11 c12 c13 c14 c15 c16 c17 HW1 OK1 S1;by_cases hlt:i<t.kZ.length
  ·have ha:t.kZ[i]? =ZV (t.kZ[i]'hlt):=List.getElem?_eq_getElem hlt
   obtain ⟨g,o,rfl⟩:=HA.out.addr ha;obtain ⟨_,hg,A',c',h8,hkv⟩:=HA.out.kid ha;rw [Nat.mul_comm] at h8;have HTT:=qf (xh ha);have hle:=nV t.kZ (i+1);rw [HTT.out] at hle;have HPu:=qf (HP.out _ (List.getElem_mem hlt) A' c' hkv);have q8:=h8.kept (P:=fun _=>True) (Kept.of_below HWr.out.low) trivial;generalize t.kZ[i]'hlt=u at*;unfold tv at HPu;obtain ⟨q0,q1,q2,q3,q4,q5,q6,q7⟩:=q8;have nek:wr.heap.size≠b:=(by have:=HWr.out.lt;omega);have hu0:(wr.alloc (.cells (Ku.k u A' c') 33)).heap[wr.heap.size]? =ZV (.cells (Ku.k u A' c') 33):=heap_alloc_new wr _;have hlL:=qf (show (bs++t.wZ++txH (txL (t.kZ.take i))).length+(mkB i::txT u).length<=140737488355328 by have h:=HL.out;simp at h hle ⊢;omega);have HS:=qf (da (b:=b) ⟨#[mkB i]⟩ (wr.alloc (.cells (Ku.k u A' c') 33)) _ (HWr.out.alloc _) qqT);clear ha h8 hkv hle;go_wp2_with fail;refine HS.out.mono ?_;rintro e w2 ⟨rfl,hw2,hk2,hs2⟩;have hu2:=jW hk2 hu0 nek;obtain ⟨r0,r1,r2,r3,r4,r5,r6,r7⟩:=dQ hu2;have HW2:=qf hw2;have OK2:=qf ((OKr.out.trans (dD (qb.alloc qd (.cells (Ku.k u A' c') 33)))).trans hk2);have S2:=qf (show w.heap.size<=w2.heap.size by have:=Sr.out;simp at hs2;omega);clear hw2 hk2 hs2 q0 q1 q2 q3 q4 q5 q6 q7 hu0 hu2;go_wp2_with fail;refine (HPu.out _ _ HW2.out qqT).mono ?_;rintro e w3 ⟨rfl,hw3,hk3,hs3⟩
   have HW3:Hid (WC w0 w3 b (bs++t.wZ++txH (txL (t.kZ.take (i+1))))):=qf (by rw [HTT.out];have h:=hw3;simpa using h);have OK3:=qf (OK2.out.trans hk3);have S3:=qf (Nat.le_trans S2.out hs3);clear hw3 hk3 hs3 r0 r1 r2 r3 r4 r5 r6 r7;go_wp2_with fail;go_roundw
   case rel=>exact ⟨i+1,qoq,rfl,qnG,HW3,OK3,S3⟩
   case measure=>exact qmy
  ·have hii:i=t.kZ.length:=by omega
   subst hii;have HE:Hid (WC w0 wr b (bs++t.wZ++txH (txL t.kZ))):=qf (by have h:=HWr.out;rwa [List.take_length] at h);have HS:=qf (da (b:=b) ⟨#[41]⟩ wr _ HE.out qnN);go_wp2_with fail;refine HS.out.mono ?_;rintro e w2 ⟨rfl,hw2,hk2,hs2⟩;have HF:=qf (And.intro hw2 (And.intro hk2 hs2));clear hw2 hk2 hs2;go_wp2_with fail;first|go_end0|(refine bodyPost_ret (results_none rfl _ _ _) rfl ?_)
   exact ⟨rfl,qpq,OKr.out.trans HF.out.2.1,Nat.le_trans Sr.out HF.out.2.2⟩
theorem Cq (t:Tr) (hlen:t.kZ.length<=maxLen) (A:Option Addr) (ca:Nat) (n0:(t.kY==0)=Zz) (n1:(t.kY==1)=Zz) (n2:(t.kY==2)=Zz) (n3:(t.kY==3)=Zz) (n4:(t.kY==4)=Zz) (y:(t.kY==5)=Zy) (hP:cD w0 b 186 #[Zv (ZV ⟨b,0,ZU⟩),.agg (Ku.k t A ca)] s):
 cD w0 b 133 #[Zv (ZV ⟨b,0,ZU⟩),.agg (Ku.k t A ca)] (s):=by
 intro w bs hW hl;have HW:=qf hW;have HL:=qge;unfold maxLen at hlen;have HPP:=qf hP;obtain ⟨hne,hb0,HW0,OK0,s0,S0⟩:=qZ;clear hP hW hl s0;go_enter func133,ntmps133;go_wp2_with fail;refine .mono qrZ ?_;rintro e w1 ⟨rfl,hw,hk,hs⟩;obtain ⟨HW1,hb1,OK1,S1⟩:=qbo;clear hw hk hs hb0;go_wp2_with fail;first|go_end0|(refine bodyPost_ret (results_none rfl _ _ _) rfl ?_)
 exact ⟨rfl,HW1.out,OK1.out,S1.out⟩
def sg (w0:Z3) (b:Nat) (t:Tr):Prop:=∀(A:Option Addr) (ca:Nat),KV w0 (fun _=>True) t A->cD w0 b 133 #[Zv (ZV ⟨b,0,ZU⟩),tv t A ca] (txT t)
theorem yj (hE:eS w0) (hS:bh w0.heap.size w0.heap.size w0) (hB:w0.heap.size<=b) (t:Tr) (hW:Wid t) (hF:Fit t) (hM:ay t=Zy) (ih:∀u∈t.kZ,sg w0 b u):sg w0 b t:=by
 intro A ca hA;have hlen:=hW.len;obtain ⟨hsp,hso,_⟩:=(iW t).1 hM;by_cases h0:t.kY=0
 ·have hn:0<=t.num/\t.num<=9223372036854775807:=by
   cases hF with
   |@mk k n c r d s w ks hn _=>
    exact qkl
  have e:txT t=Lib.itoa t.num:=qjY;rw [e];exact DE hE t hlen A ca (by rw [h0];rfl) qnY
 have n0:(t.kY==0)=Zz:=(by simpa using h0);by_cases h1:t.kY=1
 ·have e:txT t=am t.c1 t.r1:=by
   cases t with
   |mk k n c r d s w ks=>
    exact qlV
  rw [e];exact Cm hE t hlen A ca n0 (by rw [h1];rfl)
 have n1:(t.kY==1)=Zz:=qqJ;by_cases h2:t.kY=2
 ·have e:txT t=[35,82,69,70]:=by
   cases t with
   |mk k n c r d s w ks=>
    exact qkv
  rw [e];exact Dp hE t hlen A ca n0 n1 qpS
 have n2:(t.kY==2)=Zz:=qqd;by_cases h3:t.kY=3
 ·have hks:t.kZ.length=1:=by
   cases t with
   |mk k n c r d s w ks=>
    exact qkg
  obtain ⟨u,hu⟩:=uU hks;have hi:=qfv;obtain ⟨g,o,rfl⟩:=hA.addr hi;obtain ⟨_,_,A',c',h8,hkv⟩:=hA.kid hi;have hP:=mR u (hW.kid hi).len A' c' (ih u qpM A' c' hkv) 4 hS;have e:txT t=45::txW 4 u (txT u):=qjO;rw [e];exact GT t hlen hks g o ca n0 n1 n2 qqj qqK hP
 have n3:(t.kY==3)=Zz:=(by simpa using h3);by_cases h4:t.kY=4
 ·have hks:t.kZ.length=2:=by
   cases t with
   |mk k n c r d s w ks=>
    exact qjM
  obtain ⟨u,v,hu⟩:=EY hks;have hi:=qfv;have hj:t.kZ[1]? =ZV v:=(by rw [hu];rfl);obtain ⟨g,o,rfl⟩:=hA.addr hi;obtain ⟨_,_,A',c',h8,hkv⟩:=hA.kid hi;obtain ⟨_,_,B',d',k8,hkv2⟩:=hA.kid hj;have hP1:=mR u (hW.kid hi).len A' c' (ih u qpM A' c' hkv) (lvl t.wZ) hS;have hP2:=mR v (hW.kid hj).len B' d' (ih v qpM B' d' hkv2) (lvl t.wZ+1) hS;have e:txT t=txW (lvl t.wZ) u (txT u)++(t.wZ++txW (lvl t.wZ+1) v (txT v)):=qjB;rw [e];exact Mv t hlen hks g o ca n0 n1 n2 n3 (by rw [h4];rfl) hS qqK (by simpa using k8) hP1 hP2
 have n4:(t.kY==4)=Zz:=qqa;by_cases h5:t.kY=5
 ·have hne:t.kZ≠[]:=by
   cases t with
   |mk k n c r d s w ks=>
    exact qjZ
  have e:txT t=t.wZ++(txH (txL t.kZ)++[41]):=by
   rw [z6 _ (by rw [eJ];simpa using hne)];exact qjQ
  rw [e];exact Cq t hlen A ca n0 n1 n2 n3 n4 qpu (Ci t hlen A ca hA hB ih)
 have n5:(t.kY==5)=Zz:=(by simpa using h5);by_cases h6:t.kY=6
 ·have e:txT t=am t.c1 t.r1++58::am t.c2 t.r2:=by
   cases t with
   |mk k n c r d s w ks=>
    exact qlx
  rw [e];exact Cx hE t hlen A ca n0 n1 n2 n3 n4 n5 (by rw [h6];rfl) (nx _ _) (nx _ _)
 ·exfalso
  exact qsK
theorem FI (hE:eS w0) (hS:bh w0.heap.size w0.heap.size w0) (hB:w0.heap.size<=b):∀{t:Tr},Wid t->Fit t->ay t=Zy->sg w0 b t:=by
 intro t hW;induction hW with
 |@mk k n c r d s w ks hl hk ih=>
  intro hF hM;refine yj hE hS hB _ (.mk hl hk) hF hM fun u hu=>ih u hu ?_ ?_
  ·cases hF with
   |mk _ h=>exact h u hu
  ·exact ((iW _).1 hM).2.2 u hu
