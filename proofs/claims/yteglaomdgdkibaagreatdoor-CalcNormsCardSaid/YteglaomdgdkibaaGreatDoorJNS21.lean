import Derived.Test.YteglaomdgdkibaaGreatDoorJNS12
import Derived.Test.YteglaomdgdkibaaGreatDoorJNS14
import Derived.Test.YteglaomdgdkibaaGreatDoorJNS16
import Derived.Test.YteglaomdgdkibaaGreatDoorJNS18
import Derived.Test.YteglaomdgdkibaaGreatDoorJQNSP
set_option linter.all false
set_option maxHeartbeats 0
set_option maxRecDepth 99999
namespace Go.Proofs.YteglaomdgdkibaaGreatDoor
open Go.RowKit
open Value renaming int→ZZ,string→Zx,slice→Zw,pointer→Zv,agg→Zu
open IntKind renaming i64→ZY
open Ending renaming returned→ZX
open RowKit renaming Below→Z2
open Go renaming World→Z3
open Tryz
open Tryz renaming prog→ZW
open Option renaming some→ZV,none→ZU
open Bool renaming false→Zz,true→Zy
variable {B E R T base lo p q:Nat}{w w':World}{v:Value}{L:List Tok}{a b t:Tr}{d:Tok}{c k n r:Int}
theorem utok_info2:(prog.info? 184).map (fun i=>(i.zero,i.size,i.bytes))=ZV (ZV (Zu #[ZZ ZY 0,ZZ ZY 0,ZZ ZY 0,ZZ ZY 0,Zx ⟨#[]⟩,ZZ ZY 0]),6,56):=by kernel_rfl
theorem bh.up (h:bh base base w) (hR:base<=R) (hB:base<=B):bh R B w:=by
 refine ⟨⟨by have:=h.1.2;omega,Nat.lt_of_lt_of_le h.1.2 hB⟩,fun i hi=>?_⟩;obtain ⟨g,o,cap,hg,hc,hs⟩:=h.2 i hi;exact ⟨g,o,cap,⟨qoq,qoq⟩,hc,hs⟩
theorem mi {l:List Tok} (h:w.ownsRow base T 6 v l.length (c6 l)) (hne:l≠[]):
 ∃g cap,v=Zw (ZV ⟨g,0,ZU⟩) l.length cap/\base<=g/\g<w.heap.size/\l.length<=cap/\cap<=maxLen/\AtT w g l:=by
 obtain ⟨A,cp,hv,hA,_⟩:=i9 h;obtain ⟨g,rfl,hl,hb,ha⟩:=hA hne;rcases h.2 with ⟨hv2,_⟩|⟨g2,cap,cur,hv2,_,_,hn,hm,_⟩
 ·rw [hv] at hv2;cases hv2
 ·rw [hv] at hv2
  cases hv2;exact ⟨g,cp,hv,hb,hl,hn,hm,ha⟩
theorem RLS.set {g cap:Nat} (h:RL w R g cap B L E p/\bh base base w) {b:Nat} (hb:base<=b) (hR:b≠R) (hg:b≠g) (h1:base<=R) (h2:base<=B) (o:Nat) (u:Value):
 RL (w.setCell ⟨b,o,ZU⟩ u) R g cap B L E p/\bh base base (w.setCell ⟨b,o,ZU⟩ u):=by
 have hs:bh base base (w.setCell ⟨b,o,ZU⟩ u):=h.2.keep fun p v _ hl hv=>by
  rw [World.cell?_setCell_far w ⟨b,o,ZU⟩ p u (by show b≠p.block;omega)];exact hv
 exact ⟨h.1.keep (Below.heap_setCell w ⟨b,o,ZU⟩ u R fun e=>hR e.symm) (Below.heap_setCell w ⟨b,o,ZU⟩ u g fun e=>hg e.symm) qns (hs.up h1 h2),hs⟩
theorem np {F:Nat} {z:Int} {x:V8} {f e:Int}
 (t0:w.cell? ⟨T,0,ZU⟩=ZV (ZZ ZY x.n0)) (t1:w.cell? ⟨T,1,ZU⟩=ZV (ZZ ZY x.n1)) (t2:w.cell? ⟨T,2,ZU⟩=ZV (ZZ ZY x.n2)) (t3:w.cell? ⟨T,3,ZU⟩=ZV (ZZ ZY x.n3)) (t4:w.cell? ⟨T,4,ZU⟩=ZV (ZZ ZY x.n4)) (t5:w.cell? ⟨T,5,ZU⟩=ZV (ZZ ZY x.n5)) (t6:w.cell? ⟨T,6,ZU⟩=ZV (.string x.s)) (t7:w.cell? ⟨T,7,ZU⟩=ZV (Zw x.A x.len x.cap))
 (hf:w.cell? ⟨F,0,ZU⟩=ZV (ZZ ZY f)) (he:w.cell? ⟨E,0,ZU⟩=ZV (ZZ ZY e)) (n1:T≠F) (n2:T≠E) (n3:F≠E):
 (cO w T F E z).cell? ⟨T,0,ZU⟩=ZV (ZZ ZY 0)/\(cO w T F E z).cell? ⟨T,1,ZU⟩=ZV (ZZ ZY 0)/\(cO w T F E z).cell? ⟨T,2,ZU⟩=ZV (ZZ ZY 0)/\(cO w T F E z).cell? ⟨T,3,ZU⟩=ZV (ZZ ZY 0)/\
 (cO w T F E z).cell? ⟨T,4,ZU⟩=ZV (ZZ ZY 0)/\(cO w T F E z).cell? ⟨T,5,ZU⟩=ZV (ZZ ZY 0)/\(cO w T F E z).cell? ⟨T,6,ZU⟩=ZV (Zx ⟨#[]⟩)/\(cO w T F E z).cell? ⟨T,7,ZU⟩=ZV (Zw ZU 0 0)/\
 (cO w T F E z).cell? ⟨F,0,ZU⟩=ZV (ZZ ZY z)/\(cO w T F E z).cell? ⟨E,0,ZU⟩=ZV (ZZ ZY 2):=by
 have m1:=n1.symm;have m2:=n2.symm;have m3:=n3.symm;unfold cO;refine ⟨?_,?_,?_,?_,?_,?_,?_,?_,?_,?_⟩<;>simp [go_sem,t0,t1,t2,t3,t4,t5,t6,t7,hf,he,n1,n2,n3,m1,m2,m3]
theorem wD (hB:base<=w.heap.size) (hS:bh base base w) (hL:L.length<=300) (hG:aM L) (hrow:w.ownsRow base 184 6 v L.length (c6 L)) {z:Nat} (ht:ep L E=ZV (.bad z)):
 Calls ZW 81 #[v,ZZ ZY (E:Int)] w fun e w'=>e=ZX (.tuple #[Zu #[ZZ ZY 0,ZZ ZY 0,ZZ ZY 0,ZZ ZY 0,ZZ ZY 0,ZZ ZY 0,Zx ⟨#[]⟩,Zw ZU 0 0],ZZ ZY (z:Int),ZZ ZY 2])/\Z2 base w w':=by
 obtain ⟨i0,hi0,hz0,hz1,hz2⟩:=info_parts utok_info2;obtain ⟨HI,HZ0,HZ1,HZ2⟩:=qbC;obtain ⟨HRow,HS,HT,HBN⟩:=qgm;have hmf:=qaw;clear hi0 hz0 hz1 hz2 hrow hS ht;go_enter_defers func81,ntmps81
 go_wp2_with (at_builtin;refine wpList_append_own_at _ rfl _ _ 129 rfl base 184 i0 (Zu #[ZZ ZY 0,ZZ ZY 0,ZZ ZY 0,ZZ ZY 0,Zx ⟨#[]⟩,ZZ ZY 0]) 6 56 underlying129 HI.out HZ0.out HZ1.out HZ2.out rfl qnv _ _ _ rfl ((((HRow.out.alloc _).alloc _).alloc _).alloc _) ⟨w.heap.size+1+1+1,0,ZU⟩ 1 1 (fy (eP E)) rfl rfl ?c1 ?c2 ?c3 ?c4 ?c5 ?_)
 case c1=>
  intro j u hj;match j,hj with
  |0,hj=>exact qmW
  |1,hj=>exact qmW
  |2,hj=>exact qmW
  |3,hj=>exact qmW
  |4,hj=>exact qmW
  |5,hj=>exact qmW
 case c2=>exact qmX
 case c3=>exact qmE
 case c4=>omega
 case c5=>simp;omega
 intro v' w5 hown5 hg5 _ hat5;have hob:=qeb;rw [<-gV] at hown5;have hown6:=qdk;obtain ⟨g,cap,hv',hbg,hgl,hcl,hcm,hat⟩:=mi hown6 (by simp [dH]);rw [gv] at hv' hcl;subst hv';have hs5:=qec;clear hown5 hown6;have hne:∀k,w.heap.size<=k->ZV k≠v.ownBlock:=fun k hk e=>by have:=(hob k e.symm).2;omega
 obtain ⟨t0,t1,t2,t3,t4,t5,t6,t7,tf,te⟩:=qO
 have tz:∀j,w5.frozen? ⟨w.heap.size,j,ZU⟩=Zz:=fun j=>by
  exact qji
 have fz:w5.frozen? ⟨w.heap.size+1,0,ZU⟩=Zz:=qjd;have ez:w5.frozen? ⟨w.heap.size+1+1,0,ZU⟩=Zz:=qjb;have hb5:Z2 base w w5:=qjh;have HS5:=qbO
 have HRL:Hid (RL (w5.alloc (.cells #[Zw (ZV ⟨g,0,ZU⟩) (L.length+1) cap] 189)) w5.heap.size g cap (w5.heap.size+1) L E 0):=qf
  ⟨qnp,qnp,qoq,qnu,qe,hcl,fun i t hi=>by
    obtain ⟨a,b,c,d,e,f⟩:=hat i t hi;exact ⟨ai a _,ai b _,ai c _,ai d _,ai e _,ai f _⟩,HS5.out,qoq,qoq,qns⟩
 have hgT:g≠w.heap.size:=qjK;obtain ⟨HgT,HB5,hL2⟩:=qfS;clear hgT hg5 hat5 hat hb5 hne hob HRow HI HZ0 HZ1 HZ2 HS5;go_wp2_with fail;refine .mono qsb ?_;rintro e w6 ⟨rfl,b6⟩;obtain ⟨t60,t61,t62,t63,t64,t65,t66,t67,tf6,te6,tz6,fz6,ez6,HB6⟩:=qL;clear t0 t1 t2 t3 t4 t5 t6 t7 tf te tz fz ez b6 HRL HB5 HT;refine leaves_cons (f:=129) (args:=#[Zv (ZV ⟨w.heap.size,0,ZU⟩),Zv (ZV ⟨w.heap.size+1,0,ZU⟩),Zv (ZV ⟨w.heap.size+1+1,0,ZU⟩)]) qns qnp ?_;refine (mG w.heap.size (w.heap.size+1) (w.heap.size+1+1) z [] w6 ⟨0,0,0,0,0,0,⟨#[]⟩,ZU,0,0⟩ 0 0 t60 t61 t62 t63 t64 t65 t66 t67 tf6 te6 tz6 fz6 ez6 qoq qoq qoq).mono ?_;rintro e u' w7 ⟨rfl,rfl,rfl⟩;obtain ⟨q0,q1,q2,q3,q4,q5,q6,q7,q8,q9⟩:=np (w:=w6.drew) (T:=w.heap.size) (F:=w.heap.size+1) (E:=w.heap.size+1+1) (z:=(z:Int)) (x:=⟨0,0,0,0,0,0,⟨#[]⟩,ZU,0,0⟩) (f:=0) (e:=0) t60 t61 t62 t63 t64 t65 t66 t67 tf6 te6 qoq qoq qoq
 have HBf:Z2 base w (cO w6.drew w.heap.size (w.heap.size+1) (w.heap.size+1+1) (z:Int)):=by
  unfold cO;have hd:=HB6.out.drew;exact qkE
 simp [Leaves,settle,results,results81,go_sem,q0,q1,q2,q3,q4,q5,q6,q7,q8,q9]
 exact HBf
theorem ud (hB:base<=w.heap.size) (hS:bh base base w) (hL:L.length<=300) (hG:aM L) (hrow:w.ownsRow base 184 6 v L.length (c6 L)) (ht:ep L E=ZV (.ok t q)) (hd:aj L E q=d) (hk0:(d.kY !=0)=Zy):
 Calls ZW 81 #[v,ZZ ZY (E:Int)] w fun e w'=>e=ZX (.tuple #[Zu #[ZZ ZY 0,ZZ ZY 0,ZZ ZY 0,ZZ ZY 0,ZZ ZY 0,ZZ ZY 0,Zx ⟨#[]⟩,Zw ZU 0 0],ZZ ZY (d.frm:Int),ZZ ZY 2])/\Z2 base w w':=by
 obtain ⟨i0,hi0,hz0,hz1,hz2⟩:=info_parts utok_info2;obtain ⟨HI,HZ0,HZ1,HZ2⟩:=qbC;obtain ⟨HRow,HS,HT,HBN⟩:=qgm;have hmf:=qaw;clear hi0 hz0 hz1 hz2 hrow hS ht;go_enter_defers func81,ntmps81
 go_wp2_with (at_builtin;refine wpList_append_own_at _ rfl _ _ 129 rfl base 184 i0 (Zu #[ZZ ZY 0,ZZ ZY 0,ZZ ZY 0,ZZ ZY 0,Zx ⟨#[]⟩,ZZ ZY 0]) 6 56 underlying129 HI.out HZ0.out HZ1.out HZ2.out rfl qnv _ _ _ rfl ((((HRow.out.alloc _).alloc _).alloc _).alloc _) ⟨w.heap.size+1+1+1,0,ZU⟩ 1 1 (fy (eP E)) rfl rfl ?c1 ?c2 ?c3 ?c4 ?c5 ?_)
 case c1=>
  intro j u hj;match j,hj with
  |0,hj=>exact qmW
  |1,hj=>exact qmW
  |2,hj=>exact qmW
  |3,hj=>exact qmW
  |4,hj=>exact qmW
  |5,hj=>exact qmW
 case c2=>exact qmX
 case c3=>exact qmE
 case c4=>omega
 case c5=>simp;omega
 intro v' w5 hown5 hg5 _ hat5;have hob:=qeb;rw [<-gV] at hown5;have hown6:=qdk;obtain ⟨g,cap,hv',hbg,hgl,hcl,hcm,hat⟩:=mi hown6 (by simp [dH]);rw [gv] at hv' hcl;subst hv';have hs5:=qec;clear hown5 hown6;have hne:∀k,w.heap.size<=k->ZV k≠v.ownBlock:=fun k hk e=>by have:=(hob k e.symm).2;omega
 obtain ⟨t0,t1,t2,t3,t4,t5,t6,t7,tf,te⟩:=qO
 have tz:∀j,w5.frozen? ⟨w.heap.size,j,ZU⟩=Zz:=fun j=>by
  exact qji
 have fz:w5.frozen? ⟨w.heap.size+1,0,ZU⟩=Zz:=qjd;have ez:w5.frozen? ⟨w.heap.size+1+1,0,ZU⟩=Zz:=qjb;have hb5:Z2 base w w5:=qjh;have HS5:=qbO
 have HRL:Hid (RL (w5.alloc (.cells #[Zw (ZV ⟨g,0,ZU⟩) (L.length+1) cap] 189)) w5.heap.size g cap (w5.heap.size+1) L E 0):=qf
  ⟨qnp,qnp,qoq,qnu,qe,hcl,fun i t hi=>by
    obtain ⟨a,b,c,d,e,f⟩:=hat i t hi;exact ⟨ai a _,ai b _,ai c _,ai d _,ai e _,ai f _⟩,HS5.out,qoq,qoq,qns⟩
 have hgT:g≠w.heap.size:=qjK;obtain ⟨HgT,HB5,hL2⟩:=qfS;clear hgT hg5 hat5 hat hb5 hne hob HRow HI HZ0 HZ1 HZ2 HS5;go_wp2_with fail;refine .mono qsb ?_;rintro e w6 ⟨⟨x0,x1,x2,x3,x4,x5,xw,xA,xl,xc⟩,rfl,v6,r6,b6⟩;obtain ⟨t60,t61,t62,t63,t64,t65,t66,t67,tf6,te6,tz6,fz6,ez6,HB6⟩:=qL;have HV6:=qdO;have hs6:bh base base w6:=HS.out.keep fun p u _ hl hv=>by rw [HB6.out.cell hl];exact hv
 have HR6:=qf (And.intro r6 hs6)
 have HRS:Hid (RL (((((((((w6).setCell ⟨w.heap.size,0,ZU⟩ (ZZ ZY x0)).setCell ⟨w.heap.size,1,ZU⟩ (ZZ ZY x1)).setCell ⟨w.heap.size,2,ZU⟩ (ZZ ZY x2)).setCell ⟨w.heap.size,3,ZU⟩ (ZZ ZY x3)).setCell ⟨w.heap.size,4,ZU⟩ (ZZ ZY x4)).setCell ⟨w.heap.size,5,ZU⟩ (ZZ ZY x5)).setCell ⟨w.heap.size,6,ZU⟩ (.string xw)).setCell ⟨w.heap.size,7,ZU⟩ (Zw xA xl xc)) w5.heap.size g cap (w5.heap.size+1) L E q/\bh base base (((((((((w6).setCell ⟨w.heap.size,0,ZU⟩ (ZZ ZY x0)).setCell ⟨w.heap.size,1,ZU⟩ (ZZ ZY x1)).setCell ⟨w.heap.size,2,ZU⟩ (ZZ ZY x2)).setCell ⟨w.heap.size,3,ZU⟩ (ZZ ZY x3)).setCell ⟨w.heap.size,4,ZU⟩ (ZZ ZY x4)).setCell ⟨w.heap.size,5,ZU⟩ (ZZ ZY x5)).setCell ⟨w.heap.size,6,ZU⟩ (.string xw)).setCell ⟨w.heap.size,7,ZU⟩ (Zw xA xl xc))):=qf (by
  with_reducible repeat' (first|exact HR6.out|refine RLS.set ?_ hB qoq (Ne.symm HgT.out) qoq qoq _ _))
 have HN:=qf (gR hL2 hcm HRS.out.1);have hl6:=b6.size;clear hs6;simp at hl6
 obtain ⟨z60,z61,z62,z63,z64,z65,z66,z67⟩:=qgn;clear t0 t1 t2 t3 t4 t5 t6 t7 tf te tz fz ez b6 HRL HB5 HT r6 v6;dsimp only [V8.val];go_wp2_with fail;rw [hd] at HN;unfold cy at HN;refine HN.out.mono ?_;rintro e w7 ⟨rfl,_,b7⟩;obtain ⟨t70,t71,t72,t73,t74,t75,t76,t77,tf7,te7,tz7,fz7,ez7,hl7⟩:=qV;simp at hl7
 have HB7:Hid (Z2 base w w7):=qf (by
  refine Below.trans ?_ (b7.below (n:=base) qoq (by simp;have:=HB6.out.size;omega));with_reducible repeat' (first|exact HB6.out|refine Below.setCell ?_ hB _))
 clear b7 HRS HR6 t60 z60 t61 z61 t62 z62 t63 z63 t64 z64 t65 z65 t66 z66 t67 z67 tf6 te6 tz6 fz6 ez6 HN HB6;go_wp2_with fail;refine leaves_cons (f:=129) (args:=#[Zv (ZV ⟨w.heap.size,0,ZU⟩),Zv (ZV ⟨w.heap.size+1,0,ZU⟩),Zv (ZV ⟨w.heap.size+1+1,0,ZU⟩)]) qns qnp ?_;refine (mG w.heap.size (w.heap.size+1) (w.heap.size+1+1) (d.frm:Int) [] _ ⟨x0,x1,x2,x3,x4,x5,xw,xA,xl,xc⟩ 0 0 (ai t70 _) (ai t71 _) (ai t72 _) (ai t73 _) (ai t74 _) (ai t75 _) (ai t76 _) (ai t77 _) (ai tf7 _) (ai te7 _) (fun j=>aF (tz7 j) qoq _) (aF fz7 qoq _) (aF ez7 qoq _) qoq qoq qoq).mono ?_;rintro e u' w8 ⟨rfl,rfl,rfl⟩;obtain ⟨q0,q1,q2,q3,q4,q5,q6,q7,q8,q9⟩:=np (w:=(w7.alloc (.cells #[ZZ ZY d.kY,ZZ ZY d.num,ZZ ZY d.col,ZZ ZY d.row,Zx ⟨d.text.toArray⟩,ZZ ZY (d.frm:Int)] 184)).drew) (T:=w.heap.size) (F:=w.heap.size+1) (E:=w.heap.size+1+1) (z:=(d.frm:Int)) (x:=⟨x0,x1,x2,x3,x4,x5,xw,xA,xl,xc⟩) (f:=0) (e:=0) (ai t70 _) (ai t71 _) (ai t72 _) (ai t73 _) (ai t74 _) (ai t75 _) (ai t76 _) (ai t77 _) (ai tf7 _) (ai te7 _) qoq qoq qoq
 have HBf:Z2 base w (cO (w7.alloc (.cells #[ZZ ZY d.kY,ZZ ZY d.num,ZZ ZY d.col,ZZ ZY d.row,Zx ⟨d.text.toArray⟩,ZZ ZY (d.frm:Int)] 184)).drew w.heap.size (w.heap.size+1) (w.heap.size+1+1) (d.frm:Int)):=by
  unfold cO;have hd:=(HB7.out.alloc qoq (.cells #[ZZ ZY d.kY,ZZ ZY d.num,ZZ ZY d.col,ZZ ZY d.row,Zx ⟨d.text.toArray⟩,ZZ ZY (d.frm:Int)] 184)).drew;exact qkE
 simp [Leaves,settle,results,results81,go_sem,q0,q1,q2,q3,q4,q5,q6,q7,q8,q9]
 exact HBf
theorem kT (hB:base<=w.heap.size) (hS:bh base base w) (hL:L.length<=300) (hG:aM L) (hrow:w.ownsRow base 184 6 v L.length (c6 L)) (ht:ep L E=ZV (.ok t q)) (hd:aj L E q=d) (hk0:(d.kY !=0)=Zz):
 Calls ZW 81 #[v,ZZ ZY (E:Int)] w fun e w'=>(∃x:V8,e=ZX (.tuple #[x.val,ZZ ZY 0,ZZ ZY 0])/\TV w' (fun b=>base<=b) x (ZV t))/\Z2 base w w':=by
 obtain ⟨i0,hi0,hz0,hz1,hz2⟩:=info_parts utok_info2;obtain ⟨HI,HZ0,HZ1,HZ2⟩:=qbC;obtain ⟨HRow,HS,HT,HBN⟩:=qgm;have hmf:=qaw;clear hi0 hz0 hz1 hz2 hrow hS ht;go_enter_defers func81,ntmps81
 go_wp2_with (at_builtin;refine wpList_append_own_at _ rfl _ _ 129 rfl base 184 i0 (Zu #[ZZ ZY 0,ZZ ZY 0,ZZ ZY 0,ZZ ZY 0,Zx ⟨#[]⟩,ZZ ZY 0]) 6 56 underlying129 HI.out HZ0.out HZ1.out HZ2.out rfl qnv _ _ _ rfl ((((HRow.out.alloc _).alloc _).alloc _).alloc _) ⟨w.heap.size+1+1+1,0,ZU⟩ 1 1 (fy (eP E)) rfl rfl ?c1 ?c2 ?c3 ?c4 ?c5 ?_)
 case c1=>
  intro j u hj;match j,hj with
  |0,hj=>exact qmW
  |1,hj=>exact qmW
  |2,hj=>exact qmW
  |3,hj=>exact qmW
  |4,hj=>exact qmW
  |5,hj=>exact qmW
 case c2=>exact qmX
 case c3=>exact qmE
 case c4=>omega
 case c5=>simp;omega
 intro v' w5 hown5 hg5 _ hat5;have hob:=qeb;rw [<-gV] at hown5;have hown6:=qdk;obtain ⟨g,cap,hv',hbg,hgl,hcl,hcm,hat⟩:=mi hown6 (by simp [dH]);rw [gv] at hv' hcl;subst hv';have hs5:=qec;clear hown5 hown6;have hne:∀k,w.heap.size<=k->ZV k≠v.ownBlock:=fun k hk e=>by have:=(hob k e.symm).2;omega
 obtain ⟨t0,t1,t2,t3,t4,t5,t6,t7,tf,te⟩:=qO
 have tz:∀j,w5.frozen? ⟨w.heap.size,j,ZU⟩=Zz:=fun j=>by
  exact qji
 have fz:w5.frozen? ⟨w.heap.size+1,0,ZU⟩=Zz:=qjd;have ez:w5.frozen? ⟨w.heap.size+1+1,0,ZU⟩=Zz:=qjb;have hb5:Z2 base w w5:=qjh;have HS5:=qbO
 have HRL:Hid (RL (w5.alloc (.cells #[Zw (ZV ⟨g,0,ZU⟩) (L.length+1) cap] 189)) w5.heap.size g cap (w5.heap.size+1) L E 0):=qf
  ⟨qnp,qnp,qoq,qnu,qe,hcl,fun i t hi=>by
    obtain ⟨a,b,c,d,e,f⟩:=hat i t hi;exact ⟨ai a _,ai b _,ai c _,ai d _,ai e _,ai f _⟩,HS5.out,qoq,qoq,qns⟩
 have hgT:g≠w.heap.size:=qjK;obtain ⟨HgT,HB5,hL2⟩:=qfS;clear hgT hg5 hat5 hat hb5 hne hob HRow HI HZ0 HZ1 HZ2 HS5;go_wp2_with fail;refine .mono qsb ?_;rintro e w6 ⟨⟨x0,x1,x2,x3,x4,x5,xw,xA,xl,xc⟩,rfl,v6,r6,b6⟩;obtain ⟨t60,t61,t62,t63,t64,t65,t66,t67,tf6,te6,tz6,fz6,ez6,HB6⟩:=qL;have HV6:=qdO;have hs6:bh base base w6:=HS.out.keep fun p u _ hl hv=>by rw [HB6.out.cell hl];exact hv
 have HR6:=qf (And.intro r6 hs6)
 have HRS:Hid (RL (((((((((w6).setCell ⟨w.heap.size,0,ZU⟩ (ZZ ZY x0)).setCell ⟨w.heap.size,1,ZU⟩ (ZZ ZY x1)).setCell ⟨w.heap.size,2,ZU⟩ (ZZ ZY x2)).setCell ⟨w.heap.size,3,ZU⟩ (ZZ ZY x3)).setCell ⟨w.heap.size,4,ZU⟩ (ZZ ZY x4)).setCell ⟨w.heap.size,5,ZU⟩ (ZZ ZY x5)).setCell ⟨w.heap.size,6,ZU⟩ (.string xw)).setCell ⟨w.heap.size,7,ZU⟩ (Zw xA xl xc)) w5.heap.size g cap (w5.heap.size+1) L E q/\bh base base (((((((((w6).setCell ⟨w.heap.size,0,ZU⟩ (ZZ ZY x0)).setCell ⟨w.heap.size,1,ZU⟩ (ZZ ZY x1)).setCell ⟨w.heap.size,2,ZU⟩ (ZZ ZY x2)).setCell ⟨w.heap.size,3,ZU⟩ (ZZ ZY x3)).setCell ⟨w.heap.size,4,ZU⟩ (ZZ ZY x4)).setCell ⟨w.heap.size,5,ZU⟩ (ZZ ZY x5)).setCell ⟨w.heap.size,6,ZU⟩ (.string xw)).setCell ⟨w.heap.size,7,ZU⟩ (Zw xA xl xc))):=qf (by
  with_reducible repeat' (first|exact HR6.out|refine RLS.set ?_ hB qoq (Ne.symm HgT.out) qoq qoq _ _))
 have HN:=qf (gR hL2 hcm HRS.out.1);have hl6:=b6.size;clear hs6;simp at hl6
 obtain ⟨z60,z61,z62,z63,z64,z65,z66,z67⟩:=qgn;clear t0 t1 t2 t3 t4 t5 t6 t7 tf te tz fz ez b6 HRL HB5 HT r6 v6;dsimp only [V8.val];go_wp2_with fail;rw [hd] at HN;unfold cy at HN;refine HN.out.mono ?_;rintro e w7 ⟨rfl,_,b7⟩;obtain ⟨t70,t71,t72,t73,t74,t75,t76,t77,tf7,te7,tz7,fz7,ez7,hl7⟩:=qV;simp at hl7
 have HB7:Hid (Z2 base w w7):=qf (by
  refine Below.trans ?_ (b7.below (n:=base) qoq (by simp;have:=HB6.out.size;omega));with_reducible repeat' (first|exact HB6.out|refine Below.setCell ?_ hB _))
 have HV7:Hid (TV w7 (fun b=>w5.heap.size<b) ⟨x0,x1,x2,x3,x4,x5,xw,xA,xl,xc⟩ (ZV t)):=qf (HV6.out.kept (Kept.but (by with_reducible repeat' (first|exact Kept.refl _ _|refine Kept.set ?_ (.inl (by show ¬(w5.heap.size<w.heap.size);omega)) _ _)) b7 (by show ¬(w5.heap.size<w5.heap.size);omega)));have hl8:w.heap.size<w7.heap.size:=qoq;have hl9:w.heap.size+1<w7.heap.size:=qoq;have hl10:w.heap.size+1+1<w7.heap.size:=qoq;have z70:=tz7 0;have z71:=tz7 1;have z72:=tz7 2;have z73:=tz7 3;have z74:=tz7 4;have z75:=tz7 5;have z76:=tz7 6;have z77:=tz7 7;clear HV6 b7 HRS HR6 t60 z60 t61 z61 t62 z62 t63 z63 t64 z64 t65 z65 t66 z66 t67 z67 tf6 te6 tz6 fz6 ez6 HN HB6;go_wp2_with fail;refine leaves_cons (f:=129) (args:=#[Zv (ZV ⟨w.heap.size,0,ZU⟩),Zv (ZV ⟨w.heap.size+1,0,ZU⟩),Zv (ZV ⟨w.heap.size+1+1,0,ZU⟩)]) qns qnp ?_;refine (yv _ _ _ _).mono ?_;rintro e u' w8 ⟨rfl,rfl,rfl⟩;refine ⟨.tuple #[Zu #[ZZ ZY x0,ZZ ZY x1,ZZ ZY x2,ZZ ZY x3,ZZ ZY x4,ZZ ZY x5,.string xw,Zw xA xl xc],ZZ ZY 0,ZZ ZY 0],(by simp [results,results81,go_sem,t70,t71,t72,t73,t74,t75,t76,t77,tf7,te7,hl8,hl9,hl10]),⟨⟨x0,x1,x2,x3,x4,x5,xw,xA,xl,xc⟩,rfl,?_⟩,?_⟩
 ·refine TV.imp (P:=fun b=>w5.heap.size<b) (HV7.out.kept ?_) fun b (hb:w5.heap.size<b)=>by show base<=b;omega
  with_reducible repeat' (first|exact Kept.refl _ _|refine Kept.alloc ?_ _|refine Kept.set ?_ (.inl (by show ¬(w5.heap.size<_);omega)) _ _)
 ·with_reducible repeat' (first|exact HB7.out|refine Below.alloc ?_ qor _|refine Below.setCell ?_ qpw _)
theorem ey (t:Tr):bz t=Zy↔t.kY≠6/\aG t<=16/\ay t=Zy:=by
 unfold bz;rw [Bool.and_eq_true,Ms,bne_iff_ne]
def aX (t:Tr):List UInt8:=if bz t=Zy then txT t else []
theorem L1 {w:List UInt8} (ha:Fit a) (hb:Fit b):Fit (opT w a b):=.mk qnv (by
 intro t h;simp only [List.mem_cons,List.not_mem_nil,or_false] at h;rcases h with h|h
 ·rw [h];exact ha
 ·rw [h];exact hb)
theorem Fi {c:Tr} {w:List UInt8} (ha:Fit a) (hb:Fit b) (hc:Fit c):Fit (ba w [a,b,c]):=.mk qnv (by
 intro t h;simp only [List.mem_cons,List.not_mem_nil,or_false] at h;rcases h with h|h|h
 ·rw [h];exact ha
 ·rw [h];exact hb
 ·rw [h];exact hc)
theorem zi {d s:Int} {w:List UInt8} (hn:n<=9223372036854775807) (ha:Fit a):Fit (.mk k n c r d s w [a]):=.mk hn (by
 intro t h;rw [List.mem_singleton.1 h];exact ha)
theorem xm {d s:Int} {w:List UInt8} (hn:n<=9223372036854775807):Fit (.mk k n c r d s w []):=.mk hn (by intro t h;cases h)
theorem Ni {md:fS} {s:List UInt8} {ts:List Tok} (h:Pr md t s ts):Fit t:=by
 induction h with
 |@num n hn=>exact xm qoq
 |read _=>exact qmY
 |bad=>exact qmY
 |neg _ ih=>exact zi qnv ih
 |op _ _ _ iha ihb=>exact L1 iha ihb
 |plain _ _ ih=>exact ih
 |brk _ _ _ ih=>exact ih
 |cif _ _ _ iha ihb ihc=>exact Fi iha ihb ihc
 |call _ _ ih=>cases ih with|mk _ h=>exact .mk qnv h
 |itT _ ih=>exact ih
 |itBad=>exact qmY
 |itSpan _ _ _ _=>exact qmY
 |last _ ih=>exact zi qnv ih
 |@more k t ks s s' ts ts' _ _ ih ih'=>
  cases ih' with
  |mk _ h'=>
   refine .mk qnv ?_;intro u hu;rcases List.mem_cons.1 hu with e|hu
   ·rw [e];exact ih
   ·exact h' u hu
theorem Fa (t:Tr) (ht:Wid t) (hr:bz t=Zz) (w:Z3) (P:Nat->Prop) (A:Option Addr) (ca:Nat) (hA:KV w P t A) (B:Nat) (hB:B<=w.heap.size) (hS:bh B B w):
 Calls ZW 83 #[tv t A ca] w fun e w'=>e=ZX (Zx ⟨#[]⟩)/\Z2 w.heap.size w w':=by
 have h0:=qbi;have H:=qf (fun ob=>jm t ht (w.alloc ob) P A ca (hA.kept (Kept.of_below (h0 ob))) B qnu (hS.later hB (h0 ob)));rw [hr] at H;have hlen:=qfz;unfold maxLen at hlen;unfold tv at*;clear hA hS hr ht h0;go_enter func83,ntmps83;go_wp2_with fail;refine .mono qrz ?_;rintro e w1 ⟨rfl,b1⟩;have h1:=qab;clear b1;go_wp2_with fail;go_ret;exact ⟨rfl,h1⟩
theorem BQ (t:Tr) (ht:Wid t) (hf:Fit t) (hr:bz t=Zy) (hl:(txT t).length<=140737488355328) (w:Z3) (A:Option Addr) (ca:Nat) (hA:KV w (fun _=>True) t A) (hE:eS w) (hS:bh w.heap.size w.heap.size w):
 Calls ZW 83 #[tv t A ca] w fun e w'=>e=ZX (Zx ⟨(txT t).toArray⟩)/\Z2 w.heap.size w w':=by
 have h0:=qbi;have H:=qf (fun ob=>jm t ht (w.alloc ob) (fun _=>True) A ca (hA.kept (Kept.of_below (h0 ob))) w.heap.size qns (hS.later qd (h0 ob)));have HW:=qf (fun w1 (hb:Z2 w.heap.size w w1)=>FI (w0:=w1) (b:=w1.heap.size) (hE.below hb) (bh.up (hS.later qd hb) hb.size hb.size) qd ht hf ((ey t).1 hr).2.2 A ca (hA.kept (Kept.of_below hb)));rw [hr] at H;have hlen:=qfz;unfold maxLen at hlen;have HL:=qge;unfold tv at*;clear hA hS hr ht h0 hf hE hl;go_enter func83,ntmps83;go_wp2_with fail;refine .mono qrz ?_;rintro e w1 ⟨rfl,b1⟩;obtain ⟨k10,k11,k12,k13,k14,k15,k16⟩:=ql;have k17:=qcw;have h1:=qab;have H1:=qf h1;have c10:=dT k10 (ob:=.cells #[Zv ZU,Zw ZU 0 0] 194);have c11:=dT k11 (ob:=.cells #[Zv ZU,Zw ZU 0 0] 194);have c12:=dT k12 (ob:=.cells #[Zv ZU,Zw ZU 0 0] 194);have c13:=dT k13 (ob:=.cells #[Zv ZU,Zw ZU 0 0] 194);have c14:=dT k14 (ob:=.cells #[Zv ZU,Zw ZU 0 0] 194);have c15:=dT k15 (ob:=.cells #[Zv ZU,Zw ZU 0 0] 194);have c16:=dT k16 (ob:=.cells #[Zv ZU,Zw ZU 0 0] 194);have c17:=dT k17 (ob:=.cells #[Zv ZU,Zw ZU 0 0] 194);have hz:Hid (WC w1 (w1.alloc (.cells #[Zv ZU,Zw ZU 0 0] 194)) w1.heap.size []):=qf ⟨qa,Lib.IsBuilderF.of (Lib.fresh_isBuilder _ _ w1)⟩;clear b1 h1 k10 k11 k12 k13 k14 k15 k16 k17;go_wp2_with fail
 refine (HW.out w1 H1.out _ [] hz.out qpH).mono ?_;rintro e w2 ⟨rfl,hw2,hk2,hs2⟩;have HB:=qf (xK w1.heap.size w1.heap.size (txT t) w2 hw2.bld hw2.low.size);have H2:=qf (H1.out.trans (hw2.low.mono H1.out.size));clear hw2 hk2 hs2;go_wp2_with fail;refine HB.out.mono ?_;rintro e w3 ⟨rfl,b3⟩;have H3:=qf (H2.out.trans (b3.mono H1.out.size));clear b3;go_wp2_with fail;go_ret;exact ⟨rfl,H3.out⟩
theorem Cz (t:Tr) (ht:Wid t) (hf:Fit t) (hl:(txT t).length<=140737488355328) (w:Z3) (A:Option Addr) (ca:Nat) (hA:KV w (fun _=>True) t A) (hE:eS w) (hS:bh w.heap.size w.heap.size w):
 Calls ZW 83 #[tv t A ca] w fun e w'=>e=ZX (Zx ⟨(aX t).toArray⟩)/\Z2 w.heap.size w w':=by
 unfold aX;cases hr:bz t with
 |true=>exact BQ t ht hf hr hl w A ca hA hE hS
 |false=>exact Fa t ht hr w _ A ca hA w.heap.size qd hS
structure pQ (t:Tr):Prop where
 wid:Wid t
 fit:Fit t
 may:ay t=Zy
 kY:t.kY≠6
 deep:aG t<=16
theorem pQ.right (h:pQ t):bz t=Zy:=(ey t).2 ⟨h.kY,h.deep,h.may⟩
theorem mH {l:List UInt8} (h:aL l=.good a):l.length<=200/\cF l=0/\ep (aE l) l.length=ZV (.ok a (aE l).length)/\aG a<=16:=by
 unfold aL at h;by_cases h0:cF l=0
 ·have hl:l.length<=200:=by
   rcases Nat.lt_or_ge 200 l.length with g|g
   ·have e3:cF l=3:=if_pos g
    rw [e3] at h0;cases h0
   ·exact g
  rw [if_neg (fun g=>g h0)] at h;obtain ⟨x,hx,hq⟩:=ja (aE l) l.length;rw [hx] at h;cases x with
  |bad z=>cases h
  |ok t q=>
   have hqn:=hq t q rfl;dsimp only at h;by_cases h1:q<(aE l).length
   ·rw [if_pos h1] at h;cases h
   ·rw [if_neg h1] at h
    by_cases h2:16<aG t
    ·rw [if_pos h2] at h;cases h
    ·rw [if_neg h2] at h
     cases h;have e:q=(aE l).length:=qoq;subst e;exact ⟨hl,h0,hx,qoq⟩
 ·rw [if_pos h0] at h;cases h
theorem bO {l:List UInt8} (h:aL l=.good a):pQ a:=by
 obtain ⟨hl,h0,ht,hd⟩:=mH h;obtain ⟨s,ts,hp⟩:=J0 (wm h0 hl) ht;have hm:ay a=Zy/\a.kY≠6:=MR hp;exact ⟨(pE (kW l) ht).1,Ni hp,hm.1,hm.2,hd⟩
theorem jA {l:List UInt8} {a:Int} (h:aL l=.fail a c):(c !=0)=Zy:=by
 rw [bne_iff_ne];rintro rfl;unfold aL at h;by_cases h0:cF l=0
 ·rw [if_neg (fun g=>g h0)] at h
  obtain ⟨x,hx,_⟩:=ja (aE l) l.length;rw [hx] at h;cases x with
  |bad z=>dsimp only at h;injection h with _ h;cases h
  |ok t q=>
   dsimp only at h;by_cases h1:q<(aE l).length
   ·rw [if_pos h1] at h;injection h with _ h;cases h
   ·rw [if_neg h1] at h
    by_cases h2:16<aG t
    ·rw [if_pos h2] at h;injection h with _ h;cases h
    ·rw [if_neg h2] at h;cases h
 ·rw [if_pos h0] at h;injection h with _ h;exact h0 h
def fB (lo:Nat) (o:Option Res):Prop:=∀t q,o=ZV (.ok t q)->br t+lo<=q
theorem fB.ok (h:br t+lo<=q):fB lo (ZV (.ok t q)):=fun _ _ e=>by cases e;exact h
theorem fB.bad {w:Nat}:fB lo (ZV (.bad w)):=fun _ _ e=>by cases e
theorem fB.next {lo':Nat} {a:Option Res} {f:Tr->Nat->Option Res} (h:fB lo a) (hf:∀t q,br t+lo<=q->fB lo' (f t q)):fB lo' (Res.next a f):=fun t q e=>by
 exact qkX
theorem fB.must {s:List UInt8} {f:Nat->Option Res} (hf:fB lo (f (p+1))):fB lo (az L E p s f):=by
 unfold az;split
 ·exact hf
 ·exact .bad
theorem H7 (k n c r d s:Int) (w:List UInt8):br (.mk k n c r d s w [])=1:=by rw [br,bU]
theorem tJ:∀(ks:List Tr) (u:Tr),bU (ks++[u])=bU ks+br u
 |[],u=>by simp only [List.nil_append,bU];omega
 |t::ts,u=>by simp only [List.cons_append];rw [bU,bU,tJ ts u];omega
structure Po (L:List Tok) (E k:Nat):Prop where
 line:∀lev p,fB p (ak L E k lev p)
 rest:∀lev out p lo,br out+lo<=p->fB lo (bC L E k lev out p)
 pref:∀p,fB p (bR L E k p)
 oper:∀p,fB p (ct L E k p)
 items:∀w acc p lo,bU acc+lo+1<=p->fB lo (bx L E k w acc p)
 item:∀c p,fB p (bg L E k c p)
theorem BW (L:List Tok) (E:Nat):∀k,Po L E k
 |0=>by
  exact qiW
 |k+1=>by
  have I:=BW L E k;have leaf:∀(a n c r d s:Int) (p q:Nat),p+1<=q->fB p (ZV (.ok (.mk a n c r d s [] []) q)):=fun a n c r d s p q h=>.ok (by rw [H7];omega)
  constructor
  ·intro lev p
   simp only [ak];split
   ·exact I.pref p
   ·exact (I.line _ _).next fun t q h=>I.rest lev t q p h
  ·intro lev out p lo h
   simp only [bC];split
   ·refine (I.line _ _).next fun t q ht=>I.rest lev _ q lo ?_
    show br (.mk _ _ _ _ _ _ _ [out,t])+lo<=q
    rw [br,bU,bU,bU];omega
   ·exact .ok h
  ·intro p
   simp only [bR];split
   ·refine (I.pref _).next fun t q h=>.ok ?_
    show br (.mk _ _ _ _ _ _ _ [t])+p<=q
    rw [br,bU,bU];omega
   ·exact I.oper p
  ·intro p
   simp only [ct];split
   ·exact (I.line _ _).next fun t q h=>.must (.ok qoq)
   ·split
    ·exact .bad
    ·rename_i t ht
     split
     ·exact .bad
     ·split
      ·exact qmZ
      ·split
       ·exact qmZ
       ·split
        ·exact qmZ
        ·refine .must ?_
         split
         ·refine (I.line _ _).next fun a q ha=>.must ((I.line _ _).next fun b q hb=>.must ((I.line _ _).next fun c q hc=>.must (.ok ?_)))
          show br (.mk _ _ _ _ _ _ _ [a,b,c])+p<=_
          rw [br,bU,bU,bU,bU];omega
         ·exact I.items t.text [] _ p (by rw [bU];omega)
  ·intro w acc p lo h
   simp only [bx];refine (I.item _ _).next fun t q ht=>?_
   have hs:=tJ acc t;split
   ·exact I.items w _ _ lo qoq
   ·refine .must (.ok ?_)
    show br (.mk _ _ _ _ _ _ _ (acc++[t]))+lo<=_
    rw [br];omega
  ·intro c p
   simp only [bg];split
   ·exact I.line 1 p
   ·split
    ·exact .bad
    ·split
     ·exact .bad
     ·split
      ·exact qmZ
      ·refine .must ?_
       split
       ·exact .bad
       ·split
        ·exact .bad
        ·split
         ·exact leaf _ _ _ _ _ _ _ _ qoq
         ·exact leaf _ _ _ _ _ _ _ _ qoq
theorem vI {l:List UInt8} (h:aL l=.good t):(txT t).length<=250000:=by
 obtain ⟨_,_,ht,_⟩:=mH h;have hp:=bO h;have h1:=(BW (aE l) l.length _).line 1 0 t _ ht;have h2:=Mq hp.fit hp.may;have h3:=kW l;omega
theorem f9 (t:Tr):iT t=bz t:=by
 rw [Bool.eq_iff_iff,ey];unfold iT;simp only [Bool.and_eq_true,decide_eq_true_eq,bne_iff_ne];exact ⟨fun h=>⟨h.2.1,h.1,h.2.2⟩,fun h=>⟨h.2.1,h.1,h.2.2⟩⟩
structure gl (w:Z3):Prop where
 l:jc w
 s:bh w.heap.size w.heap.size w
theorem gl.below (h:gl w) (hb:Z2 w.heap.size w w'):gl w':=
 ⟨h.l.below hb,(h.s.keep fun _ _ _ hl hv=>by rw [hb.cell hl];exact hv).up hb.size hb.size⟩
theorem gl.strs (h:gl w) (hb:Z2 w.heap.size w w') (h1:w.heap.size<=base):bh base base w':=
 (h.s.keep fun _ _ _ hl hv=>by rw [hb.cell hl];exact hv).up h1 h1
theorem G1 (s:ByteArray) (hs:s.size<=9223372036854775807) (w:Z3) (hE:jc w):Calls ZW 80 #[.string s] w fun e w'=>∃v,e=ZX (.tuple #[v,ZZ ZY (jb s.data.toList),ZZ ZY (cF s.data.toList)])/\
 w'.ownsRow w.heap.size 184 6 v (aE s.data.toList).length (c6 (aE s.data.toList))/\Z2 w.heap.size w w':=by
 by_cases h:s.size<=300
 ·exact OK s h w hE
 ·have hl:200<s.data.toList.length:=by rw [aq];omega
  obtain ⟨e1,e2,e3⟩:=qcY;exact (rt s qoq qoq w).mono fun e w' ⟨he,hw⟩=>⟨Zw ZU 0 0,(by rw [he,e2,e3]),qpt,hw▸qb⟩
def kt (w:Z3):oJ->Ending->Z3->Prop
 |.good t,e,w'=>(∃x:V8,e=ZX (.tuple #[x.val,ZZ ZY 0,ZZ ZY 0])/\TV w' (fun b=>w.heap.size<=b) x (ZV t))/\Z2 w.heap.size w w'
 |.fail a c,e,w'=>e=ZX (.tuple #[Zu #[ZZ ZY 0,ZZ ZY 0,ZZ ZY 0,ZZ ZY 0,ZZ ZY 0,ZZ ZY 0,Zx ⟨#[]⟩,Zw ZU 0 0],ZZ ZY a,ZZ ZY c])/\Z2 w.heap.size w w'
theorem BH (s:ByteArray) (hs:s.size<=9223372036854775807) (w:Z3) (hE:gl w) {a:Int} (h0:(c !=0)=Zy) (h1:jb s.data.toList=a) (h2:cF s.data.toList=c):
 Calls ZW 41 #[.string s] w (kt w (.fail a c)):=by
 obtain ⟨HE,HSc⟩:=qeT;clear hE;rw [h1,h2] at HSc;clear h1 h2;go_enter func41,ntmps41;go_wp2_with fail;refine .mono qsc ?_;rintro e w1 ⟨v,rfl,hrow,b1⟩;have k10:=qea;obtain ⟨f10,k11,f11,k12,f12,k13,f13,k14,f14,k15,f15,k16,f16,k17⟩:=qaj;have f17:=qhp;have h1:=qab;have z1:=qaz;obtain ⟨HRow,HS1⟩:=qby;clear hrow b1;go_wp2_with fail
 exact bodyPost_ret (v:=.tuple #[Zu #[ZZ ZY 0,ZZ ZY 0,ZZ ZY 0,ZZ ZY 0,ZZ ZY 0,ZZ ZY 0,Zx ⟨#[]⟩,Zw ZU 0 0],ZZ ZY a,ZZ ZY c]) (by simp [results,results41,go_sem,k10,k11,k12,k13,k14,k15,k16,k17]) rfl ⟨rfl,by
  with_reducible repeat' (first|exact h1|refine Below.setCell ?_ qoa _)⟩
theorem ol (s:ByteArray) (hs:s.size<=9223372036854775807) (w:Z3) (hE:gl w) {a:Int} (h0:(c !=0)=Zy) (h2:cF s.data.toList=0) (HF:∀(w1:Z3) (v:Value),w.heap.size+1<=w1.heap.size->bh (w.heap.size+1) (w.heap.size+1) w1->w1.ownsRow (w.heap.size+1) 184 6 v (aE s.data.toList).length (c6 (aE s.data.toList))->Calls ZW 81 #[v,ZZ ZY (s.size:Int)] w1 fun e w'=>e=ZX (.tuple #[Zu #[ZZ ZY 0,ZZ ZY 0,ZZ ZY 0,ZZ ZY 0,ZZ ZY 0,ZZ ZY 0,Zx ⟨#[]⟩,Zw ZU 0 0],ZZ ZY a,ZZ ZY c])/\Z2 (w.heap.size+1) w1 w'):
 Calls ZW 41 #[.string s] w (kt w (.fail a c)):=by
 obtain ⟨HE,HSc⟩:=qeT;clear hE;rw [h2] at HSc;have HFF:=qf HF;clear h2 HF;go_enter func41,ntmps41;go_wp2_with fail;refine .mono qsc ?_;rintro e w1 ⟨v,rfl,hrow,b1⟩;have k10:=qea;obtain ⟨f10,k11,f11,k12,f12,k13,f13,k14,f14,k15,f15,k16,f16,k17⟩:=qaj;have f17:=qhp;have h1:=qab;have z1:=qaz;obtain ⟨HRow,HS1⟩:=qby;clear hrow b1;go_wp2_with fail;refine .mono qsd ?_;rintro e w2 ⟨rfl,b2⟩;obtain ⟨k20,f20,k21,f21,k22,f22,k23,f23,k24,f24,k25,f25,k26,f26⟩:=qH;obtain ⟨k27,f27,h2,z2⟩:=qbf;clear b2 HS1 HRow k10 f10 k11 f11 k12 f12 k13 f13 k14 f14 k15 f15 k16 f16 k17 f17;go_wp2_with fail
 exact bodyPost_ret (v:=.tuple #[Zu #[ZZ ZY 0,ZZ ZY 0,ZZ ZY 0,ZZ ZY 0,ZZ ZY 0,ZZ ZY 0,Zx ⟨#[]⟩,Zw ZU 0 0],ZZ ZY a,ZZ ZY c]) (by simp [results,results41,go_sem,k20,k21,k22,k23,k24,k25,k26,k27,z2]) rfl ⟨rfl,by
  with_reducible repeat' (first|exact h2|refine Below.setCell ?_ qoa _|refine Below.alloc ?_ qor _)⟩
theorem xq (s:ByteArray) (hs:s.size<=9223372036854775807) (w:Z3) (hE:gl w) (h2:cF s.data.toList=0) (hw:Wid t) (hd:aG t<=1000000000) (h16:decide ((16:Int)<(aG t:Int))=Zy) (HF:∀(w1:Z3) (v:Value),w.heap.size+1<=w1.heap.size->bh (w.heap.size+1) (w.heap.size+1) w1->w1.ownsRow (w.heap.size+1) 184 6 v (aE s.data.toList).length (c6 (aE s.data.toList))->Calls ZW 81 #[v,ZZ ZY (s.size:Int)] w1 fun e w'=>(∃x:V8,e=ZX (.tuple #[x.val,ZZ ZY 0,ZZ ZY 0])/\TV w' (fun b=>w.heap.size+1<=b) x (ZV t))/\Z2 (w.heap.size+1) w1 w'):
 Calls ZW 41 #[.string s] w (kt w (.fail 0 6)):=by
 obtain ⟨HE,HSc⟩:=qeT;clear hE;rw [h2] at HSc;have HFF:=qf HF;clear h2 HF;go_enter func41,ntmps41;go_wp2_with fail;refine .mono qsc ?_;rintro e w1 ⟨v,rfl,hrow,b1⟩;have k10:=qea;obtain ⟨f10,k11,f11,k12,f12,k13,f13,k14,f14,k15,f15,k16,f16,k17⟩:=qaj;have f17:=qhp;have h1:=qab;have z1:=qaz;obtain ⟨HRow,HS1⟩:=qby;clear hrow b1;go_wp2_with fail;refine .mono qsd ?_;rintro e w2 ⟨⟨x,rfl,htv⟩,b2⟩;obtain ⟨A,cp,rfl,hkv⟩:=htv;obtain ⟨k20,f20,k21,f21,k22,f22,k23,f23,k24,f24,k25,f25,k26,f26⟩:=qH;obtain ⟨k27,f27,h2,z2⟩:=qbf;have HD:=qer;have HK:=qf hkv;clear b2 HS1 HRow k10 f10 k11 f11 k12 f12 k13 f13 k14 f14 k15 f15 k16 f16 k17 f17 hkv;unfold tv at HD;dsimp only [V8.val,tv8];go_wp2_with fail;refine (HD.out _).mono ?_;rintro e w3 ⟨rfl,b3⟩;obtain ⟨k30,f30,k31,f31,k32,f32,k33,f33,k34,f34,k35,f35,k36,f36⟩:=qbg;obtain ⟨k37,f37,q30,q31,q32,q33,q34,q35,q36,q37,h3,z3,y3,HK3⟩:=qaM;clear b3 k20 f20 k21 f21 k22 f22 k23 f23 k24 f24 k25 f25 k26 f26 k27 f27;go_wp2_with fail
 exact bodyPost_ret (v:=.tuple #[Zu #[ZZ ZY 0,ZZ ZY 0,ZZ ZY 0,ZZ ZY 0,ZZ ZY 0,ZZ ZY 0,Zx ⟨#[]⟩,Zw ZU 0 0],ZZ ZY 0,ZZ ZY 6]) qoX rfl ⟨rfl,by
  with_reducible repeat' (first|exact h3|refine Below.setCell ?_ qoa _|refine Below.alloc ?_ qor _)⟩
theorem xR (s:ByteArray) (hs:s.size<=9223372036854775807) (w:Z3) (hE:gl w) (h2:cF s.data.toList=0) (hw:Wid t) (hd:aG t<=1000000000) (h16:decide ((16:Int)<(aG t:Int))=Zz) (HF:∀(w1:Z3) (v:Value),w.heap.size+1<=w1.heap.size->bh (w.heap.size+1) (w.heap.size+1) w1->w1.ownsRow (w.heap.size+1) 184 6 v (aE s.data.toList).length (c6 (aE s.data.toList))->Calls ZW 81 #[v,ZZ ZY (s.size:Int)] w1 fun e w'=>(∃x:V8,e=ZX (.tuple #[x.val,ZZ ZY 0,ZZ ZY 0])/\TV w' (fun b=>w.heap.size+1<=b) x (ZV t))/\Z2 (w.heap.size+1) w1 w'):
 Calls ZW 41 #[.string s] w (kt w (.good t)):=by
 obtain ⟨HE,HSc⟩:=qeT;clear hE;rw [h2] at HSc;have HFF:=qf HF;clear h2 HF;go_enter func41,ntmps41;go_wp2_with fail;refine .mono qsc ?_;rintro e w1 ⟨v,rfl,hrow,b1⟩;have k10:=qea;obtain ⟨f10,k11,f11,k12,f12,k13,f13,k14,f14,k15,f15,k16,f16,k17⟩:=qaj;have f17:=qhp;have h1:=qab;have z1:=qaz;obtain ⟨HRow,HS1⟩:=qby;clear hrow b1;go_wp2_with fail;refine .mono qsd ?_;rintro e w2 ⟨⟨x,rfl,htv⟩,b2⟩;obtain ⟨A,cp,rfl,hkv⟩:=htv;obtain ⟨k20,f20,k21,f21,k22,f22,k23,f23,k24,f24,k25,f25,k26,f26⟩:=qH;obtain ⟨k27,f27,h2,z2⟩:=qbf;have HD:=qer;have HK:=qf hkv;clear b2 HS1 HRow k10 f10 k11 f11 k12 f12 k13 f13 k14 f14 k15 f15 k16 f16 k17 f17 hkv;unfold tv at HD;dsimp only [V8.val,tv8];go_wp2_with fail;refine (HD.out _).mono ?_;rintro e w3 ⟨rfl,b3⟩;obtain ⟨k30,f30,k31,f31,k32,f32,k33,f33,k34,f34,k35,f35,k36,f36⟩:=qbg;obtain ⟨k37,f37,q30,q31,q32,q33,q34,q35,q36,q37,h3,z3,y3,HK3⟩:=qaM;clear b3 k20 f20 k21 f21 k22 f22 k23 f23 k24 f24 k25 f25 k26 f26 k27 f27;go_wp2_with fail
 exact bodyPost_ret (v:=.tuple #[.agg (Ku.k t A cp),ZZ ZY 0,ZZ ZY 0]) qoX rfl ⟨⟨tv8 t A cp,rfl,A,cp,rfl,by
  refine (KVc.imp (fun b (hb:w.heap.size+1<=b)=>by show w.heap.size<=b;omega) (HK3.out.stay ?_));with_reducible repeat' (first|exact Kept.refl _ _|refine Kept.alloc ?_ _|refine Kept.set ?_ (.inl (by show ¬(w.heap.size+1<=w.heap.size);omega)) _ _)⟩,by
  with_reducible repeat' (first|exact h3|refine Below.setCell ?_ qoa _|refine Below.alloc ?_ qor _)⟩
theorem CU (s:ByteArray) (hs:s.size<=9223372036854775807) (w:Z3) (hE:gl w):
 Calls ZW 41 #[.string s] w (kt w (aL s.data.toList)):=by
 have hlen:s.data.toList.length=s.size:=aq s;unfold aL;rw [hlen];by_cases h0:cF s.data.toList=0
 ·rw [if_neg (fun h=>h h0)]
  have hl:s.data.toList.length<=200:=qkF;have hG:=Er h0 hl;have hL:=kW s.data.toList
  have hL3:(aE s.data.toList).length<=300:=by
   have hsz:=hl;have hne:¬200<s.data.toList.length:=qoq;unfold aE;rw [if_neg hne];cases hs2:dL s.data.toList with
   |mk o q=>
    cases o with
    |none=>simp
    |some a=>
     have:=mh (s.data.toList.length+1) 0 [] a q qe hs2;simp at this ⊢
     omega
  obtain ⟨res,ht,hq⟩:=ja (aE s.data.toList) s.size;rw [ht];cases res with
  |bad z=>exact ol s hs w hE qnv h0 fun w1 v hb hst hrow=>wD hb hst hL3 hG hrow ht
  |ok t q=>
   have hq':=hq t q rfl;obtain ⟨hw,hd⟩:=pE hL ht;show Calls _ _ _ _ (kt w (if q<(aE s.data.toList).length then .fail (whr (aE s.data.toList) s.size q:Int) 2 else if 16<aG t then .fail 0 6 else .good t))
   by_cases hlt:q<(aE s.data.toList).length
   ·rw [if_pos hlt,nS]
    refine ol s hs w hE qnv h0 fun w1 v hb hst hrow=>ud hb hst hL3 hG hrow ht rfl ?_
    have h1:=(hG q _ (List.getElem?_eq_getElem hlt)).good.kY;rw [eY (E:=s.size) (List.getElem?_eq_getElem hlt),bne_iff_ne];omega
   ·rw [if_neg hlt]
    have hk:((aj (aE s.data.toList) s.size q).kY !=0)=Zz:=by
     rw [i6 (List.getElem?_eq_none qoq)];rfl
    by_cases h16:16<aG t
    ·rw [if_pos h16]
     exact xq s hs w hE h0 hw hd (decide_eq_true qoq) fun w1 v hb hst hrow=>kT hb hst hL3 hG hrow ht rfl hk
    ·rw [if_neg h16]
     exact xR s hs w hE h0 hw hd (decide_eq_false qoq) fun w1 v hb hst hrow=>kT hb hst hL3 hG hrow ht rfl hk
 ·rw [if_pos h0]
  exact BH s hs w hE (by rw [bne_iff_ne];exact h0) rfl rfl
