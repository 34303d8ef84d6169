/- Short ways to say what is said often. -/
import Derived.RowKit
import Derived.Below
import Derived.Lib.Hide
set_option linter.all false
set_option maxHeartbeats 0
set_option maxRecDepth 99999
namespace Go.Proofs.YteglaomdgdkibaaGreatDoor
open Go.RowKit
variable {p:Prop}
def qz(h:p:=by
 have k0:=aa B (p:=⟨w.heap.size,0,none⟩) (v:=.int .i64 0) qnp;have k1:=aa B (p:=⟨w.heap.size,1,none⟩) (v:=.int .i64 0) qnp;have f0:=ae B (p:=⟨w.heap.size,0,none⟩) qns qnp;have f1:=ae B (p:=⟨w.heap.size,1,none⟩) qns qnp;have h1:Below w.heap.size w w1:=qa.trans (B.mono qns);exact qsB k0 k1 f0 f1 h1):p:=h
def qaV(h:p:=by
 have f0:=ae b1 (p:=⟨w.heap.size+1+1,0,none⟩) qns qnp;have f1:=ae b1 (p:=⟨w.heap.size+1+1,1,none⟩) qns qnp;have z1:w.heap.size+1+1<w1.heap.size:=by have:=b1.size;simp at this;omega
 exact qsF f0 f1 z1):p:=h
def qbt(h:p:=by
 have B1:Below wr.heap.size wr w1:=by first|exact lF (Below.refl _ wr).drew b1|exact below_alloc (Below.refl _ wr).drew b1
 have m0:=aa B1 c0;have m1:=aa B1 c1;have m2:=aa B1 a0;have m3:=aa B1 a1;have r0:=aa B1 k0;have r1:=aa B1 k1;have s0:=ae B1 z0 g0;have s1:=ae B1 z0 g1;have t0:=ae B1 z1 f0;have t1:=ae B1 z1 f1;have y0:w.heap.size<w1.heap.size:=Lib.lt_of_cell r0;have y1:w.heap.size+1<w1.heap.size:=Lib.lt_of_cell m0;have n5:w1.heap.size≠w.heap.size:=by omega
 exact qsv B1 m0 m1 m2 m3 r0 r1 s0 s1 t0 t1 y0 y1 n5):p:=h
def qbx(h:p:=by
 have k0:=aa b1 (p:=⟨w.heap.size+1+1,0,none⟩) (v:=.int .i64 0) qnp;have k1:=aa b1 (p:=⟨w.heap.size+1+1,1,none⟩) (v:=.int .i64 0) qnp;exact show _/\_ from ⟨k0,k1⟩):p:=h
def qct(h:p:=by exact (show Below w.heap.size w w1 from ((qa.alloc qns _).alloc qnu _).trans (b1.mono qnu))):p:=h
def qcB(h:p:=by
 have B2:=qf ((BA.out _).trans (hb2.mono (BA.out _).size));have s2:w1.heap.size<=w2.heap.size:=B2.out.size;have c0:=aa B2.out p0;have c1:=aa B2.out p1;have g0:=ae B2.out (by simpa using hz) f0;have g1:=ae B2.out (by simpa using hz) f1;have hz2:w.heap.size<w2.heap.size:=by omega
 exact qsw B2 s2 c0 c1 g0 g1 hz2):p:=h
def qcG(h:p:=by
 have p1:w1.cell? ⟨wr.heap.size,1,none⟩=some (.int .i64 0):=af (W:=wr.drew) b1 1 (v:=.int .i64 0) rfl;have q0:w1.frozen? ⟨wr.heap.size,0,none⟩=false:=ah (W:=wr.drew) b1 0;have q1:w1.frozen? ⟨wr.heap.size,1,none⟩=false:=ah (W:=wr.drew) b1 1;exact qsF p1 q0 q1):p:=h
def qcV(h:p:=by
 have p0:w1.cell? ⟨w.heap.size,0,none⟩=some (.int .i64 0):=aa hb1 qnp;have p1:w1.cell? ⟨w.heap.size,1,none⟩=some (.int .i64 0):=aa hb1 qnp;have f0:=ah hb1 0;have f1:=ah hb1 1;exact qsC p0 p1 f0 f1):p:=h
def qde(h:p:=by
 have HI:=qf (hi _ P A cap LA lc (hk.kept (Kept.of_below kb)) (hc.below kb));have hlt:=ge.len;exact show _/\_ from ⟨HI,hlt⟩):p:=h
def qdg(h:p:=by exact (show decide (b<0)=false from decide_eq_false h2)):p:=h
def qdh(h:p:=by exact (show decide (a<0)=false from decide_eq_false h1)):p:=h
def qdl(h:p:=by exact (show decide (a<0)=true from decide_eq_true h1)):p:=h
def qdm(h:p:=by exact (show decide (b<0)=true from decide_eq_true h2)):p:=h
def qdA(h:p:=by
 have HC1:=qf fun ob=>HR.out (w1.alloc ob) _ A1 c1 LA lc (hk1.kept (Kept.of_below ((Below.refl _ w1).alloc qd ob))) ((HC.out.below mb).below ((Below.refl _ w1).alloc qd ob))
 have zg:g<w1.heap.size:=Lib.lt_of_cell p0;exact show _/\_ from ⟨HC1,zg⟩):p:=h
def qeV(h:p:=by exact ((hb2.alloc qoq _).trans (b3.mono qnu))):p:=h
def qff(h:p:=by
 have n4:wr.heap.size≠w.heap.size:=by omega
 have n0:wr.heap.size≠w.heap.size+1:=by omega
 have n1:wr.heap.size≠g:=by omega
 exact qsF n4 n0 n1):p:=h
def qfm(h:p:=by
 have HA:=qf (oS a ha);have HB:=qf (oS b hb);exact show _/\_ from ⟨HA,HB⟩):p:=h
def qft(h:p:=by exact (show decide (0<=a)=false from decide_eq_false qoq)):p:=h
def qfB(h:p:=by exact (show decide (0<=a)=true from decide_eq_true qoq)):p:=h
def qfH(h:p:=by exact (qf (HA.out _ _ A0 c0 LA lc hk0 (HC.out.below kb)))):p:=h
def qfM(h:p:=by exact (fun X Y W=>yD .eql X Y #[.int .i64 q.c,.int .i64 q.r] #[.int .i64 x,.int .i64 y] W)):p:=h
def qfT(h:p:=by
 have n2:w1.heap.size≠w.heap.size+1:=by have:=B1.size;omega
 have n3:w1.heap.size≠g:=by have:=B1.size;omega
 exact show _/\_ from ⟨n2,n3⟩):p:=h
def qgi(h:p:=by exact (aa b1 (p:=⟨w.heap.size,1,none⟩) (v:=.int .i64 0) qnp)):p:=h
def qgO(h:p:=by exact (show w.heap.size<w1.heap.size from by omega)):p:=h
def qhf(h:p:=by exact (show w.heap.size<w1.heap.size from by have:=hb1.size;simp at this;omega)):p:=h
def qhP(h:p:=by exact (show ((i:Int)==0)=false from by rw [beq_eq_false_iff_ne];omega)):p:=h
def qig(h:p:=by exact (qf (fun ob=>(Below.refl w1.heap.size w1).alloc qd ob))):p:=h
def qjD(h:p:=by exact ⟨0,0,qe,rfl,qf ⟨fun _=>rfl,fun h=>absurd rfl h⟩,qa.alloc qns _,qns,qnp,qnp,qnp,qnp,qnp,qnp,qnp,qnp⟩):p:=h
def qkW(h:p:=by
 by_cases h0:i=0
 ·subst h0;rw [if_pos rfl];exact Cw hxy
 ·rw [if_neg h0,mU hxy,HP.out.2 h0]):p:=h
def qlb(h:p:=by exact ((HB1.out.trans (B2.out.mono HB1.out.size)).setCell (p:=⟨_,0,none⟩) qd _).setCell (p:=⟨_,1,none⟩) qd _):p:=h
def qle(h:p:=by
 have hE:=fun W=>(yq 0 4 U.1 U.2 W).trans (by rw [hbb])
 clear hv HV HBc hbb;exact qiP):p:=h
def qls(h:p:=by
 rw [hS];split
 ·exact pL (.inr rfl) hy
 ·exact pL (.inl rfl) hy):p:=h
def qlQ(h:p:=by
 rw [run_eql_struct,run_equalIn_agg W 9999 28 _ _ yi Ag];exact qkc):p:=h
def qme(h:p:=by
 have hi0:i=0:=by simpa using hi
 rw [HP.out.1 hi0];rfl):p:=h
def qmg(h:p:=by
 have:=HA.out w hc;rw [hv] at this;exact this):p:=h
def qmi(h:p:=by
 have hz1:True:=trivial;clear ho ha hb):p:=h
def qmq(h:p:=by
 have d1:=qdl;have d3:=qft;have d2:=qdm;exact qjx):p:=h
def qmr(h:p:=by
 have d1:=qdh;have d3:=qfB;have d2:=qdg;exact qjx):p:=h
def qnc(h:p:=by exact ⟨aK (Eq.trans (decide_eq_false qoq).symm e1.out.symm),h1⟩):p:=h
def qnJ(h:p:=by simp [results,Tryz.results162,go_sem,k0,k1]):p:=h
def qnW(h:p:=by repeat' (first|with_reducible exact b0|exact Nat.le_succ _|with_reducible refine Below.setCell ?_ ?_ _|with_reducible refine below_drewN ?_ _)):p:=h
def qob(h:p:=by simp [results,Tryz.results113,go_sem,nr0,nr1,nz1,nf0,nf1]):p:=h
def qoL(h:p:=by simp [results,Tryz.results112,go_sem,k0,k1,z1]):p:=h
def qoV(h:p:=by simp [results,Tryz.results113,go_sem,mr0,mr1,mz1,mf0,mf1]):p:=h
def qpj(h:p:=by simp [results,Tryz.results36,go_sem,k0,k1]):p:=h
def qpA(h:p:=by simpa using h1.size):p:=h
def qpZ(h:p:=by simp [results,Tryz.results64,go_sem,mr0,mr1,mz1,mf0,mf1]):p:=h
def qqf(h:p:=by simp [results,Tryz.results25,go_sem,r0,r1,z1,f0,f1]):p:=h
def qqk(h:p:=by simp [results,Tryz.results27,go_sem,c0,c1,g0,g1]):p:=h
def qqD(h:p:=by simp [results,Tryz.results165,go_sem,k0,k1]):p:=h
def qqQ(h:p:=by first|exact qa|exact (qa.alloc qns _)):p:=h
def qqV(h:p:=by simp [results,Tryz.results215,go_sem]):p:=h
def qqW(h:p:=by simp [results,Tryz.results220,go_sem]):p:=h
def qqX(h:p:=by simp [results,Tryz.results162,go_sem]):p:=h
def qrd(h:p:=by simp [results,Tryz.results64,go_sem]):p:=h
def qre(h:p:=by rw [E1.out.1,E1.out.2.1,E1.out.2.2]):p:=h
def qrp(h:p:=by simp [go_sem,k0]):p:=h
def qrq(h:p:=by simp [go_sem,k1]):p:=h
def qrr(h:p:=by simp [go_sem,g0]):p:=h
def qrs(h:p:=by simp [go_sem,g1]):p:=h
def qrt(h:p:=by simp [go_sem,f0]):p:=h
def qsp(h:p:=by exact (Db _ _ _)):p:=h
end Go.Proofs.YteglaomdgdkibaaGreatDoor
