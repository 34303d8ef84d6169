/- Short ways to say what is said often. -/
import Derived.RowKit
import Derived.Below
import Derived.Lib.Hide
set_option linter.all false
set_option maxHeartbeats 0
set_option maxRecDepth 99999
namespace Go.Proofs.YteglaomdgdkibaaGreatDoor
open Go.RowKit
variable {p:Prop}
def qat(h:p:=by
 have t1:w4.cell? ⟨w3.heap.size,1,none⟩=some (.int .i64 T.num):=aa hb4 qnp;have t2:w4.cell? ⟨w3.heap.size,2,none⟩=some (.int .i64 T.c1):=aa hb4 qnp;have t3:w4.cell? ⟨w3.heap.size,3,none⟩=some (.int .i64 T.r1):=aa hb4 qnp;have t4:w4.cell? ⟨w3.heap.size,4,none⟩=some (.int .i64 T.c2):=aa hb4 qnp;have t5:w4.cell? ⟨w3.heap.size,5,none⟩=some (.int .i64 T.r2):=aa hb4 qnp;have t6:w4.cell? ⟨w3.heap.size,6,none⟩=some (.string ⟨T.wZ.toArray⟩):=aa hb4 qnp;have t7:w4.cell? ⟨w3.heap.size,7,none⟩=some (.slice A1 T.kZ.length c1):=aa hb4 qnp;have ha3:Below w3.heap.size w3 (w3.alloc (.cells (Ku.k T A1 c1) 33)):=qa;have hb34:Below w3.heap.size w3 w4:=ha3.trans (hb4.mono ha3.size);have HB4:=qf (HB3.out.trans (hb34.mono HB3.out.size));have HK4:=qf hk4;have HK34:Hid (KV w4 (fun _=>True) T A1):=qf (HK3.out.kept (Kept.of_below hb34));have hz4:w3.heap.size<w4.heap.size:=by have:=hb4.size;simp at this;omega
 have H5a:=qf (fun ob=>H5.out (w4.alloc ob) A1 A2 c1 c2 (HK34.out.kept (Kept.of_below (qb.alloc qd ob))) (HK4.out.kept (Kept.of_below (qb.alloc qd ob))));exact qsv t1 t2 t3 t4 t5 t6 t7 ha3 hb34 HB4 HK4 HK34 hz4 H5a):p:=h
def qay(h:p:=by
 have hG:=fun op X Y W=>kL op X Y #[.int .i64 t.c1,.int .i64 t.r1,.int .i64 t.c2,.int .i64 t.r2] #[.int .i64 u.c1,.int .i64 u.r1,.int .i64 u.c2,.int .i64 u.r2] W
 have hN:=tq t.c1 t.r1 t.c2 t.r2 u.c1 u.r1 u.c2 u.r2;exact show _/\_ from ⟨hG,hN⟩):p:=h
def qaZ(h:p:=by
 have h300:decide ((300:Int)<(s.length:Int))=false:=decide_eq_false qoq;have H1:=qf (fun W (hb:Below w.heap.size w W)=>ku s hs W (hE.below hb));have H2:=qf (fun W=>Ff s hs W);have H3:=qf (fun W (hb:Below w.heap.size w W)=>(tP s hs W (hE.below hb)).mono fun e w' k=>wL k);have H4:=qf (fun W=>(m8 W s hs).mono fun e w' k=>wL k);have H5:=qf (fun W A B ca cb hA hB=>(Ei 16 (trO s) (trO s) (vL s) (sn s) (sn s) W (fun _=>True) (fun _=>True) A B ca cb hA hB).mono (R':=fun e w'=>e=.returned (.bool true)/\Below W.heap.size W w') fun e w' ⟨⟨b,he,hb⟩,hbl⟩=>⟨(by rw [he,hb.2 rfl]),hbl⟩);have HAl:=qf (fun W (hb:Below w.heap.size w W)=>hAl W (hE.below hb));exact qsw h300 H1 H2 H3 H4 H5 HAl):p:=h
def qcn(h:p:=by
 have HP:=qf (fun W=>pM ⟨r.toArray⟩ (show r.toArray.size<=9223372036854775807 from by simp at hl ⊢;omega) W);have e0:(⟨r.toArray⟩:ByteArray).data.toList=r:=rfl;exact show _/\_ from ⟨HP,e0⟩):p:=h
def qda(h:p:=by
 have pt:=bO hp;have hpl:=mP hp;have PA:=qf (fun w A ca hA=>AB t pt.wid pt.fit (Nat.le_trans pt.deep qnv) (Nat.le_trans hpl.2 qnv) w A ca hA);have hcat:=Fu (aX t) (Nat.le_trans hpl.1 qnv);have hpl1:=hpl.1;exact qsB pt hpl PA hcat hpl1):p:=h
def qdI(h:p:=by
 have k10:=af b1 0 (v:=.int .i64 t.kY) rfl;have k16:=af b1 6 (v:=.string ⟨t.wZ.toArray⟩) rfl;exact show _/\_ from ⟨k10,k16⟩):p:=h
def qfI(h:p:=by exact (show (⟨(txT t).toArray⟩:ByteArray).size<=140737488355328 from by simpa [ByteArray.size] using hl)):p:=h
def qfN(h:p:=by exact (show w4.cell? ⟨w3.heap.size,0,none⟩=some (.int .i64 T.kY) from aa hb4 qnp)):p:=h
def qfU(h:p:=by
 have HL:=qf (fun w=>ma ⟨t.wZ.toArray⟩ w);have hw:(⟨t.wZ.toArray⟩:ByteArray).data.toList=t.wZ:=by simp
 exact show _/\_ from ⟨HL,hw⟩):p:=h
def qfX(h:p:=by exact (qf ((HB4.out.alloc HB4.out.size _).trans (hb5.mono (by simp;have:=HB4.out.size;omega))))):p:=h
def qgd(h:p:=by exact (qf (fun ob=>rN t hd ht (w.alloc ob) _ A ca (hA.kept (Kept.of_below (h0 ob)))))):p:=h
def qgR(h:p:=by exact (qf (fun ob=>hT hl (w.alloc ob) A ca (hA.kept (Kept.of_below (h0 ob)))))):p:=h
def qhU(h:p:=by exact (show Below w.heap.size w (w.alloc (.cells (Ku.k t A ca) 33)) from qa)):p:=h
def qih(h:p:=by exact (show am c r=dm c::Lib.itoa (r+1) from if_pos h)):p:=h
def qnd(h:p:=by intro _ h;simp [ba,Tr.kY] at h):p:=h
def qne(h:p:=by exact key 2 rfl qnv (by simp [au,bw])):p:=h
def qnf(h:p:=by exact key 1 rfl qnv (by simp [au,bw])):p:=h
def qng(h:p:=by exact ⟨_,_,rfl,qnv,qnv,qnv⟩):p:=h
def qnh(h:p:=by exact .one ⟨_,_,rfl,qnv⟩ (fun z _=>KE z) rfl):p:=h
def qpc(h:p:=by rcases h with rfl|rfl|rfl|rfl|rfl<;>decide):p:=h
def qpn(h:p:=by intro h;rw [h] at hl;revert hl;simp;omega):p:=h
def qpK(h:p:=by rcases hzz with rfl|rfl<;>decide):p:=h
def qpL(h:p:=by unfold txW;split<;>simp<;>omega):p:=h
def qpP(h:p:=by rw [fY];simp at hs;omega):p:=h
def qpX(h:p:=by rintro rfl;revert this;decide):p:=h
def qqg(h:p:=by rw [List.length_append,<-Nat.add_assoc] at hl;exact hl):p:=h
def qql(h:p:=by simp [h0]):p:=h
def qqP(h:p:=by simp [h1]):p:=h
def qrn(h:p:=by rw [fY];exact nx _ _):p:=h
end Go.Proofs.YteglaomdgdkibaaGreatDoor
