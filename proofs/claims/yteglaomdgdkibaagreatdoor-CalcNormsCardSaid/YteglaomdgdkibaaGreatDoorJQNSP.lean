/- Short ways to say what is said often. -/
import Derived.RowKit
import Derived.Below
import Derived.Lib.Hide
set_option linter.all false
set_option maxHeartbeats 0
set_option maxRecDepth 99999
namespace Go.Proofs.YteglaomdgdkibaaGreatDoor
open Go.RowKit
variable {p:Prop}
def qg(h:p:=by
 have h1:But R w w1:=But.trans qno (But.of_below b1);have zk1:w.heap.size<w1.heap.size:=by have:=b1.size;first|omega|(simp at this;omega)
 have Hk1:C8 w1 (w.heap.size) (.int .i64 0) (.int .i64 0) (.int .i64 0) (.int .i64 0) (.int .i64 0) (.int .i64 0) (.string ⟨#[]⟩) (.slice none 0 0):=by refine ⟨?_,?_,?_,?_,?_,?_,?_,?_⟩<;>exact (But.of_below b1).cell nk qnp
 obtain ⟨k10,k11,k12,k13,k14,k15,k16,k17⟩:=Hk1;have Hkf1:F8 w1 (w.heap.size):=by refine ⟨?_,?_,?_,?_,?_,?_,?_,?_⟩<;>exact (But.of_below b1).frozen nk qnt qnp
 obtain ⟨kf10,kf11,kf12,kf13,kf14,kf15,kf16,kf17⟩:=Hkf1;have y1:w.heap.size<w1.heap.size:=zk1;have HR1:Hid (RS w1 R A cap L E (.run p)):=qf (RS.below (have hv:=HR.out;qnl) b1);exact qss h1 zk1 k10 k11 k12 k13 k14 k15 k16 k17 kf10 kf11 kf12 kf13 kf14 kf15 kf16 kf17 y1 HR1):p:=h
def qh(h:p:=by
 have h2:But R w w2:=But.trans (have hv:=h1;qni) (But.of_below b2);have zk2:w.heap.size<w2.heap.size:=by have:=b2.size;first|omega|(simp at this;omega)
 have Hk2:=bt (B:=w.heap.size) (fun j v hv=>(But.of_below b2).cell nk qnj) k10 k11 k12 k13 k14 k15 k16 k17;obtain ⟨k20,k21,k22,k23,k24,k25,k26,k27⟩:=Hk2;have Hkf2:=bq (B:=w.heap.size) (fun j hv=>(But.of_below b2).frozen nk qnt qnq) kf10 kf11 kf12 kf13 kf14 kf15 kf16 kf17;obtain ⟨kf20,kf21,kf22,kf23,kf24,kf25,kf26,kf27⟩:=Hkf2;exact qst h2 zk2 k20 k21 k22 k23 k24 k25 k26 k27 kf20 kf21 kf22 kf23 kf24 kf25 kf26 kf27):p:=h
def qi(h:p:=by
 have h3:But R w w3:=But.trans (have hv:=h2;qni) b3;have zk3:w.heap.size<w3.heap.size:=by have:=b3.size;first|omega|(simp at this;omega)
 have Hk3:=bt (B:=w.heap.size) (fun j v hv=>b3.cell nk qnj) k20 k21 k22 k23 k24 k25 k26 k27;obtain ⟨k30,k31,k32,k33,k34,k35,k36,k37⟩:=Hk3;have Hkf3:=bq (B:=w.heap.size) (fun j hv=>b3.frozen nk qnt qnq) kf20 kf21 kf22 kf23 kf24 kf25 kf26 kf27;obtain ⟨kf30,kf31,kf32,kf33,kf34,kf35,kf36,kf37⟩:=Hkf3;exact qst h3 zk3 k30 k31 k32 k33 k34 k35 k36 k37 kf30 kf31 kf32 kf33 kf34 kf35 kf36 kf37):p:=h
def qj(h:p:=by
 have h4:But R w w4:=But.trans (have hv:=h3;qni) (But.of_below b4);have zk4:w.heap.size<w4.heap.size:=by have:=b4.size;first|omega|(simp at this;omega)
 have Hk4:=bt (B:=w.heap.size) (fun j v hv=>(But.of_below b4).cell nk qnj) k30 k31 k32 k33 k34 k35 k36 k37;obtain ⟨k40,k41,k42,k43,k44,k45,k46,k47⟩:=Hk4;have Hkf4:=bq (B:=w.heap.size) (fun j hv=>(But.of_below b4).frozen nk qnt qnq) kf30 kf31 kf32 kf33 kf34 kf35 kf36 kf37;obtain ⟨kf40,kf41,kf42,kf43,kf44,kf45,kf46,kf47⟩:=Hkf4;have za4:w2.heap.size<w4.heap.size:=by have:=b4.size;first|omega|(simp at this;omega)
 have a40:w4.cell? ⟨w2.heap.size,0,none⟩=some (.int .i64 t.kY):=(But.of_below b4).cell na (have hv:=a30;qnj);have a41:w4.cell? ⟨w2.heap.size,1,none⟩=some (.int .i64 t.num):=(But.of_below b4).cell na (have hv:=a31;qnj);have a42:w4.cell? ⟨w2.heap.size,2,none⟩=some (.int .i64 t.col):=(But.of_below b4).cell na (have hv:=a32;qnj);have a43:w4.cell? ⟨w2.heap.size,3,none⟩=some (.int .i64 t.row):=(But.of_below b4).cell na (have hv:=a33;qnj);have a44:w4.cell? ⟨w2.heap.size,4,none⟩=some (.string ⟨t.text.toArray⟩):=(But.of_below b4).cell na (have hv:=a34;qnj);have a45:w4.cell? ⟨w2.heap.size,5,none⟩=some (.int .i64 (t.frm:Int)):=(But.of_below b4).cell na (have hv:=a35;qnj);have y4:w.heap.size<w4.heap.size:=zk4;exact qsu h4 zk4 k40 k41 k42 k43 k44 k45 k46 k47 kf40 kf41 kf42 kf43 kf44 kf45 kf46 kf47 za4 a40 a41 a42 a43 a44 a45 y4):p:=h
def qk(h:p:=by
 have k10:=af b1 0 (v:=.int .i64 0) rfl;have k11:=af b1 1 (v:=.int .i64 0) rfl;have k12:=af b1 2 (v:=.int .i64 0) rfl;have k13:=af b1 3 (v:=.int .i64 0) rfl;have k14:=af b1 4 (v:=.string ⟨#[]⟩) rfl;have k15:=af b1 5 (v:=.int .i64 0) rfl;have f10:=ah b1 0;have f11:=ah b1 1;have f12:=ah b1 2;have f13:=ah b1 3;have f14:=ah b1 4;have f15:=ah b1 5;have h1:Below w.heap.size w w1:=qa.trans (b1.mono qns);have z1:w.heap.size<w1.heap.size:=by have:=b1.size;simp at this;omega
 exact qsv k10 k11 k12 k13 k14 k15 f10 f11 f12 f13 f14 f15 h1 z1):p:=h
def ql(h:p:=by
 have k10:=af b1 0 (v:=.int .i64 t.kY) rfl;have k11:=af b1 1 (v:=.int .i64 t.num) rfl;have k12:=af b1 2 (v:=.int .i64 t.c1) rfl;have k13:=af b1 3 (v:=.int .i64 t.r1) rfl;have k14:=af b1 4 (v:=.int .i64 t.c2) rfl;have k15:=af b1 5 (v:=.int .i64 t.r2) rfl;have k16:=af b1 6 (v:=.string ⟨t.wZ.toArray⟩) rfl;exact qsw k10 k11 k12 k13 k14 k15 k16):p:=h
def qm(h:p:=by exact (show But R w w1 from But.trans qno b1)):p:=h
def qn(h:p:=by
 have HC:=qf hc;have HK:=qf hk;have HM:=qf hm;have hmm:=@run_makeMap Tryz.prog;have hmf:∀(fn:Fn) (first cap:Array Value) (w:World),(Instr.makeFunc fn first cap).run Tryz.prog w=.ok (.func fn first cap) w:=fun _ _ _ _=>rfl
 have hk0:keyOf Tryz.prog 9 (.string ⟨#[73,70]⟩)=some (.string [73,70]):=WideMaps.keyOf_string_mk (P:=Tryz.prog) Tryz.underlying9 (by show [73,70].length<=maxLen;unfold maxLen;decide);have hk1:keyOf Tryz.prog 9 (.string ⟨#[83,85,77]⟩)=some (.string [83,85,77]):=WideMaps.keyOf_string_mk (P:=Tryz.prog) Tryz.underlying9 (by show [83,85,77].length<=maxLen;unfold maxLen;decide);have hk2:keyOf Tryz.prog 9 (.string ⟨#[77,73,78]⟩)=some (.string [77,73,78]):=WideMaps.keyOf_string_mk (P:=Tryz.prog) Tryz.underlying9 (by show [77,73,78].length<=maxLen;unfold maxLen;decide);have hk3:keyOf Tryz.prog 9 (.string ⟨#[77,65,88]⟩)=some (.string [77,65,88]):=WideMaps.keyOf_string_mk (P:=Tryz.prog) Tryz.underlying9 (by show [77,65,88].length<=maxLen;unfold maxLen;decide);have hk4:keyOf Tryz.prog 9 (.string ⟨#[67,79,85,78,84]⟩)=some (.string [67,79,85,78,84]):=WideMaps.keyOf_string_mk (P:=Tryz.prog) Tryz.underlying9 (by show [67,79,85,78,84].length<=maxLen;unfold maxLen;decide);exact qsx HC HK HM hmm hmf hk0 hk1 hk2 hk3 hk4):p:=h
def qo(h:p:=by exact (show C8 w1 (w.heap.size) (.int .i64 0) (.int .i64 0) (.int .i64 0) (.int .i64 0) (.int .i64 0) (.int .i64 0) (.string ⟨#[]⟩) (.slice none 0 0) from by refine ⟨?_,?_,?_,?_,?_,?_,?_,?_⟩<;>exact b1.cell (show w.heap.size≠R by omega) qnp)):p:=h
def qp(h:p:=by
 have t60:(((s[p]'h).toNat:Int)==60)=false:=aI (k:=60) q60;have t62:(((s[p]'h).toNat:Int)==62)=false:=aI (k:=62) q62;have t43:(((s[p]'h).toNat:Int)==43)=false:=aI (k:=43) q43;have t45:(((s[p]'h).toNat:Int)==45)=false:=aI (k:=45) q45;have t42:(((s[p]'h).toNat:Int)==42)=false:=aI (k:=42) q42;have t47:(((s[p]'h).toNat:Int)==47)=false:=aI (k:=47) q47;exact qsy t60 t62 t43 t45 t42 t47):p:=h
def qq(h:p:=by exact (bq (B:=w.heap.size) (fun j hv=>b2.frozen (show w.heap.size≠R by omega) qnt qnq) kf10 kf11 kf12 kf13 kf14 kf15 kf16 kf17)):p:=h
def qu(h:p:=by
 have za3:w2.heap.size<w3.heap.size:=by have:=b3.size;first|omega|(simp at this;omega)
 have a30:w3.cell? ⟨w2.heap.size,0,none⟩=some (.int .i64 t.kY):=b3.cell na qnp;have a31:w3.cell? ⟨w2.heap.size,1,none⟩=some (.int .i64 t.num):=b3.cell na qnp;have a32:w3.cell? ⟨w2.heap.size,2,none⟩=some (.int .i64 t.col):=b3.cell na qnp;have a33:w3.cell? ⟨w2.heap.size,3,none⟩=some (.int .i64 t.row):=b3.cell na qnp;have a34:w3.cell? ⟨w2.heap.size,4,none⟩=some (.string ⟨t.text.toArray⟩):=b3.cell na qnp;have a35:w3.cell? ⟨w2.heap.size,5,none⟩=some (.int .i64 (t.frm:Int)):=b3.cell na qnp;have y3:w.heap.size<w3.heap.size:=zk3;exact qsz za3 a30 a31 a32 a33 a34 a35 y3):p:=h
def qv(h:p:=by
 have h5:But R w w5:=But.trans (have hv:=h4;qni) b5;have zk5:w.heap.size<w5.heap.size:=by have:=b5.size;first|omega|(simp at this;omega)
 have Hk5:=bt (B:=w.heap.size) (fun j v hv=>b5.cell nk qnj) k40 k41 k42 k43 k44 k45 k46 k47;obtain ⟨k50,k51,k52,k53,k54,k55,k56,k57⟩:=Hk5;have Hkf5:=bq (B:=w.heap.size) (fun j hv=>b5.frozen nk qnt qnq) kf40 kf41 kf42 kf43 kf44 kf45 kf46 kf47;obtain ⟨kf50,kf51,kf52,kf53,kf54,kf55,kf56,kf57⟩:=Hkf5;have za5:w2.heap.size<w5.heap.size:=by have:=b5.size;first|omega|(simp at this;omega)
 have a50:w5.cell? ⟨w2.heap.size,0,none⟩=some (.int .i64 t.kY):=b5.cell na (have hv:=a40;qnj);have a51:w5.cell? ⟨w2.heap.size,1,none⟩=some (.int .i64 t.num):=b5.cell na (have hv:=a41;qnj);have a52:w5.cell? ⟨w2.heap.size,2,none⟩=some (.int .i64 t.col):=b5.cell na (have hv:=a42;qnj);have a53:w5.cell? ⟨w2.heap.size,3,none⟩=some (.int .i64 t.row):=b5.cell na (have hv:=a43;qnj);have a54:w5.cell? ⟨w2.heap.size,4,none⟩=some (.string ⟨t.text.toArray⟩):=b5.cell na (have hv:=a44;qnj);have a55:w5.cell? ⟨w2.heap.size,5,none⟩=some (.int .i64 (t.frm:Int)):=b5.cell na (have hv:=a45;qnj);exact qsA h5 zk5 k50 k51 k52 k53 k54 k55 k56 k57 kf50 kf51 kf52 kf53 kf54 kf55 kf56 kf57 za5 a50 a51 a52 a53 a54 a55):p:=h
def qw(h:p:=by exact (show F8 w1 (w.heap.size) from by refine ⟨?_,?_,?_,?_,?_,?_,?_,?_⟩<;>exact b1.frozen (show w.heap.size≠R by omega) qnt qnp)):p:=h
def qA(h:p:=by
 have za2:w1.heap.size<w2.heap.size:=by have:=b2.size;first|omega|(simp at this;omega)
 have a20:w2.cell? ⟨w1.heap.size,0,none⟩=some (.int .i64 a.kY):=b2.cell (show w1.heap.size≠R by omega) qnp;have a21:w2.cell? ⟨w1.heap.size,1,none⟩=some (.int .i64 a.num):=b2.cell (show w1.heap.size≠R by omega) qnp;have a22:w2.cell? ⟨w1.heap.size,2,none⟩=some (.int .i64 a.col):=b2.cell (show w1.heap.size≠R by omega) qnp;have a23:w2.cell? ⟨w1.heap.size,3,none⟩=some (.int .i64 a.row):=b2.cell (show w1.heap.size≠R by omega) qnp;have a24:w2.cell? ⟨w1.heap.size,4,none⟩=some (.string ⟨a.text.toArray⟩):=b2.cell (show w1.heap.size≠R by omega) qnp;have a25:w2.cell? ⟨w1.heap.size,5,none⟩=some (.int .i64 (a.frm:Int)):=b2.cell (show w1.heap.size≠R by omega) qnp;exact qsw za2 a20 a21 a22 a23 a24 a25):p:=h
def qB(h:p:=by
 have k10:=aa b1 (p:=⟨w.heap.size,0,none⟩) (v:=.int .i64 0) qnp;have k11:=aa b1 (p:=⟨w.heap.size,1,none⟩) (v:=.int .i64 0) qnp;have f10:=ae b1 (p:=⟨w.heap.size,0,none⟩) qns qnp;have f11:=ae b1 (p:=⟨w.heap.size,1,none⟩) qns qnp;exact qsC k10 k11 f10 f11):p:=h
def qC(h:p:=by exact (show But R w w2 from But.trans (have hv:=h1;qni) b2)):p:=h
def qD(h:p:=by exact (bt (B:=w.heap.size) (fun j v hv=>b2.cell (show w.heap.size≠R by omega) qnj) k10 k11 k12 k13 k14 k15 k16 k17)):p:=h
def qE(h:p:=by
 have k0:=af b1 0 (v:=.int .i64 0) rfl;have k1:=af b1 1 (v:=.int .i64 0) rfl;have k2:=af b1 2 (v:=.int .i64 0) rfl;have k3:=af b1 3 (v:=.int .i64 0) rfl;have k4:=af b1 4 (v:=.string ⟨#[]⟩) rfl;have k5:=af b1 5 (v:=.int .i64 0) rfl;have f0:=ah b1 0;have f1:=ah b1 1;have f2:=ah b1 2;have f3:=ah b1 3;have f4:=ah b1 4;have f5:=ah b1 5;exact qsD k0 k1 k2 k3 k4 k5 f0 f1 f2 f3 f4 f5):p:=h
def qF(h:p:=by
 have y2:w.heap.size<w2.heap.size:=zk2;have HR2:Hid (RS w2 R A cap L E (.run p)):=qf (RS.below (have hv:=HR1.out;qnl) b2);exact show _/\_ from ⟨y2,HR2⟩):p:=h
def qG(h:p:=by
 have za3:w1.heap.size<w3.heap.size:=by have:=b3.size;first|omega|(simp at this;omega)
 have a30:w3.cell? ⟨w1.heap.size,0,none⟩=some (.int .i64 a.kY):=b3.cell (show w1.heap.size≠R by omega) (have hv:=a20;qnj);have a31:w3.cell? ⟨w1.heap.size,1,none⟩=some (.int .i64 a.num):=b3.cell (show w1.heap.size≠R by omega) (have hv:=a21;qnj);have a32:w3.cell? ⟨w1.heap.size,2,none⟩=some (.int .i64 a.col):=b3.cell (show w1.heap.size≠R by omega) (have hv:=a22;qnj);have a33:w3.cell? ⟨w1.heap.size,3,none⟩=some (.int .i64 a.row):=b3.cell (show w1.heap.size≠R by omega) (have hv:=a23;qnj);have a34:w3.cell? ⟨w1.heap.size,4,none⟩=some (.string ⟨a.text.toArray⟩):=b3.cell (show w1.heap.size≠R by omega) (have hv:=a24;qnj);have a35:w3.cell? ⟨w1.heap.size,5,none⟩=some (.int .i64 (a.frm:Int)):=b3.cell (show w1.heap.size≠R by omega) (have hv:=a25;qnj);exact qsw za3 a30 a31 a32 a33 a34 a35):p:=h
def qH(h:p:=by
 have k20:=(b2.cell (p:=⟨w.heap.size,0,none⟩) qnD).trans k10;have f20:=(b2.frozen (p:=⟨w.heap.size,0,none⟩) qnD).trans f10;have k21:=(b2.cell (p:=⟨w.heap.size,1,none⟩) qnD).trans k11;have f21:=(b2.frozen (p:=⟨w.heap.size,1,none⟩) qnD).trans f11;have k22:=(b2.cell (p:=⟨w.heap.size,2,none⟩) qnD).trans k12;have f22:=(b2.frozen (p:=⟨w.heap.size,2,none⟩) qnD).trans f12;have k23:=(b2.cell (p:=⟨w.heap.size,3,none⟩) qnD).trans k13;have f23:=(b2.frozen (p:=⟨w.heap.size,3,none⟩) qnD).trans f13;have k24:=(b2.cell (p:=⟨w.heap.size,4,none⟩) qnD).trans k14;have f24:=(b2.frozen (p:=⟨w.heap.size,4,none⟩) qnD).trans f14;have k25:=(b2.cell (p:=⟨w.heap.size,5,none⟩) qnD).trans k15;have f25:=(b2.frozen (p:=⟨w.heap.size,5,none⟩) qnD).trans f15;have k26:=(b2.cell (p:=⟨w.heap.size,6,none⟩) qnD).trans k16;have f26:=(b2.frozen (p:=⟨w.heap.size,6,none⟩) qnD).trans f16;exact qsv k20 f20 k21 f21 k22 f22 k23 f23 k24 f24 k25 f25 k26 f26):p:=h
def qI(h:p:=by
 have k20:=aa b2 k10;have k21:=aa b2 k11;have k22:=aa b2 k12;have k23:=aa b2 k13;have k24:=aa b2 k14;have k25:=aa b2 k15;have k26:=aa b2 k16;have k27:=aa b2 k17;have h2:=h1.trans (b2.mono h1.size);exact qsE k20 k21 k22 k23 k24 k25 k26 k27 h2):p:=h
def qJ(h:p:=by exact (bq (B:=w.heap.size) (fun j hv=>b3.frozen (show w.heap.size≠R by omega) qnt qnq) kf20 kf21 kf22 kf23 kf24 kf25 kf26 kf27)):p:=h
def qK(h:p:=by
 have p0:w1.cell? ⟨w.heap.size,0,none⟩=some (.int .i64 0):=aa hb1 qnp;have p1:w1.cell? ⟨w.heap.size,1,none⟩=some (.int .i64 0):=aa hb1 qnp;have p2:w1.cell? ⟨w.heap.size,2,none⟩=some (.int .i64 0):=aa hb1 qnp;have p3:w1.cell? ⟨w.heap.size,3,none⟩=some (.int .i64 0):=aa hb1 qnp;have p4:w1.cell? ⟨w.heap.size,4,none⟩=some (.int .i64 0):=aa hb1 qnp;have p5:w1.cell? ⟨w.heap.size,5,none⟩=some (.int .i64 0):=aa hb1 qnp;have p6:w1.cell? ⟨w.heap.size,6,none⟩=some (.string ⟨#[]⟩):=aa hb1 qnp;have p7:w1.cell? ⟨w.heap.size,7,none⟩=some (.slice none 0 0):=aa hb1 qnp;have f0:=ah hb1 0;have f1:=ah hb1 1;have f2:=ah hb1 2;have f3:=ah hb1 3;have f4:=ah hb1 4;have f5:=ah hb1 5;exact qsv p0 p1 p2 p3 p4 p5 p6 p7 f0 f1 f2 f3 f4 f5):p:=h
def qL(h:p:=by
 have t60:=b6.cell (show w.heap.size≠w5.heap.size by omega) (ai t0 _);have t61:=b6.cell (show w.heap.size≠w5.heap.size by omega) (ai t1 _);have t62:=b6.cell (show w.heap.size≠w5.heap.size by omega) (ai t2 _);have t63:=b6.cell (show w.heap.size≠w5.heap.size by omega) (ai t3 _);have t64:=b6.cell (show w.heap.size≠w5.heap.size by omega) (ai t4 _);have t65:=b6.cell (show w.heap.size≠w5.heap.size by omega) (ai t5 _);have t66:=b6.cell (show w.heap.size≠w5.heap.size by omega) (ai t6 _);have t67:=b6.cell (show w.heap.size≠w5.heap.size by omega) (ai t7 _);have tf6:=b6.cell (show w.heap.size+1≠w5.heap.size by omega) (ai tf _);have te6:=b6.cell (show w.heap.size+1+1≠w5.heap.size by omega) (ai te _);have tz6:∀j,w6.frozen? ⟨w.heap.size,j,none⟩=false:=fun j=>b6.frozen (show w.heap.size≠w5.heap.size by omega) qnu (aF (tz j) qoq _)
 have fz6:=b6.frozen (show w.heap.size+1≠w5.heap.size by omega) qnu (aF fz qoq _);have ez6:=b6.frozen (show w.heap.size+1+1≠w5.heap.size by omega) qnu (aF ez qoq _);have HB6:Hid (Below base w w6):=qf (HB5.out.trans ((qb.alloc qoq _).trans (b6.below qoq qnu)));exact qsv t60 t61 t62 t63 t64 t65 t66 t67 tf6 te6 tz6 fz6 ez6 HB6):p:=h
def qM(h:p:=by exact (show Below (w.heap.size+1+1) ((w.alloc (.cells #[.int .i64 t.kY,.int .i64 t.num,.int .i64 t.c1,.int .i64 t.r1,.int .i64 t.c2,.int .i64 t.r2,.string ⟨t.wZ.toArray⟩,.slice (some ⟨g,o,none⟩) t.kZ.length cap] 33)).alloc (.cells #[.int .i64 0,.int .i64 0] 61)) ((w.alloc (.cells #[.int .i64 t.kY,.int .i64 t.num,.int .i64 t.c1,.int .i64 t.r1,.int .i64 t.c2,.int .i64 t.r2,.string ⟨t.wZ.toArray⟩,.slice (some ⟨g,o,none⟩) t.kZ.length cap] 33)).alloc (.cells #[.int .i64 0,.int .i64 0] 61)) from qb)):p:=h
def qN(h:p:=by
 have hB6:=hB5.out.trans (b6.mono qoq);have r0:w6.cell? ⟨w.heap.size+1+1,0,none⟩=some (.int .i64 0):=by rw [hB6.cell qns];simp [go_sem]
 have r1:w6.cell? ⟨w.heap.size+1+1,1,none⟩=some (.int .i64 0):=by rw [hB6.cell qns];simp [go_sem]
 have f0:w6.frozen? ⟨w.heap.size+1+1,0,none⟩=false:=by rw [hB6.frozen qns];simp [go_sem]
 have f1:w6.frozen? ⟨w.heap.size+1+1,1,none⟩=false:=by rw [hB6.frozen qns];simp [go_sem]
 have z2:w.heap.size+1+1<w6.heap.size:=by have:=hB6.size;simp at this;omega
 have hb6:Below w.heap.size w w6:=hbw.trans (b6.mono hbw.size);exact qsw hB6 r0 r1 f0 f1 z2 hb6):p:=h
def qO(h:p:=by
 have t0:=hg5.cell (a:=⟨w.heap.size,0,none⟩) (v:=.int .i64 0) qnp (hne _ qoo);have t1:=hg5.cell (a:=⟨w.heap.size,1,none⟩) (v:=.int .i64 0) qnp (hne _ qoo);have t2:=hg5.cell (a:=⟨w.heap.size,2,none⟩) (v:=.int .i64 0) qnp (hne _ qoo);have t3:=hg5.cell (a:=⟨w.heap.size,3,none⟩) (v:=.int .i64 0) qnp (hne _ qoo);have t4:=hg5.cell (a:=⟨w.heap.size,4,none⟩) (v:=.int .i64 0) qnp (hne _ qoo);have t5:=hg5.cell (a:=⟨w.heap.size,5,none⟩) (v:=.int .i64 0) qnp (hne _ qoo);have t6:=hg5.cell (a:=⟨w.heap.size,6,none⟩) (v:=.string ⟨#[]⟩) qnp (hne _ qoo);have t7:=hg5.cell (a:=⟨w.heap.size,7,none⟩) (v:=.slice none 0 0) qnp (hne _ qoo);have tf:=hg5.cell (a:=⟨w.heap.size+1,0,none⟩) (v:=.int .i64 0) qnp (hne _ qoo);have te:=hg5.cell (a:=⟨w.heap.size+1+1,0,none⟩) (v:=.int .i64 0) qnp (hne _ qor);exact qsx t0 t1 t2 t3 t4 t5 t6 t7 tf te):p:=h
def qP(h:p:=by
 have HR:=qf hr;have HT:=qf hk;have hlt:R<w.heap.size:=hr.lt;have nk:w.heap.size≠R:=by omega
 exact qsC HR HT hlt nk):p:=h
def qQ(h:p:=by exact (show Below (w.heap.size+1+1) ((w.alloc (.cells (Ku.k t A cap) 33)).alloc (.cells #[.int .i64 0,.int .i64 0] 61)) ((w.alloc (.cells (Ku.k t A cap) 33)).alloc (.cells #[.int .i64 0,.int .i64 0] 61)) from qb)):p:=h
def qR(h:p:=by exact (bt (B:=w.heap.size) (fun j v hv=>b3.cell (show w.heap.size≠R by omega) qnj) k20 k21 k22 k23 k24 k25 k26 k27)):p:=h
def qS(h:p:=by
 have a10:=aa b1 (p:=⟨w.heap.size,0,none⟩) (v:=.int .i64 n) qnp;have a11:=aa b1 (p:=⟨w.heap.size,1,none⟩) (v:=.int .i64 f) qnp;have c10:=aa b1 (p:=⟨w.heap.size+1,0,none⟩) (v:=.int .i64 m) qnp;have c11:=aa b1 (p:=⟨w.heap.size+1,1,none⟩) (v:=.int .i64 g) qnp;have k10:=aa b1 (p:=⟨w.heap.size+1+1,0,none⟩) (v:=.int .i64 0) qnp;have f10:=ae b1 (p:=⟨w.heap.size+1+1,0,none⟩) qns qnp;have k11:=aa b1 (p:=⟨w.heap.size+1+1,1,none⟩) (v:=.int .i64 0) qnp;have f11:=ae b1 (p:=⟨w.heap.size+1+1,1,none⟩) qns qnp;have h1:Below w.heap.size w w1:=((qa.alloc qns _).alloc qnu _).trans (b1.mono qnu);have z1:w.heap.size+1+1<w1.heap.size:=Lib.lt_of_cell k10;have y1:w.heap.size+1<w1.heap.size:=by omega
 have x1:w.heap.size<w1.heap.size:=by omega
 exact qsD a10 a11 c10 c11 k10 f10 k11 f11 h1 z1 y1 x1):p:=h
def qU(h:p:=by
 have nK:w.heap.size≠w1.heap.size:=by omega
 have zK2:w.heap.size<w2.heap.size:=by omega
 have HB3:Hid (But w1.heap.size w w3):=qf (HB2.out.trans b3);have z3:w1.heap.size<w3.heap.size:=Nat.lt_of_lt_of_le z2 b3.size;have zK3:w.heap.size<w3.heap.size:=by omega
 have HK3:Hid (C8 w3 w.heap.size (.int .i64 0) (.int .i64 0) (.int .i64 0) (.int .i64 0) (.int .i64 0) (.int .i64 0) (.string ⟨#[]⟩) (.slice none 0 0)/\F8 w3 w.heap.size):=qf ⟨du (fun q v hv=>b3.cell nK hv) HK2.out.1,ed (fun q hv=>b3.frozen nK zK2 hv) HK2.out.2⟩;have HT3:Hid (TK w3 w1.heap.size A L):=qf (HT2.out.but b3);have z23:w2.heap.size<=w3.heap.size:=b3.size;have HV3:=qf v3;exact qsE nK zK2 HB3 z3 zK3 HK3 HT3 z23 HV3):p:=h
def qV(h:p:=by
 have Ht7:C8 w7 (w.heap.size) (.int .i64 x0) (.int .i64 x1) (.int .i64 x2) (.int .i64 x3) (.int .i64 x4) (.int .i64 x5) (.string xw) (.slice xA xl xc):=by refine ⟨?_,?_,?_,?_,?_,?_,?_,?_⟩<;>exact b7.cell (show w.heap.size≠w5.heap.size by omega) (by simp [go_sem,t60,t61,t62,t63,t64,t65,t66,t67])
 obtain ⟨t70,t71,t72,t73,t74,t75,t76,t77⟩:=Ht7;have tf7:=b7.cell (show w.heap.size+1≠w5.heap.size by omega) (show (((((((((w6).setCell ⟨w.heap.size,0,none⟩ (.int .i64 x0)).setCell ⟨w.heap.size,1,none⟩ (.int .i64 x1)).setCell ⟨w.heap.size,2,none⟩ (.int .i64 x2)).setCell ⟨w.heap.size,3,none⟩ (.int .i64 x3)).setCell ⟨w.heap.size,4,none⟩ (.int .i64 x4)).setCell ⟨w.heap.size,5,none⟩ (.int .i64 x5)).setCell ⟨w.heap.size,6,none⟩ (.string xw)).setCell ⟨w.heap.size,7,none⟩ (.slice xA xl xc)).cell? ⟨w.heap.size+1,0,none⟩=some (.int .i64 0) by (with_reducible repeat' (first|exact tf6|refine zCs ?_ qoq _ _)));have te7:=b7.cell (show w.heap.size+1+1≠w5.heap.size by omega) (show (((((((((w6).setCell ⟨w.heap.size,0,none⟩ (.int .i64 x0)).setCell ⟨w.heap.size,1,none⟩ (.int .i64 x1)).setCell ⟨w.heap.size,2,none⟩ (.int .i64 x2)).setCell ⟨w.heap.size,3,none⟩ (.int .i64 x3)).setCell ⟨w.heap.size,4,none⟩ (.int .i64 x4)).setCell ⟨w.heap.size,5,none⟩ (.int .i64 x5)).setCell ⟨w.heap.size,6,none⟩ (.string xw)).setCell ⟨w.heap.size,7,none⟩ (.slice xA xl xc)).cell? ⟨w.heap.size+1+1,0,none⟩=some (.int .i64 0) by (with_reducible repeat' (first|exact te6|refine zCs ?_ qoq _ _)));have tz7:∀j,w7.frozen? ⟨w.heap.size,j,none⟩=false:=fun j=>b7.frozen (show w.heap.size≠w5.heap.size by omega) qnu (by simp [tz6])
 have fz7:w7.frozen? ⟨w.heap.size+1,0,none⟩=false:=b7.frozen (show w.heap.size+1≠w5.heap.size by omega) qnu (by simp [fz6]);have ez7:w7.frozen? ⟨w.heap.size+1+1,0,none⟩=false:=b7.frozen (show w.heap.size+1+1≠w5.heap.size by omega) qnu (by simp [ez6]);have hl7:=b7.size;exact qsv t70 t71 t72 t73 t74 t75 t76 t77 tf7 te7 tz7 fz7 ez7 hl7):p:=h
def qW(h:p:=by
 have k10:w1.cell? ⟨w.heap.size,0,none⟩=some (.int .i64 0):=b1.cell (show w.heap.size≠R by omega) qnp;have k11:w1.cell? ⟨w.heap.size,1,none⟩=some (.int .i64 0):=b1.cell (show w.heap.size≠R by omega) qnp;have k12:w1.cell? ⟨w.heap.size,2,none⟩=some (.int .i64 0):=b1.cell (show w.heap.size≠R by omega) qnp;have k13:w1.cell? ⟨w.heap.size,3,none⟩=some (.int .i64 0):=b1.cell (show w.heap.size≠R by omega) qnp;have k14:w1.cell? ⟨w.heap.size,4,none⟩=some (.string ⟨#[]⟩):=b1.cell (show w.heap.size≠R by omega) qnp;have k15:w1.cell? ⟨w.heap.size,5,none⟩=some (.int .i64 0):=b1.cell (show w.heap.size≠R by omega) qnp;have kf10:w1.frozen? ⟨w.heap.size,0,none⟩=false:=b1.frozen (show w.heap.size≠R by omega) qnt qnp;have kf11:w1.frozen? ⟨w.heap.size,1,none⟩=false:=b1.frozen (show w.heap.size≠R by omega) qnt qnp;have kf12:w1.frozen? ⟨w.heap.size,2,none⟩=false:=b1.frozen (show w.heap.size≠R by omega) qnt qnp;have kf13:w1.frozen? ⟨w.heap.size,3,none⟩=false:=b1.frozen (show w.heap.size≠R by omega) qnt qnp;have kf14:w1.frozen? ⟨w.heap.size,4,none⟩=false:=b1.frozen (show w.heap.size≠R by omega) qnt qnp;have kf15:w1.frozen? ⟨w.heap.size,5,none⟩=false:=b1.frozen (show w.heap.size≠R by omega) qnt qnp;exact qsD k10 k11 k12 k13 k14 k15 kf10 kf11 kf12 kf13 kf14 kf15):p:=h
def qX(h:p:=by
 have HM:=qf (lN h);have s0:(t.kY==0)=false:=by rw [h];rfl
 have s1:(t.kY==1)=false:=by rw [h];rfl
 have s2:(t.kY==2)=false:=by rw [h];rfl
 have s6:(t.kY==6)=false:=by rw [h];rfl
 have s3:(t.kY==3)=false:=by rw [h];rfl
 have s4:(t.kY==4)=false:=by rw [h];rfl
 have s5:(t.kY==5)=true:=by rw [h];rfl
 exact qsz HM s0 s1 s2 s6 s3 s4 s5):p:=h
def qY(h:p:=by
 have hB2:aP (fun k=>k=b1\/k=b2) w w2:=((aP.of_below (HW0.out.trans (hb1.mono HW0.out.size))).trans (aP.of_below (hd1.mono qd))).trans (hbu2.mono fun k e=>.inl e);have hz12:w1.heap.size=w2.heap.size:=hz2.symm;have hzz:=hb1.size;have p22:w2.cell? ⟨w.heap.size,2,none⟩=some (.string ⟨tx.toArray⟩):=hbu2.cell (by show ¬(w.heap.size=b1);omega) (aa hd1 p21);have HE2:Hid (cz w2):=qf (HEB.out w2 hB2);have HC1:=qf (fun W (hb:Below w1.heap.size w1 W)=>(show W.cell? ⟨S,0,none⟩=some (.map (some b1))/\W.cell? ⟨w.heap.size,2,none⟩=some (.string ⟨tx.toArray⟩) from ⟨(hs1.below hb).c0,aa hb p21⟩));have hcc2:w2.cell? ⟨S,0,none⟩=some (.map (some b1))/\w2.cell? ⟨w.heap.size,2,none⟩=some (.string ⟨tx.toArray⟩):=⟨hs2.c0,p22⟩;have HB2:=qf hB2;have HS2:=qf hs2;exact qsE hB2 hz12 hzz p22 HE2 HC1 hcc2 HB2 HS2):p:=h
def qZ(h:p:=by
 have hne:w.heap.size≠b:=by have:=HW.out.lt;omega
 have hb0:(w.alloc (.cells (Ku.k t A ca) 33)).heap[w.heap.size]? =some (.cells (Ku.k t A ca) 33):=heap_alloc_new w _;have HW0:=qf (HW.out.alloc (.cells (Ku.k t A ca) 33));have OK0:Hid (Lib.OthersKept 5 (some b) w (w.alloc (.cells (Ku.k t A ca) 33))):=qf (dD qa);have s0:w.heap.size<=(w.alloc (.cells (Ku.k t A ca) 33)).heap.size:=by simp
 have S0:=qf s0;exact qsy hne hb0 HW0 OK0 s0 S0):p:=h
def qab(h:p:=by exact (show Below w.heap.size w w1 from qa.trans (b1.mono qns))):p:=h
def qac(h:p:=by
 have zk2:w.heap.size<w2.heap.size:=by have:=b2.size;first|omega|(simp at this;omega)
 have Hk2:=bt (B:=w.heap.size) (fun j v hv=>b2.cell nk qnj) k10 k11 k12 k13 k14 k15 k16 k17;obtain ⟨k20,k21,k22,k23,k24,k25,k26,k27⟩:=Hk2;have Hkf2:=bq (B:=w.heap.size) (fun j hv=>b2.frozen nk qnt qnq) kf10 kf11 kf12 kf13 kf14 kf15 kf16 kf17;obtain ⟨kf20,kf21,kf22,kf23,kf24,kf25,kf26,kf27⟩:=Hkf2;have y2:w.heap.size<w2.heap.size:=zk2;exact qst zk2 k20 k21 k22 k23 k24 k25 k26 k27 kf20 kf21 kf22 kf23 kf24 kf25 kf26 kf27 y2):p:=h
def qad(h:p:=by
 have y1:w.heap.size<=w1.heap.size:=h1.size;have zk1:w.heap.size<w1.heap.size:=by have:=b1.size;first|omega|(simp at this;omega)
 exact show _/\_ from ⟨y1,zk1⟩):p:=h
def qae(h:p:=by
 have h3:But R w w3:=But.trans (have hv:=h2;qni) b3;have y3:w.heap.size<=w3.heap.size:=h3.size;have zk3:w.heap.size<w3.heap.size:=by have:=b3.size;first|omega|(simp at this;omega)
 exact qsF h3 y3 zk3):p:=h
def qaf(h:p:=by
 have Hk1:C8 w1 (w.heap.size) (.int .i64 0) (.int .i64 0) (.int .i64 0) (.int .i64 0) (.int .i64 0) (.int .i64 0) (.string ⟨#[]⟩) (.slice none 0 0):=by refine ⟨?_,?_,?_,?_,?_,?_,?_,?_⟩<;>exact b1.cell nk qnp
 obtain ⟨k10,k11,k12,k13,k14,k15,k16,k17⟩:=Hk1;have Hkf1:F8 w1 (w.heap.size):=by refine ⟨?_,?_,?_,?_,?_,?_,?_,?_⟩<;>exact b1.frozen nk qnt qnp
 obtain ⟨kf10,kf11,kf12,kf13,kf14,kf15,kf16,kf17⟩:=Hkf1;have y1:w.heap.size<w1.heap.size:=zk1;exact qsG k10 k11 k12 k13 k14 k15 k16 k17 kf10 kf11 kf12 kf13 kf14 kf15 kf16 kf17 y1):p:=h
def qag(h:p:=by
 have k20:=aa b2 k10;have k21:=aa b2 k11;have k22:=aa b2 k12;have k23:=aa b2 k13;have k24:=aa b2 k14;have k25:=aa b2 k15;have f20:=ae b2 z1 f10;have f21:=ae b2 z1 f11;have f22:=ae b2 z1 f12;have f23:=ae b2 z1 f13;have f24:=ae b2 z1 f14;have f25:=ae b2 z1 f15;have h2:=h1.trans (b2.mono h1.size);have z2:w.heap.size<w2.heap.size:=Lib.lt_of_cell k20;exact qsv k20 k21 k22 k23 k24 k25 f20 f21 f22 f23 f24 f25 h2 z2):p:=h
def qah(h:p:=by
 have zk4:w.heap.size<w4.heap.size:=by omega
 have zo4:w1.heap.size<w4.heap.size:=by omega
 have Hk4:=bt (B:=w.heap.size) (fun j v hv=>b4.cell (show w.heap.size≠R by omega) (sM hv)) k30 k31 k32 k33 k34 k35 k36 k37;obtain ⟨k40,k41,k42,k43,k44,k45,k46,k47⟩:=Hk4;have Hkf4:=bq (B:=w.heap.size) (fun j hv=>b4.frozen (show w.heap.size≠R by omega) zk3 (se hv)) kf30 kf31 kf32 kf33 kf34 kf35 kf36 kf37;obtain ⟨kf40,kf41,kf42,kf43,kf44,kf45,kf46,kf47⟩:=Hkf4;have Ho4:=bt (B:=w1.heap.size) (fun j v hv=>b4.cell (show w1.heap.size≠R by omega) (sM hv)) o30 o31 o32 o33 o34 o35 o36 o37;obtain ⟨o40,o41,o42,o43,o44,o45,o46,o47⟩:=Ho4;have Hof4:=bq (B:=w1.heap.size) (fun j hv=>b4.frozen (show w1.heap.size≠R by omega) zo3 (se hv)) of30 of31 of32 of33 of34 of35 of36 of37;obtain ⟨of40,of41,of42,of43,of44,of45,of46,of47⟩:=Hof4;have HO4:Hid (TV w4 (fun b=>w.heap.size<b/\b≠w1.heap.size) ⟨c0,c1,c2,c3,c4,c5,cw,cA,cl,cc⟩ (some t)):=qf (HO3.out.kept (Kept.but ((Kept.refl _ _).drew) b4 fun h=>by have:=h.1;omega));have HV4:Hid (TV w4 (fun b=>w.heap.size<b/\b≠w1.heap.size) ⟨f0,f1,f2,f3,f4,f5,fw,fA,fl,fc⟩ (some t2)):=qf (v4.imp fun b hb=>by have hb2:w3.heap.size<=b:=hb;exact ⟨qoq,qoq⟩);exact qsH zk4 zo4 k40 k41 k42 k43 k44 k45 k46 k47 kf40 kf41 kf42 kf43 kf44 kf45 kf46 kf47 o40 o41 o42 o43 o44 o45 o46 o47 of40 of41 of42 of43 of44 of45 of46 of47 HO4 HV4):p:=h
def qai(h:p:=by
 have c0:w5.cell? ⟨w.heap.size,0,none⟩=some (.map (some b)):=by rw [hB5.out.cell qnV];simp [go_sem]
 have c1:w5.cell? ⟨w.heap.size+1,0,none⟩=some (.slice A t.kZ.length cap):=by rw [hB5.out.cell qnV];simp [go_sem]
 have hbw:Below w.heap.size w w5:=((qa.alloc qns _).alloc qnu _).trans (hB5.out.mono qoq);exact qsF c0 c1 hbw):p:=h
def qaj(h:p:=by
 have f10:=ah b1 0;have k11:=af b1 1 (v:=.int .i64 0) rfl;have f11:=ah b1 1;have k12:=af b1 2 (v:=.int .i64 0) rfl;have f12:=ah b1 2;have k13:=af b1 3 (v:=.int .i64 0) rfl;have f13:=ah b1 3;have k14:=af b1 4 (v:=.int .i64 0) rfl;have f14:=ah b1 4;have k15:=af b1 5 (v:=.int .i64 0) rfl;have f15:=ah b1 5;have k16:=af b1 6 (v:=.string ⟨#[]⟩) rfl;have f16:=ah b1 6;have k17:=af b1 7 (v:=.slice none 0 0) rfl;exact qsv f10 k11 f11 k12 f12 k13 f13 k14 f14 k15 f15 k16 f16 k17):p:=h
def qak(h:p:=by
 have hs3:W3.heap.size=w.heap.size+1+1+1:=by rw [hW3];simp
 have hown0:(W3.alloc (.map #[] 0)).ownsMap Tryz.prog 9 (jw #[.pointer (some ⟨w.heap.size,0,none⟩),.pointer (some ⟨w.heap.size+1,0,none⟩)]) (w.heap.size+1+1+1) 0 (.map []):=by rw [<-hs3];exact World.ownsMap_made W3 Tryz.prog 9 _
 have hb0:Below (w.heap.size+1+1+1) W3 (W3.alloc (.map #[] 0)):=by rw [<-hs3];exact qa
 exact qsF hs3 hown0 hb0):p:=h
def qal(h:p:=by
 have hw:IntKind.i32.wrap ((s[0]'h0).toNat:Int)=((s[0]'h0).toNat:Int):=by have:=(s[0]'h0).toNat_lt;simp only [IntKind.wrap_i32];omega
 have g0:=bV s 0 h0;have F1:=iK (s[0]'h0);have F2:=oE (s[0]'h0);exact qsC hw g0 F1 F2):p:=h
def qam(h:p:=by exact (show Hid (C8 w1 w.heap.size (.int .i64 0) (.int .i64 0) (.int .i64 0) (.int .i64 0) (.int .i64 0) (.int .i64 0) (.string ⟨#[]⟩) (.slice none 0 0)/\F8 w1 w.heap.size) from qf ⟨⟨af b1 0 rfl,af b1 1 rfl,af b1 2 rfl,af b1 3 rfl,af b1 4 rfl,af b1 5 rfl,af b1 6 rfl,af b1 7 rfl⟩,ah b1 0,ah b1 1,ah b1 2,ah b1 3,ah b1 4,ah b1 5,ah b1 6,ah b1 7⟩)):p:=h
def qan(h:p:=by
 have H1:=qf F1;have H3:=qf F2;have P:=dy s ⟨#[35,82,69,70]⟩;have pr:=KD s.data.toList;have hf2:isFig (s.data.toList.getD 0 0)=false:=by rw [g0];exact hf
 have hl2:dN (s.data.toList.getD 0 0)=false:=by rw [g0];exact hl
 exact qsy H1 H3 P pr hf2 hl2):p:=h
def qao(h:p:=by
 have zt2:w.heap.size+1<w2.heap.size:=by have:=b2.size;first|omega|(simp at this;omega)
 have Ht2:=bt (B:=w.heap.size+1) (fun j v hv=>b2.cell (show w.heap.size+1≠R by omega) qnj) t10 t11 t12 t13 t14 t15 t16 t17;obtain ⟨t20,t21,t22,t23,t24,t25,t26,t27⟩:=Ht2;have Htf2:=bq (B:=w.heap.size+1) (fun j hv=>b2.frozen (show w.heap.size+1≠R by omega) qnt qnq) tf10 tf11 tf12 tf13 tf14 tf15 tf16 tf17;exact qsx zt2 t20 t21 t22 t23 t24 t25 t26 t27 Htf2):p:=h
def qap(h:p:=by
 have k0:=aa b1 (p:=⟨w.heap.size+1+1,0,none⟩) (v:=.int .i64 0) qnp;have k1:=aa b1 (p:=⟨w.heap.size+1+1,1,none⟩) (v:=.int .i64 0) qnp;have k2:=aa b1 (p:=⟨w.heap.size+1+1,2,none⟩) (v:=.int .i64 0) qnp;have k3:=aa b1 (p:=⟨w.heap.size+1+1,3,none⟩) (v:=.int .i64 0) qnp;have k4:=aa b1 (p:=⟨w.heap.size,0,none⟩) (v:=.int .i64 a) qnp;have k5:=aa b1 (p:=⟨w.heap.size,1,none⟩) (v:=.int .i64 b) qnp;have k6:=aa b1 (p:=⟨w.heap.size+1,0,none⟩) (v:=.int .i64 c) qnp;have k7:=aa b1 (p:=⟨w.heap.size+1,1,none⟩) (v:=.int .i64 d) qnp;have f0:=ae b1 (p:=⟨w.heap.size+1+1,0,none⟩) qns qnp;have f1:=ae b1 (p:=⟨w.heap.size+1+1,1,none⟩) qns qnp;have f2:=ae b1 (p:=⟨w.heap.size+1+1,2,none⟩) qns qnp;have f3:=ae b1 (p:=⟨w.heap.size+1+1,3,none⟩) qns qnp;have z1:w.heap.size+1+1<w1.heap.size:=by have:=b1.size;simp at this;omega
 have h1:Below w.heap.size w w1:=((qa.alloc qns _).alloc qnu _).trans (b1.mono qnu);exact qsv k0 k1 k2 k3 k4 k5 k6 k7 f0 f1 f2 f3 z1 h1):p:=h
def qaq(h:p:=by
 have zo3:w1.heap.size<w3.heap.size:=by have:=b3.size;first|omega|(simp at this;omega)
 have Ho3:=bt (B:=w1.heap.size) (fun j v hv=>b3.cell (show w1.heap.size≠R by omega) qnj) o20 o21 o22 o23 o24 o25 o26 o27;obtain ⟨o30,o31,o32,o33,o34,o35,o36,o37⟩:=Ho3;have Hof3:=bq (B:=w1.heap.size) (fun j hv=>b3.frozen (show w1.heap.size≠R by omega) qnt qnq) of20 of21 of22 of23 of24 of25 of26 of27;exact qsx zo3 o30 o31 o32 o33 o34 o35 o36 o37 Hof3):p:=h
def qar(h:p:=by
 have HR2:Hid (RL w2 R g cap B L E q):=qf r2;have HVx2:Hid (TV w2 (fun b=>w.heap.size<b) ⟨x0,x1,x2,x3,x4,x5,xw,xA,xl,xc⟩ (some t)):=qf (v2.imp fun b hb=>by have hb2:_<=b:=hb;first|omega|(simp at hb2;omega));exact show _/\_ from ⟨HR2,HVx2⟩):p:=h
def qas(h:p:=by exact (show Hid (RS (w2.setCell ⟨R,1,none⟩ (.int .i64 ((p:Int)+1))) R A cap L E (.run (p+1))) from qf (HR2.out.step hp qoq))):p:=h
def qau(h:p:=by
 have hN:=qf (fun w hr=>pS (w:=w) (R:=R) (g:=g) (cap:=cap) (B:=B) (L:=L) (E:=E) (p:=p) hL hc hr hm);have hT:=qf (iR hG E (p+1) (s:=[58]) qnv qnv);have hl:=mF hm;exact qsF hN hT hl):p:=h
def qav(h:p:=by
 have HR:=qf hr;have lR:=hr.lo.1;have lB:=hr.lo.2.2;exact qsF HR lR lB):p:=h
def qaw(h:p:=by exact (show ∀(fn:Fn) (first cap:Array Value) (w:World),(Instr.makeFunc fn first cap).run Tryz.prog w=.ok (.func fn first cap) w from fun _ _ _ _=>rfl)):p:=h
def qax(h:p:=by
 have HB2:Hid (But w1.heap.size w w2):=qf ((But.of_below H1.out).trans (But.of_below hb2));have HK2:Hid (C8 w2 w.heap.size (.int .i64 0) (.int .i64 0) (.int .i64 0) (.int .i64 0) (.int .i64 0) (.int .i64 0) (.string ⟨#[]⟩) (.slice none 0 0)/\F8 w2 w.heap.size):=qf ⟨du (fun q v hv=>aa hb2 hv) HK1.out.1,ed (fun q hv=>ae hb2 z1 hv) HK1.out.2⟩;exact show _/\_ from ⟨HB2,HK2⟩):p:=h
def qaz(h:p:=by exact (show w.heap.size<w1.heap.size from by have:=b1.size;simp at this;omega)):p:=h
def qaA(h:p:=by
 have p26:w6.cell? ⟨w.heap.size,2,none⟩=some (.string ⟨tx.toArray⟩):=hbu6.cell (by show ¬(w.heap.size=b2);omega) (aa hd5 (aa hb35 p23));have s0:=hbu6.cell (p:=⟨w4.heap.size,0,none⟩) qod (aa hd5 t0);have s1:=hbu6.cell (p:=⟨w4.heap.size,1,none⟩) qod (aa hd5 t1);have s2:=hbu6.cell (p:=⟨w4.heap.size,2,none⟩) qod (aa hd5 t2);have s3:=hbu6.cell (p:=⟨w4.heap.size,3,none⟩) qod (aa hd5 t3);have s4:=hbu6.cell (p:=⟨w4.heap.size,4,none⟩) qod (aa hd5 t4);have s5:=hbu6.cell (p:=⟨w4.heap.size,5,none⟩) qod (aa hd5 t5);have s6:=hbu6.cell (p:=⟨w4.heap.size,6,none⟩) qod (aa hd5 t6);have s7:=hbu6.cell (p:=⟨w4.heap.size,7,none⟩) qod (aa hd5 t7);exact qsE p26 s0 s1 s2 s3 s4 s5 s6 s7):p:=h
def qaB(h:p:=by
 have k0:=aa b1 (p:=⟨w.heap.size,0,none⟩) (v:=.int .i64 0) qnp;have k1:=aa b1 (p:=⟨w.heap.size,1,none⟩) (v:=.int .i64 0) qnp;have f0:=ae b1 (p:=⟨w.heap.size,0,none⟩) qns qnp;have f1:=ae b1 (p:=⟨w.heap.size,1,none⟩) qns qnp;exact qsC k0 k1 f0 f1):p:=h
def qaC(h:p:=by
 have hb2:Below w1.heap.size w1 w2:=by rw [hw2];exact qa
 have HR2:Hid (RS w2 w1.heap.size A cap L s.size (.run 0)):=qf (by rw [hw2];exact ⟨qe,0,⟨qnp,qnp,qnp,qnp,qnp,qnp,qnp,qnp⟩⟩);have z2:w1.heap.size<w2.heap.size:=by rw [hw2];simp
 exact qsF hb2 HR2 z2):p:=h
def qaD(h:p:=by
 have HN:=qf hN;have HK:=qf hk;have hM:=qf (fun w hr=>jE (w:=w) (R:=R) (g:=g) (cap:=cap) (B:=B) (L:=L) (E:=E) (p:=p) hL hc hG ⟨#[40]⟩ qnv qnv hr hm);have hMon:=qf (fun w q hr hm=>jE (w:=w) (R:=R) (g:=g) (cap:=cap) (B:=B) (L:=L) (E:=E) (p:=q) hL hc hG ⟨#[41]⟩ qnv qnv hr hm);have hMoff:=qf (fun w q hr hm=>i7 (w:=w) (R:=R) (g:=g) (cap:=cap) (B:=B) (L:=L) (E:=E) (p:=q) hL hc hG ⟨#[41]⟩ qnv qnv hr hm);exact qsB HN HK hM hMon hMoff):p:=h
def qaE(h:p:=by exact (show But R w w1 from But.trans qno (But.of_below b1))):p:=h
def qaF(h:p:=by
 have t60:(((s[p]'h).toNat:Int)==60)=false:=aI (k:=60) q60;have t62:(((s[p]'h).toNat:Int)==62)=false:=aI (k:=62) q62;have t43:(((s[p]'h).toNat:Int)==43)=false:=aI (k:=43) q43;exact qsF t60 t62 t43):p:=h
def qaG(h:p:=by
 have t40:(((s[p]'h).toNat:Int)==40)=false:=aI (k:=40) q40;have t41:(((s[p]'h).toNat:Int)==41)=false:=aI (k:=41) q41;have t44:(((s[p]'h).toNat:Int)==44)=false:=aI (k:=44) q44;exact qsF t40 t41 t44):p:=h
def qaH(h:p:=by
 have zc:Bc<w.heap.size:=Lib.lt_of_cell c0;have zk:Bk<w.heap.size:=Lib.lt_of_cell c1;have hlt:=ge.len;have hb0:Below (w.heap.size+1) (w.alloc (.cells #[.int .i64 0,.int .i64 0] 61)) (w.alloc (.cells #[.int .i64 0,.int .i64 0] 61)):=qb;exact qsC zc zk hlt hb0):p:=h
def qaI(h:p:=by
 have HR3:Hid (RL w3 R g cap B L E (q+1)):=qf r3;have HL3:Hid (KLc w3 (fun b=>w.heap.size+1<b) ks g0 0):=qf (KLc.stay (Kept.but qnF b3 (by show ¬(w.heap.size+1<R);omega)) hg0' HL2.out);have hg3:g0<w3.heap.size:=by have:=b3.size;first|omega|(simp at this;omega)
 exact qsF HR3 HL3 hg3):p:=h
def qaJ(h:p:=by
 have hb0:Below w.heap.size w w0:=by rw [<-hw0];exact qa
 have hz0:w0.heap.size=w.heap.size+1:=by rw [<-hw0];simp
 have p0:w0.cell? ⟨w.heap.size,0,none⟩=some (.int .i64 q.c):=by rw [<-hw0];simp [go_sem]
 have p1:w0.cell? ⟨w.heap.size,1,none⟩=some (.int .i64 q.r):=by rw [<-hw0];simp [go_sem]
 have p2:w0.cell? ⟨w.heap.size,2,none⟩=some (.string ⟨q.text.toArray⟩):=by rw [<-hw0];simp [go_sem]
 exact qsB hb0 hz0 p0 p1 p2):p:=h
def qaK(h:p:=by
 have o24:=lr.o4;have o25:=lr.o5;have o26:=lr.o6;have o27:=lr.o7;have of20:=lr.of0;have of21:=lr.of1;have of22:=lr.of2;have of23:=lr.of3;have of24:=lr.of4;have of25:=lr.of5;have of26:=lr.of6;have of27:=lr.of7;have no:w1.heap.size≠R:=by omega
 have nko:w1.heap.size≠w.heap.size:=by omega
 exact qsv o24 o25 o26 o27 of20 of21 of22 of23 of24 of25 of26 of27 no nko):p:=h
def qaL(h:p:=by
 have t60:(((s[p]'h).toNat:Int)==60)=true:=db (k:=60) q60;have t43:(((s[p]'h).toNat:Int)==43)=false:=aI (k:=43) qoP;have t45:(((s[p]'h).toNat:Int)==45)=false:=aI (k:=45) qoP;have t42:(((s[p]'h).toNat:Int)==42)=false:=aI (k:=42) qoP;have t47:(((s[p]'h).toNat:Int)==47)=false:=aI (k:=47) qoP;have t40:(((s[p]'h).toNat:Int)==40)=false:=aI (k:=40) qoP;have t41:(((s[p]'h).toNat:Int)==41)=false:=aI (k:=41) qoP;have t44:(((s[p]'h).toNat:Int)==44)=false:=aI (k:=44) qoP;have t58:(((s[p]'h).toNat:Int)==58)=false:=aI (k:=58) qoP;have t62:(((s[p]'h).toNat:Int)==62)=false:=aI (k:=62) qoP;exact qsx t60 t43 t45 t42 t47 t40 t41 t44 t58 t62):p:=h
def qaM(h:p:=by
 have k37:=aa b3 (ai k27 _);have f37:=ae b3 qnu (aF f27 z2 _);have q30:=af b3 0 (v:=.int .i64 t.kY) rfl;have q31:=af b3 1 (v:=.int .i64 t.num) rfl;have q32:=af b3 2 (v:=.int .i64 t.c1) rfl;have q33:=af b3 3 (v:=.int .i64 t.r1) rfl;have q34:=af b3 4 (v:=.int .i64 t.c2) rfl;have q35:=af b3 5 (v:=.int .i64 t.r2) rfl;have q36:=af b3 6 (v:=.string ⟨t.wZ.toArray⟩) rfl;have q37:=af b3 7 (v:=.slice A t.kZ.length cp) rfl;have h3:Below w.heap.size w w3:=(h2.alloc qoq _).trans (b3.mono qnu);have z3:w.heap.size<w3.heap.size:=by have:=b3.size;simp at this;omega
 have y3:w2.heap.size<w3.heap.size:=by have:=b3.size;simp at this;omega
 have HK3:=qf (HK.out.stay (w':=w3) (Kept.of_below (qa.trans (b3.mono qns))));exact qsv k37 f37 q30 q31 q32 q33 q34 q35 q36 q37 h3 z3 y3 HK3):p:=h
def qaN(h:p:=by
 have hb35:Below w3.heap.size w3 w5:=hb4.trans (b5.mono hb4.size);have HB5:Hid (But w1.heap.size w w5):=qf (HB3.out.trans (But.of_below hb35));have z45:=b5.size;have zK5:w.heap.size<w5.heap.size:=by omega
 have zX5:w3.heap.size<w5.heap.size:=by omega
 have HK5:Hid (C8 w5 w.heap.size (.int .i64 0) (.int .i64 0) (.int .i64 0) (.int .i64 0) (.int .i64 0) (.int .i64 0) (.string ⟨#[]⟩) (.slice none 0 0)/\F8 w5 w.heap.size):=qf ⟨du (fun q v hv=>aa hb35 hv) HK3.out.1,ed (fun q hv=>ae hb35 zK3 hv) HK3.out.2⟩;have HKV5:=qf (HKV.out.stay (Kept.of_below hb35));have HX5:C8 w5 w3.heap.size (.int .i64 t.kY) (.int .i64 t.num) (.int .i64 t.c1) (.int .i64 t.r1) (.int .i64 t.c2) (.int .i64 t.r2) (.string ⟨t.wZ.toArray⟩) (.slice cA t.kZ.length cc):=du (fun q v hv=>aa b5 hv) HX4.out;exact qsz hb35 HB5 z45 zK5 zX5 HK5 HKV5 HX5):p:=h
def qaO(h:p:=by
 have HR4:Hid (RS w4 R A cap L E (.run (p+2))):=qf (RS.below (have hv:=HR3.out;qnr) b4);have e4:iE L (.run (p+2))=true:=H2.out;have HS4:Hid (RS (w4.setCell ⟨R,1,none⟩ (.int .i64 ((p:Int)+2+1))) R A cap L E (.run (p+3))):=qf (HR4.out.step hp2 qoq);exact qsF HR4 e4 HS4):p:=h
def qaP(h:p:=by
 have y2:w.heap.size<=w2.heap.size:=h2.size;have zk2:w.heap.size<w2.heap.size:=by have:=b2.size;first|omega|(simp at this;omega)
 exact show _/\_ from ⟨y2,zk2⟩):p:=h
def qaQ(h:p:=by
 have zk1:w.heap.size<w1.heap.size:=by have:=b1.size;first|omega|(simp at this;omega)
 have Hk1:C8 w1 (w.heap.size) (.int .i64 0) (.int .i64 0) (.int .i64 0) (.int .i64 0) (.int .i64 0) (.int .i64 0) (.string ⟨#[]⟩) (.slice none 0 0):=by refine ⟨?_,?_,?_,?_,?_,?_,?_,?_⟩<;>exact (But.of_below b1).cell nk qnp
 obtain ⟨k10,k11,k12,k13,k14,k15,k16,k17⟩:=Hk1;have Hkf1:F8 w1 (w.heap.size):=by refine ⟨?_,?_,?_,?_,?_,?_,?_,?_⟩<;>exact (But.of_below b1).frozen nk qnt qnp
 obtain ⟨kf10,kf11,kf12,kf13,kf14,kf15,kf16,kf17⟩:=Hkf1;have y1:w.heap.size<w1.heap.size:=zk1;have HR1:Hid (RS w1 R A cap L E (.out x)):=qf (RS.below (have hv:=HR.out;qnl) b1);exact qsI zk1 k10 k11 k12 k13 k14 k15 k16 k17 kf10 kf11 kf12 kf13 kf14 kf15 kf16 kf17 y1 HR1):p:=h
def qaR(h:p:=by
 have h3:But R w w3:=But.trans (have hv:=h2;qni) (But.of_below b3);have zk3:w.heap.size<w3.heap.size:=by have:=b3.size;first|omega|(simp at this;omega)
 have Hk3:=bt (B:=w.heap.size) (fun j v hv=>(But.of_below b3).cell nk qnj) k20 k21 k22 k23 k24 k25 k26 k27;obtain ⟨k30,k31,k32,k33,k34,k35,k36,k37⟩:=Hk3;have Hkf3:=bq (B:=w.heap.size) (fun j hv=>(But.of_below b3).frozen nk qnt qnq) kf20 kf21 kf22 kf23 kf24 kf25 kf26 kf27;obtain ⟨kf30,kf31,kf32,kf33,kf34,kf35,kf36,kf37⟩:=Hkf3;have zo3:w1.heap.size<w3.heap.size:=by have:=b3.size;first|omega|(simp at this;omega)
 have Ho3:=bt (B:=w1.heap.size) (fun j v hv=>(But.of_below b3).cell no qnj) o20 o21 o22 o23 o24 o25 o26 o27;obtain ⟨o30,o31,o32,o33,o34,o35,o36,o37⟩:=Ho3;have Hof3:=bq (B:=w1.heap.size) (fun j hv=>(But.of_below b3).frozen no qnt qnq) of20 of21 of22 of23 of24 of25 of26 of27;obtain ⟨of30,of31,of32,of33,of34,of35,of36,of37⟩:=Hof3;have y3:w.heap.size<w3.heap.size:=zk3;exact qsH h3 zk3 k30 k31 k32 k33 k34 k35 k36 k37 kf30 kf31 kf32 kf33 kf34 kf35 kf36 kf37 zo3 o30 o31 o32 o33 o34 o35 o36 o37 of30 of31 of32 of33 of34 of35 of36 of37 y3):p:=h
def qaS(h:p:=by
 have zo2:w1.heap.size<w2.heap.size:=by have:=b2.size;first|omega|(simp at this;omega)
 have Ho2:C8 w2 (w1.heap.size) (.int .i64 a0) (.int .i64 a1) (.int .i64 a2) (.int .i64 a3) (.int .i64 a4) (.int .i64 a5) (.string aw) (.slice aA al ac):=by refine ⟨?_,?_,?_,?_,?_,?_,?_,?_⟩<;>exact (But.of_below b2).cell no qnp
 obtain ⟨o20,o21,o22,o23,o24,o25,o26,o27⟩:=Ho2;have y2:w.heap.size<w2.heap.size:=zk2;have HR2:Hid (RS w2 R A cap L E (.out x)):=qf (RS.below (have hv:=HR1.out;qnw) b2);exact qsJ zo2 o20 o21 o22 o23 o24 o25 o26 o27 y2 HR2):p:=h
def qaT(h:p:=by
 have t43:(((s[p]'h).toNat:Int)==43)=false:=aI (k:=43) qoQ;have t45:(((s[p]'h).toNat:Int)==45)=false:=aI (k:=45) qoQ;have t42:(((s[p]'h).toNat:Int)==42)=false:=aI (k:=42) qoQ;have t47:(((s[p]'h).toNat:Int)==47)=false:=aI (k:=47) qoQ;have t40:(((s[p]'h).toNat:Int)==40)=false:=aI (k:=40) qoQ;have t41:(((s[p]'h).toNat:Int)==41)=false:=aI (k:=41) qoQ;have t44:(((s[p]'h).toNat:Int)==44)=false:=aI (k:=44) qoQ;have t58:(((s[p]'h).toNat:Int)==58)=false:=aI (k:=58) qoQ;have t60:(((s[p]'h).toNat:Int)==60)=false:=aI (k:=60) q60;have t61:(((s[p]'h).toNat:Int)==61)=false:=aI (k:=61) qoQ;have t62:(((s[p]'h).toNat:Int)==62)=true:=db (k:=62) q62;exact qsJ t43 t45 t42 t47 t40 t41 t44 t58 t60 t61 t62):p:=h
def qaU(h:p:=by
 have a20:=aa b2 a10;have a21:=aa b2 a11;have c20:=aa b2 c10;have c21:=aa b2 c11;have k20:=aa b2 k10;have f20:=ae b2 z1 f10;have k21:=aa b2 k11;have f21:=ae b2 z1 f11;have h2:=h1.trans (b2.mono h1.size);have z2:w.heap.size+1+1<w2.heap.size:=Lib.lt_of_cell k20;have y2:w.heap.size+1<w2.heap.size:=by omega
 have x2:w.heap.size<w2.heap.size:=by omega
 exact qsD a20 a21 c20 c21 k20 f20 k21 f21 h2 z2 y2 x2):p:=h
def qaW(h:p:=by exact (qf (show cC (aD s.data.toList p)=.tuple #[.agg #[.int .i64 5,.int .i64 0,.int .i64 0,.int .i64 0,.string (s.extract p (p+1)),.int .i64 (p:Int)],.int .i64 1] from by rw [hO,if_neg hr,if_neg qow,hm,dv];rfl))):p:=h
def qaX(h:p:=by exact (qf (show cC (aD s.data.toList p)=.tuple #[.agg #[.int .i64 5,.int .i64 0,.int .i64 0,.int .i64 0,.string (s.extract p (p+2)),.int .i64 (p:Int)],.int .i64 2] from by rw [hO,if_neg hr,if_neg qow,hm,dv];rfl))):p:=h
def qaY(h:p:=by
 have h4:But R w w4:=But.trans (have hv:=h3;qni) b4;have zk4:w.heap.size<w4.heap.size:=by have:=b4.size;first|omega|(simp at this;omega)
 have Hk4:=bt (B:=w.heap.size) (fun j v hv=>b4.cell nk qnj) k30 k31 k32 k33 k34 k35 k36 k37;obtain ⟨k40,k41,k42,k43,k44,k45,k46,k47⟩:=Hk4;have Hkf4:=bq (B:=w.heap.size) (fun j hv=>b4.frozen nk qnt qnq) kf30 kf31 kf32 kf33 kf34 kf35 kf36 kf37;exact qsJ h4 zk4 k40 k41 k42 k43 k44 k45 k46 k47 Hkf4):p:=h
def qba(h:p:=by
 have HK:=qf hk;have HAl:=qf fun (a b:Bool) (w:World) (P:Nat->Prop) hk=>GC ih t hd hw a b w P A cap hk
 exact show _/\_ from ⟨HK,HAl⟩):p:=h
def qbc(h:p:=by exact (qf (show cC (aD s.data.toList p)=.tuple #[.agg #[.int .i64 0,.int .i64 0,.int .i64 0,.int .i64 0,.string ⟨#[]⟩,.int .i64 0],.int .i64 0] from by rw [hO];rfl))):p:=h
def qbd(h:p:=by
 have s0:(t.kY==0)=false:=by rw [h];rfl
 have s1:(t.kY==1)=false:=by rw [h];rfl
 exact show _/\_ from ⟨s0,s1⟩):p:=h
def qbe(h:p:=by
 have HO2:=qf lr.tv;have k20:=lr.k0;have k21:=lr.k1;have k22:=lr.k2;have k23:=lr.k3;have k24:=lr.k4;have k25:=lr.k5;have k26:=lr.k6;have k27:=lr.k7;have kf20:=lr.kf0;have kf21:=lr.kf1;have kf22:=lr.kf2;have kf23:=lr.kf3;have kf24:=lr.kf4;exact qsv HO2 k20 k21 k22 k23 k24 k25 k26 k27 kf20 kf21 kf22 kf23 kf24):p:=h
def qbf(h:p:=by
 have k27:=(b2.cell (p:=⟨w.heap.size,7,none⟩) qnD).trans k17;have f27:=(b2.frozen (p:=⟨w.heap.size,7,none⟩) qnD).trans f17;have h2:Below w.heap.size w w2:=h1.trans (b2.mono qoq);have z2:w.heap.size<w2.heap.size:=Nat.lt_of_lt_of_le z1 b2.size;exact qsC k27 f27 h2 z2):p:=h
def qbg(h:p:=by
 have k30:=aa b3 (ai k20 _);have f30:=ae b3 qnu (aF f20 z2 _);have k31:=aa b3 (ai k21 _);have f31:=ae b3 qnu (aF f21 z2 _);have k32:=aa b3 (ai k22 _);have f32:=ae b3 qnu (aF f22 z2 _);have k33:=aa b3 (ai k23 _);have f33:=ae b3 qnu (aF f23 z2 _);have k34:=aa b3 (ai k24 _);have f34:=ae b3 qnu (aF f24 z2 _);have k35:=aa b3 (ai k25 _);have f35:=ae b3 qnu (aF f25 z2 _);have k36:=aa b3 (ai k26 _);have f36:=ae b3 qnu (aF f26 z2 _);exact qsv k30 f30 k31 f31 k32 f32 k33 f33 k34 f34 k35 f35 k36 f36):p:=h
def qbh(h:p:=by exact (qf (fun w hr=>gR (w:=w) (R:=R) (g:=g) (cap:=cap) (B:=B) (L:=L) (E:=E) (p:=p) hL hc hr))):p:=h
def qbi(h:p:=by exact (show ∀ob,Below w.heap.size w (w.alloc ob) from fun ob=>qb.alloc qd ob)):p:=h
def qbj(h:p:=by exact (af b1 7 (v:=.slice A t.kZ.length cap) rfl)):p:=h
def qbk(h:p:=by
 have HR1:Hid (RL w1 R g cap B L E q):=qf r1;have HVx1:Hid (TV w1 (fun b=>w.heap.size<b) ⟨x0,x1,x2,x3,x4,x5,xw,xA,xl,xc⟩ (some t)):=qf (v1.imp fun b hb=>by have hb2:_<=b:=hb;first|omega|(simp at hb2;omega));exact show _/\_ from ⟨HR1,HVx1⟩):p:=h
def qbl(h:p:=by
 have HQ:=qf Q2;have hm:au s.data.toList 0=2:=by unfold au bw;rw [c0];rw [hd];simp
 have HO:=qf (show cC (aD s.data.toList 0)=.tuple #[.agg #[.int .i64 5,.int .i64 0,.int .i64 0,.int .i64 0,.string (s.extract 0 2),.int .i64 0],.int .i64 2] from by rw [eM,if_neg qow,hm,dv s 0 2];rfl);exact qsF HQ hm HO):p:=h
def qbm(h:p:=by
 have HX:=qf ht;have hp:p<L.length:=(List.getElem?_eq_some_iff.1 ht).1;exact show _/\_ from ⟨HX,hp⟩):p:=h
def qbn(h:p:=by exact (qf (fun w hr=>jE (w:=w) (R:=R) (g:=g) (cap:=cap) (B:=B) (L:=L) (E:=E) (p:=p+1) hL hc hG ⟨#[58]⟩ qnv qnv hr hm2))):p:=h
def qbo(h:p:=by
 have HW1:=qf hw;have hb1:=jW hk hb0 hne;have OK1:=qf (OK0.out.trans hk);have S1:=qf (Nat.le_trans S0.out hs);exact qsC HW1 hb1 OK1 S1):p:=h
def qbp(h:p:=by
 have h0:((r.length:Int)+1==0)=false:=by simp;omega
 have h1:(⟨(61::r).toArray⟩:ByteArray)[0]'(by show 0<(61::r).toArray.size;simp)=61:=rfl;exact show _/\_ from ⟨h0,h1⟩):p:=h
def qbq(h:p:=by exact (qf (show cC (aD s.data.toList p)=.tuple #[.agg #[.int .i64 0,.int .i64 0,.int .i64 0,.int .i64 0,.string ⟨#[]⟩,.int .i64 0],.int .i64 0] from by rw [hO,if_neg hr,if_pos hm];rfl))):p:=h
def qbr(h:p:=by
 have c0:=hc.c0;have c1:=hc.c1;have c3:=hc.c3;have cf1:=hc.f1;exact qsC c0 c1 c3 cf1):p:=h
def qbs(h:p:=by exact (hb0.trans (b1.mono qns))):p:=h
def qbu(h:p:=by
 have HR2:Hid (RL w2 R g cap B L E q):=qf r2;have hg0':w.heap.size+1<g0:=by first|omega|(simp at hg0;omega)
 have HL2:Hid (KLc w2 (fun b=>w.heap.size+1<b) ks g0 0):=qf (KLc.imp (fun b hb=>by have hb2:_<=b:=hb;show w.heap.size+1<b;first|omega|(simp at hb2;omega)) hkl);exact qsF HR2 hg0' HL2):p:=h
def qbv(h:p:=by
 have f6:=ah hb1 6;have f7:=ah hb1 7;have hz:w.heap.size<w1.heap.size:=by have:=hb1.size;simp at this;omega
 have hB:Below w.heap.size w w1:=qa.trans (hb1.mono qns);exact qsC f6 f7 hz hB):p:=h
def qbw(h:p:=by exact (show C8 w1 (w.heap.size) (.int .i64 0) (.int .i64 0) (.int .i64 0) (.int .i64 0) (.int .i64 0) (.int .i64 0) (.string ⟨#[]⟩) (.slice none 0 0) from by refine ⟨?_,?_,?_,?_,?_,?_,?_,?_⟩<;>exact (But.of_below b1).cell (show w.heap.size≠R by omega) qnp)):p:=h
def qby(h:p:=by
 have HRow:Hid (w1.ownsRow (w.heap.size+1) 184 6 v (aE s.data.toList).length (c6 (aE s.data.toList))):=qf (by simpa using hrow);have HS1:=qf (HE.out.strs h1 (base:=w.heap.size+1) qoq);exact show _/\_ from ⟨HRow,HS1⟩):p:=h
def qbz(h:p:=by exact (qf (fun R A cap=>(wS (R:=R) (A:=A) (cap:=cap) (E:=s.size) hL hG (8*(aE s.data.toList).length+6) qoq (8*(aE s.data.toList).length+6) qd).l1))):p:=h
def qbA(h:p:=by
 have HR3:Hid (RS w3 R A cap L E (cj L E [58] (.run (p+1)))):=qf r3;have y3l:w2.heap.size<w3.heap.size:=za3;have E3:cj L E [58] (.run (p+1))=.run (p+2):=if_pos HC.out;exact qsF HR3 y3l E3):p:=h
def qbB(h:p:=by
 have hb35:But w1.heap.size w3 w5:=(But.of_below hb4).trans b5;have HB5:Hid (But w1.heap.size w w5):=qf (HB3.out.trans hb35);have z35:=hb35.size;have zK5:w.heap.size<w5.heap.size:=by omega
 have zR5:w1.heap.size<w5.heap.size:=by omega
 have HK5:Hid (C8 w5 w.heap.size (.int .i64 0) (.int .i64 0) (.int .i64 0) (.int .i64 0) (.int .i64 0) (.int .i64 0) (.string ⟨#[]⟩) (.slice none 0 0)/\F8 w5 w.heap.size):=qf ⟨du (fun q v hv=>hb35.cell nK hv) HK3.out.1,ed (fun q hv=>hb35.frozen nK zK3 hv) HK3.out.2⟩;exact qsy hb35 HB5 z35 zK5 zR5 HK5):p:=h
def qbC(h:p:=by
 have HI:=qf hi0;have HZ0:=qf hz0;have HZ1:=qf hz1;have HZ2:=qf hz2;exact qsC HI HZ0 HZ1 HZ2):p:=h
def qbE(h:p:=by
 have k20:=aa b2 k10;have k21:=aa b2 k11;have f20:=ae b2 z1 f10;have f21:=ae b2 z1 f11;have h2:=h1.trans (b2.mono h1.size);have z2:w.heap.size<w2.heap.size:=Lib.lt_of_cell k20;exact qsy k20 k21 f20 f21 h2 z2):p:=h
def qbF(h:p:=by
 have Hkf1:F8 w1 (w.heap.size):=by refine ⟨?_,?_,?_,?_,?_,?_,?_,?_⟩<;>exact (But.of_below b1).frozen (show w.heap.size≠R by omega) qnt qnp
 obtain ⟨kf10,kf11,kf12,kf13,kf14,kf15,kf16,kf17⟩:=Hkf1;have HR1:Hid (RL w1 R g cap B L E p):=qf (RL.below (have hv:=HR.out;qnk) b1);exact qsE kf10 kf11 kf12 kf13 kf14 kf15 kf16 kf17 HR1):p:=h
def qbG(h:p:=by
 have y3:w.heap.size<w3.heap.size:=zk3;have HR3:Hid (RS w3 R A cap L E st1):=qf r3;have HV3:Hid (TV w3 (fun b=>w.heap.size<b) ⟨a0,a1,a2,a3,a4,a5,aw,aA,al,ac⟩ ot1):=qf (v3.imp fun b hb=>by have hb2:_<=b:=hb;first|omega|(simp at hb2;omega));exact qsF y3 HR3 HV3):p:=h
def qbH(h:p:=by
 have HR3:Hid (RL w3 R g cap B L E (q+1)):=qf (r3 hql);have HO3:Hid (TV w3 (fun b=>w.heap.size<b/\b≠w1.heap.size) ⟨c0,c1,c2,c3,c4,c5,cw,cA,cl,cc⟩ (some t)):=qf (HO2.out.kept (Kept.but (Kept.refl _ _) b3 fun h=>by have:=h.1;omega));exact show _/\_ from ⟨HR3,HO3⟩):p:=h
def qbI(h:p:=by
 have xIF:(t.wZ==[73,70])=false:=by rw [hwd];rfl
 have xSUM:(t.wZ==[83,85,77])=false:=by rw [hwd];rfl
 exact show _/\_ from ⟨xIF,xSUM⟩):p:=h
def qbJ(h:p:=by exact (show w.heap.size<w1.heap.size from by have:=b1.size;simp at this;omega)):p:=h
def qbK(h:p:=by exact (qf (show cC (aD s.data.toList 0)=.tuple #[.agg #[.int .i64 5,.int .i64 0,.int .i64 0,.int .i64 0,.string (s.extract 0 1),.int .i64 0],.int .i64 1] from by rw [eM,if_neg qow,hm,dv s 0 1];rfl))):p:=h
def qbL(h:p:=by exact (hb1.trans (b2.mono (by have:=hb1.size;simpa using this)))):p:=h
def qbM(h:p:=by exact (show w.heap.size<w1.heap.size from Lib.lt_of_cell k10)):p:=h
def qbN(h:p:=by
 have HR4:Hid (RL w4 R g cap B L E q4):=qf r4;have HVd4:Hid (TV w4 (fun b=>w3.heap.size<=b) ⟨d0,d1,d2,d3,d4,d5,dw,dA,dl,dc⟩ (some u)):=qf (v4.imp fun b hb=>by have hb2:_<=b:=hb;first|omega|(simp at hb2;omega));have b4':=b4;have h4:But R w w4:=But.trans (have hv:=h3;qni) b4;have y4:w.heap.size<=w4.heap.size:=h4.size;exact qsB HR4 HVd4 b4' h4 y4):p:=h
def qbO(h:p:=by exact (show Hid (bh w5.heap.size (w5.heap.size+1) (w5.alloc (.cells #[.slice (some ⟨g,0,none⟩) (L.length+1) cap] 189))) from qf ((HS.out.keep fun p u _ hl hv=>dT (by rw [hb5.cell hl];exact hv)).up qoq qoq))):p:=h
def qbP(h:p:=by exact (show decide (((s[p]'h).toNat:Int)<=90)=false from decide_eq_false qoq)):p:=h
def qbQ(h:p:=by
 have d11:decide (L.length<=p)=false:=decide_eq_false qoq;have zR1:R<w1.heap.size:=by omega
 exact show _/\_ from ⟨d11,zR1⟩):p:=h
def qbR(h:p:=by exact (show w.heap.size<w1.heap.size from by have:=b1.size;first|omega|(simp at this;omega))):p:=h
def qbS(h:p:=by
 have xMAX:(t.wZ==[77,65,88])=false:=by rw [hwd];rfl
 have xCOUNT:(t.wZ==[67,79,85,78,84])=false:=by rw [hwd];rfl
 exact show _/\_ from ⟨xMAX,xCOUNT⟩):p:=h
def qbT(h:p:=by
 have HR2:Hid (RS w2 R A cap L E st1):=qf r2;have HV2:Hid (TV w2 (fun b=>w.heap.size<b) ⟨a0,a1,a2,a3,a4,a5,aw,aA,al,ac⟩ ot1):=qf (v2.imp fun b hb=>by have hb2:_<=b:=hb;first|omega|(simp at hb2;omega));exact show _/\_ from ⟨HR2,HV2⟩):p:=h
def qbU(h:p:=by exact (bq (B:=w.heap.size+1) (fun j hv=>b3.frozen (show w.heap.size+1≠R by omega) qnt (by simp [go_sem,hv])) tf20 tf21 tf22 tf23 tf24 tf25 tf26 tf27)):p:=h
def qbV(h:p:=by
 have l2:A2.heap[w.heap.size+1]? =some (.loop (L .busy none)):=by rw [<-hA2,World.putObj_heap_same q1,hL]
 have d2:A2.heap[w.heap.size]? =some (.deferred (some [])):=by rw [<-hA2,cI _ qoq];exact d1
 have s2:Sav (fun k=>C k\/k=w.heap.size+1) A A2:=by rw [<-hA2];exact (Sav.of_below b1).putObj (.inl (.inr rfl)) _
 have q2:w.heap.size+1<A2.heap.size:=(Array.getElem?_eq_some_iff.1 l2).1;exact qsC l2 d2 s2 q2):p:=h
def qbW(h:p:=by exact (show F8 w1 (w.heap.size+1) from by refine ⟨?_,?_,?_,?_,?_,?_,?_,?_⟩<;>exact b1.frozen (show w.heap.size+1≠R by omega) qnt qnp)):p:=h
def qbX(h:p:=by exact (show (0:Int)<=(i:Int) from by omega)):p:=h
def qbY(h:p:=by exact (qf (show cC (aD s.data.toList p)=.tuple #[.agg #[.int .i64 1,.int .i64 (u:Int),.int .i64 0,.int .i64 0,.string ⟨#[]⟩,.int .i64 (p:Int)],.int .i64 (n:Int)] from by rw [hO];rfl))):p:=h
def qbZ(h:p:=by
 have hne:=h.ne;have HN:=qf (fun W (hb:cz W)=>mK ⟨q.text.toArray⟩ (show q.text.toArray.size<=_ from by simp;omega) W hb.num);have e0:(⟨q.text.toArray⟩:ByteArray).data.toList=q.text:=rfl;exact qsF hne HN e0):p:=h
def qca(h:p:=by exact (show Hid (RL w1 R g cap B L E (p+1)) from qf (r1))):p:=h
def qcb(h:p:=by
 have s3:(t.kY==3)=false:=by rw [h];rfl
 have s4:(t.kY==4)=false:=by rw [h];rfl
 exact show _/\_ from ⟨s3,s4⟩):p:=h
def qcd(h:p:=by
 have HS0:=qf (h.below hb0);have HEB:=qf (fun W (hb:aP (fun k=>k=b1\/k=b2) w W)=>hE W (hb.below (fun k hk e=>by have:=h.bs;omega) (by have:=h.bs;omega)));have HW0:=qf hb0;have HT:=qf ht;exact qsC HS0 HEB HW0 HT):p:=h
def qce(h:p:=by
 have HE:Hid (cmT l t=(0,3)):=qf (pO h);have s0:(t.kY==0)=false:=by rw [beq_eq_false_iff_ne];exact n0
 have s1:(t.kY==1)=false:=by rw [beq_eq_false_iff_ne];exact n1
 have s3:(t.kY==3)=false:=by rw [beq_eq_false_iff_ne];exact n3
 have s4:(t.kY==4)=false:=by rw [beq_eq_false_iff_ne];exact n4
 have s5:(t.kY==5)=false:=by rw [beq_eq_false_iff_ne];exact n5
 exact qsy HE s0 s1 s3 s4 s5):p:=h
def qcf(h:p:=by exact (show Region.wanted o (yielded ops a.tmps)=true from by simp [Region.wanted,hgd])):p:=h
def qcg(h:p:=by exact (qf (fun W (hb:Below w1.heap.size w1 W)=>KV.imp (Q:=fun _=>True) (fun _ _=>trivial) (hk.kept (Kept.of_below hb))))):p:=h
def qch(h:p:=by
 have hz1:w1.heap.size=w.heap.size+1:=by rw [<-hw1];simp
 have p0:w1.cell? ⟨w.heap.size,0,none⟩=some (.int .i64 0):=by rw [<-hw1];simp [go_sem]
 have p1:w1.cell? ⟨w.heap.size,1,none⟩=some (.int .i64 0):=by rw [<-hw1];simp [go_sem]
 have pf:∀j,w1.frozen? ⟨w.heap.size,j,none⟩=false:=by rw [<-hw1];exact mc (heap_alloc_new w _)
 exact qsC hz1 p0 p1 pf):p:=h
def qci(h:p:=by
 have j0:=af b1 0 (v:=.int .i64 a) rfl;have j1:=af b1 1 (v:=.int .i64 b) rfl;have j2:=af b1 2 (v:=.int .i64 c) rfl;have j3:=af b1 3 (v:=.int .i64 d) rfl;exact qsC j0 j1 j2 j3):p:=h
def qcj(h:p:=by
 have k0:=aa b1 (p:=⟨w.heap.size+1,0,none⟩) (v:=.int .i64 0) qnp;have k1:=aa b1 (p:=⟨w.heap.size+1,1,none⟩) (v:=.int .i64 0) qnp;have f0:=ae b1 (p:=⟨w.heap.size+1,0,none⟩) qns qnp;have f1:=ae b1 (p:=⟨w.heap.size+1,1,none⟩) qns qnp;exact qsC k0 k1 f0 f1):p:=h
def qck(h:p:=by
 have d12:decide (L.length<=p)=false:=decide_eq_false qoq;have zR2:R<w2.heap.size:=by omega
 exact show _/\_ from ⟨d12,zR2⟩):p:=h
def qcl(h:p:=by
 have hx:=HR1.out.c;have hle:=HR1.out.le;have hgl:=HR1.out.lt;have hrl:=HR1.out.rlt;have HT:=hT.out;exact qsB hx hle hgl hrl HT):p:=h
def qcm(h:p:=by
 have hb4:Below w3.heap.size w3 w4:=by rw [hw4];exact qa
 have HX4:Hid (C8 w4 w3.heap.size (.int .i64 t.kY) (.int .i64 t.num) (.int .i64 t.c1) (.int .i64 t.r1) (.int .i64 t.c2) (.int .i64 t.r2) (.string ⟨t.wZ.toArray⟩) (.slice cA t.kZ.length cc)):=qf (by rw [hw4];exact rC (heap_alloc_new w3 _));have z4:w3.heap.size<w4.heap.size:=by rw [hw4];simp
 exact qsF hb4 HX4 z4):p:=h
def qco(h:p:=by exact (hb0.grown hg1 (Nat.le_trans qoq hb0.size) (fun j hj=>by cases hj;omega))):p:=h
def qcp(h:p:=by exact (hb1.grown hg2 (Nat.le_trans qoq hb1.size) (fun j hj=>by cases hj;omega))):p:=h
def qcq(h:p:=by exact (hb2.grown hg3 (Nat.le_trans qoq hb2.size) (fun j hj=>by cases hj;omega))):p:=h
def qcr(h:p:=by exact (hb3.grown hg4 (Nat.le_trans qoq hb3.size) (fun j hj=>by cases hj;omega))):p:=h
def qcs(h:p:=by exact (hb4.grown hg5 (Nat.le_trans qoq hb4.size) (fun j hj=>by cases hj;omega))):p:=h
def qcu(h:p:=by
 have p21:w1.cell? ⟨w.heap.size,2,none⟩=some (.string ⟨tx.toArray⟩):=aa hb1 p2;have hs1:=HS0.out.below hb1;have hd1:Below w1.heap.size w1 w1.drew:=Below.drew qb;exact qsF p21 hs1 hd1):p:=h
def qcv(h:p:=by
 have m0:=aa b2 k0;have m1:=aa b2 k1;have m2:=aa b2 k2;have m3:=aa b2 k3;have m4:=aa b2 k4;have m5:=aa b2 k5;have m6:=aa b2 k6;have m7:=aa b2 k7;have g0:=ae b2 z1 f0;have g1:=ae b2 z1 f1;have g2:=ae b2 z1 f2;have g3:=ae b2 z1 f3;exact qsD m0 m1 m2 m3 m4 m5 m6 m7 g0 g1 g2 g3):p:=h
def qcw(h:p:=by exact (af b1 7 (v:=.slice A t.kZ.length ca) rfl)):p:=h
def qcx(h:p:=by
 have HS:=qf hS;have HA:=qf hA;have HT:=qf ht;exact qsF HS HA HT):p:=h
def qcy(h:p:=by
 have kf25:=lr.kf5;have kf26:=lr.kf6;have kf27:=lr.kf7;have o20:=lr.o0;have o21:=lr.o1;have o22:=lr.o2;have o23:=lr.o3;exact qsw kf25 kf26 kf27 o20 o21 o22 o23):p:=h
def qcz(h:p:=by
 have l1:A1.heap[w.heap.size+1]? =some (.loop (L .ready none)):=(b1.block _ (Array.getElem?_eq_some_iff.1 h2).1).trans h2;have d1:A1.heap[w.heap.size]? =some (.deferred (some [])):=(b1.block _ (Array.getElem?_eq_some_iff.1 h3).1).trans h3;have q1:w.heap.size+1<A1.heap.size:=(Array.getElem?_eq_some_iff.1 l1).1;exact qsF l1 d1 q1):p:=h
def qcA(h:p:=by
 have l2:2<t.kZ.length:=(List.getElem?_eq_some_iff.1 h2).1;have df:((cmT l a).2 !=0)=false:=by simpa using hf
 exact show _/\_ from ⟨l2,df⟩):p:=h
def qcC(h:p:=by exact (show (t.wZ==[77,73,78])=false from by rw [hwd];rfl)):p:=h
def qcD(h:p:=by
 have zR2:R<w2.heap.size:=by omega
 have na:w2.heap.size≠R:=by omega
 exact show _/\_ from ⟨zR2,na⟩):p:=h
def qcE(h:p:=by
 have y2:w.heap.size<w2.heap.size:=zk2;have HR2:Hid (RS w2 R A cap L E (.out x)):=qf (RS.below (have hv:=HR1.out;qnl) b2);have e0:iE L (.out x)=false:=rfl;have e1:fF L 1 [58] (.out x)=false:=rfl;exact qsC y2 HR2 e0 e1):p:=h
def qcF(h:p:=by
 have l3:B.heap[w.heap.size+1]? =some (.loop (L .busy none)):=(hB.block _ q2 fun h=>(hlen _ h).1 rfl).trans l2;have d3:B.heap[w.heap.size]? =some (.deferred (some [])):=(hB.block _ qoq fun h=>(hlen _ h).2 rfl).trans d2;have q3:w.heap.size+1<B.heap.size:=(Array.getElem?_eq_some_iff.1 l3).1;exact qsF l3 d3 q3):p:=h
def qcH(h:p:=by exact (show Below w1.heap.size w1 w2 from by rw [<-hq2];exact below_drewN qb _)):p:=h
def qcI(h:p:=by
 have c0:=hc.c0;have c1:=hc.c1;have cf1:=hc.f1;exact qsF c0 c1 cf1):p:=h
def qcJ(h:p:=by exact (show Below (w.heap.size+1) (w.alloc (.cells #[.int .i64 0,.int .i64 0] 61)) (w.alloc (.cells #[.int .i64 0,.int .i64 0] 61)) from qb)):p:=h
def qcK(h:p:=by
 have HP:=qf hP;have HF:=qf hf;have HC:=qf (j4 (aj L E p));have hT:=qf (iR hG E (p+1) (s:=[58]) qnv qnv);exact qsC HP HF HC hT):p:=h
def qcL(h:p:=by
 have HE1:Hid ((t.kZ.any fun u=>u.kY==2)=true->cmT l t=(0,3)):=qf fun h=>by rw [wu h5 hwd,if_pos h]
 have HE2:Hid ((t.kZ.any fun u=>u.kY==2)=false->cmT l t=(((itL l t.kZ).length:Int),0)):=qf fun h=>by rw [wu h5 hwd,if_neg qnO]
 exact show _/\_ from ⟨HE1,HE2⟩):p:=h
def qcM(h:p:=by exact (qf (show cC (aD s.data.toList p)=.tuple #[.agg #[.int .i64 2,.int .i64 0,.int .i64 (prC (ar s.data.toList p n)),.int .i64 (prR (ar s.data.toList p n)),.string ⟨#[]⟩,.int .i64 (p:Int)],.int .i64 (n:Int)] from by rw [hO];rfl))):p:=h
def qcN(h:p:=by
 have hO:=qf (fun w hr=>pS (w:=w) (R:=R) (g:=g) (cap:=cap) (B:=B) (L:=L) (E:=E) (p:=p+2) hL hc hr he);have hl2:=mF he;exact show _/\_ from ⟨hO,hl2⟩):p:=h
def qcO(h:p:=by exact (show (t.kY==5)=false from by rw [h];rfl)):p:=h
def qcP(h:p:=by
 have k0:=af b1 0 (v:=.int .i64 0) rfl;have k1:=af b1 1 (v:=.int .i64 0) rfl;have f0:=ae b1 (p:=⟨w.heap.size,0,none⟩) qns qnp;have f1:=ae b1 (p:=⟨w.heap.size,1,none⟩) qns qnp;exact qsC k0 k1 f0 f1):p:=h
def qcQ(h:p:=by exact (show Below w.heap.size w w1 from (qa.alloc qns _).trans (b1.mono qnu))):p:=h
def qcR(h:p:=by exact (show fF L 0 [40] (.run p)=false from HM.out)):p:=h
def qcS(h:p:=by
 have hs5:w4.heap.size<=w5.heap.size:=by have:=hg5.size;simp at this;omega
 have H5:Hid (But R w w5):=qf ⟨hg5.os.trans h4.os,hg5.tape.trans h4.tape,hg5.output.trans h4.output,qoq,fun k hk hn=>by rw [g5 k qoq hk];exact h4.block k hk hn⟩;exact show _/\_ from ⟨hs5,H5⟩):p:=h
def qcT(h:p:=by
 have d3:decide (((s[0]'s0).toNat:Int)<65)=false:=decide_eq_false qoq;have d4:decide ((90:Int)<((s[0]'s0).toNat:Int))=false:=decide_eq_false qoq;have d5:(((s[1]'s1).toNat:Int)==48)=false:=by rw [beq_eq_false_iff_ne];omega
 exact qsF d3 d4 d5):p:=h
def qcU(h:p:=by
 have HSv:=qf hsv;have HCy:=qf hcy;exact show _/\_ from ⟨HSv,HCy⟩):p:=h
def qcW(h:p:=by exact (h1.trans (b2.mono h1.size))):p:=h
def qcX(h:p:=by exact ((hb1.alloc qoq _).trans (b2.mono qnu))):p:=h
def qcY(h:p:=by
 have e1:aE s.data.toList=[]:=if_pos hl;have e2:jb s.data.toList=0:=if_pos hl;have e3:cF s.data.toList=3:=if_pos hl;exact qsF e1 e2 e3):p:=h
def qcZ(h:p:=by
 have HE:=qf (fun ob=>ll 2 t HT.out (w.alloc ob) P A ca (HA.out.kept (Kept.of_below (qb.alloc qd ob))));have hV:=gz t.wZ;have HX:=qf (fun ob=>jP R B (w.alloc ob) ⟨t.wZ.toArray⟩ (HS.out.keep fun _ _ _ _ hv=>dT hv));exact qsF HE hV HX):p:=h
def qdb(h:p:=by exact (qf (show cC (aD s.data.toList p)=.tuple #[.agg #[.int .i64 4,.int .i64 0,.int .i64 0,.int .i64 0,.string (s.extract p (p+n)),.int .i64 (p:Int)],.int .i64 (n:Int)] from by rw [hO,if_pos hw,hX];rfl))):p:=h
def qdc(h:p:=by
 have HR1:Hid (RL w1 R g cap B L E q):=qf r1;have HVx1:Hid (TV w1 (fun b=>w.heap.size<=b) ⟨x0,x1,x2,x3,x4,x5,xw,xA,xl,xc⟩ (some t)):=qf (v1.imp fun b hb=>by have hb2:_<=b:=hb;first|omega|(simp at hb2;omega));have b1':=b1;exact qsF HR1 HVx1 b1'):p:=h
def qdd(h:p:=by
 have c0:=h.c0;have c1:=h.c1;have c2:=h.c2;have c3:=h.c3;have c4:=h.c4;have f1:=h.f1;have f3:=h.f3;have f4:=h.f4;exact qsz c0 c1 c2 c3 c4 f1 f3 f4):p:=h
def qdf(h:p:=by exact (qf fun w=>kA t A cap t.kZ.length w)):p:=h
def qdi(h:p:=by
 have e0:iE L (.run p)=true:=HE.out;have e1:fF L 1 [58] (.run p)=true:=HC.out;exact show _/\_ from ⟨e0,e1⟩):p:=h
def qdj(h:p:=by exact (qf (fun w' (hb:Below w0.heap.size w0 w')=>jP _ _ w' ⟨t.wZ.toArray⟩ (hS.later qd hb)))):p:=h
def qdk(h:p:=by exact (show w5.ownsRow base 184 6 v' (dH L E).length (c6 (dH L E)) from by rw [gv];exact hown5)):p:=h
def qdn(h:p:=by
 have hx:=HR2.out.c;have hle:=HR2.out.le;have hgl:=HR2.out.lt;have hrl:=HR2.out.rlt;have hNx:=qf (gR hL hc HR2.out);exact qsB hx hle hgl hrl hNx):p:=h
def qdo(h:p:=by exact (show bj (p::t)=.int .i64 p.1::.int .i64 p.2::bj t from rfl)):p:=h
def qdp(h:p:=by
 have HR1:Hid (RS w1 R A cap L E st1):=qf r1;have HV1:Hid (TV w1 (fun b=>w.heap.size<b) ⟨a0,a1,a2,a3,a4,a5,aw,aA,al,ac⟩ ot1):=qf (v1.imp fun b hb=>by have hb2:_<=b:=hb;first|omega|(simp at hb2;omega));exact show _/\_ from ⟨HR1,HV1⟩):p:=h
def qdq(h:p:=by exact (xW (s.extract p (p+n)) (by rw [kc s p n hn];omega) (LX s p n HU.out hn))):p:=h
def qdr(h:p:=by exact (qf (show cC (aD s.data.toList p)=.tuple #[.agg #[.int .i64 3,.int .i64 0,.int .i64 0,.int .i64 0,.string ⟨#[]⟩,.int .i64 (p:Int)],.int .i64 4] from by rw [hO,if_pos hr];rfl))):p:=h
def qds(h:p:=by exact (show (t.wZ !=[73,70])=true from by rw [bne,xIF];rfl)):p:=h
def qdt(h:p:=by exact (show But R w w2 from But.trans (have hv:=h1;qni) (But.of_below b2))):p:=h
def qdu(h:p:=by exact (show (i:Int)<(l.length:Int) from by omega)):p:=h
def qdv(h:p:=by exact (qf (show cC (aD s.data.toList p)=.tuple #[.agg #[.int .i64 3,.int .i64 0,.int .i64 0,.int .i64 0,.string ⟨#[]⟩,.int .i64 (p:Int)],.int .i64 (n:Int)] from by rw [hO];rfl))):p:=h
def qdw(h:p:=by exact (show toS (if aB L p=false then some (.bad t.frm) else if ag L (p+1) [58]=false/\t.kY=3 then some (.ok bK (p+1)) else az L E (p+1) [58] (la L E t))=some g from hg)):p:=h
def qdx(h:p:=by exact (show (((s[p]'h).toNat:Int)==45)=false from aI (k:=45) q45)):p:=h
def qdy(h:p:=by exact (show (((s[p]'h).toNat:Int)==40)=false from aI (k:=40) q40)):p:=h
def qdz(h:p:=by exact (show (((s[p]'h).toNat:Int)==58)=false from aI (k:=58) q58)):p:=h
def qdB(h:p:=by
 have HW2:=qf hw;have hb2:=jW hk hb1 hne;have OK2:=qf (OK1.out.trans hk);have S2:=qf (Nat.le_trans S1.out hs);exact qsC HW2 hb2 OK2 S2):p:=h
def qdC(h:p:=by exact (show Hid (RL w1 R g cap B L E (p+1)) from qf (r1 hl))):p:=h
def qdD(h:p:=by exact (show w.heap.size+1<w1.heap.size from by have:=b1.size;first|omega|(simp at this;omega))):p:=h
def qdE(h:p:=by exact (show w.heap.size+1<w3.heap.size from by have:=b3.size;first|omega|(simp at this;omega))):p:=h
def qdF(h:p:=by
 have HF:=qf hf1;have HK:=qf hf2;exact show _/\_ from ⟨HF,HK⟩):p:=h
def qdG(h:p:=by
 have t60:(((s[p]'h).toNat:Int)==60)=false:=aI (k:=60) q60;have t62:(((s[p]'h).toNat:Int)==62)=false:=aI (k:=62) q62;have t43:(((s[p]'h).toNat:Int)==43)=true:=db (k:=43) q43;exact qsF t60 t62 t43):p:=h
def qdH(h:p:=by
 have HC:=qf (fun W=>pG r W);have pt:=bO hp;have hpl:=mP hp;have PA:=qf (fun W (hb:Below w.heap.size w W) A ca hA=>nl t pt hpl.2 W A ca hA (hE.i.below hb) (hE.p.below hb));exact qsC HC pt hpl PA):p:=h
def qdJ(h:p:=by exact (qf (ih a (List.mem_of_getElem? h0)))):p:=h
def qdK(h:p:=by exact (show Hid (goS (ak (aE s.data.toList) s.size (8*(aE s.data.toList).length+6) 1) (.run 0)=toS (some (.ok t (aE s.data.toList).length))) from qf (by rw [<-hg];rfl))):p:=h
def qdL(h:p:=by exact (show (PE==0)=false from by rw [beq_eq_false_iff_ne];exact e0)):p:=h
def qdM(h:p:=by exact (show Hid (RL w2 R g cap B L E (p+2)) from qf (r2))):p:=h
def qdN(h:p:=by
 have HP:=qf P1;have eM:=mW hf2 hl2 hr;have c0:s.data.toList.getD 0 0=60:=by rw [g0];exact hc
 exact qsF HP eM c0):p:=h
def qdO(h:p:=by exact (show Hid (TV w6 (fun b=>w5.heap.size<b) ⟨x0,x1,x2,x3,x4,x5,xw,xA,xl,xc⟩ (some t)) from qf (v6.imp fun b hb=>by have hb2:_<=b:=hb;simp at hb2;omega))):p:=h
def qdP(h:p:=by exact (qf (HB2.out.trans (hb3.mono HB2.out.size)))):p:=h
def qdQ(h:p:=by
 have lr:=HL.out;have h2:=lr.but;have HR2:=qf lr.rl;have y2:=h2.size;have zo2:=lr.ho;have zk2:=lr.hk;exact qsy lr h2 HR2 y2 zo2 zk2):p:=h
def qdR(h:p:=by
 have hle:=rJ l (t.kZ.take i);have hlt1:(t.kZ.take i).length<=1000000:=by rw [List.length_take];omega
 exact show _/\_ from ⟨hle,hlt1⟩):p:=h
def qdS(h:p:=by exact (show decide ((200:Int)<(q.text.length:Int))=false from decide_eq_false qoq)):p:=h
def qdT(h:p:=by exact (qf fun ob=>HR.out (w1.alloc ob) _ A1 c1 B (hk1.kept (Kept.of_below ((Below.refl _ w1).alloc qd ob))) ((HM.out.below mb).below ((Below.refl _ w1).alloc qd ob)))):p:=h
def qdU(h:p:=by exact (show Hid (cmT l t=(cQ t.wZ (cmT l a).1 (cmT l a).2 (cmT l b).1 (cmT l b).2,cd t.wZ (cmT l a).1 (cmT l a).2 (cmT l b).1 (cmT l b).2)) from qf (Pa h h0 h1))):p:=h
def qdV(h:p:=by
 have HS':Hid (dL s.data.toList=cG s.data.toList k' (p+1) acc/\s.size<k'+(p+1)):=qf ⟨hS,qoq⟩;have t32:(((s[p]'hlt).toNat:Int)==32)=true:=db (k:=32) hc;exact show _/\_ from ⟨HS',t32⟩):p:=h
def qdW(h:p:=by
 have HP:=qf (fun W=>pM ⟨r.toArray⟩ (show r.toArray.size<=9223372036854775807 from by simp at hs ⊢;omega) W);have e0:(⟨r.toArray⟩:ByteArray).data.toList=r:=rfl;exact show _/\_ from ⟨HP,e0⟩):p:=h
def qdX(h:p:=by
 have HR4:Hid (RL w4 R g cap B L E q2):=qf r4;have h4:But R w w4:=h3d.trans b4;have s4:=b4.size;exact qsF HR4 h4 s4):p:=h
def qdY(h:p:=by exact (qf (fun w hr=>jn (w:=w) (R:=R) (g:=g) (cap:=cap) (B:=B) (L:=L) (E:=E) (p:=p) hL hc hG ⟨#[45]⟩ qnv qnv hr))):p:=h
def qdZ(h:p:=by exact (show aP (fun k=>k=b1\/k=b2) w w6 from ((HB3.out.trans (aP.of_below hb35)).trans (aP.of_below (hd5.mono qd))).trans (hbu6.mono fun k e=>.inr e))):p:=h
def qea(h:p:=by exact (af b1 0 (v:=.int .i64 0) rfl)):p:=h
def qeb(h:p:=by exact (show ∀k,v.ownBlock=some k->base<=k/\k<w.heap.size from HRow.out.lt)):p:=h
def qec(h:p:=by exact (show w.heap.size+4<=w5.heap.size from by have:=hg5.size;simp at this;omega)):p:=h
def qed(h:p:=by exact (qf (fun W (hb:Below w.heap.size w W)=>tW r hl W (hE.p.below hb)))):p:=h
def qee(h:p:=by exact (show ∀W,Kept w1 W (fun k=>w.heap.size<k)->KV W (fun k=>w.heap.size<=k) t A from fun W h=>KV.imp (fun g hg=>Nat.le_of_lt hg) (hk2.kept h))):p:=h
def qef(h:p:=by
 have HE:Hid (cmT l t=(oN (cAt t.c1 t.r1 l),oF (cAt t.c1 t.r1 l))):=qf (sz h);have s0:(t.kY==0)=false:=by rw [h];rfl
 have s1:(t.kY==1)=true:=by rw [h];rfl
 exact qsF HE s0 s1):p:=h
def qeg(h:p:=by exact (show k=0 from by simpa using h0)):p:=h
def qeh(h:p:=by exact (show Region.wanted o (yielded ops a.tmps)=true from by simp [Region.wanted,hg])):p:=h
def qei(h:p:=by
 have k2:=af b1 2 (v:=.int .i64 c) rfl;have k3:=af b1 3 (v:=.int .i64 d) rfl;exact show _/\_ from ⟨k2,k3⟩):p:=h
def qej(h:p:=by
 have hb5:Below w4.heap.size w4 w5:=by rw [<-hw5];exact qa
 have hb35:=hb4.trans (hb5.mono hb4.size);have hz5:w5.heap.size=w4.heap.size+1:=by rw [<-hw5];simp
 have hz4:=hb4.size;exact qsC hb5 hb35 hz5 hz4):p:=h
def qek(h:p:=by
 have H2:=qf h2;have HU:=qf hu;have hp2:p+2<L.length:=(List.getElem?_eq_some_iff.1 hu).1;exact qsF H2 HU hp2):p:=h
def qel(h:p:=by exact (show res=.bad z from HK.out)):p:=h
def qem(h:p:=by
 have hg2:w7.heap.size<=g2:=(hown2.lt g2 rfl).1;have m7:=aa B9 o7;have nf7:=ae B9 zO7 f7;have zO9:w3.heap.size<w9.heap.size:=Nat.lt_of_lt_of_le zO7 B9.size;exact qsC hg2 m7 nf7 zO9):p:=h
def qen(h:p:=by exact (qf (show au s.data.toList p=0 from by unfold au;rw [g0,g1];simp [bw,q60,q62,q43,q45,q42,q47,q40,q41,q44,q58,q61]))):p:=h
def qeo(h:p:=by
 have c0:=h.c0;have c1:=h.c1;have c3:=h.c3;exact qsF c0 c1 c3):p:=h
def qep(h:p:=by
 have k0:=aa b1 (p:=⟨w.heap.size,0,none⟩) (v:=.int .i64 c) qns;have k1:=aa b1 (p:=⟨w.heap.size,1,none⟩) (v:=.int .i64 r) qns;exact show _/\_ from ⟨k0,k1⟩):p:=h
def qeq(h:p:=by exact (show ¬0<n from by simpa using hl)):p:=h
def qer(h:p:=by exact (qf (fun ob=>Dg _ t qd hd hw (w2.alloc ob) (fun b=>w.heap.size+1<=b) A cp (hkv.kv.kept (Kept.of_below (qb.alloc qd ob)))))):p:=h
def qes(h:p:=by exact (HB5.out.below (n:=w.heap.size) qoq qd)):p:=h
def qet(h:p:=by exact (qf (jP R B wr ⟨(aj L E q).text.toArray⟩ HR2.out.st))):p:=h
def qeu(h:p:=by
 have s3:(t.kY==3)=false:=by rw [h];rfl
 have s4:(t.kY==4)=true:=by rw [h];rfl
 exact show _/\_ from ⟨s3,s4⟩):p:=h
def qev(h:p:=by
 have e0:iE L (.run p)=true:=HE.out;have e1:fF L 1 [58] (.run p)=false:=HC.out;exact show _/\_ from ⟨e0,e1⟩):p:=h
def qew(h:p:=by exact (show (((s[p+1]'hp).toNat:Int)==61)=false from aI (k:=61) d61)):p:=h
def qex(h:p:=by exact (show AW (ar s.data.toList p n)=(u:Int) from by unfold AW;rw [hv])):p:=h
def qey(h:p:=by exact (show Below w.heap.size w w4 from ((hb1.alloc hz _).alloc qnu _).grown hg4 qnu (fun g hgg=>(HO1.out.lt g hgg).1))):p:=h
def qez(h:p:=by exact (fun ty=>run_next_ascii (P:=Tryz.prog) w T pos ty hp qoq)):p:=h
def qeA(h:p:=by
 have B2:Below w1.heap.size w1 w2:=Fd b2;have m0:=aa B2 k0;have m1:=aa B2 k1;have g0:=ae B2 z1 f0;have g1:=ae B2 z1 f1;exact qsB B2 m0 m1 g0 g1):p:=h
def qeB(h:p:=by
 have c1:=hc.c1;have cf1:=hc.f1;have HS1:Hid (RS (w1.setCell ⟨R,1,none⟩ (.int .i64 ((p:Int)+1))) R A cap L E (.run (p+1))):=qf (HR1.out.step hp qoq);exact qsF c1 cf1 HS1):p:=h
def qeC(h:p:=by exact (show (t.wZ==[73,70])=true from by rw [hwd];rfl)):p:=h
def qeD(h:p:=by
 have hcc6:=And.intro hs6.c1 (And.intro s0 (And.intro s1 (And.intro s2 (And.intro s3 (And.intro s4 (And.intro s5 (And.intro s6 s7)))))));have HB6:=qf hB6;have HS6:=qf hs6;exact qsF hcc6 HB6 HS6):p:=h
def qeE(h:p:=by exact (show w.heap.size<w3.heap.size from zk3)):p:=h
def qeF(h:p:=by
 have HN:Hid (¬200<s.data.toList.length):=qf qnX;have d0:decide ((200:Int)<(s.size:Int))=false:=decide_eq_false qoq;exact show _/\_ from ⟨HN,d0⟩):p:=h
def qeG(h:p:=by
 have HE:=qf he;have HC:=qf hc;exact show _/\_ from ⟨HE,HC⟩):p:=h
def qeH(h:p:=by exact (qf (HB1.out.trans (hb2.mono HB1.out.size)))):p:=h
def qeI(h:p:=by exact (qf (hi _ P A cap b (hk.kept (Kept.of_below kb)) (hm.below kb)))):p:=h
def qeJ(h:p:=by exact (show 0<n from by simpa using hl)):p:=h
def qeK(h:p:=by exact (show k=5 from by simpa using h5)):p:=h
def qeL(h:p:=by exact (show k=4 from by simpa using h4)):p:=h
def qeM(h:p:=by exact (qf (fun w hr=>oD (w:=w) (R:=R) (g:=g) (cap:=cap) (B:=B) (L:=L) (E:=E) (p:=p+2) hL hc hr he))):p:=h
def qeN(h:p:=by exact (show Hid (cmT l t=cmT l c) from qf (by rw [BL h5 hwd h0 h1 h2];rw [if_neg (fun h=>h hf)];exact if_neg (fun h=>h hn)))):p:=h
def qeO(h:p:=by
 have p23:=aa hb3 p22;have HS3:=qf (HS2.out.below hb3);have HB3:=qf (HB2.out.trans (aP.of_below hb3));have HE3:=qf (HE2.out.below hb3);have hz3:=hb3.size;exact qsB p23 HS3 HB3 HE3 hz3):p:=h
def qeP(h:p:=by exact (show Hid (RS w1 R A cap L E (.out x)) from qf r1)):p:=h
def qeQ(h:p:=by
 have Ha:=qf h0;have Hz:=qf h0;have l2:2<t.kZ.length:=(List.getElem?_eq_some_iff.1 h2).1;have df:((cmT l a).2 !=0)=true:=by simpa using hf
 exact qsC Ha Hz l2 df):p:=h
def qeR(h:p:=by exact (qf (fun w=>Fl s hs w))):p:=h
def qeS(h:p:=by exact (show Hid (cmT l t=(cQ [45] 0 0 (cmT l a).1 (cmT l a).2,cd [45] 0 0 (cmT l a).1 (cmT l a).2)) from qf (Oj h h0))):p:=h
def qeT(h:p:=by
 have HE:=qf hE;have HSc:=qf (fun w hE=>G1 s hs w hE);exact show _/\_ from ⟨HE,HSc⟩):p:=h
def qeU(h:p:=by exact (show w2.heap.size≠R from by omega)):p:=h
def qeW(h:p:=by exact (qf (And.intro hw3 (And.intro hk3 hs3)))):p:=h
def qeX(h:p:=by
 have c0:=aa HB.out q0;have c1:=aa HB.out q1;exact show _/\_ from ⟨c0,c1⟩):p:=h
def qeY(h:p:=by exact (show (E==0)=false from by rw [beq_eq_false_iff_ne];exact h0)):p:=h
def qeZ(h:p:=by exact (show (s.extract 0 n).data.toList=ar s.data.toList 0 n from by have:=bQ s 0 n;rwa [Nat.zero_add] at this)):p:=h
def qfa(h:p:=by exact (show (((s[0]'h0).toNat:Int)==60)=true from by rw [hc];rfl)):p:=h
def qfb(h:p:=by
 have HE:Hid (cmT l t=(t.num,0)):=qf (NW h);have s0:(t.kY==0)=true:=by rw [h];rfl
 have s1:(t.kY==1)=false:=by rw [h];rfl
 exact qsF HE s0 s1):p:=h
def qfc(h:p:=by
 have HI:=qf (fun w=>fW q.c q.r w);have hx:aQ q.c q.r=q.ix:=rfl;exact show _/\_ from ⟨HI,hx⟩):p:=h
def qfd(h:p:=by exact (show Below w3.heap.size w3 wr from HW7.out.trans (HB.out.below (fun k hk e=>by have:=HBd.out;omega) HW7.out.size))):p:=h
def qfe(h:p:=by exact (show w.heap.size<wr.heap.size from by omega)):p:=h
def qfg(h:p:=by
 have z0:w.heap.size<wr.heap.size:=by have:=hb.size;simp at this;omega
 have b0:Below w.heap.size w wr:=qa.trans (hb.mono qoq);exact show _/\_ from ⟨z0,b0⟩):p:=h
def qfh(h:p:=by exact (show Below w.heap.size w w4 from (hb1.alloc hb1.size _).grown hg4 qnu (fun k hk=>(HO1.out.lt k hk).1))):p:=h
def qfi(h:p:=by exact (qf (fun W (hb:Below w.heap.size w W)=>hE.below hb))):p:=h
def qfj(h:p:=by exact (@run_makeMap Tryz.prog)):p:=h
def qfk(h:p:=by exact (show g<wr.heap.size from Lib.lt_of_cell a0)):p:=h
def qfl(h:p:=by exact (show Hid (cmT l t=cmT l b) from qf (by rw [BL h5 hwd h0 h1 h2];rw [if_neg (fun h=>h hf)];exact if_pos hn))):p:=h
def qfn(h:p:=by exact (qf (show bW a b c d=(decide (a<=c)&&decide (b<=d)) from by unfold bW;rw [hf,ht];rfl))):p:=h
def qfo(h:p:=by
 have t42:(((s[p]'h).toNat:Int)==42)=false:=aI (k:=42) q42;have t47:(((s[p]'h).toNat:Int)==47)=true:=db (k:=47) q47;exact show _/\_ from ⟨t42,t47⟩):p:=h
def qfp(h:p:=by
 have t41:(((s[p]'h).toNat:Int)==41)=false:=aI (k:=41) q41;have t44:(((s[p]'h).toNat:Int)==44)=true:=db (k:=44) q44;exact show _/\_ from ⟨t41,t44⟩):p:=h
def qfq(h:p:=by exact (qf hk)):p:=h
def qfr(h:p:=by exact (show Hid (∀w',Below wr.heap.size wr w'->cU w' w.heap.size (l.take i)) from qf fun w' h=>HM.out.below h)):p:=h
def qfs(h:p:=by
 have HP:=qf (fun W (hb:Below w.heap.size w W)=>tW r (by simp at hs;omega) W (hE.below hb));have HC:=qf (fun W=>pG r W);exact show _/\_ from ⟨HP,HC⟩):p:=h
def qfu(h:p:=by exact (show gry (left++[n])=gry left from by rw [nN,pm (a:=[n]) qpF,List.append_nil])):p:=h
def qfv(h:p:=by exact (show t.kZ[0]? =some u from by rw [hu];rfl)):p:=h
def qfw(h:p:=by
 have hlt:i<L.length:=(List.getElem?_eq_some_iff.1 hi).1;have hjn:j<n:=by have:=(List.getElem?_eq_some_iff.1 hj).1;rwa [hf] at this
 exact show _/\_ from ⟨hlt,hjn⟩):p:=h
def qfx(h:p:=by
 have zR4:R<w4.heap.size:=by omega
 have nb:w4.heap.size≠R:=by omega
 exact show _/\_ from ⟨zR4,nb⟩):p:=h
def qfy(h:p:=by exact (show Below w.heap.size w w1 from (hbel.alloc hbel.size _).trans (b1.mono qqc))):p:=h
def qfz(h:p:=by exact (ht.len)):p:=h
def qfA(h:p:=by exact (show Below w.heap.size w w3 from (hbel.alloc hbel.size _).trans (b3.mono qqc))):p:=h
def qfC(h:p:=by exact (show p<L.length from (List.getElem?_eq_some_iff.1 ht).1)):p:=h
def qfD(h:p:=by exact (qf fun w=>kA t A cap 0 w)):p:=h
def qfE(h:p:=by exact (show k=3 from by simpa using h3)):p:=h
def qfF(h:p:=by exact (show k=6 from by simpa using h6)):p:=h
def qfG(h:p:=by exact (show k=1 from by simpa using h1)):p:=h
def qfJ(h:p:=by
 have hb2:Below w1.heap.size w1 w2:=by rw [<-hw2];exact qa
 have hz2:w2.heap.size=w.heap.size+2:=by rw [<-hw2,<-hw1];simp
 exact show _/\_ from ⟨hb2,hz2⟩):p:=h
def qfK(h:p:=by exact (show i+1<s.size from by rw [kG] at h;omega)):p:=h
def qfL(h:p:=by
 have t60:(((s[0]'h0).toNat:Int)==60)=false:=by rw [hc];rfl
 have t62:(((s[0]'h0).toNat:Int)==62)=true:=by rw [hc];rfl
 exact show _/\_ from ⟨t60,t62⟩):p:=h
def qfO(h:p:=by exact (show w.heap.size<w5.heap.size from zk5)):p:=h
def qfP(h:p:=by exact (show aV t.kZ<=d from by rw [gM] at hd;omega)):p:=h
def qfQ(h:p:=by exact (show w.heap.size≠b from by have:=HW.out.lt;omega)):p:=h
def qfR(h:p:=by exact (show Below w.heap.size w V from by rw [<-hV];exact ((Below.refl _ w).alloc qd _).alloc qns _)):p:=h
def qfS(h:p:=by
 have HgT:=qf hgT;have HB5:=qf hb5;have hL2:L.length<=1000:=by omega
 exact qsF HgT HB5 hL2):p:=h
def qfV(h:p:=by exact (show w1.heap.size≠R from by have:=h1.size;omega)):p:=h
def qfW(h:p:=by exact (show (⟨(c::r).toArray⟩:ByteArray)[0]'(by show 0<(c::r).toArray.size;simp)=c from rfl)):p:=h
def qfY(h:p:=by
 have h2:=yf (s.extract p (p+n)) (by rw [kc s p n hn];omega);have h3:=FB (s.extract p (p+n));exact show _/\_ from ⟨h2,h3⟩):p:=h
def qfZ(h:p:=by exact (show wrap64 ((aV t.kZ:Int)+1)=(aV t.kZ:Int)+1 from IntWalk.wrap64_in _ qoq)):p:=h
def qga(h:p:=by exact (qf (HA.out _ _ A0 c0 B hk0 (HM.out.below kb)))):p:=h
def qgb(h:p:=by exact (hbel.trans (b1.mono hbel.size))):p:=h
def qgc(h:p:=by exact (qf ((HWA _).out.push (HVV.out.kept (Kept.of_below qa)) hown5 hg5 (by simpa using hat5)))):p:=h
def qge(h:p:=by exact (qf hl)):p:=h
def qgf(h:p:=by exact (show Hid (RL w3 R g cap B L E (p+3)) from qf (r3))):p:=h
def qgg(h:p:=by exact (show aj L E L.length=eP E from by simp [aj,dH,List.getD_eq_getElem?_getD])):p:=h
def qgh(h:p:=by
 have HO1:Hid (dF w.heap.size w1 u5 (itL l (t.kZ.take i))):=qf (dS HO.out hB1);have hb1:=hbel.trans (hB1.mono zs);exact show _/\_ from ⟨HO1,hb1⟩):p:=h
def qgj(h:p:=by exact (qf (HB5.out.trans (hb6.mono HB5.out.size)))):p:=h
def qgk(h:p:=by
 have hIk:(k:Int)<(RR.length:Int):=by omega
 have hJk:(0:Int)<=(k:Int):=by omega
 have hvb:=HBd.out (j:Int);exact qsF hIk hJk hvb):p:=h
def qgl(h:p:=by exact (show (ks.take i).length=i from by have:=(List.getElem?_eq_some_iff.1 h).1;simp;omega)):p:=h
def qgm(h:p:=by
 have HRow:=qf hrow;have HS:=qf hS;have HT:=qf ht;have HBN:=qf hB;exact qsC HRow HS HT HBN):p:=h
def qgn(h:p:=by
 have z60:=tz6 0;have z61:=tz6 1;have z62:=tz6 2;have z63:=tz6 3;have z64:=tz6 4;have z65:=tz6 5;have z66:=tz6 6;have z67:=tz6 7;exact qsz z60 z61 z62 z63 z64 z65 z66 z67):p:=h
def qgo(h:p:=by exact (show IntKind.i64.wrap ((i:Int)+1)=(i:Int)+1 from by rw [IntKind.wrap_i64];omega)):p:=h
def qgp(h:p:=by exact (show decide ((65:Int)<=((s[p]'h).toNat:Int))=true from decide_eq_true qoq)):p:=h
def qgq(h:p:=by exact (af b1 0 (v:=.int .i64 t.kY) rfl)):p:=h
def qgr(h:p:=by exact (show decide ((L.length:Int)<(L.length:Int))=false from decide_eq_false qoq)):p:=h
def qgs(h:p:=by exact (qf (fun w hA=>rdeep_any _ t qd hd hw w (fun b=>w2.heap.size<=b) cA cc hA))):p:=h
def qgt(h:p:=by exact (show decide ((200:Int)<(r.length:Int)+1)=false from decide_eq_false qoq)):p:=h
def qgu(h:p:=by
 have xMAX:(t.wZ==[77,65,88])=true:=by rw [hwd];rfl
 have xCOUNT:(t.wZ==[67,79,85,78,84])=false:=by rw [hwd];rfl
 exact show _/\_ from ⟨xMAX,xCOUNT⟩):p:=h
def qgv(h:p:=by
 have xMAX:(t.wZ==[77,65,88])=false:=by rw [hwd];rfl
 have xCOUNT:(t.wZ==[67,79,85,78,84])=true:=by rw [hwd];rfl
 exact show _/\_ from ⟨xMAX,xCOUNT⟩):p:=h
def qgw(h:p:=by
 have hx:=hr.c;have hle:=hr.le;have hgl:=hr.lt;have hrl:=hr.rlt;exact qsC hx hle hgl hrl):p:=h
def qgx(h:p:=by exact (qf hc)):p:=h
def qgy(h:p:=by exact (qf hP)):p:=h
def qgz(h:p:=by exact (qf hm)):p:=h
def qgA(h:p:=by exact (qf (HTE.out (by rw [HKB.out,m6];rfl)))):p:=h
def qgB(h:p:=by exact (show Hid (cmT l t=cmT l a) from qf (by rw [BL h5 hwd h0 h1 h2];exact if_pos hf))):p:=h
def qgC(h:p:=by exact (qf (e1.trans e2))):p:=h
def qgD(h:p:=by
 have HW3:=qf hw;have hb3:=jW hk hb2 hne;have OK3:=qf (OK2.out.trans hk);have S3:=qf (Nat.le_trans S2.out hs);exact qsC HW3 hb3 OK3 S3):p:=h
def qgE(h:p:=by exact ((Below.refl 0 w).setCell (p:=p) qe u)):p:=h
def qgF(h:p:=by exact (show j<1024 from by unfold okN at hor;omega)):p:=h
def qgG(h:p:=by
 have m0:=af b3 0 (v:=.int .i64 (atC i)) rfl;have m1:=af b3 1 (v:=.int .i64 (atR i)) rfl;exact show _/\_ from ⟨m0,m1⟩):p:=h
def qgH(h:p:=by exact (qf (yx (s[p]'h)))):p:=h
def qgI(h:p:=by exact (qf (HP.out n' qoq))):p:=h
def qgJ(h:p:=by
 have xIF:(t.wZ==[73,70])=false:=by rw [hwd];rfl
 have xSUM:(t.wZ==[83,85,77])=true:=by rw [hwd];rfl
 exact show _/\_ from ⟨xIF,xSUM⟩):p:=h
def qgK(h:p:=by
 have e1:IntKind.i64.min= -9223372036854775808:=rfl;have e2:IntKind.i64.max=9223372036854775807:=rfl;exact show _/\_ from ⟨e1,e2⟩):p:=h
def qgL(h:p:=by
 have HP:=qf P1;have eM:=mW hf2 hl2 hr;have c0:s.data.toList.getD 0 0=62:=by rw [g0];exact hc
 exact qsF HP eM c0):p:=h
def qgM(h:p:=by exact (show Hid (lf.length+wtN R1 M 1024<=1050624) from qf (by rw [HLn.out];omega))):p:=h
def qgN(h:p:=by
 have hrl:=HR2l.out x;have HRx:=qf (HR2.out x);have HDx:=qf (HD2.out x);have HRwx:=qf (fun W hb=>HRw.out W hb x hkx);exact qsC hrl HRx HDx HRwx):p:=h
def qgP(h:p:=by exact (qf (show bW a b c d=false from by unfold bW;rw [hf,ht];rfl))):p:=h
def qgQ(h:p:=by exact (show decide ((200:Int)<(s.size:Int))=true from decide_eq_true qoq)):p:=h
def qgS(h:p:=by exact (show (b==0)=false from by simpa using h0)):p:=h
def qgT(h:p:=by exact (bV s p h)):p:=h
def qgU(h:p:=by exact (show (t.kY==2)=false from by rw [h];rfl)):p:=h
def qgV(h:p:=by exact (show g<w1.heap.size from Lib.lt_of_cell p0)):p:=h
def qgW(h:p:=by
 have k0:=aa b2 j0;have k1:=aa b2 j1;have k2:=aa b2 j2;have k3:=aa b2 j3;exact qsC k0 k1 k2 k3):p:=h
def qgX(h:p:=by exact (show decide ((4:Int)<(s.size:Int))=true from decide_eq_true qoq)):p:=h
def qgY(h:p:=by exact (run_yield (P:=P) (args:=args) h2 (by rw [hL];exact hps x args he))):p:=h
def qgZ(h:p:=by exact (qf (dS HO.out b2))):p:=h
def qha(h:p:=by
 have e2:=qf (show atR i=i / 16 from if_pos h);have e3:=qf (show vx i=true from decide_eq_true h);exact show _/\_ from ⟨e2,e3⟩):p:=h
def qhb(h:p:=by exact (qf (show am c r=dm c::Lib.itoa (r+1) from if_pos hr))):p:=h
def qhc(h:p:=by exact (show res=.ok t q from Dj HN.out hv)):p:=h
def qhd(h:p:=by exact (show (t.kY==3)=true from by rw [h];rfl)):p:=h
def qhe(h:p:=by exact ((Array.getElem?_eq_some_iff.1 h1).2)):p:=h
def qhg(h:p:=by exact (qf (show bW a b c d=false from by unfold bW;rw [hf];rfl))):p:=h
def qhh(h:p:=by exact (qf (HAl.out true false))):p:=h
def qhi(h:p:=by exact (show decide ((0:Int)<=(c:Int))=true from decide_eq_true qoq)):p:=h
def qhj(h:p:=by exact (show Hid (RS w3 R A cap L E g.1) from qf (by rw [HGE.out.1];exact HR3.out))):p:=h
def qhk(h:p:=by exact (List.mem_of_getElem? hq)):p:=h
def qhl(h:p:=by
 have e2:=qf (show atR i=0 from if_neg h);have e3:=qf (show vx i=false from decide_eq_false h);exact show _/\_ from ⟨e2,e3⟩):p:=h
def qhm(h:p:=by exact (show (((s[1]'s1).toNat:Int)==48)=true from by rw [beq_iff_eq];omega)):p:=h
def qhn(h:p:=by exact (show (((s[p+1]'hp).toNat:Int)==61)=true from db (k:=61) d61)):p:=h
def qho(h:p:=by exact (show Hid (cmT l t=bm de (0,0) (itL l t.kZ)) from qf (N1 h5 hwd))):p:=h
def qhp(h:p:=by exact (ah b1 7)):p:=h
def qhq(h:p:=by exact (show l.drop p=l[p]::l.drop (p+1) from List.drop_eq_getElem_cons hp)):p:=h
def qhr(h:p:=by
 have hown0:=World.ownsMap_made w Tryz.prog 9 cW;have hb0:Below w.heap.size w (w.alloc (.map #[] 0)):=qa;exact show _/\_ from ⟨hown0,hb0⟩):p:=h
def qhs(h:p:=by exact (show (s.extract 0 n).size=n from by rw [ByteArray.size_extract];omega)):p:=h
def qht(h:p:=by exact (fs ha a qns)):p:=h
def qhu(h:p:=by exact ((qb:Below (w.heap.size+1+1) _ _).trans (b1.mono qns))):p:=h
def qhv(h:p:=by exact (show i<s.data.toList.length from by rw [Array.length_toList];exact h)):p:=h
def qhw(h:p:=by exact (show (((s[p]'hlt).toNat:Int)==32)=false from aI (k:=32) hc)):p:=h
def qhx(h:p:=by exact (show Hid (RS w3 R A cap L E (cj L E [40] (.run (p+1)))) from qf r3)):p:=h
def qhy(h:p:=by exact (show IntKind.i64.wrap (r+1)=r+1 from IntWalk.i64_in _ qoq)):p:=h
def qhz(h:p:=by
 have k0:=af b1 0 (v:=.int .i64 c) rfl;have k1:=af b1 1 (v:=.int .i64 r) rfl;exact show _/\_ from ⟨k0,k1⟩):p:=h
def qhA(h:p:=by exact (show decide ((s.size:Int)<2)=true from decide_eq_true qoq)):p:=h
def qhB(h:p:=by exact (show (((s[p]'h).toNat:Int)==61)=false from aI (k:=61) q61)):p:=h
def qhC(h:p:=by exact (qf (hc _ P A cap b (hk.kept (Kept.of_below kb)) (hm.below kb)))):p:=h
def qhD(h:p:=by exact (qf (show am c r=[] from if_neg qqx))):p:=h
def qhE(h:p:=by exact (show (((s[p]'h).toNat:Int)==60)=true from db (k:=60) q60)):p:=h
def qhF(h:p:=by exact (show (((s[p]'h).toNat:Int)==45)=true from db (k:=45) q45)):p:=h
def qhG(h:p:=by exact (show (((s[p]'h).toNat:Int)==42)=true from db (k:=42) q42)):p:=h
def qhH(h:p:=by exact (show (((s[p]'h).toNat:Int)==40)=true from db (k:=40) q40)):p:=h
def qhI(h:p:=by exact (show (((s[p]'h).toNat:Int)==41)=true from db (k:=41) q41)):p:=h
def qhJ(h:p:=by exact (show (((s[p]'h).toNat:Int)==58)=true from db (k:=58) q58)):p:=h
def qhK(h:p:=by exact (show (((s[p]'h).toNat:Int)==61)=true from db (k:=61) q61)):p:=h
def qhL(h:p:=by exact (show ((n:Int)==0)=false from by rw [beq_eq_false_iff_ne];omega)):p:=h
def qhM(h:p:=by exact (WideMaps.keyOf_string_mk (P:=Tryz.prog) Tryz.underlying9 hs)):p:=h
def qhN(h:p:=by exact (show Below w.heap.size w w1 from (H0.out _).trans (b1.mono qns))):p:=h
def qhO(h:p:=by exact (show i<(on++fd).length from (List.getElem?_eq_some_iff.1 h.aty).1)):p:=h
def qhQ(h:p:=by exact (show Ax x a' A2 from by rw [<-hA2];exact hAx x a' A1 _ _ _ l1 hax)):p:=h
def qhR(h:p:=by exact (qf (fun W (hb:cz W)=>tP q.text qoq W hb))):p:=h
def qhS(h:p:=by exact (show Hid (cmT l t=bv cN (itL l t.kZ)) from qf (NS h5 hwd))):p:=h
def qhT(h:p:=by exact (show Hid (cmT l t=bv cM (itL l t.kZ)) from qf (MH h5 hwd))):p:=h
def qhV(h:p:=by
 have B2:Below w1.heap.size w1 w2:=(Below.refl _ w1).drew.trans b2;have m0:=aa B2 k0;exact show _/\_ from ⟨B2,m0⟩):p:=h
def qhW(h:p:=by exact (show lr=.bad z from HK.out)):p:=h
def qhX(h:p:=by exact (show decide (L.length<=p)=true from decide_eq_true qoq)):p:=h
def qhY(h:p:=by exact (qf h2)):p:=h
def qhZ(h:p:=by exact (show (PE==4)=false from by rw [beq_eq_false_iff_ne];exact e4)):p:=h
def qia(h:p:=by exact (show (i+1)*n<=L.length*n from Nat.mul_le_mul_right n hlt)):p:=h
def qib(h:p:=by
 have HO2:=qf (HO.out.below hb3);have HB2:=qf (HB.out.trans (hb3.mono hs1));have hs2:=HB2.out.size;exact qsF HO2 HB2 hs2):p:=h
def qic(h:p:=by exact (qf (show aQ c r= -1 from if_neg qqx))):p:=h
def qid(h:p:=by exact (show (b==0)=false from by rw [beq_eq_false_iff_ne];exact hz)):p:=h
def qie(h:p:=by exact (show (E==4)=false from by rw [beq_eq_false_iff_ne];exact h4)):p:=h
def qif(h:p:=by exact (show Below wr.heap.size wr w2 from qa.trans (hb2.mono qns))):p:=h
def qiz(h:p:=by
 refine ⟨⟨x0,x1,x2,x3,x4,x5,xw,xA,xl,xc⟩,t,q,qd,qf ?_,HKK⟩
 exact ⟨HR1.out.alloc _,h1.alloc _,qns,qnu,by
  refine TV.imp (P:=(fun b=>w.heap.size<b/\b≠w1.heap.size)) ?_ fun b hb=>hb
  exact (TV.fresh HVx1.out).kept ((Kept.refl _ _).alloc _),ai k10 _,ai k11 _,ai k12 _,ai k13 _,ai k14 _,ai k15 _,ai k16 _,ai k17 _,aF kf10 zk1 _,aF kf11 zk1 _,aF kf12 zk1 _,aF kf13 zk1 _,aF kf14 zk1 _,aF kf15 zk1 _,aF kf16 zk1 _,aF kf17 zk1 _,qnp,qnp,qnp,qnp,qnp,qnp,qnp,qnp,qnp,qnp,qnp,qnp,qnp,qnp,qnp,qnp⟩):p:=h
def qiA(h:p:=by exact ⟨rfl,rfl,But.trans (have hv:=h1;qni) b2⟩):p:=h
def qiB(h:p:=by
 rw [if_neg (by rw [hm2];decide)] at hk;obtain rfl:=Option.some.inj hk;have HM:=qf hm2;clear hm2 hk;refine (hMoff.out _ q (have hv:=HR2.out;qnk) HM.out).mono ?_;rintro e w9 ⟨rfl,b9⟩;exact ⟨rfl,rfl,But.trans (have hv:=h2;qni) b9⟩):p:=h
def qiG(h:p:=by exact ⟨rfl,rfl,But.trans qno b1⟩):p:=h
def qiW(h:p:=by constructor<;>intros<;>first|(rw [ak];intro _ _ h;cases h)|(rw [bC];intro _ _ h;cases h)|(rw [bR];intro _ _ h;cases h)|(rw [ct];intro _ _ h;cases h)|(rw [bx];intro _ _ h;cases h)|(rw [bg];intro _ _ h;cases h)):p:=h
def qiX(h:p:=by
 unfold gW
 have:l.find? (fun x=>(x.c==q.c&&x.r==q.r))=some q:=by
  obtain ⟨i,hi⟩:=List.mem_iff_getElem?.1 hq;refine zF hi (fun x hx=>?_) qns;obtain ⟨k,hk⟩:=List.mem_iff_getElem?.1 hx;rw [List.getElem?_take] at hk;split at hk
  ·rename_i hki
   cases e:(x.c==q.c&&x.r==q.r) with
   |false=>rfl
   |true=>
    simp at e
    exact absurd h2 (pC hki hk hi e)
  ·cases hk
 rw [this]):p:=h
def qjb(h:p:=by rw [World.frozen?_of_block (a:=⟨w.heap.size+1+1,0,none⟩) (hg5.block (w.heap.size+1+1) qru (hne _ qor))];simp [go_sem]):p:=h
def qjd(h:p:=by rw [World.frozen?_of_block (a:=⟨w.heap.size+1,0,none⟩) (hg5.block (w.heap.size+1) qru (hne _ qoo))];simp [go_sem]):p:=h
def qjh(h:p:=by
 refine (((((qb.alloc hB _).alloc qnu _).alloc qnu _).alloc qnu _).grown hg5 qnu (fun k hk=>?_));exact (hob k hk).1):p:=h
def qji(h:p:=by rw [World.frozen?_of_block (a:=⟨w.heap.size,j,none⟩) (hg5.block w.heap.size qor (hne _ qoo))];simp [go_sem]):p:=h
def qjk(h:p:=by
 have he:=qhe;show (V.heap.modify B _)[B]? =_
 rw [Array.getElem?_eq_getElem (by rw [Array.size_modify];exact hlt),Array.getElem_modify_self,he];rfl):p:=h
def qjn(h:p:=by
 obtain ⟨i,q,k,hi,hk,e⟩:=oC hf hn0 hj;have:=hL i q hi k u hk;rw [Go.WideShapes.add_plain,e,<-Nat.add_assoc];exact this):p:=h
def qjp(h:p:=by
 obtain ⟨⟨A,cap,h8,hv⟩,hl⟩:=h;match i,hi with
 |0,hi=>
  simp at hi
  subst hi;exact ⟨A,cap,h8,hv⟩
 |i+1,hi=>
  have:=hl.at (i:=i) (t:=t) qph;rwa [show o+8+8*i=o+8*(i+1) from by omega] at this):p:=h
def qjr(h:p:=by
 have xN:=qds
 have HM2:Hid (ay t=(aR t t.kZ.length&&(be t.kZ true false&&decide (0<t.kZ.length)))):=qf (by
  rw [lN h,xN,xCOUNT];congr 2
  rw [if_neg qqm,if_pos qqm])
 obtain ⟨HK,HAl⟩:=qba;clear HM hwd h;unfold tv at HAl;clear ih hd hw hk;generalize aR t t.kZ.length=O at*;have HA2:=qhh;clear HAl;generalize be t.kZ true false=RB at*;obtain ⟨D,hD⟩:∃D,decide (0<t.kZ.length)=D:=⟨_,rfl⟩
 rw [hD] at HM2;exact qit):p:=h
def qjv(h:p:=by
 have hO:aD s.data.toList p=(match dX (ar s.data.toList p n) with|some u=>some (⟨1,(u:Int),0,0,[],p⟩,n)|none=>none):=by
  unfold aD;rw [if_pos (by rw [g0];exact HF.out),hR]
 have hN:=qdq;rw [bQ] at hN;have HN:=qf hN;clear hN hR gn;exact qiy):p:=h
def qjy(h:p:=by
 have hb:=qgE;refine ⟨hb.os.trans h.os,hb.tape.trans h.tape,hb.output.trans h.output,Nat.le_trans h.size hb.size,fun k hk hn=>?_⟩;rw [Below.heap_setCell w p u k (by rcases hp with hp|hp;exact fun e=>hn (e.trans hp);exact fun e=>by omega)];exact h.block k hk hn):p:=h
def qjA(h:p:=by
 obtain ⟨rfl,b4⟩:=H4;have hk2:=qhW;subst hk2;exact ⟨rfl,rfl,But.trans (have hv:=h3;qni) b4⟩):p:=h
def qjB(h:p:=by
 cases t with
 |mk k n c r d s w ks=>
  obtain rfl:k=4:=h4;obtain rfl:ks=[u,v]:=hu;rw [txT,if_neg qnv,if_neg qnv,if_neg qnv,if_neg qnv,if_pos rfl,cx,cx];rfl):p:=h
def qjI(h:p:=by
 cases B1 with
 |true=>
  exact qil
 |false=>
  cases B6 with
  |true=>
   exact qil
  |false=>
   cases AT with
   |true=>
    exact qil
   |false=>
    exact qin):p:=h
def qjK(h:p:=by
 rintro rfl;rcases hat5 with h|h
 ·exact hne _ qd h
 ·have h2:=Option.some.inj h
  simp at h2
  omega):p:=h
def qjM(h:p:=by
 obtain rfl:k=4:=h4;have:ee (.mk 4 n c r d s w ks)=(decide (0<=(lvl w:Int) - 1)&&dj ks 2):=rfl;rw [this] at hso;unfold dj at hso;simp at hso
 exact hso.2.1):p:=h
def qjN(h:p:=by
 rcases h with h|⟨g,o,rfl,hp,hl,hc⟩
 ·exact .inl h
 ·exact .inr ⟨g,o,rfl,hpq g hp hl,hl,hc⟩):p:=h
def qjO(h:p:=by
 cases t with
 |mk k n c r d s w ks=>
  obtain rfl:k=3:=h3;obtain rfl:ks=[u]:=hu;rw [txT,if_neg qnv,if_neg qnv,if_neg qnv,if_pos rfl,cx];rfl):p:=h
def qjQ(h:p:=by
 cases t with
 |mk k n c r d s w ks=>
  obtain rfl:k=5:=h5;rw [txT,if_neg qnv,if_neg qnv,if_neg qnv,if_neg qnv,if_neg qnv,if_pos rfl];rfl):p:=h
def qjT(h:p:=by
 intro a b c hi;obtain ⟨s1,s2⟩:=hat a b c hi;exact ⟨(by rw [hg.cell_far _ hgl (fun e=>h2 e.symm)];exact s1),(by rw [hg.cell_far _ hgl (fun e=>h2 e.symm)];exact s2)⟩):p:=h
def qjU(h:p:=by
 show (match aU q.text with|some t=>_|none=>_)=_
 rw [ht];rfl):p:=h
def qjW(h:p:=by
 rcases (hme r).1 (h.blk v hv r he) with q|q|q
 ·exact q
 ·exact absurd (.inr (dB he.one (hlt r q))) hvx
 ·exact absurd (.inr (q▸he.one)) hvx):p:=h
def qjX(h:p:=by
 refine ih ?_ hrx;rcases (hme r).1 (h.blk v hv r he) with q|q|q
 ·exact q
 ·exact absurd (.inr (hlt r q)) hrx
 ·exact absurd (.inl q) hrx):p:=h
def qjY(h:p:=by
 cases t with
 |mk k n c r d s w ks=>
  obtain rfl:k=0:=h0;rw [txT,if_pos rfl];obtain ⟨m,rfl⟩:=Int.eq_ofNat_of_zero_le hn.1;exact (Lib.itoa_nonneg m).symm):p:=h
def qjZ(h:p:=by
 obtain rfl:k=5:=h5;rintro (rfl:ks=[]);have:ee (.mk 5 n c r d s w [])=fV w []:=rfl;rw [this] at hso;unfold fV dj at hso;simp at hso):p:=h
def qka(h:p:=by
 rw [tY j hj2,<-hd] at he;have e1:=congrArg UInt8.toNat (List.cons.inj he).1;rw [gU _ qoq qoq] at e1;have e2:=BP (List.cons.inj he).2;omega):p:=h
def qkb(h:p:=by
 obtain ⟨t60,t62,t43,t45,t42,t47⟩:=qp;obtain ⟨t40,t41,t44⟩:=qaG;have t58:=qdz;have t61:=qhK;clear g0 g1 q60 q62 q43 q45 q42 q47 q40 q41 q44 q58 q61;exact qiv):p:=h
def qkc(h:p:=by by_cases h1:x=p<;>by_cases h2:y=q<;>simp [go_sem,h1,h2]):p:=h
def qke(h:p:=by
 have e4:∀(a:ByteArray) (x:UInt8),a.data.toList=[x]->a=⟨#[x]⟩:=fun a x hx=>by
  obtain ⟨d⟩:=a;congr
  exact Array.toList_inj.1 hx
 exact e4 _ _ e):p:=h
def qkf(h:p:=by
 rcases h with h|⟨g,o,rfl,hp,hl,hc⟩
 ·exact .inl h
 ·exact .inr ⟨g,o,rfl,hp,Nat.lt_of_lt_of_le hl hk.size,fun i q hi j u hj=>hk.cell hp (hc i q hi j u hj)⟩):p:=h
def qkg(h:p:=by
 obtain rfl:k=3:=h3;have:ee (.mk 3 n c r d s w ks)=dj ks 1:=rfl;rw [this] at hso;unfold dj at hso;simp at hso
 exact hso.1):p:=h
def qkh(h:p:=by
 have:=ev hq;unfold Src.ix aQ;rw [if_pos hq];exact decide_eq_false qoq):p:=h
def qkk(h:p:=by
 apply ByteArray.ext
 simp [ByteArray.data_extract]):p:=h
def qkl(h:p:=by
 obtain rfl:k=0:=h0;refine ⟨?_,hn⟩;have:ee (.mk 0 n c r d s w ks)=decide (0<=n):=rfl;exact of_decide_eq_true (this.symm.trans hso)):p:=h
def qkm(h:p:=by
 obtain ⟨t60,t62,t43,t45,t42,t47⟩:=qp;obtain ⟨t40,t41,t44⟩:=qaG;have t58:=qhJ;clear g0 g1 q60 q62 q43 q45 q42 q47 q40 q41 q44 q58;exact qiv):p:=h
def qkn(h:p:=by exact ⟨fun h=>⟨h,hk rfl⟩,fun h=>h.1⟩):p:=h
def qko(h:p:=by exact ⟨fun e=>by simp at e,fun e=>by simp at e,fun e=>by simp at e,qns⟩):p:=h
def qkp(h:p:=by
 obtain ⟨rfl,b2⟩:=H2;have hk2:res=.bad z:=HK.out;subst hk2;exact qiA):p:=h
def qkq(h:p:=by
 have e:gq=q:=by simpa [Value.ownBlock] using hq
 subst e;rcases hat4 with h|h
 ·exact .inl h
 ·right;omega):p:=h
def qks(h:p:=by
 obtain ⟨t60,t62,t43,t45,t42,t47⟩:=qp;have t40:=qdy;obtain ⟨t41,t44⟩:=qfp;clear g0 g1 q60 q62 q43 q45 q42 q47 q40 q41 q44;exact qiv):p:=h
def qkt(h:p:=by rw [World.cell?_of_block (w:=w) (h.block p.block (Lib.lt_of_cell hv) hne)];exact hv):p:=h
def qkv(h:p:=by
 obtain rfl:k=2:=h2;rw [txT,if_neg qnv,if_neg qnv,if_neg qnv,if_neg qnv,if_neg qnv,if_neg qnv]):p:=h
def qkw(h:p:=by
 intro e;have:=congrArg List.length e;unfold ar at this;rw [List.length_take,List.length_drop,aq] at this;simp at this
 omega):p:=h
def qkx(h:p:=by
 unfold compact compactUpTo;rw [List.length_map];have:=List.length_filter_le (keeps l.toArray) (List.range l.length);rwa [List.length_range] at this):p:=h
def qkA(h:p:=by
 cases B4 with
 |true=>
  cases B5 with
  |true=>
   exact qjt
  |false=>
   have ea:=qeg;have eb:=qeK;omega
 |false=>
  have ea:=qeg;have eb:=qeL;omega):p:=h
def qkB(h:p:=by
 cases B4 with
 |true=>
  cases B5 with
  |true=>
   exact qjt
  |false=>
   have ea:=qfF;have eb:=qeK;omega
 |false=>
  have ea:=qfF;have eb:=qeL;omega):p:=h
def qkC(h:p:=by
 cases B4 with
 |true=>
  cases B5 with
  |true=>
   exact qjt
  |false=>
   have ea:=qfG;have eb:=qeK;omega
 |false=>
  have ea:=qfG;have eb:=qeL;omega):p:=h
def qkE(h:p:=by with_reducible repeat' (first|exact hd|refine Below.setCell ?_ qpw _)):p:=h
def qkF(h:p:=by
 rcases Nat.lt_or_ge 200 s.data.toList.length with h|h
 ·have e3:cF s.data.toList=3:=if_pos h
  rw [e3] at h0;cases h0
 ·exact h):p:=h
def qkK(h:p:=by
 obtain ⟨t60,t62,t43,t45,t42,t47⟩:=qp;have t40:=qdy;have t41:=qhI;clear g0 g1 q60 q62 q43 q45 q42 q47 q40 q41;exact qiv):p:=h
def qkL(h:p:=by
 have:=World.alloc_heap_new (w.alloc (.deferred (some []))) (.loop (L .ready none));rw [World.size_alloc] at this;rw [<-hV];exact this):p:=h
def qkM(h:p:=by
 have key:=qee;refine key _ ?_;with_reducible repeat' (first|exact Kept.refl _ _|refine Kept.set1 ?_ qd _ _|refine Kept.alloc ?_ _)):p:=h
def qkN(h:p:=by
 rcases h.2 with ⟨e,_⟩|⟨g',cap',cur,hv,_,hh,hc,_,_,ht⟩
 ·cases e
 ·simp at hv
  obtain ⟨rfl,rfl⟩:=hv;exact hc):p:=h
def qkO(h:p:=by
 rw [List.take_add_one,hq] at hx;rcases List.mem_append.1 hx with e|e
 ·exact h x e
 ·obtain rfl:x=q:=by simpa using e
  exact hp):p:=h
def qkT(h:p:=by
 obtain ⟨t60,t62,t43⟩:=qaF;have t45:=qdx;obtain ⟨t42,t47⟩:=qfo;clear g0 g1 q60 q62 q43 q45 q42 q47;exact qiv):p:=h
def qkU(h:p:=by rw [World.frozen?_of_block (w:=w) (h.block p.block hl hne)];exact hv):p:=h
def qkV(h:p:=by
 have:=ev hq;unfold KB Src.ix aQ;rw [if_pos hq];omega):p:=h
def qkX(h:p:=by
 cases a with
 |none=>cases e
 |some r=>
  cases r with
  |ok u p=>exact hf u p (h u p rfl) t q e
  |bad w=>cases e):p:=h
def qkY(h:p:=by
 rw [hl] at h;cases r with
 |bad z=>exact ⟨_,rfl,(Option.some.inj h).symm⟩
 |ok t q=>exact ⟨_,rfl,h⟩):p:=h
def qkZ(h:p:=by
 obtain ⟨rfl,b1⟩:=H1;have hk:=qel;subst hk;exact qiG):p:=h
def qlc(h:p:=by
 obtain ⟨rfl,b2⟩:=H2;exact qiA):p:=h
def qld(h:p:=by
 obtain ⟨q,_,hq⟩:=List.mem_flatMap.1 hu';exact h1c q u hq):p:=h
def qlf(h:p:=by
 obtain ⟨t60,t62,t43,t45,t42,t47⟩:=qp;have t40:=qhH;clear g0 g1 q60 q62 q43 q45 q42 q47 q40;exact qiv):p:=h
def qlg(h:p:=by
 unfold tv8 at hx;injection hx with h0 h1 h2 h3 h4 h5 h6 h7 h8 h9
 exact ⟨h0,h1,h2,h3,h4,h5,h6,h7,h8,h9⟩):p:=h
def qli(h:p:=by
 obtain ⟨c,h1,h2,h3⟩:=h;refine ⟨?_,(by simp [World.frozen?,h1])⟩;rw [Lib.cell_of_heap h1 j];exact h3 j hj):p:=h
def qlj(h:p:=by
 intro l m;induction l with
 |nil=>rfl
 |cons a r ih=>rw [List.cons_append,ptL,ptL,ih,List.append_assoc]):p:=h
def qlk(h:p:=by
 obtain ⟨t60,t62,t43⟩:=qaF;have t45:=qdx;have t42:=qhG;clear g0 g1 q60 q62 q43 q45 q42;exact qiv):p:=h
def qll(h:p:=by exact ⟨D,(d1.kept h3 (by simp;first|exact h.ne.2.2|exact fun e=>h.ne.2.2 e.symm)).mono (Nat.le_succ _),d2⟩):p:=h
def qlo(h:p:=by
 rw [<-h2] at h3;rw [h3];unfold ar;exact List.take_of_length_le (by rw [List.length_drop,aq];omega)):p:=h
def qlp(h:p:=by exact ⟨fun h=>⟨h.1,⟨h.2.2,h.2.1.1⟩,h.2.1.2⟩,fun h=>⟨h.1,⟨h.2.1.2,h.2.2⟩,h.2.1.1⟩⟩):p:=h
def qlq(h:p:=by
 obtain ⟨_,_,h3⟩:=iH hd;have e2:(45:UInt8).toNat=45:=rfl;omega):p:=h
def qlr(h:p:=by exact ⟨gS (z8 qnY),rfl⟩):p:=h
def qlt(h:p:=by
 rw [List.length_append,List.flatMap_append];exact hown'):p:=h
def qlv(h:p:=by
 unfold aD;rw [if_neg (by rw [g0,HF.out.1];decide),if_pos (by rw [g0];exact HF.out.2),hR]):p:=h
def qlw(h:p:=by rw [hg5.block k qnu (fun e=>by have:=hob k e.symm;omega),Below.heap_alloc w4 _ k hk]):p:=h
def qlx(h:p:=by
 obtain rfl:k=6:=h6;rw [txT,if_neg qnv,if_neg qnv,if_pos rfl];rfl):p:=h
def qly(h:p:=by
 have hz:=qeq;exact qjt):p:=h
def qlz(h:p:=by exact World.news_of_block (cs:=(f q).toArray) (t:=E) (fr:=(0,0)) hb j u qpg):p:=h
def qlA(h:p:=by
 obtain ⟨t60,t62,t43⟩:=qaF;have t45:=qhF;clear g0 g1 q60 q62 q43 q45;exact qiv):p:=h
def qlB(h:p:=by
 have:nb*(X.length+1)<=100*(1000000+1):=Nat.mul_le_mul hnb qoq;omega):p:=h
def qlC(h:p:=by
 have h1:=Hm.out;unfold bN at h1;rw [hh.out] at h1;simpa using h1):p:=h
def qlD(h:p:=by
 rw [<-hW1];unfold V8L;refine ⟨?_,?_,?_,?_,?_,?_,?_,?_⟩<;>simp [go_sem]):p:=h
def qlE(h:p:=by
 simp only [bne_iff_ne,ne_eq];intro e;exact hc (UInt8.toNat_inj.1 qnu)):p:=h
def qlF(h:p:=by
 simp at this
 omega):p:=h
def qlG(h:p:=by
 have:nb*(X.length+L2.length)<=100*2000000:=Nat.mul_le_mul hnb hlen;omega):p:=h
def qlI(h:p:=by
 unfold cE jt;cases decide ((j:Int)∈RR.take k)<;>simp<;>omega):p:=h
def qlJ(h:p:=by
 unfold aE jb cF;rw [if_neg h,if_neg h,if_neg h,e];exact ⟨rfl,rfl,rfl⟩):p:=h
def qlK(h:p:=by
 rcases h3 with h3|h3
 ·exact .inl h3.symm
 ·exact .inr qqj):p:=h
def qlL(h:p:=by exact ⟨x,hx,fun t q' e=>⟨(by have:=(h' t q' e).1;omega),(h' t q' e).2⟩⟩):p:=h
def qlM(h:p:=by
 cases ht:L[p]? with
 |none=>rw [i6 ht];rfl
 |some t=>rw [eY ht]):p:=h
def qlO(h:p:=by
 have:=List.pairwise_iff_getElem.1 h k i h3 h4 hk;rw [e3,e4] at this;exact this e):p:=h
def qlP(h:p:=by exact absurd (List.length_eq_zero_iff.1 hl) hne):p:=h
def qlR(h:p:=by unfold ax;rw [List.range_succ,List.filter_append,List.map_append];simp [h]):p:=h
def qlS(h:p:=by exact ⟨x,hx,fun t q' e=>⟨(by have:=(h t q' e).1;omega),(h t q' e).2⟩⟩):p:=h
def qlT(h:p:=by
 have HG:=qf (HTE.out (by rw [HKB.out,m6,h6,h2];rfl));exact qiH):p:=h
def qlU(h:p:=by
 have HF:=qf (HTB.out (by rw [HKB.out,m6,h6,h2];rfl));exact qjm):p:=h
def qlV(h:p:=by
 obtain rfl:k=1:=h1;rw [txT,if_neg qnv,if_pos rfl];rfl):p:=h
def qlW(h:p:=by
 split at h
 ·rename_i t ht;exact (List.getElem?_eq_some_iff.1 ht).1
 ·cases h):p:=h
def qlX(h:p:=by
 cases c
 ·exact ⟨_,_,.itT .bad⟩
 ·exact ⟨_,_,.itBad⟩):p:=h
def qlY(h:p:=by
 have:=h v w hown (lL _ _) (.inl rfl);rw [e] at this;exact this):p:=h
def qlZ(h:p:=by
 unfold aD;rw [if_neg (by rw [g0,hf];decide),if_neg (by rw [g0];omega)]):p:=h
def qma(h:p:=by
 obtain rfl:l'=l:=by omega
 obtain rfl:c'=c:=by omega
 rfl):p:=h
def qmb(h:p:=by unfold rdM;rw [List.range_succ,List.filter_append,List.map_append];simp [h]):p:=h
def qmc(h:p:=by rw [<-hV,Below.heap_alloc _ _ _ qns];exact World.alloc_heap_new w _):p:=h
def qmh(h:p:=by
 obtain ⟨x,hx,rfl,hy⟩:=h;exact ⟨(hk x hx).1,(hk x hx).2 y hy⟩):p:=h
def qmj(h:p:=by
 obtain ⟨t60,t62,t43⟩:=qdG;clear g0 g1 q60 q62 q43;exact qiv):p:=h
def qml(h:p:=by
 obtain ⟨rfl,b1⟩:=H1;have hk2:=qhW;subst hk2;exact qiG):p:=h
def qmm(h:p:=by
 obtain ⟨rfl,b2⟩:=H2;have hk:=qel;subst hk;exact qiA):p:=h
def qmo(h:p:=by
 obtain ⟨c,h1,_⟩:=h;exact (Array.getElem?_eq_some_iff.1 h1).1):p:=h
def qmp(h:p:=by
 have eb:=qfE;omega):p:=h
def qms(h:p:=by unfold nrd;rw [List.take_add_one,h,List.filter_append];simp [hr]):p:=h
def qmt(h:p:=by
 obtain ⟨c,h1,h2,h3⟩:=h;exact ⟨c,hb.trans h1,h2,h3⟩):p:=h
def qmw(h:p:=by
 unfold rest;rw [hm,if_neg qnv];simp [hk]):p:=h
def qmx(h:p:=by exact ⟨rfl,rfl⟩):p:=h
def qmy(h:p:=by simp [RowKit.intOf];omega):p:=h
def qmz(h:p:=by exact ⟨aK (gF (by rw [bp];simp;omega)),qa⟩):p:=h
def qmA(h:p:=by exact ⟨aK ((rH _ _).2 qoq).symm,qa⟩):p:=h
def qmB(h:p:=by exact ⟨0,s.data.toList.length+1,[],qe,rfl,qe,qf ⟨rfl,qnX⟩,World.ownsRow_nil _ _ _ _,qb⟩):p:=h
def qmC(h:p:=by simp [fy] at hj;subst hj;simp [Addr.add,go_sem]):p:=h
def qmD(h:p:=by intro u hu;simp [fy] at hu;rcases hu with rfl|rfl|rfl|rfl|rfl|rfl<;>rfl):p:=h
def qmE(h:p:=by unfold maxLen;omega):p:=h
def qmF(h:p:=by exact bL.bad _ _ _):p:=h
def qmG(h:p:=by exact bL.ok qoq qoq):p:=h
def qmH(h:p:=by simp at hi;obtain ⟨rfl,rfl⟩:=hi;exact ⟨h8,hx⟩):p:=h
def qmI(h:p:=by simp at hi;obtain ⟨rfl,rfl⟩:=hi;exact ⟨k8,hy⟩):p:=h
def qmJ(h:p:=by repeat' (first|(with_reducible exact But.refl _ _)|(with_reducible refine But.setR ?_ _ _)|(with_reducible refine But.alloc ?_ _))):p:=h
def qmK(h:p:=by have h:=(Prod.mk.inj (Option.some.inj h)).1;subst h;intro _;rfl):p:=h
def qmL(h:p:=by have h:=(Prod.mk.inj (Option.some.inj h)).1;subst h;intro e;simp at e):p:=h
def qmM(h:p:=by simp at hj;subst hj;simp [Addr.add]):p:=h
def qmN(h:p:=by intro u hu;simp at hu;rcases hu with rfl|rfl<;>rfl):p:=h
def qmO(h:p:=by simp [nP,RowKit.intOf];omega):p:=h
def qmP(h:p:=by simp [dI] at hj;subst hj;simp [Addr.add,go_sem]):p:=h
def qmQ(h:p:=by intro u hu;simp [dI] at hu;rcases hu with rfl|rfl|rfl|rfl|rfl|rfl|rfl|rfl<;>rfl):p:=h
def qmR(h:p:=by rw [ak] at hf;cases hf):p:=h
def qmS(h:p:=by exact leaf _ _ _ _ _ _ _):p:=h
def qmT(h:p:=by exact ⟨0,qoq,rfl,World.ownsRow_nil _ _ _ _,qb⟩):p:=h
def qmU(h:p:=by simp at h;subst h;simp [Addr.add,go_sem]):p:=h
def qmV(h:p:=by exact ⟨0,qe,rfl,(by rw [List.take_zero,itL];exact World.ownsRow_nil _ _ _ _),qb⟩):p:=h
def qmW(h:p:=by simp [fy,eP] at hj;subst hj;simp [Addr.add,go_sem]):p:=h
def qmX(h:p:=by intro u hu;simp [fy,eP] at hu;rcases hu with rfl|rfl|rfl|rfl|rfl|rfl<;>rfl):p:=h
def qmY(h:p:=by exact xm qnv):p:=h
def qmZ(h:p:=by exact leaf _ _ _ _ _ _ _ _ qd):p:=h
def qna(h:p:=by exact ⟨0,qe,rfl,qf (by rw [List.take_zero];exact World.ownsRow_nil _ _ _ _),qf qb⟩):p:=h
def qnb(h:p:=by rw [hnil] at hkl;exact absurd hkl (Nat.not_lt_zero _)):p:=h
def qni(h:p:=by with_reducible repeat' (first|exact hv|refine zBr ?_ _ _|refine zBs ?_ qoq _ _|refine zBa ?_ _|refine zBn ?_ _|refine zBd ?_)):p:=h
def qnj(h:p:=by with_reducible repeat' (first|exact hv|refine zCs ?_ qoq _ _|refine zCa ?_ _|refine zCn ?_ _|refine zCd ?_)):p:=h
def qnk(h:p:=by with_reducible repeat' (first|exact hv|refine RL.far ?_ qoq _ _|refine RL.alloc ?_ _|refine RL.drewN ?_ _|refine RL.drew ?_)):p:=h
def qnl(h:p:=by with_reducible repeat' (first|exact hv|refine zRf ?_ nk _ _|refine zRa ?_ _|refine zRn ?_ _|refine zRd ?_)):p:=h
def qnm(h:p:=by with_reducible repeat' (first|exact Kept.refl _ _|refine Kept.set1 ?_ qoq _ _|refine Kept.set2 ?_ qoq _ _|refine Kept.set2o ?_ _ _|refine Kept.setNew ?_ qoq _ _|refine Kept.alloc ?_ _|refine Kept.drewN ?_ _|refine Kept.drew ?_)):p:=h
def qnn(h:p:=by repeat' (first|with_reducible assumption|exact Nat.le_succ _|with_reducible exact qd|with_reducible refine Below.setCell ?_ ?_ _|with_reducible refine Below.alloc ?_ ?_ _|(simp;omega))):p:=h
def qno(h:p:=by with_reducible repeat' (first|exact But.refl _ _|refine zBr ?_ _ _|refine zBs ?_ qoq _ _|refine zBa ?_ _|refine zBn ?_ _|refine zBd ?_)):p:=h
def qnp(h:p:=by simp [go_sem]):p:=h
def qnq(h:p:=by with_reducible repeat' (first|exact hv|refine zFs ?_ qoq _ _|refine zFa ?_ qor _|refine zFn ?_ _|refine zFd ?_)):p:=h
def qnr(h:p:=by with_reducible repeat' (first|exact hv|refine zRf ?_ nk _ _|refine zRf ?_ na _ _|refine zRa ?_ _|refine zRn ?_ _|refine zRd ?_)):p:=h
def qns(h:p:=by simp):p:=h
def qnt(h:p:=by first|omega|(simp;done)|(simp;omega)):p:=h
def qnu(h:p:=by simp;omega):p:=h
def qnv(h:p:=by decide):p:=h
def qnw(h:p:=by with_reducible repeat' (first|exact hv|refine zRf ?_ nk _ _|refine zRf ?_ no _ _|refine zRa ?_ _|refine zRn ?_ _|refine zRd ?_)):p:=h
def qny(h:p:=by with_reducible repeat' (first|exact Kept.refl _ _|refine Kept.set1 ?_ qoq _ _|refine Kept.setNew ?_ qoq _ _|refine Kept.alloc ?_ _|refine Kept.drewN ?_ _|refine Kept.drew ?_)):p:=h
def qnz(h:p:=by with_reducible repeat' (first|exact hv|exact B3|exact B2|exact B1|exact qd|exact B3.size|exact B2.size|exact B1.size|refine Below.drew ?_|refine Below.alloc ?_ ?_ _|refine Below.setCell ?_ ?_ _)):p:=h
def qnA(h:p:=by unfold maxLen;decide):p:=h
def qnB(h:p:=by with_reducible repeat' (first|exact hv|exact qd|refine Below.drew ?_|refine Below.alloc ?_ ?_ _|refine D5 ?_|refine Kc ?_)):p:=h
def qnC(h:p:=by with_reducible repeat' (first|exact hv|exact qd|refine Below.drew ?_)):p:=h
def qnD(h:p:=by show w.heap.size<w.heap.size+1;omega):p:=h
def qnE(h:p:=by with_reducible repeat' (first|exact hv|exact qd|refine Below.drew ?_|refine Below.alloc ?_ ?_ _|refine pY ?_|refine uD ?_)):p:=h
def qnF(h:p:=by with_reducible repeat' (first|exact Kept.refl _ _|refine Kept.set1 ?_ qoq _ _|refine Kept.setNew ?_ qoq _ _|refine Kept.alloc ?_ _|refine Kept.drewN ?_ _)):p:=h
def qnH(h:p:=by unfold maxLen;omega):p:=h
def qnI(h:p:=by rw [HE.out]):p:=h
def qnK(h:p:=by rw [<-hw5];simp [go_sem]):p:=h
def qnL(h:p:=by rfl):p:=h
def qnM(h:p:=by refine ⟨?_,?_,?_,?_,?_,?_,?_,?_⟩<;>exact b3.cell (show w.heap.size+1≠R by omega) (by first|(simp [go_sem];done)|(simp [go_sem,t20,t21,t22,t23,t24,t25,t26,t27];done))):p:=h
def qnN(h:p:=by have h:=HL.out;simp at h ⊢;omega):p:=h
def qnO(h:p:=by rw [h];decide):p:=h
def qnP(h:p:=by with_reducible repeat' (first|exact hv|refine Below.drew ?_)):p:=h
def qnQ(h:p:=by with_reducible repeat' (first|exact hv|refine zRf ?_ nk _ _|refine zRf ?_ na _ _|refine zRf ?_ nb _ _|refine zRa ?_ _|refine zRn ?_ _|refine zRd ?_)):p:=h
def qnR(h:p:=by simp [results,Tryz.results135,go_sem]):p:=h
def qnS(h:p:=by rw [HO.out]):p:=h
def qnT(h:p:=by first|rfl|trivial):p:=h
def qnU(h:p:=by with_reducible repeat' (first|exact hv|exact qd|refine Below.drew ?_|refine below_drewN ?_ _)):p:=h
def qnV(h:p:=by first|(simp;done)|(simp;omega)):p:=h
def qnX(h:p:=by rw [aq];omega):p:=h
def qnY(h:p:=by unfold B64;omega):p:=h
def qnZ(h:p:=by simp [results,Tryz.results128,go_sem,k20,k21,k22,k23,k24,k25]):p:=h
def qoa(h:p:=by exact Nat.le_refl w.heap.size):p:=h
def qoc(h:p:=by simp [results,Tryz.results277,go_sem,k30,k31,k32,k33,k34,k35,k36,k37,t30,t31,t32,t33,t34,t35,t36,t37,zk3,zt3]):p:=h
def qod(h:p:=by show ¬(w4.heap.size=b2);omega):p:=h
def qoe(h:p:=by injection e):p:=h
def qof(h:p:=by simp [results,Tryz.results239,go_sem,k30,k31,k32,k33,k34,k35,k36,k37]):p:=h
def qog(h:p:=by have:=run_endLoop (P:=P) h2 (by rw [hL];simp);rw [hL] at this;exact this):p:=h
def qoh(h:p:=by first|assumption|trivial):p:=h
def qoi(h:p:=by rw [<-hw2];simp [go_sem]):p:=h
def qoj(h:p:=by first|exact qd|omega|(simp;done)|(simp;omega)):p:=h
def qok(h:p:=by repeat' (first|with_reducible exact qb|with_reducible exact qd|with_reducible refine Below.alloc ?_ ?_ _)):p:=h
def qol(h:p:=by simp [results,Tryz.results176,go_sem,k10,k11,k12,k13,k14,k15,z1]):p:=h
def qom(h:p:=by have:=b4.size;first|omega|(simp at this;omega)):p:=h
def qon(h:p:=by have:=b9.size;first|omega|(simp at this;omega)):p:=h
def qoo(h:p:=by first|omega|simp):p:=h
def qop(h:p:=by with_reducible repeat' (first|exact hv|refine zRf ?_ nk _ _|refine zRf ?_ na _ _|refine zRf ?_ naa _ _|refine zRf ?_ nbb _ _|refine zRf ?_ ncc _ _|refine zRa ?_ _|refine zRn ?_ _|refine zRd ?_)):p:=h
def qoq(h:p:=by omega):p:=h
def qor(h:p:=by first|omega|(simp;omega)):p:=h
def qos(h:p:=by rw [hb.cell qns];simp [go_sem]):p:=h
def qot(h:p:=by refine ⟨?_,?_,?_,?_,?_,?_,?_,?_⟩<;>exact b1.cell (show w.heap.size+1≠R by omega) qnp):p:=h
def qou(h:p:=by simp [results,Tryz.results135,go_sem,k0,k1,k2,k3,k4,k5,zz]):p:=h
def qov(h:p:=by simp [results,Tryz.results128,go_sem]):p:=h
def qow(h:p:=by rw [hm];decide):p:=h
def qox(h:p:=by repeat' (first|with_reducible exact qb|exact Nat.le_succ _|with_reducible exact qd|with_reducible refine Below.setCell ?_ ?_ _|with_reducible refine Below.alloc ?_ ?_ _|(simp;omega)|simp)):p:=h
def qoy(h:p:=by rw [beq_eq_false_iff_ne];omega):p:=h
def qoz(h:p:=by with_reducible repeat' (first|exact hv|refine zRf ?_ nk _ _|refine zRf ?_ na _ _|refine zRf ?_ naa _ _|refine zRf ?_ nbb _ _|refine zRa ?_ _|refine zRn ?_ _|refine zRd ?_)):p:=h
def qoA(h:p:=by simpa using h):p:=h
def qoB(h:p:=by rw [e1.out,e2.out,e3.out]):p:=h
def qoC(h:p:=by simp [results,Tryz.results232,go_sem,k10,k11,k12,k13,k14,k15,k16,k17,zk1]):p:=h
def qoD(h:p:=by simp [results,Tryz.results194,go_sem,k20,k21,k22,k23,k24,k25,k26,k27,y2]):p:=h
def qoE(h:p:=by first|exact heap_alloc_new w7 _|exact sW w7 _ _|exact tR w7 _ _):p:=h
def qoF(h:p:=by have:=b5.size;first|omega|(simp at this;omega)):p:=h
def qoG(h:p:=by have:=b7.size;first|omega|(simp at this;omega)):p:=h
def qoH(h:p:=by have:=b8.size;first|omega|(simp at this;omega)):p:=h
def qoI(h:p:=by with_reducible repeat' (first|exact hv|refine zRf ?_ nk _ _|refine zRf ?_ na _ _|refine zRf ?_ naa _ _|refine zRa ?_ _|refine zRn ?_ _|refine zRd ?_)):p:=h
def qoJ(h:p:=by with_reducible repeat' (first|exact hv|refine pY ?_|refine uD ?_)):p:=h
def qoK(h:p:=by with_reducible repeat' (first|exact hv|refine D5 ?_|refine Kc ?_)):p:=h
def qoM(h:p:=by simp [results,Tryz.results44,go_sem,k0,k1,k2,k3,k4,k5,k6,k7,zK5]):p:=h
def qoN(h:p:=by rw [HM.out];rfl):p:=h
def qoO(h:p:=by cases h):p:=h
def qoP(h:p:=by rw [q60];decide):p:=h
def qoQ(h:p:=by rw [q62];decide):p:=h
def qoR(h:p:=by with_reducible repeat' (first|exact hv|refine zRf ?_ nk _ _|refine zRf ?_ nO _ _|refine zRa ?_ _|refine zRn ?_ _|refine zRd ?_)):p:=h
def qoS(h:p:=by rw [hf];decide):p:=h
def qoT(h:p:=by repeat' (first|with_reducible exact qb|with_reducible exact qd|with_reducible refine Below.alloc ?_ ?_ _|(simp;omega)|simp)):p:=h
def qoW(h:p:=by rw [h];rfl):p:=h
def qoX(h:p:=by simp [results,Tryz.results41,go_sem,k30,q30,k31,q31,k32,q32,k33,q33,k34,q34,k35,q35,k36,q36,k37,q37,z3,y3]):p:=h
def qoY(h:p:=by first|exact Below.drew qa|exact (Below.drew qb).alloc qd _):p:=h
def qoZ(h:p:=by simp [results,Tryz.results316,go_sem,k30,k31,k32,k33,k34,k35,k36,k37,a30,a31,a32,a33,a34,a35,zk3,za3]):p:=h
def qpa(h:p:=by rw [hb.cell qns];simp):p:=h
def qpb(h:p:=by have:=b6.size;first|omega|(simp at this;omega)):p:=h
def qpd(h:p:=by rw [hb.frozen qns];simp [go_sem]):p:=h
def qpe(h:p:=by rw [hb.cell qnu];simp [go_sem]):p:=h
def qpf(h:p:=by rcases hw with rfl|rfl|rfl|rfl<;>decide):p:=h
def qpg(h:p:=by simpa using hj):p:=h
def qph(h:p:=by simpa using hi):p:=h
def qpi(h:p:=by with_reducible repeat' (first|exact hv|refine Below.alloc ?_ qoj _|refine Below.drew ?_)):p:=h
def qpk(h:p:=by simp [go_sem,c0]):p:=h
def qpl(h:p:=by simp [go_sem,c1]):p:=h
def qpm(h:p:=by simp [go_sem,f1]):p:=h
def qpo(h:p:=by rw [List.length_take];omega):p:=h
def qpp(h:p:=by rw [IntKind.wrap_i64];omega):p:=h
def qpq(h:p:=by simpa using HF.out.1):p:=h
def qpr(h:p:=by rw [<-hW3];simp [go_sem]):p:=h
def qps(h:p:=by simp [results,Tryz.results180,go_sem,k20,k21,k22,k23,k24,k25,k26,k27,zk2]):p:=h
def qpt(h:p:=by rw [e1];exact World.ownsRow_nil _ _ _ _):p:=h
def qpu(h:p:=by rw [h5];rfl):p:=h
def qpv(h:p:=by simp [ba,Tr.kZ]):p:=h
def qpw(h:p:=by first|exact hB|(show base<=_+1;omega)|(show base<=_+1+1;omega)):p:=h
def qpx(h:p:=by rw [e];simp):p:=h
def qpy(h:p:=by rw [cI _ qoq];exact h3):p:=h
def qpz(h:p:=by unfold jw;rfl):p:=h
def qpB(h:p:=by simp [results,Tryz.results156,go_sem]):p:=h
def qpC(h:p:=by simp [results,Tryz.results194,go_sem,k20,k21,k22,k23,k24,k25,k26,k27]):p:=h
def qpD(h:p:=by simp [results,Tryz.results136,go_sem,k20,k21,k22,k23,k24,k25,k26,k27]):p:=h
def qpE(h:p:=by simp [results,Tryz.results239,go_sem,k50,k51,k52,k53,k54,k55,k56,k57]):p:=h
def qpF(h:p:=by simpa using hn):p:=h
def qpG(h:p:=by simp [results,Tryz.results86,go_sem,k10,k11,k12,k13,k14,k15,k16,k17]):p:=h
def qpH(h:p:=by simpa using HL.out):p:=h
def qpI(h:p:=by have:=b1.size;simp at this;omega):p:=h
def qpJ(h:p:=by have:=hb.size;simp at this;omega):p:=h
def qpM(h:p:=by rw [hu];simp):p:=h
def qpN(h:p:=by have:=b2.size;omega):p:=h
def qpO(h:p:=by rw [bU] at hw;omega):p:=h
def qpQ(h:p:=by simp [results,Tryz.results173,go_sem,k10,k11,k12,k13,k14,k15]):p:=h
def qpR(h:p:=by simp [results,Tryz.results128,go_sem,k10,k11,k12,k13,k14,k15]):p:=h
def qpS(h:p:=by rw [h2];rfl):p:=h
def qpT(h:p:=by simp [tv8,Tr.kY,Tr.num,Tr.c1,Tr.r1,Tr.c2,Tr.r2,Tr.wZ,Tr.kZ]):p:=h
def qpU(h:p:=by rw [aq];exact h0):p:=h
def qpV(h:p:=by rw [he];decide):p:=h
def qpW(h:p:=by simp [results,Tryz.results257,go_sem,nr0,nr1,nz0,nf0,nf1]):p:=h
def qpY(h:p:=by rw [HV.out]):p:=h
def qqa(h:p:=by simpa using h4):p:=h
def qqb(h:p:=by simpa using hf):p:=h
def qqc(h:p:=by have:=hbel.size;simp;omega):p:=h
def qqd(h:p:=by simpa using h2):p:=h
def qqe(h:p:=by have:=HLn.out;simp;omega):p:=h
def qqh(h:p:=by have:=b3.size;first|omega|(simp at this;omega)):p:=h
def qqi(h:p:=by rw [World.cell?_setCell_other _ _ _ _ qns];exact h.c0):p:=h
def qqj(h:p:=by rw [h3];rfl):p:=h
def qqm(h:p:=by rw [hwd];decide):p:=h
def qqn(h:p:=by rw [HR.out];rfl):p:=h
def qqo(h:p:=by unfold bn;omega):p:=h
def qqp(h:p:=by rw [beq_iff_eq];exact h3):p:=h
def qqq(h:p:=by simp [results,Tryz.results250,go_sem,k0,k1,z0]):p:=h
def qqr(h:p:=by rw [List.take_zero];rfl):p:=h
def qqs(h:p:=by unfold okN at hor;omega):p:=h
def qqt(h:p:=by rw [hw];decide):p:=h
def qqu(h:p:=by simp [results,Tryz.results305,go_sem]<;>omega):p:=h
def qqv(h:p:=by simp [results,Tryz.results306,go_sem]<;>omega):p:=h
def qqw(h:p:=by simp [results,Tryz.results213,go_sem,k20,k21]):p:=h
def qqx(h:p:=by rw [hr];decide):p:=h
def qqy(h:p:=by rintro rfl;simp at hlt):p:=h
def qqz(h:p:=by rw [<-hW3];exact (qa.alloc qns _).alloc qnu _):p:=h
def qqA(h:p:=by simp [results,Tryz.results228,go_sem,m0,m1]):p:=h
def qqB(h:p:=by have h:=HK.out;rw [List.map_append];exact h):p:=h
def qqC(h:p:=by have:=lI hr;show br t<=_;omega):p:=h
def qqE(h:p:=by rw [aq];exact hlt):p:=h
def qqF(h:p:=by simpa using z0):p:=h
def qqG(h:p:=by simpa using hu):p:=h
def qqH(h:p:=by simpa using hb):p:=h
def qqI(h:p:=by rw [rO];omega):p:=h
def qqJ(h:p:=by simpa using h1):p:=h
def qqK(h:p:=by simpa using h8):p:=h
def qqL(h:p:=by have:=HNn.out;omega):p:=h
def qqM(h:p:=by simp [results,Tryz.results131,go_sem,cy]):p:=h
def qqN(h:p:=by have:=HB2.out.size;have:=hb3.size;omega):p:=h
def qqO(h:p:=by rw [hta];rfl):p:=h
def qqR(h:p:=by simp [results,Tryz.results252,go_sem]):p:=h
def qqS(h:p:=by simp [results,Tryz.results296,go_sem]):p:=h
def qqT(h:p:=by have h:=hlL.out;simp at h ⊢;omega):p:=h
def qqU(h:p:=by simp [results,Tryz.results211,go_sem]):p:=h
def qqY(h:p:=by simp [results,Tryz.results52,go_sem]):p:=h
def qqZ(h:p:=by simp [results,Tryz.results49,go_sem]):p:=h
def qra(h:p:=by rintro (h|h);exact h3 h;exact u3 h):p:=h
def qrb(h:p:=by rw [e]):p:=h
def qrc(h:p:=by rw [<-hW1];simp):p:=h
def qrf(h:p:=by simp [go_sem,c2]):p:=h
def qrg(h:p:=by simp [go_sem,c3]):p:=h
def qrh(h:p:=by simp [go_sem,c4]):p:=h
def qri(h:p:=by simp [go_sem,f3]):p:=h
def qrj(h:p:=by simp [go_sem,f4]):p:=h
def qrk(h:p:=by unfold bK;rw [ay];simp [aR]):p:=h
def qrl(h:p:=by rw [World.putObj_size];exact h.size):p:=h
def qrm(h:p:=by rw [<-hV];simp):p:=h
def qro(h:p:=by simpa using Array.mem_of_getElem? ht):p:=h
def qru(h:p:=by first|omega|simp|(simp;omega)):p:=h
def qrv(h:p:=by have:=of_decide_eq_false h;omega):p:=h
def qrw(h:p:=by rw [hc];rintro ⟨h,_⟩;cases h):p:=h
def qrx(h:p:=by exact (HF.out _)):p:=h
def qry(h:p:=by exact (It _ _ _)):p:=h
def qrz(h:p:=by exact (H.out _)):p:=h
def qrA(h:p:=by exact (HR.out _)):p:=h
def qrB(h:p:=by exact (HP.out _)):p:=h
def qrC(h:p:=by exact (H1.out _)):p:=h
def qrD(h:p:=by exact (hN.out _ (have hv:=HR.out;qnk))):p:=h
def qrE(h:p:=by exact (HC.out _)):p:=h
def qrF(h:p:=by exact (hM.out _ (have hv:=HR1.out;qnk))):p:=h
def qrG(h:p:=by exact (hO.out _ (have hv:=HR2.out;qnk))):p:=h
def qrH(h:p:=by exact (HP.out _ p res (have hv:=HR1.out;qnk) HF.out)):p:=h
def qrI(h:p:=by exact (HP.out _ (p+1) r1 (have hv:=HR1.out;qnk) HF.out)):p:=h
def qrJ(h:p:=by exact (hMon.out _ q (have hv:=HR2.out;qnk) HM.out)):p:=h
def qrK(h:p:=by exact (HP1.out _ p r1 (have hv:=HR.out;qnk) HF.out)):p:=h
def qrL(h:p:=by exact (hM.out _ (have hv:=HR.out;qnk))):p:=h
def qrM(h:p:=by exact (HN.out _ (have hv:=HR1.out;qnk))):p:=h
def qrN(h:p:=by exact (HPn.out _ (q+1) (.bad z) HR3.out.drew HF.out)):p:=h
def qrO(h:p:=by exact (HO.out _)):p:=h
def qrP(h:p:=by exact (HA2.out _ _ (HK.out.kept (Kept.of_below h1)))):p:=h
def qrQ(h:p:=by exact (HD.out _ _ (HK.out.kept ((Kept.refl _ _).alloc _)))):p:=h
def qrR(h:p:=by exact (H2.out _)):p:=h
def qrS(h:p:=by exact (lE (R:=R) (A:=A) (cap:=cap) (L:=L) (E:=E) (st:=.out x) hL (have hv:=HR1.out;qnw) (HT.out.but (have hv:=h1;qni)))):p:=h
def qrT(h:p:=by exact (ms (R:=R) (A:=A) (cap:=cap) (L:=L) (E:=E) (st:=.out x) hL (have hv:=HR.out;qnl) (HT.out.but qno))):p:=h
def qrU(h:p:=by exact (eT (R:=R) (A:=A) (cap:=cap) (L:=L) (E:=E) (m:=1) (st:=.out x) ⟨#[58]⟩ hL qoq (have hv:=HR1.out;qnl) (HT.out.but (have hv:=h1;qni)))):p:=h
def qrV(h:p:=by exact (Dm _ _ _)):p:=h
def qrW(h:p:=by exact (HM.out _ (HC.out.below qa))):p:=h
def qrX(h:p:=by exact (H3.out _)):p:=h
def qrY(h:p:=by exact (HN.out _ (HE.out.below (HW.out.low.trans ((H0.out _).mono HW.out.low.size))))):p:=h
def qrZ(h:p:=by exact (HPP.out _ bs HW0.out HL.out)):p:=h
def qsa(h:p:=by exact (HST.out _ HW0.out.low)):p:=h
def qsb(h:p:=by exact (E7 hL2 hcm hG _ _ HRL.out HT.out)):p:=h
def qsc(h:p:=by exact (HSc.out _ (HE.out.l.below qa))):p:=h
def qsd(h:p:=by exact (HFF.out _ _ qoq HS1.out HRow.out)):p:=h
def qse(h:p:=by exact (HI.out _)):p:=h
def qsf(h:p:=by exact (eT (R:=R) (A:=A) (cap:=cap) (L:=L) (E:=E) (m:=0) (st:=.run p) ⟨#[45]⟩ hL qoq (have hv:=HR.out;qnl) (HT.out.but qno))):p:=h
def qsg(h:p:=by exact (HP.out _ (.run (p+1)) (st1,ot1) (have hv:=HS1.out;qnl) (HT.out.but (have hv:=h1;qni)) HG.out)):p:=h
def qsh(h:p:=by exact (ms (R:=R) (A:=A) (cap:=cap) (L:=L) (E:=E) (st:=.run p) hL (have hv:=HR.out;qnl) (HT.out.but qno))):p:=h
def qsi(h:p:=by exact (eT (R:=R) (A:=A) (cap:=cap) (L:=L) (E:=E) (m:=1) (st:=.run p) ⟨#[58]⟩ hL qoq (have hv:=HR1.out;qnl) (HT.out.but (have hv:=h1;qni)))):p:=h
def qsj(h:p:=by exact (eU (R:=R) (A:=A) (cap:=cap) (L:=L) (E:=E) (st:=.run (p+1)) ⟨#[58]⟩ hL (have hv:=HS2.out;qnr) (HT.out.but (have hv:=h2;qni)))):p:=h
def qsk(h:p:=by exact (ms (R:=R) (A:=A) (cap:=cap) (L:=L) (E:=E) (st:=.run (p+2)) hL (have hv:=HR3.out;qnr) (HT.out.but (have hv:=h3;qni)))):p:=h
def qsl(h:p:=by exact (eT (R:=R) (A:=A) (cap:=cap) (L:=L) (E:=E) (m:=0) (st:=.run p) ⟨#[40]⟩ hL qoq (have hv:=HR.out;qnl) (HT.out.but qno))):p:=h
def qsm(h:p:=by exact (HL.out w1.heap.size A cap w2 (.run 0) _ HR2.out HT2.out HGT.out)):p:=h
def qsn(h:p:=by exact (HD.out w4 (HKV.out.stay (Kept.of_below hb4)).kv)):p:=h
def qso(h:p:=by exact (PA.out _ (HB1.out.alloc HB1.out.size _) A ca (HK.out _ qa))):p:=h
def qsq(h:p:=by exact (sr _ _ _)):p:=h
def qsr(h:p:=by exact (CallsIn.inRound l' (callsIn_wide.2 HCal.out))):p:=h
def qss {a0 a1 a2 a3 a4 a5 a6 a7 a8 a9 a10 a11 a12 a13 a14 a15 a16 a17 a18 a19:Prop}(h0:a0)(h1:a1)(h2:a2)(h3:a3)(h4:a4)(h5:a5)(h6:a6)(h7:a7)(h8:a8)(h9:a9)(h10:a10)(h11:a11)(h12:a12)(h13:a13)(h14:a14)(h15:a15)(h16:a16)(h17:a17)(h18:a18)(h19:a19):a0/\a1/\a2/\a3/\a4/\a5/\a6/\a7/\a8/\a9/\a10/\a11/\a12/\a13/\a14/\a15/\a16/\a17/\a18/\a19:=⟨h0,h1,h2,h3,h4,h5,h6,h7,h8,h9,h10,h11,h12,h13,h14,h15,h16,h17,h18,h19⟩
def qst {a0 a1 a2 a3 a4 a5 a6 a7 a8 a9 a10 a11 a12 a13 a14 a15 a16 a17:Prop}(h0:a0)(h1:a1)(h2:a2)(h3:a3)(h4:a4)(h5:a5)(h6:a6)(h7:a7)(h8:a8)(h9:a9)(h10:a10)(h11:a11)(h12:a12)(h13:a13)(h14:a14)(h15:a15)(h16:a16)(h17:a17):a0/\a1/\a2/\a3/\a4/\a5/\a6/\a7/\a8/\a9/\a10/\a11/\a12/\a13/\a14/\a15/\a16/\a17:=⟨h0,h1,h2,h3,h4,h5,h6,h7,h8,h9,h10,h11,h12,h13,h14,h15,h16,h17⟩
def qsu {a0 a1 a2 a3 a4 a5 a6 a7 a8 a9 a10 a11 a12 a13 a14 a15 a16 a17 a18 a19 a20 a21 a22 a23 a24 a25:Prop}(h0:a0)(h1:a1)(h2:a2)(h3:a3)(h4:a4)(h5:a5)(h6:a6)(h7:a7)(h8:a8)(h9:a9)(h10:a10)(h11:a11)(h12:a12)(h13:a13)(h14:a14)(h15:a15)(h16:a16)(h17:a17)(h18:a18)(h19:a19)(h20:a20)(h21:a21)(h22:a22)(h23:a23)(h24:a24)(h25:a25):a0/\a1/\a2/\a3/\a4/\a5/\a6/\a7/\a8/\a9/\a10/\a11/\a12/\a13/\a14/\a15/\a16/\a17/\a18/\a19/\a20/\a21/\a22/\a23/\a24/\a25:=⟨h0,h1,h2,h3,h4,h5,h6,h7,h8,h9,h10,h11,h12,h13,h14,h15,h16,h17,h18,h19,h20,h21,h22,h23,h24,h25⟩
def qsv {a0 a1 a2 a3 a4 a5 a6 a7 a8 a9 a10 a11 a12 a13:Prop}(h0:a0)(h1:a1)(h2:a2)(h3:a3)(h4:a4)(h5:a5)(h6:a6)(h7:a7)(h8:a8)(h9:a9)(h10:a10)(h11:a11)(h12:a12)(h13:a13):a0/\a1/\a2/\a3/\a4/\a5/\a6/\a7/\a8/\a9/\a10/\a11/\a12/\a13:=⟨h0,h1,h2,h3,h4,h5,h6,h7,h8,h9,h10,h11,h12,h13⟩
def qsw {a0 a1 a2 a3 a4 a5 a6:Prop}(h0:a0)(h1:a1)(h2:a2)(h3:a3)(h4:a4)(h5:a5)(h6:a6):a0/\a1/\a2/\a3/\a4/\a5/\a6:=⟨h0,h1,h2,h3,h4,h5,h6⟩
def qsx {a0 a1 a2 a3 a4 a5 a6 a7 a8 a9:Prop}(h0:a0)(h1:a1)(h2:a2)(h3:a3)(h4:a4)(h5:a5)(h6:a6)(h7:a7)(h8:a8)(h9:a9):a0/\a1/\a2/\a3/\a4/\a5/\a6/\a7/\a8/\a9:=⟨h0,h1,h2,h3,h4,h5,h6,h7,h8,h9⟩
def qsy {a0 a1 a2 a3 a4 a5:Prop}(h0:a0)(h1:a1)(h2:a2)(h3:a3)(h4:a4)(h5:a5):a0/\a1/\a2/\a3/\a4/\a5:=⟨h0,h1,h2,h3,h4,h5⟩
def qsz {a0 a1 a2 a3 a4 a5 a6 a7:Prop}(h0:a0)(h1:a1)(h2:a2)(h3:a3)(h4:a4)(h5:a5)(h6:a6)(h7:a7):a0/\a1/\a2/\a3/\a4/\a5/\a6/\a7:=⟨h0,h1,h2,h3,h4,h5,h6,h7⟩
def qsA {a0 a1 a2 a3 a4 a5 a6 a7 a8 a9 a10 a11 a12 a13 a14 a15 a16 a17 a18 a19 a20 a21 a22 a23 a24:Prop}(h0:a0)(h1:a1)(h2:a2)(h3:a3)(h4:a4)(h5:a5)(h6:a6)(h7:a7)(h8:a8)(h9:a9)(h10:a10)(h11:a11)(h12:a12)(h13:a13)(h14:a14)(h15:a15)(h16:a16)(h17:a17)(h18:a18)(h19:a19)(h20:a20)(h21:a21)(h22:a22)(h23:a23)(h24:a24):a0/\a1/\a2/\a3/\a4/\a5/\a6/\a7/\a8/\a9/\a10/\a11/\a12/\a13/\a14/\a15/\a16/\a17/\a18/\a19/\a20/\a21/\a22/\a23/\a24:=⟨h0,h1,h2,h3,h4,h5,h6,h7,h8,h9,h10,h11,h12,h13,h14,h15,h16,h17,h18,h19,h20,h21,h22,h23,h24⟩
def qsB {a0 a1 a2 a3 a4:Prop}(h0:a0)(h1:a1)(h2:a2)(h3:a3)(h4:a4):a0/\a1/\a2/\a3/\a4:=⟨h0,h1,h2,h3,h4⟩
def qsC {a0 a1 a2 a3:Prop}(h0:a0)(h1:a1)(h2:a2)(h3:a3):a0/\a1/\a2/\a3:=⟨h0,h1,h2,h3⟩
def qsD {a0 a1 a2 a3 a4 a5 a6 a7 a8 a9 a10 a11:Prop}(h0:a0)(h1:a1)(h2:a2)(h3:a3)(h4:a4)(h5:a5)(h6:a6)(h7:a7)(h8:a8)(h9:a9)(h10:a10)(h11:a11):a0/\a1/\a2/\a3/\a4/\a5/\a6/\a7/\a8/\a9/\a10/\a11:=⟨h0,h1,h2,h3,h4,h5,h6,h7,h8,h9,h10,h11⟩
def qsE {a0 a1 a2 a3 a4 a5 a6 a7 a8:Prop}(h0:a0)(h1:a1)(h2:a2)(h3:a3)(h4:a4)(h5:a5)(h6:a6)(h7:a7)(h8:a8):a0/\a1/\a2/\a3/\a4/\a5/\a6/\a7/\a8:=⟨h0,h1,h2,h3,h4,h5,h6,h7,h8⟩
def qsF {a0 a1 a2:Prop}(h0:a0)(h1:a1)(h2:a2):a0/\a1/\a2:=⟨h0,h1,h2⟩
def qsG {a0 a1 a2 a3 a4 a5 a6 a7 a8 a9 a10 a11 a12 a13 a14 a15 a16:Prop}(h0:a0)(h1:a1)(h2:a2)(h3:a3)(h4:a4)(h5:a5)(h6:a6)(h7:a7)(h8:a8)(h9:a9)(h10:a10)(h11:a11)(h12:a12)(h13:a13)(h14:a14)(h15:a15)(h16:a16):a0/\a1/\a2/\a3/\a4/\a5/\a6/\a7/\a8/\a9/\a10/\a11/\a12/\a13/\a14/\a15/\a16:=⟨h0,h1,h2,h3,h4,h5,h6,h7,h8,h9,h10,h11,h12,h13,h14,h15,h16⟩
def qsH {a0 a1 a2 a3 a4 a5 a6 a7 a8 a9 a10 a11 a12 a13 a14 a15 a16 a17 a18 a19 a20 a21 a22 a23 a24 a25 a26 a27 a28 a29 a30 a31 a32 a33 a34 a35:Prop}(h0:a0)(h1:a1)(h2:a2)(h3:a3)(h4:a4)(h5:a5)(h6:a6)(h7:a7)(h8:a8)(h9:a9)(h10:a10)(h11:a11)(h12:a12)(h13:a13)(h14:a14)(h15:a15)(h16:a16)(h17:a17)(h18:a18)(h19:a19)(h20:a20)(h21:a21)(h22:a22)(h23:a23)(h24:a24)(h25:a25)(h26:a26)(h27:a27)(h28:a28)(h29:a29)(h30:a30)(h31:a31)(h32:a32)(h33:a33)(h34:a34)(h35:a35):a0/\a1/\a2/\a3/\a4/\a5/\a6/\a7/\a8/\a9/\a10/\a11/\a12/\a13/\a14/\a15/\a16/\a17/\a18/\a19/\a20/\a21/\a22/\a23/\a24/\a25/\a26/\a27/\a28/\a29/\a30/\a31/\a32/\a33/\a34/\a35:=⟨h0,h1,h2,h3,h4,h5,h6,h7,h8,h9,h10,h11,h12,h13,h14,h15,h16,h17,h18,h19,h20,h21,h22,h23,h24,h25,h26,h27,h28,h29,h30,h31,h32,h33,h34,h35⟩
def qsI {a0 a1 a2 a3 a4 a5 a6 a7 a8 a9 a10 a11 a12 a13 a14 a15 a16 a17 a18:Prop}(h0:a0)(h1:a1)(h2:a2)(h3:a3)(h4:a4)(h5:a5)(h6:a6)(h7:a7)(h8:a8)(h9:a9)(h10:a10)(h11:a11)(h12:a12)(h13:a13)(h14:a14)(h15:a15)(h16:a16)(h17:a17)(h18:a18):a0/\a1/\a2/\a3/\a4/\a5/\a6/\a7/\a8/\a9/\a10/\a11/\a12/\a13/\a14/\a15/\a16/\a17/\a18:=⟨h0,h1,h2,h3,h4,h5,h6,h7,h8,h9,h10,h11,h12,h13,h14,h15,h16,h17,h18⟩
def qsJ {a0 a1 a2 a3 a4 a5 a6 a7 a8 a9 a10:Prop}(h0:a0)(h1:a1)(h2:a2)(h3:a3)(h4:a4)(h5:a5)(h6:a6)(h7:a7)(h8:a8)(h9:a9)(h10:a10):a0/\a1/\a2/\a3/\a4/\a5/\a6/\a7/\a8/\a9/\a10:=⟨h0,h1,h2,h3,h4,h5,h6,h7,h8,h9,h10⟩
def qa {w:World}{o:Obj}:Below w.heap.size w (w.alloc o):=(Below.refl _ _).alloc (Nat.le_refl _) _
def qb {B:Nat}{w:World}:Below B w w:=Below.refl _ _
def qd {n:Nat}:n<=n:=Nat.le_refl _
def qe {n:Nat}:0<=n:=Nat.zero_le _
def qf(h:p):RowKit.Hid p:=Lib.hid h
end Go.Proofs.YteglaomdgdkibaaGreatDoor
