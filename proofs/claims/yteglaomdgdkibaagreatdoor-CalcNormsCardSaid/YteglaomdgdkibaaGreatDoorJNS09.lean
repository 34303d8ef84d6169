import Derived.Test.YteglaomdgdkibaaGreatDoorJNS07
import Derived.Test.YteglaomdgdkibaaGreatDoorJNS08
import Derived.Test.YteglaomdgdkibaaGreatDoorJQNSP
import Derived.Test.YteglaomdgdkibaaGreatDoorJQNSW
set_option linter.all false
set_option maxHeartbeats 0
set_option maxRecDepth 99999
namespace Go.Proofs.YteglaomdgdkibaaGreatDoor
open Go.RowKit
open Value renaming int→ZZ,string→Zx,slice→Zw,pointer→Zv
open IntKind renaming i64→ZY
open Tryz
open Tryz renaming prog→ZW
open Option renaming some→ZV,none→ZU
open Bool renaming false→Zz,true→Zy
variable {w:World}{B E R cap g k p:Nat}{L:List Tok}{f:Nat->Option Res}{res:Res}
theorem pcorners_none (hL:L.length<=1000) (hc:cap<=maxLen) (hG:aM L) (hr:RL w R g cap B L E p) (hm:aB L p=Zz):
 Calls ZW 316 #[Zv (ZV ⟨R,0,ZU⟩)] w (cg w R g cap B L E (.bad (whr L E p))):=by
 have hN:=qf (fun w hr=>oD (w:=w) (R:=R) (g:=g) (cap:=cap) (B:=B) (L:=L) (E:=E) (p:=p) hL hc hr hm);obtain ⟨HR,lR,lB⟩:=qav;clear hm hr;go_enter func316,ntmps316;go_wp2_with fail;refine .mono qrD ?_;rintro e w9 ⟨rfl,b9⟩;exact ⟨rfl,rfl,But.trans qno b9⟩
theorem wb (hL:L.length<=1000) (hc:cap<=maxLen) (hG:aM L) (hr:RL w R g cap B L E p) (hm:aB L p=Zy) (hk:((aj L E p).kY==3)=Zy) (hcol:ag L (p+1) [58]=Zz):
 Calls ZW 316 #[Zv (ZV ⟨R,0,ZU⟩)] w (cg w R g cap B L E (.ok bK (p+1))):=by
 obtain ⟨hN,hT,hl⟩:=qau;clear hm;generalize aj L E p=a at*;rw [hcol] at hT;unfold cy at*;obtain ⟨HR,lR,lB⟩:=qav;clear hr;go_enter func316,ntmps316;go_wp2_with fail;refine .mono qrD ?_;rintro e w1 ⟨rfl,r1,b1⟩;have HR1:=qca;have h1:=qm;obtain ⟨y1,zk1⟩:=qad;obtain ⟨k10,k11,k12,k13,k14,k15,k16,k17⟩:=qo;obtain ⟨kf10,kf11,kf12,kf13,kf14,kf15,kf16,kf17⟩:=qw;clear r1 b1;obtain ⟨t0,t4,t5⟩:=HR1.out.tok;obtain ⟨hx,hle,hgl,hrl,HT⟩:=qcl;generalize aj L E (p+1)=c at*;go_wp2_with fail;exact bodyPost_ret (v:=.agg #[ZZ ZY (2),ZZ ZY (0),ZZ ZY (0),ZZ ZY (0),ZZ ZY (0),ZZ ZY (0),Zx ⟨#[]⟩,Zw ZU 0 0]) (by simp [results,results316,go_sem,k10,k11,k12,k13,k14,k15,k16,k17,zk1]) rfl ⟨kg (2) (0) (0) (0) (0) (0),rfl,iy _ _ _ _ _ _,(have hv:=HR1.out;qnk),(have hv:=h1;qni)⟩
theorem uj (hL:L.length<=1000) (hc:cap<=maxLen) (hG:aM L) (hr:RL w R g cap B L E p) (hm:aB L p=Zy) (hk:((aj L E p).kY==3)=Zz) (hm2:ag L (p+1) [58]=Zz):
 Calls ZW 316 #[Zv (ZV ⟨R,0,ZU⟩)] w (cg w R g cap B L E (.bad (whr L E (p+1)))):=by
 obtain ⟨hN,hT,hl⟩:=qau;clear hm;generalize aj L E p=a at*;have hM:=qf (fun w hr=>i7 (w:=w) (R:=R) (g:=g) (cap:=cap) (B:=B) (L:=L) (E:=E) (p:=p+1) hL hc hG ⟨#[58]⟩ qnv qnv hr hm2);clear hm2;unfold cy at*;obtain ⟨HR,lR,lB⟩:=qav;clear hr;go_enter func316,ntmps316;go_wp2_with fail;refine .mono qrD ?_;rintro e w1 ⟨rfl,r1,b1⟩;have HR1:=qca;have h1:=qm;obtain ⟨y1,zk1⟩:=qad;obtain ⟨k10,k11,k12,k13,k14,k15,k16,k17⟩:=qo;obtain ⟨kf10,kf11,kf12,kf13,kf14,kf15,kf16,kf17⟩:=qw;clear r1 b1;go_wp2_with fail;refine .mono qrF ?_;rintro e w9 ⟨rfl,b9⟩;exact ⟨rfl,rfl,But.trans (have hv:=h1;qni) b9⟩
theorem uw (hL:L.length<=1000) (hc:cap<=maxLen) (hG:aM L) (hr:RL w R g cap B L E p) (hm:aB L p=Zy) (hk:((aj L E p).kY==3)=Zy) (hm2:ag L (p+1) [58]=Zy) (he:aB L (p+2)=Zz):
 Calls ZW 316 #[Zv (ZV ⟨R,0,ZU⟩)] w (cg w R g cap B L E (.bad (whr L E (p+2)))):=by
 obtain ⟨hN,hT,hl⟩:=qau;clear hm;generalize aj L E p=a at*;rw [hm2] at hT;have hM:=qbn;have hO:=qeM;clear hm2 he;unfold cy at*;obtain ⟨HR,lR,lB⟩:=qav;clear hr;go_enter func316,ntmps316;go_wp2_with fail;refine .mono qrD ?_;rintro e w1 ⟨rfl,r1,b1⟩;have HR1:=qca;have h1:=qm;obtain ⟨y1,zk1⟩:=qad;obtain ⟨k10,k11,k12,k13,k14,k15,k16,k17⟩:=qo;obtain ⟨kf10,kf11,kf12,kf13,kf14,kf15,kf16,kf17⟩:=qw;clear r1 b1;obtain ⟨t0,t4,t5⟩:=HR1.out.tok;obtain ⟨hx,hle,hgl,hrl,HT⟩:=qcl;generalize aj L E (p+1)=c at*;go_wp2_with fail;clear t0 t4 t5 hx hle hgl hrl;refine .mono qrF ?_;rintro e w2 ⟨rfl,r2,b2⟩;have HR2:=qdM;have h2:=qC;obtain ⟨y2,zk2⟩:=qaP;obtain ⟨k20,k21,k22,k23,k24,k25,k26,k27⟩:=qD;obtain ⟨kf20,kf21,kf22,kf23,kf24,kf25,kf26,kf27⟩:=qq;obtain ⟨za2,a20,a21,a22,a23,a24,a25⟩:=qA;clear r2 b2 k10 k11 k12 k13 k14 k15 k16 k17 kf10 kf11 kf12 kf13 kf14 kf15 kf16 kf17 zk1;go_wp2_with fail;refine .mono qrG ?_;rintro e w9 ⟨rfl,b9⟩;exact ⟨rfl,rfl,But.trans (have hv:=h2;qni) b9⟩
theorem ui (hL:L.length<=1000) (hc:cap<=maxLen) (hG:aM L) (hr:RL w R g cap B L E p) (hm:aB L p=Zy) (hk:((aj L E p).kY==3)=Zz) (hm2:ag L (p+1) [58]=Zy) (he:aB L (p+2)=Zz):
 Calls ZW 316 #[Zv (ZV ⟨R,0,ZU⟩)] w (cg w R g cap B L E (.bad (whr L E (p+2)))):=by
 obtain ⟨hN,hT,hl⟩:=qau;clear hm;generalize aj L E p=a at*;rw [hm2] at hT;have hM:=qbn;have hO:=qeM;clear hm2 he;unfold cy at*;obtain ⟨HR,lR,lB⟩:=qav;clear hr;go_enter func316,ntmps316;go_wp2_with fail;refine .mono qrD ?_;rintro e w1 ⟨rfl,r1,b1⟩;have HR1:=qca;have h1:=qm;obtain ⟨y1,zk1⟩:=qad;obtain ⟨k10,k11,k12,k13,k14,k15,k16,k17⟩:=qo;obtain ⟨kf10,kf11,kf12,kf13,kf14,kf15,kf16,kf17⟩:=qw;clear r1 b1;go_wp2_with fail;refine .mono qrF ?_;rintro e w2 ⟨rfl,r2,b2⟩;have HR2:=qdM;have h2:=qC;obtain ⟨y2,zk2⟩:=qaP;obtain ⟨k20,k21,k22,k23,k24,k25,k26,k27⟩:=qD;obtain ⟨kf20,kf21,kf22,kf23,kf24,kf25,kf26,kf27⟩:=qq;obtain ⟨za2,a20,a21,a22,a23,a24,a25⟩:=qA;clear r2 b2 k10 k11 k12 k13 k14 k15 k16 k17 kf10 kf11 kf12 kf13 kf14 kf15 kf16 kf17 zk1;go_wp2_with fail;refine .mono qrG ?_;rintro e w9 ⟨rfl,b9⟩;exact ⟨rfl,rfl,But.trans (have hv:=h2;qni) b9⟩
theorem ub (hL:L.length<=1000) (hc:cap<=maxLen) (hG:aM L) (hr:RL w R g cap B L E p) (hm:aB L p=Zy) (hk:((aj L E p).kY==3)=Zy) (hm2:ag L (p+1) [58]=Zy) (he:aB L (p+2)=Zy):
 Calls ZW 316 #[Zv (ZV ⟨R,0,ZU⟩)] w (cg w R g cap B L E (.ok bK (p+3))):=by
 obtain ⟨hN,hT,hl⟩:=qau;clear hm;generalize aj L E p=a at*;rw [hm2] at hT;have hM:=qbn;obtain ⟨hO,hl2⟩:=qcN;clear hm2 he;generalize aj L E (p+2)=b at*;unfold cy at hO;unfold cy at*;obtain ⟨HR,lR,lB⟩:=qav;clear hr;go_enter func316,ntmps316;go_wp2_with fail;refine .mono qrD ?_;rintro e w1 ⟨rfl,r1,b1⟩;have HR1:=qca;have h1:=qm;obtain ⟨y1,zk1⟩:=qad;obtain ⟨k10,k11,k12,k13,k14,k15,k16,k17⟩:=qo;obtain ⟨kf10,kf11,kf12,kf13,kf14,kf15,kf16,kf17⟩:=qw;clear r1 b1;obtain ⟨t0,t4,t5⟩:=HR1.out.tok;obtain ⟨hx,hle,hgl,hrl,HT⟩:=qcl;generalize aj L E (p+1)=c at*;go_wp2_with fail;clear t0 t4 t5 hx hle hgl hrl;refine .mono qrF ?_;rintro e w2 ⟨rfl,r2,b2⟩;have HR2:=qdM;have h2:=qC;obtain ⟨y2,zk2⟩:=qaP;obtain ⟨k20,k21,k22,k23,k24,k25,k26,k27⟩:=qD;obtain ⟨kf20,kf21,kf22,kf23,kf24,kf25,kf26,kf27⟩:=qq;obtain ⟨za2,a20,a21,a22,a23,a24,a25⟩:=qA;clear r2 b2 k10 k11 k12 k13 k14 k15 k16 k17 kf10 kf11 kf12 kf13 kf14 kf15 kf16 kf17 zk1;go_wp2_with fail;refine .mono qrG ?_;rintro e w3 ⟨rfl,r3,b3⟩;have HR3:=qgf;obtain ⟨h3,y3,zk3⟩:=qae;obtain ⟨k30,k31,k32,k33,k34,k35,k36,k37⟩:=qR;obtain ⟨kf30,kf31,kf32,kf33,kf34,kf35,kf36,kf37⟩:=qJ;obtain ⟨za3,a30,a31,a32,a33,a34,a35⟩:=qG;clear r3 b3 k20 k21 k22 k23 k24 k25 k26 k27 kf20 kf21 kf22 kf23 kf24 kf25 kf26 kf27 zk2 a20 a21 a22 a23 a24 a25 za2;go_wp2_with fail
 exact bodyPost_ret (v:=.agg #[ZZ ZY (2),ZZ ZY (0),ZZ ZY (0),ZZ ZY (0),ZZ ZY (0),ZZ ZY (0),Zx ⟨#[]⟩,Zw ZU 0 0]) qoZ rfl ⟨kg (2) (0) (0) (0) (0) (0),rfl,iy _ _ _ _ _ _,(have hv:=HR3.out;qnk),(have hv:=h3;qni)⟩
theorem ue (hL:L.length<=1000) (hc:cap<=maxLen) (hG:aM L) (hr:RL w R g cap B L E p) (hm:aB L p=Zy) (hk:((aj L E p).kY==3)=Zz) (hm2:ag L (p+1) [58]=Zy) (he:aB L (p+2)=Zy) (hk2:((aj L E (p+2)).kY==3)=Zy):
 Calls ZW 316 #[Zv (ZV ⟨R,0,ZU⟩)] w (cg w R g cap B L E (.ok bK (p+3))):=by
 obtain ⟨hN,hT,hl⟩:=qau;clear hm;generalize aj L E p=a at*;rw [hm2] at hT;have hM:=qbn;obtain ⟨hO,hl2⟩:=qcN;clear hm2 he;generalize aj L E (p+2)=b at*;unfold cy at hO;unfold cy at*;obtain ⟨HR,lR,lB⟩:=qav;clear hr;go_enter func316,ntmps316;go_wp2_with fail;refine .mono qrD ?_;rintro e w1 ⟨rfl,r1,b1⟩;have HR1:=qca;have h1:=qm;obtain ⟨y1,zk1⟩:=qad;obtain ⟨k10,k11,k12,k13,k14,k15,k16,k17⟩:=qo;obtain ⟨kf10,kf11,kf12,kf13,kf14,kf15,kf16,kf17⟩:=qw;clear r1 b1;go_wp2_with fail;refine .mono qrF ?_;rintro e w2 ⟨rfl,r2,b2⟩;have HR2:=qdM;have h2:=qC;obtain ⟨y2,zk2⟩:=qaP;obtain ⟨k20,k21,k22,k23,k24,k25,k26,k27⟩:=qD;obtain ⟨kf20,kf21,kf22,kf23,kf24,kf25,kf26,kf27⟩:=qq;obtain ⟨za2,a20,a21,a22,a23,a24,a25⟩:=qA;clear r2 b2 k10 k11 k12 k13 k14 k15 k16 k17 kf10 kf11 kf12 kf13 kf14 kf15 kf16 kf17 zk1;go_wp2_with fail;refine .mono qrG ?_;rintro e w3 ⟨rfl,r3,b3⟩;have HR3:=qgf;obtain ⟨h3,y3,zk3⟩:=qae;obtain ⟨k30,k31,k32,k33,k34,k35,k36,k37⟩:=qR;obtain ⟨kf30,kf31,kf32,kf33,kf34,kf35,kf36,kf37⟩:=qJ;obtain ⟨za3,a30,a31,a32,a33,a34,a35⟩:=qG;clear r3 b3 k20 k21 k22 k23 k24 k25 k26 k27 kf20 kf21 kf22 kf23 kf24 kf25 kf26 kf27 zk2 a20 a21 a22 a23 a24 a25 za2;go_wp2_with fail
 exact bodyPost_ret (v:=.agg #[ZZ ZY (2),ZZ ZY (0),ZZ ZY (0),ZZ ZY (0),ZZ ZY (0),ZZ ZY (0),Zx ⟨#[]⟩,Zw ZU 0 0]) qoZ rfl ⟨kg (2) (0) (0) (0) (0) (0),rfl,iy _ _ _ _ _ _,(have hv:=HR3.out;qnk),(have hv:=h3;qni)⟩
theorem uy (hL:L.length<=1000) (hc:cap<=maxLen) (hG:aM L) (hr:RL w R g cap B L E p) (hm:aB L p=Zy) (hk:((aj L E p).kY==3)=Zz) (hm2:ag L (p+1) [58]=Zy) (he:aB L (p+2)=Zy) (hk2:((aj L E (p+2)).kY==3)=Zz) (ra:rightB (aj L E p).col (aj L E p).row=Zy) (rb:rightB (aj L E (p+2)).col (aj L E (p+2)).row=Zy):
 Calls ZW 316 #[Zv (ZV ⟨R,0,ZU⟩)] w (cg w R g cap B L E (.ok (fg (min (aj L E p).col (aj L E (p+2)).col) (min (aj L E p).row (aj L E (p+2)).row) (max (aj L E p).col (aj L E (p+2)).col) (max (aj L E p).row (aj L E (p+2)).row)) (p+3))):=by
 obtain ⟨hN,hT,hl⟩:=qau;clear hm;generalize aj L E p=a at*;rw [hm2] at hT;have hM:=qbn;obtain ⟨hO,hl2⟩:=qcN;clear hm2 he;generalize aj L E (p+2)=b at*;unfold cy at hO;have HS:=qf (fun w=>DL a.col a.row b.col b.row w ra rb);clear ra rb;unfold cy at*;obtain ⟨HR,lR,lB⟩:=qav;clear hr;go_enter func316,ntmps316;go_wp2_with fail;refine .mono qrD ?_;rintro e w1 ⟨rfl,r1,b1⟩;have HR1:=qca;have h1:=qm;obtain ⟨y1,zk1⟩:=qad;obtain ⟨k10,k11,k12,k13,k14,k15,k16,k17⟩:=qo;obtain ⟨kf10,kf11,kf12,kf13,kf14,kf15,kf16,kf17⟩:=qw;clear r1 b1;go_wp2_with fail;refine .mono qrF ?_;rintro e w2 ⟨rfl,r2,b2⟩;have HR2:=qdM;have h2:=qC;obtain ⟨y2,zk2⟩:=qaP;obtain ⟨k20,k21,k22,k23,k24,k25,k26,k27⟩:=qD;obtain ⟨kf20,kf21,kf22,kf23,kf24,kf25,kf26,kf27⟩:=qq;obtain ⟨za2,a20,a21,a22,a23,a24,a25⟩:=qA;clear r2 b2 k10 k11 k12 k13 k14 k15 k16 k17 kf10 kf11 kf12 kf13 kf14 kf15 kf16 kf17 zk1;go_wp2_with fail;refine .mono qrG ?_;rintro e w3 ⟨rfl,r3,b3⟩;have HR3:=qgf;obtain ⟨h3,y3,zk3⟩:=qae;obtain ⟨k30,k31,k32,k33,k34,k35,k36,k37⟩:=qR;obtain ⟨kf30,kf31,kf32,kf33,kf34,kf35,kf36,kf37⟩:=qJ;obtain ⟨za3,a30,a31,a32,a33,a34,a35⟩:=qG;clear r3 b3 k20 k21 k22 k23 k24 k25 k26 k27 kf20 kf21 kf22 kf23 kf24 kf25 kf26 kf27 zk2 a20 a21 a22 a23 a24 a25 za2;go_wp2_with fail;refine ((HS.out _)).mono ?_;rintro e w4 ⟨rfl,b4⟩;have h4:But R w w4:=But.trans (have hv:=h3;qni) (But.of_below b4)
 have y4:w.heap.size<=w4.heap.size:=h4.size;have zk4:w.heap.size<w4.heap.size:=qom;have Hk4:=bt (B:=w.heap.size) (fun j v hv=>(But.of_below b4).cell (show w.heap.size≠R by omega) qnj) k30 k31 k32 k33 k34 k35 k36 k37;obtain ⟨k40,k41,k42,k43,k44,k45,k46,k47⟩:=Hk4;have Hkf4:=bq (B:=w.heap.size) (fun j hv=>(But.of_below b4).frozen (show w.heap.size≠R by omega) qnt qnq) kf30 kf31 kf32 kf33 kf34 kf35 kf36 kf37;obtain ⟨kf40,kf41,kf42,kf43,kf44,kf45,kf46,kf47⟩:=Hkf4;have za4:w1.heap.size<w4.heap.size:=qom;have a40:w4.cell? ⟨w1.heap.size,0,ZU⟩=ZV (ZZ ZY a.kY):=(But.of_below b4).cell (show w1.heap.size≠R by omega) (have hv:=a30;qnj);have a41:w4.cell? ⟨w1.heap.size,1,ZU⟩=ZV (ZZ ZY a.num):=(But.of_below b4).cell (show w1.heap.size≠R by omega) (have hv:=a31;qnj);have a42:w4.cell? ⟨w1.heap.size,2,ZU⟩=ZV (ZZ ZY a.col):=(But.of_below b4).cell (show w1.heap.size≠R by omega) (have hv:=a32;qnj);have a43:w4.cell? ⟨w1.heap.size,3,ZU⟩=ZV (ZZ ZY a.row):=(But.of_below b4).cell (show w1.heap.size≠R by omega) (have hv:=a33;qnj);have a44:w4.cell? ⟨w1.heap.size,4,ZU⟩=ZV (Zx ⟨a.text.toArray⟩):=(But.of_below b4).cell (show w1.heap.size≠R by omega) (have hv:=a34;qnj);have a45:w4.cell? ⟨w1.heap.size,5,ZU⟩=ZV (ZZ ZY (a.frm:Int)):=(But.of_below b4).cell (show w1.heap.size≠R by omega) (have hv:=a35;qnj);have zc4:w3.heap.size<w4.heap.size:=qom
 have c40:w4.cell? ⟨w3.heap.size,0,ZU⟩=ZV (ZZ ZY b.kY):=(But.of_below b4).cell (show w3.heap.size≠R by omega) qnp;have c41:w4.cell? ⟨w3.heap.size,1,ZU⟩=ZV (ZZ ZY b.num):=(But.of_below b4).cell (show w3.heap.size≠R by omega) qnp;have c42:w4.cell? ⟨w3.heap.size,2,ZU⟩=ZV (ZZ ZY b.col):=(But.of_below b4).cell (show w3.heap.size≠R by omega) qnp;have c43:w4.cell? ⟨w3.heap.size,3,ZU⟩=ZV (ZZ ZY b.row):=(But.of_below b4).cell (show w3.heap.size≠R by omega) qnp;have c44:w4.cell? ⟨w3.heap.size,4,ZU⟩=ZV (Zx ⟨b.text.toArray⟩):=(But.of_below b4).cell (show w3.heap.size≠R by omega) qnp;have c45:w4.cell? ⟨w3.heap.size,5,ZU⟩=ZV (ZZ ZY (b.frm:Int)):=(But.of_below b4).cell (show w3.heap.size≠R by omega) qnp;have HR4:Hid (RL w4 R g cap B L E (p+3)):=qf (RL.below (have hv:=HR3.out;qnk) b4);clear b4 k30 k31 k32 k33 k34 k35 k36 k37 kf30 kf31 kf32 kf33 kf34 kf35 kf36 kf37 zk3 a30 a31 a32 a33 a34 a35 za3;go_wp2_with fail
 exact bodyPost_ret (v:=.agg #[ZZ ZY (6),ZZ ZY (0),ZZ ZY ((min a.col b.col)),ZZ ZY ((min a.row b.row)),ZZ ZY ((max a.col b.col)),ZZ ZY ((max a.row b.row)),Zx ⟨#[]⟩,Zw ZU 0 0]) (by simp [results,results316,go_sem,k40,k41,k42,k43,k44,k45,k46,k47,a40,a41,a42,a43,a44,a45,c40,c41,c42,c43,c44,c45,zk4,za4,zc4]) rfl ⟨kg (6) (0) ((min a.col b.col)) ((min a.row b.row)) ((max a.col b.col)) ((max a.row b.row)),rfl,iy _ _ _ _ _ _,(have hv:=HR4.out;qnk),(have hv:=h4;qni)⟩
theorem mV (hL:L.length<=1000) (hc:cap<=maxLen) (hG:aM L):
 cm R g cap B L E 316 #[Zv (ZV ⟨R,0,ZU⟩)] (bg L E (k+1) Zy):=by
 intro w p res hr hf;rw [bg,if_neg (fun x=>by cases x.1)] at hf;cases ht:L[p]? with
 |none=>
  rw [ht] at hf;obtain rfl:.bad E=res:=Option.some.inj hf;have:=pcorners_none hL hc hG hr (mg ht);rwa [iA ht] at this
 |some t=>
  rw [ht] at hf;have hf2:(if aB L p=Zz then ZV (.bad t.frm) else if ag L (p+1) [58]=Zz/\t.kY=3 then ZV (.ok bK (p+1)) else az L E (p+1) [58] (la L E t))=ZV res:=hf;have hta:aj L E p=t:=eY ht;clear hf;cases he:aB L p with
  |false=>
   rw [if_pos he] at hf2;obtain rfl:=Option.some.inj hf2;have:=pcorners_none hL hc hG hr he;rwa [iB ht] at this
  |true=>
   rw [if_neg qpV] at hf2;cases hm:ag L (p+1) [58] with
   |false=>
    by_cases h3:t.kY=3
    ·rw [if_pos ⟨hm,h3⟩] at hf2
     obtain rfl:=Option.some.inj hf2;exact wb hL hc hG hr he (by rw [hta,beq_iff_eq];exact h3) hm
    ·rw [if_neg (fun x=>h3 x.2)] at hf2
     unfold az at hf2;rw [if_neg qow] at hf2;obtain rfl:=Option.some.inj hf2;exact uj hL hc hG hr he (by rw [hta,beq_eq_false_iff_ne];exact h3) hm
   |true=>
    rw [if_neg (by rw [hm];rintro ⟨h,_⟩;cases h)] at hf2;unfold az at hf2;rw [if_pos hm] at hf2;unfold la at hf2
    have OFF:aB L (p+2)=Zz->res=.bad (whr L E (p+2))->Calls ZW 316 #[Zv (ZV ⟨R,0,ZU⟩)] w (cg w R g cap B L E res):=by
     rintro h rfl;cases h3:(aj L E p).kY==3 with
     |true=>exact uw hL hc hG hr he h3 hm h
     |false=>exact ui hL hc hG hr he h3 hm h
    cases hu:L[p+1+1]? with
    |none=>
     rw [hu] at hf2;exact OFF (mg hu) (by rw [iA hu];exact (Option.some.inj hf2).symm)
    |some u=>
     rw [hu] at hf2;have hf3:(if aB L (p+2)=Zz then ZV (.bad u.frm) else if t.kY=3\/u.kY=3 then ZV (.ok bK (p+2+1)) else ZV (.ok (fg (min t.col u.col) (min t.row u.row) (max t.col u.col) (max t.row u.row)) (p+2+1)))=ZV res:=hf2;have hua:aj L E (p+2)=u:=eY hu;clear hf2;cases he2:aB L (p+2) with
     |false=>
      rw [if_pos he2] at hf3;exact OFF he2 (by rw [iB hu];exact (Option.some.inj hf3).symm)
     |true=>
      rw [if_neg (by rw [he2];decide)] at hf3;by_cases h3:t.kY=3
      ·rw [if_pos (.inl h3)] at hf3
       obtain rfl:=Option.some.inj hf3;exact ub hL hc hG hr he (by rw [hta,beq_iff_eq];exact h3) hm he2
      ·have k3:((aj L E p).kY==3)=Zz:=by rw [hta,beq_eq_false_iff_ne];exact h3
       by_cases u3:u.kY=3
       ·rw [if_pos (.inr u3)] at hf3
        obtain rfl:=Option.some.inj hf3;exact ue hL hc hG hr he k3 hm he2 (by rw [hua,beq_iff_eq];exact u3)
       ·have l3:((aj L E (p+2)).kY==3)=Zz:=by rw [hua,beq_eq_false_iff_ne];exact u3
        rw [if_neg qra] at hf3;obtain rfl:=Option.some.inj hf3
        have r1:rightB t.col t.row=Zy:=by
         obtain ⟨t',e,h⟩:=ka he;rw [ht] at e;obtain rfl:=Option.some.inj e;rcases h with h|h
         ·exact (hG p t ht).good.place h
         ·exact absurd h h3
        have r2:rightB u.col u.row=Zy:=by
         obtain ⟨u',e,h⟩:=ka he2;rw [hu] at e;obtain rfl:=Option.some.inj e;rcases h with h|h
         ·exact (hG (p+2) u hu).good.place h
         ·exact absurd h u3
        have:=uy hL hc hG hr he k3 hm he2 l3 (by rw [hta];exact r1) (by rw [hua];exact r2);rw [hta,hua] at this;exact this
theorem Ck (hL:L.length<=1000) (hc:cap<=maxLen) (hG:aM L) (hr:RL w R g cap B L E p) (he:aB L p=Zz) (hP:cm R g cap B L E 130 #[Zv (ZV ⟨R,0,ZU⟩),ZZ ZY 0] f) (hf:f p=ZV res):
 Calls ZW 317 #[Zv (ZV ⟨R,0,ZU⟩)] w (cg w R g cap B L E res):=by
 obtain ⟨HP,HF,HC,hT⟩:=qcK;clear hP hf;rw [jX L E p] at he;rw [he] at HC;clear he;obtain ⟨t0,t1,t2,t3,t4,t5⟩:=hr.toks p _ (fk hr.le);obtain ⟨hx,hle,hgl,hrl⟩:=qgw;generalize aj L E p=a at*;unfold cy at*;obtain ⟨HR,lR,lB⟩:=qav;clear hr;go_enter func317,ntmps317;go_wp2_with fail;clear t0 t1 t2 t3 t4 t5 hx hle hgl hrl;refine ((HC.out _)).mono ?_;rintro e w1 ⟨rfl,b1⟩;have h1:=qaE;obtain ⟨y1,zk1⟩:=qad;obtain ⟨k10,k11,k12,k13,k14,k15,k16,k17⟩:=qbw;obtain ⟨kf10,kf11,kf12,kf13,kf14,kf15,kf16,kf17,HR1⟩:=qbF;clear b1;go_wp2_with fail;refine .mono qrH ?_;rintro e w2 H2;cases res with
 |bad z=>
  exact qlc
 |ok t q=>
  exact qis
theorem uu (hL:L.length<=1000) (hc:cap<=maxLen) (hG:aM L) (hr:RL w R g cap B L E p) (he:aB L p=Zy) (hm:ag L (p+1) [58]=Zz) (hP:cm R g cap B L E 130 #[Zv (ZV ⟨R,0,ZU⟩),ZZ ZY 0] f) (hf:f p=ZV res):
 Calls ZW 317 #[Zv (ZV ⟨R,0,ZU⟩)] w (cg w R g cap B L E res):=by
 obtain ⟨HP,HF,HC,hT⟩:=qcK;have hl:=mF he;clear hP hf;rw [hm] at hT;clear hm;rw [jX L E p] at he;rw [he] at HC;clear he;obtain ⟨t0,t1,t2,t3,t4,t5⟩:=hr.toks p _ (fk hr.le);obtain ⟨hx,hle,hgl,hrl⟩:=qgw;generalize aj L E p=a at*;unfold cy at*;obtain ⟨HR,lR,lB⟩:=qav;clear hr;go_enter func317,ntmps317;go_wp2_with fail;clear t0 t1 t2 t3 t4 t5 hx hle hgl hrl;refine ((HC.out _)).mono ?_;rintro e w1 ⟨rfl,b1⟩;have h1:=qaE;obtain ⟨y1,zk1⟩:=qad;obtain ⟨k10,k11,k12,k13,k14,k15,k16,k17⟩:=qbw;obtain ⟨kf10,kf11,kf12,kf13,kf14,kf15,kf16,kf17,HR1⟩:=qbF;clear b1;obtain ⟨t0,t4,t5⟩:=HR1.out.tok' (q:=p+1) qoq;rw [show (p+1)*6=p*6+6 from by omega] at t0 t4 t5;obtain ⟨hx,hle,hgl,hrl,HT⟩:=qcl;generalize aj L E (p+1)=c at*;go_wp2_with fail;clear t0 t4 t5 hx hle hgl hrl;refine .mono qrH ?_;rintro e w2 H2;cases res with
 |bad z=>
  exact qlc
 |ok t q=>
  exact qis
theorem ug (hL:L.length<=1000) (hc:cap<=maxLen) (hG:aM L) (hr:RL w R g cap B L E p) (he:aB L p=Zy) (hm:ag L (p+1) [58]=Zy) (hP:cm R g cap B L E 316 #[Zv (ZV ⟨R,0,ZU⟩)] f) (hf:f p=ZV res):
 Calls ZW 317 #[Zv (ZV ⟨R,0,ZU⟩)] w (cg w R g cap B L E res):=by
 obtain ⟨HP,HF,HC,hT⟩:=qcK;have hl:=mF he;clear hP hf;rw [hm] at hT;clear hm;rw [jX L E p] at he;rw [he] at HC;clear he;obtain ⟨t0,t1,t2,t3,t4,t5⟩:=hr.toks p _ (fk hr.le);obtain ⟨hx,hle,hgl,hrl⟩:=qgw;generalize aj L E p=a at*;unfold cy at*;obtain ⟨HR,lR,lB⟩:=qav;clear hr;go_enter func317,ntmps317;go_wp2_with fail;clear t0 t1 t2 t3 t4 t5 hx hle hgl hrl;refine ((HC.out _)).mono ?_;rintro e w1 ⟨rfl,b1⟩;have h1:=qaE;obtain ⟨y1,zk1⟩:=qad;obtain ⟨k10,k11,k12,k13,k14,k15,k16,k17⟩:=qbw;obtain ⟨kf10,kf11,kf12,kf13,kf14,kf15,kf16,kf17,HR1⟩:=qbF;clear b1;obtain ⟨t0,t4,t5⟩:=HR1.out.tok' (q:=p+1) qoq;rw [show (p+1)*6=p*6+6 from by omega] at t0 t4 t5;obtain ⟨hx,hle,hgl,hrl,HT⟩:=qcl;generalize aj L E (p+1)=c at*;go_wp2_with fail;clear t0 t4 t5 hx hle hgl hrl;refine .mono qrH ?_;rintro e w2 H2;cases res with
 |bad z=>
  exact qlc
 |ok t q=>
  exact qis
theorem De (hL:L.length<=1000) (hc:cap<=maxLen) (hG:aM L) (hP:cm R g cap B L E 130 #[Zv (ZV ⟨R,0,ZU⟩),ZZ ZY 0] (ak L E k 1)):
 cm R g cap B L E 317 #[Zv (ZV ⟨R,0,ZU⟩)] (bg L E (k+1) Zz):=by
 intro w p res hr hf;have hf0:=hf;rw [bg] at hf;cases he:aB L p with
 |false=>
  rw [if_pos ⟨rfl,.inl he⟩] at hf;exact Ck hL hc hG hr he hP hf
 |true=>
  cases hm:ag L (p+1) [58] with
  |false=>
   rw [if_pos ⟨rfl,.inr hm⟩] at hf;exact uu hL hc hG hr he hm hP hf
  |true=>
   refine ug hL hc hG hr he hm (mV (k:=k) hL hc hG) ?_;rw [bg,if_neg (fun x=>by cases x.1)];rw [if_neg (by rw [he,hm];rintro ⟨_,h|h⟩<;>cases h)] at hf;exact hf
