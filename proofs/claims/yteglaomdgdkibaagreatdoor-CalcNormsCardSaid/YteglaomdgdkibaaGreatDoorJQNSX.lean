/- Short ways to say what is said often. -/
import Derived.Deep.Cut
import Derived.Deep.LoopGhost
import Derived.Deep.QuietTactic
import Derived.Deep.RegionWith
import Derived.Maps.OwnOps
import Derived.OwnWalk
import Derived.RegionTactic
import Derived.TacticsIn
import Derived.WalkKit
set_option linter.all false
set_option maxHeartbeats 0
set_option maxRecDepth 99999
namespace Go.Proofs.YteglaomdgdkibaaGreatDoor
open Go.RowKit
variable {p:Prop}
def qii(h:p:=by
 refine hK _ _ ?_;clear hK K;refine wpAnyIn_ready (rs:=[4]) qnx qns ?_;refine AllReadyIn.cons rfl (fun K hK=>?_) (AllReadyIn.nil)
 ·go_simp
  refine ⟨trivial,?_⟩;refine .mono qsr ?_;rintro e w3 ⟨found,M',O,c,rfl,_,hI,hf,hM3,hr3,hbt⟩;obtain ⟨k0,k1,hk2⟩:=HFin.out w3 found M' O hI hf hM3 hr3 hbt;obtain ⟨A5,n5,c5,w5,hrun,k2,k3,⟨k4,k5⟩,hsv,hcy⟩:=hk2 c;obtain ⟨HSv,HCy⟩:=qcU;clear hI hf hM3 hr3 hbt hk2 hsv hcy;refine hK _ _ ?_;clear hK K;refine wpAnyIn_ready (rs:=[5]) qnx qns ?_;refine AllReadyIn.cons rfl (fun K hK=>?_) (AllReadyIn.nil)
  ·refine mw qnL _ _ 49 qnL qnL qnL hrun ?_
   refine hK _ _ ?_;clear hK K;refine wpAnyIn_ready (rs:=[6]) qnx qns ?_;refine AllReadyIn.cons rfl (fun K hK=>?_) (AllReadyIn.nil)
   ·go_simp
    refine hK _ _ ?_;clear hK K;refine wpAnyIn_done qnx ?_ _;clear hc0a hc1a hc0b hc1b hrun k0 k1 k2 k3;gi_wp2
    exact ⟨HSv.out,HCy.out⟩):p:=h
def qij(h:p:=by
 clear HK
 go_region_with
  (first
  |(go_at_call 130;refine (HPn.out _ (q+1) (.ok t2 q2) HR3.out.drew HF.out).mono ?_;rintro e w4 H4
    obtain ⟨⟨f0,f1,f2,f3,f4,f5,fw,fA,fl,fc⟩,rfl,v4,r4,b4⟩:=H4;obtain ⟨HR4,h4,s4⟩:=qdX;change w3.heap.size<=w4.heap.size at s4
    obtain ⟨zk4,zo4,k40,k41,k42,k43,k44,k45,k46,k47,kf40,kf41,kf42,kf43,kf44,kf45,kf46,kf47,o40,o41,o42,o43,o44,o45,o46,o47,of40,of41,of42,of43,of44,of45,of46,of47,HO4,HV4⟩:=qah;clear v4 r4 b4 s4;dsimp only [V8.val]))
 all_goals
  go_wp2_with fail;go_roundg n'
  case measure=>omega
  case rel=>
   refine ⟨⟨4,0,0,0,0,0,⟨d.text.toArray⟩,some ⟨w4.heap.size,0,none⟩,2,2⟩,opT d.text t t2,q2,qoq,qf ?_,HNN⟩;refine ⟨(have hv:=HR4.out;qnk),(have hv:=h4;qni),qor,qor,?_,?_,?_,?_,?_,?_,?_,?_,?_,?_,?_,?_,?_,?_,?_,?_,?_,?_,?_,?_,?_,?_,?_,?_,?_,?_,?_,?_,?_,?_,?_,?_,?_⟩
   ·exact TV.node2 4 d.text ⟨c0,c1,c2,c3,c4,c5,cw,cA,cl,cc⟩ ⟨f0,f1,f2,f3,f4,f5,fw,fA,fl,fc⟩ t (some t2) (by exact ⟨qoq,qoq⟩) qnV ⟨qnp,qnp,qnp,qnp,qnp,qnp,qnp,qnp⟩ ⟨qnp,qnp,qnp,qnp,qnp,qnp,qnp,qnp⟩ (HO4.out.kept qnm) (HV4.out.kept qnm)
   ·(with_reducible repeat' (first|exact k40|refine zCs ?_ qoq _ _|refine zCa ?_ _|refine zCn ?_ _|refine zCd ?_))
   ·(with_reducible repeat' (first|exact k41|refine zCs ?_ qoq _ _|refine zCa ?_ _|refine zCn ?_ _|refine zCd ?_))
   ·(with_reducible repeat' (first|exact k42|refine zCs ?_ qoq _ _|refine zCa ?_ _|refine zCn ?_ _|refine zCd ?_))
   ·(with_reducible repeat' (first|exact k43|refine zCs ?_ qoq _ _|refine zCa ?_ _|refine zCn ?_ _|refine zCd ?_))
   ·(with_reducible repeat' (first|exact k44|refine zCs ?_ qoq _ _|refine zCa ?_ _|refine zCn ?_ _|refine zCd ?_))
   ·(with_reducible repeat' (first|exact k45|refine zCs ?_ qoq _ _|refine zCa ?_ _|refine zCn ?_ _|refine zCd ?_))
   ·(with_reducible repeat' (first|exact k46|refine zCs ?_ qoq _ _|refine zCa ?_ _|refine zCn ?_ _|refine zCd ?_))
   ·(with_reducible repeat' (first|exact k47|refine zCs ?_ qoq _ _|refine zCa ?_ _|refine zCn ?_ _|refine zCd ?_))
   ·(with_reducible repeat' (first|exact kf40|refine zFs ?_ qoq _ _|refine zFa ?_ qor _|refine zFn ?_ _|refine zFd ?_))
   ·(with_reducible repeat' (first|exact kf41|refine zFs ?_ qoq _ _|refine zFa ?_ qor _|refine zFn ?_ _|refine zFd ?_))
   ·(with_reducible repeat' (first|exact kf42|refine zFs ?_ qoq _ _|refine zFa ?_ qor _|refine zFn ?_ _|refine zFd ?_))
   ·(with_reducible repeat' (first|exact kf43|refine zFs ?_ qoq _ _|refine zFa ?_ qor _|refine zFn ?_ _|refine zFd ?_))
   ·(with_reducible repeat' (first|exact kf44|refine zFs ?_ qoq _ _|refine zFa ?_ qor _|refine zFn ?_ _|refine zFd ?_))
   ·(with_reducible repeat' (first|exact kf45|refine zFs ?_ qoq _ _|refine zFa ?_ qor _|refine zFn ?_ _|refine zFd ?_))
   ·(with_reducible repeat' (first|exact kf46|refine zFs ?_ qoq _ _|refine zFa ?_ qor _|refine zFn ?_ _|refine zFd ?_))
   ·(with_reducible repeat' (first|exact kf47|refine zFs ?_ qoq _ _|refine zFa ?_ qor _|refine zFn ?_ _|refine zFd ?_))
   ·simp [go_sem,o40,zo4]
   ·simp [go_sem,o41,zo4]
   ·simp [go_sem,o42,zo4]
   ·simp [go_sem,o43,zo4]
   ·simp [go_sem,o44,zo4]
   ·simp [go_sem,o45,zo4]
   ·simp [go_sem,o46,zo4]
   ·simp [go_sem,o47,zo4]
   ·simp [go_sem,of40,zo4]
   ·simp [go_sem,of41,zo4]
   ·simp [go_sem,of42,zo4]
   ·simp [go_sem,of43,zo4]
   ·simp [go_sem,of44,zo4]
   ·simp [go_sem,of45,zo4]
   ·simp [go_sem,of46,zo4]
   ·simp [go_sem,of47,zo4]):p:=h
def qik(h:p:=by
 refine hK _ _ ?_;clear hK K;refine wpAnyIn_ready (rs:=[5]) qnx qns ?_;refine AllReadyIn.cons rfl (fun K hK=>?_) (AllReadyIn.nil)
 ·refine mw qnL _ _ 49 qnL qnL qnL hrun ?_
  refine hK _ _ ?_;clear hK K;refine wpAnyIn_ready (rs:=[6]) qnx qns ?_;refine AllReadyIn.cons rfl (fun K hK=>?_) (AllReadyIn.nil)
  ·go_simp
   refine hK _ _ ?_;clear hK K;refine wpAnyIn_done qnx ?_ _;clear hc0a hc1a hc0b hc1b hrun k0 k1 k2 k3;gi_wp2
   exact ⟨HSv.out,HCy.out⟩):p:=h
def qim(h:p:=by
 cases cb
 all_goals
  obtain ⟨H2,HU,hp2⟩:=qek;obtain ⟨HR,HT,hlt,nk⟩:=qP;obtain ⟨HE,HC⟩:=qeG;obtain ⟨HX,hp⟩:=qbm;clear h2 hu hr hk he hc ht;go_enter Tryz.func239,Tryz.ntmps239;go_wp2_with fail;refine .mono qsh ?_;rintro e w1 ⟨rfl,b1⟩;obtain ⟨h1,zk1,k10,k11,k12,k13,k14,k15,k16,k17,kf10,kf11,kf12,kf13,kf14,kf15,kf16,kf17,y1,HR1⟩:=qg;clear b1;go_wp2_with fail;refine .mono qsi ?_;rintro e w2 ⟨rfl,b2⟩;obtain ⟨h2,zk2,k20,k21,k22,k23,k24,k25,k26,k27,kf20,kf21,kf22,kf23,kf24,kf25,kf26,kf27⟩:=qh;obtain ⟨y2,HR2⟩:=qF;obtain ⟨e0,e1⟩:=qdi;have HS2:=qas;clear b2 k10 k11 k12 k13 k14 k15 k16 k17 kf10 kf11 kf12 kf13 kf14 kf15 kf16 kf17 zk1;obtain ⟨_,_,hc⟩:=HR2.out;obtain ⟨c0,c1,cf1⟩:=qcI;clear hc;obtain ⟨ga,hA,hgaR,hgal,t0,t1,t2,t3,t4,t5⟩:=(HT.out.but h2).at HX.out;rw [hA] at c0;obtain ⟨zR2,na⟩:=qcD;clear hA;go_wp2_with fail;go_region
  go_wp2_with fail;clear c0 c1 cf1 t0 t1 t2 t3 t4 t5;refine .mono qsj ?_;rintro e w3 ⟨rfl,r3,b3⟩;obtain ⟨h3,zk3,k30,k31,k32,k33,k34,k35,k36,k37,kf30,kf31,kf32,kf33,kf34,kf35,kf36,kf37⟩:=qi;obtain ⟨za3,a30,a31,a32,a33,a34,a35,y3⟩:=qu;obtain ⟨HR3,y3l,E3⟩:=qbA;clear b3 r3 k20 k21 k22 k23 k24 k25 k26 k27 kf20 kf21 kf22 kf23 kf24 kf25 kf26 kf27 zk2;rw [E3] at HR3;go_wp2_with fail;refine .mono qsk ?_;rintro e w4 ⟨rfl,b4⟩;obtain ⟨h4,zk4,k40,k41,k42,k43,k44,k45,k46,k47,kf40,kf41,kf42,kf43,kf44,kf45,kf46,kf47,za4,a40,a41,a42,a43,a44,a45,y4⟩:=qj;obtain ⟨HR4,e4,HS4⟩:=qaO;clear b4 k30 k31 k32 k33 k34 k35 k36 k37 kf30 kf31 kf32 kf33 kf34 kf35 kf36 kf37 zk3 a30 a31 a32 a33 a34 a35 za3;obtain ⟨_,_,hc⟩:=HR4.out;obtain ⟨c0,c1,cf1⟩:=qcI;clear hc;obtain ⟨gb,hA,hgbR,hgbl,t0,t1,t2,t3,t4,t5⟩:=(HT.out.but h4).at HU.out;rw [hA] at c0;obtain ⟨zR4,nb⟩:=qfx;clear hA;go_wp2_with fail;go_region
  go_wp2_with fail;clear c0 c1 cf1 t0 t1 t2 t3 t4 t5;exact bodyPost_ret (v:=.agg #[.int .i64 2,.int .i64 0,.int .i64 0,.int .i64 0,.int .i64 0,.int .i64 0,.string ⟨#[]⟩,.slice none 0 0]) (by simp [results,Tryz.results239,go_sem,k40,k41,k42,k43,k44,k45,k46,k47,y4]) rfl ⟨⟨2,0,0,0,0,0,⟨#[]⟩,none,0,0⟩,rfl,TV.leaf (t:=bK) rfl,(have hv:=HS4.out;qnQ),(have hv:=h4;qni)⟩):p:=h
def qiU(h:p:=by
 go_wp2_with (at_lookup;refine gT _ rfl _ _ rfl rfl (HMb.out _ qok) HQ.out.1 HQ.out.2 rfl HV.out.1 HV.out.2.1 HV.out.2.2 ?_)
 go_roundw
 case rel=>exact HF.out _ (by repeat' (first|with_reducible exact qb|with_reducible exact qd|with_reducible refine Below.alloc ?_ ?_ _|with_reducible refine Below.setCell ?_ ?_ _|simp))
 case measure=>simp [RowKit.intOf];omega):p:=h
def qje(h:p:=by
 have hS:dL s.data.toList=(some acc,0):=by
  cases k with
  |zero=>have:=HS.out.2;omega
  |succ k'=>rw [HS.out.1,cG,if_neg hpe]
 have HA:=qf (pH HN.out hS);clear hS hpe HS;go_wp2_with fail;go_ret3
 exact ⟨_,(by rw [HA.out.2.1,HA.out.2.2];rfl),(by rw [HA.out.1];exact HO.out),hb⟩):p:=h
def qjz(h:p:=by
 go_wp2_with fail;go_quiet (fail)
 go_wp2_with fail;go_ret;exact ⟨rfl,below_drewN qb _⟩):p:=h
def qjJ(h:p:=by
 go_wp2_with fail;go_ret3
 exact ⟨.slice none 0 0,(by rw [HA.out.2.1,HA.out.2.2];rfl),(by rw [HA.out.1];exact World.ownsRow_nil _ _ _ _),(hb.trans (b1.mono hb.size)).alloc (Nat.le_trans hb.size b1.size) _⟩):p:=h
def qjP(h:p:=by
 go_wp2_with fail;go_meet
 exact ⟨rfl,rfl⟩):p:=h
def qkd(h:p:=by
 clear hb;go_enter Tryz.func40,Tryz.ntmps40;go_wp2_with fail;refine (HN.out _ qb).mono ?_;rintro e w1 ⟨rfl,hb1⟩;go_wp2_with fail;go_ret3
 exact ⟨rfl,hb1⟩):p:=h
def qlu(h:p:=by
 go_wp2_with fail;go_meet
 exact ⟨congrArg Value.bool hz,congrArg Value.string HX.out,rfl⟩):p:=h
end Go.Proofs.YteglaomdgdkibaaGreatDoor
