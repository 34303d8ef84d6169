/- Texts joined: DbA, FrameD. -/
import Derived.Test.YthfbhinlgoaajaaDoorDj19
import Derived.Deep.RegionHeld3
import Derived.Test.YthfbhinlgoaajaaDoorRows
import Derived.Test.YthfbhinlgoaajaaDoorDj01
import Derived.WalkKit
import Derived.ProofKit
import Derived.OpenShut
import Derived.Deep.DeepHandedRow
import Derived.Lib.LaidTab
import Derived.Stop.LaidErr
import Derived.Lib.SmallJoins
import Derived.LaidLaws
import Derived.Lib.LaidIn
set_option linter.all false
namespace Go.Proofs.YthfbhinlgoaajaaDoor
open Go.RowKit Go.Shelf
structure D0 (w : World) (a room : Nat) (A1 A2 : Option Addr) (l m : List En) (s : Sh) (K : Nat → Prop) (wr : World) : Prop where
  on : On9 wr w.heap.size a room s K
  rl : RowE wr K A1 l
  rm : RowE wr K A2 m
  bl : Below w.heap.size w wr
theorem D0.begin {w w1 : World} {a room : Nat} {A1 A2 : Option Addr} {l m : List En} {K : Nat → Prop} {Q R : Nat → Prop} (h1 : RowE w Q A1 l) (h2 : RowE w R A2 m) (ho : On9 w1 w.heap.size a room [] K) (hk : ∀ g, g < w.heap.size → K g) (hb : Below w.heap.size w w1) : D0 w a room A1 A2 l m [] K w1 := by
  have key : ∀ {A : Option Addr} {l : List En} {Q : Nat → Prop}, RowE w Q A l → RowE w1 K A l := by
    intro A l Q h
    refine RowE.below (P := K) ?_ hb
    exact h.mono fun g _ hl => hk g hl
  exact ⟨ho, key h1, key h2, hb⟩
theorem D0.put {w : World} {a room : Nat} {A1 A2 : Option Addr} {l m : List En} {s s' : Sh} {K K' : Nat → Prop} {wr w1 : World} (h : D0 w a room A1 A2 l m s K wr) (hl : Lf9 wr w.heap.size a room s' K w1 K') : D0 w a room A1 A2 l m s' K' w1 :=
  ⟨hl.1, (h.rl.kept hl.2.2.1).mono fun g hg _ => hl.2.1 g hg, (h.rm.kept hl.2.2.1).mono fun g hg _ => hl.2.1 g hg, h.bl.trans hl.2.2.2⟩
structure D1 (w : World) (a room : Nat) (O : Option Addr) (cs : List Ch) (s : Sh) (K : Nat → Prop) (wr : World) : Prop where
  on : On9 wr w.heap.size a room s K
  rc : RowC wr K O cs
  bl : Below w.heap.size w wr
theorem D0.of {w : World} {a room : Nat} {A1 A2 O : Option Addr} {l m : List En} {cs : List Ch} {s : Sh} {K : Nat → Prop} {wr w1 : World} (h : D0 w a room A1 A2 l m s K wr) (hb : Below wr.heap.size wr w1) (hr : RowC w1 (fun g => wr.heap.size ≤ g) O cs) : D1 w a room O cs s (fun g => K g ∨ (wr.heap.size ≤ g ∧ g < w1.heap.size)) w1 :=
  ⟨h.on.below hb, hr.mono fun g hg hl => .inr ⟨hg, hl⟩, h.bl.trans (hb.mono h.bl.size)⟩
theorem D1.below {w : World} {a room : Nat} {O : Option Addr} {cs : List Ch} {s : Sh} {K : Nat → Prop} {wr w1 : World} (h : D1 w a room O cs s K wr) (hb : Below wr.heap.size wr w1) : D1 w a room O cs s (fun g => K g ∨ (wr.heap.size ≤ g ∧ g < w1.heap.size)) w1 :=
  ⟨h.on.below hb, (h.rc.below hb).mono fun _ hg _ => .inl hg, h.bl.trans (hb.mono h.bl.size)⟩
theorem D1.put {w : World} {a room : Nat} {O : Option Addr} {cs : List Ch} {s s' : Sh} {K K' : Nat → Prop} {wr w1 : World} (h : D1 w a room O cs s K wr) (hl : Lf9 wr w.heap.size a room s' K w1 K') : D1 w a room O cs s' K' w1 :=
  ⟨hl.1, (h.rc.kept hl.2.2.1).mono fun g hg _ => hl.2.1 g hg, h.bl.trans hl.2.2.2⟩
theorem ok_text {c : Ch} (h : okC c = true) : c.fr.length ≤ maxLen ∧ c.tt.length ≤ maxLen := by
  have := okC_iff.1 h
  unfold maxLen
  omega
theorem turn_ok {c : Ch} (h : okC c = true) : okC (turnC c) = true := by
  have := okC_iff.1 h
  exact okC_iff.2 ⟨this.1, this.2.1, this.2.2.2.1, this.2.2.1, fun e => this.2.2.2.2 e.symm⟩
set_option maxHeartbeats 40000000 in
set_option maxRecDepth 10000 in
theorem deltaback_any (w : World) (hE : TB w.heap.size w) (g h : List En) (A1 A2 : Option Addr) (ca cb : Nat) {Q R : Nat → Prop} (hg : RowE w Q A1 g) (hh : RowE w R A2 h) (hgx : ∀ x ∈ g, x.text.length ≤ maxLen) (hhx : ∀ x ∈ h, x.text.length ≤ maxLen) (hgn : g.length ≤ maxLen) (hhn : h.length ≤ maxLen) :
    Calls Tryd.prog 3 #[.slice A1 g.length ca, .slice A2 h.length cb] w fun e w' => e = .returned (.bool true) ∧ Below w.heap.size w w' := by
  have HEv := Lib.hid (fun w' (hb : Below w.heap.size w w') => ldalive_any w' (tb_up hE hb))
  have HNw := Lib.hid (o9New w hE 2000 (by decide))
  have HF1 := Lib.hid (ldfits_any g A1 ca w hg hgn hgx)
  have HF2 := Lib.hid (ldfits_any h A2 cb w hh hhn hhx)
  have HR1 := Lib.hid hg
  have HR2 := Lib.hid hh
  have HX1 := Lib.hid hgx
  have HX2 := Lib.hid hhx
  clear hE hg hh hgx hhx hgn hhn
  unfold FitsE at HF1 HF2
  go_enter Tryd.func3, Tryd.ntmps3
  go_wp2_with fail
  refine HF1.out.mono ?_; rintro e w1 ⟨b1, rfl, hf1, hw1⟩
  have hw1' := hw1.symm
  subst hw1'
  have HG1 := Lib.hid hf1
  clear hf1 hw1 HF1
  go_wp2_with fail
  refine HF2.out.mono ?_; rintro e w1 ⟨b2, rfl, hf2, hw2⟩
  have hw2' := hw2.symm
  subst hw2'
  have HG2 := Lib.hid hf2
  clear hf2 hw2 HF2
  cases b1 with
  | false =>
    go_wp2_with fail
    refine (HEv.out _ (Below.refl _ _)).mono ?_; rintro e w1 ⟨rfl, hb1⟩
    go_wp2_with fail
    go_ret
    exact ⟨rfl, hb1⟩
  | true =>
  cases b2 with
  | false =>
    go_wp2_with fail
    refine (HEv.out _ (Below.refl _ _)).mono ?_; rintro e w1 ⟨rfl, hb1⟩
    go_wp2_with fail
    go_ret
    exact ⟨rfl, hb1⟩
  | true =>
  have hg60 : g.length ≤ 60 := (HG1.out rfl).1
  have hh60 : h.length ≤ 60 := (HG2.out rfl).1
  have HBo := Lib.hid (fun e1 e2 => both_of (room := 2000) hg60 hh60 (Nat.le_refl _) e1 e2)
  clear HG1 HG2
  go_wp2_with fail
  refine HNw.out.mono ?_; rintro e w1 ⟨a, K1, rfl, hO1, hK1, hb1⟩
  have hT1 : D0 w a 2000 A1 A2 g h [] K1 w1 := D0.begin HR1.out HR2.out hO1 hK1 hb1
  have HBu := Lib.hid (ptbuild_any hT1.on g A1 ca hT1.rl (by omega) HX1.out)
  have HT1 := Lib.hid hT1
  clear hO1 hK1 hb1 hT1 HNw HR1 HR2
  generalize pBldR 2000 [] g = r at *
  obtain ⟨s1, x, e1⟩ := r
  go_wp2_with fail
  refine HBu.out.mono ?_; rintro e w3 ⟨K3, rfl, hl3⟩
  have hT3 := HT1.out.put hl3
  have HT3 := Lib.hid hT3
  have HBv := Lib.hid (ptbuild_any hT3.on h A2 cb hT3.rm (by omega) HX2.out)
  clear hl3 hT3 HT1 HBu
  dsimp only at HBv HBo HT3
  generalize pBldR 2000 s1 h = r at *
  obtain ⟨s2, y, e2⟩ := r
  go_wp2_with fail
  refine HBv.out.mono ?_; rintro e w4 ⟨K4, rfl, hl4⟩
  have HT4 := Lib.hid (HT3.out.put hl4)
  clear hl4 HT3 HBv
  dsimp only at HT4 HBo
  by_cases he1 : e1 = 0
  · subst he1
    by_cases he2 : e2 = 0
    · subst he2
      have HD := Lib.hid (HBo.out rfl rfl)
      clear HBo
      obtain ⟨N, hN⟩ : ∃ N : Nat, N = 1024 := ⟨1024, rfl⟩
      have HN := Lib.hid hN
      have hbx := isT_bound HD.out.inv HD.out.fst
      have hby := isT_bound HD.out.inv HD.out.snd
      have hx0 : 0 ≤ x := hbx.1
      have hx1 : x ≤ 2000 := hbx.2
      have hy0 : 0 ≤ y := hby.1
      have hy1 : y ≤ 2000 := hby.2
      have HOf := Lib.hid (pdOf_any N hN HT4.out.on x y (by omega) (by omega))
      have hh1 : hasT s2 x = some (sortK g 1024) := hasT_some HD.out.fst
      have hh2 : hasT s2 y = some (sortK h 1024) := hasT_some HD.out.snd
      have HH1 := Lib.hid hh1
      rw [hh1, hh2] at HOf
      have HOk := Lib.hid (chN_ok (rg_of HD.out.fst.1) (rg_of HD.out.snd.1) (Nat.le_of_eq hN))
      have HLen := Lib.hid (chN_len (l := sortK g 1024) (m := sortK h 1024) N)
      have hsm : (x = y) = (chN (sortK g 1024) (sortK h 1024) N = []) := propext (HD.out.same hN)
      have HSm := Lib.hid hsm
      clear hbx hby hh1 hh2 hsm hN
      generalize sortK g 1024 = l at *
      generalize sortK h 1024 = m at *
      have HRi := Lib.hid (fun i c d => chN_rise (l := l) (m := m) (n := N) (i := i) (c := c) (d := d))
      have HTh := Lib.hid (fun (s : Sh) (hb : BothD 2000 s x y l m) => hb.there (Nat.le_refl _) HN.out)
      have HBk := Lib.hid (fun (s : Sh) (hb : BothD 2000 s x y l m) => hb.back (Nat.le_refl _) HN.out)
      have HGt := Lib.hid (fun (s : Sh) (hb : BothD 2000 s x y l m) (c : Ch) (hc : c ∈ chN l m N) => hb.gets hc)
      have HOr : Hid (ofR N (some l) (some m) = (chN l m N, 0)) := Lib.hid rfl
      have HOs : Hid (ofR N (some l) (some l) = ([], 0)) := Lib.hid (by show (chN l l N, (0 : Int)) = _; rw [chN_self])
      rw [HOr.out] at HOf
      unfold DofP at HOf
      generalize chN l m N = CC at *
      clear HOr
      go_wp2_with fail
      refine HOf.out.mono ?_; rintro e w5 ⟨O, co, rfl, hco, hr5, hb5⟩
      have hT5 := HT4.out.of hb5 hr5
      have HO2 := Lib.hid (pdOf_any N HN.out hT5.on x x (by omega) (by omega))
      rw [HH1.out, HOs.out] at HO2
      unfold DofP at HO2
      have HT5 := Lib.hid hT5
      clear hr5 hb5 hT5 HT4 HOf
      go_wp2_with fail
      refine HO2.out.mono ?_; rintro e w6 ⟨O2, co2, rfl, _, _, hb6⟩
      have hT6 := HT5.out.below hb6
      have HAp := Lib.hid (pdapply_any hT6.on x (by omega) CC O co hT6.rc (by have := HLen.out; have := HN.out; omega) (fun c hc => ok_text (HOk.out c hc)))
      have HT6 := Lib.hid hT6
      obtain ⟨t1, t2, t3⟩ := HTh.out s2 HD.out
      have HD3 := Lib.hid t3
      clear hb6 hT6 HT5 HO2 t3
      generalize pAplR 2000 s2 x CC = r at *
      obtain ⟨s3, z, e3⟩ := r
      dsimp only at t1 t2 HD3
      subst t1 t2
      go_wp2_with fail
      refine HAp.out.mono ?_; rintro e w7 ⟨K7, rfl, hl7⟩
      have hT7 := HT6.out.put hl7
      have HTu := Lib.hid (pdturn_any CC O co w7 hT7.rc (by have := HLen.out; have := HN.out; omega))
      have HT7 := Lib.hid hT7
      clear hl7 hT7 HT6 HAp
      dsimp only at HT7
      go_wp2_with fail
      refine HTu.out.mono ?_; rintro e w8 ⟨O8, c8, rfl, hc8, hr8, hb8⟩
      have hT8 := HT7.out.below hb8
      have HAq := Lib.hid (pdapply_any hT8.on z (by omega) (CC.map turnC) O8 c8 hr8 (by rw [List.length_map]; have := HLen.out; have := HN.out; omega) (fun c hc => by obtain ⟨d, hd, rfl⟩ := List.mem_map.1 hc; exact ok_text (turn_ok (HOk.out d hd))))
      rw [List.length_map] at HAq
      have HT8 := Lib.hid hT8
      obtain ⟨t1, t2, t3⟩ := HBk.out s3 HD3.out
      have HD9 := Lib.hid t3
      clear hr8 hb8 hT8 HT7 HTu t3 hc8
      generalize pAplR 2000 s3 z (CC.map turnC) = r at *
      obtain ⟨s4, u, e4⟩ := r
      dsimp only at t1 t2 HD9
      subst t1 t2
      go_wp2_with fail
      refine HAq.out.mono ?_; rintro e w9 ⟨K9, rfl, hl9⟩
      have HT9 := Lib.hid (HT8.out.put hl9)
      clear hl9 HT8 HAq
      dsimp only at HT9
      have HGs := Lib.hid (fun c hc => HGt.out s4 HD9.out c hc)
      have hcl : CC.length ≤ 1024 := by have := HLen.out; have := HN.out; omega
      clear HTh HBk HGt HD HD3 HD9
      obtain ⟨CL, hCL⟩ : ∃ CL, CC.length = CL := ⟨_, rfl⟩
      have HCL := Lib.hid hCL
      have hsb : (z == u) = ((CL : Int) == 0) := by
        have h1 : (u = z) = (CC = []) := HSm.out
        by_cases e : u = z
        · have e2 : CC = [] := by rw [← h1]; exact e
          rw [← hCL, e2, e]; simp
        · have e2 : ¬ CC = [] := by rw [← h1]; exact e
          have e3 : CL ≠ 0 := fun q => e2 (List.length_eq_zero_iff.1 (hCL.trans q))
          rw [beq_eq_false_iff_ne.2 (fun q => e q.symm), beq_eq_false_iff_ne.2 (by omega)]
      have hsc : (u == z) = ((CL : Int) == 0) := by rw [← hsb]; exact Bool.eq_iff_iff.2 ⟨fun q => by rw [beq_iff_eq] at q ⊢; exact q.symm, fun q => by rw [beq_iff_eq] at q ⊢; exact q.symm⟩
      have HSc := Lib.hid hsc
      rw [hCL] at hcl
      rw [hCL]
      clear hCL hsb hsc HSm
      go_wp2_with fail
      go_loopw [21] (fun vi wr => ∃ (i : Nat) (K : Nat → Prop), i ≤ CL ∧ vi = .int .i64 (i : Int) ∧ Hid (D1 w a 2000 O CC s4 K wr)) (fun vi _ => CL - (RowKit.intOf vi).toNat)
      case atStart => exact ⟨0, K9, Nat.zero_le _, rfl, HT9⟩
      case round =>
        clear HT9
        obtain ⟨i, K, hi, rfl, HT⟩ := hrel
        by_cases hlt : i < CL
        · obtain ⟨c, hc⟩ : ∃ c, CC[i]? = some c := ⟨_, List.getElem?_eq_getElem (by rw [HCL.out]; exact hlt)⟩
          obtain ⟨gC, oC, rfl, _, hgl, hat⟩ := HT.out.rc.at (i := i) (by rw [HCL.out]; exact hlt)
          obtain ⟨q0, q1, q2⟩ := hat.three hc
          obtain ⟨hne, hgx, hgy⟩ := HGs.out c (List.mem_of_getElem? hc)
          have HG1 := Lib.hid (pget_any HT.out.on u (by omega) c.key)
          rw [hgx] at HG1
          have HAt := Lib.hid hat
          have HcI := Lib.hid hc
          have HGy := Lib.hid hgy
          have hI : (i : Int) < (CL : Int) := by omega
          have hJ : (0 : Int) ≤ (i : Int) := by omega
          obtain ⟨kc, fc, tc⟩ := c
          have HNe : Hid (¬ fc = tc) := Lib.hid hne
          clear hat hc hne hgx hgy
          go_wp2_with fail
          refine HG1.out.mono ?_; rintro e w10 ⟨rfl, hb10⟩
          have hT10 := HT.out.below hb10
          have HG2 := Lib.hid (pget_any hT10.on z (by omega) kc)
          rw [HGy.out] at HG2
          have HT10 := Lib.hid hT10
          have k0 := keep_cell hb10 q0
          have k1 := keep_cell hb10 q1
          have k2 := keep_cell hb10 q2
          have HB10 := Lib.hid hb10
          clear hb10 hT10 HT q0 q1 q2 HG1
          go_wp2_with fail
          refine HG2.out.mono ?_; rintro e w11 ⟨rfl, hb11⟩
          have hT11 := HT10.out.below hb11
          have HT11 := Lib.hid hT11
          have q0 := keep_cell hb11 k0
          have q1 := keep_cell hb11 k1
          have q2 := keep_cell hb11 k2
          have hb9 := HB10.out.trans (hb11.mono HB10.out.size)
          have HB9 := Lib.hid hb9
          clear hb11 hT11 HT10 k0 k1 k2 HG2 HB10 hb9
          have d0 : (fc == tc) = false := beq_eq_false_iff_ne.2 HNe.out
          by_cases hz : i = 0
          · have d1 : decide ((0 : Int) < (i : Int)) = false := decide_eq_false (by omega)
            have hq : (0 < i) = False := eq_false (by omega)
            clear hz
            go_wp2_with fail
            go_quiet (fail)
            go_wp2_with fail
            go_roundw
            case rel => exact ⟨i + 1, _, by omega, by go_num, Lib.hid (HT11.out.below (by first | exact below_drewN (Below.refl _ _) _ | exact Below.refl _ _))⟩
            case measure => simp [RowKit.intOf]; omega
          · have d1 : decide ((0 : Int) < (i : Int)) = true := decide_eq_true (by omega)
            have hq : (0 < i) = True := eq_true (by omega)
            obtain ⟨p, hp⟩ : ∃ p : Nat, i = p + 1 := ⟨i - 1, by omega⟩
            have hp1 : (i : Int) - 1 = (p : Int) := by omega
            have hp2 : (p : Int) < (CL : Int) := by omega
            have hp3 : (0 : Int) ≤ (p : Int) := by omega
            obtain ⟨d, hd⟩ : ∃ d, CC[p]? = some d := ⟨_, List.getElem?_eq_getElem (by rw [HCL.out]; omega)⟩
            obtain ⟨q3, _, _⟩ := HAt.out.three hd
            have r0 := keep_cell HB9.out q3
            have hkk := HRi.out p d ⟨kc, fc, tc⟩ hd (by rw [← hp]; exact HcI.out)
            obtain ⟨kd, fd, td⟩ := d
            have hkk2 : kd < kc := hkk
            have d2 : decide (kc ≤ kd) = false := decide_eq_false (by omega)
            clear hkk hkk2 hd q3 hz hp
            go_wp2_with fail
            go_quiet (fail)
            go_wp2_with fail
            go_roundw
            case rel => exact ⟨i + 1, _, by omega, by go_num, Lib.hid (HT11.out.below (by first | exact below_drewN (Below.refl _ _) _ | exact Below.refl _ _))⟩
            case measure => simp [RowKit.intOf]; omega
        · have hii : i = CL := by omega
          subst hii
          have HC := Lib.hid (HEv.out _ HT.out.bl)
          have hz := HSc.out
          go_wp2_with fail
          refine HC.out.mono ?_; rintro e w10 ⟨rfl, hb10⟩
          have HBx := Lib.hid (HT.out.bl.trans (hb10.mono HT.out.bl.size))
          clear hb10 HT HC
          go_wp2_with fail
          go_ret
          exact ⟨rfl, HBx.out⟩
    · have d2 : ((e2 : Int) != 0) = true := by simpa using he2
      clear HBo
      go_wp2_with fail
      refine (HEv.out _ HT4.out.bl).mono ?_; rintro e w5 ⟨rfl, hb5⟩
      have hB := HT4.out.bl.trans (hb5.mono HT4.out.bl.size)
      go_wp2_with fail
      go_ret
      exact ⟨rfl, hB⟩
  · have d1 : ((e1 : Int) != 0) = true := by simpa using he1
    clear HBo
    go_wp2_with fail
    refine (HEv.out _ HT4.out.bl).mono ?_; rintro e w5 ⟨rfl, hb5⟩
    have hB := HT4.out.bl.trans (hb5.mono HT4.out.bl.size)
    go_wp2_with fail
    go_ret
    exact ⟨rfl, hB⟩
end Go.Proofs.YthfbhinlgoaajaaDoor
namespace Go.Proofs.YthfbhinlgoaajaaDoor
open Go.ChangeShapes Go.WideShapes Go.ChangeAt Go.RowKit
theorem own : ownKnob Tryd.prog.godebug = none := by kernel_rfl
theorem yTab9 : (Tryd.prog.globals[0]?).map (·.type) = some 143 := by kernel_rfl
theorem cellsTab9 : Tryd.prog.cellsOf 143 = 20 := by kernel_rfl
theorem cellsU64 : Tryd.prog.cellsOf 124 = 1 := by kernel_rfl

theorem tab_of {w : World} (h : laidMet Tryd.prog Rows.deltaBackRow.laid w) : TabE w :=
  Lib.tabIs_of_head (rest := _) gTab9 yTab9 Tryd.underlying143 Tryd.underlying124 cellsU64 cellsTab9 h.tail.tail

def valsOf : DataW Unit → List Value
  | .agg ds => ds.map fun
    | .lit (.int k n) => .int k n
    | _ => .nilIface
  | _ => []
noncomputable def laidWorld (os : Os) : World :=
  let w0 := World.holding Tryd.prog os ⟨#[], #[], []⟩
  let put (h : Array Obj) (g : Nat) (cs : Array Value) : Array Obj := h.modify g fun
    | .cells _ t frozen => .cells cs t frozen
    | o => o
  let h2 := put w0.heap 0 (valsOf Rows.laid_internal_strconv_uint64pow10).toArray
  let h3 := put h2 1 (valsOf Rows.laid_math_bits_deBruijn32tab).toArray
  let h4 := put h3 2 (valsOf Rows.laid_math_bits_deBruijn64tab).toArray
  { w0 with heap := h4 }
theorem laid_met (os : Os) (args : Array Value) : laidMet Tryd.prog Rows.deltaBackRow.laid ((laidWorld os).forCall (fun _ _ => 0) ⟨#[], args, []⟩).memory :=
  laidMet_of_run' 8 (by kernel_rfl) (by kernel_rfl)
theorem cellsIntK : Tryd.prog.cellsOf 3 = 1 := by kernel_rfl
theorem cellsStrK : Tryd.prog.cellsOf 9 = 1 := by kernel_rfl
theorem cellsEntK : Tryd.prog.cellsOf 42 = 2 := by kernel_rfl
section
variable {H : Type} {enc : TypeId × Value → H} {w : World} {base : Nat} {spare : Nat → Bool} {held : Bool}
set_option maxRecDepth 100000 in
theorem open_ents {r : Reach} {b0 : Nat} {v : Value} {d : DataW H} {p : List MemPlace} (hv : Value.okWide Tryd.prog w r b0 22 v) (h : DataW.Trod enc Tryd.prog w base spare held 22 v d p) :
    ∃ (l : List En) (A : Option Addr) (cap : Nat), v = .slice A l.length cap ∧ l.length ≤ maxLen ∧ (∀ q ∈ l, q.text.length ≤ maxLen) ∧ RowE w (fun _ => True) A l := by
  obtain ⟨l, A, cap, e, hl, ho, ha⟩ := open_rows enW (fun q => q.text.length ≤ maxLen) (fun _ => rfl) Tryd.underlying22 cellsEntK (by decide) (fun {fuel cs x} hl ht => by
    match cs, hl with
    | [c0, c1], _ =>
      obtain ⟨y0, y1, n, rfl, _, hy0, hy1⟩ := trod_struct2 Tryd.underlying42 ht
      simp only [cellsIntK, cellsStrK] at hy0 hy1
      obtain ⟨a, e1, _, _⟩ := DataW.trod_int Tryd.underlying3 hy0
      obtain ⟨z, e2, _, hzl⟩ := DataW.trod_string Tryd.underlying9 hy1
      simp at e1 e2
      subst e1 e2
      exact ⟨⟨a, z.data.toList⟩, by simp [enW], by first | exact hzl | simpa using hzl⟩) hv h
  refine ⟨l, A, cap, e, hl, ho, ?_⟩
  by_cases hn : l = []
  · exact .inl hn
  · obtain ⟨g, o, e2, hat⟩ := ha hn
    obtain ⟨x, hx⟩ : ∃ x, l[0]? = some x := by
      cases l with
      | nil => exact absurd rfl hn
      | cons x r => exact ⟨x, rfl⟩
    have q0 := hat 0 x hx 0 _ rfl
    have hlt : g < w.heap.size := Lib.lt_of_cell q0
    exact .inr ⟨g, o, e2, trivial, hlt, hat⟩
end
end Go.Proofs.YthfbhinlgoaajaaDoor
