/- Texts joined: TuC, FrameK. -/
import Derived.Test.YtjgadggehpmdkaaDoorTg17
import Derived.Deep.RegionHeld3
import Derived.Test.YtjgadggehpmdkaaDoorRows
import Derived.Test.YtjgadggehpmdkaaDoorTg01
import Derived.WalkKit
import Derived.ProofKit
import Derived.OpenShut
import Derived.Deep.DeepHandedRow
import Derived.Lib.LaidTab
import Derived.Stop.LaidErr
import Derived.Lib.SmallJoins
import Derived.LaidLaws
import Derived.Lib.LaidIn
set_option linter.all false
namespace Go.Proofs.YtjgadggehpmdkaaDoor
open Go.RowKit Go.Shelf
set_option maxHeartbeats 40000000 in
set_option maxRecDepth 10000 in
theorem trieone_any (w : World) (hE : TB w.heap.size w) (l m : List En) (A1 A2 : Option Addr) (ca cb : Nat) {Q R : Nat → Prop} (hl : RowE w Q A1 l) (hm : RowE w R A2 m) (hlx : ∀ x ∈ l, x.text.length ≤ maxLen) (hmx : ∀ x ∈ m, x.text.length ≤ maxLen) (hln : l.length ≤ maxLen) (hmn : m.length ≤ maxLen) :
    Calls Tryd.prog 3 #[.slice A1 l.length ca, .slice A2 m.length cb] w fun e w' => e = .returned (.bool true) ∧ Below w.heap.size w w' := by
  have HEv := Lib.hid (fun w' (hb : Below w.heap.size w w') => talive_any w' (tb_up hE hb))
  have HNw := Lib.hid (o9New w hE 20000 (by decide))
  have HR1 := Lib.hid hl
  have HR2 := Lib.hid hm
  have HX1 := Lib.hid hlx
  have HX2 := Lib.hid hmx
  unfold maxLen at hln hmn
  clear hE hl hm hlx hmx
  by_cases h1 : (60 : Int) < (l.length : Int)
  · have d1 : decide ((60 : Int) < (l.length : Int)) = true := decide_eq_true h1
    clear h1
    go_enter Tryd.func3, Tryd.ntmps3
    go_wp2_with fail
    refine (HEv.out _ (Below.refl _ _)).mono ?_; rintro e w1 ⟨rfl, hb1⟩
    go_wp2_with fail
    go_ret
    exact ⟨rfl, hb1⟩
  have d1 : decide ((60 : Int) < (l.length : Int)) = false := decide_eq_false h1
  by_cases h2 : (60 : Int) < (m.length : Int)
  · have d2 : decide ((60 : Int) < (m.length : Int)) = true := decide_eq_true h2
    clear h1 h2
    go_enter Tryd.func3, Tryd.ntmps3
    go_wp2_with fail
    refine (HEv.out _ (Below.refl _ _)).mono ?_; rintro e w1 ⟨rfl, hb1⟩
    go_wp2_with fail
    go_ret
    exact ⟨rfl, hb1⟩
  have d2 : decide ((60 : Int) < (m.length : Int)) = false := decide_eq_false h2
  have hl60 : l.length ≤ 60 := by omega
  have hm60 : m.length ≤ 60 := by omega
  have HCs := Lib.hid (bld_cases hl60)
  clear h1 h2 hln hmn
  go_enter Tryd.func3, Tryd.ntmps3
  go_wp2_with fail
  refine HNw.out.mono ?_; rintro e w1 ⟨a, K1, rfl, hO1, hK1, hb1⟩
  have hT1 : T0 w a A1 A2 l m [] K1 w1 := T0.begin HR1.out HR2.out hO1 hK1 hb1
  have HBu := Lib.hid (ptbuild_any hT1.on l A1 ca hT1.rl (by omega) HX1.out)
  have HT1 := Lib.hid hT1
  clear hO1 hK1 hb1 hT1 HNw HR1 HR2
  generalize pBldR 20000 [] l = r at *
  obtain ⟨s0, want, err⟩ := r
  go_wp2_with fail
  refine HBu.out.mono ?_; rintro e w3 ⟨K3, rfl, hl3⟩
  have HT3 := Lib.hid (HT1.out.put hl3)
  clear hl3 HT1 HBu
  rcases HCs.out with ⟨he, he5⟩ | ⟨hr, hd, he, hs0, hi0, hc0⟩
  · have dE : ((err : Int) != 0) = true := by simpa using he
    clear HCs
    go_wp2_with fail
    refine (HEv.out _ HT3.out.bl).mono ?_; rintro e w4 ⟨rfl, hb4⟩
    have hB := HT3.out.bl.trans (hb4.mono HT3.out.bl.size)
    go_wp2_with fail
    go_ret
    exact ⟨rfl, hB⟩
  obtain rfl : err = 0 := he
  have hwb := isT_bound hi0 hs0
  have HAl := Lib.hid (pall_any HT3.out.on want (by have : 0 ≤ want ∧ want ≤ ((20000 : Nat) : Int) := hwb; omega))
  have hha : hasT s0 want = some (srtE l) := hasT_some hs0
  rw [hha] at HAl
  have HHa := Lib.hid hha
  have HS0 := Lib.hid hs0
  have HI0 := Lib.hid hi0
  have HC0 := Lib.hid hc0
  have HRt := Lib.hid hr
  have HDk := Lib.hid hd
  have HLl := Lib.hid (srt_len hr hd)
  have hw0 : 0 ≤ want := hwb.1
  have hw1 : want ≤ 20000 := hwb.2
  clear HCs hr hd hs0 hi0 hc0 hwb hha
  generalize hLL : srtE l = L at *
  have HLL := Lib.hid hLL
  clear hLL
  go_wp2_with fail
  refine HAl.out.mono ?_; rintro e w4 ⟨O4, c4, rfl, hc4, hr4, hb4⟩
  have hlL : ((some L).getD []).length ≤ 1000000 := by have := HLl.out; simp; omega
  have HOf := Lib.hid (lof_any L O4 c4 w4 hr4 hlL)
  have HB4 := Lib.hid hb4
  clear hc4 hr4 hb4 HAl hlL
  go_wp2_with fail
  refine HOf.out.mono ?_; rintro e w5 ⟨O5, c5, rfl, hc5, hr5, hb5⟩
  have hz5 : w3.heap.size ≤ w4.heap.size := HB4.out.size
  have HT5 := Lib.hid (HT3.out.was (HB4.out.trans (hb5.mono hz5)) hz5 hr5)
  generalize hKK : (fun g => K3 g ∨ (w3.heap.size ≤ g ∧ g < w5.heap.size)) = K5 at *
  clear hKK hc5 hr5 hb5 hz5 HOf HB4 HT3
  go_wp2_with fail
  go_loopw [10, 11] (fun vh vi wr => ∃ (i : Nat) (v h : Int) (s : Sh) (K : Nat → Prop), i ≤ l.length ∧ vi = .int .i64 v ∧ v + 1 = (i : Int) ∧ vh = .int .i64 h ∧ Hid (T1 w a A1 A2 O5 l m L s K wr) ∧ Hid (IsT s h (srtE (l.drop i))) ∧ Hid (Inv 20000 s) ∧ Hid (Up s0 s) ∧ Hid (cntS s + 4 * i ≤ 240 + 4 * l.length)) (fun _ vi _ => (RowKit.intOf vi + 1).toNat)
  case atStart => exact ⟨l.length, (l.length : Int) - 1, 0, s0, K5, Nat.le_refl _, by go_num, by omega, rfl, HT5, Lib.hid (by rw [List.drop_length, srt_nil]; exact ⟨OkL.nil, .inl ⟨rfl, rfl⟩⟩), HI0, Lib.hid (Up.refl _), Lib.hid (by have := HC0.out; omega)⟩
  case round =>
    obtain ⟨i, v, h, s, K, hi, rfl, hv, rfl, HT, HS, HI, HU, HC⟩ := hrel
    cases i with
    | zero =>
      obtain rfl : v = -1 := by omega
      have hS := HS.out
      rw [List.drop_zero, HLL.out] at hS
      obtain rfl : h = want := isT_one HI.out hS (isT_up HU.out HS0.out)
      have HS1 := Lib.hid hS
      have HC1 : Hid (cntS s + 4 * m.length ≤ 480 + 4 * m.length) := Lib.hid (by have := HC.out; omega)
      clear hS hv hi HS HU HC
      go_wp2_with fail
      go_loopw [15] (fun vi wr2 => ∃ (i : Nat) (s : Sh) (K : Nat → Prop), i ≤ m.length ∧ vi = .int .i64 (i : Int) ∧ Hid (T1 w a A1 A2 O5 l m L s K wr2) ∧ Hid (IsT s h L) ∧ Hid (Inv 20000 s) ∧ Hid (cntS s ≤ 480 + 4 * i)) (fun vi _ => m.length - (RowKit.intOf vi).toNat)
      case atStart => exact ⟨0, s, K, Nat.zero_le _, rfl, HT, HS1, HI, Lib.hid (by have := HC1.out; omega)⟩
      case round =>
        clear HT HS1 HI HC1
        obtain ⟨i, s, K, hi, rfl, HT, HS, HI, HC⟩ := hrel
        by_cases hlt : i < m.length
        · obtain ⟨x, hx⟩ : ∃ x, m[i]? = some x := ⟨_, List.getElem?_eq_getElem hlt⟩
          obtain ⟨g, o, rfl, _, _, _⟩ := HT.out.rm.at hlt
          obtain ⟨q0, q1⟩ := HT.out.rm.two' hx
          have hI : (i : Int) < (m.length : Int) := by omega
          have hJ : (0 : Int) ≤ (i : Int) := by omega
          have HX := Lib.hid hx
          have HXl := Lib.hid (HX2.out x (List.mem_of_getElem? hx))
          have HGt := Lib.hid (pget_any HT.out.on h (by omega) x.key)
          rw [get_is HS.out] at HGt
          clear hx
          have HRi := Lib.hid (fun w' => rright_any x w' HXl.out)
          cases hg : getL L x.key with
          | some v =>
            rw [hg] at HGt
            obtain ⟨kx, tx⟩ := x
            generalize rightE ⟨kx, tx⟩ = bR at *
            clear hg
            go_wp2_with fail
            refine HGt.out.mono ?_; rintro e w6 ⟨rfl, hb6⟩
            have hT6 := HT.out.below hb6
            obtain ⟨r0, r1⟩ := hT6.rm.two' HX.out
            have HT6 := Lib.hid hT6
            clear hb6 hT6 HT HGt q0 q1
            go_wp2_with fail
            go_region_law (first
              | (go_simp; go_at_call 12; refine Calls.mono (HRi.out _) ?_; rintro e w7 ⟨rfl, hb7⟩
                 have HB7 : Hid (Below w6.heap.size w6 w7) := Lib.hid (by first | exact hb7 | exact ((Below.refl _ _).drew).trans hb7)
                 clear hb7)
              | fail)
            all_goals
              have HT7 := Lib.hid (HT6.out.below HB7.out)
              clear HT6 HB7 r0 r1
              go_wp2_with fail
              go_roundw
              case rel => exact ⟨i + 1, s, _, by omega, by go_num, HT7, HS, HI, Lib.hid (by have := HC.out; omega)⟩
              case measure => first | (simp [RowKit.intOf]; done) | (simp [RowKit.intOf]; omega)
          | none =>
            rw [hg] at HGt
            cases hr : rightE x with
            | false =>
              rw [hr] at HRi
              obtain ⟨kx, tx⟩ := x
              clear hg hr
              go_wp2_with fail
              refine HGt.out.mono ?_; rintro e w6 ⟨rfl, hb6⟩
              have hT6 := HT.out.below hb6
              obtain ⟨r0, r1⟩ := hT6.rm.two' HX.out
              have HT6 := Lib.hid hT6
              clear hb6 hT6 HT HGt q0 q1
              go_wp2_with fail
              go_region_law (first
                | (go_simp; go_at_call 12; refine Calls.mono (HRi.out _) ?_; rintro e w7 ⟨rfl, hb7⟩
                   have HB7 : Hid (Below w6.heap.size w6 w7) := Lib.hid (by first | exact hb7 | exact ((Below.refl _ _).drew).trans hb7)
                   clear hb7)
                | fail)
              all_goals
                have HT7 := Lib.hid (HT6.out.below HB7.out)
                clear HT6 HB7 r0 r1
                go_wp2_with fail
                go_roundw
                case rel => exact ⟨i + 1, s, _, by omega, by go_num, HT7, HS, HI, Lib.hid (by have := HC.out; omega)⟩
                case measure => first | (simp [RowKit.intOf]; done) | (simp [RowKit.intOf]; omega)
            | true =>
              obtain ⟨p1, p2, p3, p4, p5, p6⟩ := put_step HI.out HS.out hr (by have := HC.out; omega)
              have hdl := fun s1 h1 (hi1 : Inv 20000 s1) (a1 : IsT s1 h1 (putE L x)) (hu1 : Up s s1) hc1 => del_step (x := x) hi1 a1 (isT_up hu1 HS.out) hr hg hc1
              have HDl := Lib.hid hdl
              have HPt := Lib.hid (fun (w' : World) K' (ho : On9 w' w.heap.size a 20000 s K') => ptrput_any ho h (by omega) x HXl.out)
              have hgp := get_put HS.out.1 hr
              have HGp := Lib.hid hgp
              have hb1 := isT_bound p3 p2
              rw [hr] at HRi
              generalize pPutR 20000 s h x = r at *
              obtain ⟨s1, h1, err⟩ := r
              obtain rfl : err = 0 := p1
              have hb2 : 0 ≤ h1 ∧ h1 ≤ ((20000 : Nat) : Int) := hb1
              have hb3 : 0 ≤ h1 := hb2.1
              have hb4 : h1 ≤ 20000 := hb2.2
              obtain ⟨d1, d2, d3, d4, d5⟩ := HDl.out s1 h1 p3 p2 p4 (by have := HC.out; have : cntS s1 ≤ cntS s + 4 := p6; omega)
              have HDe := Lib.hid (fun (w' : World) K' (ho : On9 w' w.heap.size a 20000 s1 K') => ptrdel_any ho h1 (by omega) x.key)
              have HG2 := Lib.hid (fun (w' : World) K' (ho : On9 w' w.heap.size a 20000 s1 K') => pget_any ho h1 (by omega) x.key)
              rw [get_is (show IsT s1 h1 (putE L x) from p2), HGp.out] at HG2
              generalize pDelR 20000 s1 h1 x.key = r2 at *
              obtain ⟨s2, h2, err2⟩ := r2
              obtain rfl : err2 = 0 := d1
              obtain rfl : h2 = h := d2
              have HI2 : Hid (Inv 20000 s2) := Lib.hid d3
              have HS2 : Hid (IsT s2 h2 L) := Lib.hid (isT_up d4 (isT_up p4 HS.out))
              have HC2 : Hid (cntS s2 ≤ 480 + 4 * (i + 1)) := Lib.hid (by have := HC.out; have h1 : cntS s1 ≤ cntS s + 4 := p6; have h2 : cntS s2 ≤ cntS s1 := d5; omega)
              clear p2 p3 p4 p5 p6 hdl hgp hb1 hb2 d3 d4 d5 HDl HGp hg hr
              obtain ⟨kx, tx⟩ := x
              unfold enV at HPt
              go_wp2_with fail
              refine HGt.out.mono ?_; rintro e w6 ⟨rfl, hb6⟩
              have hT6 := HT.out.below hb6
              obtain ⟨r0, r1⟩ := hT6.rm.two' HX.out
              have HT6 := Lib.hid hT6
              clear hb6 hT6 HT HGt q0 q1
              go_wp2_with fail
              go_region_law (first
                | (go_simp; go_at_call 12; refine Calls.mono (HRi.out _) ?_; rintro e w7 ⟨rfl, hb7⟩
                   have HB7 : Hid (Below w6.heap.size w6 w7) := Lib.hid (by first | exact hb7 | exact ((Below.refl _ _).drew).trans hb7)
                   clear hb7)
                | fail)
              all_goals
                have hT7 := HT6.out.below HB7.out
                obtain ⟨p0, p1⟩ := hT7.rm.two' HX.out
                have HPw := Lib.hid (HPt.out _ _ hT7.on)
                have HT7 := Lib.hid hT7
                clear HT6 HB7 r0 r1 hT7
                go_wp2_with fail
                refine HPw.out.mono ?_; rintro e w8 ⟨K8, rfl, hl8⟩
                have hT8 := HT7.out.put hl8
                have HGw := Lib.hid (HG2.out _ _ hT8.on)
                obtain ⟨e0, e1⟩ := hT8.rm.two' HX.out
                have HT8 := Lib.hid hT8
                clear hl8 hT8 HT7 HPw p0 p1
                go_wp2_with fail
                refine HGw.out.mono ?_; rintro e w9 ⟨rfl, hb9⟩
                have hT9 := HT8.out.below hb9
                have HDw := Lib.hid (HDe.out _ _ hT9.on)
                obtain ⟨f0, f1⟩ := hT9.rm.two' HX.out
                have HT9 := Lib.hid hT9
                clear hb9 hT9 HT8 HGw e0 e1
                go_wp2_with fail
                refine HDw.out.mono ?_; rintro e w10 ⟨K10, rfl, hl10⟩
                have hT10 := HT9.out.put hl10
                obtain ⟨g0, g1⟩ := hT10.rm.two' HX.out
                have HT10 := Lib.hid hT10
                clear hl10 hT10 HT9 HDw f0 f1
                go_wp2_with fail
                go_roundw
                case rel => exact ⟨i + 1, s2, K10, by omega, by go_num, HT10, HS2, HI2, HC2⟩
                case measure => first | (simp [RowKit.intOf]; done) | (simp [RowKit.intOf]; omega)
        · have hii : i = m.length := by omega
          subst hii
          have hsm := HS.out
          have HAl := Lib.hid (pall_any HT.out.on h (by omega))
          rw [hasT_some hsm] at HAl
          have hLb : L.length ≤ 1000000 := by have := HLl.out; omega
          have dL : ((L.length : Int) == (l.length : Int)) = true := by rw [HLl.out]; simp
          have HLb := Lib.hid hLb
          clear hsm hLb HS HI HC hi hlt
          go_wp2_with fail
          refine HAl.out.mono ?_; rintro e w6 ⟨O6, c6, rfl, hc6, hr6, hb6⟩
          have hT6 := HT.out.below hb6
          have HOf := Lib.hid (lof_any L O6 c6 w6 hr6 HLb.out)
          have HT6 := Lib.hid hT6
          clear hc6 hr6 hb6 hT6 HAl HT
          go_wp2_with fail
          refine HOf.out.mono ?_; rintro e w7 ⟨O7, c7, rfl, hc7, hr7, hb7⟩
          have hT7 := HT6.out.below hb7
          have HSa := Lib.hid (rsameE_any L L O7 O5 c7 c5 w7 hr7 hT7.rL HLb.out)
          rw [decide_eq_true (rfl : L = L)] at HSa
          have HB7 := Lib.hid hT7.bl
          clear hc7 hr7 hb7 hT7 HOf HT6
          go_wp2_with fail
          refine HSa.out.mono ?_; rintro e w8 ⟨rfl, nd, rfl⟩
          have HB8 := Lib.hid (below_drewN HB7.out nd)
          have HAv := Lib.hid (HEv.out _ HB8.out)
          clear HB7 HSa
          generalize w7.drewN nd = w8 at *
          go_wp2_with fail
          refine HAv.out.mono ?_; rintro e w9 ⟨rfl, hb9⟩
          have HB9 := Lib.hid (HB8.out.trans (hb9.mono HB8.out.size))
          clear hb9 HAv HB8
          go_wp2_with fail
          go_ret
          exact ⟨rfl, HB9.out⟩
    | succ j =>
      obtain rfl : v = (j : Int) := by omega
      have hJ : (0 : Int) ≤ (j : Int) := by omega
      have hjl : j < l.length := by omega
      obtain ⟨x, hx⟩ : ∃ x, l[j]? = some x := ⟨_, List.getElem?_eq_getElem hjl⟩
      have hxm := List.mem_of_getElem? hx
      have hxr := HRt.out x hxm
      have hdr : l.drop j = x :: l.drop (j + 1) := by
        rw [List.drop_eq_getElem_cons hjl, (List.getElem?_eq_some_iff.1 hx).2]
      have hpe : putE (srtE (l.drop (j + 1))) x = srtE (l.drop j) := by
        rw [hdr]
        exact srt_cons (fun y hy => HRt.out y (List.mem_of_mem_drop (by rw [hdr]; exact hy))) (by have := HDk.out; unfold DisK at this ⊢; rw [← hdr]; exact this.sublist (List.drop_sublist _ _))
      obtain ⟨p1, p2, p3, p4, p5, p6⟩ := put_step HI.out HS.out hxr (by have := HC.out; omega)
      have hbd := isT_bound HI.out HS.out
      have hP := ptrput_any HT.out.on h (by have : 0 ≤ h ∧ h ≤ ((20000 : Nat) : Int) := hbd; omega) x (HX1.out x hxm)
      rw [hpe] at p2
      unfold enV at hP
      have HPt := Lib.hid hP
      have HLe := Lib.hid (o9Len HT.out.on)
      rw [cnt_live] at HLe
      obtain ⟨g, o, rfl, _, _, hat⟩ := HT.out.rl.at hjl
      obtain ⟨q0, q1⟩ := hat.two hx
      have hcb := HC.out
      clear hat hx hxm hxr hdr hpe hbd hP
      generalize pPutR 20000 s h x = r at *
      obtain ⟨s', h', err⟩ := r
      obtain rfl : err = 0 := p1
      have HS' : Hid (IsT s' h' (srtE (l.drop j))) := Lib.hid p2
      have HI' : Hid (Inv 20000 s') := Lib.hid p3
      have HU' : Hid (Up s0 s') := Lib.hid (HU.out.trans p4)
      have hc1 : cntS s ≤ cntS s' := p5
      have hc2 : cntS s' ≤ cntS s + 4 := p6
      have HLe2 : Hid (∀ (w' : World) (K' : Nat → Prop), On9 w' w.heap.size a 20000 s' K' → Calls Tryd.prog 9 #[.pointer (some ⟨a, 0, none⟩)] w' fun e w'' => e = .returned (.int .i64 (cntS s' : Int)) ∧ w'' = w') := Lib.hid fun w' K' h => by
        have := o9Len h
        rw [cnt_live] at this
        exact this
      clear p2 p3 p4 p5 p6
      generalize cntS s = c at *
      have HC' : Hid (cntS s' + 4 * j ≤ 240 + 4 * l.length) := Lib.hid (by omega)
      generalize hcc : cntS s' = c' at *
      have HCC := Lib.hid hcc
      clear hcc
      have d3 : decide ((4 : Int) < (c' : Int) - (c : Int)) = false := decide_eq_false (by omega)
      have d4 : decide ((c' : Int) < (c : Int)) = false := decide_eq_false (by omega)
      have hcb1 : (c : Int) ≤ 20000 := by omega
      have hcb2 : (c' : Int) ≤ 20000 := by omega
      have hcb3 : (0 : Int) ≤ (c : Int) := by omega
      have hcb4 : (0 : Int) ≤ (c' : Int) := by omega
      clear hcb HS HI HU HC hv hi hc1 hc2
      generalize (c : Int) = C at *
      generalize (c' : Int) = D at *
      go_wp2_with fail
      refine HLe.out.mono ?_; rintro e w6 ⟨rfl, rfl⟩
      go_wp2_with fail
      refine HPt.out.mono ?_; rintro e w7 ⟨K7, rfl, hl7⟩
      have HT7 := Lib.hid (HT.out.put hl7)
      clear hl7 HPt HLe HT
      go_wp2_with fail
      refine (HLe2.out _ _ HT7.out.on).mono ?_; rintro e w8 ⟨rfl, rfl⟩
      go_wp2_with fail
      refine (HLe2.out _ _ HT7.out.on).mono ?_; rintro e w9 ⟨rfl, rfl⟩
      go_wp2_with fail
      go_roundw
      case rel => exact ⟨j, (j : Int) - 1, h', s', K7, by omega, by go_num, by omega, rfl, HT7, HS', HI', HU', Lib.hid (by rw [HCC.out]; exact HC'.out)⟩
      case measure => first | (simp [RowKit.intOf]; done) | (simp [RowKit.intOf]; omega)
end Go.Proofs.YtjgadggehpmdkaaDoor
namespace Go.Proofs.YtjgadggehpmdkaaDoor
open Go.ChangeShapes Go.WideShapes Go.ChangeAt Go.RowKit
theorem own : ownKnob Tryd.prog.godebug = none := by kernel_rfl
theorem yTab9 : (Tryd.prog.globals[0]?).map (·.type) = some 133 := by kernel_rfl
theorem cellsTab9 : Tryd.prog.cellsOf 133 = 20 := by kernel_rfl
theorem cellsU64 : Tryd.prog.cellsOf 116 = 1 := by kernel_rfl

theorem tab_of {w : World} (h : laidMet Tryd.prog Rows.trieOneRow.laid w) : TabE w :=
  Lib.tabIs_of_head (rest := _) gTab9 yTab9 Tryd.underlying133 Tryd.underlying116 cellsU64 cellsTab9 h.tail.tail

def valsOf : DataW Unit → List Value
  | .agg ds => ds.map fun
    | .lit (.int k n) => .int k n
    | _ => .nilIface
  | _ => []
noncomputable def laidWorld (os : Os) : World :=
  let w0 := World.holding Tryd.prog os ⟨#[], #[], []⟩
  let put (h : Array Obj) (g : Nat) (cs : Array Value) : Array Obj := h.modify g fun
    | .cells _ t frozen => .cells cs t frozen
    | o => o
  let h2 := put w0.heap 0 (valsOf Rows.laid_internal_strconv_uint64pow10).toArray
  let h3 := put h2 1 (valsOf Rows.laid_math_bits_deBruijn32tab).toArray
  let h4 := put h3 2 (valsOf Rows.laid_math_bits_deBruijn64tab).toArray
  { w0 with heap := h4 }
theorem laid_met (os : Os) (args : Array Value) : laidMet Tryd.prog Rows.trieOneRow.laid ((laidWorld os).forCall (fun _ _ => 0) ⟨#[], args, []⟩).memory :=
  laidMet_of_run' 8 (by kernel_rfl) (by kernel_rfl)
theorem cellsIntK : Tryd.prog.cellsOf 3 = 1 := by kernel_rfl
theorem cellsStrK : Tryd.prog.cellsOf 9 = 1 := by kernel_rfl
theorem cellsEntK : Tryd.prog.cellsOf 36 = 2 := by kernel_rfl
section
variable {H : Type} {enc : TypeId × Value → H} {w : World} {base : Nat} {spare : Nat → Bool} {held : Bool}
set_option maxRecDepth 100000 in
theorem open_ents {r : Reach} {b0 : Nat} {v : Value} {d : DataW H} {p : List MemPlace} (hv : Value.okWide Tryd.prog w r b0 22 v) (h : DataW.Trod enc Tryd.prog w base spare held 22 v d p) :
    ∃ (l : List En) (A : Option Addr) (cap : Nat), v = .slice A l.length cap ∧ l.length ≤ maxLen ∧ (∀ q ∈ l, q.text.length ≤ maxLen) ∧ RowE w (fun _ => True) A l := by
  obtain ⟨l, A, cap, e, hl, ho, ha⟩ := open_rows enW (fun q => q.text.length ≤ maxLen) (fun _ => rfl) Tryd.underlying22 cellsEntK (by decide) (fun {fuel cs x} hl ht => by
    match cs, hl with
    | [c0, c1], _ =>
      obtain ⟨y0, y1, n, rfl, _, hy0, hy1⟩ := trod_struct2 Tryd.underlying36 ht
      simp only [cellsIntK, cellsStrK] at hy0 hy1
      obtain ⟨a, e1, _, _⟩ := DataW.trod_int Tryd.underlying3 hy0
      obtain ⟨z, e2, _, hzl⟩ := DataW.trod_string Tryd.underlying9 hy1
      simp at e1 e2
      subst e1 e2
      exact ⟨⟨a, z.data.toList⟩, by simp [enW], by first | exact hzl | simpa using hzl⟩) hv h
  refine ⟨l, A, cap, e, hl, ho, ?_⟩
  by_cases hn : l = []
  · exact .inl hn
  · obtain ⟨g, o, e2, hat⟩ := ha hn
    obtain ⟨x, hx⟩ : ∃ x, l[0]? = some x := by
      cases l with
      | nil => exact absurd rfl hn
      | cons x r => exact ⟨x, rfl⟩
    have q0 := hat 0 x hx 0 _ rfl
    have hlt : g < w.heap.size := Lib.lt_of_cell q0
    exact .inr ⟨g, o, e2, trivial, hlt, hat⟩
end
end Go.Proofs.YtjgadggehpmdkaaDoor
