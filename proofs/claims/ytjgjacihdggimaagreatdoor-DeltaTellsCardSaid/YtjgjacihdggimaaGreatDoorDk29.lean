/- Texts joined: DeH, DeG, DeD, DeEf, DeE, TsSn, DfN. -/
import Derived.Test.YtjgjacihdggimaaGreatDoorDk28
import Derived.Test.YtjgjacihdggimaaGreatDoorDk15
import Derived.Test.YtjgjacihdggimaaGreatDoorDk14
import Derived.Test.YtjgjacihdggimaaGreatDoorDk22
import Derived.Test.YtjgjacihdggimaaGreatDoorDk05
import Derived.Deep.QuietTactic
import Derived.BigQuiet
import Derived.Test.YtjgjacihdggimaaGreatDoorDk03
import Derived.Test.YtjgjacihdggimaaGreatDoorDk25
import Derived.Test.YtjgjacihdggimaaGreatDoorDk23
import Derived.Test.YtjgjacihdggimaaGreatDoorDk26
set_option linter.all false
namespace Go.Proofs.YtjgjacihdggimaaGreatDoor
open Go.RowKit
theorem apl_bld {room : Nat} {s : Sh} {h : Int} {cs : List Ch} {l m : List En} (e : hasT s h = some l) (hc : ∀ c ∈ cs, okC c = true) (hd : DisC cs) (hr : runC l cs = some m) : pAplR room s h cs = pBldR room s m := by
  unfold pAplR
  rw [e]
  refine (if_neg (all_ok hc)).trans ((if_neg (fun q => q hd)).trans ?_)
  rw [hr]
theorem allC_next {p : Ch → Prop} {cs : List Ch} {i : Nat} {c : Ch} (hc : cs[i]? = some c) (h : ∀ x ∈ cs.take i, p x) (hp : p c) : ∀ x ∈ cs.take (i + 1), p x := fun x hx => by
  rw [List.take_add_one, hc] at hx
  rcases List.mem_append.1 hx with e | e
  · exact h x e
  · obtain rfl : x = c := by simpa using e
    exact hp
theorem disC_next {cs : List Ch} {i : Nat} {c : Ch} (hc : cs[i]? = some c) (h : DisC (cs.take i)) (hn : ∀ x ∈ cs.take i, x.key ≠ c.key) : DisC (cs.take (i + 1)) := by
  rw [List.take_add_one, hc]
  exact List.pairwise_append.2 ⟨h, List.pairwise_singleton _ _, fun a ha b hb => by
    obtain rfl : b = c := by simpa using hb
    exact hn a ha⟩
theorem disC_not {cs : List Ch} {i k : Nat} {c d : Ch} (hk : k < i) (hd : cs[k]? = some d) (hc : cs[i]? = some c) (e : d.key = c.key) : ¬ DisC cs := fun h => by
  obtain ⟨h1, rfl⟩ := List.getElem?_eq_some_iff.1 hd
  obtain ⟨h2, rfl⟩ := List.getElem?_eq_some_iff.1 hc
  exact List.pairwise_iff_getElem.1 h k i h1 h2 hk e
theorem run_next {l H : List En} {cs : List Ch} {i : Nat} {c : Ch} (hc : cs[i]? = some c) (h : runC l cs = runC H (cs.drop i)) : runC l cs = if txE H c.key = c.fr then runC (stepC H c) (cs.drop (i + 1)) else none := by
  obtain ⟨h1, rfl⟩ := List.getElem?_eq_some_iff.1 hc
  rw [h, List.drop_eq_getElem_cons h1, runC]
theorem step_len {l : List En} {c : Ch} : (stepC l c).length ≤ l.length + 1 := by
  unfold stepC
  rw [List.length_append]
  have : (dropK l c.key).length ≤ l.length := List.length_filter_le _ _
  split
  · rw [List.length_nil]; omega
  · rw [List.length_singleton]; omega
section
variable {w w' : World} {P : Nat → Prop} {m gN cN gB cB room : Nat} {nds : List Nd} {bs : List Bool}
set_option maxHeartbeats 16000000 in
set_option maxRecDepth 10000 in
theorem rDapply_any (h : RM w P m gN cN gB cB room nds bs) (hi : Inv room (stOf nds bs)) (hft : FitT (stOf nds bs)) (x : Int) (cs : List Ch) (C : Option Addr) (cc : Nat) {Q : Nat → Prop} (hcs : RowC w Q C cs) (hcl : cs.length ≤ 1000) (hct : ∀ c ∈ cs, c.fr.length ≤ maxLen ∧ c.tt.length ≤ maxLen) :
    Calls Tryz.prog 18 #[.pointer (some ⟨m, 0, none⟩), .int .i64 x, .slice C cs.length cc] w fun e w' => BldP w P m room (pAplR room (stOf nds bs) x cs) e w' := by
  obtain ⟨i0, hi0, hz0, hz1, hz2⟩ := info_parts rent_info
  have HHa := Lib.hid (rhasE_any h hi hft x)
  have HSm := Lib.hid (fun (w1 : World) (hb : Below w.heap.size w w1) (x : Int) (c : Nat) => BldP.same h hb (x := x) (c := c))
  have HBu := Lib.hid (fun (w1 : World) (hb : Below w.heap.size w w1) (l : List En) (A : Option Addr) (ca : Nat) (Q : Nat → Prop) (hl : RowE w1 Q A l) (hll : l.length ≤ 100000) (hlt : ∀ x ∈ l, x.text.length ≤ maxLen) => (rbuildE_any (h.below hb) l A ca hl hll hlt).mono fun e w2 hq => BldP.from hb hq)
  have HNo := Lib.hid (fun e => apl_none (room := room) (s := stOf nds bs) (h := x) (cs := cs) e)
  have HBd := Lib.hid (fun (l : List En) e (c : Ch) hc ho => apl_bad (room := room) (s := stOf nds bs) (h := x) (cs := cs) (l := l) e (c := c) hc ho)
  have HDu := Lib.hid (fun (l : List En) e hc hd => apl_dup (room := room) (s := stOf nds bs) (h := x) (cs := cs) (l := l) e hc hd)
  have HCl := Lib.hid (fun (l : List En) e hc hd hr => apl_clash (room := room) (s := stOf nds bs) (h := x) (cs := cs) (l := l) e hc hd hr)
  have HYe := Lib.hid (fun (l m : List En) e hc hd hr => apl_bld (room := room) (s := stOf nds bs) (h := x) (cs := cs) (l := l) (m := m) e hc hd hr)
  have HIs := Lib.hid (fun (l : List En) e => hasT_is (s := stOf nds bs) (h := x) (l := l) e)
  have HC := Lib.hid (fun (w1 : World) (hb : Below w.heap.size w w1) => hcs.below hb)
  have HT := Lib.hid hct
  clear h hi hft hcs hct
  generalize hPR : pAplR room (stOf nds bs) x cs = PR at *
  clear hPR
  cases hh : hasT (stOf nds bs) x with
  | none =>
    rw [hh] at HHa
    have HE := Lib.hid (HNo.out hh)
    clear hh HNo HBd HDu HCl HYe HIs HBu HC HT
    go_enter Tryz.func18, Tryz.ntmps18
    go_wp2_with fail
    refine HHa.out.mono ?_; rintro e w1 ⟨O2, co2, rfl, hc2, hr2, hb1⟩
    have HB1 := Lib.hid hb1
    clear hc2 hr2 hb1 HHa
    go_wp2_with fail
    go_ret2
    rw [HE.out]
    exact HSm.out _ HB1.out _ _
  | some l =>
    rw [hh] at HHa
    have HIs2 := Lib.hid (HIs.out l hh)
    have HBd2 := Lib.hid (HBd.out l hh)
    have HDu2 := Lib.hid (HDu.out l hh)
    have HCl2 := Lib.hid (HCl.out l hh)
    have HYe2 := Lib.hid (fun m => HYe.out l m hh)
    have hll := okL_len HIs2.out.1
    clear hh HNo HBd HDu HCl HYe HIs
    go_enter Tryz.func18, Tryz.ntmps18
    go_wp2_with fail
    refine HHa.out.mono ?_; rintro e w1 ⟨O1, co1, rfl, hc1, hr1, hb1⟩
    have HB1 := Lib.hid hb1
    have HR1 := Lib.hid hr1
    clear hc1 hr1 hb1 HHa
    go_wp2_with fail
    go_loopw [10] (fun vi wr => ∃ i : Nat, i ≤ cs.length ∧ vi = .int .i64 (i : Int) ∧ Hid (∀ c ∈ cs.take i, okC c = true) ∧ Hid (RowE wr (fun g => w.heap.size ≤ g) O1 l) ∧ Hid (Below w.heap.size w wr)) (fun vi _ => cs.length - (RowKit.intOf vi).toNat)
    case atStart => exact ⟨0, Nat.zero_le _, rfl, Lib.hid (by simp), HR1, HB1⟩
    case round =>
      obtain ⟨i, hi, rfl, HOk, HRl, HB⟩ := hrel
      by_cases hlt : i < cs.length
      · obtain ⟨c, hc⟩ : ∃ c, cs[i]? = some c := ⟨_, List.getElem?_eq_getElem hlt⟩
        obtain ⟨g, o, rfl, _, hgl, hat⟩ := (HC.out _ HB.out).at hlt
        obtain ⟨q0, q1, q2⟩ := hat.three hc
        have hI : (i : Int) < (cs.length : Int) := by omega
        have hJ : (0 : Int) ≤ (i : Int) := by omega
        have HRi := Lib.hid (fun w' => rcright_any c w' (HT.out c (List.mem_of_getElem? hc)).1 (HT.out c (List.mem_of_getElem? hc)).2)
        have HNx := Lib.hid (fun hp => allC_next (p := fun c => okC c = true) hc HOk.out hp)
        have HBd3 := Lib.hid (fun ho => HBd2.out c (List.mem_of_getElem? hc) ho)
        obtain ⟨kc, fc, tc⟩ := c
        clear hc hat
        generalize okC ⟨kc, fc, tc⟩ = bo at *
        go_wp2_with fail
        refine (HRi.out _).mono ?_; rintro e w2 ⟨rfl, hb2⟩
        have HB2 := Lib.hid (HB.out.trans (hb2.mono HB.out.size))
        have HRl2 := Lib.hid (HRl.out.below hb2)
        clear hb2 q0 q1 q2
        cases bo with
        | false =>
          have HE := Lib.hid (HBd3.out rfl)
          clear HNx HBd3
          go_wp2_with fail
          go_ret2
          rw [HE.out]
          exact HSm.out _ HB2.out _ _
        | true =>
          have HN2 := Lib.hid (HNx.out rfl)
          clear HNx HBd3
          go_wp2_with fail
          go_roundw
          case rel => exact ⟨i + 1, by omega, by go_num, HN2, HRl2, HB2⟩
          case measure => simp [RowKit.intOf]; omega
      · have hii : i = cs.length := by omega
        subst hii
        have ho := HOk.out
        rw [List.take_length] at ho
        have HOk2 := Lib.hid ho
        clear ho HOk HBd2
        go_wp2_with fail
        go_loopw [12] (fun vi wr => ∃ i : Nat, i ≤ cs.length ∧ vi = .int .i64 (i : Int) ∧ Hid (DisC (cs.take i)) ∧ Hid (RowE wr (fun g => w.heap.size ≤ g) O1 l) ∧ Hid (Below w.heap.size w wr)) (fun vi _ => cs.length - (RowKit.intOf vi).toNat)
        case atStart => exact ⟨0, Nat.zero_le _, rfl, Lib.hid (by rw [List.take_zero]; exact List.Pairwise.nil), HRl, HB⟩
        case round =>
          clear HRl HB
          obtain ⟨i, hi, rfl, HD, HRl, HB⟩ := hrel
          by_cases hlt : i < cs.length
          · obtain ⟨c, hc⟩ : ∃ c, cs[i]? = some c := ⟨_, List.getElem?_eq_getElem hlt⟩
            have hI : (i : Int) < (cs.length : Int) := by omega
            have hJ : (0 : Int) ≤ (i : Int) := by omega
            have HNx := Lib.hid (fun hn => disC_next hc HD.out hn)
            have HcI := Lib.hid hc
            clear hc
            obtain ⟨wo, rfl⟩ : ∃ wo : World, wo = wr := ⟨wr, rfl⟩
            go_wp2_with fail
            go_loopw [13] (fun vk wr2 => ∃ k : Nat, k ≤ i ∧ vk = .int .i64 (k : Int) ∧ Hid (∀ y ∈ cs.take k, y.key ≠ c.key) ∧ Hid (∃ n, wr2 = wo.drewN n)) (fun vk _ => i - (RowKit.intOf vk).toNat)
            case atStart => exact ⟨0, Nat.zero_le _, rfl, Lib.hid (by simp), Lib.hid ⟨0, by simp [World.drewN_zero]⟩⟩
            case round =>
              obtain ⟨k, hk, rfl, HK, HW⟩ := hrel
              obtain ⟨nd, rfl⟩ := HW.out
              by_cases hkl : k < i
              · obtain ⟨d, hd⟩ : ∃ d, cs[k]? = some d := ⟨_, List.getElem?_eq_getElem (by omega)⟩
                obtain ⟨g, o, rfl, _, hgl, hat⟩ := (HC.out _ HB.out).at hlt
                obtain ⟨q0, _, _⟩ := hat.three HcI.out
                obtain ⟨p0, _, _⟩ := hat.three hd
                have hkI : (k : Int) < (cs.length : Int) := by omega
                have hkJ : (0 : Int) ≤ (k : Int) := by omega
                have hki : (k : Int) < (i : Int) := by omega
                have HKn := Lib.hid (fun e => allC_next (p := fun y : Ch => y.key ≠ c.key) hd HK.out e)
                have HNd := Lib.hid (fun e => HDu2.out HOk2.out (disC_not hkl hd HcI.out e))
                obtain ⟨kc, fc, tc⟩ := c
                obtain ⟨kd, fd, td⟩ := d
                have HKn := Lib.hid (show kd ≠ kc → _ from HKn.out)
                have HNd := Lib.hid (show kd = kc → _ from HNd.out)
                clear hat hd
                by_cases e : kd = kc
                · have d0 : (kd == kc) = true := by simpa using e
                  have HE := Lib.hid (HNd.out e)
                  clear e HKn HNd
                  go_wp2_with fail
                  go_quiet (fail)
                  go_wp2_with fail
                  go_ret2
                  rw [HE.out]
                  exact HSm.out _ (by first | exact below_drewN (below_drewN HB.out _) _ | exact below_drewN HB.out _) _ _
                · have d0 : (kd == kc) = false := by simpa using e
                  have HK2 := Lib.hid (HKn.out e)
                  clear e HKn HNd
                  go_wp2_with fail
                  go_quiet (fail)
                  go_wp2_with fail
                  go_roundw
                  case rel => exact ⟨k + 1, by omega, by go_num, HK2, Lib.hid ⟨nd + nq, by first | exact (World.drewN_drewN _ _ _) | rfl⟩⟩
                  case measure => simp [RowKit.intOf]; omega
              · have hkk : k = i := by omega
                subst hkk
                have HD3 := Lib.hid (HNx.out HK.out)
                clear HNx HK
                have hki : decide ((k : Int) < (k : Int)) = false := decide_eq_false (by omega)
                go_wp2_with fail
                go_roundw
                case rel => exact ⟨k + 1, by omega, by go_num, HD3, Lib.hid (HRl.out.below (by first | exact below_drewN (Below.refl _ _) _ | exact below_drewN (below_drewN (Below.refl _ _) _) _)), Lib.hid (by first | exact below_drewN HB.out _ | exact below_drewN (below_drewN HB.out _) _)⟩
                case measure => simp [RowKit.intOf]; omega
          · have hii : i = cs.length := by omega
            subst hii
            have hd := HD.out
            rw [List.take_length] at hd
            have HD2 := Lib.hid hd
            clear hd HD HDu2
            have hl4 : l.length ≤ 1024 + 0 := by omega
            have HL4 := Lib.hid hl4
            have HRg0 := Lib.hid (rg_of HIs2.out.1)
            clear hl4
            go_wp2_with fail
            go_loopw [8, 14] (fun vh vi wr => ∃ (i : Nat) (H : List En) (O : Option Addr) (co : Nat), i ≤ cs.length ∧ vi = .int .i64 (i : Int) ∧ vh = .slice O H.length co ∧ Hid (RowE wr (fun g => w.heap.size ≤ g) O H) ∧ Hid (runC l cs = runC H (cs.drop i)) ∧ Hid (Rg H) ∧ Hid (H.length ≤ 1024 + i) ∧ Hid (Below w.heap.size w wr)) (fun _ vi _ => cs.length - (RowKit.intOf vi).toNat)
            case atStart => exact ⟨0, l, O1, co1, Nat.zero_le _, rfl, rfl, HRl, Lib.hid rfl, HRg0, HL4, HB⟩
            case round =>
              clear HRl HB
              obtain ⟨i, H, O, co, hi, rfl, rfl, HRo, HRu, HRg, HLn, HB⟩ := hrel
              by_cases hlt : i < cs.length
              · obtain ⟨c, hc⟩ : ∃ c, cs[i]? = some c := ⟨_, List.getElem?_eq_getElem hlt⟩
                obtain ⟨g, o, rfl, _, hgl, hat⟩ := (HC.out _ (Below.refl _ _)).at hlt
                obtain ⟨q0, q1, q2⟩ := hat.three hc
                have hI : (i : Int) < (cs.length : Int) := by omega
                have hJ : (0 : Int) ≤ (i : Int) := by omega
                have hL := HLn.out
                have HQ := Lib.hid (fun w' (hb : Below w.heap.size w w') => (show (w'.cell? ⟨g, o + i * 3, none⟩ = some (.int .i64 c.key) ∧ w'.cell? ⟨g, o + i * 3 + 1, none⟩ = some (.string ⟨c.fr.toArray⟩) ∧ w'.cell? ⟨g, o + i * 3 + 2, none⟩ = some (.string ⟨c.tt.toArray⟩)) from ⟨(hb.cell hgl).trans q0, (hb.cell hgl).trans q1, (hb.cell hgl).trans q2⟩))
                have HGt := Lib.hid (rgetX_any H O co wr HRo.out (by omega) c.key)
                have HWi := Lib.hid (rwithout_any H O co wr HRo.out (by omega) c.key)
                have HRn := Lib.hid (run_next hc HRu.out)
                have HSr := Lib.hid (step_rg HRg.out (HOk2.out c (List.mem_of_getElem? hc)))
                have HSl := Lib.hid (step_len (l := H) (c := c))
                have HSd : Hid (stepC H c = dropK H c.key ++ (if c.tt = [] then [] else [⟨c.key, c.tt⟩])) := Lib.hid rfl
                have hdl : (dropK H c.key).length ≤ H.length := List.length_filter_le _ _
                have HDl := Lib.hid hdl
                obtain ⟨k0, k1, k2⟩ := HQ.out _ HB.out
                clear hat hc q0 q1 q2 hdl
                obtain ⟨kc, fc, tc⟩ := c
                by_cases hf : txE H kc = fc
                · have hr := HRn.out
                  rw [if_pos hf] at hr
                  have HRn2 := Lib.hid hr
                  subst hf
                  clear hr HRn hL
                  generalize stepC H ⟨kc, txE H kc, tc⟩ = H2 at *
                  go_wp2_with fail
                  refine HGt.out.mono ?_; rintro e w2 ⟨⟨b1, rfl⟩, rfl⟩
                  go_wp2_with fail
                  refine HWi.out.mono ?_; rintro e w3 ⟨O3, co3, rfl, ho3, hb3⟩
                  have HB3 := Lib.hid (HB.out.trans (hb3.mono HB.out.size))
                  have hw23 := hb3.size
                  have HO3 := Lib.hid ho3
                  obtain ⟨z0, z1, z2⟩ := HQ.out _ HB3.out
                  clear ho3 hb3 k0 k1 k2
                  by_cases ht : tc = []
                  · subst ht
                    have hS := HSd.out
                    rw [if_pos rfl, List.append_nil] at hS
                    subst hS
                    obtain ⟨A5, c5, hv5, _, hr5⟩ := own_rowE HO3.out
                    injection hv5 with e1 e2 e3
                    subst e1 e3
                    have HR5 := Lib.hid (hr5.mono (Q := fun g => w.heap.size ≤ g) fun g hg _ => Nat.le_trans HB.out.size hg)
                    have hL5 := HSl.out
                    have hL6 := HLn.out
                    have HL5 : Hid ((dropK H kc).length ≤ 1024 + (i + 1)) := Lib.hid (by omega)
                    clear hr5 hL5 hL6 HSd
                    go_wp2_with fail
                    go_roundw
                    case rel => exact ⟨i + 1, dropK H kc, _, _, by omega, by go_num, rfl, HR5, HRn2, HSr, HL5, HB3⟩
                    case measure => simp [RowKit.intOf]; omega
                  · have hS := HSd.out
                    rw [if_neg ht] at hS
                    have d2 : (!tc.isEmpty) = true := by simpa using ht
                    have HS2 := Lib.hid hS
                    have hL5 := HSl.out
                    have hL6 := HLn.out
                    have hL7 := HDl.out
                    obtain ⟨NN, hNN⟩ : ∃ NN, (dropK H kc).length = NN := ⟨_, rfl⟩
                    rw [hNN] at hL7
                    have HNN := Lib.hid hNN
                    have hn7 : NN ≤ 3000 := by omega
                    have HL5 : Hid (H2.length ≤ 1024 + (i + 1)) := Lib.hid (by omega)
                    have b0 : Below w2.heap.size w3 (w3.alloc (.cells (enW ⟨kc, tc⟩).toArray 75)) := (Below.refl _ _).alloc hw23 _
                    clear hS hL5 hL6 hL7 hNN ht HSd HSl HDl
                    have hg3 : g < w3.heap.size := Nat.lt_of_lt_of_le hgl HB3.out.size
                    have hge : w2.heap.size ≤ (w3.alloc (.cells (enW ⟨kc, tc⟩).toArray 75)).heap.size := by simp; omega
                    have HNz : Hid (NN + 1 = H2.length) := Lib.hid (by rw [HS2.out, List.length_append, HNN.out]; rfl)
                    go_wp2_with fail
                    go_region_law (first
                      | (refine step_append_rows (f := enW) (n := 2) (E := 75) (nb := 24) (X := dropK H kc) (base := w2.heap.size) (by rfl) _ _ (by rfl) (by rfl) (OwnR.below HO3.out (by with_reducible repeat' (first | exact Below.refl _ _ | exact Nat.le_refl _ | exact hw23 | refine Below.drew ?_ | refine Below.alloc ?_ ?_ _ | refine nl_al ?_ | refine nl_d ?_))) (L2 := [(⟨kc, tc⟩ : En)]) (by rfl) (by first | exact one_row _ (⟨kc, tc⟩ : En) | exact one_row _ _) (by simp) (N := NN + 1) (by rw [HNN.out]; rfl) (Z := H2) HS2.out.symm Tryz.underlying35 hi0 hz0 hz1 hz2 (by rfl) (by decide) (by decide) (fun _ => rfl) enW_one (by first | omega | (simp; omega)) (by first | omega | (simp; done) | (simp; omega)) ?_; intro g4 k4 w4 ho4 hg4 hat4 hl4
                         have hb4 : Below w2.heap.size w3 w4 := Below.grown (by with_reducible repeat' (first | exact Below.refl _ _ | exact Nat.le_refl _ | exact hw23 | refine Below.drew ?_ | refine Below.alloc ?_ ?_ _ | refine nl_al ?_ | refine nl_d ?_)) hg4 (by first | omega | (simp; done) | (simp; omega)) (fun k hk => (World.ownsRow.lt HO3.out k hk).1)
                         have HB4 := Lib.hid (HB3.out.trans (hb4.mono HB.out.size))
                         have hr5 : RowE w4 (fun g => w.heap.size ≤ g) (some ⟨g4, 0, none⟩) H2 := by
                           obtain ⟨A5, c5, hv5, _, hr5⟩ := own_rowE ho4
                           injection hv5 with e1 e2 e3
                           rw [e1]
                           exact hr5.mono fun g hg _ => Nat.le_trans HB.out.size hg
                         have HR5 := Lib.hid hr5
                         clear ho4 hg4 hat4 hl4 hr5 hb4)
                      | fail)
                    all_goals
                      go_wp2_with fail
                      go_roundw
                      case rel => exact ⟨i + 1, H2, _, _, by omega, by go_num, by rw [← HNz.out], HR5, HRn2, HSr, HL5, HB4⟩
                      case measure => simp [RowKit.intOf]; omega
                · have hr := HRn.out
                  rw [if_neg hf] at hr
                  have HE := Lib.hid (HCl2.out HOk2.out HD2.out hr)
                  have d1 : (!txE H kc == fc) = true := by simpa using hf
                  clear hr HRn hf hL HWi HSr HSl HSd HDl
                  generalize txE H kc = TX at *
                  go_wp2_with fail
                  refine HGt.out.mono ?_; rintro e w2 ⟨⟨b1, rfl⟩, rfl⟩
                  go_wp2_with fail
                  go_ret2
                  rw [HE.out]
                  exact HSm.out _ HB.out _ _
              · have hii : i = cs.length := by omega
                subst hii
                have hr := HRu.out
                rw [List.drop_length, runC] at hr
                have HE := Lib.hid (HYe2.out H HOk2.out HD2.out hr)
                have hL := HLn.out
                have HBd := Lib.hid (HBu.out _ HB.out H O co _ HRo.out (by omega) (fun x hx => by have := (right_iffE.1 (HRg.out.1 x hx)).2.2.2; unfold maxLen; omega))
                have HBe : Hid (Calls Tryz.prog 9 #[.pointer (some ⟨m, 0, none⟩), .slice O H.length co] wr fun e w'' => BldP w P m room PR e w'') := Lib.hid (by rw [HE.out]; exact HBd.out)
                clear hr hL HRu HBd HE
                go_wp2_with fail
                refine HBe.out.mono ?_; rintro e w8 ⟨gN8, cN8, gB8, cB8, nds8, bs8, rfl, hs8, hrm8, hbu8⟩
                have H8 : Hid (BldP w P m room PR (.returned (.tuple #[.int .i64 PR.2.1, .int .i64 (PR.2.2 : Int)])) w8) := Lib.hid ⟨gN8, cN8, gB8, cB8, nds8, bs8, rfl, hs8, hrm8, hbu8⟩
                clear hs8 hrm8 hbu8
                go_wp2_with fail
                go_ret2
                exact H8.out
end
end Go.Proofs.YtjgjacihdggimaaGreatDoor
namespace Go.Proofs.YtjgjacihdggimaaGreatDoor
open Go.RowKit
section
variable {w w' : World} {P : Nat → Prop} {m gN cN gB cB room : Nat} {nds : List Nd} {bs : List Bool}
set_option maxHeartbeats 16000000 in
set_option maxRecDepth 10000 in
theorem rDof_any (N : Nat) (hN : N = 1024) (h : RM w P m gN cN gB cB room nds bs) (hi : Inv room (stOf nds bs)) (hft : FitT (stOf nds bs)) (x y : Int) :
    Calls Tryz.prog 12 #[.pointer (some ⟨m, 0, none⟩), .int .i64 x, .int .i64 y] w fun e w' => DofP w (ofR N (hasT (stOf nds bs) x) (hasT (stOf nds bs) y)) e w' := by
  have HX := Lib.hid (rhasE_any h hi hft x)
  have HY := Lib.hid (fun (w1 : World) (hb : Below w.heap.size w w1) => rhasE_any (h.below hb) hi hft y)
  have HLx := Lib.hid (fun l e => okL_len (hasT_is (s := stOf nds bs) (h := x) (l := l) e).1)
  have HLy := Lib.hid (fun l e => okL_len (hasT_is (s := stOf nds bs) (h := y) (l := l) e).1)
  have HNo := Lib.hid (fun e => ofR_none (N := N) (r := hasT (stOf nds bs) x) (q := hasT (stOf nds bs) y) e)
  clear h hi hft
  generalize hasT (stOf nds bs) x = r at *
  generalize hasT (stOf nds bs) y = q at *
  cases r with
  | none =>
    have HE := Lib.hid (HNo.out (.inl rfl))
    clear HNo HLx HLy
    cases q with
    | none =>
      go_enter Tryz.func12, Tryz.ntmps12
      go_wp2_with fail
      refine HX.out.mono ?_; rintro e w1 ⟨O1, c1, rfl, hc1, hr1, hb1⟩
      have HB1 := Lib.hid hb1
      clear hc1 hr1 hb1
      go_wp2_with fail
      refine (HY.out _ HB1.out).mono ?_; rintro e w2 ⟨O2, c2, rfl, hc2, hr2, hb2⟩
      have HB2 := Lib.hid (HB1.out.trans (hb2.mono HB1.out.size))
      clear hc2 hr2 hb2
      go_wp2_with fail
      go_ret2
      exact DofP.not HB2.out HE.out
    | some m2 =>
      go_enter Tryz.func12, Tryz.ntmps12
      go_wp2_with fail
      refine HX.out.mono ?_; rintro e w1 ⟨O1, c1, rfl, hc1, hr1, hb1⟩
      have HB1 := Lib.hid hb1
      clear hc1 hr1 hb1
      go_wp2_with fail
      refine (HY.out _ HB1.out).mono ?_; rintro e w2 ⟨O2, c2, rfl, hc2, hr2, hb2⟩
      have HB2 := Lib.hid (HB1.out.trans (hb2.mono HB1.out.size))
      clear hc2 hr2 hb2
      go_wp2_with fail
      go_ret2
      exact DofP.not HB2.out HE.out
  | some l =>
    cases q with
    | none =>
      have HE := Lib.hid (HNo.out (.inr rfl))
      clear HNo HLx HLy
      go_enter Tryz.func12, Tryz.ntmps12
      go_wp2_with fail
      refine HX.out.mono ?_; rintro e w1 ⟨O1, c1, rfl, hc1, hr1, hb1⟩
      have HB1 := Lib.hid hb1
      clear hc1 hr1 hb1
      go_wp2_with fail
      refine (HY.out _ HB1.out).mono ?_; rintro e w2 ⟨O2, c2, rfl, hc2, hr2, hb2⟩
      have HB2 := Lib.hid (HB1.out.trans (hb2.mono HB1.out.size))
      clear hc2 hr2 hb2
      go_wp2_with fail
      go_ret2
      exact DofP.not HB2.out HE.out
    | some m2 =>
      have h1 := HLx.out l rfl
      have h2 := HLy.out m2 rfl
      have HBt := Lib.hid (fun (w' : World) (A C : Option Addr) (ca cb : Nat) (Q R : Nat → Prop) (hl : RowE w' Q A l) (hm : RowE w' R C m2) => rbetween_any N hN l m2 A C ca cb w' hl hm (by omega) (by omega))
      have HE : Hid (ofR N (some l) (some m2) = (chN l m2 N, 0)) := Lib.hid rfl
      clear HNo HLx HLy h1 h2 hN
      generalize chN l m2 N = CC at *
      generalize ofR N (some l) (some m2) = RR at *
      go_enter Tryz.func12, Tryz.ntmps12
      go_wp2_with fail
      refine HX.out.mono ?_; rintro e w1 ⟨O1, c1, rfl, hc1, hr1, hb1⟩
      have HB1 := Lib.hid hb1
      have HR1 := Lib.hid hr1
      clear hc1 hr1 hb1
      go_wp2_with fail
      refine (HY.out _ HB1.out).mono ?_; rintro e w2 ⟨O2, c2, rfl, hc2, hr2, hb2⟩
      have HB2 := Lib.hid (HB1.out.trans (hb2.mono HB1.out.size))
      have HR1' := Lib.hid (HR1.out.below hb2)
      have HR2 := Lib.hid hr2
      clear hc2 hr2 hb2 HX HY
      go_wp2_with fail
      refine (HBt.out _ _ _ _ _ _ _ HR1'.out HR2.out).mono ?_; rintro e w3 ⟨O3, c3, rfl, ho3, hb3⟩
      have HB3 := Lib.hid (HB2.out.trans (hb3.mono HB2.out.size))
      obtain ⟨A3, k3, hv, hk3, hr3⟩ := own_rowC ho3
      injection hv with e1 e2 e3
      subst e1 e3
      have HO3 := Lib.hid (hr3.mono fun g hg _ => Nat.le_trans HB2.out.size hg)
      have HK3 := Lib.hid hk3
      clear ho3 hb3 hr3 hk3
      go_wp2_with fail
      go_ret2
      rw [HE.out]
      exact ⟨_, _, rfl, HK3.out, HO3.out, HB3.out⟩
end
end Go.Proofs.YtjgjacihdggimaaGreatDoor
namespace Go.Proofs.YtjgjacihdggimaaGreatDoor
open Go.RowKit
theorem rchGuard : Tryz.prog.eqGuardType Tryz.prog.depth 84 = false := by kernel_rfl
theorem rchStood : Tryz.prog.stoodInHeld 84 = false := by kernel_rfl
theorem rchStruct : Tryz.prog.underlying 84 = some (.struct (Tryz.prog.fieldsOf 84)) := by kernel_rfl
theorem guard_rch (op : BinOp) (X Y : Operand) (xs ys : Array Value) (W : World) : (eqGuard op 84 X Y (.agg xs) (.agg ys)).run Tryz.prog W = .ok () W := run_eqGuard_agg W op 84 X Y xs ys rchGuard
theorem neq_rch (x y : Int) (s t u v : List UInt8) (W : World) : (binOp .neq 84 (.agg #[.int .i64 x, .string ⟨s.toArray⟩, .string ⟨u.toArray⟩]) (.agg #[.int .i64 y, .string ⟨t.toArray⟩, .string ⟨v.toArray⟩])).run Tryz.prog W = .ok (.bool (!decide ((⟨x, s, u⟩ : Ch) = ⟨y, t, v⟩))) W := by
  rw [run_neq_struct, run_equalIn_agg W 9999 84 _ _ rchStruct rchStood]
  have e : ∀ s : List UInt8, (⟨s.toArray⟩ : ByteArray).toList = s := fun s => ByteArray.toList_eq _
  by_cases h1 : x = y <;> by_cases h2 : s = t <;> by_cases h3 : u = v <;> simp [go_sem, h1, h2, h3, e, Ch.mk.injEq]
set_option maxHeartbeats 4000000 in
set_option maxRecDepth 10000 in
theorem rsameC_any (l m : List Ch) (A C : Option Addr) (ca cb : Nat) (w : World) {Q R : Nat → Prop} (hl : RowC w Q A l) (hm : RowC w R C m) (hll : l.length ≤ 1000000) :
    Calls Tryz.prog 13 #[.slice A l.length ca, .slice C m.length cb] w fun e w' => e = .returned (.bool (decide (l = m))) ∧ ∃ n, w' = w.drewN n := by
  have HL := Lib.hid hl
  have HM := Lib.hid hm
  clear hl hm
  by_cases hne : l.length = m.length
  · have d0 : ((l.length : Int) != (m.length : Int)) = false := by simp [hne]
    have HN := Lib.hid hne
    clear hne
    go_enter Tryz.func13, Tryz.ntmps13
    go_wp2_with fail
    go_loopw [5] (fun v wr => ∃ i : Nat, i ≤ l.length ∧ v = .int .i64 i ∧ Hid (l.take i = m.take i) ∧ ∃ n, wr = w.drewN n) (fun v _ => l.length - (RowKit.intOf v).toNat)
    case atStart => exact ⟨0, Nat.zero_le _, rfl, Lib.hid (by simp), 0, rfl⟩
    case round =>
      obtain ⟨i, hi, rfl, HU, nd, rfl⟩ := hrel
      by_cases hlt : i < l.length
      · obtain ⟨x, hx⟩ : ∃ x, l[i]? = some x := ⟨_, List.getElem?_eq_getElem hlt⟩
        have hlt2 : i < m.length := by have := HN.out; omega
        obtain ⟨y, hy⟩ : ∃ y, m[i]? = some y := ⟨_, List.getElem?_eq_getElem hlt2⟩
        obtain ⟨g, o, rfl, _, _, ha⟩ := HL.out.at hlt
        obtain ⟨g', o', rfl, _, _, hb⟩ := HM.out.at hlt2
        obtain ⟨a0, a1, a2⟩ := ha.three hx
        obtain ⟨b0, b1, b2⟩ := hb.three hy
        have hI : (i : Int) < (l.length : Int) := by omega
        have hJ : (i : Int) < (m.length : Int) := by omega
        have Hxy := Lib.hid hx
        have Hpq := Lib.hid hy
        obtain ⟨kx, tx, ux⟩ := x
        obtain ⟨ky, ty, uy⟩ := y
        clear hx hy ha hb
        have hG := fun X Y W => guard_rch .neq X Y #[.int .i64 kx, .string ⟨tx.toArray⟩, .string ⟨ux.toArray⟩] #[.int .i64 ky, .string ⟨ty.toArray⟩, .string ⟨uy.toArray⟩] W
        have hE := neq_rch kx ky tx ty ux uy
        cases he : (!decide ((⟨kx, tx, ux⟩ : Ch) = ⟨ky, ty, uy⟩)) with
        | true =>
          rw [he] at hE
          have HF := Lib.hid (show decide (l = m) = false from decide_eq_false (by
            intro e
            have h1 := Hxy.out
            rw [e, Hpq.out] at h1
            rw [Option.some.inj h1] at he
            simp at he))
          clear he
          go_wp2_with fail
          go_quiet (fail)
          go_wp2_with fail
          go_ret
          exact ⟨ret_bool HF.out.symm, nd + _, by first | exact (World.drewN_drewN _ _ _) | rfl⟩
        | false =>
          rw [he] at hE
          have HS : Hid (l.take (i + 1) = m.take (i + 1)) := Lib.hid (by
            have h2 : (⟨kx, tx, ux⟩ : Ch) = ⟨ky, ty, uy⟩ := by simpa using he
            rw [List.take_add_one, List.take_add_one, HU.out, Hxy.out, Hpq.out, h2])
          clear he
          go_wp2_with fail
          go_quiet (fail)
          go_wp2_with fail
          go_roundw
          case rel => exact ⟨i + 1, by omega, by go_num, HS, nd + nq, by first | exact (World.drewN_drewN _ _ _) | rfl⟩
          case measure => simp [RowKit.intOf]; omega
      · have HF := Lib.hid (show decide (l = m) = true from decide_eq_true (by
          have h1 := HU.out
          rwa [List.take_of_length_le (by omega), List.take_of_length_le (by have := HN.out; omega)] at h1))
        go_wp2_with fail
        go_ret
        exact ⟨ret_bool HF.out.symm, nd, rfl⟩
  · have d0 : ((l.length : Int) != (m.length : Int)) = true := by simpa using fun h => hne (by omega)
    have HF := Lib.hid (show decide (l = m) = false from decide_eq_false (by rintro rfl; exact hne rfl))
    clear hne
    go_enter Tryz.func13, Tryz.ntmps13
    go_wp2_with fail
    go_ret
    exact ⟨ret_bool HF.out.symm, 0, by simp [World.drewN_zero]⟩
end Go.Proofs.YtjgjacihdggimaaGreatDoor
namespace Go.Proofs.YtjgjacihdggimaaGreatDoor
open Go.RowKit
def FitsE (l : List En) (w : World) (e : Ending) (w' : World) : Prop := ∃ b, e = .returned (.bool b) ∧ (b = true → l.length ≤ 60 ∧ ∀ x ∈ l, x.text.length ≤ 300) ∧ w' = w
theorem FitsE.no {l : List En} {w : World} {e : Ending} (h : e = .returned (.bool false)) : FitsE l w e w := ⟨false, h, fun e => (by cases e), rfl⟩
theorem FitsE.yes {l : List En} {w : World} {e : Ending} (h : e = .returned (.bool true)) (hf : l.length ≤ 60 ∧ ∀ x ∈ l, x.text.length ≤ 300) : FitsE l w e w := ⟨true, h, fun _ => hf, rfl⟩
theorem take_next11 {l : List En} {i : Nat} {x : En} (hx : l[i]? = some x) (h : ∀ y ∈ l.take i, y.text.length ≤ 300) (hb : x.text.length ≤ 300) : ∀ y ∈ l.take (i + 1), y.text.length ≤ 300 := fun y hy => by
  rw [List.take_add_one, hx] at hy
  rcases List.mem_append.1 hy with e | e
  · exact h y e
  · obtain rfl : y = x := by simpa using e
    exact hb
set_option maxHeartbeats 8000000 in
set_option maxRecDepth 10000 in
theorem ldfits_any (l : List En) (A : Option Addr) (ca : Nat) (w : World) {Q : Nat → Prop} (hl : RowE w Q A l) (hll : l.length ≤ maxLen) (hlm : ∀ x ∈ l, x.text.length ≤ maxLen) :
    Calls Tryz.prog 4 #[.slice A l.length ca] w fun e w' => FitsE l w e w' := by
  have HL := Lib.hid hl
  have HM := Lib.hid hlm
  unfold maxLen at hll
  clear hl hlm
  by_cases hbig : 60 < l.length
  · have hd : decide ((60 : Int) < (l.length : Int)) = true := decide_eq_true (by omega)
    go_enter Tryz.func4, Tryz.ntmps4
    go_wp2_with fail
    go_ret
    exact FitsE.no rfl
  · have hd : decide ((60 : Int) < (l.length : Int)) = false := decide_eq_false (by omega)
    have hl2 : l.length ≤ 60 := by omega
    go_enter Tryz.func4, Tryz.ntmps4
    go_wp2_with fail
    go_loopw [3] (fun vi wr => ∃ i : Nat, i ≤ l.length ∧ vi = .int .i64 (i : Int) ∧ Hid (∀ x ∈ l.take i, x.text.length ≤ 300) ∧ wr = w) (fun vi _ => l.length - (RowKit.intOf vi).toNat)
    case atStart => exact ⟨0, Nat.zero_le _, rfl, Lib.hid (by simp), rfl⟩
    case round =>
      obtain ⟨i, hi, rfl, HT, rfl⟩ := hrel
      by_cases hlt : i < l.length
      · obtain ⟨x, hx⟩ : ∃ x, l[i]? = some x := ⟨_, List.getElem?_eq_getElem hlt⟩
        obtain ⟨g, o, rfl, _, hgl, hat⟩ := HL.out.at hlt
        obtain ⟨q0, q1⟩ := hat.two hx
        have m1 := HM.out x (List.mem_of_getElem? hx)
        have HNx := Lib.hid (fun h => take_next11 hx HT.out h)
        have hI : (i : Int) < (l.length : Int) := by omega
        have hJ : (0 : Int) ≤ (i : Int) := by omega
        unfold maxLen at m1
        obtain ⟨kx, tx⟩ := x
        have m1 : tx.length ≤ _ := m1
        clear hat hx
        by_cases hb1 : 300 < tx.length
        · have hd1 : decide ((300 : Int) < (tx.length : Int)) = true := decide_eq_true (by omega)
          go_wp2_with fail
          go_ret
          exact FitsE.no rfl
        · have hd1 : decide ((300 : Int) < (tx.length : Int)) = false := decide_eq_false (by omega)
          have HN2 := Lib.hid (HNx.out (by show tx.length ≤ 300; omega))
          clear hb1 HNx
          go_wp2_with fail
          go_roundw
          case rel => exact ⟨i + 1, by omega, by go_num, HN2, trivial⟩
          case measure => simp [RowKit.intOf]; omega
      · have hii : i = l.length := by omega
        subst hii
        have ht := HT.out
        rw [List.take_length] at ht
        have HT2 := Lib.hid ht
        clear ht HT
        go_wp2_with fail
        go_ret
        exact FitsE.yes rfl ⟨hl2, HT2.out⟩
end Go.Proofs.YtjgjacihdggimaaGreatDoor
namespace Go.Proofs.YtjgjacihdggimaaGreatDoor
open Go.RowKit
set_option maxHeartbeats 8000000 in
set_option maxRecDepth 10000 in
theorem ldofE_any (l : List En) (A : Option Addr) (ca : Nat) (w : World) {Q : Nat → Prop} (hl : RowE w Q A l) (hll : l.length ≤ 1000000) :
    Calls Tryz.prog 10 #[.slice A l.length ca] w fun e w' => ∃ O co, e = .returned (.slice O l.length co) ∧ l.length ≤ co ∧ RowE w' (fun g => w.heap.size ≤ g) O l ∧ Below w.heap.size w w' := by
  obtain ⟨i0, hi0, hz0, hz1, hz2⟩ := info_parts rent_info
  have HL := Lib.hid hl
  clear hl
  go_enter Tryz.func10, Tryz.ntmps10
  go_wp2_with fail
  go_loopw [3, 4] (fun v vi wr => ∃ (i : Nat), i ≤ l.length ∧ vi = .int .i64 (i : Int) ∧ Hid (OwnR 75 2 enW w.heap.size wr v (l.take i)) ∧ Below w.heap.size w wr) (fun _ vi _ => l.length - (RowKit.intOf vi).toNat)
  case atStart => exact ⟨0, Nat.zero_le _, rfl, Lib.hid (by rw [List.take_zero]; exact World.ownsRow_nil _ _ _ _), Below.refl _ _⟩
  case round =>
    obtain ⟨i, hi, rfl, HO, hb⟩ := hrel
    by_cases hlt : i < l.length
    · obtain ⟨x, hx⟩ : ∃ x, l[i]? = some x := ⟨_, List.getElem?_eq_getElem hlt⟩
      obtain ⟨g, o, rfl, _, hgl, hat⟩ := HL.out.at hlt
      obtain ⟨q0, q1⟩ := hat.two hx
      have k0 := keep_cell hb q0
      have k1 := keep_cell hb q1
      have hI : (i : Int) < (l.length : Int) := by omega
      have hbs := hb.size
      have hsp : l.take (i + 1) = l.take i ++ [x] := by rw [List.take_add_one, hx]; rfl
      have HE := Lib.hid hsp
      have hlen : (l.take i).length = i := by rw [List.length_take]; omega
      have HLn := Lib.hid hlen
      obtain ⟨kx, tx⟩ := x
      clear hat q0 q1 hx hsp hlen
      have HB := Lib.hid hb
      have hge : w.heap.size ≤ (wr.alloc (.cells (enW ⟨kx, tx⟩).toArray 75)).heap.size := by simp; omega
      clear hb
      go_wp2_with fail
      go_region_law (first
        | (refine step_append_rows (f := enW) (n := 2) (E := 75) (nb := 24) (X := l.take i) (base := w.heap.size) (by rfl) _ _ (by rfl) (by rfl) (OwnR.below HO.out (by with_reducible repeat' (first | exact Below.refl _ _ | exact Nat.le_refl _ | refine Below.drew ?_ | refine Below.alloc ?_ ?_ _))) (L2 := [(⟨kx, tx⟩ : En)]) (by rfl) (by first | exact one_row _ (⟨kx, tx⟩ : En) | exact one_row _ _) (by simp) (N := i + 1) (by rw [HLn.out]; rfl) (Z := l.take (i + 1)) HE.out.symm Tryz.underlying35 hi0 hz0 hz1 hz2 (by rfl) (by decide) (by decide) (fun _ => rfl) enW_one (by first | omega | (simp; omega)) (by first | omega | (simp; done) | (simp; omega)) ?_; intro g4 k4 w4 ho4 hg4 hat4 hl4
           have hb4 : Below w.heap.size w w4 := HB.out.trans (Below.grown (by with_reducible repeat' (first | exact Below.refl _ _ | exact Nat.le_refl _ | exact hbs | refine Below.drew ?_ | refine Below.alloc ?_ ?_ _)) hg4 (by first | omega | (simp; done) | (simp; omega)) (fun k hk => (World.ownsRow.lt HO.out k hk).1))
           have HO4 := Lib.hid ho4
           clear ho4 hg4 hat4 hl4)
        | fail)
      all_goals
        go_wp2_with fail
        go_roundw
        case rel => exact ⟨i + 1, by omega, by go_num, HO4, hb4⟩
        case measure => simp [RowKit.intOf]; omega
    · have hii : i = l.length := by omega
      subst hii
      have hO := HO.out
      rw [List.take_length] at hO
      obtain ⟨O, co, hv, hc, hr⟩ := own_rowE hO
      subst hv
      have HR := Lib.hid hr
      clear hr hO
      go_wp2_with fail
      go_ret
      exact ⟨O, co, rfl, hc, HR.out, hb⟩
end Go.Proofs.YtjgjacihdggimaaGreatDoor
namespace Go.Proofs.YtjgjacihdggimaaGreatDoor
open Go.RowKit Go.Shelf
set_option maxHeartbeats 4000000 in
set_option maxRecDepth 10000 in
theorem pread_nil (w : World) (h : Int) : Calls Tryz.prog 47 #[.pointer none, .int .i64 h] w fun e w' => ∃ f, e = .returned (.tuple #[.agg (txC f), .bool false]) ∧ Below w.heap.size w w' := by
  obtain ⟨W2, hW2⟩ : ∃ W2, (w.alloc (.cells Tryz.zeroCells72 72)).alloc (.cells Tryz.zeroCells72 72) = W2 := ⟨_, rfl⟩
  have hb2 : Below w.heap.size w W2 := by rw [← hW2]; exact ((Below.refl _ _).alloc (Nat.le_refl _) _).alloc (by simp) _
  have hT2 : TX W2 (w.heap.size + 1) (fun _ => []) := by
    rw [← hW2]
    have := heap_alloc2_new w (.cells Tryz.zeroCells72 72) (.cells Tryz.zeroCells72 72)
    rw [texts_zero] at this
    exact this
  have hR2 : TX W2 w.heap.size (fun _ => []) := by
    rw [← hW2]
    have := heap_alloc2_old w (.cells Tryz.zeroCells72 72) (.cells Tryz.zeroCells72 72)
    rw [texts_zero] at this
    exact this
  go_enter Tryz.func47, Tryz.ntmps47
  go_upto_region 3 with fail
  have HT := Lib.hid hT2
  have HR := Lib.hid hR2
  have HB := Lib.hid hb2
  clear hT2 hR2 hb2 hW2
  go_wp2_with (first
    | (refine wpList_load_texts rfl _ rfl (w.heap.size + 1) rfl HT.out ?_)
    | (refine wpList_store_row rfl 72 _ _ rfl w.heap.size (txC (fun _ => [])) rfl rfl 72 _ HR.out (by rw [txC_size]; exact texts_info) rfl (txC_one _) ?_))
  exact bodyPost_ret (v := .tuple #[.agg (txC (fun _ => [])), .bool false]) (results_two (p := 4) (q := 5) (by kernel_rfl) _ _ w.heap.size rfl (heap_setRow_self HR.out _)) rfl ⟨_, rfl, below_setRow' HB.out (Nat.le_refl _) _⟩
theorem pis_nil (w : World) (h : Int) : Calls Tryz.prog 34 #[.pointer none, .int .i64 h] w fun e w' => e = .returned (.bool false) ∧ Below w.heap.size w w' := by
  have HR := Lib.hid (pread_nil w h)
  go_enter Tryz.func34, Tryz.ntmps34
  go_wp2_with fail
  refine HR.out.mono ?_; rintro e w1 ⟨f, rfl, hb1⟩
  have Hb1 := Lib.hid hb1
  clear hb1
  go_wp2_with (refine wpList_store_row rfl 72 _ _ rfl w1.heap.size (txC f) rfl rfl 72 _ (heap_alloc_new w1 _) (by rw [txC_size]; exact texts_info) (by rw [txC_size]; first | exact hold_st (w := w1) | rfl) (txC_one f) ?_; rw [World.setRow_alloc_new])
  go_ret
  exact ⟨rfl, Hb1.out.alloc Hb1.out.size _⟩
end Go.Proofs.YtjgjacihdggimaaGreatDoor
namespace Go.Proofs.YtjgjacihdggimaaGreatDoor
open Go.RowKit Go.Shelf
set_option maxHeartbeats 4000000 in
set_option maxRecDepth 10000 in
theorem pall_nil (w : World) (h : Int) : Calls Tryz.prog 21 #[.pointer none, .int .i64 h] w fun e w' => e = .returned (.slice none 0 0) ∧ Below w.heap.size w w' := by
  have HR := Lib.hid (pread_nil w h)
  go_enter Tryz.func21, Tryz.ntmps21
  go_wp2_with fail
  refine HR.out.mono ?_; rintro e w1 ⟨f, rfl, hb1⟩
  have Hb1 := Lib.hid hb1
  clear hb1
  go_wp2_with (refine wpList_store_row rfl 72 _ _ rfl w1.heap.size (txC f) rfl rfl 72 _ (heap_alloc_new w1 _) (by rw [txC_size]; exact texts_info) (by rw [txC_size]; first | exact hold_st (w := w1) | rfl) (txC_one f) ?_; rw [World.setRow_alloc_new])
  go_ret
  exact ⟨rfl, Hb1.out.alloc Hb1.out.size _⟩
theorem pdread_nil (w : World) (h : Int) : Calls Tryz.prog 32 #[.pointer none, .int .i64 h] w fun e w' => DrQ w [] false e w' :=
  pdread_of (.pointer none) h [] false (fun w1 _ => (pall_nil w1 h).mono fun e w' ⟨he, hb⟩ => ⟨none, 0, he, Nat.le_refl _, .inl rfl, hb⟩) (fun w1 _ => pis_nil w1 h) (fun x hx => by cases hx) (fun q => by cases q) (Nat.zero_le _)
set_option maxHeartbeats 4000000 in
set_option maxRecDepth 10000 in
theorem pdapply_nil (w : World) : Calls Tryz.prog 17 #[.pointer none, .int .i64 0, .slice none 0 0] w fun e w' => e = .returned (.tuple #[.int .i64 0, .int .i64 1]) ∧ Below w.heap.size w w' := by
  have HR := Lib.hid (pdread_nil w 0)
  unfold DrQ at HR
  go_enter Tryz.func17, Tryz.ntmps17
  go_wp2_with fail
  refine HR.out.mono ?_; rintro e w1 ⟨f, rfl, hfe, hb1⟩
  clear hfe
  have Hb1 := Lib.hid hb1
  clear hb1
  go_wp2_with (refine wpList_store_row rfl 80 _ _ rfl w1.heap.size (txC f) rfl rfl 80 _ (heap_alloc_new w1 _) (by rw [txC_size]; exact dtx_info) (by rw [txC_size]; first | exact hold_dt | rfl) (txC_one f) ?_; rw [World.setRow_alloc_new])
  go_ret2
  exact ⟨rfl, Hb1.out.alloc Hb1.out.size _⟩
set_option maxHeartbeats 4000000 in
set_option maxRecDepth 10000 in
theorem pdshared_nil (w : World) : Calls Tryz.prog 15 #[.pointer none, .int .i64 0, .int .i64 0] w fun e w' => e = .returned (.int .i64 0) ∧ Below w.heap.size w w' := by
  have HR := Lib.hid (pis_nil w 0)
  go_enter Tryz.func15, Tryz.ntmps15
  go_wp2_with fail
  refine HR.out.mono ?_; rintro e w1 ⟨rfl, hb1⟩
  have Hb1 := Lib.hid hb1
  clear hb1
  go_wp2_with fail
  go_ret
  exact ⟨rfl, Hb1.out⟩
end Go.Proofs.YtjgjacihdggimaaGreatDoor
