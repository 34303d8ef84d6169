/- Texts joined: TsU, NdU, TsW, FrameZ. -/
import Derived.Test.YtjgadggehpmdkaaGreatDoorTj28
import Derived.Deep.RegionHeld3
import Derived.Test.YtjgadggehpmdkaaGreatDoorTj07
import Derived.Test.YtjgadggehpmdkaaGreatDoorTj06
import Derived.Test.YtjgadggehpmdkaaGreatDoorTj01
import Derived.Test.YtjgadggehpmdkaaGreatDoorRows
import Derived.WalkKit
import Derived.ProofKit
import Derived.OpenShut
import Derived.Deep.DeepHandedRow
import Derived.Lib.LaidTab
import Derived.Stop.LaidErr
import Derived.Lib.SmallJoins
import Derived.LaidLaws
import Derived.Lib.LaidIn
set_option linter.all false
namespace Go.Proofs.YtjgadggehpmdkaaGreatDoor
open Go.RowKit Go.Shelf
theorem tb_upU {w w' : World} (hE : TB w.heap.size w) (hb : Below w.heap.size w w') : TB w'.heap.size w' := fun w'' hb' => hE w'' (hb.trans (hb'.mono hb.size))
def CutU (w wx : World) (a m room : Nat) (s' : Sh) (vh vk : Value) (hs : List Int) (h' : Int) (u v b : Value) : Prop := u = .int .i64 h' ∧ v = .int .i64 h' ∧ b = .bool true ∧ ∃ T, PV w wx a m room s' T vh vk hs
set_option maxHeartbeats 40000000 in
set_option maxRecDepth 10000 in
theorem tplays_any (w : World) (hE : TB w.heap.size w) (rm : Int) (hrm : 0 ≤ rm ∧ rm ≤ 65535) (l : List AcT) (A : Option Addr) (ca : Nat) {Q : Nat → Prop} (hl : RowT w Q A l) (hll : l.length ≤ maxLen) (hlm : ∀ q ∈ l, (0 ≤ q.kind ∧ q.kind ≤ 255) ∧ q.L.length ≤ maxLen ∧ ∀ x ∈ q.L, x.text.length ≤ maxLen) (key : Int) :
    Calls Tryz.prog 3 #[.int .u16 rm, .slice A l.length ca, .int .i64 key] w fun e w' => e = .returned (.bool true) ∧ Below w.heap.size w w' := by
  have HEv := Lib.hid (fun w' (hb : Below w.heap.size w w') => talive_any w' (tb_upU hE hb))
  have HFi := Lib.hid (lfitsT_any l A ca w hl hll (fun q hq => (hlm q hq).2))
  obtain ⟨r, hr⟩ : ∃ r : Nat, rm % 501 = (r : Int) := ⟨(rm % 501).toNat, by omega⟩
  have hr5 : r ≤ 500 := by omega
  have HNw := Lib.hid (o9New w hE r (by omega))
  have HBe := Lib.hid (fun w' => rBegin_any w' r (by omega))
  have HL := Lib.hid hl
  have HKd := Lib.hid (fun q hq => (hlm q hq).1)
  have hm0 := hrm.1
  have hm1 := hrm.2
  clear hE hl hlm hll hrm
  go_enter Tryz.func3, Tryz.ntmps3
  go_wp2_with fail
  refine HFi.out.mono ?_; rintro e w1 ⟨b, rfl, hfit, hw⟩
  have hw2 : w = w1 := hw.symm
  subst hw2
  have HFt := Lib.hid hfit
  clear hfit HFi hw
  cases b with
  | false =>
    go_wp2_with fail
    refine HNw.out.mono ?_; rintro e w2 ⟨a, K1, rfl, hO1, hK1, hb1⟩
    have HB1 := Lib.hid hb1
    clear hO1 hK1 hb1 HNw HBe HL
    go_wp2_with fail
    refine (HEv.out w2 HB1.out).mono ?_; rintro e w3 ⟨rfl, hb3⟩
    have hb4 := HB1.out.trans (hb3.mono HB1.out.size)
    go_wp2_with fail
    go_ret
    exact ⟨rfl, hb4⟩
  | true =>
    have hl60 : l.length ≤ 60 := (HFt.out rfl).1
    have HFq := Lib.hid (HFt.out rfl).2
    clear HFt
    go_wp2_with fail
    refine HNw.out.mono ?_; rintro e w2 ⟨a, K1, rfl, hO1, hK1, hb1⟩
    have HO1 := Lib.hid hO1
    have HK1 := Lib.hid hK1
    have HB1 := Lib.hid hb1
    clear hO1 hK1 hb1 HNw
    go_wp2_with fail
    refine (HBe.out w2).mono ?_; rintro e w3 ⟨m, gN, gB, rfl, hR3, hb3⟩
    have hD3 : Duo w3 w.heap.size a m r [] [] (fun g => g < w.heap.size) := Duo.begin HO1.out hR3 hb3 HK1.out
    have hPV : PV w w3 a m r [] (fun g => g < w.heap.size) (.slice none 0 0) (.slice none 0 0) [] := ⟨hD3, HB1.out.trans (hb3.mono HB1.out.size), World.ownsRow_nil _ _ _ _, World.ownsRow_nil _ _ _ _, (fun g e => by cases e), (fun g e => by cases e), (fun g e => by cases e), fun g hg => hg⟩
    have HPV := Lib.hid hPV
    clear hR3 hb3 hD3 hPV HO1 HK1 HB1 HBe
    go_wp2_with fail
    go_loopw [11, 12, 13, 14, 15, 16, 17, 18, 19, 20, 21, 22, 23] (fun vh vk vi _ _ _ _ _ _ _ _ _ _ wr => ∃ (i : Nat) (hs : List Int) (s : Sh) (T : Nat → Prop), i ≤ l.length ∧ vi = .int .i64 (i : Int) ∧ Hid (hs.length ≤ i) ∧ Hid (∀ x ∈ hs, 0 ≤ x ∧ x ≤ 65536) ∧ Hid (PV w wr a m r s T vh vk hs)) (fun _ _ vi _ _ _ _ _ _ _ _ _ _ _ => l.length - (RowKit.intOf vi).toNat)
    case atStart => exact ⟨0, [], [], _, Nat.zero_le _, rfl, Lib.hid (Nat.le_refl _), Lib.hid (fun x hx => by cases hx), HPV⟩
    case round =>
      clear HPV
      obtain ⟨i, hs, s, T, hi, rfl, HLn, HBd, HPV⟩ := hrel
      by_cases hlt : i < l.length
      · obtain ⟨q, hq⟩ : ∃ q, l[i]? = some q := ⟨_, List.getElem?_eq_getElem hlt⟩
        obtain ⟨g, o, rfl, _, hgl, hat⟩ := (HL.out.mono (Q := fun g => g < w.heap.size) fun g _ hg => hg).at hlt
        obtain ⟨⟨e0, e1, e2⟩, hrow0⟩ := hat i q hq
        have c0 := keep_cell HPV.out.bl e0
        have c1 := keep_cell HPV.out.bl e1
        have c2 := keep_cell HPV.out.bl e2
        have HE0 := Lib.hid e0
        have HE1 := Lib.hid e1
        have HE2 := Lib.hid e2
        have hrow := hrow0.below HPV.out.bl
        have hqm := List.mem_of_getElem? hq
        have hkd0 := (HKd.out q hqm).1
        have hkd1 := (HKd.out q hqm).2
        have HFa := Lib.hid (HFq.out q hqm)
        obtain ⟨Oh, ch, rfl, hrh⟩ := own_rowI HPV.out.oh
        obtain ⟨Ok, ck, rfl, hrk⟩ := own_rowI HPV.out.ok
        have hln : hs.length ≤ 60 := by have := HLn.out; omega
        have HPh := Lib.hid (fun (w' : World) (hb : Below wr.heap.size wr w') => lpick_any hs Oh ch w' (hrh.below hb) (by omega) q.at_)
        have HPk := Lib.hid (fun (w' : World) (hb : Below wr.heap.size wr w') => lpick_any hs Ok ck w' (hrk.below hb) (by omega) q.at_)
        have hpb := pick_bound HBd.out q.at_
        have HSt := Lib.hid (fun (w' : World) (hb : Below wr.heap.size wr w') => lstep_any (HPV.out.below hb).duo q ⟨(hrow.below hb).mono (fun g hg _ => (HPV.out.below hb).tb g hg), HFa.out, ⟨hkd0, hkd1⟩⟩ (pickI hs q.at_) (by omega))
        have HSb := Lib.hid (stepT_bound HPV.out.duo.inv (by omega) hpb q)
        generalize pickI hs q.at_ = pp at *
        generalize stepT r s pp q = ST at *
        obtain ⟨s', h'⟩ := ST
        have hI : (i : Int) < (l.length : Int) := by omega
        have hJ : (0 : Int) ≤ (i : Int) := by omega
        clear hq hat hrow hrow0 hqm hrh hrk e0 e1 e2
        go_wp2_with fail
        go_cut [14, 15, 16] from 52 to 76 (fun u v b wx => CutU w wx a m r s' (.slice Oh hs.length ch) (.slice Ok hs.length ck) hs h' u v b)
        case first =>
          go_region_held3 (fun w' => w'.cell? ⟨g, o + i * 3, none⟩ = some (.int .u8 q.kind) ∧ w'.cell? ⟨g, o + i * 3 + 1, none⟩ = some (.slice q.LA q.L.length q.lc) ∧ w'.cell? ⟨g, o + i * 3 + 2, none⟩ = some (.int .i64 q.at_))
            (first | (simp only [World.cell?_drew]; with_reducible exact ⟨c0, c1, c2⟩) | with_reducible exact ⟨m0, m1, m2⟩ | fail)
            (first
            | (have hB := done1; clear hB; go_at_call 10; refine Calls.mono (HPk.out _ (by with_reducible repeat' (first | exact Below.refl _ _ | exact Nat.le_refl _ | refine Below.drew ?_ | refine Below.alloc ?_ ?_ _ | refine nl_al ?_ | refine nl_d ?_))) ?_; rintro e w5 ⟨rfl, rfl⟩
               clear done1
               have done2 : True := trivial)
            | (have hB := done2; clear hB; go_at_call 9; refine Calls.mono (HSt.out _ (by with_reducible repeat' (first | exact Below.refl _ _ | exact Nat.le_refl _ | refine Below.drew ?_ | refine Below.alloc ?_ ?_ _ | refine nl_al ?_ | refine nl_d ?_))) ?_; rintro e w6 ⟨rfl, hd6, hk6, hb6⟩
               have hP6 := (HPV.out.below (by with_reducible repeat' (first | exact Below.refl _ _ | exact Nat.le_refl _ | refine Below.drew ?_ | refine Below.alloc ?_ ?_ _ | refine nl_al ?_ | refine nl_d ?_))).op hd6 hk6 hb6
               have m0 := keep_cell hP6.bl HE0.out
               have m1 := keep_cell hP6.bl HE1.out
               have m2 := keep_cell hP6.bl HE2.out
               have HP6 := Lib.hid hP6
               clear hd6 hk6 hb6 hP6)
            | (go_at_call 10; refine Calls.mono (HPh.out _ (by with_reducible repeat' (first | exact Below.refl _ _ | exact Nat.le_refl _ | refine Below.drew ?_ | refine Below.alloc ?_ ?_ _ | refine nl_al ?_ | refine nl_d ?_))) ?_; rintro e w5 ⟨rfl, rfl⟩
               have done1 : True := trivial)
            | fail)
          all_goals
            go_wp2_with fail
            go_meet
            case rel => exact ⟨rfl, rfl, rfl, _, HP6.out⟩
        case rest =>
          obtain ⟨rfl, rfl, rfl, T6, hP6⟩ := hcut
          have HP6 := Lib.hid hP6
          have hsb : 0 ≤ h' ∧ h' ≤ 65536 := HSb.out
          have hs0 := hsb.1
          have hs1 := hsb.2
          obtain ⟨j0, hj0, hk0, hk1, hk2⟩ := info_parts int_info
          have hb7 : Below wc.heap.size wc (wc.alloc (.cells #[.int .i64 h'] 3)) := (Below.refl _ _).alloc (Nat.le_refl _) _
          have hP7 := HP6.out.below hb7
          have HP7 := Lib.hid hP7
          clear hP6 hP7 hb7 HPh HPk HSt HPV c0 c1 c2 HSb hsb
          go_wp2_with (at_builtin; refine of_stop ?_)
          refine stop_of ?_
          refine wpList_append_rows (f := inW) (n := 1) (E := 3) (nb := 8) (X := hs) (base := w.heap.size) rfl _ _ rfl rfl HP7.out.oh (L2 := [h']) rfl (one_row wc h') (by simp) (N := hs.length + 1) rfl (Z := hs ++ [h']) rfl Tryz.underlying32 hj0 hk0 hk1 hk2 rfl (by decide) (by decide) (fun _ => rfl) inW_one (by omega) HP7.out.bl.size ?_
          intro g8 k8 w8 ho8 hg8 hat8 hl8
          have hgr := HP7.out.growH ho8 hg8 (hat8.elim (fun e => .inl e.symm) (fun e => .inr ⟨g8, rfl, Nat.le_of_eq e.symm, hl8⟩))
          have HGr := Lib.hid hgr
          have hb9 : Below w8.heap.size w8 (w8.alloc (.cells #[.int .i64 h'] 3)) := (Below.refl _ _).alloc (Nat.le_refl _) _
          have hok9 := hgr.2.2.2.1.below hb9
          have HOk9 := Lib.hid hok9
          have hsz9 : w.heap.size ≤ (w8.alloc (.cells #[.int .i64 h'] 3)).heap.size := Nat.le_trans hgr.2.1.size hb9.size
          have HSz9 := Lib.hid hsz9
          clear ho8 hg8 hat8 hl8 hgr hb9 hok9 hsz9 HP7
          go_wp2_with (at_builtin; refine of_stop ?_)
          refine stop_of ?_
          refine wpList_append_rows (f := inW) (n := 1) (E := 3) (nb := 8) (X := hs) (base := w.heap.size) rfl _ _ rfl rfl HOk9.out (L2 := [h']) rfl (one_row w8 h') (by simp) (N := hs.length + 1) rfl (Z := hs ++ [h']) rfl Tryz.underlying32 hj0 hk0 hk1 hk2 rfl (by decide) (by decide) (fun _ => rfl) inW_one (by omega) HSz9.out ?_
          intro g10 k10 w10 ho10 hg10 hat10 hl10
          have hb9 : Below w8.heap.size w8 (w8.alloc (.cells #[.int .i64 h'] 3)) := (Below.refl _ _).alloc (Nat.le_refl _) _
          obtain ⟨hd8, hb8, oh8, ok8, th8, tk8, ap8⟩ := HGr.out
          have hP10 := PV.both (hd8.below hb9) (hb8.trans (hb9.mono hb8.size)) (oh8.below hb9) (ok8.below hb9) (fun g e => .inl (th8 g e)) (fun g e => .inl (tk8 g e)) ap8 (fun g hg => .inl (.inl (.inl (HP6.out.tb g hg)))) ho10 hg10 (hat10.elim (fun e => .inl e.symm) (fun e => .inr ⟨g10, rfl, Nat.le_of_eq e.symm, hl10⟩))
          have HP10 := Lib.hid hP10
          clear ho10 hg10 hat10 hl10 hb9 hd8 hb8 oh8 ok8 th8 tk8 ap8 HOk9 HSz9 HGr HP6
          obtain ⟨K, hon⟩ := hP10.duo.on
          obtain ⟨P, gN2, cN2, gB2, cB2, nds, bs, hrm2, hst, hiv, hft⟩ := hP10.duo.rm
          have hHa := rhasE_any hrm2 hiv hft h'
          rw [hst] at hHa
          unfold BelP at hHa
          have HHa := Lib.hid hHa
          have hLb : ((hasT s' h').getD []).length ≤ 1024 := by
            cases e : hasT s' h' with
            | none => exact Nat.zero_le _
            | some L => exact okL_len (hasT_is e).1
          have HLb := Lib.hid hLb
          have HLv : Hid (∀ w', Below w10.heap.size w10 w' → Calls Tryz.prog 19 #[.pointer (some ⟨m, 0, none⟩)] w' fun e w'' => ∃ A ca, e = .returned (.slice A (liveA s').length ca) ∧ Below w'.heap.size w' w'') := Lib.hid fun w' hb => by
            have h1 := rLive_any (hrm2.below hb)
            rw [hst] at h1
            exact h1.mono fun e w'' ⟨A, ca, he, _, hb⟩ => ⟨A, ca, he, hb⟩
          have HAl := Lib.hid (fun (w' : World) (hb : Below w10.heap.size w10 w') => pall_any (hon.below hb) h' (by omega))
          have hGt := (fun (w' : World) (hb : Below w10.heap.size w10 w') => pget_any (hon.below hb) h' (by omega) key)
          rw [getR_get] at hGt
          have HGt := Lib.hid hGt
          have HIs := Lib.hid (fun (w' : World) (hb : Below w10.heap.size w10 w') => pis_any (hon.below hb) h' (by omega))
          have HLe := Lib.hid (fun (w' : World) (hb : Below w10.heap.size w10 w') => o9Len (hon.below hb))
          clear hP10 hon hrm2 hst hiv hft hHa hLb hGt
          generalize hasT s' h' = HT at *
          generalize (liveA s').length = nl at *
          have hbs : HT.isSome = HT.isSome := rfl
          generalize HT.isSome = bs at *
          generalize HT.getD [] = L at *
          clear hbs
          go_wp2_with fail
          refine HHa.out.mono ?_; rintro e w11 ⟨O11, c11, rfl, hc11, hr11, hb11⟩
          have HR11 := Lib.hid hr11
          have HB11 := Lib.hid hb11
          clear hc11 hr11 hb11 HHa
          go_wp2_with fail
          refine (HAl.out w11 HB11.out).mono ?_; rintro e w12 ⟨O12, c12, rfl, hc12, hr12, hb12⟩
          have HOf := Lib.hid (lof_any L O12 c12 w12 hr12 (by have := HLb.out; omega))
          have HB12 := Lib.hid (HB11.out.trans (hb12.mono HB11.out.size))
          have HR12 := Lib.hid (HR11.out.below hb12)
          clear hc12 hr12 hb12 HAl HB11 HR11
          go_wp2_with fail
          refine HOf.out.mono ?_; rintro e w13 ⟨O13, c13, rfl, hc13, hr13, hb13⟩
          have hSa := rsameE_any L L O13 O11 c13 c11 w13 hr13 (HR12.out.below hb13) (by have := HLb.out; omega)
          rw [decide_eq_true (rfl : L = L)] at hSa
          have HSa := Lib.hid hSa
          have HB13 := Lib.hid (HB12.out.trans (hb13.mono HB12.out.size))
          have HR13 := Lib.hid (HR12.out.below hb13)
          clear hc13 hr13 hb13 hSa HOf HB12 HR12
          go_wp2_with fail
          refine HSa.out.mono ?_; rintro e w14 ⟨rfl, nd, rfl⟩
          have HB14 := Lib.hid (below_drewN HB13.out nd)
          have HR14 := Lib.hid (HR13.out.below (below_drewN (Below.refl w13.heap.size w13) nd))
          clear HSa HB13 HR13
          generalize w13.drewN nd = w14 at *
          go_wp2_with fail
          refine (HGt.out w14 HB14.out).mono ?_; rintro e w15 ⟨rfl, hb15⟩
          have HGe := Lib.hid (rgetE_any L O11 c11 w15 (HR14.out.below hb15) (by have := HLb.out; omega) key)
          have HB15 := Lib.hid (HB14.out.trans (hb15.mono HB14.out.size))
          clear hb15 HB14 HR14 HGt
          generalize getL L key = gl at *
          have htx : gl.getD [] = gl.getD [] := rfl
          generalize gl.getD [] = tx at *
          generalize gl.isSome = bx at *
          clear htx
          go_wp2_with fail
          refine HGe.out.mono ?_; rintro e w16 ⟨rfl, rfl⟩
          go_wp2_with fail
          refine (HIs.out _ HB15.out).mono ?_; rintro e w17 ⟨rfl, hb17⟩
          have HB17 := Lib.hid (HB15.out.trans (hb17.mono HB15.out.size))
          clear hb17 HB15 HGe HIs
          go_wp2_with fail
          refine (HLe.out _ HB17.out).mono ?_; rintro e w18 ⟨rfl, rfl⟩
          go_wp2_with fail
          refine (HLv.out _ HB17.out).mono ?_; rintro e w19 ⟨A19, c19, rfl, hb19⟩
          have hB19 := HB17.out.trans (hb19.mono HB17.out.size)
          have hP19 := HP10.out.below hB19
          have c0 := keep_cell hP19.bl HE0.out
          have HP19 := Lib.hid hP19
          have HBd2 : Hid (∀ x ∈ hs ++ [h'], 0 ≤ x ∧ x ≤ 65536) := Lib.hid fun x hx => by
            rcases List.mem_append.1 hx with q | q
            · exact HBd.out x q
            · rw [List.mem_singleton.1 q]; exact ⟨hs0, hs1⟩
          have HLn2 : Hid ((hs ++ [h']).length ≤ i + 1) := Lib.hid (by rw [List.length_append]; have := HLn.out; simp; omega)
          clear hb19 hB19 hP19 HP10 HB17 HLe HLv HLb HBd HLn
          by_cases h7 : q.kind % 8 = 7
          · have hC := HP19.out.cut (by simp)
            have HC := Lib.hid hC
            clear hC
            go_wp2_with fail
            go_roundw
            case rel => exact ⟨i + 1, [], s', _, by omega, by go_num, Lib.hid (by simp), Lib.hid (fun x hx => by cases hx), HC⟩
            case measure => simp [RowKit.intOf]; omega
          · have d7 : (q.kind % 8 == 7) = false := by simpa using h7
            clear h7
            go_wp2_with fail
            go_roundw
            case rel => exact ⟨i + 1, hs ++ [h'], s', _, by omega, by go_num, HLn2, HBd2, HP19⟩
            case measure => simp [RowKit.intOf]; omega
      · have hii : i = l.length := by omega
        subst hii
        have HB := Lib.hid HPV.out.bl
        have HH1 := Lib.hid (fun w' => phash_any key w')
        have HH2 := Lib.hid (fun w' => rhash_any key w')
        have HNi := Lib.hid (fun w' => pis_nil w' 0)
        clear HPV HLn HBd HL HKd HFq
        generalize hashK key = hk at *
        go_wp2_with fail
        refine (HEv.out _ HB.out).mono ?_; rintro e w2 ⟨rfl, hb2⟩
        have HB2 := Lib.hid (HB.out.trans (hb2.mono HB.out.size))
        clear hb2 HEv HB
        go_wp2_with fail
        refine (HH1.out _).mono ?_; rintro e w4 ⟨rfl, rfl⟩
        go_wp2_with fail
        refine (HH2.out _).mono ?_; rintro e w5 ⟨rfl, rfl⟩
        go_wp2_with fail
        refine (HNi.out _).mono ?_; rintro e w6 ⟨rfl, hb6⟩
        have hb7 := HB2.out.trans (hb6.mono HB2.out.size)
        go_wp2_with fail
        go_ret
        exact ⟨rfl, hb7⟩
end Go.Proofs.YtjgadggehpmdkaaGreatDoor
namespace Go.Proofs.YtjgadggehpmdkaaGreatDoor
open Go.RowKit
def FitsR (l : List AcM) (w : World) (e : Ending) (w' : World) : Prop := ∃ b, e = .returned (.bool b) ∧ (b = true → l.length ≤ 200 ∧ ∀ q ∈ l, FitA q) ∧ Below w.heap.size w w'
theorem FitsR.no {l : List AcM} {w : World} {e : Ending} {w' : World} (h : e = .returned (.bool false)) (hb : Below w.heap.size w w') : FitsR l w e w' := ⟨false, h, fun e => (by cases e), hb⟩
theorem FitsR.yes {l : List AcM} {w : World} {e : Ending} {w' : World} (h : e = .returned (.bool true)) (hf : l.length ≤ 200 ∧ ∀ q ∈ l, FitA q) (hb : Below w.heap.size w w') : FitsR l w e w' := ⟨true, h, fun _ => hf, hb⟩
end Go.Proofs.YtjgadggehpmdkaaGreatDoor
namespace Go.Proofs.YtjgadggehpmdkaaGreatDoor
open Go.RowKit Go.Shelf
structure XV (w W : World) (B a m room : Nat) (s t : Sh) (T : Nat → Prop) (X : Nat) (x : En) : Prop where
  duo : Duo W B a m room s t T
  bl : Below B w W
  y0 : W.cell? ⟨X, 0, none⟩ = some (.int .i64 x.key)
  y1 : W.cell? ⟨X, 1, none⟩ = some (.string ⟨x.text.toArray⟩)
  tX : T X
section
variable {w W W1 : World} {B a m room : Nat} {s s' t t' : Sh} {T : Nat → Prop} {X : Nat} {x : En}
theorem XV.below (h : XV w W B a m room s t T X x) (hb : Below W.heap.size W W1) : XV w W1 B a m room s t (fun g => T g ∨ (W.heap.size ≤ g ∧ g < W1.heap.size)) X x :=
  ⟨h.duo.below hb, h.bl.trans (hb.mono h.duo.base), keep_cell hb h.y0, keep_cell hb h.y1, .inl h.tX⟩
theorem XV.op (h : XV w W B a m room s t T X x) (hd : Duo W1 B a m room s' t' T) (hk : Kept W W1 T) (hb : Below B W W1) : XV w W1 B a m room s' t' T X x :=
  ⟨hd, h.bl.trans hb, hk.cell h.tX h.y0, hk.cell h.tX h.y1, h.tX⟩
end
end Go.Proofs.YtjgadggehpmdkaaGreatDoor
namespace Go.Proofs.YtjgadggehpmdkaaGreatDoor
open Go.ChangeShapes Go.WideShapes Go.ChangeAt Go.RowKit
theorem own : ownKnob Tryz.prog.godebug = none := by kernel_rfl
theorem yTab9 : (Tryz.prog.globals[0]?).map (·.type) = some 177 := by kernel_rfl
theorem cellsTab9 : Tryz.prog.cellsOf 177 = 20 := by kernel_rfl
theorem cellsU64 : Tryz.prog.cellsOf 160 = 1 := by kernel_rfl

theorem tab_of {w : World} (h : laidMet Tryz.prog Rows.triePlaysRow.laid w) : TabE w :=
  Lib.tabIs_of_head (rest := _) gTab9 yTab9 Tryz.underlying177 Tryz.underlying160 cellsU64 cellsTab9 h.tail.tail

def valsOf : DataW Unit → List Value
  | .agg ds => ds.map fun
    | .lit (.int k n) => .int k n
    | _ => .nilIface
  | _ => []
noncomputable def laidWorld (os : Os) : World :=
  let w0 := World.holding Tryz.prog os ⟨#[], #[], []⟩
  let put (h : Array Obj) (g : Nat) (cs : Array Value) : Array Obj := h.modify g fun
    | .cells _ t frozen => .cells cs t frozen
    | o => o
  let h2 := put w0.heap 0 (valsOf Rows.laid_internal_strconv_uint64pow10).toArray
  let h3 := put h2 1 (valsOf Rows.laid_math_bits_deBruijn32tab).toArray
  let h4 := put h3 2 (valsOf Rows.laid_math_bits_deBruijn64tab).toArray
  { w0 with heap := h4 }
theorem laid_met (os : Os) (args : Array Value) : laidMet Tryz.prog Rows.triePlaysRow.laid ((laidWorld os).forCall (fun _ _ => 0) ⟨#[], args, []⟩).memory :=
  laidMet_of_run' 8 (by kernel_rfl) (by kernel_rfl)
theorem cellsIntK : Tryz.prog.cellsOf 3 = 1 := by kernel_rfl
theorem cellsStrK : Tryz.prog.cellsOf 9 = 1 := by kernel_rfl
theorem cellsEntK : Tryz.prog.cellsOf 55 = 2 := by kernel_rfl
section
variable {H : Type} {enc : TypeId × Value → H} {w : World} {base : Nat} {spare : Nat → Bool} {held : Bool}
set_option maxRecDepth 100000 in
theorem open_ents {r : Reach} {b0 : Nat} {v : Value} {d : DataW H} {p : List MemPlace} (hv : Value.okWide Tryz.prog w r b0 35 v) (h : DataW.Trod enc Tryz.prog w base spare held 35 v d p) :
    ∃ (l : List En) (A : Option Addr) (cap : Nat), v = .slice A l.length cap ∧ l.length ≤ maxLen ∧ (∀ q ∈ l, q.text.length ≤ maxLen) ∧ RowE w (fun _ => True) A l := by
  obtain ⟨l, A, cap, e, hl, ho, ha⟩ := open_rows enW (fun q => q.text.length ≤ maxLen) (fun _ => rfl) Tryz.underlying35 cellsEntK (by decide) (fun {fuel cs x} hl ht => by
    match cs, hl with
    | [c0, c1], _ =>
      obtain ⟨y0, y1, n, rfl, _, hy0, hy1⟩ := trod_struct2 Tryz.underlying55 ht
      simp only [cellsIntK, cellsStrK] at hy0 hy1
      obtain ⟨a, e1, _, _⟩ := DataW.trod_int Tryz.underlying3 hy0
      obtain ⟨z, e2, _, hzl⟩ := DataW.trod_string Tryz.underlying9 hy1
      simp at e1 e2
      subst e1 e2
      exact ⟨⟨a, z.data.toList⟩, by simp [enW], by first | exact hzl | simpa using hzl⟩) hv h
  refine ⟨l, A, cap, e, hl, ho, ?_⟩
  by_cases hn : l = []
  · exact .inl hn
  · obtain ⟨g, o, e2, hat⟩ := ha hn
    obtain ⟨x, hx⟩ : ∃ x, l[0]? = some x := by
      cases l with
      | nil => exact absurd rfl hn
      | cons x r => exact ⟨x, rfl⟩
    have q0 := hat 0 x hx 0 _ rfl
    have hlt : g < w.heap.size := Lib.lt_of_cell q0
    exact .inr ⟨g, o, e2, trivial, hlt, hat⟩
set_option maxRecDepth 100000 in
theorem trod_ents {fuel : Nat} {c : Value} {x : DataW H × List MemPlace} (h : DataW.trod enc Tryz.prog w base spare held fuel 35 [c] = some x) :
    ∃ (l : List En) (A : Option Addr) (cap : Nat), c = .slice A l.length cap ∧ l.length ≤ maxLen ∧ (∀ q ∈ l, q.text.length ≤ maxLen) ∧ RowE w (fun _ => True) A l := by
  obtain ⟨l, A, cap, e, hl, ho, ha⟩ := trod_rows enW (fun q => q.text.length ≤ maxLen) (fun _ => rfl) Tryz.underlying35 cellsEntK (by decide) (fun {fuel cs x} hl ht => by
    match cs, hl with
    | [c0, c1], _ =>
      obtain ⟨y0, y1, n, rfl, _, hy0, hy1⟩ := trod_struct2 Tryz.underlying55 ht
      simp only [cellsIntK, cellsStrK] at hy0 hy1
      obtain ⟨a, e1, _, _⟩ := DataW.trod_int Tryz.underlying3 hy0
      obtain ⟨z, e2, _, hzl⟩ := DataW.trod_string Tryz.underlying9 hy1
      simp at e1 e2
      subst e1 e2
      exact ⟨⟨a, z.data.toList⟩, by simp [enW], by first | exact hzl | simpa using hzl⟩) h
  refine ⟨l, A, cap, e, hl, ho, ?_⟩
  cases l with
  | nil => exact .inl rfl
  | cons a l =>
    obtain ⟨g, o, e2, hat⟩ := ha (by simp)
    have hlt : g < w.heap.size := Lib.lt_of_cell (hat 0 a rfl 0 _ rfl)
    exact .inr ⟨g, o, e2, trivial, hlt, hat⟩
def OkT (q : AcT) : Prop := (0 ≤ q.kind ∧ q.kind ≤ 255) ∧ q.L.length ≤ maxLen ∧ ∀ x ∈ q.L, x.text.length ≤ maxLen
theorem cellsActT : Tryz.prog.cellsOf 37 = 3 := by kernel_rfl
theorem cellsEntsT : Tryz.prog.cellsOf 35 = 1 := by kernel_rfl
set_option maxRecDepth 100000 in
theorem open_actsT {r : Reach} {b0 : Nat} {v : Value} {d : DataW H} {p : List MemPlace} (hv : Value.okWide Tryz.prog w r b0 23 v) (h : DataW.Trod enc Tryz.prog w base spare held 23 v d p) :
    ∃ (l : List AcT) (A : Option Addr) (cap : Nat), v = .slice A l.length cap ∧ l.length ≤ maxLen ∧ (∀ q ∈ l, OkT q) ∧ RowT w (fun _ => True) A l := by
  haveI : Inhabited AcT := ⟨⟨0, [], none, 0, 0⟩⟩
  obtain ⟨l, A, cap, e, hl, ho, ha⟩ := open_rows acT (fun q => OkT q ∧ RowE w (fun _ => True) q.LA q.L) (fun _ => rfl) Tryz.underlying23 cellsActT (by decide) (fun {fuel cs x} hl ht => by
    match cs, hl with
    | [c0, c1, c2], _ =>
      obtain ⟨xs, n, rfl, rfl, hcl, hxl, hf⟩ := DataW.trod_struct Tryz.underlying37 ht
      match xs, hxl with
      | [y0, y1, y2], _ =>
      have g0 : DataW.trod enc Tryz.prog w base spare held n 5 [c0] = some y0 := by have := hf 0 _ rfl; rw [show ∀ z : TypeId, z = 5 → Tryz.prog.cellsOf z = 1 from fun z hz => by rw [hz]; exact cellsU] at this; exact this; rfl
      have g1 : DataW.trod enc Tryz.prog w base spare held n 35 [c1] = some y1 := by have := hf 1 _ rfl; rw [show ∀ z : TypeId, z = 35 → Tryz.prog.cellsOf z = 1 from fun z hz => by rw [hz]; exact cellsEntsT] at this; exact this; rfl
      have g2 : DataW.trod enc Tryz.prog w base spare held n 3 [c2] = some y2 := by have := hf 2 _ rfl; rw [show ∀ z : TypeId, z = 3 → Tryz.prog.cellsOf z = 1 from fun z hz => by rw [hz]; exact cellsIntK] at this; exact this; rfl
      obtain ⟨a, h0, _, wa⟩ := DataW.trod_int Tryz.underlying5 g0
      obtain ⟨L, A1, k1, rfl, r1, r2, r3⟩ := trod_ents g1
      obtain ⟨b, h2, _, _⟩ := DataW.trod_int Tryz.underlying3 g2
      simp at h0 h2
      subst h0 h2
      have e1 : IntKind.u8.min = 0 := rfl
      have e2 : IntKind.u8.max = 255 := rfl
      simp [Lit.wf, e1, e2] at wa
      exact ⟨⟨a, L, A1, k1, b⟩, rfl, ⟨wa, r1, r2⟩, r3⟩) hv h
  refine ⟨l, A, cap, e, hl, fun q hq => (ho q hq).1, ?_⟩
  cases l with
  | nil => exact .inl rfl
  | cons a l =>
    obtain ⟨g, o, rfl, hat⟩ := ha (by simp)
    refine .inr ⟨g, o, rfl, trivial, Lib.lt_of_cell (hat 0 a rfl 0 _ rfl), fun i q hi => ?_⟩
    exact ⟨⟨hat i q hi 0 _ rfl, hat i q hi 1 _ rfl, hat i q hi 2 _ rfl⟩, (ho q (List.mem_of_getElem? hi)).2⟩
set_option maxRecDepth 100000 in
theorem open_u16 {r : Reach} {b0 : Nat} {v : Value} {d : DataW H} {p : List MemPlace} (hv : Value.okWide Tryz.prog w r b0 22 v) (h : DataW.Trod enc Tryz.prog w base spare held 22 v d p) : ∃ n : Int, (0 ≤ n ∧ n ≤ 65535) ∧ v = .int .u16 n := by
  obtain ⟨a, e, _, _, wa⟩ := open_int Tryz.underlying22 hv h
  have e1 : IntKind.u16.min = 0 := rfl
  have e2 : IntKind.u16.max = 65535 := rfl
  simp [Lit.wf, e1, e2] at wa
  exact ⟨a, wa, e⟩
set_option maxRecDepth 100000 in
theorem open_nodesT {r : Reach} {b0 : Nat} {v : Value} {d : DataW H} {p : List MemPlace} (hv : Value.okWide Tryz.prog w r b0 53 v) (h : DataW.Trod enc Tryz.prog w base spare held 53 v d p) :
    ∃ (l : List Nd) (A : Option Addr) (cap : Nat), v = .slice A l.length cap ∧ l.length ≤ maxLen ∧ (∀ n ∈ l, OkN n) ∧ RowN w (fun _ => True) A l := by
  obtain ⟨A0, len, cap, rfl⟩ := okWide_slice Tryz.underlying53 hv
  obtain ⟨fuel, hf⟩ := h
  exact trod_nodes hf
set_option maxRecDepth 100000 in
theorem open_entT {r : Reach} {b0 : Nat} {v : Value} {d : DataW H} {p : List MemPlace} (hv : Value.okWide Tryz.prog w r b0 55 v) (h : DataW.Trod enc Tryz.prog w base spare held 55 v d p) :
    ∃ x : En, x.text.length ≤ maxLen ∧ v = .agg #[.int .i64 x.key, .string ⟨x.text.toArray⟩] := by
  obtain ⟨c0, c1, y0, y1, m, rfl, rfl, rfl, hy0, hy1⟩ := Joins.open_agg2 Tryz.underlying55 (by kernel_rfl) cellsEntK hv h
  obtain ⟨a, e1, _, _⟩ := DataW.trod_int Tryz.underlying3 hy0
  obtain ⟨z, e2, _, hzl⟩ := DataW.trod_string Tryz.underlying9 hy1
  simp at e1 e2
  subst e1 e2
  exact ⟨⟨a, z.data.toList⟩, by rw [Array.length_toList]; exact hzl, by simp⟩
end
end Go.Proofs.YtjgadggehpmdkaaGreatDoor
