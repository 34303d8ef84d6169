/- Texts joined: TsM, TsN, TsO, OaL, NfX, OaS. -/
import Derived.Test.YtjgadggehpmdkaaGreatDoorTj25
import Derived.Test.YtjgadggehpmdkaaGreatDoorTj06
import Derived.Deep.Onto
import Derived.Test.YtjgadggehpmdkaaGreatDoorTj15
import Derived.Test.YtjgadggehpmdkaaGreatDoorTj19
import Derived.Test.YtjgadggehpmdkaaGreatDoorTj07
import Derived.Test.YtjgadggehpmdkaaGreatDoorTj05
set_option linter.all false
namespace Go.Proofs.YtjgadggehpmdkaaGreatDoor
open Go.RowKit
theorem putA_err {room : Nat} {s s' : Sh} {l : List Nd} {out : List Int} {c : Nat} (h : putA room s l = (s', out, c)) (hc : c ≠ 0) : out = [] := by
  unfold putA at h
  split at h
  · simp only [Prod.mk.injEq] at h; exact h.2.1.symm
  · split at h
    · simp only [Prod.mk.injEq] at h; exact h.2.1.symm
    · simp only [Prod.mk.injEq] at h; exact absurd h.2.2.symm hc
theorem putA_len {room : Nat} {s s' : Sh} {l : List Nd} {out : List Int} {c : Nat} (h : putA room s l = (s', out, c)) : out.length ≤ l.length := by
  by_cases hc : c = 0
  · have := (put_ok (room := room) (s := s) (l := l) (by rw [h]; exact hc)).1
    rw [h] at this
    exact Nat.le_of_eq this
  · rw [putA_err h hc]; exact Nat.zero_le _
def BldP (w : World) (P : Nat → Prop) (m room : Nat) (r : Sh × Int × Nat) (e : Ending) (w' : World) : Prop :=
  ∃ gN cN gB cB nds bs, e = .returned (.tuple #[.int .i64 r.2.1, .int .i64 (r.2.2 : Int)]) ∧ stOf nds bs = r.1 ∧ RM w' (fun g => P g ∨ w.heap.size ≤ g) m gN cN gB cB room nds bs ∧ ButS P w w'
section
variable {w w' : World} {P : Nat → Prop} {m gN cN gB cB room : Nat} {nds : List Nd} {bs : List Bool}
theorem BldP.same (h : RM w P m gN cN gB cB room nds bs) {w1 : World} (hb : Below w.heap.size w w1) {x : Int} {c : Nat} : BldP w P m room (stOf nds bs, x, c) (.returned (.tuple #[.int .i64 x, .int .i64 (c : Int)])) w1 :=
  ⟨gN, cN, gB, cB, nds, bs, rfl, rfl, (h.below hb).mono fun _ hg => .inl hg, ButS.of_below hb⟩
theorem BldP.from {w1 : World} {r : Sh × Int × Nat} {e : Ending} (hb : Below w.heap.size w w1) (h : BldP w1 P m room r e w') : BldP w P m room r e w' := by
  obtain ⟨gN, cN, gB, cB, nds, bs, he, hs, hr, hbu⟩ := h
  have hz := hb.size
  exact ⟨gN, cN, gB, cB, nds, bs, he, hs, hr.mono fun g hg => hg.imp id (fun h => Nat.le_trans hz h), (ButS.of_below hb).trans hbu⟩
set_option maxHeartbeats 16000000 in
set_option maxRecDepth 10000 in
theorem rbuildE_any (h : RM w P m gN cN gB cB room nds bs) (l : List En) (A : Option Addr) (ca : Nat) {Q : Nat → Prop} (hl : RowE w Q A l) (hll : l.length ≤ 100000) (hlt : ∀ x ∈ l, x.text.length ≤ maxLen) :
    Calls Tryz.prog 32 #[.pointer (some ⟨m, 0, none⟩), .slice A l.length ca] w fun e w' => BldP w P m room (pBldR room (stOf nds bs) l) e w' := by
  have HR := Lib.hid h
  have HL := Lib.hid hl
  have HT := Lib.hid hlt
  have HNo := Lib.hid (fun (x : En) (hx : x ∈ l) hr => bld_no (room := room) (s := stOf nds bs) hx hr)
  have HDu := Lib.hid (fun hr hd => bld_dup (room := room) (s := stOf nds bs) (l := l) hr hd)
  have HYe := Lib.hid (fun hr hd => bld_yes (room := room) (s := stOf nds bs) (l := l) hr hd)
  clear h hl hlt
  generalize pBldR room (stOf nds bs) l = PR at *
  go_enter Tryz.func32, Tryz.ntmps32
  go_wp2_with fail
  go_loopw [6, 7] (fun vi _ wr => ∃ i : Nat, i ≤ l.length ∧ vi = .int .i64 (i : Int) ∧ Hid (∀ x ∈ l.take i, rightE x = true) ∧ Below w.heap.size w wr) (fun vi _ _ => l.length - (RowKit.intOf vi).toNat)
  case atStart => exact ⟨0, Nat.zero_le _, rfl, Lib.hid (by simp), Below.refl _ _⟩
  case round =>
    obtain ⟨i, hi, rfl, HRt, hb⟩ := hrel
    by_cases hlt : i < l.length
    · obtain ⟨x, hx⟩ : ∃ x, l[i]? = some x := ⟨_, List.getElem?_eq_getElem hlt⟩
      obtain ⟨g, o, rfl, _, hgl, hat⟩ := HL.out.at hlt
      obtain ⟨q0, q1⟩ := hat.two hx
      have k0 := keep_cell hb q0
      have k1 := keep_cell hb q1
      have hI : (i : Int) < (l.length : Int) := by omega
      have hJ : (0 : Int) ≤ (i : Int) := by omega
      have hm := List.mem_of_getElem? hx
      have HRi := Lib.hid (fun w' => rright_any x w' (HT.out x hm))
      have HBd := Lib.hid (fun hr => HNo.out x hm hr)
      have HRn := Lib.hid (fun hr : rightE x = true => take_next9 hx HRt.out hr)
      obtain ⟨kx, tx⟩ := x
      clear hat q0 q1 hx hm HRt
      cases hr : rightE ⟨kx, tx⟩ with
      | false =>
        have HE := Lib.hid (HBd.out hr)
        rw [hr] at HRi
        clear hr HBd HRn
        go_wp2_with fail
        refine (HRi.out _).mono ?_; rintro e w2 ⟨rfl, hb2⟩
        have hb3 := hb.trans (hb2.mono hb.size)
        go_wp2_with fail
        go_ret2
        rw [HE.out]
        exact BldP.same HR.out hb3
      | true =>
        have HRn2 := Lib.hid (HRn.out hr)
        rw [hr] at HRi
        clear hr HBd HRn
        go_wp2_with fail
        refine (HRi.out _).mono ?_; rintro e w2 ⟨rfl, hb2⟩
        have hb3 := hb.trans (hb2.mono hb.size)
        clear hb2 k0 k1 HRi
        go_wp2_with fail
        go_roundw
        case rel => exact ⟨i + 1, by omega, by go_num, HRn2, hb3⟩
        case measure => simp [RowKit.intOf]; omega
    · have hii : i = l.length := by omega
      subst hii
      have hr := HRt.out
      rw [List.take_length] at hr
      have HSo := Lib.hid (rsorted_any l A ca wr (HL.out.below hb) hll)
      have HDu2 := Lib.hid (HDu.out hr)
      have HYe2 := Lib.hid (HYe.out hr)
      have HAd := Lib.hid (sort_adj hr)
      have HNt := Lib.hid (fun j x y h1 h2 e => sort_not (l := l) hr (j := j) (x := x) (y := y) h1 h2 e)
      have HOk := Lib.hid (fun hd => sort_ok hr hd)
      have HKy := Lib.hid (sortK_perm (keyIn_of hr))
      have Hb := Lib.hid hb
      clear hr HRt HNo HDu HYe HT HL hb
      generalize sortK l 1024 = S at *
      have hsl : S.length ≤ 100000 := by rw [HKy.out.length_eq]; exact hll
      go_wp2_with fail
      refine HSo.out.mono ?_; rintro e w2 ⟨O3, co3, rfl, hc3, hr3, hb3⟩
      have HR3 := Lib.hid hr3
      have HB3 := Lib.hid (Hb.out.trans (hb3.mono Hb.out.size))
      have HC3 := Lib.hid hc3
      clear hr3 hb3 hc3 HSo Hb
      go_wp2_with fail
      go_loopw [9] (fun vi wr2 => ∃ i : Nat, (i + 1 ≤ S.length ∨ i = 0) ∧ vi = .int .i64 ((i : Int) + 1) ∧ Hid (∀ (j : Nat) (x y : En), j < i → S[j]? = some x → S[j + 1]? = some y → y.key ≠ x.key) ∧ Below w2.heap.size w2 wr2) (fun vi _ => S.length - (RowKit.intOf vi).toNat)
      case atStart => exact ⟨0, .inr rfl, rfl, Lib.hid (fun j x y hj => by omega), Below.refl _ _⟩
      case round =>
        obtain ⟨i, hi, rfl, HN, hb⟩ := hrel
        have Hbw := Lib.hid (HB3.out.trans (hb.mono HB3.out.size))
        by_cases hlt : i + 1 < S.length
        · obtain ⟨x, hx⟩ : ∃ x, S[i]? = some x := ⟨_, List.getElem?_eq_getElem (by omega)⟩
          obtain ⟨y, hy⟩ : ∃ y, S[i + 1]? = some y := ⟨_, List.getElem?_eq_getElem hlt⟩
          obtain ⟨g, o, rfl, _, hgl, hat⟩ := HR3.out.at hlt
          obtain ⟨q0, _⟩ := hat.two hx
          obtain ⟨q1, _⟩ := hat.two hy
          have k0 := keep_cell hb q0
          have k1 := keep_cell hb q1
          have hI : (i : Int) + 1 < (S.length : Int) := by omega
          have hJ : (0 : Int) ≤ (i : Int) + 1 := by omega
          have hK : (0 : Int) ≤ (i : Int) := by omega
          have hL : (i : Int) < (S.length : Int) := by omega
          have hwi : IntKind.i64.wrap (i : Int) = (i : Int) := by rw [IntKind.wrap_i64]; omega
          have HD := Lib.hid (fun e => HDu2.out (HNt.out i x y hx hy e))
          have HNn : Hid (y.key ≠ x.key → ∀ (j : Nat) (a b : En), j < i + 1 → S[j]? = some a → S[j + 1]? = some b → b.key ≠ a.key) := Lib.hid fun e j a b hj ha hb' => by
            by_cases hji : j = i
            · subst hji
              rw [hx] at ha
              rw [hy] at hb'
              rw [← Option.some.inj ha, ← Option.some.inj hb']
              exact e
            · exact HN.out j a b (by omega) ha hb'
          obtain ⟨kx, tx⟩ := x
          obtain ⟨ky, ty⟩ := y
          clear hx hy hat q0 q1
          by_cases e : ky = kx
          · have d1 : (ky == kx) = true := by simpa using e
            have HE := Lib.hid (HD.out e)
            clear e HD HNn
            go_wp2_with fail
            go_region_law (first | fail)
            all_goals
              go_wp2_with fail
              go_ret2
              rw [HE.out]
              exact BldP.same HR.out (by first | exact Hbw.out.drew | exact Hbw.out)
          · have d1 : (ky == kx) = false := by simpa using e
            have HN2 := Lib.hid (HNn.out e)
            clear e HD HNn
            go_wp2_with fail
            go_region_law (first | fail)
            all_goals
              go_wp2_with fail
              go_roundw
              case rel => exact ⟨i + 1, .inl (by omega), by go_num, HN2, by first | exact hb.drew | exact hb⟩
              case measure => simp [RowKit.intOf]; omega
        · have hdis := HAd.out (fun j x y hx hy => HN.out j x y (by have := (List.getElem?_eq_some_iff.1 hy).1; omega) hx hy)
          have HE := Lib.hid (HYe2.out hdis)
          have HOk2 := Lib.hid (HOk.out hdis)
          have hI : ¬ ((i : Int) + 1 < (S.length : Int)) := by omega
          have d1 : decide ((i : Int) + 1 < (S.length : Int)) = false := decide_eq_false hI
          have HNo := Lib.hid (rnodes_any S HOk2.out.keys hsl O3 co3 HC3.out wr _ (HR3.out.below hb))
          clear hdis HDu2 HYe2 HAd HNt HOk HN hI
          go_wp2_with fail
          refine HNo.out.mono ?_; rintro e w3 ⟨O4, co4, rfl, hr4, hb5⟩
          have hb6 := Hbw.out.trans (hb5.mono Hbw.out.size)
          have HB6 := Lib.hid hb6
          have hzz := Hbw.out.size
          have HPu := Lib.hid (rPut_any (HR.out.tight.below hb6) (nodesL S) O4 co4 hr4 (fun g hg e => by have := e.2; omega) (by have := nodesL_len HOk2.out.keys; omega) (fun n hn => by have := (nodesL_fit HOk2.out hsl n hn).1; omega))
          clear hb5 hb6 hr4 HNo
          generalize hns : nodesL S = ns at *
          have HNs := Lib.hid hns
          clear hns
          go_wp2_with fail
          refine HPu.out.mono ?_; rintro e w4 ⟨O5, co5, gN5, cN5, gB5, cB5, nds5, bs5, out, c, rfl, hpa, hro, hrm, hbu⟩
          have hE : PR = (stOf nds5 bs5, out.getLastD 0, if out = [] then c else 0) := by
            rw [HE.out]
            unfold putT
            rw [HNs.out, hpa]
          have HErr := Lib.hid (putA_err hpa)
          have HOl : Hid (out.length ≤ 1000000) := Lib.hid (Nat.le_trans (putA_len hpa) (by rw [← HNs.out]; have := nodesL_len HOk2.out.keys; omega))
          have HE2 := Lib.hid hE
          have hrm2 : RM w4 (fun g => P g ∨ w3.heap.size ≤ g) m gN5 cN5 gB5 cB5 room nds5 bs5 := hrm.mono fun g hg => hg.imp And.left id
          have hbu2 : ButS P w3 w4 := hbu.mono fun g hg => hg.1
          have HRM := Lib.hid hrm2
          have HBu := Lib.hid hbu2
          have HRo := Lib.hid hro
          clear hpa hrm hbu hE hro hrm2 hbu2 HE HPu
          by_cases ho : out = []
          · subst ho
            by_cases hc : c = 0
            · subst hc
              clear HErr
              go_wp2_with fail
              go_ret2
              rw [HE2.out]
              exact BldP.from HB6.out ⟨_, _, _, _, _, _, rfl, rfl, HRM.out, HBu.out⟩
            · have dc : ((c : Int) != 0) = true := by simpa using hc
              clear HErr hc
              go_wp2_with fail
              go_ret2
              rw [HE2.out]
              exact BldP.from HB6.out ⟨_, _, _, _, _, _, rfl, rfl, HRM.out, HBu.out⟩
          · have hc : c = 0 := by
              by_cases hc : c = 0
              · exact hc
              · exact absurd (HErr.out hc) ho
            subst hc
            have hp := List.length_pos_iff.2 ho
            have HE3 : Hid (PR = (stOf nds5 bs5, out.getLastD 0, 0)) := Lib.hid (by rw [HE2.out, if_neg ho])
            obtain ⟨y, hy⟩ : ∃ y, out[out.length - 1]? = some y := ⟨_, List.getElem?_eq_getElem (by omega)⟩
            have hyl : out.getLastD 0 = y := by rw [List.getLastD_eq_getLast?, List.getLast?_eq_getElem?, hy]; rfl
            rw [hyl] at HE3
            obtain ⟨g, o, rfl, _, _, hcc⟩ := HRo.out.at (i := out.length - 1) (by omega)
            have c0 := hcc _ y hy
            have hol : out.length ≤ 1000000 := HOl.out
            obtain ⟨N, hN⟩ : ∃ N, out.length = N + 1 := ⟨out.length - 1, by omega⟩
            rw [hN, show N + 1 - 1 = N by omega] at c0
            have hNl : N ≤ 1000000 := by omega
            rw [hN]
            have dz : (((N + 1 : Nat) : Int) == 0) = false := by rw [beq_eq_false_iff_ne]; omega
            have hwi : IntKind.i64.wrap (N : Int) = (N : Int) := by rw [IntKind.wrap_i64]; omega
            clear hy hyl hcc hN hol ho hp HErr HE2
            go_wp2_with fail
            go_ret2
            rw [HE3.out]
            exact BldP.from HB6.out ⟨_, _, _, _, _, _, rfl, rfl, HRM.out, HBu.out⟩
end
end Go.Proofs.YtjgadggehpmdkaaGreatDoor
namespace Go.Proofs.YtjgadggehpmdkaaGreatDoor
open Go.RowKit
section
variable {w w' : World} {P : Nat → Prop} {m gN cN gB cB room : Nat} {nds : List Nd} {bs : List Bool}
set_option maxHeartbeats 16000000 in
set_option maxRecDepth 10000 in
theorem rdelE_any (h : RM w P m gN cN gB cB room nds bs) (hi : Inv room (stOf nds bs)) (hft : FitT (stOf nds bs)) (r k : Int) :
    Calls Tryz.prog 29 #[.pointer (some ⟨m, 0, none⟩), .int .i64 r, .int .i64 k] w fun e w' => BldP w P m room (pDelR room (stOf nds bs) r k) e w' := by
  have HHa := Lib.hid (rhasE_any h hi hft r)
  have HSm := Lib.hid (fun (w1 : World) (hb : Below w.heap.size w w1) (x : Int) (c : Nat) => BldP.same h hb (x := x) (c := c))
  have HBu := Lib.hid (fun (w1 : World) (hb : Below w.heap.size w w1) (l : List En) (A : Option Addr) (ca : Nat) (Q : Nat → Prop) (hl : RowE w1 Q A l) (hll : l.length ≤ 100000) (hlt : ∀ x ∈ l, x.text.length ≤ maxLen) => (rbuildE_any (h.below hb) l A ca hl hll hlt).mono fun e w2 hq => BldP.from hb hq)
  have HNo := Lib.hid (fun e => pDelR_none (room := room) (s := stOf nds bs) (h := r) (k := k) e)
  have HKn := Lib.hid (fun e => pDelR_no (room := room) (s := stOf nds bs) (h := r) (k := k) e)
  have HLa := Lib.hid (fun (l : List En) e hk hg => pDelR_lack (room := room) (s := stOf nds bs) (h := r) (k := k) (l := l) e hk hg)
  have HYe := Lib.hid (fun (l : List En) (v : List UInt8) e hk hg => del_bld (room := room) (s := stOf nds bs) (h := r) (k := k) (l := l) (v := v) e hk hg)
  have HIs := Lib.hid (fun (l : List En) e => hasT_is (s := stOf nds bs) (h := r) (l := l) e)
  clear h hi hft
  generalize hPR : pDelR room (stOf nds bs) r k = PR at *
  clear hPR
  cases hh : hasT (stOf nds bs) r with
  | none =>
    rw [hh] at HHa
    have HE := Lib.hid (HNo.out hh)
    clear hh HNo HKn HLa HYe HBu HIs
    go_enter Tryz.func29, Tryz.ntmps29
    go_wp2_with fail
    refine HHa.out.mono ?_; rintro e w1 ⟨O2, co2, rfl, hc2, hr2, hb1⟩
    go_wp2_with fail
    go_ret2
    rw [HE.out]
    exact HSm.out _ hb1 _ _
  | some l =>
    rw [hh] at HHa
    have HIs2 := Lib.hid (HIs.out l hh)
    have HLa2 := Lib.hid (HLa.out l hh)
    have HYe2 := Lib.hid (fun v => HYe.out l v hh)
    have hll := okL_len HIs2.out.1
    clear hh HNo HLa HYe HIs
    by_cases hk : 0 ≤ k ∧ k ≤ 1023
    · have hk0 : 0 ≤ k := hk.1
      have hk1 : k ≤ 1023 := hk.2
      have HLa3 := Lib.hid (HLa2.out hk)
      have HYe3 := Lib.hid (fun v => HYe2.out v hk)
      clear HLa2 HYe2 HKn hk
      go_enter Tryz.func29, Tryz.ntmps29
      go_wp2_with fail
      refine HHa.out.mono ?_; rintro e w1 ⟨O2, co2, rfl, hc2, hr2, hb1⟩
      simp only [Option.getD_some, Option.isSome_some] at hc2 hr2 ⊢
      have HG := Lib.hid (rgetE_any l O2 co2 w1 hr2 (by omega) k)
      have HW := Lib.hid (rwithout_any l O2 co2 w1 hr2 (by omega) k)
      have HB1 := Lib.hid hb1
      clear hc2 hr2 hb1 HHa
      cases hg : getL l k with
      | none =>
        have HE := Lib.hid (HLa3.out hg)
        rw [hg] at HG
        clear hg HLa3 HYe3
        go_wp2_with fail
        refine HG.out.mono ?_; rintro e w2 ⟨rfl, rfl⟩
        go_wp2_with fail
        go_ret2
        rw [HE.out]
        exact HSm.out _ HB1.out _ _
      | some v =>
        have HE := Lib.hid (HYe3.out v hg)
        rw [hg] at HG
        clear hg HLa3 HYe3
        have hdl : (dropK l k).length ≤ l.length := List.length_filter_le _ _
        have HDl := Lib.hid hdl
        have HDt : Hid (∀ x ∈ dropK l k, x.text.length ≤ maxLen) := Lib.hid fun x hx => by have := (right_iffE.1 (drop_right HIs2.out.1 k x hx)).2.2.2; unfold maxLen; omega
        clear hdl
        generalize dropK l k = D at *
        go_wp2_with fail
        refine HG.out.mono ?_; rintro e w2 ⟨rfl, rfl⟩
        go_wp2_with fail
        refine HW.out.mono ?_; rintro e w3 ⟨O3, co3, rfl, ho3, hb3⟩
        obtain ⟨A3, c3, hv3, _, hr3⟩ := own_rowE ho3
        obtain ⟨rfl, rfl⟩ : O3 = A3 ∧ co3 = c3 := by injection hv3 with a b c; exact ⟨a, c⟩
        have HB3 := Lib.hid (HB1.out.trans (hb3.mono HB1.out.size))
        have HBc := Lib.hid (HBu.out w3 HB3.out D O3 co3 _ hr3 (by have := HDl.out; omega) HDt.out)
        have hE := HE.out
        rw [← hE] at HBc
        clear ho3 hb3 hr3 hv3 HW HG hE HBu
        go_wp2_with fail
        refine HBc.out.mono ?_; rintro e w4 ⟨gN4, cN4, gB4, cB4, nds4, bs4, rfl, hs4, hrm4, hbu4⟩
        have H4 : Hid (BldP w P m room PR (.returned (.tuple #[.int .i64 PR.2.1, .int .i64 (PR.2.2 : Int)])) w4) := Lib.hid ⟨gN4, cN4, gB4, cB4, nds4, bs4, rfl, hs4, hrm4, hbu4⟩
        clear hs4 hrm4 hbu4 HE HBc
        go_wp2_with fail
        go_ret2
        exact H4.out
    · have HE := Lib.hid (HKn.out hk)
      have hkd : decide (k < 0) = true ∨ (decide (k < 0) = false ∧ decide ((1023 : Int) < k) = true) := by
        by_cases h0 : k < 0
        · exact .inl (decide_eq_true h0)
        · exact .inr ⟨decide_eq_false h0, decide_eq_true (by omega)⟩
      clear HLa2 HYe2 HKn hk HBu
      rcases hkd with d0 | ⟨d0, d1⟩
      all_goals
        go_enter Tryz.func29, Tryz.ntmps29
        go_wp2_with fail
        refine HHa.out.mono ?_; rintro e w1 ⟨O2, co2, rfl, hc2, hr2, hb1⟩
        go_wp2_with fail
        go_ret2
        rw [HE.out]
        exact HSm.out _ hb1 _ _
end
end Go.Proofs.YtjgadggehpmdkaaGreatDoor
namespace Go.Proofs.YtjgadggehpmdkaaGreatDoor
open Go.RowKit
section
variable {w w' : World} {P : Nat → Prop} {m gN cN gB cB room : Nat} {nds : List Nd} {bs : List Bool}
theorem OwnR.lower {α : Type} {E : TypeId} {n : Nat} {f : α → List Value} {b b' : Nat} {v : Value} {L : List α} (h : OwnR E n f b w v L) (hb : b' ≤ b) : OwnR E n f b' w v L := World.ownsRow.mono h hb
set_option maxHeartbeats 16000000 in
set_option maxRecDepth 10000 in
theorem rputE_any (h : RM w P m gN cN gB cB room nds bs) (hi : Inv room (stOf nds bs)) (hft : FitT (stOf nds bs)) (r : Int) (x : En) (hxl : x.text.length ≤ maxLen) :
    Calls Tryz.prog 27 #[.pointer (some ⟨m, 0, none⟩), .int .i64 r, .agg #[.int .i64 x.key, .string ⟨x.text.toArray⟩]] w fun e w' => BldP w P m room (pPutR room (stOf nds bs) r x) e w' := by
  obtain ⟨i0, hi0, hz0, hz1, hz2⟩ := info_parts rent_info
  have hbX : Below w.heap.size w (w.alloc (.cells #[.int .i64 x.key, .string ⟨x.text.toArray⟩] 68)) := (Below.refl _ _).alloc (Nat.le_refl _) _
  have HbX := Lib.hid hbX
  have HHa := Lib.hid (rhasE_any (h.below hbX) hi hft r)
  have HSm := Lib.hid (fun (w1 : World) (hb : Below w.heap.size w w1) (x : Int) (c : Nat) => BldP.same h hb (x := x) (c := c))
  have HBu := Lib.hid (fun (w1 : World) (hb : Below w.heap.size w w1) (l : List En) (A : Option Addr) (ca : Nat) (Q : Nat → Prop) (hl : RowE w1 Q A l) (hll : l.length ≤ 100000) (hlt : ∀ x ∈ l, x.text.length ≤ maxLen) => (rbuildE_any (h.below hb) l A ca hl hll hlt).mono fun e w2 hq => BldP.from hb hq)
  have HNo := Lib.hid (fun e => pPutR_none (room := room) (s := stOf nds bs) (h := r) (x := x) e)
  have HKn := Lib.hid (fun e => pPutR_no (room := room) (s := stOf nds bs) (h := r) (x := x) e)
  have HYe := Lib.hid (fun (l : List En) e hr => put_bld (room := room) (s := stOf nds bs) (h := r) (x := x) (l := l) e hr)
  have HIs := Lib.hid (fun (l : List En) e => hasT_is (s := stOf nds bs) (h := r) (l := l) e)
  have HRi := Lib.hid (fun w' => rright_any x w' hxl)
  have hzX : (w.alloc (.cells #[.int .i64 x.key, .string ⟨x.text.toArray⟩] 68)).heap.size = w.heap.size + 1 := by simp
  have HzX := Lib.hid hzX
  have hblk := heap_alloc_new w (.cells #[.int .i64 x.key, .string ⟨x.text.toArray⟩] 68)
  have HBk := Lib.hid hblk
  clear h hi hft hbX hzX hblk
  generalize hPR : pPutR room (stOf nds bs) r x = PR at *
  clear hPR
  have HIf := Lib.hid (fun hr : rightE x = true => (right_iffE.1 hr))
  have HMr := Lib.hid (fun (l : List En) (h : OkL l) (hx : rightE x = true) => more_right h hx)
  obtain ⟨kx, tx⟩ := x
  cases hh : hasT (stOf nds bs) r with
  | none =>
    rw [hh] at HHa
    have HE := Lib.hid (HNo.out hh)
    clear hh HNo HKn HYe HBu HIs
    generalize rightE ⟨kx, tx⟩ = bR at *
    go_enter Tryz.func27, Tryz.ntmps27
    go_wp2_with fail
    refine HHa.out.mono ?_; rintro e w1 ⟨O2, co2, rfl, hc2, hr2, hb1⟩
    have c0 := keep_cell hb1 (Lib.cell_of_heap HBk.out 0)
    have c1 := keep_cell hb1 (Lib.cell_of_heap HBk.out 1)
    have HB1 := Lib.hid (HbX.out.trans (hb1.mono HbX.out.size))
    clear hc2 hr2 hb1 HHa
    go_wp2_with fail
    refine (HRi.out _).mono ?_; rintro e w2 ⟨rfl, hb2⟩
    have hb3 := HB1.out.trans (hb2.mono HB1.out.size)
    go_wp2_with fail
    go_ret2
    rw [HE.out]
    exact HSm.out _ hb3 _ _
  | some l =>
    rw [hh] at HHa
    have HIs2 := Lib.hid (HIs.out l hh)
    have HYe2 := Lib.hid (HYe.out l hh)
    have hll := okL_len HIs2.out.1
    clear hh HNo HYe HIs
    cases hr : rightE ⟨kx, tx⟩ with
    | false =>
      have HE := Lib.hid (HKn.out (by rw [hr]; decide))
      rw [hr] at HRi
      clear hr HKn HYe2 HBu HIf HMr
      go_enter Tryz.func27, Tryz.ntmps27
      go_wp2_with fail
      refine HHa.out.mono ?_; rintro e w1 ⟨O2, co2, rfl, hc2, hr2, hb1⟩
      have c0 := keep_cell hb1 (Lib.cell_of_heap HBk.out 0)
      have c1 := keep_cell hb1 (Lib.cell_of_heap HBk.out 1)
      have HB1 := Lib.hid (HbX.out.trans (hb1.mono HbX.out.size))
      clear hc2 hr2 hb1 HHa
      go_wp2_with fail
      refine (HRi.out _).mono ?_; rintro e w2 ⟨rfl, hb2⟩
      have hb3 := HB1.out.trans (hb2.mono HB1.out.size)
      go_wp2_with fail
      go_ret2
      rw [HE.out]
      exact HSm.out _ hb3 _ _
    | true =>
      have HE := Lib.hid (HYe2.out hr)
      have HMt : Hid (∀ y ∈ dropK l kx ++ [(⟨kx, tx⟩ : En)], y.text.length ≤ maxLen) := Lib.hid fun y hy => by have := (right_iffE.1 (HMr.out l HIs2.out.1 hr y hy)).2.2.2; unfold maxLen; omega
      rw [hr] at HRi
      clear hr HKn HYe2 HIf HMr
      go_enter Tryz.func27, Tryz.ntmps27
      go_wp2_with fail
      refine HHa.out.mono ?_; rintro e w1 ⟨O2, co2, rfl, hc2, hr2, hb1⟩
      simp only [Option.getD_some, Option.isSome_some] at hc2 hr2 ⊢
      have c0 := keep_cell hb1 (Lib.cell_of_heap HBk.out 0)
      have c1 := keep_cell hb1 (Lib.cell_of_heap HBk.out 1)
      have HB1 := Lib.hid (HbX.out.trans (hb1.mono HbX.out.size))
      have HR1 := Lib.hid hr2
      clear hc2 hr2 hb1 HHa
      go_wp2_with fail
      refine (HRi.out _).mono ?_; rintro e w2 ⟨rfl, hb2⟩
      have d0 := keep_cell hb2 c0
      have d1 := keep_cell hb2 c1
      have HB2 := Lib.hid (HB1.out.trans (hb2.mono HB1.out.size))
      have HR2 := Lib.hid (HR1.out.below hb2)
      have hW0 := (fun (w' : World) (hb : Below w2.heap.size w2 w') => rwithout_any l O2 co2 w' (HR2.out.below hb) (by omega) kx)
      have hdl : (dropK l kx).length ≤ l.length := List.length_filter_le _ _
      have hE := HE.out
      clear c0 c1 hb2 HRi HR1 HE
      obtain ⟨N, hN⟩ : ∃ N, (dropK l kx).length = N := ⟨_, rfl⟩
      have HN := Lib.hid hN
      rw [hN] at hdl hW0
      have HW := Lib.hid hW0
      clear hW0
      have hNa : (dropK l kx ++ [(⟨kx, tx⟩ : En)]).length = N + 1 := by rw [List.length_append, hN]; rfl
      have HNa := Lib.hid hNa
      have HZ := Lib.hid (fun (z : Nat) (W : World) (hz : W.heap.size = z) => one_rowE W z hz ⟨kx, tx⟩)
      have HBv : Hid (∀ (w' : World) (hb : Below w2.heap.size w2 w') (A : Option Addr) (ca : Nat) (Q : Nat → Prop) (hl : RowE w' Q A (dropK l kx ++ [(⟨kx, tx⟩ : En)])), Calls Tryz.prog 32 #[.pointer (some ⟨m, 0, none⟩), .slice A (N + 1) ca] w' fun e w'' => BldP w P m room PR e w'') := Lib.hid fun w' hb A ca Q hl => by
        have := HBu.out w' (HB2.out.trans (hb.mono HB2.out.size)) _ A ca Q hl (by rw [hNa]; omega) HMt.out
        rw [hE, ← hNa]
        exact this
      clear hE hN hNa HBu HMt
      generalize dropK l kx = D at *
      have z2 := Lib.lt_of_cell d0
      have hzz : w2.heap.size ≤ w2.heap.size := Nat.le_refl _
      go_wp2_with fail
      go_region_law (first
        | (go_simp; go_at_call 49
           refine Calls.mono (HW.out _ (by with_reducible repeat' (first | exact Below.refl _ _ | exact Nat.le_refl _ | refine Below.drew ?_ | refine Below.alloc ?_ ?_ _ | refine nl_al ?_ | refine nl_d ?_))) ?_; rintro e w5 ⟨O5, c5, rfl, ho5, hb5⟩
           have hb52 : Below w2.heap.size w2 w5 := Below.trans (by with_reducible repeat' (first | exact Below.refl _ _ | exact Nat.le_refl _ | refine Below.drew ?_ | refine Below.alloc ?_ ?_ _ | refine nl_al ?_ | refine nl_d ?_)) (hb5.mono (by with_reducible repeat' (first | exact Below.refl _ _ | exact Nat.le_refl _ | refine Below.drew ?_ | refine Below.alloc ?_ ?_ _ | refine nl_al ?_ | refine nl_d ?_)))
           have hs52 := hb52.size
           have HO5 := Lib.hid (OwnR.lower ho5 (b' := w2.heap.size) (by with_reducible repeat' (first | exact Below.refl _ _ | exact Nat.le_refl _ | refine Below.drew ?_ | refine Below.alloc ?_ ?_ _ | refine nl_al ?_ | refine nl_d ?_)))
           have p0 := keep_cell hb52 d0
           have p1 := keep_cell hb52 d1
           have z5 := Lib.lt_of_cell p0
           try (have hrw : AtR enW 2 w5 w2.heap.size 0 [(⟨kx, tx⟩ : En)] := fun i q hi j u hj => keep_cell hb5 (HZ.out w2.heap.size w2 rfl i q hi j u hj))
           clear ho5 hb5)
        | (refine step_append_rows (f := enW) (n := 2) (E := 68) (nb := 24) (X := D) (base := w2.heap.size) (by rfl) _ _ (by rfl) (by rfl) (OwnR.below HO5.out (by with_reducible repeat' (first | exact Below.refl _ _ | exact Nat.le_refl _ | refine Below.drew ?_ | refine Below.alloc ?_ ?_ _ | refine nl_al ?_ | refine nl_d ?_))) (L2 := [(⟨kx, tx⟩ : En)]) (by rfl) (by first | exact HZ.out _ _ rfl | exact hrw) (by simp) (N := N + 1) (by rw [HN.out]; rfl) (Z := D ++ [(⟨kx, tx⟩ : En)]) (by rfl) Tryz.underlying39 hi0 hz0 hz1 hz2 rfl (by decide) (by decide) (fun _ => rfl) enW_one (by omega) (by with_reducible repeat' (first | exact Below.refl _ _ | exact Nat.le_refl _ | exact hb52 | exact hs52 | refine Below.drew ?_ | refine Below.alloc ?_ ?_ _ | refine nl_al ?_ | refine nl_d ?_)) ?_; intro g4 k4 w4 ho4 hg4 hat4 hl4
           have hb4 : Below w2.heap.size w2 w4 := Below.grown (by with_reducible repeat' (first | exact Below.refl _ _ | exact Nat.le_refl _ | exact hb52 | exact hs52 | refine Below.drew ?_ | refine Below.alloc ?_ ?_ _ | refine nl_al ?_ | refine nl_d ?_)) hg4 (by with_reducible repeat' (first | exact Below.refl _ _ | exact Nat.le_refl _ | exact hb52 | exact hs52 | refine Below.drew ?_ | refine Below.alloc ?_ ?_ _ | refine nl_al ?_ | refine nl_d ?_)) (fun k hk => (World.ownsRow.lt HO5.out k hk).1)
           obtain ⟨A4, c4, hv4, _, hr4⟩ := own_rowE ho4
           have hv5 : some (⟨g4, 0, none⟩ : Addr) = A4 ∧ k4 = c4 := by injection hv4 with a b c; exact ⟨a, c⟩
           rw [← hv5.1] at hr4
           have HB4 := Lib.hid hb4
           have HR4 := Lib.hid hr4
           clear ho4 hg4 hat4 hl4 hb4 hv4 hv5 hr4)
        | (go_simp; go_at_call 32
           refine Calls.mono (HBv.out _ HB4.out _ _ _ HR4.out) ?_; rintro e w8 ⟨gN8, cN8, gB8, cB8, nds8, bs8, rfl, hs8, hrm8, hbu8⟩
           have H8 : Hid (BldP w P m room PR (.returned (.tuple #[.int .i64 PR.2.1, .int .i64 (PR.2.2 : Int)])) w8) := Lib.hid ⟨gN8, cN8, gB8, cB8, nds8, bs8, rfl, hs8, hrm8, hbu8⟩
           clear hs8 hrm8 hbu8)
        | fail)
      all_goals
        go_wp2_with fail
        go_ret2
        exact H8.out
end
end Go.Proofs.YtjgadggehpmdkaaGreatDoor
namespace Go.Proofs.YtjgadggehpmdkaaGreatDoor
open Go.RowKit Go.Maps
theorem o9Len {w : World} {B a room : Nat} {K : Nat → Prop} {s : Sh} (h : On9 w B a room s K) :
    Calls Tryz.prog 18 #[.pointer (some ⟨a, 0, none⟩)] w fun e w' => e = .returned (.int .i64 ((liveA s).length : Int)) ∧ w' = w := by
  obtain ⟨F, h⟩ := h
  obtain ⟨K, ps, t, A, cS, bK, low, hA, hL, hF, hE, hO, hC, hB, hT⟩ := h.ap
  refine (pLen_any hA).mono fun e w' ⟨he, hw⟩ => ?_
  rw [hE.liveAE] at he
  exact ⟨he, hw⟩
end Go.Proofs.YtjgadggehpmdkaaGreatDoor
namespace Go.Proofs.YtjgadggehpmdkaaGreatDoor
open Go.RowKit Go.Maps
def Swp (t t' : Sh) (S : List Int) (i : Nat) : Prop := t'.length = t.length ∧ ∀ h, ndAt t' h = if h ≤ (i : Int) ∧ h ∉ S then none else ndAt t h
theorem Swp.start (t : Sh) (S : List Int) : Swp t t S 0 := ⟨rfl, fun h => by
  by_cases e : h ≤ ((0 : Nat) : Int) ∧ h ∉ S
  · rw [if_pos e]
    unfold ndAt
    rw [if_neg (by have := e.1; omega)]
  · rw [if_neg e]⟩
theorem Swp.keep {t t' : Sh} {S : List Int} {i : Nat} (h : Swp t t' S i) (hk : ndAt t' ((i : Int) + 1) = none ∨ (i : Int) + 1 ∈ S) : Swp t t' S (i + 1) := ⟨h.1, fun x => by
  by_cases e : x = (i : Int) + 1
  · subst e
    by_cases hm : (i : Int) + 1 ∈ S
    · rw [if_neg (fun e => e.2 hm), h.2, if_neg (fun e => e.2 hm)]
    · rw [if_pos ⟨by omega, hm⟩]
      exact hk.resolve_right hm
  · rw [h.2 x]
    have : (x ≤ (i : Int) ∧ x ∉ S) ↔ (x ≤ ((i + 1 : Nat) : Int) ∧ x ∉ S) := by
      constructor
      · intro ⟨a, b⟩; exact ⟨by omega, b⟩
      · intro ⟨a, b⟩; exact ⟨by omega, b⟩
    simp only [this]⟩
theorem Swp.drop {t t' : Sh} {S : List Int} {i : Nat} (h : Swp t t' S i) (hm : (i : Int) + 1 ∉ S) : Swp t (clr t' i) S (i + 1) := ⟨by unfold clr; rw [List.length_set]; exact h.1, fun x => by
  rw [clr_at]
  by_cases e : x = (i : Int) + 1
  · rw [if_pos e, if_pos ⟨by omega, by rw [e]; exact hm⟩]
  · rw [if_neg e, h.2 x]
    have : (x ≤ (i : Int) ∧ x ∉ S) ↔ (x ≤ ((i + 1 : Nat) : Int) ∧ x ∉ S) := by
      constructor
      · intro ⟨a, b⟩; exact ⟨by omega, b⟩
      · intro ⟨a, b⟩; exact ⟨by omega, b⟩
    simp only [this]⟩
theorem Swp.done {t t' : Sh} {S roots : List Int} (h : Swp t t' S t.length) (hS : ∀ x, x ∈ S ↔ Rch t roots x) : Eqv t' (leftA t roots) := fun x => by
  rw [h.2 x, left_at]
  by_cases hr : Rch t roots x
  · rw [if_pos hr, if_neg fun e => e.2 ((hS x).2 hr)]
  · rw [if_neg hr]
    by_cases hx : x ≤ (t.length : Int)
    · rw [if_pos ⟨hx, fun e => hr ((hS x).1 e)⟩]
    · rw [if_neg fun e => hx e.1]
      cases e : ndAt t x with
      | none => rfl
      | some n => exact absurd (live_bound (live_iff.2 ⟨n, e⟩)).2 hx
theorem sweep_no9 {s : Sh} {roots : List Int} {r : Int} (hm : r ∈ roots) (h0 : r ≠ 0) (hl : live s r = false) : sweepA s roots = (s, 0, 4) := by
  unfold sweepA
  rw [if_neg]
  intro h
  have := List.all_eq_true.1 h r hm
  rw [hl] at this
  simp [h0] at this
def SweepQ (w w' : World) (e : Ending) (K : Nat → Prop) (a room : Nat) (t : Sh) (SA : Option Addr) (cS bK : Nat) (roots : List Int) : Prop :=
  e = .returned (.tuple #[.int .i64 ((sweepA t roots).2.1 : Int), .int .i64 ((sweepA t roots).2.2 : Int)]) ∧ ∃ ps' t' low', AR w' K a room ps' t' t' SA cS bK low' ∧ LowK t' low' ∧ FitT t' ∧ Eqv t' (sweepA t roots).1 ∧ ButS (Chg a bK SA) w w'
section
variable {w : World} {K : Nat → Prop} {a room cS bK low : Nat} {ps : List (Option Nat)} {t : Sh} {SA : Option Addr}
set_option maxHeartbeats 32000000 in
set_option maxRecDepth 10000 in
theorem pSweep_any (h : AR w K a room ps t t SA cS bK low) (hlow : LowK t low) (hft : FitT t) (hI : Inv room t) (roots : List Int) (Q : Nat → Prop) (A : Option Addr) (ca : Nat) (hl : RowI w Q A roots) (hll : roots.length ≤ 1000) (h64 : B64s roots)
    {Bs : Nat} (hE : ∀ w', Below Bs w w' → TabE w') (hBs : Bs ≤ w.heap.size) (hCB : ∀ g, Chg a bK SA g → Bs ≤ g) :
    Calls Tryz.prog 33 #[.pointer (some ⟨a, 0, none⟩), .slice A roots.length ca] w fun e w' => SweepQ w w' e K a room t SA cS bK roots := by
  have HRe := Lib.hid (preached_any h hft hI roots Q A ca hl hll h64)
  have HLv := Lib.hid (fun r hr => plive_any h r hr)
  have hwd := h.wide
  have hln := h.len
  have hlv : (liveA t).length ≤ 65536 := by
    have := liveF_len t 1
    unfold liveA; omega
  have HA := Lib.hid h
  have HLow := Lib.hid hlow
  have HFt := Lib.hid hft
  have HI := Lib.hid hI
  have HL := Lib.hid hl
  have H64 := Lib.hid h64
  have HTE := Lib.hid hE
  have HCB := Lib.hid hCB
  clear h hlow hft hI hl h64 hE hCB
  go_enter Tryz.func33, Tryz.ntmps33
  go_wp2_with fail
  go_loopw [7, 16] (fun _ vi wr => ∃ i : Nat, i ≤ roots.length ∧ vi = .int .i64 (i : Int) ∧ Hid ((roots.take i).all (fun r => decide (r = 0) || live t r) = true) ∧ w = wr) (fun _ vi _ => roots.length - (RowKit.intOf vi).toNat)
  case atStart => exact ⟨0, Nat.zero_le _, rfl, Lib.hid (by rw [List.take_zero]; rfl), rfl⟩
  case round =>
    obtain ⟨i, hi, rfl, HT, rfl⟩ := hrel
    by_cases hlt : i < roots.length
    · obtain ⟨g, o, rfl, _, _, hc⟩ := HL.out.at hlt
      obtain ⟨r, hr⟩ : ∃ r, roots[i]? = some r := ⟨_, List.getElem?_eq_getElem hlt⟩
      have q0 := hc i r hr
      have hrm := List.mem_of_getElem? hr
      have hr64 := H64.out r hrm
      have HH := Lib.hid (HLv.out r hr64)
      have HY := Lib.hid (fun h => all_next (p := fun r => decide (r = 0) || live t r) hr HT.out h)
      have HN := Lib.hid (fun (h0 : r ≠ 0) h1 => sweep_no9 (s := t) hrm h0 h1)
      clear hc hr hrm
      by_cases h0 : r = 0
      · subst h0
        have HY2 := Lib.hid (HY.out (by simp))
        clear HY HN HH
        go_wp2_with fail
        go_roundw
        case rel => exact ⟨i + 1, by omega, by go_num, HY2, trivial⟩
        case measure => simp [RowKit.intOf]; omega
      · have d0 : (r != 0) = true := by simpa using h0
        cases hv : live t r with
        | true =>
          have HY2 := Lib.hid (HY.out (by rw [hv]; simp))
          rw [hv] at HH
          clear HY HN
          go_wp2_with fail
          refine HH.out.mono ?_; rintro e w2 ⟨rfl, rfl⟩
          go_wp2_with fail
          go_roundw
          case rel => exact ⟨i + 1, by omega, by go_num, HY2, trivial⟩
          case measure => simp [RowKit.intOf]; omega
        | false =>
          have HN2 := Lib.hid (HN.out h0 hv)
          rw [hv] at HH
          clear HY HN
          go_wp2_with fail
          refine HH.out.mono ?_; rintro e w2 ⟨rfl, rfl⟩
          go_wp2_with fail
          go_ret2
          unfold SweepQ
          rw [HN2.out]
          exact ⟨rfl, ps, t, low, HA.out, HLow.out, HFt.out, Eqv.refl _, ButS.refl _ _⟩
    · have hii : i = roots.length := by omega
      subst hii
      have HT2 : Hid (sweepA t roots = (leftA t roots, (liveA t).length - (reachA t roots).length, 0)) := Lib.hid (sweep_yes (by have := HT.out; rwa [List.take_length] at this))
      have c2 := HA.out.c2
      have hm0 : (Builtin.len_ #[72] 3 #[.map (some bK)]).run Tryz.prog w = .ok (.int .i64 ((liveA t).length : Int)) w := HA.out.map.len 3
      generalize hNL : (liveA t).length = NL at *
      have HNL := Lib.hid hNL
      clear hNL HT
      go_wp2_with fail
      refine HRe.out.mono ?_; rintro e w1 ⟨m, S, rfl, hm, hms, hS, hb1⟩
      have HB1 := Lib.hid hb1
      have HS := Lib.hid hS
      have HMs := Lib.hid hms
      have hA1 := HA.out.below hb1
      have HA1 := Lib.hid hA1
      have c1 := hA1.c1
      have hmS : ∀ g, Chg a bK SA g → g ≠ m := fun g hg e => by have := (HA.out.chg hg).2; omega
      have HmS := Lib.hid hmS
      have hb1z := hb1.size
      clear hb1 hS hms hA1 hmS HRe hm0 c2
      go_wp2_with fail
      clear c1
      go_loopw [10, 11, 42] (fun _ _ vi wr => ∃ (i : Nat) (ps' : List (Option Nat)) (t' : Sh) (low' : Nat), i ≤ t.length ∧ vi = .int .i64 (i : Int) ∧ Hid (AR wr K a room ps' t' t' SA cS bK low') ∧ Hid (LowK t' low') ∧ Hid (FitT t') ∧ Hid (Swp t t' S i) ∧ Hid (MapS wr m S) ∧ Hid (ButS (Chg a bK SA) w wr)) (fun _ _ vi _ => t.length - (RowKit.intOf vi).toNat)
      case atStart => exact ⟨0, ps, t, low, Nat.zero_le _, rfl, HA1, HLow, HFt, Lib.hid (Swp.start t S), HMs, Lib.hid (ButS.of_below HB1.out)⟩
      case round =>
        obtain ⟨i, ps', t', low', hi, rfl, HA2, HL2, HF2, HW2, HM2, HB2⟩ := hrel
        by_cases hlt : i < t.length
        · have hlt' : i < t'.length := by rw [HW2.out.1]; exact hlt
          obtain ⟨gS, q, hAS, _, hq, q0, _⟩ := HA2.out.slot hlt'
          subst hAS
          have hlk := HM2.out.look (x := (i : Int) + 1) (by omega)
          have hwi : IntKind.i64.wrap ((i : Int) + 1) = (i : Int) + 1 := by rw [IntKind.wrap_i64]; omega
          cases hti : t'[i]? with
          | none => rw [List.getElem?_eq_none_iff] at hti; omega
          | some o =>
            cases o with
            | none =>
              have hq1 := HA2.out.at0 i hti
              rw [hq] at hq1
              cases hq1
              change wr.cell? ⟨gS, i, none⟩ = some (.pointer none) at q0
              have HW3 := Lib.hid (HW2.out.keep (.inl (by rw [ndAt_succ, hti]; rfl)))
              clear hq hti hlk hlt'
              go_wp2_with fail
              go_roundw
              case rel => exact ⟨i + 1, ps', t', low', by omega, by go_num, HA2, HL2, HF2, HW3, HM2, HB2⟩
              case measure => simp [RowKit.intOf]; omega
            | some x =>
              obtain ⟨g, hq1, _⟩ := HA2.out.at1 i x hti
              rw [hq] at hq1
              cases hq1
              change wr.cell? ⟨gS, i, none⟩ = some (.pointer (some ⟨g, 0, none⟩)) at q0
              by_cases hin : (i : Int) + 1 ∈ S
              · rw [decide_eq_true hin] at hlk
                have HW3 := Lib.hid (HW2.out.keep (.inr hin))
                clear hq hti hin hlt'
                go_wp2_with fail
                go_roundw
                case rel => exact ⟨i + 1, ps', t', low', by omega, by go_num, HA2, HL2, HF2, HW3, HM2, HB2⟩
                case measure => simp [RowKit.intOf]; omega
              · rw [decide_eq_false hin] at hlk
                have HW3 := Lib.hid (HW2.out.drop hin)
                have HF3 := Lib.hid (fit_clr HF2.out i)
                have hone : ∀ h k n, ndAt t' h = some n → ndAt t' k = some n → h = k := fun h k n e1 e2 => by
                  rw [HW2.out.2 h] at e1
                  rw [HW2.out.2 k] at e2
                  split at e1
                  · cases e1
                  · split at e2
                    · cases e2
                    · exact HI.out.one h k n e1 e2
                have HD := Lib.hid (pdrop_any HA2.out HL2.out HF2.out hone hti (r := (i : Int) + 1) rfl (Bs := Bs) (fun w'' hw => HTE.out w'' ((HB2.out.below (fun k hk hc => by have := HCB.out k hc; omega) hBs).trans hw)) (Nat.le_trans hBs HB2.out.size))
                clear hq hti hin hlt' hone
                go_wp2_with fail
                refine HD.out.mono ?_; rintro e w3 ⟨rfl, hA3, hL3, hb3⟩
                have HA3 := Lib.hid hA3
                have HL3 := Lib.hid hL3
                have HM3 := Lib.hid (HM2.out.block (hb3.block m HM2.out.lt fun hc => HmS.out m hc rfl))
                have HB3 := Lib.hid (HB2.out.trans hb3)
                clear hA3 hL3 hb3 hlk q0
                go_wp2_with fail
                go_roundw
                case rel => exact ⟨i + 1, _, _, _, by omega, by go_num, HA3, HL3, HF3, HW3, HM3, HB3⟩
                case measure => simp [RowKit.intOf]; omega
        · have hii : i = t.length := by omega
          have HW3 : Hid (Swp t t' S t.length) := Lib.hid (by rw [← hii]; exact HW2.out)
          have HEq := Lib.hid (HW3.out.done HS.out)
          have hle := left_len t roots
          rw [HNL.out] at hle
          have hlen : (liveA t').length = (reachA t roots).length := by rw [HEq.out.liveAE]; rfl
          have c2 := HA2.out.c2
          have hm1 : (Builtin.len_ #[72] 3 #[.map (some bK)]).run Tryz.prog wr = .ok (.int .i64 ((reachA t roots).length : Int)) wr := by rw [← hlen]; exact HA2.out.map.len 3
          generalize hRL : (reachA t roots).length = RL at *
          have HRL := Lib.hid hRL
          have hwx : IntKind.i64.wrap ((NL : Int) - (RL : Int)) = (NL : Int) - (RL : Int) := by rw [IntKind.wrap_i64]; omega
          clear hlen hii hRL
          go_wp2_with fail
          go_ret2
          unfold SweepQ
          rw [HT2.out]
          refine ⟨?_, ps', t', low', HA2.out, HL2.out, HF2.out, HEq.out, HB2.out⟩
          rw [show ((NL - RL : Nat) : Int) = (NL : Int) - (RL : Int) by omega]
          rfl
end
end Go.Proofs.YtjgadggehpmdkaaGreatDoor
namespace Go.Proofs.YtjgadggehpmdkaaGreatDoor
open Go.RowKit Go.Maps
theorem a9Sweep {B : Nat} {w : World} {F Q : Nat → Prop} {a room : Nat} {s : Sh} (h : AP9 B w F a room s) (hI : Inv room s) (l : List Int) (Al : Option Addr) (ca : Nat) (hl : RowI w Q Al l) (hll : l.length ≤ 1000) (h64 : B64s l) :
    Calls Tryz.prog 33 #[.pointer (some ⟨a, 0, none⟩), .slice Al l.length ca] w fun e w' => e = .returned (.tuple #[.int .i64 ((sweepA s l).2.1 : Int), .int .i64 ((sweepA s l).2.2 : Int)]) ∧ ∃ F', Aft9 B w F a room (sweepA s l).1 w' F' := by
  obtain ⟨K, ps, t, A, cS, bK, low, hA, hL, hF, hE, hO, hC, hB, hT⟩ := h
  refine (pSweep_any hA hL hF (inv_eqv hI hE hA.len) l Q Al ca hl hll h64 hT hB hC).mono fun e w' h => ?_
  obtain ⟨he, ps', t', low', hA', hL', hF', hE', hb⟩ := h
  obtain ⟨e1, e2⟩ := hE.sweep l
  rw [e2] at he
  have hbl := chg_below (w := w) (K := K) (room := room) (cS := cS) (low := low) (ps := ps) (t := t) (tm := t) hC hB hb
  exact ⟨he, Own K a bK A, ⟨K, ps', t', A, cS, bK, low', hA', hL', hF', hE'.trans e1, fun g hg => hg, hC, Nat.le_trans hB hb.size, hT.on hbl⟩, fun g hg => .inl (hO g hg), hb.mono fun g hg => hO g (.inr hg)⟩
theorem o9Sweep {w : World} {B a room : Nat} {K Q : Nat → Prop} {s : Sh} (h : On9 w B a room s K) (l : List Int) (A : Option Addr) (ca : Nat) (hrow : RowI w Q A l) (hlen : l.length ≤ 1000) (hfit : B64s l) :
    Calls Tryz.prog 33 #[.pointer (some ⟨a, 0, none⟩), .slice A l.length ca] w fun e w' => ∃ K', e = .returned (.tuple #[.int .i64 ((sweepA s l).2.1 : Int), .int .i64 ((sweepA s l).2.2 : Int)]) ∧ Lf9 w B a room (sweepA s l).1 K w' K' := by
  obtain ⟨F, h⟩ := h
  have hI := inv_sweep h.inv l
  refine (a9Sweep h.ap h.inv l A ca hrow hlen hfit).mono fun e w' ⟨hr, F', haf⟩ => ?_
  obtain ⟨h1, h2, h3⟩ := h.op haf hI
  exact ⟨_, hr, ⟨_, h1⟩, fun g hg => .inl hg, h2, h3⟩
end Go.Proofs.YtjgadggehpmdkaaGreatDoor
