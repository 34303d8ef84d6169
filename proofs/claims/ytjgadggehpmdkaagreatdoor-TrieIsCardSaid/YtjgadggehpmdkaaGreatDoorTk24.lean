/- Texts joined: TsM, TsN, TsO, NfX, TrAf, TuA. -/
import Derived.Test.YtjgadggehpmdkaaGreatDoorTk23
import Derived.Test.YtjgadggehpmdkaaGreatDoorTk05
import Derived.Deep.Onto
import Derived.Test.YtjgadggehpmdkaaGreatDoorTk17
import Derived.Test.YtjgadggehpmdkaaGreatDoorTk03
import Derived.Test.YtjgadggehpmdkaaGreatDoorTk04
import Derived.Test.YtjgadggehpmdkaaGreatDoorTk07
import Derived.Test.YtjgadggehpmdkaaGreatDoorTk13
import Derived.Deep.QuietTactic
import Derived.BigQuiet
import Derived.Test.YtjgadggehpmdkaaGreatDoorTk19
import Derived.BigGuard
set_option linter.all false
namespace Go.Proofs.YtjgadggehpmdkaaGreatDoor
open Go.RowKit
theorem putA_err {room : Nat} {s s' : Sh} {l : List Nd} {out : List Int} {c : Nat} (h : putA room s l = (s', out, c)) (hc : c ≠ 0) : out = [] := by
  unfold putA at h
  split at h
  · simp only [Prod.mk.injEq] at h; exact h.2.1.symm
  · split at h
    · simp only [Prod.mk.injEq] at h; exact h.2.1.symm
    · simp only [Prod.mk.injEq] at h; exact absurd h.2.2.symm hc
theorem putA_len {room : Nat} {s s' : Sh} {l : List Nd} {out : List Int} {c : Nat} (h : putA room s l = (s', out, c)) : out.length ≤ l.length := by
  by_cases hc : c = 0
  · have := (put_ok (room := room) (s := s) (l := l) (by rw [h]; exact hc)).1
    rw [h] at this
    exact Nat.le_of_eq this
  · rw [putA_err h hc]; exact Nat.zero_le _
def BldP (w : World) (P : Nat → Prop) (m room : Nat) (r : Sh × Int × Nat) (e : Ending) (w' : World) : Prop :=
  ∃ gN cN gB cB nds bs, e = .returned (.tuple #[.int .i64 r.2.1, .int .i64 (r.2.2 : Int)]) ∧ stOf nds bs = r.1 ∧ RM w' (fun g => P g ∨ w.heap.size ≤ g) m gN cN gB cB room nds bs ∧ ButS P w w'
section
variable {w w' : World} {P : Nat → Prop} {m gN cN gB cB room : Nat} {nds : List Nd} {bs : List Bool}
theorem BldP.same (h : RM w P m gN cN gB cB room nds bs) {w1 : World} (hb : Below w.heap.size w w1) {x : Int} {c : Nat} : BldP w P m room (stOf nds bs, x, c) (.returned (.tuple #[.int .i64 x, .int .i64 (c : Int)])) w1 :=
  ⟨gN, cN, gB, cB, nds, bs, rfl, rfl, (h.below hb).mono fun _ hg => .inl hg, ButS.of_below hb⟩
theorem BldP.from {w1 : World} {r : Sh × Int × Nat} {e : Ending} (hb : Below w.heap.size w w1) (h : BldP w1 P m room r e w') : BldP w P m room r e w' := by
  obtain ⟨gN, cN, gB, cB, nds, bs, he, hs, hr, hbu⟩ := h
  have hz := hb.size
  exact ⟨gN, cN, gB, cB, nds, bs, he, hs, hr.mono fun g hg => hg.imp id (fun h => Nat.le_trans hz h), (ButS.of_below hb).trans hbu⟩
set_option maxHeartbeats 16000000 in
set_option maxRecDepth 10000 in
theorem rbuildE_any (h : RM w P m gN cN gB cB room nds bs) (l : List En) (A : Option Addr) (ca : Nat) {Q : Nat → Prop} (hl : RowE w Q A l) (hll : l.length ≤ 100000) (hlt : ∀ x ∈ l, x.text.length ≤ maxLen) :
    Calls Tryz.prog 32 #[.pointer (some ⟨m, 0, none⟩), .slice A l.length ca] w fun e w' => BldP w P m room (pBldR room (stOf nds bs) l) e w' := by
  have HR := Lib.hid h
  have HL := Lib.hid hl
  have HT := Lib.hid hlt
  have HNo := Lib.hid (fun (x : En) (hx : x ∈ l) hr => bld_no (room := room) (s := stOf nds bs) hx hr)
  have HDu := Lib.hid (fun hr hd => bld_dup (room := room) (s := stOf nds bs) (l := l) hr hd)
  have HYe := Lib.hid (fun hr hd => bld_yes (room := room) (s := stOf nds bs) (l := l) hr hd)
  clear h hl hlt
  generalize pBldR room (stOf nds bs) l = PR at *
  go_enter Tryz.func32, Tryz.ntmps32
  go_wp2_with fail
  go_loopw [6, 7] (fun vi _ wr => ∃ i : Nat, i ≤ l.length ∧ vi = .int .i64 (i : Int) ∧ Hid (∀ x ∈ l.take i, rightE x = true) ∧ Below w.heap.size w wr) (fun vi _ _ => l.length - (RowKit.intOf vi).toNat)
  case atStart => exact ⟨0, Nat.zero_le _, rfl, Lib.hid (by simp), Below.refl _ _⟩
  case round =>
    obtain ⟨i, hi, rfl, HRt, hb⟩ := hrel
    by_cases hlt : i < l.length
    · obtain ⟨x, hx⟩ : ∃ x, l[i]? = some x := ⟨_, List.getElem?_eq_getElem hlt⟩
      obtain ⟨g, o, rfl, _, hgl, hat⟩ := HL.out.at hlt
      obtain ⟨q0, q1⟩ := hat.two hx
      have k0 := keep_cell hb q0
      have k1 := keep_cell hb q1
      have hI : (i : Int) < (l.length : Int) := by omega
      have hJ : (0 : Int) ≤ (i : Int) := by omega
      have hm := List.mem_of_getElem? hx
      have HRi := Lib.hid (fun w' => rright_any x w' (HT.out x hm))
      have HBd := Lib.hid (fun hr => HNo.out x hm hr)
      have HRn := Lib.hid (fun hr : rightE x = true => take_next9 hx HRt.out hr)
      obtain ⟨kx, tx⟩ := x
      clear hat q0 q1 hx hm HRt
      cases hr : rightE ⟨kx, tx⟩ with
      | false =>
        have HE := Lib.hid (HBd.out hr)
        rw [hr] at HRi
        clear hr HBd HRn
        go_wp2_with fail
        refine (HRi.out _).mono ?_; rintro e w2 ⟨rfl, hb2⟩
        have hb3 := hb.trans (hb2.mono hb.size)
        go_wp2_with fail
        go_ret2
        rw [HE.out]
        exact BldP.same HR.out hb3
      | true =>
        have HRn2 := Lib.hid (HRn.out hr)
        rw [hr] at HRi
        clear hr HBd HRn
        go_wp2_with fail
        refine (HRi.out _).mono ?_; rintro e w2 ⟨rfl, hb2⟩
        have hb3 := hb.trans (hb2.mono hb.size)
        clear hb2 k0 k1 HRi
        go_wp2_with fail
        go_roundw
        case rel => exact ⟨i + 1, by omega, by go_num, HRn2, hb3⟩
        case measure => simp [RowKit.intOf]; omega
    · have hii : i = l.length := by omega
      subst hii
      have hr := HRt.out
      rw [List.take_length] at hr
      have HSo := Lib.hid (rsorted_any l A ca wr (HL.out.below hb) hll)
      have HDu2 := Lib.hid (HDu.out hr)
      have HYe2 := Lib.hid (HYe.out hr)
      have HAd := Lib.hid (sort_adj hr)
      have HNt := Lib.hid (fun j x y h1 h2 e => sort_not (l := l) hr (j := j) (x := x) (y := y) h1 h2 e)
      have HOk := Lib.hid (fun hd => sort_ok hr hd)
      have HKy := Lib.hid (sortK_perm (keyIn_of hr))
      have Hb := Lib.hid hb
      clear hr HRt HNo HDu HYe HT HL hb
      generalize sortK l 1024 = S at *
      have hsl : S.length ≤ 100000 := by rw [HKy.out.length_eq]; exact hll
      go_wp2_with fail
      refine HSo.out.mono ?_; rintro e w2 ⟨O3, co3, rfl, hc3, hr3, hb3⟩
      have HR3 := Lib.hid hr3
      have HB3 := Lib.hid (Hb.out.trans (hb3.mono Hb.out.size))
      have HC3 := Lib.hid hc3
      clear hr3 hb3 hc3 HSo Hb
      go_wp2_with fail
      go_loopw [9] (fun vi wr2 => ∃ i : Nat, (i + 1 ≤ S.length ∨ i = 0) ∧ vi = .int .i64 ((i : Int) + 1) ∧ Hid (∀ (j : Nat) (x y : En), j < i → S[j]? = some x → S[j + 1]? = some y → y.key ≠ x.key) ∧ Below w2.heap.size w2 wr2) (fun vi _ => S.length - (RowKit.intOf vi).toNat)
      case atStart => exact ⟨0, .inr rfl, rfl, Lib.hid (fun j x y hj => by omega), Below.refl _ _⟩
      case round =>
        obtain ⟨i, hi, rfl, HN, hb⟩ := hrel
        have Hbw := Lib.hid (HB3.out.trans (hb.mono HB3.out.size))
        by_cases hlt : i + 1 < S.length
        · obtain ⟨x, hx⟩ : ∃ x, S[i]? = some x := ⟨_, List.getElem?_eq_getElem (by omega)⟩
          obtain ⟨y, hy⟩ : ∃ y, S[i + 1]? = some y := ⟨_, List.getElem?_eq_getElem hlt⟩
          obtain ⟨g, o, rfl, _, hgl, hat⟩ := HR3.out.at hlt
          obtain ⟨q0, _⟩ := hat.two hx
          obtain ⟨q1, _⟩ := hat.two hy
          have k0 := keep_cell hb q0
          have k1 := keep_cell hb q1
          have hI : (i : Int) + 1 < (S.length : Int) := by omega
          have hJ : (0 : Int) ≤ (i : Int) + 1 := by omega
          have hK : (0 : Int) ≤ (i : Int) := by omega
          have hL : (i : Int) < (S.length : Int) := by omega
          have hwi : IntKind.i64.wrap (i : Int) = (i : Int) := by rw [IntKind.wrap_i64]; omega
          have HD := Lib.hid (fun e => HDu2.out (HNt.out i x y hx hy e))
          have HNn : Hid (y.key ≠ x.key → ∀ (j : Nat) (a b : En), j < i + 1 → S[j]? = some a → S[j + 1]? = some b → b.key ≠ a.key) := Lib.hid fun e j a b hj ha hb' => by
            by_cases hji : j = i
            · subst hji
              rw [hx] at ha
              rw [hy] at hb'
              rw [← Option.some.inj ha, ← Option.some.inj hb']
              exact e
            · exact HN.out j a b (by omega) ha hb'
          obtain ⟨kx, tx⟩ := x
          obtain ⟨ky, ty⟩ := y
          clear hx hy hat q0 q1
          by_cases e : ky = kx
          · have d1 : (ky == kx) = true := by simpa using e
            have HE := Lib.hid (HD.out e)
            clear e HD HNn
            go_wp2_with fail
            go_region_law (first | fail)
            all_goals
              go_wp2_with fail
              go_ret2
              rw [HE.out]
              exact BldP.same HR.out (by first | exact Hbw.out.drew | exact Hbw.out)
          · have d1 : (ky == kx) = false := by simpa using e
            have HN2 := Lib.hid (HNn.out e)
            clear e HD HNn
            go_wp2_with fail
            go_region_law (first | fail)
            all_goals
              go_wp2_with fail
              go_roundw
              case rel => exact ⟨i + 1, .inl (by omega), by go_num, HN2, by first | exact hb.drew | exact hb⟩
              case measure => simp [RowKit.intOf]; omega
        · have hdis := HAd.out (fun j x y hx hy => HN.out j x y (by have := (List.getElem?_eq_some_iff.1 hy).1; omega) hx hy)
          have HE := Lib.hid (HYe2.out hdis)
          have HOk2 := Lib.hid (HOk.out hdis)
          have hI : ¬ ((i : Int) + 1 < (S.length : Int)) := by omega
          have d1 : decide ((i : Int) + 1 < (S.length : Int)) = false := decide_eq_false hI
          have HNo := Lib.hid (rnodes_any S HOk2.out.keys hsl O3 co3 HC3.out wr _ (HR3.out.below hb))
          clear hdis HDu2 HYe2 HAd HNt HOk HN hI
          go_wp2_with fail
          refine HNo.out.mono ?_; rintro e w3 ⟨O4, co4, rfl, hr4, hb5⟩
          have hb6 := Hbw.out.trans (hb5.mono Hbw.out.size)
          have HB6 := Lib.hid hb6
          have hzz := Hbw.out.size
          have HPu := Lib.hid (rPut_any (HR.out.tight.below hb6) (nodesL S) O4 co4 hr4 (fun g hg e => by have := e.2; omega) (by have := nodesL_len HOk2.out.keys; omega) (fun n hn => by have := (nodesL_fit HOk2.out hsl n hn).1; omega))
          clear hb5 hb6 hr4 HNo
          generalize hns : nodesL S = ns at *
          have HNs := Lib.hid hns
          clear hns
          go_wp2_with fail
          refine HPu.out.mono ?_; rintro e w4 ⟨O5, co5, gN5, cN5, gB5, cB5, nds5, bs5, out, c, rfl, hpa, hro, hrm, hbu⟩
          have hE : PR = (stOf nds5 bs5, out.getLastD 0, if out = [] then c else 0) := by
            rw [HE.out]
            unfold putT
            rw [HNs.out, hpa]
          have HErr := Lib.hid (putA_err hpa)
          have HOl : Hid (out.length ≤ 1000000) := Lib.hid (Nat.le_trans (putA_len hpa) (by rw [← HNs.out]; have := nodesL_len HOk2.out.keys; omega))
          have HE2 := Lib.hid hE
          have hrm2 : RM w4 (fun g => P g ∨ w3.heap.size ≤ g) m gN5 cN5 gB5 cB5 room nds5 bs5 := hrm.mono fun g hg => hg.imp And.left id
          have hbu2 : ButS P w3 w4 := hbu.mono fun g hg => hg.1
          have HRM := Lib.hid hrm2
          have HBu := Lib.hid hbu2
          have HRo := Lib.hid hro
          clear hpa hrm hbu hE hro hrm2 hbu2 HE HPu
          by_cases ho : out = []
          · subst ho
            by_cases hc : c = 0
            · subst hc
              clear HErr
              go_wp2_with fail
              go_ret2
              rw [HE2.out]
              exact BldP.from HB6.out ⟨_, _, _, _, _, _, rfl, rfl, HRM.out, HBu.out⟩
            · have dc : ((c : Int) != 0) = true := by simpa using hc
              clear HErr hc
              go_wp2_with fail
              go_ret2
              rw [HE2.out]
              exact BldP.from HB6.out ⟨_, _, _, _, _, _, rfl, rfl, HRM.out, HBu.out⟩
          · have hc : c = 0 := by
              by_cases hc : c = 0
              · exact hc
              · exact absurd (HErr.out hc) ho
            subst hc
            have hp := List.length_pos_iff.2 ho
            have HE3 : Hid (PR = (stOf nds5 bs5, out.getLastD 0, 0)) := Lib.hid (by rw [HE2.out, if_neg ho])
            obtain ⟨y, hy⟩ : ∃ y, out[out.length - 1]? = some y := ⟨_, List.getElem?_eq_getElem (by omega)⟩
            have hyl : out.getLastD 0 = y := by rw [List.getLastD_eq_getLast?, List.getLast?_eq_getElem?, hy]; rfl
            rw [hyl] at HE3
            obtain ⟨g, o, rfl, _, _, hcc⟩ := HRo.out.at (i := out.length - 1) (by omega)
            have c0 := hcc _ y hy
            have hol : out.length ≤ 1000000 := HOl.out
            obtain ⟨N, hN⟩ : ∃ N, out.length = N + 1 := ⟨out.length - 1, by omega⟩
            rw [hN, show N + 1 - 1 = N by omega] at c0
            have hNl : N ≤ 1000000 := by omega
            rw [hN]
            have dz : (((N + 1 : Nat) : Int) == 0) = false := by rw [beq_eq_false_iff_ne]; omega
            have hwi : IntKind.i64.wrap (N : Int) = (N : Int) := by rw [IntKind.wrap_i64]; omega
            clear hy hyl hcc hN hol ho hp HErr HE2
            go_wp2_with fail
            go_ret2
            rw [HE3.out]
            exact BldP.from HB6.out ⟨_, _, _, _, _, _, rfl, rfl, HRM.out, HBu.out⟩
end
end Go.Proofs.YtjgadggehpmdkaaGreatDoor
namespace Go.Proofs.YtjgadggehpmdkaaGreatDoor
open Go.RowKit
section
variable {w w' : World} {P : Nat → Prop} {m gN cN gB cB room : Nat} {nds : List Nd} {bs : List Bool}
set_option maxHeartbeats 16000000 in
set_option maxRecDepth 10000 in
theorem rdelE_any (h : RM w P m gN cN gB cB room nds bs) (hi : Inv room (stOf nds bs)) (hft : FitT (stOf nds bs)) (r k : Int) :
    Calls Tryz.prog 29 #[.pointer (some ⟨m, 0, none⟩), .int .i64 r, .int .i64 k] w fun e w' => BldP w P m room (pDelR room (stOf nds bs) r k) e w' := by
  have HHa := Lib.hid (rhasE_any h hi hft r)
  have HSm := Lib.hid (fun (w1 : World) (hb : Below w.heap.size w w1) (x : Int) (c : Nat) => BldP.same h hb (x := x) (c := c))
  have HBu := Lib.hid (fun (w1 : World) (hb : Below w.heap.size w w1) (l : List En) (A : Option Addr) (ca : Nat) (Q : Nat → Prop) (hl : RowE w1 Q A l) (hll : l.length ≤ 100000) (hlt : ∀ x ∈ l, x.text.length ≤ maxLen) => (rbuildE_any (h.below hb) l A ca hl hll hlt).mono fun e w2 hq => BldP.from hb hq)
  have HNo := Lib.hid (fun e => pDelR_none (room := room) (s := stOf nds bs) (h := r) (k := k) e)
  have HKn := Lib.hid (fun e => pDelR_no (room := room) (s := stOf nds bs) (h := r) (k := k) e)
  have HLa := Lib.hid (fun (l : List En) e hk hg => pDelR_lack (room := room) (s := stOf nds bs) (h := r) (k := k) (l := l) e hk hg)
  have HYe := Lib.hid (fun (l : List En) (v : List UInt8) e hk hg => del_bld (room := room) (s := stOf nds bs) (h := r) (k := k) (l := l) (v := v) e hk hg)
  have HIs := Lib.hid (fun (l : List En) e => hasT_is (s := stOf nds bs) (h := r) (l := l) e)
  clear h hi hft
  generalize hPR : pDelR room (stOf nds bs) r k = PR at *
  clear hPR
  cases hh : hasT (stOf nds bs) r with
  | none =>
    rw [hh] at HHa
    have HE := Lib.hid (HNo.out hh)
    clear hh HNo HKn HLa HYe HBu HIs
    go_enter Tryz.func29, Tryz.ntmps29
    go_wp2_with fail
    refine HHa.out.mono ?_; rintro e w1 ⟨O2, co2, rfl, hc2, hr2, hb1⟩
    go_wp2_with fail
    go_ret2
    rw [HE.out]
    exact HSm.out _ hb1 _ _
  | some l =>
    rw [hh] at HHa
    have HIs2 := Lib.hid (HIs.out l hh)
    have HLa2 := Lib.hid (HLa.out l hh)
    have HYe2 := Lib.hid (fun v => HYe.out l v hh)
    have hll := okL_len HIs2.out.1
    clear hh HNo HLa HYe HIs
    by_cases hk : 0 ≤ k ∧ k ≤ 1023
    · have hk0 : 0 ≤ k := hk.1
      have hk1 : k ≤ 1023 := hk.2
      have HLa3 := Lib.hid (HLa2.out hk)
      have HYe3 := Lib.hid (fun v => HYe2.out v hk)
      clear HLa2 HYe2 HKn hk
      go_enter Tryz.func29, Tryz.ntmps29
      go_wp2_with fail
      refine HHa.out.mono ?_; rintro e w1 ⟨O2, co2, rfl, hc2, hr2, hb1⟩
      simp only [Option.getD_some, Option.isSome_some] at hc2 hr2 ⊢
      have HG := Lib.hid (rgetE_any l O2 co2 w1 hr2 (by omega) k)
      have HW := Lib.hid (rwithout_any l O2 co2 w1 hr2 (by omega) k)
      have HB1 := Lib.hid hb1
      clear hc2 hr2 hb1 HHa
      cases hg : getL l k with
      | none =>
        have HE := Lib.hid (HLa3.out hg)
        rw [hg] at HG
        clear hg HLa3 HYe3
        go_wp2_with fail
        refine HG.out.mono ?_; rintro e w2 ⟨rfl, rfl⟩
        go_wp2_with fail
        go_ret2
        rw [HE.out]
        exact HSm.out _ HB1.out _ _
      | some v =>
        have HE := Lib.hid (HYe3.out v hg)
        rw [hg] at HG
        clear hg HLa3 HYe3
        have hdl : (dropK l k).length ≤ l.length := List.length_filter_le _ _
        have HDl := Lib.hid hdl
        have HDt : Hid (∀ x ∈ dropK l k, x.text.length ≤ maxLen) := Lib.hid fun x hx => by have := (right_iffE.1 (drop_right HIs2.out.1 k x hx)).2.2.2; unfold maxLen; omega
        clear hdl
        generalize dropK l k = D at *
        go_wp2_with fail
        refine HG.out.mono ?_; rintro e w2 ⟨rfl, rfl⟩
        go_wp2_with fail
        refine HW.out.mono ?_; rintro e w3 ⟨O3, co3, rfl, ho3, hb3⟩
        obtain ⟨A3, c3, hv3, _, hr3⟩ := own_rowE ho3
        obtain ⟨rfl, rfl⟩ : O3 = A3 ∧ co3 = c3 := by injection hv3 with a b c; exact ⟨a, c⟩
        have HB3 := Lib.hid (HB1.out.trans (hb3.mono HB1.out.size))
        have HBc := Lib.hid (HBu.out w3 HB3.out D O3 co3 _ hr3 (by have := HDl.out; omega) HDt.out)
        have hE := HE.out
        rw [← hE] at HBc
        clear ho3 hb3 hr3 hv3 HW HG hE HBu
        go_wp2_with fail
        refine HBc.out.mono ?_; rintro e w4 ⟨gN4, cN4, gB4, cB4, nds4, bs4, rfl, hs4, hrm4, hbu4⟩
        have H4 : Hid (BldP w P m room PR (.returned (.tuple #[.int .i64 PR.2.1, .int .i64 (PR.2.2 : Int)])) w4) := Lib.hid ⟨gN4, cN4, gB4, cB4, nds4, bs4, rfl, hs4, hrm4, hbu4⟩
        clear hs4 hrm4 hbu4 HE HBc
        go_wp2_with fail
        go_ret2
        exact H4.out
    · have HE := Lib.hid (HKn.out hk)
      have hkd : decide (k < 0) = true ∨ (decide (k < 0) = false ∧ decide ((1023 : Int) < k) = true) := by
        by_cases h0 : k < 0
        · exact .inl (decide_eq_true h0)
        · exact .inr ⟨decide_eq_false h0, decide_eq_true (by omega)⟩
      clear HLa2 HYe2 HKn hk HBu
      rcases hkd with d0 | ⟨d0, d1⟩
      all_goals
        go_enter Tryz.func29, Tryz.ntmps29
        go_wp2_with fail
        refine HHa.out.mono ?_; rintro e w1 ⟨O2, co2, rfl, hc2, hr2, hb1⟩
        go_wp2_with fail
        go_ret2
        rw [HE.out]
        exact HSm.out _ hb1 _ _
end
end Go.Proofs.YtjgadggehpmdkaaGreatDoor
namespace Go.Proofs.YtjgadggehpmdkaaGreatDoor
open Go.RowKit
section
variable {w w' : World} {P : Nat → Prop} {m gN cN gB cB room : Nat} {nds : List Nd} {bs : List Bool}
theorem OwnR.lower {α : Type} {E : TypeId} {n : Nat} {f : α → List Value} {b b' : Nat} {v : Value} {L : List α} (h : OwnR E n f b w v L) (hb : b' ≤ b) : OwnR E n f b' w v L := World.ownsRow.mono h hb
set_option maxHeartbeats 16000000 in
set_option maxRecDepth 10000 in
theorem rputE_any (h : RM w P m gN cN gB cB room nds bs) (hi : Inv room (stOf nds bs)) (hft : FitT (stOf nds bs)) (r : Int) (x : En) (hxl : x.text.length ≤ maxLen) :
    Calls Tryz.prog 27 #[.pointer (some ⟨m, 0, none⟩), .int .i64 r, .agg #[.int .i64 x.key, .string ⟨x.text.toArray⟩]] w fun e w' => BldP w P m room (pPutR room (stOf nds bs) r x) e w' := by
  obtain ⟨i0, hi0, hz0, hz1, hz2⟩ := info_parts rent_info
  have hbX : Below w.heap.size w (w.alloc (.cells #[.int .i64 x.key, .string ⟨x.text.toArray⟩] 68)) := (Below.refl _ _).alloc (Nat.le_refl _) _
  have HbX := Lib.hid hbX
  have HHa := Lib.hid (rhasE_any (h.below hbX) hi hft r)
  have HSm := Lib.hid (fun (w1 : World) (hb : Below w.heap.size w w1) (x : Int) (c : Nat) => BldP.same h hb (x := x) (c := c))
  have HBu := Lib.hid (fun (w1 : World) (hb : Below w.heap.size w w1) (l : List En) (A : Option Addr) (ca : Nat) (Q : Nat → Prop) (hl : RowE w1 Q A l) (hll : l.length ≤ 100000) (hlt : ∀ x ∈ l, x.text.length ≤ maxLen) => (rbuildE_any (h.below hb) l A ca hl hll hlt).mono fun e w2 hq => BldP.from hb hq)
  have HNo := Lib.hid (fun e => pPutR_none (room := room) (s := stOf nds bs) (h := r) (x := x) e)
  have HKn := Lib.hid (fun e => pPutR_no (room := room) (s := stOf nds bs) (h := r) (x := x) e)
  have HYe := Lib.hid (fun (l : List En) e hr => put_bld (room := room) (s := stOf nds bs) (h := r) (x := x) (l := l) e hr)
  have HIs := Lib.hid (fun (l : List En) e => hasT_is (s := stOf nds bs) (h := r) (l := l) e)
  have HRi := Lib.hid (fun w' => rright_any x w' hxl)
  have hzX : (w.alloc (.cells #[.int .i64 x.key, .string ⟨x.text.toArray⟩] 68)).heap.size = w.heap.size + 1 := by simp
  have HzX := Lib.hid hzX
  have hblk := heap_alloc_new w (.cells #[.int .i64 x.key, .string ⟨x.text.toArray⟩] 68)
  have HBk := Lib.hid hblk
  clear h hi hft hbX hzX hblk
  generalize hPR : pPutR room (stOf nds bs) r x = PR at *
  clear hPR
  have HIf := Lib.hid (fun hr : rightE x = true => (right_iffE.1 hr))
  have HMr := Lib.hid (fun (l : List En) (h : OkL l) (hx : rightE x = true) => more_right h hx)
  obtain ⟨kx, tx⟩ := x
  cases hh : hasT (stOf nds bs) r with
  | none =>
    rw [hh] at HHa
    have HE := Lib.hid (HNo.out hh)
    clear hh HNo HKn HYe HBu HIs
    generalize rightE ⟨kx, tx⟩ = bR at *
    go_enter Tryz.func27, Tryz.ntmps27
    go_wp2_with fail
    refine HHa.out.mono ?_; rintro e w1 ⟨O2, co2, rfl, hc2, hr2, hb1⟩
    have c0 := keep_cell hb1 (Lib.cell_of_heap HBk.out 0)
    have c1 := keep_cell hb1 (Lib.cell_of_heap HBk.out 1)
    have HB1 := Lib.hid (HbX.out.trans (hb1.mono HbX.out.size))
    clear hc2 hr2 hb1 HHa
    go_wp2_with fail
    refine (HRi.out _).mono ?_; rintro e w2 ⟨rfl, hb2⟩
    have hb3 := HB1.out.trans (hb2.mono HB1.out.size)
    go_wp2_with fail
    go_ret2
    rw [HE.out]
    exact HSm.out _ hb3 _ _
  | some l =>
    rw [hh] at HHa
    have HIs2 := Lib.hid (HIs.out l hh)
    have HYe2 := Lib.hid (HYe.out l hh)
    have hll := okL_len HIs2.out.1
    clear hh HNo HYe HIs
    cases hr : rightE ⟨kx, tx⟩ with
    | false =>
      have HE := Lib.hid (HKn.out (by rw [hr]; decide))
      rw [hr] at HRi
      clear hr HKn HYe2 HBu HIf HMr
      go_enter Tryz.func27, Tryz.ntmps27
      go_wp2_with fail
      refine HHa.out.mono ?_; rintro e w1 ⟨O2, co2, rfl, hc2, hr2, hb1⟩
      have c0 := keep_cell hb1 (Lib.cell_of_heap HBk.out 0)
      have c1 := keep_cell hb1 (Lib.cell_of_heap HBk.out 1)
      have HB1 := Lib.hid (HbX.out.trans (hb1.mono HbX.out.size))
      clear hc2 hr2 hb1 HHa
      go_wp2_with fail
      refine (HRi.out _).mono ?_; rintro e w2 ⟨rfl, hb2⟩
      have hb3 := HB1.out.trans (hb2.mono HB1.out.size)
      go_wp2_with fail
      go_ret2
      rw [HE.out]
      exact HSm.out _ hb3 _ _
    | true =>
      have HE := Lib.hid (HYe2.out hr)
      have HMt : Hid (∀ y ∈ dropK l kx ++ [(⟨kx, tx⟩ : En)], y.text.length ≤ maxLen) := Lib.hid fun y hy => by have := (right_iffE.1 (HMr.out l HIs2.out.1 hr y hy)).2.2.2; unfold maxLen; omega
      rw [hr] at HRi
      clear hr HKn HYe2 HIf HMr
      go_enter Tryz.func27, Tryz.ntmps27
      go_wp2_with fail
      refine HHa.out.mono ?_; rintro e w1 ⟨O2, co2, rfl, hc2, hr2, hb1⟩
      simp only [Option.getD_some, Option.isSome_some] at hc2 hr2 ⊢
      have c0 := keep_cell hb1 (Lib.cell_of_heap HBk.out 0)
      have c1 := keep_cell hb1 (Lib.cell_of_heap HBk.out 1)
      have HB1 := Lib.hid (HbX.out.trans (hb1.mono HbX.out.size))
      have HR1 := Lib.hid hr2
      clear hc2 hr2 hb1 HHa
      go_wp2_with fail
      refine (HRi.out _).mono ?_; rintro e w2 ⟨rfl, hb2⟩
      have d0 := keep_cell hb2 c0
      have d1 := keep_cell hb2 c1
      have HB2 := Lib.hid (HB1.out.trans (hb2.mono HB1.out.size))
      have HR2 := Lib.hid (HR1.out.below hb2)
      have hW0 := (fun (w' : World) (hb : Below w2.heap.size w2 w') => rwithout_any l O2 co2 w' (HR2.out.below hb) (by omega) kx)
      have hdl : (dropK l kx).length ≤ l.length := List.length_filter_le _ _
      have hE := HE.out
      clear c0 c1 hb2 HRi HR1 HE
      obtain ⟨N, hN⟩ : ∃ N, (dropK l kx).length = N := ⟨_, rfl⟩
      have HN := Lib.hid hN
      rw [hN] at hdl hW0
      have HW := Lib.hid hW0
      clear hW0
      have hNa : (dropK l kx ++ [(⟨kx, tx⟩ : En)]).length = N + 1 := by rw [List.length_append, hN]; rfl
      have HNa := Lib.hid hNa
      have HZ := Lib.hid (fun (z : Nat) (W : World) (hz : W.heap.size = z) => one_rowE W z hz ⟨kx, tx⟩)
      have HBv : Hid (∀ (w' : World) (hb : Below w2.heap.size w2 w') (A : Option Addr) (ca : Nat) (Q : Nat → Prop) (hl : RowE w' Q A (dropK l kx ++ [(⟨kx, tx⟩ : En)])), Calls Tryz.prog 32 #[.pointer (some ⟨m, 0, none⟩), .slice A (N + 1) ca] w' fun e w'' => BldP w P m room PR e w'') := Lib.hid fun w' hb A ca Q hl => by
        have := HBu.out w' (HB2.out.trans (hb.mono HB2.out.size)) _ A ca Q hl (by rw [hNa]; omega) HMt.out
        rw [hE, ← hNa]
        exact this
      clear hE hN hNa HBu HMt
      generalize dropK l kx = D at *
      have z2 := Lib.lt_of_cell d0
      have hzz : w2.heap.size ≤ w2.heap.size := Nat.le_refl _
      go_wp2_with fail
      go_region_law (first
        | (go_simp; go_at_call 49
           refine Calls.mono (HW.out _ (by with_reducible repeat' (first | exact Below.refl _ _ | exact Nat.le_refl _ | refine Below.drew ?_ | refine Below.alloc ?_ ?_ _ | refine nl_al ?_ | refine nl_d ?_))) ?_; rintro e w5 ⟨O5, c5, rfl, ho5, hb5⟩
           have hb52 : Below w2.heap.size w2 w5 := Below.trans (by with_reducible repeat' (first | exact Below.refl _ _ | exact Nat.le_refl _ | refine Below.drew ?_ | refine Below.alloc ?_ ?_ _ | refine nl_al ?_ | refine nl_d ?_)) (hb5.mono (by with_reducible repeat' (first | exact Below.refl _ _ | exact Nat.le_refl _ | refine Below.drew ?_ | refine Below.alloc ?_ ?_ _ | refine nl_al ?_ | refine nl_d ?_)))
           have hs52 := hb52.size
           have HO5 := Lib.hid (OwnR.lower ho5 (b' := w2.heap.size) (by with_reducible repeat' (first | exact Below.refl _ _ | exact Nat.le_refl _ | refine Below.drew ?_ | refine Below.alloc ?_ ?_ _ | refine nl_al ?_ | refine nl_d ?_)))
           have p0 := keep_cell hb52 d0
           have p1 := keep_cell hb52 d1
           have z5 := Lib.lt_of_cell p0
           try (have hrw : AtR enW 2 w5 w2.heap.size 0 [(⟨kx, tx⟩ : En)] := fun i q hi j u hj => keep_cell hb5 (HZ.out w2.heap.size w2 rfl i q hi j u hj))
           clear ho5 hb5)
        | (refine step_append_rows (f := enW) (n := 2) (E := 68) (nb := 24) (X := D) (base := w2.heap.size) (by rfl) _ _ (by rfl) (by rfl) (OwnR.below HO5.out (by with_reducible repeat' (first | exact Below.refl _ _ | exact Nat.le_refl _ | refine Below.drew ?_ | refine Below.alloc ?_ ?_ _ | refine nl_al ?_ | refine nl_d ?_))) (L2 := [(⟨kx, tx⟩ : En)]) (by rfl) (by first | exact HZ.out _ _ rfl | exact hrw) (by simp) (N := N + 1) (by rw [HN.out]; rfl) (Z := D ++ [(⟨kx, tx⟩ : En)]) (by rfl) Tryz.underlying39 hi0 hz0 hz1 hz2 rfl (by decide) (by decide) (fun _ => rfl) enW_one (by omega) (by with_reducible repeat' (first | exact Below.refl _ _ | exact Nat.le_refl _ | exact hb52 | exact hs52 | refine Below.drew ?_ | refine Below.alloc ?_ ?_ _ | refine nl_al ?_ | refine nl_d ?_)) ?_; intro g4 k4 w4 ho4 hg4 hat4 hl4
           have hb4 : Below w2.heap.size w2 w4 := Below.grown (by with_reducible repeat' (first | exact Below.refl _ _ | exact Nat.le_refl _ | exact hb52 | exact hs52 | refine Below.drew ?_ | refine Below.alloc ?_ ?_ _ | refine nl_al ?_ | refine nl_d ?_)) hg4 (by with_reducible repeat' (first | exact Below.refl _ _ | exact Nat.le_refl _ | exact hb52 | exact hs52 | refine Below.drew ?_ | refine Below.alloc ?_ ?_ _ | refine nl_al ?_ | refine nl_d ?_)) (fun k hk => (World.ownsRow.lt HO5.out k hk).1)
           obtain ⟨A4, c4, hv4, _, hr4⟩ := own_rowE ho4
           have hv5 : some (⟨g4, 0, none⟩ : Addr) = A4 ∧ k4 = c4 := by injection hv4 with a b c; exact ⟨a, c⟩
           rw [← hv5.1] at hr4
           have HB4 := Lib.hid hb4
           have HR4 := Lib.hid hr4
           clear ho4 hg4 hat4 hl4 hb4 hv4 hv5 hr4)
        | (go_simp; go_at_call 32
           refine Calls.mono (HBv.out _ HB4.out _ _ _ HR4.out) ?_; rintro e w8 ⟨gN8, cN8, gB8, cB8, nds8, bs8, rfl, hs8, hrm8, hbu8⟩
           have H8 : Hid (BldP w P m room PR (.returned (.tuple #[.int .i64 PR.2.1, .int .i64 (PR.2.2 : Int)])) w8) := Lib.hid ⟨gN8, cN8, gB8, cB8, nds8, bs8, rfl, hs8, hrm8, hbu8⟩
           clear hs8 hrm8 hbu8)
        | fail)
      all_goals
        go_wp2_with fail
        go_ret2
        exact H8.out
end
end Go.Proofs.YtjgadggehpmdkaaGreatDoor
namespace Go.Proofs.YtjgadggehpmdkaaGreatDoor
open Go.RowKit Go.Maps
def Swp (t t' : Sh) (S : List Int) (i : Nat) : Prop := t'.length = t.length ∧ ∀ h, ndAt t' h = if h ≤ (i : Int) ∧ h ∉ S then none else ndAt t h
theorem Swp.start (t : Sh) (S : List Int) : Swp t t S 0 := ⟨rfl, fun h => by
  by_cases e : h ≤ ((0 : Nat) : Int) ∧ h ∉ S
  · rw [if_pos e]
    unfold ndAt
    rw [if_neg (by have := e.1; omega)]
  · rw [if_neg e]⟩
theorem Swp.keep {t t' : Sh} {S : List Int} {i : Nat} (h : Swp t t' S i) (hk : ndAt t' ((i : Int) + 1) = none ∨ (i : Int) + 1 ∈ S) : Swp t t' S (i + 1) := ⟨h.1, fun x => by
  by_cases e : x = (i : Int) + 1
  · subst e
    by_cases hm : (i : Int) + 1 ∈ S
    · rw [if_neg (fun e => e.2 hm), h.2, if_neg (fun e => e.2 hm)]
    · rw [if_pos ⟨by omega, hm⟩]
      exact hk.resolve_right hm
  · rw [h.2 x]
    have : (x ≤ (i : Int) ∧ x ∉ S) ↔ (x ≤ ((i + 1 : Nat) : Int) ∧ x ∉ S) := by
      constructor
      · intro ⟨a, b⟩; exact ⟨by omega, b⟩
      · intro ⟨a, b⟩; exact ⟨by omega, b⟩
    simp only [this]⟩
theorem Swp.drop {t t' : Sh} {S : List Int} {i : Nat} (h : Swp t t' S i) (hm : (i : Int) + 1 ∉ S) : Swp t (clr t' i) S (i + 1) := ⟨by unfold clr; rw [List.length_set]; exact h.1, fun x => by
  rw [clr_at]
  by_cases e : x = (i : Int) + 1
  · rw [if_pos e, if_pos ⟨by omega, by rw [e]; exact hm⟩]
  · rw [if_neg e, h.2 x]
    have : (x ≤ (i : Int) ∧ x ∉ S) ↔ (x ≤ ((i + 1 : Nat) : Int) ∧ x ∉ S) := by
      constructor
      · intro ⟨a, b⟩; exact ⟨by omega, b⟩
      · intro ⟨a, b⟩; exact ⟨by omega, b⟩
    simp only [this]⟩
theorem Swp.done {t t' : Sh} {S roots : List Int} (h : Swp t t' S t.length) (hS : ∀ x, x ∈ S ↔ Rch t roots x) : Eqv t' (leftA t roots) := fun x => by
  rw [h.2 x, left_at]
  by_cases hr : Rch t roots x
  · rw [if_pos hr, if_neg fun e => e.2 ((hS x).2 hr)]
  · rw [if_neg hr]
    by_cases hx : x ≤ (t.length : Int)
    · rw [if_pos ⟨hx, fun e => hr ((hS x).1 e)⟩]
    · rw [if_neg fun e => hx e.1]
      cases e : ndAt t x with
      | none => rfl
      | some n => exact absurd (live_bound (live_iff.2 ⟨n, e⟩)).2 hx
end Go.Proofs.YtjgadggehpmdkaaGreatDoor
namespace Go.Proofs.YtjgadggehpmdkaaGreatDoor
open Go.RowKit
theorem rentGuard : Tryz.prog.eqGuardType Tryz.prog.depth 68 = false := by kernel_rfl
theorem rentStood : Tryz.prog.stoodInHeld 68 = false := by kernel_rfl
theorem rentStruct : Tryz.prog.underlying 68 = some (.struct (Tryz.prog.fieldsOf 68)) := by kernel_rfl
theorem guard_rent (op : BinOp) (X Y : Operand) (xs ys : Array Value) (W : World) : (eqGuard op 68 X Y (.agg xs) (.agg ys)).run Tryz.prog W = .ok () W := run_eqGuard_agg W op 68 X Y xs ys rentGuard
theorem neq_rent (x y : Int) (s t : List UInt8) (W : World) : (binOp .neq 68 (.agg #[.int .i64 x, .string ⟨s.toArray⟩]) (.agg #[.int .i64 y, .string ⟨t.toArray⟩])).run Tryz.prog W = .ok (.bool (!decide ((⟨x, s⟩ : En) = ⟨y, t⟩))) W := by
  rw [run_neq_struct, run_equalIn_agg W 9999 68 _ _ rentStruct rentStood]
  have e : ∀ s : List UInt8, (⟨s.toArray⟩ : ByteArray).toList = s := fun s => ByteArray.toList_eq _
  by_cases h1 : x = y <;> by_cases h2 : s = t <;> simp [go_sem, h1, h2, e, En.mk.injEq]
set_option maxHeartbeats 4000000 in
set_option maxRecDepth 10000 in
theorem rsameE_any (l m : List En) (A C : Option Addr) (ca cb : Nat) (w : World) {Q R : Nat → Prop} (hl : RowE w Q A l) (hm : RowE w R C m) (hll : l.length ≤ 1000000) :
    Calls Tryz.prog 12 #[.slice A l.length ca, .slice C m.length cb] w fun e w' => e = .returned (.bool (decide (l = m))) ∧ ∃ n, w' = w.drewN n := by
  have HL := Lib.hid hl
  have HM := Lib.hid hm
  clear hl hm
  by_cases hne : l.length = m.length
  · have d0 : ((l.length : Int) != (m.length : Int)) = false := by simp [hne]
    have HN := Lib.hid hne
    clear hne
    go_enter Tryz.func12, Tryz.ntmps12
    go_wp2_with fail
    go_loopw [5] (fun v wr => ∃ i : Nat, i ≤ l.length ∧ v = .int .i64 i ∧ Hid (l.take i = m.take i) ∧ ∃ n, wr = w.drewN n) (fun v _ => l.length - (RowKit.intOf v).toNat)
    case atStart => exact ⟨0, Nat.zero_le _, rfl, Lib.hid (by simp), 0, rfl⟩
    case round =>
      obtain ⟨i, hi, rfl, HU, nd, rfl⟩ := hrel
      by_cases hlt : i < l.length
      · obtain ⟨x, hx⟩ : ∃ x, l[i]? = some x := ⟨_, List.getElem?_eq_getElem hlt⟩
        have hlt2 : i < m.length := by have := HN.out; omega
        obtain ⟨y, hy⟩ : ∃ y, m[i]? = some y := ⟨_, List.getElem?_eq_getElem hlt2⟩
        obtain ⟨g, o, rfl, _, _, ha⟩ := HL.out.at hlt
        obtain ⟨g', o', rfl, _, _, hb⟩ := HM.out.at hlt2
        obtain ⟨a0, a1⟩ := ha.two hx
        obtain ⟨b0, b1⟩ := hb.two hy
        have hI : (i : Int) < (l.length : Int) := by omega
        have hJ : (i : Int) < (m.length : Int) := by omega
        have Hxy := Lib.hid hx
        have Hpq := Lib.hid hy
        obtain ⟨kx, tx⟩ := x
        obtain ⟨ky, ty⟩ := y
        clear hx hy ha hb
        have hG := fun X Y W => guard_rent .neq X Y #[.int .i64 kx, .string ⟨tx.toArray⟩] #[.int .i64 ky, .string ⟨ty.toArray⟩] W
        have hE := neq_rent kx ky tx ty
        cases he : (!decide ((⟨kx, tx⟩ : En) = ⟨ky, ty⟩)) with
        | true =>
          rw [he] at hE
          have HF := Lib.hid (show decide (l = m) = false from decide_eq_false (by
            intro e
            have h1 := Hxy.out
            rw [e, Hpq.out] at h1
            rw [Option.some.inj h1] at he
            simp at he))
          clear he
          go_wp2_with fail
          go_quiet (fail)
          go_wp2_with fail
          go_ret
          exact ⟨ret_bool HF.out.symm, nd + _, by first | exact (World.drewN_drewN _ _ _) | rfl⟩
        | false =>
          rw [he] at hE
          have HS : Hid (l.take (i + 1) = m.take (i + 1)) := Lib.hid (by
            have h2 : (⟨kx, tx⟩ : En) = ⟨ky, ty⟩ := by simpa using he
            rw [List.take_add_one, List.take_add_one, HU.out, Hxy.out, Hpq.out, h2])
          clear he
          go_wp2_with fail
          go_quiet (fail)
          go_wp2_with fail
          go_roundw
          case rel => exact ⟨i + 1, by omega, by go_num, HS, nd + nq, by first | exact (World.drewN_drewN _ _ _) | rfl⟩
          case measure => simp [RowKit.intOf]; omega
      · have HF := Lib.hid (show decide (l = m) = true from decide_eq_true (by
          have h1 := HU.out
          rwa [List.take_of_length_le (by omega), List.take_of_length_le (by have := HN.out; omega)] at h1))
        go_wp2_with fail
        go_ret
        exact ⟨ret_bool HF.out.symm, nd, rfl⟩
  · have d0 : ((l.length : Int) != (m.length : Int)) = true := by simpa using fun h => hne (by omega)
    have HF := Lib.hid (show decide (l = m) = false from decide_eq_false (by rintro rfl; exact hne rfl))
    clear hne
    go_enter Tryz.func12, Tryz.ntmps12
    go_wp2_with fail
    go_ret
    exact ⟨ret_bool HF.out.symm, 0, by simp [World.drewN_zero]⟩
end Go.Proofs.YtjgadggehpmdkaaGreatDoor
namespace Go.Proofs.YtjgadggehpmdkaaGreatDoor
open Go.RowKit Go.Shelf
theorem pentGuard : Tryz.prog.eqGuardType Tryz.prog.depth 55 = false := by kernel_rfl
theorem pentStood : Tryz.prog.stoodInHeld 55 = false := by kernel_rfl
theorem pentStruct : Tryz.prog.underlying 55 = some (.struct (Tryz.prog.fieldsOf 55)) := by kernel_rfl
theorem guard_pent (op : BinOp) (X Y : Operand) (xs ys : Array Value) (W : World) : (eqGuard op 55 X Y (.agg xs) (.agg ys)).run Tryz.prog W = .ok () W := run_eqGuard_agg W op 55 X Y xs ys pentGuard
theorem eql_pent (x : Int) (s : ByteArray) (W : World) : (binOp .eql 55 (.agg #[.int .i64 x, .string s]) (.agg #[.int .i64 x, .string s])).run Tryz.prog W = .ok (.bool true) W := by
  rw [run_eql_struct, run_equalIn_agg W 9999 55 _ _ pentStruct pentStood]
  simp [go_sem]
theorem lf9_up {w w0 w2 : World} {B a room : Nat} {s : Sh} {K K2 : Nat → Prop} (h : Lf9 w B a room s K w2 K2) (h0 : Below B w0 w) : On9 w2 B a room s K2 ∧ Below B w0 w2 := ⟨h.1, h0.trans h.2.2.2⟩
set_option maxHeartbeats 16000000 in
set_option maxRecDepth 10000 in
theorem talive_any (w : World) (hE : TB w.heap.size w) : Calls Tryz.prog 7 #[] w fun e w' => e = .returned (.bool true) ∧ Below w.heap.size w w' := by
  have HE := Lib.hid (o9New w hE 9 (by decide))
  have hI1 : ∀ W, (binOp .eql 55 (.agg #[.int .i64 2, .string ⟨#[121]⟩]) (.agg #[.int .i64 2, .string ⟨#[121]⟩])).run Tryz.prog W = .ok (.bool true) W := eql_pent 2 ⟨#[121]⟩
  have hI2 : ∀ W, (binOp .eql 55 (.agg #[.int .i64 5, .string ⟨#[122]⟩]) (.agg #[.int .i64 5, .string ⟨#[122]⟩])).run Tryz.prog W = .ok (.bool true) W := eql_pent 5 ⟨#[122]⟩
  have hG1 := fun X Y W => guard_pent .eql X Y #[.int .i64 2, .string ⟨#[121]⟩] #[.int .i64 2, .string ⟨#[121]⟩] W
  have hG2 := fun X Y W => guard_pent .eql X Y #[.int .i64 5, .string ⟨#[122]⟩] #[.int .i64 5, .string ⟨#[122]⟩] W
  clear hE
  go_enter Tryz.func7, Tryz.ntmps7
  go_wp2_with fail
  refine HE.out.mono ?_; rintro e w1 ⟨a, K1, rfl, hO1, hK1, hb1⟩
  clear HE
  have hb2 : Below w1.heap.size w1 (w1.alloc (.cells #[.int .i64 5, .string ⟨#[120]⟩, .int .i64 2, .string ⟨#[121]⟩] 55)) := (Below.refl _ _).alloc (Nat.le_refl _) _
  have hO2 := hO1.below hb2
  have hrow : RowE (w1.alloc (.cells #[.int .i64 5, .string ⟨#[120]⟩, .int .i64 2, .string ⟨#[121]⟩] 55)) (fun g => K1 g ∨ (w1.heap.size ≤ g ∧ g < (w1.alloc (.cells #[.int .i64 5, .string ⟨#[120]⟩, .int .i64 2, .string ⟨#[121]⟩] 55)).heap.size)) (some ⟨w1.heap.size, 0, none⟩) alA := by
    refine .inr ⟨_, _, rfl, .inr ⟨Nat.le_refl _, by simp⟩, by simp, ?_⟩
    intro i x hx j u hu
    rw [Lib.cell_of_heap (heap_alloc_new w1 _)]
    rcases i with _ | _ | i
    · obtain rfl : x = ⟨5, [120]⟩ := (Option.some.inj hx).symm
      rcases j with _ | _ | j
      · exact hu
      · exact hu
      · cases hu
    · obtain rfl : x = ⟨2, [121]⟩ := (Option.some.inj hx).symm
      rcases j with _ | _ | j
      · exact hu
      · exact hu
      · cases hu
    · cases hx
  have HBu := Lib.hid (ptbuild_any hO2 alA (some ⟨w1.heap.size, 0, none⟩) 2 hrow (by decide) (by decide))
  have HB2 := Lib.hid (hb1.trans (hb2.mono hb1.size))
  clear hO1 hK1 hb1 hb2 hO2 hrow
  rw [alB] at HBu
  go_wp2_with fail
  refine HBu.out.mono ?_; rintro e w3 ⟨K3, rfl, hl3⟩
  obtain ⟨hO3, hb3⟩ := lf9_up hl3 HB2.out
  have HP := Lib.hid (ptrput_any hO3 3 (by decide) ⟨5, [122]⟩ (by decide))
  have HB3 := Lib.hid hb3
  clear hl3 hO3 hb3 HBu HB2
  rw [show (alS1, (3 : Int), 0).1 = alS1 from rfl, alP] at HP
  unfold enV at HP
  go_wp2_with fail
  refine HP.out.mono ?_; rintro e w4 ⟨K4, rfl, hl4⟩
  obtain ⟨hO4, hb4⟩ := lf9_up hl4 HB3.out
  have HD := Lib.hid (ptrdel_any hO4 5 (by decide) 5)
  have HB4 := Lib.hid hb4
  clear hl4 hO4 hb4 HP HB3
  rw [show (alS2, (5 : Int), 0).1 = alS2 from rfl, alD] at HD
  go_wp2_with fail
  refine HD.out.mono ?_; rintro e w5 ⟨K5, rfl, hl5⟩
  obtain ⟨hO5, hb5⟩ := lf9_up hl5 HB4.out
  have HAl := Lib.hid (pall_any hO5 5 (by decide))
  have HO5 := Lib.hid hO5
  have HB5 := Lib.hid hb5
  clear hl5 hO5 hb5 HD HB4
  rw [show (alS3, (2 : Int), 0).1 = alS3 from rfl, alH2] at HAl
  go_wp2_with fail
  refine HAl.out.mono ?_; rintro e w6 ⟨O, co, rfl, hco, hr6, hb6⟩
  have hO6 := HO5.out.below hb6
  have HGt := Lib.hid (pget_any hO6 3 (by decide) 5)
  have HO6 := Lib.hid hO6
  have HR6 := Lib.hid (hr6.mono (Q := fun g => K5 g ∨ (w5.heap.size ≤ g ∧ g < w6.heap.size)) fun g hg hl => .inr ⟨hg, hl⟩)
  have HB6 := Lib.hid (HB5.out.trans (hb6.mono HO5.out.base))
  clear hO6 hr6 hb6 HO5 HB5 HAl
  rw [alG] at HGt
  go_wp2_with fail
  refine HGt.out.mono ?_; rintro e w7 ⟨rfl, hb7⟩
  have hO7 := HO6.out.below hb7
  have HD2 := Lib.hid (ptrdel_any hO7 2 (by decide) 5)
  have HR7 := Lib.hid ((HR6.out.below hb7).mono (Q := fun g => (K5 g ∨ (w5.heap.size ≤ g ∧ g < w6.heap.size)) ∨ (w6.heap.size ≤ g ∧ g < w7.heap.size)) fun g hg _ => .inl hg)
  have HB7 := Lib.hid (HB6.out.trans (hb7.mono HO6.out.base))
  clear hO7 hb7 HR6 HB6 HO6 HGt
  rw [alE] at HD2
  go_wp2_with fail
  refine HD2.out.mono ?_; rintro e w8 ⟨K8, rfl, hl8⟩
  have hr8 := HR7.out.kept hl8.2.2.1
  obtain ⟨hO8, hb8⟩ := lf9_up hl8 HB7.out
  obtain ⟨g, o, rfl, _, hgl, hat⟩ := hr8.at (i := 0) (by decide)
  obtain ⟨q0, q1⟩ := hat.two (i := 0) (x := ⟨2, [121]⟩) rfl
  obtain ⟨q2, q3⟩ := hat.two (i := 1) (x := ⟨5, [122]⟩) rfl
  have p0 : w8.cell? ⟨g, o, none⟩ = some (.int .i64 2) := q0
  have p1 : w8.cell? ⟨g, o + 1, none⟩ = some (.string ⟨#[121]⟩) := q1
  have p2 : w8.cell? ⟨g, o + 2, none⟩ = some (.int .i64 5) := q2
  have p3 : w8.cell? ⟨g, o + 2 + 1, none⟩ = some (.string ⟨#[122]⟩) := q3
  have hlen : ((alL2.length : Nat) : Int) = 2 := rfl
  clear q0 q1 q2 q3
  have HI2 := Lib.hid (pis_any hO8 2 (by decide))
  have HO8 := Lib.hid hO8
  have HB8 := Lib.hid hb8
  clear hl8 hO8 hb8 HD2 HB7 HR7 hr8 hat
  rw [show (alS3, (0 : Int), 4).1 = alS3 from rfl, alH3] at HI2
  go_wp2_with fail
  refine HI2.out.mono ?_; rintro e w9 ⟨rfl, hb9⟩
  have HI9 := Lib.hid (pis_any (HO8.out.below hb9) 9 (by decide))
  have HB9 := Lib.hid (HB8.out.trans (hb9.mono HO8.out.base))
  clear hb9 HI2 HO8 HB8 p0 p1 p2 p3
  rw [al9] at HI9
  go_wp2_with fail
  refine HI9.out.mono ?_; rintro e w10 ⟨rfl, hb10⟩
  have HBx := Lib.hid (HB9.out.trans (hb10.mono HB9.out.size))
  have HK5 := Lib.hid (phash_any 5 w10)
  have HK25 := Lib.hid (fun w => phash_any 25 w)
  clear hb10 HB9 HI9
  rw [alK5] at HK5
  simp only [alK25] at HK25
  go_wp2_with fail
  refine HK5.out.mono ?_; rintro e w11 ⟨rfl, rfl⟩
  go_wp2_with fail
  refine (HK25.out _).mono ?_; rintro e w12 ⟨rfl, rfl⟩
  go_wp2_with fail
  go_ret
  exact ⟨rfl, HBx.out⟩
end Go.Proofs.YtjgadggehpmdkaaGreatDoor
