/- Texts joined: TsJ, NdNk, NdN, NdM. -/
import Derived.Test.YtjgjacihdggimaaGreatDoorDk12
import Derived.Test.YtjgjacihdggimaaGreatDoorDk07
import Derived.Test.YtjgjacihdggimaaGreatDoorDk03
import Derived.Test.YtjgjacihdggimaaGreatDoorDk08
import Derived.Test.YtjgjacihdggimaaGreatDoorDk06
set_option linter.all false
namespace Go.Proofs.YtjgjacihdggimaaGreatDoor
open Go.RowKit
theorem seek_next {s : Sh} {l : List Nd} {at_ : List Int} {i : Nat} {n : Nd} (hn : l[i]? = some n) (h : seekL s [] l = seekL s at_ (l.drop i)) (hf : fnd s (asPut at_ n) ≠ 0) : seekL s [] l = seekL s (at_ ++ [(fnd s (asPut at_ n) : Int)]) (l.drop (i + 1)) := by
  obtain ⟨hl, he⟩ := List.getElem?_eq_some_iff.1 hn
  rw [h, List.drop_eq_getElem_cons hl, he, seekL, if_neg hf]
theorem seek_stop {s : Sh} {l : List Nd} {at_ : List Int} {i : Nat} {n : Nd} (hn : l[i]? = some n) (h : seekL s [] l = seekL s at_ (l.drop i)) (hf : fnd s (asPut at_ n) = 0) : seekD s l = 0 := by
  obtain ⟨hl, he⟩ := List.getElem?_eq_some_iff.1 hn
  unfold seekD
  rw [h, List.drop_eq_getElem_cons hl, he, seekL, if_pos hf]
theorem seek_end {s : Sh} {l : List Nd} {at_ : List Int} (h : seekL s [] l = seekL s at_ (l.drop l.length)) : seekD s l = at_.getLastD 0 := by
  unfold seekD
  rw [h, List.drop_length, seekL]
theorem res_next {at_ refs : List Int} {k j : Nat} {r y : Int} (hr : refs[k]? = some r) (hn : r < 0) (hj : -1 - r = (j : Int)) (hy : at_[j]? = some y) : (refs.take k).map (resolve at_) ++ [y] = (refs.take (k + 1)).map (resolve at_) := by
  rw [List.take_add_one, hr, List.map_append]
  congr 1
  show [y] = [resolve at_ r]
  unfold resolve
  rw [if_pos hn, hj, List.getD_eq_getElem?_getD, show ((j : Int)).toNat = j by omega, hy]; rfl
section
variable {w w' : World} {P : Nat → Prop} {m gN cN gB cB room : Nat} {nds : List Nd} {bs : List Bool}
set_option maxHeartbeats 16000000 in
set_option maxRecDepth 10000 in
theorem rseek_any (h : RM w P m gN cN gB cB room nds bs) (l : List Nd) (A : Option Addr) (ca : Nat) {Q : Nat → Prop} (hl : RowN w Q A l) (hneg : ∀ (i : Nat) (n : Nd), l[i]? = some n → NegR i n.refs) (hll : l.length ≤ 500000) (hlr : ∀ n ∈ l, n.refs.length ≤ 1000) :
    Calls Tryz.prog 46 #[.pointer (some ⟨m, 0, none⟩), .slice A l.length ca] w fun e w' => e = .returned (.int .i64 (seekD (stOf nds bs) l)) ∧ Below w.heap.size w w' := by
  obtain ⟨i0, hi0, hz0, hz1, hz2⟩ := info_parts int_info
  have HR := Lib.hid h
  have HL := Lib.hid hl
  have HNg := Lib.hid hneg
  have HLr := Lib.hid hlr
  clear h hl hneg hlr
  have HFi := Lib.hid (fun (w' : World) (hb : Below w.heap.size w w') (x : Nd) (A B : Option Addr) (ca cb : Nat) (hA : RowI w' (fun _ => True) A x.refs) (hB : RowI w' (fun _ => True) B x.nums) => rFind_any (HR.out.below hb) x (fun _ => True) A B ca cb hA hB)
  generalize stOf nds bs = s at *
  unfold ndV at HFi
  go_enter Tryz.func46, Tryz.ntmps46
  go_wp2_with fail
  go_loopw [5, 6, 7, 8, 9, 10] (fun va vi _ _ _ _ wr => ∃ (i : Nat) (at_ : List Int), i ≤ l.length ∧ vi = .int .i64 (i : Int) ∧ Hid (seekL s [] l = seekL s at_ (l.drop i)) ∧ Hid (at_.length = i) ∧ Hid (OwnR 3 1 inW w.heap.size wr va at_) ∧ Below w.heap.size w wr) (fun _ vi _ _ _ _ _ => l.length - (RowKit.intOf vi).toNat)
  case atStart => exact ⟨0, [], Nat.zero_le _, rfl, Lib.hid (by rw [List.drop_zero]), Lib.hid rfl, Lib.hid (World.ownsRow_nil _ _ _ _), Below.refl _ _⟩
  case round =>
    obtain ⟨i, at_, hi, rfl, HS, HLn, HO, hb⟩ := hrel
    obtain ⟨O, co, rfl, hrA⟩ := own_rowI HO.out
    by_cases hlt : i < l.length
    · obtain ⟨wo, rfl⟩ : ∃ wo : World, wo = wr := ⟨wr, rfl⟩
      obtain ⟨n, hn⟩ : ∃ n, l[i]? = some n := ⟨_, List.getElem?_eq_getElem hlt⟩
      obtain ⟨g, o, rfl, _, hgl, hat⟩ := HL.out.at hlt
      obtain ⟨B, cb, C, cc, ⟨q0, q1, q2, q3⟩, hB, hC⟩ := hat i n hn
      have k0 := keep_cell hb q0
      have k1 := keep_cell hb q1
      have k2 := keep_cell hb q2
      have k3 := keep_cell hb q3
      have hI : (i : Int) < (l.length : Int) := by omega
      have hJ : (0 : Int) ≤ (i : Int) := by omega
      have HBr := Lib.hid ((hB.mono (Q := fun _ => True) fun _ _ _ => trivial).below hb)
      have HCr := Lib.hid ((hC.mono (Q := fun _ => True) fun _ _ _ => trivial).below hb)
      have HAr := Lib.hid hrA
      have HNn := Lib.hid (HNg.out i n hn)
      have hrl : n.refs.length ≤ 1000 := HLr.out n (List.mem_of_getElem? hn)
      have hbs := hb.size
      have HSn := Lib.hid (fun hf => seek_next hn HS.out hf)
      have HSs := Lib.hid (fun hf => seek_stop hn HS.out hf)
      have hblk := heap_alloc_new wo (.cells #[.int .i64 n.kind, .slice B n.refs.length cb, .slice C n.nums.length cc, .string ⟨n.text.toArray⟩] 110)
      have HBk := Lib.hid hblk
      have hbW : Below wo.heap.size wo (wo.alloc (.cells #[.int .i64 n.kind, .slice B n.refs.length cb, .slice C n.nums.length cc, .string ⟨n.text.toArray⟩] 110)) := (Below.refl _ _).alloc (Nat.le_refl _) _
      have HbW := Lib.hid hbW
      have hzW : (wo.alloc (.cells #[.int .i64 n.kind, .slice B n.refs.length cb, .slice C n.nums.length cc, .string ⟨n.text.toArray⟩] 110)).heap.size = wo.heap.size + 1 := by simp
      have HzW := Lib.hid hzW
      clear hat hn hB hC q0 q1 q2 q3 hrA HS hblk hbW hzW
      go_wp2_with fail
      generalize (wo.alloc (.cells #[.int .i64 n.kind, .slice B n.refs.length cb, .slice C n.nums.length cc, .string ⟨n.text.toArray⟩] 110)) = Wn at *
      go_loopw [8, 9] (fun vr vk wr2 => ∃ k : Nat, k ≤ n.refs.length ∧ vk = .int .i64 (k : Int) ∧ Hid (OwnR 3 1 inW Wn.heap.size wr2 vr ((n.refs.take k).map (resolve at_))) ∧ Below Wn.heap.size Wn wr2) (fun _ vk _ => n.refs.length - (RowKit.intOf vk).toNat)
      case atStart => exact ⟨0, Nat.zero_le _, rfl, Lib.hid (by rw [List.take_zero]; exact World.ownsRow_nil _ _ _ _), Below.refl _ _⟩
      case round =>
        obtain ⟨k, hk, rfl, HOr, hb2⟩ := hrel
        have hX : wo.heap.size < Wn.heap.size := by rw [HzW.out]; omega
        have x0 : wr.cell? ⟨wo.heap.size, 0, none⟩ = some (.int .i64 n.kind) := by rw [hb2.cell hX]; exact Lib.cell_of_heap HBk.out 0
        have x1 : wr.cell? ⟨wo.heap.size, 1, none⟩ = some (.slice B n.refs.length cb) := by rw [hb2.cell hX]; exact Lib.cell_of_heap HBk.out 1
        have x2 : wr.cell? ⟨wo.heap.size, 2, none⟩ = some (.slice C n.nums.length cc) := by rw [hb2.cell hX]; exact Lib.cell_of_heap HBk.out 2
        have x3 : wr.cell? ⟨wo.heap.size, 3, none⟩ = some (.string ⟨n.text.toArray⟩) := by rw [hb2.cell hX]; exact Lib.cell_of_heap HBk.out 3
        have hb3 : Below wo.heap.size wo wr := HbW.out.trans (hb2.mono HbW.out.size)
        have zX : wo.heap.size < wr.heap.size := Lib.lt_of_cell x0
        obtain ⟨R0, cr, hvr, hrR⟩ := own_rowI HOr.out
        have hlm : ((n.refs.take k).map (resolve at_)).length = k := by rw [List.length_map, List.length_take]; omega
        by_cases hkl : k < n.refs.length
        · obtain ⟨r, hr⟩ : ∃ r, n.refs[k]? = some r := ⟨_, List.getElem?_eq_getElem hkl⟩
          have hng := HNn.out r (List.mem_of_getElem? hr)
          obtain ⟨j, hj⟩ : ∃ j : Nat, -1 - r = (j : Int) := ⟨(-1 - r).toNat, by omega⟩
          have hjl : j < at_.length := by rw [HLn.out]; omega
          obtain ⟨y, hy⟩ : ∃ y, at_[j]? = some y := ⟨_, List.getElem?_eq_getElem hjl⟩
          obtain ⟨gB', oB', rfl, _, _, hcB⟩ := HBr.out.at hkl
          obtain ⟨gA', oA', rfl, _, _, hcA⟩ := HAr.out.at hjl
          have c0 := keep_cell hb3 (hcB k r hr)
          have c1 := keep_cell hb3 (hcA j y hy)
          have HRn := Lib.hid (res_next hr hng.1 hj hy)
          have hkI : (k : Int) < (n.refs.length : Int) := by omega
          have hkJ : (0 : Int) ≤ (k : Int) := by omega
          have hjI : -1 - r < (at_.length : Int) := by omega
          have hjJ : (0 : Int) ≤ -1 - r := by omega
          rw [show j = (-1 - r).toNat by omega] at c1
          have hr1 : r < 0 := hng.1
          have hr2 : -1000000 ≤ r := by have := hng.2; omega
          have HJ := Lib.hid hj
          rw [hlm] at hvr
          have HLm := Lib.hid hlm
          subst hvr
          clear hr hng hy hcB hcA hlm hrR hj
          go_wp2_with (at_builtin; refine of_stop ?_)
          refine stop_of ?_
          refine wpList_append_rows (f := inW) (n := 1) (E := 3) (nb := 8) (X := (n.refs.take k).map (resolve at_)) (base := Wn.heap.size) rfl _ _ rfl rfl (OwnR.below HOr.out (by with_reducible repeat' (first | exact Below.refl _ _ | exact Nat.le_refl _ | refine Below.drew ?_ | refine Below.alloc ?_ ?_ _ | refine nl_al ?_ | refine nl_d ?_))) (L2 := [y]) rfl (one_row wr y) (by simp) (N := k + 1) (by rw [HLm.out]; rfl) (Z := (n.refs.take (k + 1)).map (resolve at_)) HRn.out Tryz.underlying54 hi0 hz0 hz1 hz2 rfl (by decide) (by decide) (fun _ => rfl) inW_one (by omega) (by have := hb2.size; simp; omega) ?_
          intro g4 k4 w4 ho4 hg4 hat4 hl4
          have hb4 : Below Wn.heap.size Wn w4 := hb2.trans (Below.grown ((Below.refl _ _).alloc hb2.size _) hg4 (by have := hb2.size; simp; omega) (fun k hk => (World.ownsRow.lt HOr.out k hk).1))
          have HO4 := Lib.hid ho4
          clear ho4 hg4 hat4 hl4
          go_wp2_with fail
          go_roundw
          case rel => exact ⟨k + 1, by omega, by go_num, HO4, hb4⟩
          case measure => simp [RowKit.intOf]; omega
        · have hkk : k = n.refs.length := by omega
          subst hkk
          rw [hlm] at hvr
          rw [List.take_length] at hrR
          subst hvr
          have hRM : RowI (wr.setCell ⟨wo.heap.size, 1, none⟩ (.slice R0 n.refs.length cr)) (fun _ => True) R0 (n.refs.map (resolve at_)) := by
            have hbu : ButS (fun g => g = wo.heap.size) wr (wr.setCell ⟨wo.heap.size, 1, none⟩ (.slice R0 n.refs.length cr)) := ButS.setCell (P := fun g => g = wo.heap.size) (p := ⟨wo.heap.size, 1, none⟩) (ButS.refl _ _) (.inl rfl) _
            exact ((hrR.kept (hbu.keptQ fun g hg e => by omega))).mono fun _ _ _ => trivial
          have hb4 : Below wo.heap.size wo (wr.setCell ⟨wo.heap.size, 1, none⟩ (.slice R0 n.refs.length cr)) := hb3.setCell (Nat.le_refl _) _
          have hb5 : Below w.heap.size w (wr.setCell ⟨wo.heap.size, 1, none⟩ (.slice R0 n.refs.length cr)) := hb.trans (hb4.mono hb.size)
          have hC4 : RowI (wr.setCell ⟨wo.heap.size, 1, none⟩ (.slice R0 n.refs.length cr)) (fun _ => True) C n.nums := HCr.out.below hb4
          have hlm2 : (n.refs.map (resolve at_)).length = n.refs.length := List.length_map _
          have hF := HFi.out _ hb5 (asPut at_ n) R0 C cr cc hRM hC4
          have hFc : Calls Tryz.prog 63 #[.pointer (some ⟨m, 0, none⟩), .agg #[.int .i64 n.kind, .slice R0 n.refs.length cr, .slice C n.nums.length cc, .string ⟨n.text.toArray⟩]] (wr.setCell ⟨wo.heap.size, 1, none⟩ (.slice R0 n.refs.length cr)) fun e w' => e = .returned (.int .i64 (fnd s (asPut at_ n) : Int)) ∧ Below (wr.setCell ⟨wo.heap.size, 1, none⟩ (.slice R0 n.refs.length cr)).heap.size (wr.setCell ⟨wo.heap.size, 1, none⟩ (.slice R0 n.refs.length cr)) w' := by
            have e1 : (asPut at_ n).refs.length = n.refs.length := hlm2
            rw [e1] at hF
            exact hF
          have HF := Lib.hid hFc
          have HO5 : Hid (OwnR 3 1 inW w.heap.size (wr.setCell ⟨wo.heap.size, 1, none⟩ (.slice R0 n.refs.length cr)) (.slice O at_.length co) at_) := Lib.hid (HO.out.below hb4)
          have hfx : wr.frozen? ⟨wo.heap.size, 1, none⟩ = false := by rw [hb2.frozen hX]; unfold World.frozen?; rw [HBk.out]; simp
          have HB5 := Lib.hid hb5
          generalize fnd s (asPut at_ n) = fd at *
          clear hRM hC4 hF hFc hb4 hb5 hrR hlm hlm2
          go_wp2_with fail
          refine HF.out.mono ?_; rintro e w6 ⟨rfl, hb6⟩
          have hb7 : Below w.heap.size w w6 := HB5.out.trans (hb6.mono HB5.out.size)
          have hs7 := hb7.size
          by_cases hz : fd = 0
          · have HE := Lib.hid (HSs.out hz)
            subst hz
            go_wp2_with fail
            go_ret
            exact ⟨by rw [HE.out]; rfl, hb7⟩
          · have dz : ((fd : Int) == 0) = false := by rw [beq_eq_false_iff_ne]; omega
            have HN := Lib.hid (HSn.out hz)
            have HO7 := Lib.hid (HO5.out.below hb6)
            clear hz HF HO5 HO HAr HCr HBr HSn HSs
            go_wp2_with (at_builtin; refine of_stop ?_)
            refine stop_of ?_
            refine wpList_append_rows (f := inW) (n := 1) (E := 3) (nb := 8) (X := at_) (base := w.heap.size) rfl _ _ rfl rfl (OwnR.below HO7.out (by with_reducible repeat' (first | exact Below.refl _ _ | exact Nat.le_refl _ | refine Below.drew ?_ | refine Below.alloc ?_ ?_ _ | refine nl_al ?_ | refine nl_d ?_))) (L2 := [(fd : Int)]) rfl (one_row w6 (fd : Int)) (by simp) (N := i + 1) (by rw [HLn.out]; rfl) (Z := at_ ++ [(fd : Int)]) rfl Tryz.underlying54 hi0 hz0 hz1 hz2 rfl (by decide) (by decide) (fun _ => rfl) inW_one (by omega) (by simp; omega) ?_
            intro g4 k4 w4 ho4 hg4 hat4 hl4
            have hb8 : Below w.heap.size w w4 := (hb7.alloc hs7 _).grown hg4 (by simp; omega) (fun k hk => (World.ownsRow.lt HO7.out k hk).1)
            have HO8 := Lib.hid ho4
            clear ho4 hg4 hat4 hl4
            go_wp2_with fail
            go_roundw
            case rel => exact ⟨i + 1, _, by omega, by go_num, HN, Lib.hid (by rw [List.length_append, HLn.out]; rfl), HO8, hb8⟩
            case measure => simp [RowKit.intOf]; omega
    · have hii : i = l.length := by omega
      subst hii
      have HE := Lib.hid (seek_end HS.out)
      cases hat : at_.getLast? with
      | none =>
        have h0 : at_ = [] := List.getLast?_eq_none_iff.1 hat
        subst h0
        go_wp2_with fail
        go_ret
        exact ⟨by rw [HE.out]; rfl, hb⟩
      | some y =>
        have hne : at_ ≠ [] := fun e => by rw [e] at hat; cases hat
        have hp := List.length_pos_iff.2 hne
        have hy : at_[at_.length - 1]? = some y := by rw [← List.getLast?_eq_getElem?]; exact hat
        obtain ⟨g, o, rfl, _, _, hc⟩ := hrA.at (i := at_.length - 1) (by omega)
        have c0 := hc _ y hy
        have HE2 : Hid (seekD s l = y) := Lib.hid (by rw [HE.out, List.getLastD_eq_getLast?, hat]; rfl)
        have dz : ((at_.length : Int) == 0) = false := by rw [beq_eq_false_iff_ne]; omega
        obtain ⟨N, hN⟩ : ∃ N, at_.length = N + 1 := ⟨at_.length - 1, by omega⟩
        rw [hN] at dz c0 ⊢
        rw [show N + 1 - 1 = N by omega] at c0
        have hNl : N ≤ 600000 := by have := HLn.out; omega
        clear hat hne hp hy hc hN HE HO HLn HS
        go_wp2_with fail
        go_ret
        exact ⟨by rw [HE2.out]; rfl, hb⟩
end
end Go.Proofs.YtjgjacihdggimaaGreatDoor
namespace Go.Proofs.YtjgjacihdggimaaGreatDoor
open Go.RowKit
theorem wrong_next {s : Sh} {l : List Nd} {i : Nat} {n : Nd} (hi : l[i]? = some n) (h : n.refs.all (okRef s i) = true) : wrongF s i (l.drop i) = wrongF s (i + 1) (l.drop (i + 1)) := by
  obtain ⟨hl, he⟩ := List.getElem?_eq_some_iff.1 hi
  rw [List.drop_eq_getElem_cons hl, wrongF, he, h]; rfl
theorem wrong_yes {s : Sh} {l : List Nd} {i k : Nat} {n : Nd} {r : Int} (hi : l[i]? = some n) (hk : n.refs[k]? = some r) (h : okRef s i r = false) : wrongF s i (l.drop i) = true := by
  obtain ⟨hl, he⟩ := List.getElem?_eq_some_iff.1 hi
  have : n.refs.all (okRef s i) = false := by
    rw [Bool.eq_false_iff]
    intro hh
    have := List.all_eq_true.1 hh r (List.mem_of_getElem? hk)
    rw [h] at this; cases this
  rw [List.drop_eq_getElem_cons hl, wrongF, he, this]; rfl
theorem all_next {p : Int → Bool} {l : List Int} {k : Nat} {r : Int} (hk : l[k]? = some r) (h : (l.take k).all p = true) (hr : p r = true) : (l.take (k + 1)).all p = true := by
  rw [List.take_add_one, hk, List.all_append, h]
  simp [hr]
end Go.Proofs.YtjgjacihdggimaaGreatDoor
namespace Go.Proofs.YtjgjacihdggimaaGreatDoor
open Go.RowKit
section
variable {w w' : World} {P : Nat → Prop} {m gN cN gB cB room : Nat} {nds : List Nd} {bs : List Bool}
set_option maxHeartbeats 8000000 in
set_option maxRecDepth 10000 in
theorem rwrong_any (h : RM w P m gN cN gB cB room nds bs) (l : List Nd) (Q : Nat → Prop) (A : Option Addr) (ca : Nat) (hl : RowN w Q A l) (hll : l.length ≤ 1000000) (hlr : ∀ n ∈ l, n.refs.length ≤ 1000000) :
    Calls Tryz.prog 53 #[.pointer (some ⟨m, 0, none⟩), .slice A l.length ca] w fun e w' => e = .returned (.bool (wrongF (stOf nds bs) 0 l)) ∧ w' = w := by
  have HR := Lib.hid h
  have HL := Lib.hid hl
  have HLr := Lib.hid hlr
  clear h hl hlr
  go_enter Tryz.func53, Tryz.ntmps53
  go_wp2_with fail
  go_loopw [5, 6, 7, 8] (fun vi _ _ _ wr => ∃ i : Nat, i ≤ l.length ∧ vi = .int .i64 (i : Int) ∧ Hid (wrongF (stOf nds bs) 0 l = wrongF (stOf nds bs) i (l.drop i)) ∧ wr = w) (fun vi _ _ _ _ => l.length - (RowKit.intOf vi).toNat)
  case atStart => exact ⟨0, Nat.zero_le _, rfl, Lib.hid (by rw [List.drop_zero]), rfl⟩
  case round =>
    obtain ⟨i, hi, rfl, HT, rfl⟩ := hrel
    by_cases hlt : i < l.length
    · obtain ⟨g, o, rfl, _, _, hat⟩ := HL.out.at hlt
      obtain ⟨n, hn⟩ : ∃ n, l[i]? = some n := ⟨_, List.getElem?_eq_getElem hlt⟩
      obtain ⟨B, cb, C, cc, ⟨_, q1, _, _⟩, hB, _⟩ := hat i n hn
      have hnr := HLr.out n (List.mem_of_getElem? hn)
      have HB := Lib.hid hB
      have Hn := Lib.hid hn
      clear hat hn hB
      go_wp2_with fail
      go_loopw [6, 7, 8] (fun vk _ _ wr2 => ∃ k : Nat, k ≤ n.refs.length ∧ vk = .int .i64 (k : Int) ∧ Hid ((n.refs.take k).all (okRef (stOf nds bs) i) = true) ∧ wr2 = wr) (fun vk _ _ _ => n.refs.length - (RowKit.intOf vk).toNat)
      case atStart => exact ⟨0, Nat.zero_le _, rfl, Lib.hid (by rw [List.take_zero]; rfl), rfl⟩
      case round =>
        obtain ⟨k, hk, rfl, HA, rfl⟩ := hrel
        by_cases hkl : k < n.refs.length
        · obtain ⟨g2, o2, rfl, _, _, hc⟩ := HB.out.at hkl
          obtain ⟨r, hr⟩ : ∃ r, n.refs[k]? = some r := ⟨_, List.getElem?_eq_getElem hkl⟩
          have q2 := hc k r hr
          have HH := Lib.hid (rHas_any HR.out r)
          have HO := Lib.hid (okRef_not (stOf nds bs) i r)
          have HY := Lib.hid (fun h => all_next hr HA.out h)
          have HN := Lib.hid (fun h => HT.out.trans (wrong_yes Hn.out hr h))
          have hwi : IntKind.i64.wrap (-(i : Int)) = -(i : Int) := by rw [IntKind.wrap_i64]; omega
          clear hc hr
          generalize live (stOf nds bs) r = V at *
          generalize okRef (stOf nds bs) i r = O at *
          go_wp2_with fail
          refine HH.out.mono ?_; rintro e w2 ⟨rfl, rfl⟩
          cases hp : decide (0 < r)
          · cases hm : decide (r < -(i : Int))
            · rw [hp, hm] at HO
              have HY2 := Lib.hid (HY.out (by rw [HO.out]; rfl))
              clear HO HY HN
              go_wp2_with fail
              go_roundw
              case rel => exact ⟨k + 1, by omega, by go_num, HY2, trivial⟩
              case measure => simp [RowKit.intOf]; omega
            · rw [hp, hm] at HO
              have HN2 := Lib.hid (HN.out (by rw [HO.out]; simp))
              clear HO HY HN
              go_wp2_with fail
              go_ret
              exact ⟨by rw [HN2.out]; rfl, rfl⟩
          · have hm : decide (r < -(i : Int)) = false := decide_eq_false (by have := of_decide_eq_true hp; omega)
            cases V
            · rw [hp, hm] at HO
              have HN2 := Lib.hid (HN.out (by rw [HO.out]; rfl))
              clear HO HY HN
              go_wp2_with fail
              go_ret
              exact ⟨by rw [HN2.out]; rfl, rfl⟩
            · rw [hp, hm] at HO
              have HY2 := Lib.hid (HY.out (by rw [HO.out]; rfl))
              clear HO HY HN
              go_wp2_with fail
              go_roundw
              case rel => exact ⟨k + 1, by omega, by go_num, HY2, trivial⟩
              case measure => simp [RowKit.intOf]; omega
        · have hkk : k = n.refs.length := by omega
          subst hkk
          have HA2 := HA.out
          rw [List.take_length] at HA2
          have HN := Lib.hid (HT.out.trans (wrong_next Hn.out HA2))
          clear HA2
          go_wp2_with fail
          go_roundw
          case rel => exact ⟨i + 1, by omega, by go_num, HN, trivial⟩
          case measure => simp [RowKit.intOf]; omega
    · have hii : i = l.length := by omega
      subst hii
      have HZ : Hid (wrongF (stOf nds bs) 0 l = false) := Lib.hid (by have := HT.out; rw [List.drop_length, wrongF] at this; exact this)
      go_wp2_with fail
      go_ret
      exact ⟨by rw [HZ.out]; rfl, rfl⟩
end
end Go.Proofs.YtjgjacihdggimaaGreatDoor
namespace Go.Proofs.YtjgjacihdggimaaGreatDoor
open Go.RowKit
section
variable {w w' : World} {P : Nat → Prop} {m gN cN gB cB room : Nat} {nds : List Nd} {bs : List Bool}
set_option maxHeartbeats 8000000 in
set_option maxRecDepth 10000 in
theorem rGet_any (h : RM w P m gN cN gB cB room nds bs) (r : Int) :
    Calls Tryz.prog 62 #[.pointer (some ⟨m, 0, none⟩), .int .i64 r] w fun e w' => ∃ A ca B cb, e = .returned (.tuple #[ndV (getN (stOf nds bs) r) A ca B cb, .int .i64 (getE (stOf nds bs) r)]) ∧ RowI w' P A (getN (stOf nds bs) r).refs ∧ RowI w' P B (getN (stOf nds bs) r).nums ∧ Below w.heap.size w w' := by
  have hlen := h.len
  have HR := Lib.hid h
  have HH := Lib.hid (fun w' (hb : Below w.heap.size w w') => rHas_any (h.below hb) r)
  have hE : Hid (getE (stOf nds bs) r = if live (stOf nds bs) r = true then 0 else 4) := Lib.hid rfl
  have hz : w.heap.size ≠ m := by have := h.lM; omega
  have zm := h.lM
  cases hv : live (stOf nds bs) r with
  | false =>
    have hN : getN (stOf nds bs) r = nd0 := by unfold getN; unfold live at hv; cases e : ndAt (stOf nds bs) r with | none => rfl | some x => rw [e] at hv; cases hv
    rw [hN]
    rw [hv] at hE HH
    have HE := Lib.hid (hE.out.trans (if_neg (by decide)))
    clear h hN hv hE hlen
    go_enter Tryz.func62, Tryz.ntmps62
    go_wp2_with fail
    refine (HH.out _ ((Below.refl _ _).alloc (Nat.le_refl _) _)).mono ?_; rintro e w1 ⟨rfl, rfl⟩
    go_wp2_with fail
    exact bodyPost_ret (v := .tuple #[ndV nd0 none 0 none 0, .int .i64 4]) (by simp [results, Tryz.results62, go_sem, ndV, nd0]) rfl ⟨_, _, _, _, by rw [HE.out], .inl rfl, .inl rfl, by first | exact (Below.refl _ _).alloc (Nat.le_refl _) _ | exact ((((((Below.refl _ _).alloc (Nat.le_refl _) _).setCell (Nat.le_refl _) _).setCell (Nat.le_refl _) _).setCell (Nat.le_refl _) _).setCell (Nat.le_refl _) _)⟩
  | true =>
    have hb := live_bound hv
    obtain ⟨i, rfl⟩ : ∃ i : Nat, r = (i : Int) := ⟨r.toNat, by omega⟩
    rw [st_len hlen] at hb
    have hbi := (st_live hlen i (by omega)).1 hv
    obtain ⟨n, hn⟩ : ∃ n, nds[i]? = some n := ⟨_, List.getElem?_eq_getElem (by omega)⟩
    have hN : getN (stOf nds bs) (i : Int) = n := by unfold getN; rw [st_ndAt hlen i (by omega), if_pos hbi, hn]; rfl
    rw [hN]
    rw [hv] at hE HH
    have HE := Lib.hid (hE.out.trans (if_pos rfl))
    obtain ⟨B, cb, C, cc, ⟨q0, q1, q2, q3⟩, hB, hC⟩ := h.rows i n hn
    have HB := Lib.hid (hB.mono (Q := P) fun g hg _ => hg.1)
    have HC := Lib.hid (hC.mono (Q := P) fun g hg _ => hg.1)
    have c1 := h.c1
    have zN := h.lN
    have hI : (i : Int) < (nds.length : Int) := by omega
    clear h hN hv hE hlen hb hbi hn hB hC
    go_enter Tryz.func62, Tryz.ntmps62
    go_wp2_with fail
    refine (HH.out _ ((Below.refl _ _).alloc (Nat.le_refl _) _)).mono ?_; rintro e w1 ⟨rfl, rfl⟩
    go_wp2_with fail
    exact bodyPost_ret (v := .tuple #[ndV n B cb C cc, .int .i64 0]) (by simp [results, Tryz.results62, go_sem, ndV]) rfl ⟨_, _, _, _, by rw [HE.out], HB.out.below ((Below.refl _ _).alloc (Nat.le_refl _) _), HC.out.below ((Below.refl _ _).alloc (Nat.le_refl _) _), (Below.refl _ _).alloc (Nat.le_refl _) _⟩
set_option maxHeartbeats 8000000 in
set_option maxRecDepth 10000 in
theorem rLive_any (h : RM w P m gN cN gB cB room nds bs) :
    Calls Tryz.prog 24 #[.pointer (some ⟨m, 0, none⟩)] w fun e w' => ∃ A ca, e = .returned (.slice A (liveA (stOf nds bs)).length ca) ∧ RowI w' (fun g => w.heap.size ≤ g) A (liveA (stOf nds bs)) ∧ Below w.heap.size w w' := by
  obtain ⟨i0, hi0, hz0, hz1, hz2⟩ := info_parts int_info
  have HR := Lib.hid h
  have HLv := Lib.hid (st_liveA h.len)
  have hone := h.one
  have hcap := h.cap
  have hsm := h.small
  generalize liveA (stOf nds bs) = LV at *
  have HDa := Lib.hid (fun i : Nat => show (bs.drop 1)[i]? = bs[i + 1]? by rw [List.getElem?_drop, Nat.add_comm 1 i])
  have HDl : Hid ((bs.drop 1).length = bs.length - 1) := Lib.hid List.length_drop
  generalize bs.drop 1 = D at *
  clear h
  go_enter Tryz.func24, Tryz.ntmps24
  go_wp2_with fail
  go_loopw [3, 4] (fun v vi wr => ∃ i : Nat, i + 1 ≤ bs.length ∧ vi = .int .i64 ((i : Int) + 1) ∧ Hid (OwnR 3 1 inW w.heap.size wr v (tru 1 (D.take i))) ∧ Below w.heap.size w wr) (fun _ vi _ => bs.length - (RowKit.intOf vi).toNat)
  case atStart => exact ⟨0, by omega, rfl, Lib.hid (by rw [List.take_zero]; exact World.ownsRow_nil _ _ _ _), Below.refl _ _⟩
  case round =>
    obtain ⟨i, hi, rfl, HO, hb⟩ := hrel
    have hr := HR.out.below hb
    have c2 := hr.c2
    by_cases hlt : i + 1 < bs.length
    · obtain ⟨b, hbb⟩ : ∃ b, bs[i + 1]? = some b := ⟨_, List.getElem?_eq_getElem hlt⟩
      have q0 := hr.bits _ _ hbb
      have HT := Lib.hid (tru_take (l := D) (i := i) (b := b) ((HDa.out i).trans hbb) 1)
      have hlT : (tru 1 (D.take i)).length ≤ 65536 := by
        have := tru_len (D.take i) 1
        rw [List.length_take] at this
        omega
      clear hbb hr
      cases b with
      | false =>
        have HT2 : Hid (tru 1 (D.take (i + 1)) = tru 1 (D.take i)) := Lib.hid (by rw [HT.out]; simp)
        go_wp2_with fail
        go_roundw
        case rel => exact ⟨i + 1, by omega, by go_num, by rw [HT2.out]; exact HO, hb⟩
        case measure => simp [RowKit.intOf]; omega
      | true =>
        have HT2 : Hid (tru 1 (D.take i) ++ [(i : Int) + 1] = tru 1 (D.take (i + 1))) := Lib.hid (by rw [HT.out, Int.add_comm]; rfl)
        have hbs := hb.size
        go_wp2_with (at_builtin; refine of_stop ?_)
        refine stop_of ?_
        refine wpList_append_rows (f := inW) (n := 1) (E := 3) (nb := 8) (X := tru 1 (D.take i)) (base := w.heap.size) rfl _ _ rfl rfl (OwnR.below HO.out ((Below.refl _ _).alloc (Nat.le_refl _) _)) (L2 := [(i : Int) + 1]) rfl (one_row wr ((i : Int) + 1)) (by simp) (N := (tru 1 (D.take i)).length + 1) rfl (Z := tru 1 (D.take (i + 1))) HT2.out Tryz.underlying54 hi0 hz0 hz1 hz2 rfl (by decide) (by decide) (fun _ => rfl) inW_one (by omega) (by simp; omega) ?_
        intro g2 k2 w2 ho2 hg2 hat2 hl2
        have hb2 : Below w.heap.size w w2 := (hb.alloc hbs _).grown hg2 (by simp; omega) (fun k hk => (World.ownsRow.lt HO.out k hk).1)
        have HO2 := Lib.hid ho2
        clear ho2 hg2 hat2 hl2
        go_wp2_with fail
        go_roundw
        case rel => exact ⟨i + 1, by omega, by go_num, HO2, hb2⟩
        case measure => simp [RowKit.intOf]; omega
    · have hii : i = bs.length - 1 := by omega
      have HO2 : Hid (OwnR 3 1 inW w.heap.size wr _ LV) := Lib.hid (by rw [HLv.out]; have := HO.out; rwa [hii, List.take_of_length_le (by rw [HDl.out]; omega)] at this)
      obtain ⟨A, cap, rfl, hA⟩ := own_rowI HO2.out
      go_wp2_with fail
      go_ret
      exact ⟨A, cap, rfl, hA, hb⟩
end
end Go.Proofs.YtjgjacihdggimaaGreatDoor
