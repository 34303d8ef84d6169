/- Texts joined: NdQ, NdRk, NdR, NdTp, OpO. -/
import Derived.Test.YtjgadggehpmdkaaGreatDoorTj06
import Derived.Deep.LoopGhost
import Derived.Test.YtjgadggehpmdkaaGreatDoorTj03
import Derived.Test.YtjgadggehpmdkaaGreatDoorTj01
set_option linter.all false
namespace Go.Proofs.YtjgadggehpmdkaaGreatDoor
open Go.RowKit
structure BI (w : World) (g : Nat) (ins : List Bool) : Prop where
  bits : ∀ (i : Nat) (b : Bool), ins[i]? = some b → w.cell? ⟨g, i, none⟩ = some (.bool b)
  froz : ∀ j, w.frozen? ⟨g, j, none⟩ = false
  lt : g < w.heap.size
theorem BI.set {w : World} {g : Nat} {ins : List Bool} (h : BI w g ins) {j : Nat} (hj : j < ins.length) : BI (w.setCell ⟨g, j, none⟩ (.bool true)) g (ins.set j true) := by
  refine ⟨fun i b hi => ?_, fun i => by rw [World.frozen?_setCell]; exact h.froz i, by simpa using h.lt⟩
  by_cases e : j = i
  · subst e
    rw [List.getElem?_set_self hj] at hi
    obtain rfl := Option.some.inj hi
    exact World.cell?_setCell_same _ _ _ (h.bits j _ (List.getElem?_eq_getElem hj))
  · rw [List.getElem?_set_ne e] at hi
    rw [World.cell?_setCell_other _ _ _ _ (fun e' => e (by have := congrArg Addr.off e'; exact this))]
    exact h.bits i b hi
theorem BI.below {w w' : World} {g : Nat} {ins : List Bool} (h : BI w g ins) (hb : Below w.heap.size w w') : BI w' g ins :=
  ⟨fun i b hi => keep_cell hb (h.bits i b hi), fun j => keep_frozen hb (by exact h.lt) (h.froz j), Nat.lt_of_lt_of_le h.lt hb.size⟩
theorem made_bits (n : Nat) : (madeCells (Value.bool false).cells (n * 1)).toList = (List.replicate n false).flatMap boV := by
  apply List.ext_getElem?
  intro i
  by_cases hi : i < n
  · have h1 : ((List.replicate n false).flatMap boV)[i]? = some (.bool false) := by
      have := flatR_at (f := boV) (n := 1) (fun _ => rfl) (List.replicate n false) i false (by rw [List.getElem?_replicate, if_pos hi]) 0 (.bool false) rfl
      simpa using this
    rw [h1]
    simp [madeCells, hi, Value.cells, Nat.mod_one]
  · rw [List.getElem?_eq_none_iff.2 (by simp [madeCells]; omega), List.getElem?_eq_none_iff.2 (by rw [flatR_len (f := boV) (n := 1) (fun _ => rfl)]; simp; omega)]
theorem BI.made {w : World} {base g n c : Nat} (h : w.ownsRow base 4 1 (.slice (some ⟨g, 0, none⟩) n c) n (madeCells (Value.bool false).cells (n * 1)).toList) : BI w g (List.replicate n false) := by
  rw [made_bits] at h
  have ho : OwnR 4 1 boV base w (.slice (some ⟨g, 0, none⟩) n c) (List.replicate n false) := by unfold OwnR; rw [List.length_replicate]; exact h
  exact ⟨bits_atR (OwnR.at (fun _ => rfl) ho (by rw [List.length_replicate])), World.ownsRow.frozenAt h, (World.ownsRow.lt h g rfl).2⟩
structure MkI (s : Sh) (roots : List Int) (n : Nat) (ins : List Bool) : Prop where
  len : ins.length = n
  sound : ∀ j : Nat, ins[j]? = some true → 1 ≤ j ∧ Rch s roots (j : Int)
def Hands (nds : List Nd) (ins : List Bool) (j k : Nat) : Prop := ∀ n, nds[j]? = some n → ∀ r ∈ n.refs.take k, 0 < r → ins[r.toNat]? = some true
theorem set_true {ins : List Bool} {i j : Nat} (h : ins[j]? = some true) : (ins.set i true)[j]? = some true := by
  by_cases e : i = j
  · subst e; rw [List.getElem?_set_self (List.getElem?_eq_some_iff.1 h).1]
  · rw [List.getElem?_set_ne e]; exact h
theorem MkI.set {s : Sh} {roots : List Int} {n : Nat} {ins : List Bool} {i : Nat} (h : MkI s roots n ins) (h1 : 1 ≤ i) (hr : Rch s roots (i : Int)) : MkI s roots n (ins.set i true) :=
  ⟨by rw [List.length_set]; exact h.len, fun j hj => by
    by_cases e : i = j
    · subst e; exact ⟨h1, hr⟩
    · rw [List.getElem?_set_ne e] at hj; exact h.sound j hj⟩
section
variable {w w' : World} {P Q : Nat → Prop} {m gN cN gB cB room : Nat} {nds : List Nd} {bs : List Bool}
set_option maxHeartbeats 16000000 in
set_option maxRecDepth 10000 in
theorem rReach_any (h : RM w P m gN cN gB cB room nds bs) (hinv : Inv room (stOf nds bs)) (roots : List Int) (R : Option Addr) (cr : Nat) (hR : RowI w Q R roots) (hrl : roots.length ≤ 1000000) :
    Calls Tryz.prog 55 #[.pointer (some ⟨m, 0, none⟩), .slice R roots.length cr] w fun e w' => ∃ A ca, e = .returned (.slice A (reachA (stOf nds bs) roots).length ca) ∧ RowI w' (fun g => w.heap.size ≤ g) A (reachA (stOf nds bs) roots) ∧ Below w.heap.size w w' := by
  obtain ⟨i0, hi0, hz0, hz1, hz2⟩ := info_parts int_info
  obtain ⟨i1, hi1, hy0, hy1, hy2⟩ := info_parts bool_info
  have HR := Lib.hid h
  have HI := Lib.hid hinv
  have HRo := Lib.hid hR
  have hone := h.one
  have hcap := h.cap
  have hsm := h.small
  have hlen := h.len
  have c2 := h.c2
  clear h hinv hR
  obtain ⟨w1, hmk, ho1, hg1⟩ := run_make_full (P := Tryz.prog) w w.heap.size 77 4 i1 (.bool false) 1 Tryz.underlying77 hi1 hy0 hy1 .i64 .i64 bs.length (by rw [hy2]; omega) (by unfold maxLen; omega) (Nat.le_refl _)
  have hb1 : Below w.heap.size w w1 := ⟨hg1.os, hg1.tape, hg1.output, hg1.size, fun k hk => hg1.block k hk (by simp)⟩
  have HB1 := Lib.hid (BI.made ho1)
  have HM1 : Hid (MkI (stOf nds bs) roots bs.length (List.replicate bs.length false)) := Lib.hid ⟨by simp, fun j hj => by rw [List.getElem?_replicate] at hj; split at hj <;> cases hj⟩
  have hgl := HB1.out.lt
  clear ho1 hg1
  go_enter Tryz.func55, Tryz.ntmps55
  go_wp2_with fail
  clear hmk c2
  go_loopw [6, 7] (fun vi _ wr => ∃ (i : Nat) (ins : List Bool), i ≤ roots.length ∧ vi = .int .i64 (i : Int) ∧ Hid (BI wr w.heap.size ins) ∧ Hid (MkI (stOf nds bs) roots bs.length ins) ∧ Hid (∀ r ∈ roots.take i, live (stOf nds bs) r = true → ins[r.toNat]? = some true) ∧ Below w.heap.size w wr) (fun vi _ _ => roots.length - (RowKit.intOf vi).toNat)
  case atStart => exact ⟨0, _, Nat.zero_le _, rfl, HB1, HM1, Lib.hid (fun r hr => by rw [List.take_zero] at hr; cases hr), hb1⟩
  case round =>
    obtain ⟨i, ins, hi, rfl, HB, HM, HC, hb⟩ := hrel
    have hr := HR.out.below hb
    have HRr := Lib.hid hr
    by_cases hlt : i < roots.length
    · obtain ⟨g, o, rfl, _, _, hc⟩ := HRo.out.at hlt
      obtain ⟨r, hrr⟩ : ∃ r, roots[i]? = some r := ⟨_, List.getElem?_eq_getElem hlt⟩
      have q0 := keep_cell hb (hc i r hrr)
      have HH := Lib.hid (rHas_any hr r)
      have Hrr := Lib.hid hrr
      have hlv := st_live' hlen r
      cases hv : live (stOf nds bs) r with
      | false =>
        rw [hv] at HH
        have HC2 : Hid (∀ r ∈ roots.take (i + 1), live (stOf nds bs) r = true → ins[r.toNat]? = some true) := Lib.hid fun r' hr' hl' => by
          rw [List.take_add_one, hrr] at hr'
          rcases List.mem_append.1 hr' with e | e
          · exact HC.out r' e hl'
          · obtain rfl : r' = r := by simpa using e
            rw [hv] at hl'; cases hl'
        clear hc hrr hr hlv hv
        go_wp2_with fail
        refine HH.out.mono ?_; rintro e w2 ⟨rfl, rfl⟩
        go_wp2_with fail
        go_roundw
        case rel => exact ⟨i + 1, ins, by omega, by go_num, HB, HM, HC2, hb⟩
        case measure => simp [RowKit.intOf]; omega
      | true =>
        have hbd := live_bound hv
        rw [st_len hlen] at hbd
        obtain ⟨j, rfl⟩ : ∃ j : Nat, r = (j : Int) := ⟨r.toNat, by omega⟩
        rw [hv] at HH
        have hji : j < ins.length := by rw [HM.out.len]; omega
        have sB := HB.out.bits j _ (List.getElem?_eq_getElem hji)
        have sF := HB.out.froz j
        have hjl : (j : Int) < (bs.length : Int) := by omega
        have HM2 := Lib.hid (HM.out.set (i := j) (by omega) (.root _ (List.mem_of_getElem? hrr) hv))
        have HC2 : Hid (∀ r ∈ roots.take (i + 1), live (stOf nds bs) r = true → (ins.set j true)[r.toNat]? = some true) := Lib.hid fun r' hr' hl' => by
          rw [List.take_add_one, hrr] at hr'
          rcases List.mem_append.1 hr' with e | e
          · exact set_true (HC.out r' e hl')
          · obtain rfl : r' = (j : Int) := by simpa using e
            rw [show ((j : Int)).toNat = j by omega, List.getElem?_set_self hji]
        have HB2 := Lib.hid (HB.out.set hji)
        clear hc hrr hr hlv hv hbd
        go_wp2_with fail
        refine HH.out.mono ?_; rintro e w2 ⟨rfl, rfl⟩
        go_wp2_with fail
        go_roundw
        case rel => exact ⟨i + 1, _, by omega, by go_num, HB2, HM2, HC2, hb.setCell (Nat.le_refl _) _⟩
        case measure => simp [RowKit.intOf]; omega
    · have hii : i = roots.length := by omega
      subst hii
      have HC0 : Hid (∀ r ∈ roots, live (stOf nds bs) r = true → ins[r.toNat]? = some true) := Lib.hid (by have := HC.out; rwa [List.take_length] at this)
      have HBa := HB
      have HMa := HM
      have hba := hb
      clear hr HRr HB HM HC hb hi hlt
      go_wp2_with fail
      go_loopg [8, 9, 10, 11] (2 * fls ins + 1) (fun gn vm _ _ _ wr2 => ∃ (ins2 : List Bool) (mo : Bool), gn = 2 * fls ins2 + (if mo then 1 else 0) ∧ vm = .bool mo ∧ Hid (BI wr2 w.heap.size ins2) ∧ Hid (MkI (stOf nds bs) roots bs.length ins2) ∧ Hid (∀ r ∈ roots, live (stOf nds bs) r = true → ins2[r.toNat]? = some true) ∧ Hid (mo = false → ∀ (j : Nat) (k : Nat), ins2[j]? = some true → Hands nds ins2 j k) ∧ Below w.heap.size w wr2)
      case atStart => exact ⟨ins, true, rfl, rfl, HBa, HMa, HC0, Lib.hid (fun e => by cases e), hba⟩
      case round =>
        obtain ⟨ins2, mo, hgn, rfl, HB2, HM2, HC2, HH2, hb2⟩ := hrel
        cases mo with
        | true =>
          clear HH2
          go_wp2_with fail
          go_loopw [8, 9, 10, 11] (fun vm vh _ _ wr3 => ∃ (h : Nat) (ins3 : List Bool) (mo : Bool), 1 ≤ h ∧ h ≤ bs.length ∧ vm = .bool mo ∧ vh = .int .i64 (h : Int) ∧ Hid (fls ins3 ≤ fls ins2 ∧ (mo = true → fls ins3 < fls ins2)) ∧ Hid (BI wr3 w.heap.size ins3) ∧ Hid (MkI (stOf nds bs) roots bs.length ins3) ∧ Hid (∀ r ∈ roots, live (stOf nds bs) r = true → ins3[r.toNat]? = some true) ∧ Hid (mo = false → ∀ (j : Nat) (k : Nat), j < h → ins3[j]? = some true → Hands nds ins3 j k) ∧ Below w.heap.size w wr3) (fun _ vh _ _ _ => bs.length - (RowKit.intOf vh).toNat)
          case atStart => exact ⟨1, ins2, false, Nat.le_refl _, hone, rfl, rfl, Lib.hid ⟨Nat.le_refl _, fun e => by cases e⟩, HB2, HM2, HC2, Lib.hid (fun _ j k hj hi => by have := (HM2.out.sound j hi).1; omega), hb2⟩
          case round =>
            obtain ⟨h, ins3, mo, h1, hh, rfl, rfl, HF3, HB3, HM3, HC3, HH3, hb3⟩ := hrel
            by_cases hlt : h < bs.length
            · obtain ⟨n, hn⟩ : ∃ n, nds[h]? = some n := ⟨_, List.getElem?_eq_getElem (by omega)⟩
              obtain ⟨B, cb, C, cc, ⟨_, q1, _, _⟩, hB, _⟩ := HR.out.rows h n hn
              have HQ := Lib.hid (And.intro HR.out.c1 (And.intro q1 hB))
              have Hn := Lib.hid hn
              have hwd := (HR.out.wide n (List.mem_of_getElem? hn)).1
              clear q1 hB hn
              go_wp2_with fail
              go_loopw [8, 10, 11] (fun vm vk _ wr4 => ∃ (k : Nat) (ins4 : List Bool) (mo : Bool), k ≤ n.refs.length ∧ vm = .bool mo ∧ vk = .int .i64 (k : Int) ∧ Hid (fls ins4 ≤ fls ins2 ∧ (mo = true → fls ins4 < fls ins2)) ∧ Hid (BI wr4 w.heap.size ins4) ∧ Hid (MkI (stOf nds bs) roots bs.length ins4) ∧ Hid (∀ r ∈ roots, live (stOf nds bs) r = true → ins4[r.toNat]? = some true) ∧ Hid (mo = false → ∀ (j : Nat) (k' : Nat), j < h → ins4[j]? = some true → Hands nds ins4 j k') ∧ Hid (∀ r ∈ n.refs.take k, 0 < r → ins4[r.toNat]? = some true) ∧ Below w.heap.size w wr4) (fun _ vk _ _ => n.refs.length - (RowKit.intOf vk).toNat)
              case atStart => exact ⟨0, ins3, mo, Nat.zero_le _, rfl, rfl, HF3, HB3, HM3, HC3, HH3, Lib.hid (fun r hr => by rw [List.take_zero] at hr; cases hr), hb3⟩
              case round =>
                obtain ⟨k, ins4, mo, hk, rfl, rfl, HF4, HB4, HM4, HC4, HH4, HK4, hb4⟩ := hrel
                have hhl : h < ins4.length := by rw [HM4.out.len]; omega
                obtain ⟨b, hbb⟩ : ∃ b, ins4[h]? = some b := ⟨_, List.getElem?_eq_getElem hhl⟩
                have sH := HB4.out.bits h b hbb
                have c1 := keep_cell hb4 HQ.out.1
                have q1 := keep_cell hb4 HQ.out.2.1
                have hI : (h : Int) < (nds.length : Int) := by omega
                have hI2 : (h : Int) < (bs.length : Int) := by omega
                have hE : ∀ (hl : b = true → n.refs.length ≤ k), Hid (mo = false → ∀ (j : Nat) (k' : Nat), j < h + 1 → ins4[j]? = some true → Hands nds ins4 j k') := fun hl => Lib.hid fun hm j k' hj hi => by
                  by_cases e : j = h
                  · subst e
                    rw [hbb] at hi
                    have hbt : b = true := Option.some.inj hi
                    intro n' hn' r hr hp
                    rw [Hn.out] at hn'
                    obtain rfl := Option.some.inj hn'
                    have hkl := hl hbt
                    refine HK4.out r ?_ hp
                    rw [List.take_of_length_le hkl]
                    exact List.mem_of_mem_take hr
                  · exact HH4.out hm j k' (by omega) hi
                have HE := Lib.hid hE
                clear hE
                cases b with
                | false =>
                  have HE2 := HE.out (fun e => by cases e)
                  clear HE hbb
                  go_wp2_with fail
                  go_roundw
                  case rel => exact ⟨h + 1, ins4, mo, by omega, by omega, rfl, by go_num, HF4, HB4, HM4, HC4, HE2, hb4⟩
                  case measure => simp [RowKit.intOf]; omega
                | true =>
                  by_cases hkl : k < n.refs.length
                  · obtain ⟨g2, o2, rfl, _, _, hc⟩ := (HQ.out.2.2).at hkl
                    obtain ⟨r, hr⟩ : ∃ r, n.refs[k]? = some r := ⟨_, List.getElem?_eq_getElem hkl⟩
                    have q2 := keep_cell hb4 (hc k r hr)
                    have hkI : (k : Int) < (n.refs.length : Int) := by omega
                    have hRh := (HM4.out.sound h hbb).2
                    have hnA : ndAt (stOf nds bs) (h : Int) = some n := by
                      rw [st_ndAt hlen h h1, if_pos ((st_live hlen h h1).1 (rch_live HI.out hRh))]; exact Hn.out
                    clear HE hc
                    by_cases hp : 0 < r
                    · have hlv : live (stOf nds bs) r = true := by
                        rcases HI.out.shut _ n hnA r (List.mem_of_getElem? hr) with e | e
                        · omega
                        · exact e
                      have hbd := live_bound hlv
                      rw [st_len hlen] at hbd
                      obtain ⟨j, rfl⟩ : ∃ j : Nat, r = (j : Int) := ⟨r.toNat, by omega⟩
                      have hRr : Rch (stOf nds bs) roots (j : Int) := .ref _ _ n hRh hnA (List.mem_of_getElem? hr) hp
                      have hji : j < ins4.length := by rw [HM4.out.len]; omega
                      have hjl : (j : Int) < (bs.length : Int) := by omega
                      obtain ⟨c, hcj⟩ : ∃ c, ins4[j]? = some c := ⟨_, List.getElem?_eq_getElem hji⟩
                      have sB := HB4.out.bits j _ hcj
                      have sF := HB4.out.froz j
                      have dp : decide ((0 : Int) < (j : Int)) = true := decide_eq_true hp
                      have dpN : decide (0 < j) = true := decide_eq_true (by omega)
                      cases c with
                      | true =>
                        have HK5 : Hid (∀ r ∈ n.refs.take (k + 1), 0 < r → ins4[r.toNat]? = some true) := Lib.hid fun r' hr' hp' => by
                          rw [List.take_add_one, hr] at hr'
                          rcases List.mem_append.1 hr' with e | e
                          · exact HK4.out r' e hp'
                          · obtain rfl : r' = (j : Int) := by simpa using e
                            rw [show ((j : Int)).toNat = j by omega]; exact hcj
                        clear hbb hr hRh hnA hlv hbd hRr hcj hp
                        go_wp2_with fail
                        go_roundw
                        case rel => exact ⟨k + 1, ins4, mo, by omega, rfl, by go_num, HF4, HB4, HM4, HC4, HH4, HK5, hb4⟩
                        case measure => simp [RowKit.intOf]; omega
                      | false =>
                        have hfl := fls_set ins4 j hcj
                        have HF5 : Hid (fls (ins4.set j true) ≤ fls ins2 ∧ (true = true → fls (ins4.set j true) < fls ins2)) := Lib.hid ⟨by have := HF4.out.1; omega, fun _ => by have := HF4.out.1; omega⟩
                        have HM5 := Lib.hid (HM4.out.set (i := j) (by omega) hRr)
                        have HB5 := Lib.hid (HB4.out.set hji)
                        have HC5 : Hid (∀ r ∈ roots, live (stOf nds bs) r = true → (ins4.set j true)[r.toNat]? = some true) := Lib.hid fun r' hr' hl' => set_true (HC4.out r' hr' hl')
                        have HK5 : Hid (∀ r ∈ n.refs.take (k + 1), 0 < r → (ins4.set j true)[r.toNat]? = some true) := Lib.hid fun r' hr' hp' => by
                          rw [List.take_add_one, hr] at hr'
                          rcases List.mem_append.1 hr' with e | e
                          · exact set_true (HK4.out r' e hp')
                          · obtain rfl : r' = (j : Int) := by simpa using e
                            rw [show ((j : Int)).toNat = j by omega, List.getElem?_set_self hji]
                        have HH5 : Hid (true = false → ∀ (j' : Nat) (k' : Nat), j' < h → (ins4.set j true)[j']? = some true → Hands nds (ins4.set j true) j' k') := Lib.hid (fun e => by cases e)
                        clear hbb hr hRh hnA hlv hbd hRr hcj hp hfl
                        go_wp2_with fail
                        go_roundw
                        case rel => exact ⟨k + 1, ins4.set j true, true, by omega, rfl, by go_num, HF5, HB5, HM5, HC5, HH5, HK5, hb4.setCell (Nat.le_refl _) _⟩
                        case measure => simp [RowKit.intOf]; omega
                    · have dp : decide ((0 : Int) < r) = false := decide_eq_false hp
                      have HK5 : Hid (∀ r ∈ n.refs.take (k + 1), 0 < r → ins4[r.toNat]? = some true) := Lib.hid fun r' hr' hp' => by
                        rw [List.take_add_one, hr] at hr'
                        rcases List.mem_append.1 hr' with e | e
                        · exact HK4.out r' e hp'
                        · obtain rfl : r' = r := by simpa using e
                          exact absurd hp' hp
                      clear hbb hr hRh hnA hp
                      go_wp2_with fail
                      go_roundw
                      case rel => exact ⟨k + 1, ins4, mo, by omega, rfl, by go_num, HF4, HB4, HM4, HC4, HH4, HK5, hb4⟩
                      case measure => simp [RowKit.intOf]; omega
                  · have HE2 := HE.out (fun _ => by omega)
                    have hkI : decide ((k : Int) < (n.refs.length : Int)) = false := decide_eq_false (by omega)
                    clear HE hbb
                    go_wp2_with fail
                    go_roundw
                    case rel => exact ⟨h + 1, ins4, mo, by omega, by omega, rfl, by go_num, HF4, HB4, HM4, HC4, HE2, hb4⟩
                    case measure => simp [RowKit.intOf]; omega
            · have hhh : h = bs.length := by omega
              subst hhh
              have HH4 : Hid (mo = false → ∀ (j : Nat) (k : Nat), ins3[j]? = some true → Hands nds ins3 j k) := Lib.hid fun e j k hj => HH3.out e j k (by have := (List.getElem?_eq_some_iff.1 hj).1; rw [HM3.out.len] at this; exact this) hj
              have hf3 := HF3.out
              go_wp2_with fail
              go_roundg (2 * fls ins3 + (if mo then 1 else 0))
              case measure => rw [hgn]; cases mo <;> simp at hf3 ⊢ <;> omega
              case rel => exact ⟨ins3, mo, rfl, rfl, HB3, HM3, HC3, HH4, hb3⟩
        | false =>
          have HZ := Lib.hid (st_reach (room := room) hlen HM2.out.len HI.out (rch_marks hlen (fun i h1 hi => (HM2.out.sound i hi).2) HC2.out (fun i n h1 hi hn r hr hp => HH2.out rfl i n.refs.length hi n hn r (by rw [List.take_length]; exact hr) hp)))
          have HDa := Lib.hid (fun i : Nat => show (ins2.drop 1)[i]? = ins2[i + 1]? by rw [List.getElem?_drop, Nat.add_comm 1 i])
          have HDl : Hid ((ins2.drop 1).length = bs.length - 1) := Lib.hid (by rw [List.length_drop, HM2.out.len])
          have HIl := Lib.hid HM2.out.len
          generalize hLVe : reachA (stOf nds bs) roots = LV at *
          have HLV := Lib.hid hLVe
          clear hLVe
          generalize ins2.drop 1 = D at *
          have hsz2 := hb2.size
          clear HH2 HC2 HM2 HC0 HBa HMa HM1 HB1 hba HRo hgn
          go_wp2_with fail
          go_loopw [12, 13] (fun v vi wr => ∃ i : Nat, i + 1 ≤ bs.length ∧ vi = .int .i64 ((i : Int) + 1) ∧ Hid (BI wr w.heap.size ins2) ∧ Hid (OwnR 3 1 inW (w.heap.size + 1) wr v (tru 1 (D.take i))) ∧ Below w.heap.size w wr ∧ w.heap.size < wr.heap.size) (fun _ vi _ => bs.length - (RowKit.intOf vi).toNat)
          case atStart => exact ⟨0, by omega, rfl, HB2, Lib.hid (by rw [List.take_zero]; exact World.ownsRow_nil _ _ _ _), hb2, HB2.out.lt⟩
          case round =>
            obtain ⟨i, hi, rfl, HB, HO, hb, hsl⟩ := hrel
            by_cases hlt : i + 1 < bs.length
            · obtain ⟨b, hbb⟩ : ∃ b, ins2[i + 1]? = some b := ⟨_, List.getElem?_eq_getElem (by rw [HIl.out]; exact hlt)⟩
              have q0 := HB.out.bits _ _ hbb
              have HT := Lib.hid (tru_take (l := D) (i := i) (b := b) ((HDa.out i).trans hbb) 1)
              have hlT : (tru 1 (D.take i)).length ≤ 65536 := by
                have := tru_len (D.take i) 1
                rw [List.length_take] at this
                omega
              clear hbb
              cases b with
              | false =>
                have HT2 : Hid (tru 1 (D.take (i + 1)) = tru 1 (D.take i)) := Lib.hid (by rw [HT.out]; simp)
                go_wp2_with fail
                go_roundw
                case rel => exact ⟨i + 1, by omega, by go_num, HB, by rw [HT2.out]; exact HO, hb, hsl⟩
                case measure => simp [RowKit.intOf]; omega
              | true =>
                have HT2 : Hid (tru 1 (D.take i) ++ [(i : Int) + 1] = tru 1 (D.take (i + 1))) := Lib.hid (by rw [HT.out, Int.add_comm]; rfl)
                have hbs := hb.size
                go_wp2_with (at_builtin; refine of_stop ?_)
                refine stop_of ?_
                refine wpList_append_rows (f := inW) (n := 1) (E := 3) (nb := 8) (X := tru 1 (D.take i)) (base := w.heap.size + 1) rfl _ _ rfl rfl (OwnR.below HO.out ((Below.refl _ _).alloc (Nat.le_refl _) _)) (L2 := [(i : Int) + 1]) rfl (one_row wr ((i : Int) + 1)) (by simp) (N := (tru 1 (D.take i)).length + 1) rfl (Z := tru 1 (D.take (i + 1))) HT2.out Tryz.underlying32 hi0 hz0 hz1 hz2 rfl (by decide) (by decide) (fun _ => rfl) inW_one (by omega) (by simp; omega) ?_
                intro g2 k2 w2 ho2 hg2 hat2 hl2
                have hb2' : Below (w.heap.size + 1) wr w2 := ((Below.refl _ _).alloc (by omega) _).grown hg2 (by simp; omega) (fun k hk => (World.ownsRow.lt HO.out k hk).1)
                have HB3 : Hid (BI w2 w.heap.size ins2) := Lib.hid ⟨fun j b hj => by rw [hb2'.cell (by show w.heap.size < _; omega)]; exact HB.out.bits j b hj, fun j => by rw [hb2'.frozen (by show w.heap.size < _; omega)]; exact HB.out.froz j, Nat.lt_of_lt_of_le HB.out.lt hb2'.size⟩
                have HO2 := Lib.hid ho2
                have hbw := hb.trans (hb2'.mono (Nat.le_succ _))
                have hs2 := hb2'.size
                clear ho2 hg2 hat2 hl2 hb2'
                go_wp2_with fail
                go_roundw
                case rel => exact ⟨i + 1, by omega, by go_num, HB3, HO2, hbw, by omega⟩
                case measure => simp [RowKit.intOf]; omega
            · have hii : i = bs.length - 1 := by omega
              have HO2 : Hid (OwnR 3 1 inW (w.heap.size + 1) wr _ LV) := Lib.hid (by rw [HZ.out]; have := HO.out; rwa [hii, List.take_of_length_le (by rw [HDl.out]; omega)] at this)
              obtain ⟨A, cap, rfl, hA⟩ := own_rowI HO2.out
              go_wp2_with fail
              go_ret
              rw [HLV.out]
              exact ⟨A, cap, rfl, hA.mono (fun g hg _ => by omega), hb⟩
end
end Go.Proofs.YtjgadggehpmdkaaGreatDoor
namespace Go.Proofs.YtjgadggehpmdkaaGreatDoor
open Go.RowKit
theorem sweep_yes {s : Sh} {roots : List Int} (h : roots.all (fun r => decide (r = 0) || live s r) = true) : sweepA s roots = (leftA s roots, (liveA s).length - (reachA s roots).length, 0) := by
  unfold sweepA; rw [if_pos h]
end Go.Proofs.YtjgadggehpmdkaaGreatDoor
namespace Go.Proofs.YtjgadggehpmdkaaGreatDoor
open Go.RowKit
theorem reach_mem {room : Nat} {s : Sh} (hi : Inv room s) {roots : List Int} {h : Int} : h ∈ reachA s roots ↔ Rch s roots h := by
  unfold reachA
  rw [liveA_mem, left_live hi]
theorem sweep_no {s : Sh} {roots : List Int} {i : Nat} {r : Int} (hr : roots[i]? = some r) (h0 : r ≠ 0) (hl : live s r = false) : sweepA s roots = (s, 0, 4) := by
  unfold sweepA
  rw [if_neg]
  intro h
  have := List.all_eq_true.1 h r (List.mem_of_getElem? hr)
  simp [h0, hl] at this
theorem alls_next {p : Int → Bool} {l : List Int} {k : Nat} {r : Int} (hk : l[k]? = some r) (h : (l.take k).all p = true) (hr : p r = true) : (l.take (k + 1)).all p = true := all_next hk h hr
section
variable {w w' : World} {P Q : Nat → Prop} {m gN cN gB cB room : Nat} {nds : List Nd} {bs : List Bool}
theorem RM.reset (h : RM w P m gN cN gB cB room nds bs) {js : List Bool} {gW kW : Nat} (hj : js.length = bs.length) (hW : BI w gW js) (hP : ¬ P gW) :
    RM (w.setCell ⟨m, 2, none⟩ (.slice (some ⟨gW, 0, none⟩) bs.length kW)) (fun g => P g ∨ g = gW) m gN cN gW kW room nds js := by
  have hm : m ≠ gW := fun e => hP (e ▸ h.pM)
  have hN : gN ≠ gW := fun e => hP (e ▸ h.pN)
  have hmc := h.mc.set2 (.slice (some ⟨gW, 0, none⟩) bs.length kW)
  have hbut : ButS (fun g => g = m) w (w.setCell ⟨m, 2, none⟩ (.slice (some ⟨gW, 0, none⟩) bs.length kW)) := (ButS.refl (fun g => g = m) w).setCell (p := ⟨m, 2, none⟩) (.inl rfl) _
  have hfr : ∀ p, (w.setCell ⟨m, 2, none⟩ (.slice (some ⟨gW, 0, none⟩) bs.length kW)).frozen? p = w.frozen? p := fun p => by rw [World.frozen?_setCell]
  have hnM : gN ≠ m := h.nMN.symm
  have hkI : ∀ (A : Option Addr) (l : List Int), RowI w (fun g => P g ∧ g ≠ m ∧ g ≠ gN ∧ g ≠ gB) A l → RowI (w.setCell ⟨m, 2, none⟩ (.slice (some ⟨gW, 0, none⟩) bs.length kW)) (fun g => (P g ∨ g = gW) ∧ g ≠ m ∧ g ≠ gN ∧ g ≠ gW) A l := fun A l hR =>
    (hR.mono (Q := fun g => (P g ∨ g = gW) ∧ g ≠ m ∧ g ≠ gN ∧ g ≠ gW) fun g hg _ => ⟨.inl hg.1, hg.2.1, hg.2.2.1, fun e => hP (e ▸ hg.1)⟩).kept (hbut.keptQ fun g hg => hg.2.1)
  refine ⟨hmc.c0, hmc.c1, by rw [hj]; exact hmc.c2, hmc.fM, fun j => by rw [hfr]; exact h.fN j, fun j => by rw [hfr]; exact hW.froz j, .inl h.pM, .inl h.pN, .inr rfl, h.nMN, hm, hN, Nat.lt_of_lt_of_le h.lN hbut.size, Nat.lt_of_lt_of_le hW.lt hbut.size, fun i n hi => ?_, fun i b hi => hbut.cell (by exact hm.symm) (hW.bits i b hi), h.len.trans hj.symm, by rw [hj]; exact h.one, by rw [hj]; exact h.cap, h.small, h.wide, h.room'⟩
  obtain ⟨B, cb, C, cc, ⟨q0, q1, q2, q3⟩, hR, hN'⟩ := h.rows i n hi
  exact ⟨B, cb, C, cc, ⟨hbut.cell hnM q0, hbut.cell hnM q1, hbut.cell hnM q2, hbut.cell hnM q3⟩, hkI _ _ hR, hkI _ _ hN'⟩
def SweepP (w : World) (P : Nat → Prop) (m gN cN room : Nat) (nds : List Nd) (bs : List Bool) (roots : List Int) (e : Ending) (w' : World) : Prop :=
  ∃ gB' cB' bs' n c, e = .returned (.tuple #[.int .i64 ((n : Nat) : Int), .int .i64 ((c : Nat) : Int)]) ∧ sweepA (stOf nds bs) roots = (stOf nds bs', n, c) ∧ RM w' (fun g => P g ∨ w.heap.size ≤ g) m gN cN gB' cB' room nds bs' ∧ ButS P w w'
set_option maxHeartbeats 16000000 in
set_option maxRecDepth 10000 in
theorem rSweep_any (h : RM w P m gN cN gB cB room nds bs) (hinv : Inv room (stOf nds bs)) (roots : List Int) (R : Option Addr) (cr : Nat) (hR : RowI w Q R roots) (hrl : roots.length ≤ 1000000) :
    Calls Tryz.prog 34 #[.pointer (some ⟨m, 0, none⟩), .slice R roots.length cr] w fun e w' => SweepP w P m gN cN room nds bs roots e w' := by
  obtain ⟨i1, hi1, hy0, hy1, hy2⟩ := info_parts bool_info
  have HR := Lib.hid h
  have HI := Lib.hid hinv
  have HRo := Lib.hid hR
  have hone := h.one
  have hcap := h.cap
  have hsm := h.small
  have hlen := h.len
  have HRe := Lib.hid (rReach_any h hinv roots R cr hR hrl)
  clear h hinv hR
  go_enter Tryz.func34, Tryz.ntmps34
  go_wp2_with fail
  go_loopw [6, 7] (fun vi _ wr => ∃ i : Nat, i ≤ roots.length ∧ vi = .int .i64 (i : Int) ∧ Hid ((roots.take i).all (fun r => decide (r = 0) || live (stOf nds bs) r) = true) ∧ wr = w) (fun vi _ _ => roots.length - (RowKit.intOf vi).toNat)
  case atStart => exact ⟨0, Nat.zero_le _, rfl, Lib.hid (by rw [List.take_zero]; rfl), rfl⟩
  case round =>
    obtain ⟨i, hi, rfl, HA, rfl⟩ := hrel
    by_cases hlt : i < roots.length
    · obtain ⟨g, o, rfl, _, _, hc⟩ := HRo.out.at hlt
      obtain ⟨r, hrr⟩ : ∃ r, roots[i]? = some r := ⟨_, List.getElem?_eq_getElem hlt⟩
      have q0 := hc i r hrr
      have HH := Lib.hid (rHas_any HR.out r)
      have HN := Lib.hid (fun h => alls_next (p := fun r => decide (r = 0) || live (stOf nds bs) r) hrr HA.out h)
      have HS := Lib.hid (fun h0 hl => sweep_no (s := stOf nds bs) hrr h0 hl)
      clear hc hrr
      generalize hVe : live (stOf nds bs) r = V at *
      clear hVe
      by_cases h0 : r = 0
      · have dz : (r != 0) = false := by simp [h0]
        have HN2 := Lib.hid (HN.out (by simp [h0]))
        clear h0 HN HS
        go_wp2_with fail
        refine HH.out.mono ?_; rintro e w2 ⟨rfl, rfl⟩
        go_wp2_with fail
        go_roundw
        case rel => exact ⟨i + 1, by omega, by go_num, HN2, trivial⟩
        case measure => simp [RowKit.intOf]; omega
      · have dz : (r != 0) = true := by simp [h0]
        cases V with
        | true =>
          have HN2 := Lib.hid (HN.out (by simp))
          clear h0 HN HS
          go_wp2_with fail
          refine HH.out.mono ?_; rintro e w2 ⟨rfl, rfl⟩
          go_wp2_with fail
          go_roundw
          case rel => exact ⟨i + 1, by omega, by go_num, HN2, trivial⟩
          case measure => simp [RowKit.intOf]; omega
        | false =>
          have HS2 := Lib.hid (HS.out h0 rfl)
          clear h0 HN HS
          go_wp2_with fail
          refine HH.out.mono ?_; rintro e w2 ⟨rfl, rfl⟩
          go_wp2_with fail
          go_ret2
          exact ⟨gB, cB, bs, 0, 4, rfl, HS2.out, HR.out.mono fun _ h => .inl h, ButS.refl _ _⟩
    · have hii : i = roots.length := by omega
      subst hii
      have HSy := Lib.hid (sweep_yes (s := stOf nds bs) (roots := roots) (by have := HA.out; rwa [List.take_length] at this))
      clear HA
      go_wp2_with fail
      refine HRe.out.mono ?_; rintro e w1 ⟨L, cl, rfl, hL, hb1⟩
      have HR1 := Lib.hid (HR.out.below hb1)
      have HL1 := Lib.hid hL
      have HB1 := Lib.hid hb1
      clear hL hb1
      go_wp2_with fail
      refine (rLive_any HR1.out).mono ?_; rintro e w2 ⟨W, cw, rfl, hW, hb2⟩
      have HR2 := Lib.hid (HR1.out.below hb2)
      have HL2 := Lib.hid (HL1.out.below hb2)
      have HB2 := Lib.hid (HB1.out.trans (hb2.mono HB1.out.size))
      have c2 := HR2.out.c2
      obtain ⟨w3, hmk, ho3, hg3⟩ := run_make_full (P := Tryz.prog) w2 w2.heap.size 77 4 i1 (.bool false) 1 Tryz.underlying77 hi1 hy0 hy1 .i64 .i64 bs.length (by rw [hy2]; omega) (by unfold maxLen; omega) (Nat.le_refl _)
      have hb3 : Below w2.heap.size w2 w3 := ⟨hg3.os, hg3.tape, hg3.output, hg3.size, fun k hk => hg3.block k hk (by simp)⟩
      have HBI := Lib.hid (BI.made ho3)
      have hgl := HBI.out.lt
      have HMem := Lib.hid (fun h : Int => reach_mem HI.out (roots := roots) (h := h))
      have hLl : (reachA (stOf nds bs) roots).length ≤ (liveA (stOf nds bs)).length := left_len _ _
      have hWl : (liveA (stOf nds bs)).length ≤ 65536 := by have := liveF_len (stOf nds bs) 1; rw [st_len hlen] at this; unfold liveA; omega
      clear hW hb2 ho3 hg3
      generalize hLe : reachA (stOf nds bs) roots = LV at *
      generalize hWe : liveA (stOf nds bs) = WV at *
      clear hLe hWe
      go_wp2_with fail
      clear hmk c2
      go_loopw [11] (fun vi wr => ∃ (i : Nat) (js : List Bool), i ≤ LV.length ∧ vi = .int .i64 (i : Int) ∧ js.length = bs.length ∧ Hid (BI wr w2.heap.size js) ∧ Hid (∀ j : Nat, js[j]? = some true ↔ (j : Int) ∈ LV.take i) ∧ Below w2.heap.size w2 wr) (fun vi _ => LV.length - (RowKit.intOf vi).toNat)
      case atStart => exact ⟨0, _, Nat.zero_le _, rfl, by simp, HBI, Lib.hid (fun j => by rw [List.take_zero, List.getElem?_replicate]; split <;> simp), hb3⟩
      case round =>
        obtain ⟨i, js, hi, rfl, hjl, HB, HM, hb⟩ := hrel
        by_cases hlt : i < LV.length
        · obtain ⟨g, o, rfl, _, _, hc⟩ := (HL2.out.below hb).at hlt
          obtain ⟨x, hx⟩ : ∃ x, LV[i]? = some x := ⟨_, List.getElem?_eq_getElem hlt⟩
          have q0 := hc i x hx
          have hbd := live_bound (rch_live HI.out ((HMem.out x).1 (List.mem_of_getElem? hx)))
          rw [st_len hlen] at hbd
          obtain ⟨j, rfl⟩ : ∃ j : Nat, x = (j : Int) := ⟨x.toNat, by omega⟩
          have hji : j < js.length := by omega
          have sB := HB.out.bits j _ (List.getElem?_eq_getElem hji)
          have sF := HB.out.froz j
          have hjI : (j : Int) < (bs.length : Int) := by omega
          have HB2' := Lib.hid (HB.out.set hji)
          have HM2 : Hid (∀ j' : Nat, (js.set j true)[j']? = some true ↔ (j' : Int) ∈ LV.take (i + 1)) := Lib.hid fun j' => by
            rw [List.take_add_one, hx, List.mem_append]
            by_cases e : j = j'
            · subst e
              rw [List.getElem?_set_self hji]
              simp
            · rw [List.getElem?_set_ne e, HM.out j']
              have : ¬ ((j' : Int) = (j : Int)) := by omega
              simp [this]
          clear hc hx hbd
          go_wp2_with fail
          go_roundw
          case rel => exact ⟨i + 1, js.set j true, by omega, by go_num, by rw [List.length_set]; exact hjl, HB2', HM2, hb.setCell (Nat.le_refl _) _⟩
          case measure => simp [RowKit.intOf]; omega
        · have hii : i = LV.length := by omega
          subst hii
          have HMf : Hid (∀ j : Nat, js[j]? = some true ↔ Rch (stOf nds bs) roots (j : Int)) := Lib.hid fun j => by rw [HM.out j, List.take_length]; exact HMem.out _
          have HRr := Lib.hid ((HR2.out.tight).below hb)
          have c2 := HRr.out.c2
          have f2 := HRr.out.fM 2
          have HRs := Lib.hid (RM.reset (kW := bs.length) HRr.out hjl HB.out (fun e => by have := e.2; omega))
          have HSt := Lib.hid (st_left (room := room) hlen hjl HI.out (fun i _ => HMf.out i))
          have hB2s := HB2.out.size
          go_wp2_with fail
          go_ret2
          refine ⟨w2.heap.size, bs.length, js, WV.length - LV.length, 0, ?_, ?_, HRs.out.mono (fun g hg => ?_), ?_⟩
          · show Ending.returned (.tuple #[.int .i64 ((WV.length : Int) - (LV.length : Int)), .int .i64 0]) = _
            rw [show (WV.length : Int) - (LV.length : Int) = ((WV.length - LV.length : Nat) : Int) by omega]; rfl
          · rw [HSt.out]; exact HSy.out
          · rcases hg with q | q
            · exact .inl q.1
            · exact .inr (by omega)
          · exact ((ButS.of_below HB2.out).trans' (ButS.of_below (P := P) hb) (fun _ _ e => e)).setCell (p := ⟨m, 2, none⟩) (.inl HR.out.pM) _
end
end Go.Proofs.YtjgadggehpmdkaaGreatDoor
namespace Go.Proofs.YtjgadggehpmdkaaGreatDoor
open Go.RowKit
structure AcM where
  kind : Int
  L : List Nd
  LA : Option Addr
  lc : Nat
  roots : List Int
  RA : Option Addr
  rc : Nat
deriving Inhabited
def acW (q : AcM) : List Value := [.int .u8 q.kind, .slice q.LA q.L.length q.lc, .slice q.RA q.roots.length q.rc]
def RowA (w : World) (P : Nat → Prop) (A : Option Addr) (l : List AcM) : Prop := l = [] ∨ ∃ g o, A = some ⟨g, o, none⟩ ∧ P g ∧ g < w.heap.size ∧
  ∀ (i : Nat) (q : AcM), l[i]? = some q → (w.cell? ⟨g, o + i * 3, none⟩ = some (.int .u8 q.kind) ∧ w.cell? ⟨g, o + i * 3 + 1, none⟩ = some (.slice q.LA q.L.length q.lc) ∧ w.cell? ⟨g, o + i * 3 + 2, none⟩ = some (.slice q.RA q.roots.length q.rc)) ∧ RowN w P q.LA q.L ∧ RowI w P q.RA q.roots
theorem RowA.kept {w w' : World} {P : Nat → Prop} {A : Option Addr} {l : List AcM} (h : RowA w P A l) (hk : Kept w w' P) : RowA w' P A l := by
  rcases h with h | ⟨g, o, rfl, hp, hl, hc⟩
  · exact .inl h
  · refine .inr ⟨g, o, rfl, hp, Nat.lt_of_lt_of_le hl hk.size, fun i q hi => ?_⟩
    obtain ⟨⟨c0, c1, c2⟩, hr, hn⟩ := hc i q hi
    exact ⟨⟨hk.cell hp c0, hk.cell hp c1, hk.cell hp c2⟩, hr.kept hk, hn.kept hk⟩
theorem RowA.mono {w : World} {P Q : Nat → Prop} {A : Option Addr} {l : List AcM} (h : RowA w P A l) (hpq : ∀ g, P g → g < w.heap.size → Q g) : RowA w Q A l := by
  rcases h with h | ⟨g, o, rfl, hp, hl, hc⟩
  · exact .inl h
  · refine .inr ⟨g, o, rfl, hpq g hp hl, hl, fun i q hi => ?_⟩
    obtain ⟨h3, hr, hn⟩ := hc i q hi
    exact ⟨h3, hr.mono hpq, hn.mono hpq⟩
theorem RowA.below {w w' : World} {P : Nat → Prop} {A : Option Addr} {l : List AcM} (h : RowA w P A l) (hb : Below w.heap.size w w') : RowA w' P A l := h.kept (Kept.of_below hb)
theorem RowA.at {w : World} {P : Nat → Prop} {A : Option Addr} {l : List AcM} (h : RowA w P A l) {i : Nat} (hi : i < l.length) : ∃ g o, A = some ⟨g, o, none⟩ ∧ P g ∧ g < w.heap.size ∧
    ∀ (i : Nat) (q : AcM), l[i]? = some q → (w.cell? ⟨g, o + i * 3, none⟩ = some (.int .u8 q.kind) ∧ w.cell? ⟨g, o + i * 3 + 1, none⟩ = some (.slice q.LA q.L.length q.lc) ∧ w.cell? ⟨g, o + i * 3 + 2, none⟩ = some (.slice q.RA q.roots.length q.rc)) ∧ RowN w P q.LA q.L ∧ RowI w P q.RA q.roots := by
  rcases h with rfl | h
  · simp at hi
  · exact h
def FitN (n : Nd) : Prop := n.refs.length ≤ 200 ∧ n.nums.length ≤ 200 ∧ n.text.length ≤ 5000
def FitA (q : AcM) : Prop := q.roots.length ≤ 200 ∧ q.L.length ≤ 200 ∧ ∀ n ∈ q.L, FitN n
end Go.Proofs.YtjgadggehpmdkaaGreatDoor
namespace Go.Proofs.YtjgadggehpmdkaaGreatDoor
open Go.ChangeShapes Go.WideShapes Go.RowKit Go.Deep
section
variable {H : Type} {enc : TypeId × Value → H} {w : World} {base : Nat} {spare : Nat → Bool} {held : Bool}
theorem cellsI : Tryz.prog.cellsOf 3 = 1 := by kernel_rfl
theorem cellsIs : Tryz.prog.cellsOf 32 = 1 := by kernel_rfl
theorem cellsS : Tryz.prog.cellsOf 9 = 1 := by kernel_rfl
theorem cellsNode : Tryz.prog.cellsOf 95 = 4 := by kernel_rfl
theorem cellsNodes : Tryz.prog.cellsOf 53 = 1 := by kernel_rfl
theorem cellsU : Tryz.prog.cellsOf 5 = 1 := by kernel_rfl
theorem cellsAct : Tryz.prog.cellsOf 58 = 3 := by kernel_rfl
set_option maxRecDepth 100000 in
theorem trod_nodes {fuel : Nat} {c : Value} {x : DataW H × List MemPlace} (h : DataW.trod enc Tryz.prog w base spare held fuel 53 [c] = some x) :
    ∃ (l : List Nd) (A : Option Addr) (cap : Nat), c = .slice A l.length cap ∧ l.length ≤ maxLen ∧ (∀ n ∈ l, OkN n) ∧ RowN w (fun _ => True) A l := by
  obtain ⟨l, A, cap, e, hl, ho, ha⟩ := trod_rows ndW (fun q => OkN q.n ∧ RowI w (fun _ => True) q.A q.n.refs ∧ RowI w (fun _ => True) q.B q.n.nums) (fun _ => rfl) Tryz.underlying53 cellsNode (by decide) (fun {fuel cs x} hl ht => by
    match cs, hl with
    | [c0, c1, c2, c3], _ =>
      obtain ⟨xs, n, rfl, rfl, hcl, hxl, hf⟩ := DataW.trod_struct Tryz.underlying95 ht
      match xs, hxl with
      | [y0, y1, y2, y3], _ =>
      have g0 : DataW.trod enc Tryz.prog w base spare held n 3 [c0] = some y0 := by have := hf 0 _ rfl; rw [show ∀ z : TypeId, z = 3 → Tryz.prog.cellsOf z = 1 from fun z hz => by rw [hz]; exact cellsI] at this; exact this; rfl
      have g1 : DataW.trod enc Tryz.prog w base spare held n 32 [c1] = some y1 := by have := hf 1 _ rfl; rw [show ∀ z : TypeId, z = 32 → Tryz.prog.cellsOf z = 1 from fun z hz => by rw [hz]; exact cellsIs] at this; exact this; rfl
      have g2 : DataW.trod enc Tryz.prog w base spare held n 32 [c2] = some y2 := by have := hf 2 _ rfl; rw [show ∀ z : TypeId, z = 32 → Tryz.prog.cellsOf z = 1 from fun z hz => by rw [hz]; exact cellsIs] at this; exact this; rfl
      have g3 : DataW.trod enc Tryz.prog w base spare held n 9 [c3] = some y3 := by have := hf 3 _ rfl; rw [show ∀ z : TypeId, z = 9 → Tryz.prog.cellsOf z = 1 from fun z hz => by rw [hz]; exact cellsS] at this; exact this; rfl
      obtain ⟨a, h0, _, wa⟩ := DataW.trod_int Tryz.underlying3 g0
      obtain ⟨r, A1, k1, rfl, r1, r2, r3⟩ := trod_ints g1
      obtain ⟨s, A2, k2, rfl, s1, s2, s3⟩ := trod_ints g2
      obtain ⟨z, hz, _, hzl⟩ := DataW.trod_string Tryz.underlying9 g3
      simp at h0 hz
      subst h0 hz
      have e1 : IntKind.i64.min = -9223372036854775808 := rfl
      have e2 : IntKind.i64.max = 9223372036854775807 := rfl
      simp [Lit.wf, e1, e2] at wa
      refine ⟨⟨⟨a, r, s, z.data.toList⟩, A1, k1, A2, k2⟩, rfl, ⟨r1, s1, r2, ?_, s2, wa⟩, r3, s3⟩
      show z.data.toList.length ≤ maxLen
      rw [Array.length_toList]; exact hzl) h
  refine ⟨l.map NdM.n, A, cap, by rw [List.length_map]; exact e, by rw [List.length_map]; exact hl, fun n hn => ?_, rowN_of (fun q hq => (ho q hq).2) ha⟩
  obtain ⟨q, hq, rfl⟩ := List.mem_map.1 hn
  exact (ho q hq).1
def OkA (q : AcM) : Prop := (0 ≤ q.kind ∧ q.kind ≤ 255) ∧ q.L.length ≤ maxLen ∧ (∀ n ∈ q.L, OkN n) ∧ q.roots.length ≤ maxLen ∧ B64s q.roots
set_option maxRecDepth 100000 in
theorem open_acts {r : Reach} {b0 : Nat} {v : Value} {d : DataW H} {p : List MemPlace} (hv : Value.okWide Tryz.prog w r b0 59 v) (h : DataW.Trod enc Tryz.prog w base spare held 59 v d p) :
    ∃ (l : List AcM) (A : Option Addr) (cap : Nat), v = .slice A l.length cap ∧ l.length ≤ maxLen ∧ (∀ q ∈ l, OkA q) ∧ RowA w (fun _ => True) A l := by
  haveI : Inhabited AcM := ⟨⟨0, [], none, 0, [], none, 0⟩⟩
  obtain ⟨l, A, cap, e, hl, ho, ha⟩ := open_rows acW (fun q => OkA q ∧ RowN w (fun _ => True) q.LA q.L ∧ RowI w (fun _ => True) q.RA q.roots) (fun _ => rfl) Tryz.underlying59 cellsAct (by decide) (fun {fuel cs x} hl ht => by
    match cs, hl with
    | [c0, c1, c2], _ =>
      obtain ⟨xs, n, rfl, rfl, hcl, hxl, hf⟩ := DataW.trod_struct Tryz.underlying58 ht
      match xs, hxl with
      | [y0, y1, y2], _ =>
      have g0 : DataW.trod enc Tryz.prog w base spare held n 5 [c0] = some y0 := by have := hf 0 _ rfl; rw [show ∀ z : TypeId, z = 5 → Tryz.prog.cellsOf z = 1 from fun z hz => by rw [hz]; exact cellsU] at this; exact this; rfl
      have g1 : DataW.trod enc Tryz.prog w base spare held n 53 [c1] = some y1 := by have := hf 1 _ rfl; rw [show ∀ z : TypeId, z = 53 → Tryz.prog.cellsOf z = 1 from fun z hz => by rw [hz]; exact cellsNodes] at this; exact this; rfl
      have g2 : DataW.trod enc Tryz.prog w base spare held n 32 [c2] = some y2 := by have := hf 2 _ rfl; rw [show ∀ z : TypeId, z = 32 → Tryz.prog.cellsOf z = 1 from fun z hz => by rw [hz]; exact cellsIs] at this; exact this; rfl
      obtain ⟨a, h0, _, wa⟩ := DataW.trod_int Tryz.underlying5 g0
      obtain ⟨L, A1, k1, rfl, r1, r2, r3⟩ := trod_nodes g1
      obtain ⟨s, A2, k2, rfl, s1, s2, s3⟩ := trod_ints g2
      simp at h0
      subst h0
      have e1 : IntKind.u8.min = 0 := rfl
      have e2 : IntKind.u8.max = 255 := rfl
      simp [Lit.wf, e1, e2] at wa
      exact ⟨⟨a, L, A1, k1, s, A2, k2⟩, rfl, ⟨wa, r1, r2, s1, s2⟩, r3, s3⟩) hv h
  refine ⟨l, A, cap, e, hl, fun q hq => (ho q hq).1, ?_⟩
  cases l with
  | nil => exact .inl rfl
  | cons a l =>
    obtain ⟨g, o, rfl, hat⟩ := ha (by simp)
    refine .inr ⟨g, o, rfl, trivial, Lib.lt_of_cell (hat 0 a rfl 0 _ rfl), fun i q hi => ?_⟩
    have := ho q (List.mem_of_getElem? hi)
    exact ⟨⟨hat i q hi 0 _ rfl, hat i q hi 1 _ rfl, hat i q hi 2 _ rfl⟩, this.2.1, this.2.2⟩
end
end Go.Proofs.YtjgadggehpmdkaaGreatDoor
