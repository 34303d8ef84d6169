/- The document's own least, and greatest, of values. -/
import Derived.Test.YtpnmefkbfonhpaaDoorVaF
import Derived.Deep.QuietTactic
import Derived.BigQuiet
namespace Go.Proofs.YtpnmefkbfonhpaaDoor
open Go.RowKit

theorem most_first {G : Int → Int → Int × Int} {l : List (Int × Int)} {x y : Int} (h : l[0]? = some (x, y)) : allV G (l.headD (0, 0)) (l.take (0 + 1)) = stepV G (x, y) (x, y) := by
  cases l with
  | nil => simp at h
  | cons q r => simp at h; subst h; rfl
theorem step_fault {G : Int → Int → Int × Int} {p : Int × Int} {x y : Int} (hp : p.2 = 0 ∨ p.2 = y) (h : y ≠ 0) : stepV G p (x, y) = (0, y) := by
  unfold stepV bothN bothF
  rcases hp with hp | hp <;> simp [hp, h]
theorem step_fine {G : Int → Int → Int × Int} {p : Int × Int} {x : Int} (hp : p.2 = 0) : stepV G p (x, 0) = G p.1 x := by
  unfold stepV bothN bothF
  simp [hp]

set_option maxHeartbeats 2000000 in
theorem vlow_some (l : List (Int × Int)) (hl : l.length ≤ maxLen) (g o cap : Nat) (w : World) (hc : AtV w g o l) :
    Calls Tryd.prog 20 #[.slice (some ⟨g, o, none⟩) l.length cap, .bool false] w fun e w' =>
      e = .returned (.agg #[.int .i64 (mostV gLow l).1, .int .i64 (mostV gLow l).2]) ∧ Below w.heap.size w w' := by
  have HC := Lib.hid hc
  unfold maxLen at hl
  clear hc
  go_enter Tryd.func20, Tryd.ntmps20
  go_wp2_with fail
  go_loopw [6] (fun v wr => ∃ i : Nat, ∃ a : Int, i ≤ l.length ∧ v = .int .i64 i ∧ Hid ((i = 0 → a = 0) ∧ (i ≠ 0 → allV gLow (l.headD (0, 0)) (l.take i) = (a, 0))) ∧ Below w.heap.size w wr ∧ w.heap.size + 1 < wr.heap.size ∧
      wr.cell? ⟨w.heap.size, 0, none⟩ = some (.int .i64 0) ∧ wr.cell? ⟨w.heap.size, 1, none⟩ = some (.int .i64 0) ∧ wr.frozen? ⟨w.heap.size, 0, none⟩ = false ∧ wr.frozen? ⟨w.heap.size, 1, none⟩ = false ∧
      wr.cell? ⟨w.heap.size + 1, 0, none⟩ = some (.int .i64 a) ∧ wr.cell? ⟨w.heap.size + 1, 1, none⟩ = some (.int .i64 0) ∧ wr.frozen? ⟨w.heap.size + 1, 0, none⟩ = false ∧ wr.frozen? ⟨w.heap.size + 1, 1, none⟩ = false) (fun v _ => leftC l.length v)
  case atStart =>
    exact ⟨0, 0, Nat.zero_le _, rfl, Lib.hid ⟨fun _ => rfl, fun h => absurd rfl h⟩, ((Below.refl _ _).alloc (Nat.le_refl _) _).alloc (by simp) _, by simp, by simp [go_sem], by simp [go_sem], by simp [go_sem], by simp [go_sem], by simp [go_sem], by simp [go_sem], by simp [go_sem], by simp [go_sem]⟩
  case round =>
    obtain ⟨i, a, hi, rfl, HP, hb, z1, k0, k1, g0, g1, c0, c1, f0, f1⟩ := hrel
    have z0 : w.heap.size < wr.heap.size := by omega
    by_cases hlt : i < l.length
    · obtain ⟨x, y, hxy⟩ : ∃ x y, l[i]? = some (x, y) := ⟨_, _, List.getElem?_eq_getElem hlt⟩
      obtain ⟨a0, a1⟩ := (HC.out.below hb) i x y hxy
      have zg : g < wr.heap.size := Lib.lt_of_cell a0
      have hS : allV gLow (l.headD (0, 0)) (l.take (i + 1)) = if i = 0 then stepV gLow (x, y) (x, y) else stepV gLow (a, 0) (x, y) := by
        by_cases h0 : i = 0
        · subst h0; rw [if_pos rfl]; exact most_first hxy
        · rw [if_neg h0, all_snoc hxy, HP.out.2 h0]
      by_cases hy : y = 0
      · subst hy
        by_cases h0 : i = 0
        · subst h0
          rw [if_pos rfl, step_fine rfl] at hS
          have HS := Lib.hid (show allV gLow (l.headD (0, 0)) (l.take (0 + 1)) = (x, 0) from hS.trans (by unfold gLow; simp))
          clear hS hxy HP
          have e0 : o + 0 * 2 = o := by omega
          rw [e0] at a0 a1
          clear e0
          go_wp2_with fail
          go_quiet (fail)
          go_wp2_with fail
          go_roundw
          case rel => exact ⟨0 + 1, x, by omega, by go_num, Lib.hid ⟨fun h => by omega, fun _ => HS.out⟩, ((below_drewN hb _).setCell (by simp) _).setCell (by simp) _, by simpa using z1, by simp [go_sem, k0], by simp [go_sem, k1], by simp [go_sem, g0], by simp [go_sem, g1], by simp [go_sem, c0], by simp [go_sem, c1], by simp [go_sem, f0], by simp [go_sem, f1]⟩
          case measure => simp [leftC, intOf]; omega
        · rw [if_neg h0, step_fine rfl] at hS
          have hi0 : ((i : Int) == 0) = false := by rw [beq_eq_false_iff_ne]; omega
          cases hc : decide (x < a) with
          | true =>
            have HS := Lib.hid (show allV gLow (l.headD (0, 0)) (l.take (i + 1)) = (x, 0) from hS.trans (by unfold gLow; rw [if_pos (of_decide_eq_true hc)]))
            clear hS hxy HP h0
            go_wp2_with fail
            go_quiet (fail)
            go_wp2_with fail
            go_roundw
            case rel => exact ⟨i + 1, x, by omega, by go_num, Lib.hid ⟨fun h => by omega, fun _ => HS.out⟩, ((below_drewN hb _).setCell (by simp) _).setCell (by simp) _, by simpa using z1, by simp [go_sem, k0], by simp [go_sem, k1], by simp [go_sem, g0], by simp [go_sem, g1], by simp [go_sem, c0], by simp [go_sem, c1], by simp [go_sem, f0], by simp [go_sem, f1]⟩
            case measure => simp [leftC, intOf]; omega
          | false =>
            have HS := Lib.hid (show allV gLow (l.headD (0, 0)) (l.take (i + 1)) = (a, 0) from hS.trans (by unfold gLow; rw [if_neg (of_decide_eq_false hc)]))
            clear hS hxy HP h0
            go_wp2_with fail
            go_quiet (fail)
            go_wp2_with fail
            go_roundw
            case rel => exact ⟨i + 1, a, by omega, by go_num, Lib.hid ⟨fun h => by omega, fun _ => HS.out⟩, below_drewN hb _, by simpa using z1, by simp [go_sem, k0], by simp [go_sem, k1], by simp [go_sem, g0], by simp [go_sem, g1], by simp [go_sem, c0], by simp [go_sem, c1], by simp [go_sem, f0], by simp [go_sem, f1]⟩
            case measure => simp [leftC, intOf]; omega
      · have d1 : (y != 0) = true := by rw [bne_iff_ne]; exact hy
        have hT : allV gLow (l.headD (0, 0)) (l.take (i + 1)) = (0, y) := by
          rw [hS]
          split
          · exact step_fault (.inr rfl) hy
          · exact step_fault (.inl rfl) hy
        have HE := Lib.hid (show mostV gLow l = (0, y) from all_stop hT rfl hy)
        clear hS hT hxy hy HP
        go_wp2_with fail
        exact bodyPost_ret (v := .agg #[.int .i64 0, .int .i64 y]) (by simp [results, Tryd.results20, go_sem, k0, k1]) rfl
          ⟨by rw [HE.out], (hb.setCell (by simp) _).setCell (by simp) _⟩
    · have HE : Hid (mostV gLow l = (a, 0)) := Lib.hid (by
        by_cases h0 : l = []
        · subst h0
          have hi0 : i = 0 := by simpa using hi
          rw [HP.out.1 hi0]
          rfl
        · have hlp : 0 < l.length := List.length_pos_iff.2 h0
          have := HP.out.2 (by omega)
          rw [List.take_of_length_le (by omega)] at this
          exact this)
      clear HP
      go_wp2_with fail
      exact bodyPost_ret (v := .agg #[.int .i64 a, .int .i64 0]) (by simp [results, Tryd.results20, go_sem, k0, k1]) rfl
        ⟨by rw [HE.out], (hb.setCell (by simp) _).setCell (by simp) _⟩

set_option maxHeartbeats 2000000 in
theorem vtop_some (l : List (Int × Int)) (hl : l.length ≤ maxLen) (g o cap : Nat) (w : World) (hc : AtV w g o l) :
    Calls Tryd.prog 20 #[.slice (some ⟨g, o, none⟩) l.length cap, .bool true] w fun e w' =>
      e = .returned (.agg #[.int .i64 (mostV gTop l).1, .int .i64 (mostV gTop l).2]) ∧ Below w.heap.size w w' := by
  have HC := Lib.hid hc
  unfold maxLen at hl
  clear hc
  go_enter Tryd.func20, Tryd.ntmps20
  go_wp2_with fail
  go_loopw [6] (fun v wr => ∃ i : Nat, ∃ a : Int, i ≤ l.length ∧ v = .int .i64 i ∧ Hid ((i = 0 → a = 0) ∧ (i ≠ 0 → allV gTop (l.headD (0, 0)) (l.take i) = (a, 0))) ∧ Below w.heap.size w wr ∧ w.heap.size + 1 < wr.heap.size ∧
      wr.cell? ⟨w.heap.size, 0, none⟩ = some (.int .i64 0) ∧ wr.cell? ⟨w.heap.size, 1, none⟩ = some (.int .i64 0) ∧ wr.frozen? ⟨w.heap.size, 0, none⟩ = false ∧ wr.frozen? ⟨w.heap.size, 1, none⟩ = false ∧
      wr.cell? ⟨w.heap.size + 1, 0, none⟩ = some (.int .i64 a) ∧ wr.cell? ⟨w.heap.size + 1, 1, none⟩ = some (.int .i64 0) ∧ wr.frozen? ⟨w.heap.size + 1, 0, none⟩ = false ∧ wr.frozen? ⟨w.heap.size + 1, 1, none⟩ = false) (fun v _ => leftC l.length v)
  case atStart =>
    exact ⟨0, 0, Nat.zero_le _, rfl, Lib.hid ⟨fun _ => rfl, fun h => absurd rfl h⟩, ((Below.refl _ _).alloc (Nat.le_refl _) _).alloc (by simp) _, by simp, by simp [go_sem], by simp [go_sem], by simp [go_sem], by simp [go_sem], by simp [go_sem], by simp [go_sem], by simp [go_sem], by simp [go_sem]⟩
  case round =>
    obtain ⟨i, a, hi, rfl, HP, hb, z1, k0, k1, g0, g1, c0, c1, f0, f1⟩ := hrel
    have z0 : w.heap.size < wr.heap.size := by omega
    by_cases hlt : i < l.length
    · obtain ⟨x, y, hxy⟩ : ∃ x y, l[i]? = some (x, y) := ⟨_, _, List.getElem?_eq_getElem hlt⟩
      obtain ⟨a0, a1⟩ := (HC.out.below hb) i x y hxy
      have zg : g < wr.heap.size := Lib.lt_of_cell a0
      have hS : allV gTop (l.headD (0, 0)) (l.take (i + 1)) = if i = 0 then stepV gTop (x, y) (x, y) else stepV gTop (a, 0) (x, y) := by
        by_cases h0 : i = 0
        · subst h0; rw [if_pos rfl]; exact most_first hxy
        · rw [if_neg h0, all_snoc hxy, HP.out.2 h0]
      by_cases hy : y = 0
      · subst hy
        by_cases h0 : i = 0
        · subst h0
          rw [if_pos rfl, step_fine rfl] at hS
          have HS := Lib.hid (show allV gTop (l.headD (0, 0)) (l.take (0 + 1)) = (x, 0) from hS.trans (by unfold gTop; simp))
          clear hS hxy HP
          have e0 : o + 0 * 2 = o := by omega
          rw [e0] at a0 a1
          clear e0
          go_wp2_with fail
          go_quiet (fail)
          go_wp2_with fail
          go_roundw
          case rel => exact ⟨0 + 1, x, by omega, by go_num, Lib.hid ⟨fun h => by omega, fun _ => HS.out⟩, ((below_drewN hb _).setCell (by simp) _).setCell (by simp) _, by simpa using z1, by simp [go_sem, k0], by simp [go_sem, k1], by simp [go_sem, g0], by simp [go_sem, g1], by simp [go_sem, c0], by simp [go_sem, c1], by simp [go_sem, f0], by simp [go_sem, f1]⟩
          case measure => simp [leftC, intOf]; omega
        · rw [if_neg h0, step_fine rfl] at hS
          have hi0 : ((i : Int) == 0) = false := by rw [beq_eq_false_iff_ne]; omega
          cases hc : decide (a < x) with
          | true =>
            have HS := Lib.hid (show allV gTop (l.headD (0, 0)) (l.take (i + 1)) = (x, 0) from hS.trans (by unfold gTop; rw [if_pos (of_decide_eq_true hc)]))
            clear hS hxy HP h0
            go_wp2_with fail
            go_quiet (fail)
            go_wp2_with fail
            go_roundw
            case rel => exact ⟨i + 1, x, by omega, by go_num, Lib.hid ⟨fun h => by omega, fun _ => HS.out⟩, ((below_drewN hb _).setCell (by simp) _).setCell (by simp) _, by simpa using z1, by simp [go_sem, k0], by simp [go_sem, k1], by simp [go_sem, g0], by simp [go_sem, g1], by simp [go_sem, c0], by simp [go_sem, c1], by simp [go_sem, f0], by simp [go_sem, f1]⟩
            case measure => simp [leftC, intOf]; omega
          | false =>
            have HS := Lib.hid (show allV gTop (l.headD (0, 0)) (l.take (i + 1)) = (a, 0) from hS.trans (by unfold gTop; rw [if_neg (of_decide_eq_false hc)]))
            clear hS hxy HP h0
            go_wp2_with fail
            go_quiet (fail)
            go_wp2_with fail
            go_roundw
            case rel => exact ⟨i + 1, a, by omega, by go_num, Lib.hid ⟨fun h => by omega, fun _ => HS.out⟩, below_drewN hb _, by simpa using z1, by simp [go_sem, k0], by simp [go_sem, k1], by simp [go_sem, g0], by simp [go_sem, g1], by simp [go_sem, c0], by simp [go_sem, c1], by simp [go_sem, f0], by simp [go_sem, f1]⟩
            case measure => simp [leftC, intOf]; omega
      · have d1 : (y != 0) = true := by rw [bne_iff_ne]; exact hy
        have hT : allV gTop (l.headD (0, 0)) (l.take (i + 1)) = (0, y) := by
          rw [hS]
          split
          · exact step_fault (.inr rfl) hy
          · exact step_fault (.inl rfl) hy
        have HE := Lib.hid (show mostV gTop l = (0, y) from all_stop hT rfl hy)
        clear hS hT hxy hy HP
        go_wp2_with fail
        exact bodyPost_ret (v := .agg #[.int .i64 0, .int .i64 y]) (by simp [results, Tryd.results20, go_sem, k0, k1]) rfl
          ⟨by rw [HE.out], (hb.setCell (by simp) _).setCell (by simp) _⟩
    · have HE : Hid (mostV gTop l = (a, 0)) := Lib.hid (by
        by_cases h0 : l = []
        · subst h0
          have hi0 : i = 0 := by simpa using hi
          rw [HP.out.1 hi0]
          rfl
        · have hlp : 0 < l.length := List.length_pos_iff.2 h0
          have := HP.out.2 (by omega)
          rw [List.take_of_length_le (by omega)] at this
          exact this)
      clear HP
      go_wp2_with fail
      exact bodyPost_ret (v := .agg #[.int .i64 a, .int .i64 0]) (by simp [results, Tryd.results20, go_sem, k0, k1]) rfl
        ⟨by rw [HE.out], (hb.setCell (by simp) _).setCell (by simp) _⟩

set_option maxHeartbeats 400000 in
theorem vbest_nil (t : Bool) (A : Option Addr) (cap : Nat) (w : World) :
    Calls Tryd.prog 20 #[.slice A 0 cap, .bool t] w fun e w' => e = .returned (.agg #[.int .i64 0, .int .i64 0]) ∧ Below w.heap.size w w' := by
  go_enter Tryd.func20, Tryd.ntmps20
  go_wp2_with fail
  go_loopw [6] (fun v wr => v = .int .i64 0 ∧ wr = (w.alloc (.cells #[.int .i64 0, .int .i64 0] 24)).alloc (.cells #[.int .i64 0, .int .i64 0] 24)) (fun _ _ => 0)
  case atStart => exact ⟨rfl, rfl⟩
  case round =>
    obtain ⟨rfl, rfl⟩ := hrel
    go_wp2_with fail
    exact bodyPost_ret (v := .agg #[.int .i64 0, .int .i64 0]) (by simp [results, Tryd.results20, go_sem]) rfl
      ⟨rfl, ((Below.refl _ _).alloc (Nat.le_refl _) _).alloc (by simp) _⟩

theorem vlow_any (l : List (Int × Int)) (hl : l.length ≤ maxLen) (A : Option Addr) (cap : Nat) (w : World) (hc : ListV w A l) :
    Calls Tryd.prog 20 #[.slice A l.length cap, .bool false] w fun e w' =>
      e = .returned (.agg #[.int .i64 (mostV gLow l).1, .int .i64 (mostV gLow l).2]) ∧ Below w.heap.size w w' := by
  by_cases h : l = []
  · subst h
    exact vbest_nil false A cap w
  · obtain ⟨g, o, rfl, ha⟩ := hc h
    exact vlow_some l hl g o cap w ha

theorem vtop_any (l : List (Int × Int)) (hl : l.length ≤ maxLen) (A : Option Addr) (cap : Nat) (w : World) (hc : ListV w A l) :
    Calls Tryd.prog 20 #[.slice A l.length cap, .bool true] w fun e w' =>
      e = .returned (.agg #[.int .i64 (mostV gTop l).1, .int .i64 (mostV gTop l).2]) ∧ Below w.heap.size w w' := by
  by_cases h : l = []
  · subst h
    exact vbest_nil true A cap w
  · obtain ⟨g, o, rfl, ha⟩ := hc h
    exact vtop_some l hl g o cap w ha
end Go.Proofs.YtpnmefkbfonhpaaDoor
