/- Texts joined: VaF, VaG, ShD, EvB, EvC, EvD. -/
import Derived.Test.YthaoalmhhgllmaaGreatDoorMa02
import Derived.Test.YthaoalmhhgllmaaGreatDoorMa03
import Derived.Test.YthaoalmhhgllmaaGreatDoorMa11
import Derived.Deep.RegionHeld3
import Derived.Deep.QuietTactic
import Derived.BigQuiet
import Derived.Test.YthaoalmhhgllmaaGreatDoorMa09
import Derived.Test.YthaoalmhhgllmaaGreatDoorMa08
import Derived.Deep.RegionWith
import Derived.Test.YthaoalmhhgllmaaGreatDoorMa10
set_option linter.all false
set_option linter.unusedVariables false
set_option linter.unusedSimpArgs false
namespace Go.Proofs.YthaoalmhhgllmaaGreatDoor
open Go.RowKit

theorem all_faulty {G : Int → Int → Int × Int} {p : Int × Int} (h1 : p.1 = 0) (h2 : p.2 ≠ 0) : ∀ l, allV G p l = p
  | [] => rfl
  | q :: r => by
    have e : stepV G p q = p := by
      obtain ⟨a, b⟩ := p
      simp only at h1 h2
      subst h1
      unfold stepV bothN bothF
      simp [h2]
    show allV G (stepV G p q) r = p
    rw [e]
    exact all_faulty h1 h2 r
theorem all_stop {G : Int → Int → Int × Int} {p q : Int × Int} {l : List (Int × Int)} {i : Nat} (h : allV G p (l.take i) = q) (h1 : q.1 = 0) (h2 : q.2 ≠ 0) : allV G p l = q := by
  have e : allV G p l = allV G (allV G p (l.take i)) (l.drop i) := by
    unfold allV
    rw [← List.foldl_append, List.take_append_drop]
  rw [e, h]
  exact all_faulty h1 h2 _
theorem told_faulty {n : Int} (h : (vTold n).2 ≠ 0) : (vTold n).1 = 0 := by
  unfold vTold tNum tFault at *
  simp only at *
  split at h
  · exact absurd rfl h
  · rename_i hn; rw [if_neg hn]
theorem both_faulty {p : Int × Int} (hp : p.2 ≠ 0 → p.1 = 0) {f g : Int} (h : bothF p f g ≠ 0) : bothN p f g = 0 := by
  unfold bothF at h
  unfold bothN
  split
  · rename_i hh
    rw [if_pos hh.1, if_pos hh.2] at h
    exact hp h
  · rfl

set_option maxHeartbeats 2000000 in
theorem vsum_some (l : List (Int × Int)) (hl : l.length ≤ maxLen) (hlb : ∀ q ∈ l, B64 q.1) (g o cap : Nat) (w : World) (hc : AtV w g o l) :
    Calls Tryz.prog 67 #[.slice (some ⟨g, o, none⟩) l.length cap] w fun e w' =>
      e = .returned (.agg #[.int .i64 (allV gAdd (0, 0) l).1, .int .i64 (allV gAdd (0, 0) l).2]) ∧ Below w.heap.size w w' := by
  have HC := Lib.hid hc
  have HL := Lib.hid hlb
  unfold maxLen at hl
  clear hc hlb
  go_enter Tryz.func67, Tryz.ntmps67
  go_wp2_with fail
  go_loopw [4] (fun v wr => ∃ i : Nat, ∃ a : Int, i ≤ l.length ∧ v = .int .i64 i ∧ Hid (allV gAdd (0, 0) (l.take i) = (a, 0)) ∧ Hid (B64 a) ∧ Below w.heap.size w wr ∧ w.heap.size + 1 < wr.heap.size ∧
      wr.cell? ⟨w.heap.size, 0, none⟩ = some (.int .i64 0) ∧ wr.cell? ⟨w.heap.size, 1, none⟩ = some (.int .i64 0) ∧ wr.frozen? ⟨w.heap.size, 0, none⟩ = false ∧ wr.frozen? ⟨w.heap.size, 1, none⟩ = false ∧
      wr.cell? ⟨w.heap.size + 1, 0, none⟩ = some (.int .i64 a) ∧ wr.cell? ⟨w.heap.size + 1, 1, none⟩ = some (.int .i64 0) ∧ wr.frozen? ⟨w.heap.size + 1, 0, none⟩ = false ∧ wr.frozen? ⟨w.heap.size + 1, 1, none⟩ = false) (fun v _ => leftC l.length v)
  case atStart =>
    exact ⟨0, 0, Nat.zero_le _, rfl, Lib.hid (by simp [allV]), Lib.hid (by unfold B64; omega), ((Below.refl _ _).alloc (Nat.le_refl _) _).alloc (by simp) _, by simp, by simp [go_sem], by simp [go_sem], by simp [go_sem], by simp [go_sem], by simp [go_sem], by simp [go_sem], by simp [go_sem], by simp [go_sem]⟩
  case round =>
    obtain ⟨i, a, hi, rfl, HP, HB, hb, z1, k0, k1, g0, g1, c0, c1, f0, f1⟩ := hrel
    have z0 : w.heap.size < wr.heap.size := by omega
    by_cases hlt : i < l.length
    · obtain ⟨x, y, hxy⟩ : ∃ x y, l[i]? = some (x, y) := ⟨_, _, List.getElem?_eq_getElem hlt⟩
      have hx : B64 x := HL.out (x, y) (List.mem_of_getElem? hxy)
      obtain ⟨a0, a1⟩ := (HC.out.below hb) i x y hxy
      have hS := vall_snoc (G := gAdd) (p := (0, 0)) hxy
      rw [HP.out] at hS
      have hd := vdo_any ⟨#[43]⟩ a 0 x y HB.out hx
      obtain ⟨e1, e2, e3⟩ := do_num (l := [43]) (n := a) (m := x) (f := 0) (g := y) (p := gAdd a x) rfl
      rw [show (⟨#[43]⟩ : ByteArray).data.toList = [43] from rfl, e1, e2, e3] at hd
      have hB2 : B64 (bothN (gAdd a x) 0 y) := step_b64 gAdd_stays (p := (a, 0)) (q := (x, y)) HB.out hx
      have hF : bothF (gAdd a x) 0 y ≠ 0 → bothN (gAdd a x) 0 y = 0 := both_faulty told_faulty
      have hS2 : allV gAdd (0, 0) (l.take (i + 1)) = (bothN (gAdd a x) 0 y, bothF (gAdd a x) 0 y) := hS
      have zg : g < wr.heap.size := Lib.lt_of_cell a0
      clear hxy hx hS e1 e2 e3
      generalize bothN (gAdd a x) 0 y = X at *
      generalize bothF (gAdd a x) 0 y = Y at *
      have HD := Lib.hid hd
      have HS := Lib.hid hS2
      have HB2 := Lib.hid hB2
      have HF := Lib.hid hF
      clear hd hS2 hB2 hF
      by_cases hq : Y = 0
      · subst hq
        clear HF
        have n4 : wr.heap.size ≠ w.heap.size := by omega
        have n0 : wr.heap.size ≠ w.heap.size + 1 := by omega
        have n1 : wr.heap.size ≠ g := by omega
        go_wp2_with fail
        go_region_held3 (fun w' => w'.cell? ⟨w.heap.size + 1, 0, none⟩ = some (.int .i64 a) ∧ w'.cell? ⟨w.heap.size + 1, 1, none⟩ = some (.int .i64 0) ∧ w'.cell? ⟨g, o + i * 2, none⟩ = some (.int .i64 x) ∧ w'.cell? ⟨g, o + i * 2 + 1, none⟩ = some (.int .i64 y))
          (first | (simp only [World.cell?_drew]; with_reducible exact ⟨c0, c1, a0, a1⟩) | with_reducible exact ⟨m0, m1, m2, m3⟩ | go_keep)
          (first
          | (go_at_call 35; refine (HD.out _).mono ?_; rintro e w1 ⟨rfl, b1⟩
             have B1 : Below wr.heap.size wr w1 := by first | exact below_up (Below.refl _ wr).drew b1 | exact below_alloc (Below.refl _ wr).drew b1
             have m0 := keep_cell B1 c0
             have m1 := keep_cell B1 c1
             have m2 := keep_cell B1 a0
             have m3 := keep_cell B1 a1
             have r0 := keep_cell B1 k0
             have r1 := keep_cell B1 k1
             have s0 := keep_frozen B1 z0 g0
             have s1 := keep_frozen B1 z0 g1
             have t0 := keep_frozen B1 z1 f0
             have t1 := keep_frozen B1 z1 f1
             have y0 : w.heap.size < w1.heap.size := Lib.lt_of_cell r0
             have y1 : w.heap.size + 1 < w1.heap.size := Lib.lt_of_cell m0
             have n5 : w1.heap.size ≠ w.heap.size := by omega
             have n2 : w1.heap.size ≠ w.heap.size + 1 := by have := B1.size; omega
             have n3 : w1.heap.size ≠ g := by have := B1.size; omega
             try (have p0 : w1.cell? ⟨wr.heap.size, 0, none⟩ = some (.int .i64 0) := keep_fresh (W := wr.drew) b1 0 (v := .int .i64 0) rfl
                  have p1 : w1.cell? ⟨wr.heap.size, 1, none⟩ = some (.int .i64 0) := keep_fresh (W := wr.drew) b1 1 (v := .int .i64 0) rfl
                  have q0 : w1.frozen? ⟨wr.heap.size, 0, none⟩ = false := fresh_frozen (W := wr.drew) b1 0
                  have q1 : w1.frozen? ⟨wr.heap.size, 1, none⟩ = false := fresh_frozen (W := wr.drew) b1 1
                  have zz : wr.heap.size < w1.heap.size := by have := b1.size; simp at this; omega)))
        all_goals (try clear a0 a1 c0 c1 k0 k1 g0 g1 f0 f1)
        all_goals go_wp2_with fail
        all_goals
          have h2 := hb.trans (B1.mono hb.size)
          go_roundw
          case rel =>
            refine ⟨i + 1, X, by omega, by go_num, HS, HB2, ?_, ?_⟩
            · repeat' (first | (with_reducible exact h2) | (with_reducible refine Below.alloc ?_ ?_ _) | (with_reducible refine Below.setCell ?_ ?_ _))
              all_goals (first | (simp; done) | (simpa using h2.size) | (simpa using hb.size))
            refine ⟨by simp; omega, by simp [go_sem, r0, y0], by simp [go_sem, r1, y0], by simp [go_sem, s0, y0], by simp [go_sem, s1, y0], by simp [go_sem, m0, y1], by simp [go_sem, m1, y1], by simp [go_sem, t0, y1], by simp [go_sem, t1, y1]⟩
          case measure => simp [leftC, intOf]; omega
      · have d1 : (Y != 0) = true := by rw [bne_iff_ne]; exact hq
        have HE := Lib.hid (all_stop HS.out (HF.out hq) hq)
        clear HF hq
        have n4 : wr.heap.size ≠ w.heap.size := by omega
        have n0 : wr.heap.size ≠ w.heap.size + 1 := by omega
        have n1 : wr.heap.size ≠ g := by omega
        go_wp2_with fail
        go_region_held3 (fun w' => w'.cell? ⟨w.heap.size + 1, 0, none⟩ = some (.int .i64 a) ∧ w'.cell? ⟨w.heap.size + 1, 1, none⟩ = some (.int .i64 0) ∧ w'.cell? ⟨g, o + i * 2, none⟩ = some (.int .i64 x) ∧ w'.cell? ⟨g, o + i * 2 + 1, none⟩ = some (.int .i64 y))
          (first | (simp only [World.cell?_drew]; with_reducible exact ⟨c0, c1, a0, a1⟩) | with_reducible exact ⟨m0, m1, m2, m3⟩ | go_keep)
          (first
          | (go_at_call 35; refine (HD.out _).mono ?_; rintro e w1 ⟨rfl, b1⟩
             have B1 : Below wr.heap.size wr w1 := by first | exact below_up (Below.refl _ wr).drew b1 | exact below_alloc (Below.refl _ wr).drew b1
             have m0 := keep_cell B1 c0
             have m1 := keep_cell B1 c1
             have m2 := keep_cell B1 a0
             have m3 := keep_cell B1 a1
             have r0 := keep_cell B1 k0
             have r1 := keep_cell B1 k1
             have s0 := keep_frozen B1 z0 g0
             have s1 := keep_frozen B1 z0 g1
             have t0 := keep_frozen B1 z1 f0
             have t1 := keep_frozen B1 z1 f1
             have y0 : w.heap.size < w1.heap.size := Lib.lt_of_cell r0
             have y1 : w.heap.size + 1 < w1.heap.size := Lib.lt_of_cell m0
             have n5 : w1.heap.size ≠ w.heap.size := by omega
             have n2 : w1.heap.size ≠ w.heap.size + 1 := by have := B1.size; omega
             have n3 : w1.heap.size ≠ g := by have := B1.size; omega
             try (have p0 : w1.cell? ⟨wr.heap.size, 0, none⟩ = some (.int .i64 0) := keep_fresh (W := wr.drew) b1 0 (v := .int .i64 0) rfl
                  have p1 : w1.cell? ⟨wr.heap.size, 1, none⟩ = some (.int .i64 0) := keep_fresh (W := wr.drew) b1 1 (v := .int .i64 0) rfl
                  have q0 : w1.frozen? ⟨wr.heap.size, 0, none⟩ = false := fresh_frozen (W := wr.drew) b1 0
                  have q1 : w1.frozen? ⟨wr.heap.size, 1, none⟩ = false := fresh_frozen (W := wr.drew) b1 1
                  have zz : wr.heap.size < w1.heap.size := by have := b1.size; simp at this; omega)))
        all_goals (try clear a0 a1 c0 c1 k0 k1 g0 g1 f0 f1)
        all_goals go_wp2_with fail
        all_goals
          have h2 := hb.trans (B1.mono hb.size)
          exact bodyPost_ret (v := .agg #[.int .i64 X, .int .i64 Y]) (by simp [results, Tryz.results67, go_sem, r0, r1, y0]) rfl
            ⟨by rw [HE.out], by
              repeat' (first | (with_reducible exact h2) | (with_reducible refine Below.alloc ?_ ?_ _) | (with_reducible refine Below.setCell ?_ ?_ _))
              all_goals (first | (simp; done) | (simpa using h2.size) | (simpa using hb.size))⟩
    · have hE := HP.out
      rw [List.take_of_length_le (by omega)] at hE
      have HE := Lib.hid hE
      clear hE
      go_wp2_with fail
      exact bodyPost_ret (v := .agg #[.int .i64 a, .int .i64 0]) (by simp [results, Tryz.results67, go_sem, k0, k1]) rfl
        ⟨by rw [HE.out], (hb.setCell (by simp) _).setCell (by simp) _⟩

set_option maxHeartbeats 400000 in
theorem vsum_nil (A : Option Addr) (cap : Nat) (w : World) :
    Calls Tryz.prog 67 #[.slice A 0 cap] w fun e w' => e = .returned (.agg #[.int .i64 0, .int .i64 0]) ∧ Below w.heap.size w w' := by
  go_enter Tryz.func67, Tryz.ntmps67
  go_wp2_with fail
  go_loopw [4] (fun v wr => v = .int .i64 0 ∧ wr = (w.alloc (.cells #[.int .i64 0, .int .i64 0] 35)).alloc (.cells #[.int .i64 0, .int .i64 0] 35)) (fun _ _ => 0)
  case atStart => exact ⟨rfl, rfl⟩
  case round =>
    obtain ⟨rfl, rfl⟩ := hrel
    go_wp2_with fail
    exact bodyPost_ret (v := .agg #[.int .i64 0, .int .i64 0]) (by simp [results, Tryz.results67, go_sem]) rfl
      ⟨rfl, ((Below.refl _ _).alloc (Nat.le_refl _) _).alloc (by simp) _⟩
theorem vsum_any (l : List (Int × Int)) (hl : l.length ≤ maxLen) (hlb : ∀ q ∈ l, B64 q.1) (A : Option Addr) (cap : Nat) (w : World) (hc : ListV w A l) :
    Calls Tryz.prog 67 #[.slice A l.length cap] w fun e w' =>
      e = .returned (.agg #[.int .i64 (allV gAdd (0, 0) l).1, .int .i64 (allV gAdd (0, 0) l).2]) ∧ Below w.heap.size w w' := by
  by_cases h : l = []
  · subst h
    exact vsum_nil A cap w
  · obtain ⟨g, o, rfl, ha⟩ := hc h
    exact vsum_some l hl hlb g o cap w ha
end Go.Proofs.YthaoalmhhgllmaaGreatDoor
namespace Go.Proofs.YthaoalmhhgllmaaGreatDoor
open Go.RowKit

theorem most_first {G : Int → Int → Int × Int} {l : List (Int × Int)} {x y : Int} (h : l[0]? = some (x, y)) : allV G (l.headD (0, 0)) (l.take (0 + 1)) = stepV G (x, y) (x, y) := by
  cases l with
  | nil => simp at h
  | cons q r => simp at h; subst h; rfl
theorem step_fault {G : Int → Int → Int × Int} {p : Int × Int} {x y : Int} (hp : p.2 = 0 ∨ p.2 = y) (h : y ≠ 0) : stepV G p (x, y) = (0, y) := by
  unfold stepV bothN bothF
  rcases hp with hp | hp <;> simp [hp, h]
theorem step_fine {G : Int → Int → Int × Int} {p : Int × Int} {x : Int} (hp : p.2 = 0) : stepV G p (x, 0) = G p.1 x := by
  unfold stepV bothN bothF
  simp [hp]

set_option maxHeartbeats 2000000 in
theorem vlow_some (l : List (Int × Int)) (hl : l.length ≤ maxLen) (g o cap : Nat) (w : World) (hc : AtV w g o l) :
    Calls Tryz.prog 68 #[.slice (some ⟨g, o, none⟩) l.length cap, .bool false] w fun e w' =>
      e = .returned (.agg #[.int .i64 (mostV gLow l).1, .int .i64 (mostV gLow l).2]) ∧ Below w.heap.size w w' := by
  have HC := Lib.hid hc
  unfold maxLen at hl
  clear hc
  go_enter Tryz.func68, Tryz.ntmps68
  go_wp2_with fail
  go_loopw [6] (fun v wr => ∃ i : Nat, ∃ a : Int, i ≤ l.length ∧ v = .int .i64 i ∧ Hid ((i = 0 → a = 0) ∧ (i ≠ 0 → allV gLow (l.headD (0, 0)) (l.take i) = (a, 0))) ∧ Below w.heap.size w wr ∧ w.heap.size + 1 < wr.heap.size ∧
      wr.cell? ⟨w.heap.size, 0, none⟩ = some (.int .i64 0) ∧ wr.cell? ⟨w.heap.size, 1, none⟩ = some (.int .i64 0) ∧ wr.frozen? ⟨w.heap.size, 0, none⟩ = false ∧ wr.frozen? ⟨w.heap.size, 1, none⟩ = false ∧
      wr.cell? ⟨w.heap.size + 1, 0, none⟩ = some (.int .i64 a) ∧ wr.cell? ⟨w.heap.size + 1, 1, none⟩ = some (.int .i64 0) ∧ wr.frozen? ⟨w.heap.size + 1, 0, none⟩ = false ∧ wr.frozen? ⟨w.heap.size + 1, 1, none⟩ = false) (fun v _ => leftC l.length v)
  case atStart =>
    exact ⟨0, 0, Nat.zero_le _, rfl, Lib.hid ⟨fun _ => rfl, fun h => absurd rfl h⟩, ((Below.refl _ _).alloc (Nat.le_refl _) _).alloc (by simp) _, by simp, by simp [go_sem], by simp [go_sem], by simp [go_sem], by simp [go_sem], by simp [go_sem], by simp [go_sem], by simp [go_sem], by simp [go_sem]⟩
  case round =>
    obtain ⟨i, a, hi, rfl, HP, hb, z1, k0, k1, g0, g1, c0, c1, f0, f1⟩ := hrel
    have z0 : w.heap.size < wr.heap.size := by omega
    by_cases hlt : i < l.length
    · obtain ⟨x, y, hxy⟩ : ∃ x y, l[i]? = some (x, y) := ⟨_, _, List.getElem?_eq_getElem hlt⟩
      obtain ⟨a0, a1⟩ := (HC.out.below hb) i x y hxy
      have zg : g < wr.heap.size := Lib.lt_of_cell a0
      have hS : allV gLow (l.headD (0, 0)) (l.take (i + 1)) = if i = 0 then stepV gLow (x, y) (x, y) else stepV gLow (a, 0) (x, y) := by
        by_cases h0 : i = 0
        · subst h0; rw [if_pos rfl]; exact most_first hxy
        · rw [if_neg h0, vall_snoc hxy, HP.out.2 h0]
      by_cases hy : y = 0
      · subst hy
        by_cases h0 : i = 0
        · subst h0
          rw [if_pos rfl, step_fine rfl] at hS
          have HS := Lib.hid (show allV gLow (l.headD (0, 0)) (l.take (0 + 1)) = (x, 0) from hS.trans (by unfold gLow; simp))
          clear hS hxy HP
          have e0 : o + 0 * 2 = o := by omega
          rw [e0] at a0 a1
          clear e0
          go_wp2_with fail
          go_quiet (fail)
          go_wp2_with fail
          go_roundw
          case rel => exact ⟨0 + 1, x, by omega, by go_num, Lib.hid ⟨fun h => by omega, fun _ => HS.out⟩, ((below_drewN hb _).setCell (by simp) _).setCell (by simp) _, by simpa using z1, by simp [go_sem, k0], by simp [go_sem, k1], by simp [go_sem, g0], by simp [go_sem, g1], by simp [go_sem, c0], by simp [go_sem, c1], by simp [go_sem, f0], by simp [go_sem, f1]⟩
          case measure => simp [leftC, intOf]; omega
        · rw [if_neg h0, step_fine rfl] at hS
          have hi0 : ((i : Int) == 0) = false := by rw [beq_eq_false_iff_ne]; omega
          cases hc : decide (x < a) with
          | true =>
            have HS := Lib.hid (show allV gLow (l.headD (0, 0)) (l.take (i + 1)) = (x, 0) from hS.trans (by unfold gLow; rw [if_pos (of_decide_eq_true hc)]))
            clear hS hxy HP h0
            go_wp2_with fail
            go_quiet (fail)
            go_wp2_with fail
            go_roundw
            case rel => exact ⟨i + 1, x, by omega, by go_num, Lib.hid ⟨fun h => by omega, fun _ => HS.out⟩, ((below_drewN hb _).setCell (by simp) _).setCell (by simp) _, by simpa using z1, by simp [go_sem, k0], by simp [go_sem, k1], by simp [go_sem, g0], by simp [go_sem, g1], by simp [go_sem, c0], by simp [go_sem, c1], by simp [go_sem, f0], by simp [go_sem, f1]⟩
            case measure => simp [leftC, intOf]; omega
          | false =>
            have HS := Lib.hid (show allV gLow (l.headD (0, 0)) (l.take (i + 1)) = (a, 0) from hS.trans (by unfold gLow; rw [if_neg (of_decide_eq_false hc)]))
            clear hS hxy HP h0
            go_wp2_with fail
            go_quiet (fail)
            go_wp2_with fail
            go_roundw
            case rel => exact ⟨i + 1, a, by omega, by go_num, Lib.hid ⟨fun h => by omega, fun _ => HS.out⟩, below_drewN hb _, by simpa using z1, by simp [go_sem, k0], by simp [go_sem, k1], by simp [go_sem, g0], by simp [go_sem, g1], by simp [go_sem, c0], by simp [go_sem, c1], by simp [go_sem, f0], by simp [go_sem, f1]⟩
            case measure => simp [leftC, intOf]; omega
      · have d1 : (y != 0) = true := by rw [bne_iff_ne]; exact hy
        have hT : allV gLow (l.headD (0, 0)) (l.take (i + 1)) = (0, y) := by
          rw [hS]
          split
          · exact step_fault (.inr rfl) hy
          · exact step_fault (.inl rfl) hy
        have HE := Lib.hid (show mostV gLow l = (0, y) from all_stop hT rfl hy)
        clear hS hT hxy hy HP
        go_wp2_with fail
        exact bodyPost_ret (v := .agg #[.int .i64 0, .int .i64 y]) (by simp [results, Tryz.results68, go_sem, k0, k1]) rfl
          ⟨by rw [HE.out], (hb.setCell (by simp) _).setCell (by simp) _⟩
    · have HE : Hid (mostV gLow l = (a, 0)) := Lib.hid (by
        by_cases h0 : l = []
        · subst h0
          have hi0 : i = 0 := by simpa using hi
          rw [HP.out.1 hi0]
          rfl
        · have hlp : 0 < l.length := List.length_pos_iff.2 h0
          have := HP.out.2 (by omega)
          rw [List.take_of_length_le (by omega)] at this
          exact this)
      clear HP
      go_wp2_with fail
      exact bodyPost_ret (v := .agg #[.int .i64 a, .int .i64 0]) (by simp [results, Tryz.results68, go_sem, k0, k1]) rfl
        ⟨by rw [HE.out], (hb.setCell (by simp) _).setCell (by simp) _⟩

set_option maxHeartbeats 2000000 in
theorem vtop_some (l : List (Int × Int)) (hl : l.length ≤ maxLen) (g o cap : Nat) (w : World) (hc : AtV w g o l) :
    Calls Tryz.prog 68 #[.slice (some ⟨g, o, none⟩) l.length cap, .bool true] w fun e w' =>
      e = .returned (.agg #[.int .i64 (mostV gTop l).1, .int .i64 (mostV gTop l).2]) ∧ Below w.heap.size w w' := by
  have HC := Lib.hid hc
  unfold maxLen at hl
  clear hc
  go_enter Tryz.func68, Tryz.ntmps68
  go_wp2_with fail
  go_loopw [6] (fun v wr => ∃ i : Nat, ∃ a : Int, i ≤ l.length ∧ v = .int .i64 i ∧ Hid ((i = 0 → a = 0) ∧ (i ≠ 0 → allV gTop (l.headD (0, 0)) (l.take i) = (a, 0))) ∧ Below w.heap.size w wr ∧ w.heap.size + 1 < wr.heap.size ∧
      wr.cell? ⟨w.heap.size, 0, none⟩ = some (.int .i64 0) ∧ wr.cell? ⟨w.heap.size, 1, none⟩ = some (.int .i64 0) ∧ wr.frozen? ⟨w.heap.size, 0, none⟩ = false ∧ wr.frozen? ⟨w.heap.size, 1, none⟩ = false ∧
      wr.cell? ⟨w.heap.size + 1, 0, none⟩ = some (.int .i64 a) ∧ wr.cell? ⟨w.heap.size + 1, 1, none⟩ = some (.int .i64 0) ∧ wr.frozen? ⟨w.heap.size + 1, 0, none⟩ = false ∧ wr.frozen? ⟨w.heap.size + 1, 1, none⟩ = false) (fun v _ => leftC l.length v)
  case atStart =>
    exact ⟨0, 0, Nat.zero_le _, rfl, Lib.hid ⟨fun _ => rfl, fun h => absurd rfl h⟩, ((Below.refl _ _).alloc (Nat.le_refl _) _).alloc (by simp) _, by simp, by simp [go_sem], by simp [go_sem], by simp [go_sem], by simp [go_sem], by simp [go_sem], by simp [go_sem], by simp [go_sem], by simp [go_sem]⟩
  case round =>
    obtain ⟨i, a, hi, rfl, HP, hb, z1, k0, k1, g0, g1, c0, c1, f0, f1⟩ := hrel
    have z0 : w.heap.size < wr.heap.size := by omega
    by_cases hlt : i < l.length
    · obtain ⟨x, y, hxy⟩ : ∃ x y, l[i]? = some (x, y) := ⟨_, _, List.getElem?_eq_getElem hlt⟩
      obtain ⟨a0, a1⟩ := (HC.out.below hb) i x y hxy
      have zg : g < wr.heap.size := Lib.lt_of_cell a0
      have hS : allV gTop (l.headD (0, 0)) (l.take (i + 1)) = if i = 0 then stepV gTop (x, y) (x, y) else stepV gTop (a, 0) (x, y) := by
        by_cases h0 : i = 0
        · subst h0; rw [if_pos rfl]; exact most_first hxy
        · rw [if_neg h0, vall_snoc hxy, HP.out.2 h0]
      by_cases hy : y = 0
      · subst hy
        by_cases h0 : i = 0
        · subst h0
          rw [if_pos rfl, step_fine rfl] at hS
          have HS := Lib.hid (show allV gTop (l.headD (0, 0)) (l.take (0 + 1)) = (x, 0) from hS.trans (by unfold gTop; simp))
          clear hS hxy HP
          have e0 : o + 0 * 2 = o := by omega
          rw [e0] at a0 a1
          clear e0
          go_wp2_with fail
          go_quiet (fail)
          go_wp2_with fail
          go_roundw
          case rel => exact ⟨0 + 1, x, by omega, by go_num, Lib.hid ⟨fun h => by omega, fun _ => HS.out⟩, ((below_drewN hb _).setCell (by simp) _).setCell (by simp) _, by simpa using z1, by simp [go_sem, k0], by simp [go_sem, k1], by simp [go_sem, g0], by simp [go_sem, g1], by simp [go_sem, c0], by simp [go_sem, c1], by simp [go_sem, f0], by simp [go_sem, f1]⟩
          case measure => simp [leftC, intOf]; omega
        · rw [if_neg h0, step_fine rfl] at hS
          have hi0 : ((i : Int) == 0) = false := by rw [beq_eq_false_iff_ne]; omega
          cases hc : decide (a < x) with
          | true =>
            have HS := Lib.hid (show allV gTop (l.headD (0, 0)) (l.take (i + 1)) = (x, 0) from hS.trans (by unfold gTop; rw [if_pos (of_decide_eq_true hc)]))
            clear hS hxy HP h0
            go_wp2_with fail
            go_quiet (fail)
            go_wp2_with fail
            go_roundw
            case rel => exact ⟨i + 1, x, by omega, by go_num, Lib.hid ⟨fun h => by omega, fun _ => HS.out⟩, ((below_drewN hb _).setCell (by simp) _).setCell (by simp) _, by simpa using z1, by simp [go_sem, k0], by simp [go_sem, k1], by simp [go_sem, g0], by simp [go_sem, g1], by simp [go_sem, c0], by simp [go_sem, c1], by simp [go_sem, f0], by simp [go_sem, f1]⟩
            case measure => simp [leftC, intOf]; omega
          | false =>
            have HS := Lib.hid (show allV gTop (l.headD (0, 0)) (l.take (i + 1)) = (a, 0) from hS.trans (by unfold gTop; rw [if_neg (of_decide_eq_false hc)]))
            clear hS hxy HP h0
            go_wp2_with fail
            go_quiet (fail)
            go_wp2_with fail
            go_roundw
            case rel => exact ⟨i + 1, a, by omega, by go_num, Lib.hid ⟨fun h => by omega, fun _ => HS.out⟩, below_drewN hb _, by simpa using z1, by simp [go_sem, k0], by simp [go_sem, k1], by simp [go_sem, g0], by simp [go_sem, g1], by simp [go_sem, c0], by simp [go_sem, c1], by simp [go_sem, f0], by simp [go_sem, f1]⟩
            case measure => simp [leftC, intOf]; omega
      · have d1 : (y != 0) = true := by rw [bne_iff_ne]; exact hy
        have hT : allV gTop (l.headD (0, 0)) (l.take (i + 1)) = (0, y) := by
          rw [hS]
          split
          · exact step_fault (.inr rfl) hy
          · exact step_fault (.inl rfl) hy
        have HE := Lib.hid (show mostV gTop l = (0, y) from all_stop hT rfl hy)
        clear hS hT hxy hy HP
        go_wp2_with fail
        exact bodyPost_ret (v := .agg #[.int .i64 0, .int .i64 y]) (by simp [results, Tryz.results68, go_sem, k0, k1]) rfl
          ⟨by rw [HE.out], (hb.setCell (by simp) _).setCell (by simp) _⟩
    · have HE : Hid (mostV gTop l = (a, 0)) := Lib.hid (by
        by_cases h0 : l = []
        · subst h0
          have hi0 : i = 0 := by simpa using hi
          rw [HP.out.1 hi0]
          rfl
        · have hlp : 0 < l.length := List.length_pos_iff.2 h0
          have := HP.out.2 (by omega)
          rw [List.take_of_length_le (by omega)] at this
          exact this)
      clear HP
      go_wp2_with fail
      exact bodyPost_ret (v := .agg #[.int .i64 a, .int .i64 0]) (by simp [results, Tryz.results68, go_sem, k0, k1]) rfl
        ⟨by rw [HE.out], (hb.setCell (by simp) _).setCell (by simp) _⟩

set_option maxHeartbeats 400000 in
theorem vbest_nil (t : Bool) (A : Option Addr) (cap : Nat) (w : World) :
    Calls Tryz.prog 68 #[.slice A 0 cap, .bool t] w fun e w' => e = .returned (.agg #[.int .i64 0, .int .i64 0]) ∧ Below w.heap.size w w' := by
  go_enter Tryz.func68, Tryz.ntmps68
  go_wp2_with fail
  go_loopw [6] (fun v wr => v = .int .i64 0 ∧ wr = (w.alloc (.cells #[.int .i64 0, .int .i64 0] 35)).alloc (.cells #[.int .i64 0, .int .i64 0] 35)) (fun _ _ => 0)
  case atStart => exact ⟨rfl, rfl⟩
  case round =>
    obtain ⟨rfl, rfl⟩ := hrel
    go_wp2_with fail
    exact bodyPost_ret (v := .agg #[.int .i64 0, .int .i64 0]) (by simp [results, Tryz.results68, go_sem]) rfl
      ⟨rfl, ((Below.refl _ _).alloc (Nat.le_refl _) _).alloc (by simp) _⟩

theorem vlow_any (l : List (Int × Int)) (hl : l.length ≤ maxLen) (A : Option Addr) (cap : Nat) (w : World) (hc : ListV w A l) :
    Calls Tryz.prog 68 #[.slice A l.length cap, .bool false] w fun e w' =>
      e = .returned (.agg #[.int .i64 (mostV gLow l).1, .int .i64 (mostV gLow l).2]) ∧ Below w.heap.size w w' := by
  by_cases h : l = []
  · subst h
    exact vbest_nil false A cap w
  · obtain ⟨g, o, rfl, ha⟩ := hc h
    exact vlow_some l hl g o cap w ha

theorem vtop_any (l : List (Int × Int)) (hl : l.length ≤ maxLen) (A : Option Addr) (cap : Nat) (w : World) (hc : ListV w A l) :
    Calls Tryz.prog 68 #[.slice A l.length cap, .bool true] w fun e w' =>
      e = .returned (.agg #[.int .i64 (mostV gTop l).1, .int .i64 (mostV gTop l).2]) ∧ Below w.heap.size w w' := by
  by_cases h : l = []
  · subst h
    exact vbest_nil true A cap w
  · obtain ⟨g, o, rfl, ha⟩ := hc h
    exact vtop_some l hl g o cap w ha
end Go.Proofs.YthaoalmhhgllmaaGreatDoor
namespace Go.Proofs.YthaoalmhhgllmaaGreatDoor
open Go.RowKit

theorem hasP_eq (a b c d x y : Int) : hasP a b c d x y = hasB a b c d x y := rfl
theorem usT_rd {x y : Int} {t : Tr} (h : t.kind = 1 ∨ t.kind = 6) : usT x y t = hasP t.c1 t.r1 t.c2 t.r2 x y := by
  cases t; rw [usT]; exact if_pos h
theorem usT_no {x y : Int} {t : Tr} (h : ¬ (t.kind = 1 ∨ t.kind = 6)) : usT x y t = usL x y t.kids := by
  cases t; rw [usT]; exact if_neg h
theorem usL_take_yes {x y : Int} : ∀ {ks : List Tr} {i : Nat} {u : Tr}, ks[i]? = some u → usT x y u = true → usL x y ks = true
  | [], i, u, h, _ => by simp at h
  | t :: ts, 0, u, h, k => by simp at h; subst h; rw [usL, k]; rfl
  | t :: ts, i + 1, u, h, k => by rw [usL, usL_take_yes (ks := ts) (i := i) (by simpa using h) k, Bool.or_true]
theorem usL_app {x y : Int} : ∀ (a b : List Tr), usL x y (a ++ b) = (usL x y a || usL x y b)
  | [], b => by rw [List.nil_append, usL, Bool.false_or]
  | t :: ts, b => by rw [List.cons_append, usL, usL, usL_app ts b, Bool.or_assoc]
theorem usL_take_no {x y : Int} {ks : List Tr} {i : Nat} {u : Tr} (h : ks[i]? = some u) (hp : usL x y (ks.take i) = false) (hu : usT x y u = false) : usL x y (ks.take (i + 1)) = false := by
  rw [List.take_add_one, h, usL_app, hp]
  show (false || usL x y [u]) = false
  rw [usL, usL, hu]; rfl
def UsC (x y : Int) (t : Tr) : Prop := ∀ (w : World) (P : Nat → Prop) (A : Option Addr) (cap : Nat), KV w P t A →
  Calls Tryz.prog 23 #[.agg #[.int .i64 t.kind, .int .i64 t.num, .int .i64 t.c1, .int .i64 t.r1, .int .i64 t.c2, .int .i64 t.r2, .string ⟨t.word.toArray⟩, .slice A t.kids.length cap], .agg #[.int .i64 x, .int .i64 y]] w fun e w' => e = .returned (.bool (usT x y t)) ∧ Below w.heap.size w w'
set_option maxHeartbeats 1000000 in
set_option maxRecDepth 10000 in
theorem uses_rd (x y : Int) (t : Tr) (hlen : t.kids.length ≤ maxLen) (b1 : Bool) (e1 : (t.kind == 1) = b1) (e6 : b1 = false → (t.kind == 6) = true) (h : t.kind = 1 ∨ t.kind = 6) : UsC x y t := by
  intro w P A cap _
  have HH := Lib.hid (fun w => rhas_any t.c1 t.r1 t.c2 t.r2 x y w)
  have HE := Lib.hid (usT_rd (x := x) (y := y) h)
  unfold maxLen at hlen
  clear h
  cases b1
  all_goals
    first | have k6 := e6 rfl | have k6 := e1
    clear e6
    go_enter Tryz.func23, Tryz.ntmps23
    go_wp2_with fail
    refine (HH.out _).mono ?_; rintro e w1 ⟨rfl, q1⟩
    have h1 : Below w.heap.size w w1 := (((Below.refl _ _).alloc (Nat.le_refl _) _).alloc (by simp) _).trans (q1.mono (by simp; omega))
    clear q1
    go_wp2_with fail
    go_ret
    exact ⟨by rw [HE.out, hasP_eq]; rfl, h1⟩
set_option maxHeartbeats 1000000 in
set_option maxRecDepth 10000 in
theorem uses_no (x y : Int) (t : Tr) (hlen : t.kids.length ≤ maxLen) (e1 : (t.kind == 1) = false) (e6 : (t.kind == 6) = false) (ih : ∀ u ∈ t.kids, UsC x y u) : UsC x y t := by
  intro w P A cap hk
  have HK := Lib.hid hk
  have HI := Lib.hid ih
  have HE := Lib.hid (usT_no (x := x) (y := y) (t := t) (by rw [beq_eq_false_iff_ne] at e1 e6; rintro (h | h); exact e1 h; exact e6 h))
  unfold maxLen at hlen
  generalize usT x y t = Z at *
  clear hk ih
  go_enter Tryz.func23, Tryz.ntmps23
  go_wp2_with fail
  go_loopw [5] (fun vi wr => ∃ i : Nat, i ≤ t.kids.length ∧ vi = .int .i64 (i : Int) ∧ Hid (usL x y (t.kids.take i) = false) ∧ Below w.heap.size w wr ∧ w.heap.size + 1 < wr.heap.size ∧ wr.cell? ⟨w.heap.size, 7, none⟩ = some (.slice A t.kids.length cap) ∧ wr.cell? ⟨w.heap.size + 1, 0, none⟩ = some (.int .i64 x) ∧ wr.cell? ⟨w.heap.size + 1, 1, none⟩ = some (.int .i64 y)) (fun vi _ => t.kids.length - (intOf vi).toNat)
  case atStart => exact ⟨0, Nat.zero_le _, rfl, Lib.hid (by rw [List.take_zero, usL]), (((Below.refl _ _).alloc (Nat.le_refl _) _).alloc (by simp) _), by simp, by simp [go_sem], by simp [go_sem], by simp [go_sem]⟩
  case round =>
    obtain ⟨i, hi, rfl, HTK, hbel, hsz, c7, p0, p1⟩ := hrel
    by_cases hlt : i < t.kids.length
    · have hu : t.kids[i]? = some (t.kids[i]'hlt) := List.getElem?_eq_getElem hlt
      obtain ⟨g, o, rfl⟩ := HK.out.addr hu
      obtain ⟨hg, A', cap', h8, hkv⟩ := HK.out.kidAt hbel hu
      have HTE := Lib.hid fun e => usL_take_no (x := x) (y := y) hu HTK.out e
      have HTB := Lib.hid fun e => usL_take_yes (x := x) (y := y) hu e
      have HC := Lib.hid (HI.out _ (List.getElem_mem hlt) wr.drew _ A' cap' (hkv.kept (Kept.of_below (Below.refl _ wr).drew)))
      generalize t.kids[i]'hlt = u at *
      obtain ⟨q0, q1, q2, q3, q4, q5, q6, q7⟩ := h8
      clear hkv hu
      go_wp2_with fail
      go_region_held3 (fun w' => w'.cell? ⟨g, o + i * 8, none⟩ = some (.int .i64 u.kind) ∧ w'.cell? ⟨g, o + i * 8 + 1, none⟩ = some (.int .i64 u.num) ∧ w'.cell? ⟨g, o + i * 8 + 2, none⟩ = some (.int .i64 u.c1) ∧ w'.cell? ⟨g, o + i * 8 + 3, none⟩ = some (.int .i64 u.r1) ∧ w'.cell? ⟨g, o + i * 8 + 4, none⟩ = some (.int .i64 u.c2) ∧ w'.cell? ⟨g, o + i * 8 + 5, none⟩ = some (.int .i64 u.r2) ∧ w'.cell? ⟨g, o + i * 8 + 6, none⟩ = some (.string ⟨u.word.toArray⟩) ∧ w'.cell? ⟨g, o + i * 8 + 7, none⟩ = some (.slice A' u.kids.length cap') ∧ w'.cell? ⟨w.heap.size, 7, none⟩ = some (.slice (some ⟨g, o, none⟩) t.kids.length cap) ∧ w'.cell? ⟨w.heap.size + 1, 0, none⟩ = some (.int .i64 x) ∧ w'.cell? ⟨w.heap.size + 1, 1, none⟩ = some (.int .i64 y))
        (first | (simp only [World.cell?_drew]; with_reducible exact ⟨q0, q1, q2, q3, q4, q5, q6, q7, c7, p0, p1⟩) | (with_reducible exact ⟨m0, m1, m2, m3, m4, m5, m6, m7, e7, r0, r1⟩) | fail)
        (first
        | (go_at_call 23; refine Calls.mono HC.out ?_; rintro e w1 ⟨rfl, b1⟩
           have B1 : Below wr.heap.size wr w1 := (Below.refl _ wr).drew.trans b1
           have m0 := keep_cell B1 q0
           have m1 := keep_cell B1 q1
           have m2 := keep_cell B1 q2
           have m3 := keep_cell B1 q3
           have m4 := keep_cell B1 q4
           have m5 := keep_cell B1 q5
           have m6 := keep_cell B1 q6
           have m7 := keep_cell B1 q7
           have e7 := keep_cell B1 c7
           have r0 := keep_cell B1 p0
           have r1 := keep_cell B1 p1
           have s7 : w.heap.size + 1 < w1.heap.size := Nat.lt_of_lt_of_le hsz B1.size
           have hb1 := hbel.trans (B1.mono hbel.size)
           clear b1 B1 c7 p0 p1 q0 q1 q2 q3 q4 q5 q6 q7)
        | fail)
      clear m0 m1 m2 m3 m4 m5 m6 m7
      generalize hM : usT x y u = M at *
      cases M with
      | false =>
        have HG := Lib.hid (HTE.out rfl)
        clear HTE HTB hM
        go_wp2_with fail
        go_roundw
        case rel => exact ⟨i + 1, by omega, by go_num, HG, hb1, s7, e7, r0, r1⟩
        case measure => simp [intOf]; omega
      | true =>
        have HF := Lib.hid (HTB.out rfl)
        clear HTE HTB hM
        go_wp2_with fail
        go_ret
        exact ⟨by rw [HE.out, HF.out]; rfl, hb1⟩
    · have hii : i = t.kids.length := by omega
      subst hii
      have hz : usL x y t.kids = false := by have := HTK.out; rwa [List.take_length] at this
      have HZ := Lib.hid hz
      clear hz
      go_wp2_with fail
      go_ret
      exact ⟨by rw [HE.out, HZ.out]; rfl, hbel⟩
theorem ruses_any (x y : Int) : ∀ {t : Tr}, Wid t → UsC x y t := by
  intro t hW
  induction hW with
  | @mk k n c r d s w ks hl hk ih =>
    by_cases h1 : k = 1
    · exact uses_rd x y _ hl true (by rw [beq_iff_eq]; exact h1) (fun e => by cases e) (.inl h1)
    · have b1 : (k == 1) = false := by rw [beq_eq_false_iff_ne]; exact h1
      by_cases h6 : k = 6
      · exact uses_rd x y _ hl false b1 (fun _ => by rw [beq_iff_eq]; exact h6) (.inr h6)
      · exact uses_no x y _ hl b1 (by rw [beq_eq_false_iff_ne]; exact h6) ih
end Go.Proofs.YthaoalmhhgllmaaGreatDoor
namespace Go.Proofs.YthaoalmhhgllmaaGreatDoor
open Go.RowKit

theorem mem_cells {a b c d : Int} {n : Nat} {p : Int × Int} (h : p ∈ cellsTo a b c d n) : hasB a b c d p.1 p.2 = true := by
  unfold cellsTo at h
  obtain ⟨j, hj, rfl⟩ := List.mem_map.1 h
  exact (List.mem_filter.1 hj).2
theorem filterMap_same {α β : Type} {f g : α → Option β} : ∀ {l : List α}, (∀ a ∈ l, f a = g a) → l.filterMap f = l.filterMap g
  | [], _ => rfl
  | a :: l, h => by
    rw [List.filterMap_cons, List.filterMap_cons, h a (List.mem_cons_self ..), filterMap_same fun b hb => h b (List.mem_cons_of_mem _ hb)]
theorem cIn_same {l m : List Cel} {a b c d : Int} (h : ∀ x y, hasB a b c d x y = true → cAt x y l = cAt x y m) : cIn l a b c d = cIn m a b c d :=
  filterMap_same fun p hp => h p.1 p.2 (mem_cells hp)
mutual
theorem cm_same {l m : List Cel} : ∀ t : Tr, mayB t = true → (∀ x y, usT x y t = true → cAt x y l = cAt x y m) → cmT l t = cmT m t
  | .mk k n c r d s w ks, hm, h => by
    by_cases k1 : k = 1
    · subst k1
      have hw := rdr_whole hm rfl
      rw [cm_read rfl, cm_read rfl]
      unfold cVal
      show (cAt c r l).getD (0, 0) = (cAt c r m).getD (0, 0)
      rw [h c r (by
        rw [usT, if_pos (.inl rfl)]
        unfold hasP
        have h2 : (rightB c r && rightB d s && (decide (c ≤ d) && decide (r ≤ s))) = true := hw
        rw [h2, Bool.true_and, decide_eq_true_iff]
        simp only [Bool.and_eq_true, decide_eq_true_iff] at h2
        omega)]
    · by_cases k6 : k = 6
      · have e : (Tr.mk k n c r d s w ks).kind = 6 := k6
        rw [cm_bad (.inr e), cm_bad (.inr e)]
      · have hk : ∀ u ∈ ks, mayB u = true := may_kids hm
        have hu : ∀ x y, usL x y ks = true → cAt x y l = cAt x y m := fun x y hxy => h x y (by
          rw [usT, if_neg (by rintro (e | e); exact k1 e; exact k6 e)]; exact hxy)
        have hL := cmL_same ks hk hu
        have hI := itL_same ks hk hu
        rw [cmT, cmT, hL, hI, if_neg k1, if_neg k1]
theorem cmL_same {l m : List Cel} : ∀ ks : List Tr, (∀ u ∈ ks, mayB u = true) → (∀ x y, usL x y ks = true → cAt x y l = cAt x y m) → cmL l ks = cmL m ks
  | [], _, _ => by rw [cmL, cmL]
  | t :: ts, hm, h => by
    rw [cmL, cmL, cm_same t (hm t (List.mem_cons_self ..)) (fun x y hx => h x y (by rw [usL, hx]; rfl)), cmL_same ts (fun u hu => hm u (List.mem_cons_of_mem _ hu)) (fun x y hx => h x y (by rw [usL, hx, Bool.or_true]))]
theorem itL_same {l m : List Cel} : ∀ ks : List Tr, (∀ u ∈ ks, mayB u = true) → (∀ x y, usL x y ks = true → cAt x y l = cAt x y m) → itL l ks = itL m ks
  | [], _, _ => by rw [itL, itL]
  | t :: ts, hm, h => by
    have h1 := cm_same t (hm t (List.mem_cons_self ..)) (fun x y hx => h x y (by rw [usL, hx]; rfl))
    have h2 := itL_same ts (fun u hu => hm u (List.mem_cons_of_mem _ hu)) (fun x y hx => h x y (by rw [usL, hx, Bool.or_true]))
    rw [itL, itL, h1, h2]
    by_cases k6 : t.kind = 6
    · rw [if_pos k6, if_pos k6, cIn_same (m := m) fun x y hx => h x y (by rw [usL, usT_rd (.inr k6)]; rw [show hasP t.c1 t.r1 t.c2 t.r2 x y = true from hx]; rfl)]
    · rw [if_neg k6, if_neg k6]
end
theorem cAt_filter {x y : Int} {f : Cel → Bool} : ∀ {l : List Cel}, (∀ q ∈ l, q.c = x → q.r = y → f q = true) → cAt x y (l.filter f) = cAt x y l
  | [], _ => rfl
  | q :: l, h => by
    have ih := cAt_filter (l := l) fun p hp => h p (List.mem_cons_of_mem _ hp)
    cases hf : f q with
    | true => rw [List.filter_cons_of_pos hf, cAt, cAt, ih]
    | false =>
      rw [List.filter_cons_of_neg (by rw [hf]; decide), cAt, ih, if_neg]
      rintro ⟨h1, h2⟩
      have := h q (List.mem_cons_self ..) h1 h2
      rw [hf] at this
      cases this
theorem cAt_none {x y : Int} : ∀ {l : List Cel}, (∀ q ∈ l, ¬ (q.c = x ∧ q.r = y)) → cAt x y l = none
  | [], _ => rfl
  | q :: l, h => by rw [cAt, if_neg (h q (List.mem_cons_self ..))]; exact cAt_none fun p hp => h p (List.mem_cons_of_mem _ hp)
theorem cAt_app {x y : Int} : ∀ {l m : List Cel}, cAt x y (l ++ m) = (cAt x y l).or (cAt x y m)
  | [], m => by rw [List.nil_append, cAt, Option.none_or]
  | q :: l, m => by
    rw [List.cons_append, cAt, cAt]
    by_cases h : q.c = x ∧ q.r = y
    · rw [if_pos h, if_pos h, Option.some_or]
    · rw [if_neg h, if_neg h]; exact cAt_app
theorem only_same {l o : List Cel} {t : Tr} {f : Int → Int → Bool} (hm : mayB t = true) (hf : ∀ x y, usT x y t = true → f x y = true) :
    cmT ((l.filter fun q => f q.c q.r) ++ (o.filter fun q => !f q.c q.r)) t = cmT l t := by
  refine cm_same t hm fun x y hu => ?_
  rw [cAt_app, cAt_filter (fun q _ h1 h2 => by rw [h1, h2]; exact hf x y hu), cAt_none (l := o.filter _), Option.or_none]
  rintro q hq ⟨h1, h2⟩
  have := (List.mem_filter.1 hq).2
  rw [h1, h2, hf x y hu] at this
  cases this
def OkF (p : Int × Int) : Prop := (p.2 = 0 ∨ p.2 = 1 ∨ p.2 = 2)
def NzF (p : Int × Int) : Prop := p.2 ≠ 0 → p.1 = 0
theorem nz_told (n : Int) : NzF (vTold n) := by
  unfold NzF vTold tNum tFault
  cases inI n <;> simp
theorem ok_told (n : Int) : OkF (vTold n) := by
  unfold OkF vTold tFault
  cases inI n <;> simp
theorem ok_op (w : List UInt8) (a b : Int) : oFault (vOp w a b) = 0 ∨ oFault (vOp w a b) = 1 ∨ oFault (vOp w a b) = 2 := by
  unfold vOp
  repeat' split
  all_goals first | exact ok_told _ | exact .inl rfl | exact .inr (.inr rfl)
theorem nz_op (w : List UInt8) (a b : Int) : oFault (vOp w a b) ≠ 0 → oNum (vOp w a b) = 0 := by
  unfold vOp
  repeat' split
  all_goals first | exact nz_told _ | (intro h; exact absurd rfl h) | (intro _; rfl)
theorem ok_do {w : List UInt8} {p q : Int × Int} (hp : OkF p) (hq : OkF q) : OkF (doNum w p.1 p.2 q.1 q.2, doFault w p.1 p.2 q.1 q.2) := by
  unfold OkF doFault at *
  have h := ok_op w p.1 q.1
  repeat' split
  all_goals first | exact h | exact hp | exact hq | exact .inl rfl
theorem nz_do (w : List UInt8) (p q : Int × Int) : NzF (doNum w p.1 p.2 q.1 q.2, doFault w p.1 p.2 q.1 q.2) := by
  unfold NzF doFault doNum
  have h := nz_op w p.1 q.1
  intro hn
  by_cases h0 : p.2 = 0 ∧ q.2 = 0
  · rw [if_pos h0]
    refine h fun e => hn ?_
    show (if (vOp w p.1 q.1).isSome = true then _ else (0 : Int)) = 0
    split
    · rw [if_pos h0.1, if_pos h0.2]; exact e
    · rfl
  · exact if_neg h0
theorem ok_all {G : Int → Int → Int × Int} (hG : ∀ a b, OkF (G a b)) : ∀ (l : List (Int × Int)) (p : Int × Int), OkF p → (∀ q ∈ l, OkF q) → OkF (allV G p l)
  | [], p, hp, _ => hp
  | q :: l, p, hp, h => by
    refine ok_all hG l (stepV G p q) ?_ fun z hz => h z (List.mem_cons_of_mem _ hz)
    have hq := h q (List.mem_cons_self ..)
    have hg := hG p.1 q.1
    unfold OkF stepV bothF at *
    repeat' split
    all_goals first | exact hg | exact hq | exact hp
theorem nz_all {G : Int → Int → Int × Int} (hG : ∀ a b, NzF (G a b)) : ∀ (l : List (Int × Int)) (p : Int × Int), NzF p → NzF (allV G p l)
  | [], p, hp => hp
  | q :: l, p, hp => by
    refine nz_all hG l (stepV G p q) ?_
    have hg := hG p.1 q.1
    unfold NzF stepV bothF bothN at *
    intro hn
    by_cases h0 : p.2 = 0 ∧ q.2 = 0
    · rw [if_pos h0]
      refine hg fun e => hn ?_
      show (if p.2 = 0 then _ else _) = (0 : Int)
      rw [if_pos h0.1, if_pos h0.2]; exact e
    · exact if_neg h0
end Go.Proofs.YthaoalmhhgllmaaGreatDoor
namespace Go.Proofs.YthaoalmhhgllmaaGreatDoor
open Go.RowKit

theorem nz_alone (q : Cel) : NzF (aloneV q) := fun h => if_neg h
theorem nz_at {x y : Int} : ∀ {l : List Cel} {v : Int × Int}, cAt x y l = some v → NzF v
  | [], v, h => by cases h
  | q :: l, v, h => by
    rw [cAt] at h
    by_cases hp : q.c = x ∧ q.r = y
    · rw [if_pos hp] at h; cases h; exact nz_alone q
    · rw [if_neg hp] at h; exact nz_at h
theorem nz_val (x y : Int) (l : List Cel) : NzF (cVal x y l) := by
  unfold cVal
  cases h : cAt x y l with
  | none => exact fun hn => absurd rfl hn
  | some v => exact nz_at h
theorem nz_add (a b : Int) : NzF (gAdd a b) := nz_told _
theorem nz_low (a b : Int) : NzF (gLow a b) := fun hn => absurd rfl hn
theorem nz_top (a b : Int) : NzF (gTop a b) := fun hn => absurd rfl hn
theorem nz_zero : NzF (0, 0) := fun hn => absurd rfl hn
theorem nz_bad : NzF (0, 3) := fun _ => rfl
theorem nz_get {l : List (Int × Int)} (h : ∀ q ∈ l, NzF q) (i : Nat) : NzF (l.getD i (0, 0)) := by
  rw [List.getD_eq_getElem?_getD]
  cases hi : l[i]? with
  | none => exact nz_zero
  | some v => exact h v (List.mem_of_getElem? hi)
theorem nz_most {G : Int → Int → Int × Int} (hG : ∀ a b, NzF (G a b)) {l : List (Int × Int)} (h : ∀ q ∈ l, NzF q) : NzF (mostV G l) := by
  unfold mostV
  refine nz_all hG l _ ?_
  cases l with
  | nil => exact nz_zero
  | cons a b => exact h a (List.mem_cons_self ..)
theorem nz_in {l : List Cel} {a b c d : Int} : ∀ q ∈ cIn l a b c d, NzF q := fun q hq => by
  unfold cIn at hq
  obtain ⟨p, _, hp⟩ := List.mem_filterMap.1 hq
  exact nz_at hp
mutual
theorem nz_cm (l : List Cel) : ∀ t : Tr, NzF (cmT l t)
  | .mk k n c r d s w ks => by
    have h1 := nz_cmL l ks
    have h2 := nz_itL l ks
    rw [cmT]
    repeat' split
    all_goals first
      | exact fun hn => absurd rfl hn
      | exact nz_bad
      | exact nz_val _ _ _
      | exact nz_do _ _ _
      | exact nz_do _ (0, 0) _
      | exact nz_get h1 _
      | exact nz_all nz_add _ _ nz_zero
      | exact nz_most nz_low h2
      | exact nz_most nz_top h2
theorem nz_cmL (l : List Cel) : ∀ ks : List Tr, ∀ q ∈ cmL l ks, NzF q
  | [], q, h => by rw [cmL] at h; cases h
  | t :: ts, q, h => by
    rw [cmL] at h
    rcases List.mem_cons.1 h with rfl | h
    · exact nz_cm l t
    · exact nz_cmL l ts q h
theorem nz_itL (l : List Cel) : ∀ ks : List Tr, ∀ q ∈ itL l ks, NzF q
  | [], q, h => by rw [itL] at h; cases h
  | t :: ts, q, h => by
    rw [itL] at h
    rcases List.mem_append.1 h with h | h
    · split at h
      · exact nz_in q h
      · rw [List.mem_singleton.1 h]; exact nz_cm l t
    · exact nz_itL l ts q h
end
theorem nz_of (l : List Cel) (t : Tr) : NzF (ofV l t) := by
  unfold ofV
  split
  · exact nz_cm l t
  · exact nz_bad
end Go.Proofs.YthaoalmhhgllmaaGreatDoor
namespace Go.Proofs.YthaoalmhhgllmaaGreatDoor
open Go.RowKit

theorem b_zero : B64 0 := by unfold B64; omega
theorem b_tru (b : Bool) : B64 (tru b) := by unfold tru B64; split <;> omega
theorem b_op (w : List UInt8) (a b : Int) : B64 (oNum (vOp w a b)) := by
  unfold vOp
  repeat' split
  all_goals first | exact told_b64 _ | exact b_tru _ | exact b_zero
theorem b_do (w : List UInt8) (n f m g : Int) : B64 (doNum w n f m g) := by
  unfold doNum
  split
  · exact b_op _ _ _
  · exact b_zero
theorem b_at {x y : Int} : ∀ {l : List Cel} {v : Int × Int}, (∀ q ∈ l, B64 q.n) → cAt x y l = some v → B64 v.1
  | [], v, _, h => by cases h
  | q :: l, v, hc, h => by
    rw [cAt] at h
    by_cases hp : q.c = x ∧ q.r = y
    · rw [if_pos hp] at h
      cases h
      unfold aloneV
      split
      · exact hc q (List.mem_cons_self ..)
      · exact b_zero
    · rw [if_neg hp] at h; exact b_at (fun p hp => hc p (List.mem_cons_of_mem _ hp)) h
theorem b_val {x y : Int} {l : List Cel} (hc : ∀ q ∈ l, B64 q.n) : B64 (cVal x y l).1 := by
  unfold cVal
  cases h : cAt x y l with
  | none => exact b_zero
  | some v => exact b_at hc h
theorem b_get {l : List (Int × Int)} (h : ∀ q ∈ l, B64 q.1) (i : Nat) : B64 (l.getD i (0, 0)).1 := by
  rw [List.getD_eq_getElem?_getD]
  cases hi : l[i]? with
  | none => exact b_zero
  | some v => exact h v (List.mem_of_getElem? hi)
theorem b_most {G : Int → Int → Int × Int} (hG : StaysV G) {l : List (Int × Int)} (h : ∀ q ∈ l, B64 q.1) : B64 (mostV G l).1 := by
  unfold mostV
  refine all_b64 hG l _ ?_ h
  cases l with
  | nil => exact b_zero
  | cons a b => exact h a (List.mem_cons_self ..)
theorem b_in {l : List Cel} (hc : ∀ q ∈ l, B64 q.n) {a b c d : Int} : ∀ q ∈ cIn l a b c d, B64 q.1 := fun q hq => by
  unfold cIn at hq
  obtain ⟨p, _, hp⟩ := List.mem_filterMap.1 hq
  exact b_at hc hp
theorem b_num {n c r d s : Int} {w : List UInt8} {ks : List Tr} (hm : mayB (.mk 0 n c r d s w ks) = true) (hf : n ≤ 9223372036854775807) : B64 n := by
  rw [mayB, if_pos rfl] at hm
  have := (Bool.and_eq_true _ _ ▸ hm).2
  have h0 : 0 ≤ n := of_decide_eq_true this
  unfold B64; omega
theorem cnt_pos : ∀ t : Tr, 1 ≤ cntT t
  | .mk _ _ _ _ _ _ _ ks => by rw [cntT]; omega
theorem cnt_len : ∀ ks : List Tr, ks.length ≤ cntL ks
  | [] => Nat.zero_le _
  | t :: ts => by have h1 := cnt_pos t; have h2 := cnt_len ts; rw [cntL, List.length_cons]; omega
mutual
theorem b_cm {l : List Cel} (hc : ∀ q ∈ l, B64 q.n) : ∀ t : Tr, mayB t = true → Fit t → cntT t ≤ 1000000 → B64 (cmT l t).1
  | .mk k n c r d s w ks, hm, .mk hn hf, hw0 => by
    have hw : cntL ks ≤ 1000000 := by rw [cntT] at hw0; omega
    have hl := cnt_len ks
    have hk : ∀ u ∈ ks, mayB u = true := may_kids hm
    have h1 := b_cmL hc ks hk hf hw
    have h2 := b_itL hc ks hk hf hw
    have h3 := itL_le l ks
    rw [cmT]
    repeat' split
    all_goals first
      | (rename_i e; subst e; exact b_num hm hn)
      | exact b_zero
      | exact b_val hc
      | exact b_do _ _ _ _ _
      | exact b_get h1 _
      | exact all_b64 gAdd_stays _ _ b_zero h2
      | exact b_most gLow_stays h2
      | exact b_most gTop_stays h2
      | (unfold B64; show _ ≤ ((itL l ks).length : Int) ∧ ((itL l ks).length : Int) ≤ _; omega)
theorem b_cmL {l : List Cel} (hc : ∀ q ∈ l, B64 q.n) : ∀ ks : List Tr, (∀ u ∈ ks, mayB u = true) → (∀ u ∈ ks, Fit u) → cntL ks ≤ 1000000 → ∀ q ∈ cmL l ks, B64 q.1
  | [], _, _, _, q, h => by rw [cmL] at h; cases h
  | t :: ts, hm, hf, hw, q, h => by
    rw [cmL] at h
    rcases List.mem_cons.1 h with rfl | h
    · exact b_cm hc t (hm t (List.mem_cons_self ..)) (hf t (List.mem_cons_self ..)) (by rw [cntL] at hw; omega)
    · exact b_cmL hc ts (fun u hu => hm u (List.mem_cons_of_mem _ hu)) (fun u hu => hf u (List.mem_cons_of_mem _ hu)) (by rw [cntL] at hw; omega) q h
theorem b_itL {l : List Cel} (hc : ∀ q ∈ l, B64 q.n) : ∀ ks : List Tr, (∀ u ∈ ks, mayB u = true) → (∀ u ∈ ks, Fit u) → cntL ks ≤ 1000000 → ∀ q ∈ itL l ks, B64 q.1
  | [], _, _, _, q, h => by rw [itL] at h; cases h
  | t :: ts, hm, hf, hw, q, h => by
    rw [itL] at h
    rcases List.mem_append.1 h with h | h
    · split at h
      · exact b_in hc q h
      · rw [List.mem_singleton.1 h]; exact b_cm hc t (hm t (List.mem_cons_self ..)) (hf t (List.mem_cons_self ..)) (by rw [cntL] at hw; omega)
    · exact b_itL hc ts (fun u hu => hm u (List.mem_cons_of_mem _ hu)) (fun u hu => hf u (List.mem_cons_of_mem _ hu)) (by rw [cntL] at hw; omega) q h
end
end Go.Proofs.YthaoalmhhgllmaaGreatDoor
