/- Texts joined: VaF, VaG, EvD, CeC. -/
import Derived.Test.YthaoalmhhgllmaaDoorMb01
import Derived.Test.YthaoalmhhgllmaaDoorMb08
import Derived.Deep.RegionHeld3
import Derived.Deep.QuietTactic
import Derived.BigQuiet
import Derived.Test.YthaoalmhhgllmaaDoorMb07
set_option linter.all false
namespace Go.Proofs.YthaoalmhhgllmaaDoor
open Go.RowKit
theorem all_faulty {G : Int → Int → Int × Int} {p : Int × Int} (h1 : p.1 = 0) (h2 : p.2 ≠ 0) : ∀ l, allV G p l = p
  | [] => rfl
  | q :: r => by
    have e : stepV G p q = p := by
      obtain ⟨a, b⟩ := p
      simp only at h1 h2
      subst h1
      unfold stepV bothN bothF
      simp [h2]
    show allV G (stepV G p q) r = p
    rw [e]
    exact all_faulty h1 h2 r
theorem all_stop {G : Int → Int → Int × Int} {p q : Int × Int} {l : List (Int × Int)} {i : Nat} (h : allV G p (l.take i) = q) (h1 : q.1 = 0) (h2 : q.2 ≠ 0) : allV G p l = q := by
  have e : allV G p l = allV G (allV G p (l.take i)) (l.drop i) := by
    unfold allV
    rw [← List.foldl_append, List.take_append_drop]
  rw [e, h]
  exact all_faulty h1 h2 _
theorem told_faulty {n : Int} (h : (vTold n).2 ≠ 0) : (vTold n).1 = 0 := by
  unfold vTold tNum tFault at *
  simp only at *
  split at h
  · exact absurd rfl h
  · rename_i hn; rw [if_neg hn]
theorem both_faulty {p : Int × Int} (hp : p.2 ≠ 0 → p.1 = 0) {f g : Int} (h : bothF p f g ≠ 0) : bothN p f g = 0 := by
  unfold bothF at h
  unfold bothN
  split
  · rename_i hh
    rw [if_pos hh.1, if_pos hh.2] at h
    exact hp h
  · rfl

set_option maxHeartbeats 2000000 in
theorem vsum_some (l : List (Int × Int)) (hl : l.length ≤ maxLen) (hlb : ∀ q ∈ l, B64 q.1) (g o cap : Nat) (w : World) (hc : AtV w g o l) :
    Calls Tryd.prog 66 #[.slice (some ⟨g, o, none⟩) l.length cap] w fun e w' =>
      e = .returned (.agg #[.int .i64 (allV gAdd (0, 0) l).1, .int .i64 (allV gAdd (0, 0) l).2]) ∧ Below w.heap.size w w' := by
  have HC := Lib.hid hc
  have HL := Lib.hid hlb
  unfold maxLen at hl
  clear hc hlb
  go_enter Tryd.func66, Tryd.ntmps66
  go_wp2_with fail
  go_loopw [4] (fun v wr => ∃ i : Nat, ∃ a : Int, i ≤ l.length ∧ v = .int .i64 i ∧ Hid (allV gAdd (0, 0) (l.take i) = (a, 0)) ∧ Hid (B64 a) ∧ Below w.heap.size w wr ∧ w.heap.size + 1 < wr.heap.size ∧
      wr.cell? ⟨w.heap.size, 0, none⟩ = some (.int .i64 0) ∧ wr.cell? ⟨w.heap.size, 1, none⟩ = some (.int .i64 0) ∧ wr.frozen? ⟨w.heap.size, 0, none⟩ = false ∧ wr.frozen? ⟨w.heap.size, 1, none⟩ = false ∧
      wr.cell? ⟨w.heap.size + 1, 0, none⟩ = some (.int .i64 a) ∧ wr.cell? ⟨w.heap.size + 1, 1, none⟩ = some (.int .i64 0) ∧ wr.frozen? ⟨w.heap.size + 1, 0, none⟩ = false ∧ wr.frozen? ⟨w.heap.size + 1, 1, none⟩ = false) (fun v _ => leftC l.length v)
  case atStart =>
    exact ⟨0, 0, Nat.zero_le _, rfl, Lib.hid (by simp [allV]), Lib.hid (by unfold B64; omega), ((Below.refl _ _).alloc (Nat.le_refl _) _).alloc (by simp) _, by simp, by simp [go_sem], by simp [go_sem], by simp [go_sem], by simp [go_sem], by simp [go_sem], by simp [go_sem], by simp [go_sem], by simp [go_sem]⟩
  case round =>
    obtain ⟨i, a, hi, rfl, HP, HB, hb, z1, k0, k1, g0, g1, c0, c1, f0, f1⟩ := hrel
    have z0 : w.heap.size < wr.heap.size := by omega
    by_cases hlt : i < l.length
    · obtain ⟨x, y, hxy⟩ : ∃ x y, l[i]? = some (x, y) := ⟨_, _, List.getElem?_eq_getElem hlt⟩
      have hx : B64 x := HL.out (x, y) (List.mem_of_getElem? hxy)
      obtain ⟨a0, a1⟩ := (HC.out.below hb) i x y hxy
      have hS := vall_snoc (G := gAdd) (p := (0, 0)) hxy
      rw [HP.out] at hS
      have hd := vdo_any ⟨#[43]⟩ a 0 x y HB.out hx
      obtain ⟨e1, e2, e3⟩ := do_num (l := [43]) (n := a) (m := x) (f := 0) (g := y) (p := gAdd a x) rfl
      rw [show (⟨#[43]⟩ : ByteArray).data.toList = [43] from rfl, e1, e2, e3] at hd
      have hB2 : B64 (bothN (gAdd a x) 0 y) := step_b64 gAdd_stays (p := (a, 0)) (q := (x, y)) HB.out hx
      have hF : bothF (gAdd a x) 0 y ≠ 0 → bothN (gAdd a x) 0 y = 0 := both_faulty told_faulty
      have hS2 : allV gAdd (0, 0) (l.take (i + 1)) = (bothN (gAdd a x) 0 y, bothF (gAdd a x) 0 y) := hS
      have zg : g < wr.heap.size := Lib.lt_of_cell a0
      clear hxy hx hS e1 e2 e3
      generalize bothN (gAdd a x) 0 y = X at *
      generalize bothF (gAdd a x) 0 y = Y at *
      have HD := Lib.hid hd
      have HS := Lib.hid hS2
      have HB2 := Lib.hid hB2
      have HF := Lib.hid hF
      clear hd hS2 hB2 hF
      by_cases hq : Y = 0
      · subst hq
        clear HF
        have n4 : wr.heap.size ≠ w.heap.size := by omega
        have n0 : wr.heap.size ≠ w.heap.size + 1 := by omega
        have n1 : wr.heap.size ≠ g := by omega
        go_wp2_with fail
        go_region_held3 (fun w' => w'.cell? ⟨w.heap.size + 1, 0, none⟩ = some (.int .i64 a) ∧ w'.cell? ⟨w.heap.size + 1, 1, none⟩ = some (.int .i64 0) ∧ w'.cell? ⟨g, o + i * 2, none⟩ = some (.int .i64 x) ∧ w'.cell? ⟨g, o + i * 2 + 1, none⟩ = some (.int .i64 y))
          (first | (simp only [World.cell?_drew]; with_reducible exact ⟨c0, c1, a0, a1⟩) | with_reducible exact ⟨m0, m1, m2, m3⟩ | go_keep)
          (first
          | (go_at_call 43; refine (HD.out _).mono ?_; rintro e w1 ⟨rfl, b1⟩
             have B1 : Below wr.heap.size wr w1 := by first | exact below_up (Below.refl _ wr).drew b1 | exact below_alloc (Below.refl _ wr).drew b1
             have m0 := keep_cell B1 c0
             have m1 := keep_cell B1 c1
             have m2 := keep_cell B1 a0
             have m3 := keep_cell B1 a1
             have r0 := keep_cell B1 k0
             have r1 := keep_cell B1 k1
             have s0 := keep_frozen B1 z0 g0
             have s1 := keep_frozen B1 z0 g1
             have t0 := keep_frozen B1 z1 f0
             have t1 := keep_frozen B1 z1 f1
             have y0 : w.heap.size < w1.heap.size := Lib.lt_of_cell r0
             have y1 : w.heap.size + 1 < w1.heap.size := Lib.lt_of_cell m0
             have n5 : w1.heap.size ≠ w.heap.size := by omega
             have n2 : w1.heap.size ≠ w.heap.size + 1 := by have := B1.size; omega
             have n3 : w1.heap.size ≠ g := by have := B1.size; omega
             try (have p0 : w1.cell? ⟨wr.heap.size, 0, none⟩ = some (.int .i64 0) := keep_fresh (W := wr.drew) b1 0 (v := .int .i64 0) rfl
                  have p1 : w1.cell? ⟨wr.heap.size, 1, none⟩ = some (.int .i64 0) := keep_fresh (W := wr.drew) b1 1 (v := .int .i64 0) rfl
                  have q0 : w1.frozen? ⟨wr.heap.size, 0, none⟩ = false := fresh_frozen (W := wr.drew) b1 0
                  have q1 : w1.frozen? ⟨wr.heap.size, 1, none⟩ = false := fresh_frozen (W := wr.drew) b1 1
                  have zz : wr.heap.size < w1.heap.size := by have := b1.size; simp at this; omega)))
        all_goals (try clear a0 a1 c0 c1 k0 k1 g0 g1 f0 f1)
        all_goals go_wp2_with fail
        all_goals
          have h2 := hb.trans (B1.mono hb.size)
          go_roundw
          case rel =>
            refine ⟨i + 1, X, by omega, by go_num, HS, HB2, ?_, ?_⟩
            · repeat' (first | (with_reducible exact h2) | (with_reducible refine Below.alloc ?_ ?_ _) | (with_reducible refine Below.setCell ?_ ?_ _))
              all_goals (first | (simp; done) | (simpa using h2.size) | (simpa using hb.size))
            refine ⟨by simp; omega, by simp [go_sem, r0, y0], by simp [go_sem, r1, y0], by simp [go_sem, s0, y0], by simp [go_sem, s1, y0], by simp [go_sem, m0, y1], by simp [go_sem, m1, y1], by simp [go_sem, t0, y1], by simp [go_sem, t1, y1]⟩
          case measure => simp [leftC, intOf]; omega
      · have d1 : (Y != 0) = true := by rw [bne_iff_ne]; exact hq
        have HE := Lib.hid (all_stop HS.out (HF.out hq) hq)
        clear HF hq
        have n4 : wr.heap.size ≠ w.heap.size := by omega
        have n0 : wr.heap.size ≠ w.heap.size + 1 := by omega
        have n1 : wr.heap.size ≠ g := by omega
        go_wp2_with fail
        go_region_held3 (fun w' => w'.cell? ⟨w.heap.size + 1, 0, none⟩ = some (.int .i64 a) ∧ w'.cell? ⟨w.heap.size + 1, 1, none⟩ = some (.int .i64 0) ∧ w'.cell? ⟨g, o + i * 2, none⟩ = some (.int .i64 x) ∧ w'.cell? ⟨g, o + i * 2 + 1, none⟩ = some (.int .i64 y))
          (first | (simp only [World.cell?_drew]; with_reducible exact ⟨c0, c1, a0, a1⟩) | with_reducible exact ⟨m0, m1, m2, m3⟩ | go_keep)
          (first
          | (go_at_call 43; refine (HD.out _).mono ?_; rintro e w1 ⟨rfl, b1⟩
             have B1 : Below wr.heap.size wr w1 := by first | exact below_up (Below.refl _ wr).drew b1 | exact below_alloc (Below.refl _ wr).drew b1
             have m0 := keep_cell B1 c0
             have m1 := keep_cell B1 c1
             have m2 := keep_cell B1 a0
             have m3 := keep_cell B1 a1
             have r0 := keep_cell B1 k0
             have r1 := keep_cell B1 k1
             have s0 := keep_frozen B1 z0 g0
             have s1 := keep_frozen B1 z0 g1
             have t0 := keep_frozen B1 z1 f0
             have t1 := keep_frozen B1 z1 f1
             have y0 : w.heap.size < w1.heap.size := Lib.lt_of_cell r0
             have y1 : w.heap.size + 1 < w1.heap.size := Lib.lt_of_cell m0
             have n5 : w1.heap.size ≠ w.heap.size := by omega
             have n2 : w1.heap.size ≠ w.heap.size + 1 := by have := B1.size; omega
             have n3 : w1.heap.size ≠ g := by have := B1.size; omega
             try (have p0 : w1.cell? ⟨wr.heap.size, 0, none⟩ = some (.int .i64 0) := keep_fresh (W := wr.drew) b1 0 (v := .int .i64 0) rfl
                  have p1 : w1.cell? ⟨wr.heap.size, 1, none⟩ = some (.int .i64 0) := keep_fresh (W := wr.drew) b1 1 (v := .int .i64 0) rfl
                  have q0 : w1.frozen? ⟨wr.heap.size, 0, none⟩ = false := fresh_frozen (W := wr.drew) b1 0
                  have q1 : w1.frozen? ⟨wr.heap.size, 1, none⟩ = false := fresh_frozen (W := wr.drew) b1 1
                  have zz : wr.heap.size < w1.heap.size := by have := b1.size; simp at this; omega)))
        all_goals (try clear a0 a1 c0 c1 k0 k1 g0 g1 f0 f1)
        all_goals go_wp2_with fail
        all_goals
          have h2 := hb.trans (B1.mono hb.size)
          exact bodyPost_ret (v := .agg #[.int .i64 X, .int .i64 Y]) (by simp [results, Tryd.results66, go_sem, r0, r1, y0]) rfl
            ⟨by rw [HE.out], by
              repeat' (first | (with_reducible exact h2) | (with_reducible refine Below.alloc ?_ ?_ _) | (with_reducible refine Below.setCell ?_ ?_ _))
              all_goals (first | (simp; done) | (simpa using h2.size) | (simpa using hb.size))⟩
    · have hE := HP.out
      rw [List.take_of_length_le (by omega)] at hE
      have HE := Lib.hid hE
      clear hE
      go_wp2_with fail
      exact bodyPost_ret (v := .agg #[.int .i64 a, .int .i64 0]) (by simp [results, Tryd.results66, go_sem, k0, k1]) rfl
        ⟨by rw [HE.out], (hb.setCell (by simp) _).setCell (by simp) _⟩

set_option maxHeartbeats 400000 in
theorem vsum_nil (A : Option Addr) (cap : Nat) (w : World) :
    Calls Tryd.prog 66 #[.slice A 0 cap] w fun e w' => e = .returned (.agg #[.int .i64 0, .int .i64 0]) ∧ Below w.heap.size w w' := by
  go_enter Tryd.func66, Tryd.ntmps66
  go_wp2_with fail
  go_loopw [4] (fun v wr => v = .int .i64 0 ∧ wr = (w.alloc (.cells #[.int .i64 0, .int .i64 0] 53)).alloc (.cells #[.int .i64 0, .int .i64 0] 53)) (fun _ _ => 0)
  case atStart => exact ⟨rfl, rfl⟩
  case round =>
    obtain ⟨rfl, rfl⟩ := hrel
    go_wp2_with fail
    exact bodyPost_ret (v := .agg #[.int .i64 0, .int .i64 0]) (by simp [results, Tryd.results66, go_sem]) rfl
      ⟨rfl, ((Below.refl _ _).alloc (Nat.le_refl _) _).alloc (by simp) _⟩
theorem vsum_any (l : List (Int × Int)) (hl : l.length ≤ maxLen) (hlb : ∀ q ∈ l, B64 q.1) (A : Option Addr) (cap : Nat) (w : World) (hc : ListV w A l) :
    Calls Tryd.prog 66 #[.slice A l.length cap] w fun e w' =>
      e = .returned (.agg #[.int .i64 (allV gAdd (0, 0) l).1, .int .i64 (allV gAdd (0, 0) l).2]) ∧ Below w.heap.size w w' := by
  by_cases h : l = []
  · subst h
    exact vsum_nil A cap w
  · obtain ⟨g, o, rfl, ha⟩ := hc h
    exact vsum_some l hl hlb g o cap w ha
end Go.Proofs.YthaoalmhhgllmaaDoor
namespace Go.Proofs.YthaoalmhhgllmaaDoor
open Go.RowKit
theorem most_first {G : Int → Int → Int × Int} {l : List (Int × Int)} {x y : Int} (h : l[0]? = some (x, y)) : allV G (l.headD (0, 0)) (l.take (0 + 1)) = stepV G (x, y) (x, y) := by
  cases l with
  | nil => simp at h
  | cons q r => simp at h; subst h; rfl
theorem step_fault {G : Int → Int → Int × Int} {p : Int × Int} {x y : Int} (hp : p.2 = 0 ∨ p.2 = y) (h : y ≠ 0) : stepV G p (x, y) = (0, y) := by
  unfold stepV bothN bothF
  rcases hp with hp | hp <;> simp [hp, h]
theorem step_fine {G : Int → Int → Int × Int} {p : Int × Int} {x : Int} (hp : p.2 = 0) : stepV G p (x, 0) = G p.1 x := by
  unfold stepV bothN bothF
  simp [hp]

set_option maxHeartbeats 2000000 in
theorem vlow_some (l : List (Int × Int)) (hl : l.length ≤ maxLen) (g o cap : Nat) (w : World) (hc : AtV w g o l) :
    Calls Tryd.prog 67 #[.slice (some ⟨g, o, none⟩) l.length cap, .bool false] w fun e w' =>
      e = .returned (.agg #[.int .i64 (mostV gLow l).1, .int .i64 (mostV gLow l).2]) ∧ Below w.heap.size w w' := by
  have HC := Lib.hid hc
  unfold maxLen at hl
  clear hc
  go_enter Tryd.func67, Tryd.ntmps67
  go_wp2_with fail
  go_loopw [6] (fun v wr => ∃ i : Nat, ∃ a : Int, i ≤ l.length ∧ v = .int .i64 i ∧ Hid ((i = 0 → a = 0) ∧ (i ≠ 0 → allV gLow (l.headD (0, 0)) (l.take i) = (a, 0))) ∧ Below w.heap.size w wr ∧ w.heap.size + 1 < wr.heap.size ∧
      wr.cell? ⟨w.heap.size, 0, none⟩ = some (.int .i64 0) ∧ wr.cell? ⟨w.heap.size, 1, none⟩ = some (.int .i64 0) ∧ wr.frozen? ⟨w.heap.size, 0, none⟩ = false ∧ wr.frozen? ⟨w.heap.size, 1, none⟩ = false ∧
      wr.cell? ⟨w.heap.size + 1, 0, none⟩ = some (.int .i64 a) ∧ wr.cell? ⟨w.heap.size + 1, 1, none⟩ = some (.int .i64 0) ∧ wr.frozen? ⟨w.heap.size + 1, 0, none⟩ = false ∧ wr.frozen? ⟨w.heap.size + 1, 1, none⟩ = false) (fun v _ => leftC l.length v)
  case atStart =>
    exact ⟨0, 0, Nat.zero_le _, rfl, Lib.hid ⟨fun _ => rfl, fun h => absurd rfl h⟩, ((Below.refl _ _).alloc (Nat.le_refl _) _).alloc (by simp) _, by simp, by simp [go_sem], by simp [go_sem], by simp [go_sem], by simp [go_sem], by simp [go_sem], by simp [go_sem], by simp [go_sem], by simp [go_sem]⟩
  case round =>
    obtain ⟨i, a, hi, rfl, HP, hb, z1, k0, k1, g0, g1, c0, c1, f0, f1⟩ := hrel
    have z0 : w.heap.size < wr.heap.size := by omega
    by_cases hlt : i < l.length
    · obtain ⟨x, y, hxy⟩ : ∃ x y, l[i]? = some (x, y) := ⟨_, _, List.getElem?_eq_getElem hlt⟩
      obtain ⟨a0, a1⟩ := (HC.out.below hb) i x y hxy
      have zg : g < wr.heap.size := Lib.lt_of_cell a0
      have hS : allV gLow (l.headD (0, 0)) (l.take (i + 1)) = if i = 0 then stepV gLow (x, y) (x, y) else stepV gLow (a, 0) (x, y) := by
        by_cases h0 : i = 0
        · subst h0; rw [if_pos rfl]; exact most_first hxy
        · rw [if_neg h0, vall_snoc hxy, HP.out.2 h0]
      by_cases hy : y = 0
      · subst hy
        by_cases h0 : i = 0
        · subst h0
          rw [if_pos rfl, step_fine rfl] at hS
          have HS := Lib.hid (show allV gLow (l.headD (0, 0)) (l.take (0 + 1)) = (x, 0) from hS.trans (by unfold gLow; simp))
          clear hS hxy HP
          have e0 : o + 0 * 2 = o := by omega
          rw [e0] at a0 a1
          clear e0
          go_wp2_with fail
          go_quiet (fail)
          go_wp2_with fail
          go_roundw
          case rel => exact ⟨0 + 1, x, by omega, by go_num, Lib.hid ⟨fun h => by omega, fun _ => HS.out⟩, ((below_drewN hb _).setCell (by simp) _).setCell (by simp) _, by simpa using z1, by simp [go_sem, k0], by simp [go_sem, k1], by simp [go_sem, g0], by simp [go_sem, g1], by simp [go_sem, c0], by simp [go_sem, c1], by simp [go_sem, f0], by simp [go_sem, f1]⟩
          case measure => simp [leftC, intOf]; omega
        · rw [if_neg h0, step_fine rfl] at hS
          have hi0 : ((i : Int) == 0) = false := by rw [beq_eq_false_iff_ne]; omega
          cases hc : decide (x < a) with
          | true =>
            have HS := Lib.hid (show allV gLow (l.headD (0, 0)) (l.take (i + 1)) = (x, 0) from hS.trans (by unfold gLow; rw [if_pos (of_decide_eq_true hc)]))
            clear hS hxy HP h0
            go_wp2_with fail
            go_quiet (fail)
            go_wp2_with fail
            go_roundw
            case rel => exact ⟨i + 1, x, by omega, by go_num, Lib.hid ⟨fun h => by omega, fun _ => HS.out⟩, ((below_drewN hb _).setCell (by simp) _).setCell (by simp) _, by simpa using z1, by simp [go_sem, k0], by simp [go_sem, k1], by simp [go_sem, g0], by simp [go_sem, g1], by simp [go_sem, c0], by simp [go_sem, c1], by simp [go_sem, f0], by simp [go_sem, f1]⟩
            case measure => simp [leftC, intOf]; omega
          | false =>
            have HS := Lib.hid (show allV gLow (l.headD (0, 0)) (l.take (i + 1)) = (a, 0) from hS.trans (by unfold gLow; rw [if_neg (of_decide_eq_false hc)]))
            clear hS hxy HP h0
            go_wp2_with fail
            go_quiet (fail)
            go_wp2_with fail
            go_roundw
            case rel => exact ⟨i + 1, a, by omega, by go_num, Lib.hid ⟨fun h => by omega, fun _ => HS.out⟩, below_drewN hb _, by simpa using z1, by simp [go_sem, k0], by simp [go_sem, k1], by simp [go_sem, g0], by simp [go_sem, g1], by simp [go_sem, c0], by simp [go_sem, c1], by simp [go_sem, f0], by simp [go_sem, f1]⟩
            case measure => simp [leftC, intOf]; omega
      · have d1 : (y != 0) = true := by rw [bne_iff_ne]; exact hy
        have hT : allV gLow (l.headD (0, 0)) (l.take (i + 1)) = (0, y) := by
          rw [hS]
          split
          · exact step_fault (.inr rfl) hy
          · exact step_fault (.inl rfl) hy
        have HE := Lib.hid (show mostV gLow l = (0, y) from all_stop hT rfl hy)
        clear hS hT hxy hy HP
        go_wp2_with fail
        exact bodyPost_ret (v := .agg #[.int .i64 0, .int .i64 y]) (by simp [results, Tryd.results67, go_sem, k0, k1]) rfl
          ⟨by rw [HE.out], (hb.setCell (by simp) _).setCell (by simp) _⟩
    · have HE : Hid (mostV gLow l = (a, 0)) := Lib.hid (by
        by_cases h0 : l = []
        · subst h0
          have hi0 : i = 0 := by simpa using hi
          rw [HP.out.1 hi0]
          rfl
        · have hlp : 0 < l.length := List.length_pos_iff.2 h0
          have := HP.out.2 (by omega)
          rw [List.take_of_length_le (by omega)] at this
          exact this)
      clear HP
      go_wp2_with fail
      exact bodyPost_ret (v := .agg #[.int .i64 a, .int .i64 0]) (by simp [results, Tryd.results67, go_sem, k0, k1]) rfl
        ⟨by rw [HE.out], (hb.setCell (by simp) _).setCell (by simp) _⟩

set_option maxHeartbeats 2000000 in
theorem vtop_some (l : List (Int × Int)) (hl : l.length ≤ maxLen) (g o cap : Nat) (w : World) (hc : AtV w g o l) :
    Calls Tryd.prog 67 #[.slice (some ⟨g, o, none⟩) l.length cap, .bool true] w fun e w' =>
      e = .returned (.agg #[.int .i64 (mostV gTop l).1, .int .i64 (mostV gTop l).2]) ∧ Below w.heap.size w w' := by
  have HC := Lib.hid hc
  unfold maxLen at hl
  clear hc
  go_enter Tryd.func67, Tryd.ntmps67
  go_wp2_with fail
  go_loopw [6] (fun v wr => ∃ i : Nat, ∃ a : Int, i ≤ l.length ∧ v = .int .i64 i ∧ Hid ((i = 0 → a = 0) ∧ (i ≠ 0 → allV gTop (l.headD (0, 0)) (l.take i) = (a, 0))) ∧ Below w.heap.size w wr ∧ w.heap.size + 1 < wr.heap.size ∧
      wr.cell? ⟨w.heap.size, 0, none⟩ = some (.int .i64 0) ∧ wr.cell? ⟨w.heap.size, 1, none⟩ = some (.int .i64 0) ∧ wr.frozen? ⟨w.heap.size, 0, none⟩ = false ∧ wr.frozen? ⟨w.heap.size, 1, none⟩ = false ∧
      wr.cell? ⟨w.heap.size + 1, 0, none⟩ = some (.int .i64 a) ∧ wr.cell? ⟨w.heap.size + 1, 1, none⟩ = some (.int .i64 0) ∧ wr.frozen? ⟨w.heap.size + 1, 0, none⟩ = false ∧ wr.frozen? ⟨w.heap.size + 1, 1, none⟩ = false) (fun v _ => leftC l.length v)
  case atStart =>
    exact ⟨0, 0, Nat.zero_le _, rfl, Lib.hid ⟨fun _ => rfl, fun h => absurd rfl h⟩, ((Below.refl _ _).alloc (Nat.le_refl _) _).alloc (by simp) _, by simp, by simp [go_sem], by simp [go_sem], by simp [go_sem], by simp [go_sem], by simp [go_sem], by simp [go_sem], by simp [go_sem], by simp [go_sem]⟩
  case round =>
    obtain ⟨i, a, hi, rfl, HP, hb, z1, k0, k1, g0, g1, c0, c1, f0, f1⟩ := hrel
    have z0 : w.heap.size < wr.heap.size := by omega
    by_cases hlt : i < l.length
    · obtain ⟨x, y, hxy⟩ : ∃ x y, l[i]? = some (x, y) := ⟨_, _, List.getElem?_eq_getElem hlt⟩
      obtain ⟨a0, a1⟩ := (HC.out.below hb) i x y hxy
      have zg : g < wr.heap.size := Lib.lt_of_cell a0
      have hS : allV gTop (l.headD (0, 0)) (l.take (i + 1)) = if i = 0 then stepV gTop (x, y) (x, y) else stepV gTop (a, 0) (x, y) := by
        by_cases h0 : i = 0
        · subst h0; rw [if_pos rfl]; exact most_first hxy
        · rw [if_neg h0, vall_snoc hxy, HP.out.2 h0]
      by_cases hy : y = 0
      · subst hy
        by_cases h0 : i = 0
        · subst h0
          rw [if_pos rfl, step_fine rfl] at hS
          have HS := Lib.hid (show allV gTop (l.headD (0, 0)) (l.take (0 + 1)) = (x, 0) from hS.trans (by unfold gTop; simp))
          clear hS hxy HP
          have e0 : o + 0 * 2 = o := by omega
          rw [e0] at a0 a1
          clear e0
          go_wp2_with fail
          go_quiet (fail)
          go_wp2_with fail
          go_roundw
          case rel => exact ⟨0 + 1, x, by omega, by go_num, Lib.hid ⟨fun h => by omega, fun _ => HS.out⟩, ((below_drewN hb _).setCell (by simp) _).setCell (by simp) _, by simpa using z1, by simp [go_sem, k0], by simp [go_sem, k1], by simp [go_sem, g0], by simp [go_sem, g1], by simp [go_sem, c0], by simp [go_sem, c1], by simp [go_sem, f0], by simp [go_sem, f1]⟩
          case measure => simp [leftC, intOf]; omega
        · rw [if_neg h0, step_fine rfl] at hS
          have hi0 : ((i : Int) == 0) = false := by rw [beq_eq_false_iff_ne]; omega
          cases hc : decide (a < x) with
          | true =>
            have HS := Lib.hid (show allV gTop (l.headD (0, 0)) (l.take (i + 1)) = (x, 0) from hS.trans (by unfold gTop; rw [if_pos (of_decide_eq_true hc)]))
            clear hS hxy HP h0
            go_wp2_with fail
            go_quiet (fail)
            go_wp2_with fail
            go_roundw
            case rel => exact ⟨i + 1, x, by omega, by go_num, Lib.hid ⟨fun h => by omega, fun _ => HS.out⟩, ((below_drewN hb _).setCell (by simp) _).setCell (by simp) _, by simpa using z1, by simp [go_sem, k0], by simp [go_sem, k1], by simp [go_sem, g0], by simp [go_sem, g1], by simp [go_sem, c0], by simp [go_sem, c1], by simp [go_sem, f0], by simp [go_sem, f1]⟩
            case measure => simp [leftC, intOf]; omega
          | false =>
            have HS := Lib.hid (show allV gTop (l.headD (0, 0)) (l.take (i + 1)) = (a, 0) from hS.trans (by unfold gTop; rw [if_neg (of_decide_eq_false hc)]))
            clear hS hxy HP h0
            go_wp2_with fail
            go_quiet (fail)
            go_wp2_with fail
            go_roundw
            case rel => exact ⟨i + 1, a, by omega, by go_num, Lib.hid ⟨fun h => by omega, fun _ => HS.out⟩, below_drewN hb _, by simpa using z1, by simp [go_sem, k0], by simp [go_sem, k1], by simp [go_sem, g0], by simp [go_sem, g1], by simp [go_sem, c0], by simp [go_sem, c1], by simp [go_sem, f0], by simp [go_sem, f1]⟩
            case measure => simp [leftC, intOf]; omega
      · have d1 : (y != 0) = true := by rw [bne_iff_ne]; exact hy
        have hT : allV gTop (l.headD (0, 0)) (l.take (i + 1)) = (0, y) := by
          rw [hS]
          split
          · exact step_fault (.inr rfl) hy
          · exact step_fault (.inl rfl) hy
        have HE := Lib.hid (show mostV gTop l = (0, y) from all_stop hT rfl hy)
        clear hS hT hxy hy HP
        go_wp2_with fail
        exact bodyPost_ret (v := .agg #[.int .i64 0, .int .i64 y]) (by simp [results, Tryd.results67, go_sem, k0, k1]) rfl
          ⟨by rw [HE.out], (hb.setCell (by simp) _).setCell (by simp) _⟩
    · have HE : Hid (mostV gTop l = (a, 0)) := Lib.hid (by
        by_cases h0 : l = []
        · subst h0
          have hi0 : i = 0 := by simpa using hi
          rw [HP.out.1 hi0]
          rfl
        · have hlp : 0 < l.length := List.length_pos_iff.2 h0
          have := HP.out.2 (by omega)
          rw [List.take_of_length_le (by omega)] at this
          exact this)
      clear HP
      go_wp2_with fail
      exact bodyPost_ret (v := .agg #[.int .i64 a, .int .i64 0]) (by simp [results, Tryd.results67, go_sem, k0, k1]) rfl
        ⟨by rw [HE.out], (hb.setCell (by simp) _).setCell (by simp) _⟩

set_option maxHeartbeats 400000 in
theorem vbest_nil (t : Bool) (A : Option Addr) (cap : Nat) (w : World) :
    Calls Tryd.prog 67 #[.slice A 0 cap, .bool t] w fun e w' => e = .returned (.agg #[.int .i64 0, .int .i64 0]) ∧ Below w.heap.size w w' := by
  go_enter Tryd.func67, Tryd.ntmps67
  go_wp2_with fail
  go_loopw [6] (fun v wr => v = .int .i64 0 ∧ wr = (w.alloc (.cells #[.int .i64 0, .int .i64 0] 53)).alloc (.cells #[.int .i64 0, .int .i64 0] 53)) (fun _ _ => 0)
  case atStart => exact ⟨rfl, rfl⟩
  case round =>
    obtain ⟨rfl, rfl⟩ := hrel
    go_wp2_with fail
    exact bodyPost_ret (v := .agg #[.int .i64 0, .int .i64 0]) (by simp [results, Tryd.results67, go_sem]) rfl
      ⟨rfl, ((Below.refl _ _).alloc (Nat.le_refl _) _).alloc (by simp) _⟩

theorem vlow_any (l : List (Int × Int)) (hl : l.length ≤ maxLen) (A : Option Addr) (cap : Nat) (w : World) (hc : ListV w A l) :
    Calls Tryd.prog 67 #[.slice A l.length cap, .bool false] w fun e w' =>
      e = .returned (.agg #[.int .i64 (mostV gLow l).1, .int .i64 (mostV gLow l).2]) ∧ Below w.heap.size w w' := by
  by_cases h : l = []
  · subst h
    exact vbest_nil false A cap w
  · obtain ⟨g, o, rfl, ha⟩ := hc h
    exact vlow_some l hl g o cap w ha

theorem vtop_any (l : List (Int × Int)) (hl : l.length ≤ maxLen) (A : Option Addr) (cap : Nat) (w : World) (hc : ListV w A l) :
    Calls Tryd.prog 67 #[.slice A l.length cap, .bool true] w fun e w' =>
      e = .returned (.agg #[.int .i64 (mostV gTop l).1, .int .i64 (mostV gTop l).2]) ∧ Below w.heap.size w w' := by
  by_cases h : l = []
  · subst h
    exact vbest_nil true A cap w
  · obtain ⟨g, o, rfl, ha⟩ := hc h
    exact vtop_some l hl g o cap w ha
end Go.Proofs.YthaoalmhhgllmaaDoor
namespace Go.Proofs.YthaoalmhhgllmaaDoor
open Go.RowKit
theorem b_zero : B64 0 := by unfold B64; omega
theorem b_tru (b : Bool) : B64 (tru b) := by unfold tru B64; split <;> omega
theorem b_op (w : List UInt8) (a b : Int) : B64 (oNum (vOp w a b)) := by
  unfold vOp
  repeat' split
  all_goals first | exact told_b64 _ | exact b_tru _ | exact b_zero
theorem b_do (w : List UInt8) (n f m g : Int) : B64 (doNum w n f m g) := by
  unfold doNum
  split
  · exact b_op _ _ _
  · exact b_zero
theorem b_at {x y : Int} : ∀ {l : List Cel} {v : Int × Int}, (∀ q ∈ l, B64 q.n) → cAt x y l = some v → B64 v.1
  | [], v, _, h => by cases h
  | q :: l, v, hc, h => by
    rw [cAt] at h
    by_cases hp : q.c = x ∧ q.r = y
    · rw [if_pos hp] at h
      cases h
      unfold aloneV
      split
      · exact hc q (List.mem_cons_self ..)
      · exact b_zero
    · rw [if_neg hp] at h; exact b_at (fun p hp => hc p (List.mem_cons_of_mem _ hp)) h
theorem b_val {x y : Int} {l : List Cel} (hc : ∀ q ∈ l, B64 q.n) : B64 (cVal x y l).1 := by
  unfold cVal
  cases h : cAt x y l with
  | none => exact b_zero
  | some v => exact b_at hc h
theorem b_get {l : List (Int × Int)} (h : ∀ q ∈ l, B64 q.1) (i : Nat) : B64 (l.getD i (0, 0)).1 := by
  rw [List.getD_eq_getElem?_getD]
  cases hi : l[i]? with
  | none => exact b_zero
  | some v => exact h v (List.mem_of_getElem? hi)
theorem b_most {G : Int → Int → Int × Int} (hG : StaysV G) {l : List (Int × Int)} (h : ∀ q ∈ l, B64 q.1) : B64 (mostV G l).1 := by
  unfold mostV
  refine all_b64 hG l _ ?_ h
  cases l with
  | nil => exact b_zero
  | cons a b => exact h a (List.mem_cons_self ..)
theorem b_in {l : List Cel} (hc : ∀ q ∈ l, B64 q.n) {a b c d : Int} : ∀ q ∈ cIn l a b c d, B64 q.1 := fun q hq => by
  unfold cIn at hq
  obtain ⟨p, _, hp⟩ := List.mem_filterMap.1 hq
  exact b_at hc hp
theorem b_num {n c r d s : Int} {w : List UInt8} {ks : List Tr} (hm : mayB (.mk 0 n c r d s w ks) = true) (hf : n ≤ 9223372036854775807) : B64 n := by
  rw [mayB, if_pos rfl] at hm
  have := (Bool.and_eq_true _ _ ▸ hm).2
  have h0 : 0 ≤ n := of_decide_eq_true this
  unfold B64; omega
theorem cnt_pos : ∀ t : Tr, 1 ≤ cntT t
  | .mk _ _ _ _ _ _ _ ks => by rw [cntT]; omega
theorem cnt_len : ∀ ks : List Tr, ks.length ≤ cntL ks
  | [] => Nat.zero_le _
  | t :: ts => by have h1 := cnt_pos t; have h2 := cnt_len ts; rw [cntL, List.length_cons]; omega
mutual
theorem b_cm {l : List Cel} (hc : ∀ q ∈ l, B64 q.n) : ∀ t : Tr, mayB t = true → Fit t → cntT t ≤ 1000000 → B64 (cmT l t).1
  | .mk k n c r d s w ks, hm, .mk hn hf, hw0 => by
    have hw : cntL ks ≤ 1000000 := by rw [cntT] at hw0; omega
    have hl := cnt_len ks
    have hk : ∀ u ∈ ks, mayB u = true := may_kids hm
    have h1 := b_cmL hc ks hk hf hw
    have h2 := b_itL hc ks hk hf hw
    have h3 := itL_le l ks
    rw [cmT]
    repeat' split
    all_goals first
      | (rename_i e; subst e; exact b_num hm hn)
      | exact b_zero
      | exact b_val hc
      | exact b_do _ _ _ _ _
      | exact b_get h1 _
      | exact all_b64 gAdd_stays _ _ b_zero h2
      | exact b_most gLow_stays h2
      | exact b_most gTop_stays h2
      | (unfold B64; show _ ≤ ((itL l ks).length : Int) ∧ ((itL l ks).length : Int) ≤ _; omega)
theorem b_cmL {l : List Cel} (hc : ∀ q ∈ l, B64 q.n) : ∀ ks : List Tr, (∀ u ∈ ks, mayB u = true) → (∀ u ∈ ks, Fit u) → cntL ks ≤ 1000000 → ∀ q ∈ cmL l ks, B64 q.1
  | [], _, _, _, q, h => by rw [cmL] at h; cases h
  | t :: ts, hm, hf, hw, q, h => by
    rw [cmL] at h
    rcases List.mem_cons.1 h with rfl | h
    · exact b_cm hc t (hm t (List.mem_cons_self ..)) (hf t (List.mem_cons_self ..)) (by rw [cntL] at hw; omega)
    · exact b_cmL hc ts (fun u hu => hm u (List.mem_cons_of_mem _ hu)) (fun u hu => hf u (List.mem_cons_of_mem _ hu)) (by rw [cntL] at hw; omega) q h
theorem b_itL {l : List Cel} (hc : ∀ q ∈ l, B64 q.n) : ∀ ks : List Tr, (∀ u ∈ ks, mayB u = true) → (∀ u ∈ ks, Fit u) → cntL ks ≤ 1000000 → ∀ q ∈ itL l ks, B64 q.1
  | [], _, _, _, q, h => by rw [itL] at h; cases h
  | t :: ts, hm, hf, hw, q, h => by
    rw [itL] at h
    rcases List.mem_append.1 h with h | h
    · split at h
      · exact b_in hc q h
      · rw [List.mem_singleton.1 h]; exact b_cm hc t (hm t (List.mem_cons_self ..)) (hf t (List.mem_cons_self ..)) (by rw [cntL] at hw; omega)
    · exact b_itL hc ts (fun u hu => hm u (List.mem_cons_of_mem _ hu)) (fun u hu => hf u (List.mem_cons_of_mem _ hu)) (by rw [cntL] at hw; omega) q h
end
end Go.Proofs.YthaoalmhhgllmaaDoor
namespace Go.Proofs.YthaoalmhhgllmaaDoor
open Go.RowKit
theorem par8 {w w1 : World} {v0 v1 v2 v3 v4 v5 v6 v7 : Value} (hb : Below (w.heap.size + 1 + 1) ((w.alloc (.cells #[v0, v1, v2, v3, v4, v5, v6, v7] 29)).alloc (.cells #[.int .i64 0, .int .i64 0] 53)) w1) :
    (w1.cell? ⟨w.heap.size, 0, none⟩ = some v0 ∧ w1.cell? ⟨w.heap.size, 1, none⟩ = some v1 ∧ w1.cell? ⟨w.heap.size, 2, none⟩ = some v2 ∧ w1.cell? ⟨w.heap.size, 3, none⟩ = some v3 ∧ w1.cell? ⟨w.heap.size, 4, none⟩ = some v4 ∧ w1.cell? ⟨w.heap.size, 5, none⟩ = some v5 ∧ w1.cell? ⟨w.heap.size, 6, none⟩ = some v6 ∧ w1.cell? ⟨w.heap.size, 7, none⟩ = some v7) ∧
    (w1.cell? ⟨w.heap.size + 1, 0, none⟩ = some (.int .i64 0) ∧ w1.cell? ⟨w.heap.size + 1, 1, none⟩ = some (.int .i64 0) ∧ w1.frozen? ⟨w.heap.size + 1, 0, none⟩ = false ∧ w1.frozen? ⟨w.heap.size + 1, 1, none⟩ = false) ∧ w.heap.size < w1.heap.size ∧ w.heap.size + 1 < w1.heap.size ∧ Below w.heap.size w w1 := by
  have hs := hb.size
  simp at hs
  have c : ∀ (i : Nat) (v : Value), ((w.alloc (.cells #[v0, v1, v2, v3, v4, v5, v6, v7] 29)).alloc (.cells #[.int .i64 0, .int .i64 0] 53)).cell? ⟨w.heap.size, i, none⟩ = some v → w1.cell? ⟨w.heap.size, i, none⟩ = some v := fun i v h => by rw [hb.cell (by simp; omega)]; exact h
  refine ⟨⟨c _ _ ?_, c _ _ ?_, c _ _ ?_, c _ _ ?_, c _ _ ?_, c _ _ ?_, c _ _ ?_, c _ _ ?_⟩, ⟨?_, ?_, ?_, ?_⟩, by omega, by omega, (((Below.refl _ _).alloc (Nat.le_refl _) _).alloc (by simp) _).trans (hb.mono (by omega))⟩
  all_goals first | (simp [go_sem]; done) | (rw [hb.cell (by simp)]; simp [go_sem]; done) | (rw [hb.frozen (by simp)]; simp [go_sem])
structure GE (t : Tr) : Prop where
  may : mayB t = true
  fit : Fit t
  cnt : cntT t ≤ 1000000
theorem GE.kid {t u : Tr} (h : GE t) (hu : u ∈ t.kids) : GE u := by
  obtain ⟨k, n, c, r, d, s, w, ks⟩ := t
  have hc := h.cnt
  rw [cntT] at hc
  refine ⟨may_kids h.may u hu, by have hf := h.fit; cases hf with | mk _ hf => exact hf u hu, ?_⟩
  have : ∀ ks : List Tr, u ∈ ks → cntT u ≤ cntL ks := by
    intro ks
    induction ks with
    | nil => intro h; cases h
    | cons a b ih =>
      intro h
      rw [cntL]
      rcases List.mem_cons.1 h with rfl | h
      · omega
      · have := ih h; omega
  have := this ks hu
  omega
theorem GE.len {t : Tr} (h : GE t) : t.kids.length ≤ 1000000 := by
  obtain ⟨k, n, c, r, d, s, w, ks⟩ := t
  have hc := h.cnt
  rw [cntT] at hc
  have := cnt_len ks
  show ks.length ≤ _
  omega
theorem GE.b64 {t : Tr} (h : GE t) {l : List Cel} (hc : ∀ q ∈ l, B64 q.n) : B64 (cmT l t).1 := b_cm hc t h.may h.fit h.cnt
theorem GE.itB {t : Tr} (h : GE t) {l : List Cel} (hc : ∀ q ∈ l, B64 q.n) : ∀ q ∈ itL l t.kids, B64 q.1 := by
  obtain ⟨k, n, c, r, d, s, w, ks⟩ := t
  have hcn := h.cnt
  rw [cntT] at hcn
  have hf := h.fit
  cases hf with
  | mk _ hf => exact b_itL hc ks (may_kids h.may) hf (show cntL ks ≤ 1000000 by omega)
theorem GE.itLen {t : Tr} (h : GE t) (l : List Cel) : (itL l t.kids).length ≤ maxLen := by
  have h1 := itL_le l t.kids
  have h2 := h.len
  unfold maxLen; omega
def CallCm (l : List Cel) (t : Tr) : Prop := ∀ (w : World) (P : Nat → Prop) (A : Option Addr) (cap : Nat) (LA : Option Addr) (lc : Nat), KV w P t A → ListC w LA l →
  Calls Tryd.prog 44 #[.agg #[.int .i64 t.kind, .int .i64 t.num, .int .i64 t.c1, .int .i64 t.r1, .int .i64 t.c2, .int .i64 t.r2, .string ⟨t.word.toArray⟩, .slice A t.kids.length cap], .slice LA l.length lc] w fun e w' => e = .returned (.agg #[.int .i64 (cmT l t).1, .int .i64 (cmT l t).2]) ∧ Below w.heap.size w w'

set_option maxHeartbeats 4000000 in
set_option maxRecDepth 10000 in
theorem call_ifF {l : List Cel} (hl : l.length ≤ maxLen) (t a b c : Tr) (hlen : t.kids.length ≤ 1000000) (h5 : t.kind = 5) (hwd : t.word = [73, 70]) (h0 : t.kids[0]? = some a) (h1 : t.kids[1]? = some b) (h2 : t.kids[2]? = some c) (ih : ∀ u ∈ t.kids, ComeC l u) (hf : (cmT l a).2 ≠ 0) : CallCm l t := by
  intro w P A cap LA lc hk hc
  have HE : Hid (cmT l t = cmT l a) := Lib.hid (by rw [cm_if h5 hwd h0 h1 h2]; exact if_pos hf)
  have xIF : (t.word == [73, 70]) = true := by rw [hwd]; rfl
  obtain ⟨g, o, rfl⟩ := hk.addr h0
  have HA := Lib.hid (ih a (List.mem_of_getElem? h0))
  have HR := Lib.hid (ih a (List.mem_of_getElem? h0))
  have HK := Lib.hid hk
  have HC := Lib.hid hc
  have HLL := Lib.hid hl
  have Ha := Lib.hid h0
  have Hz := Lib.hid h0
  have l2 : 2 < t.kids.length := (List.getElem?_eq_some_iff.1 h2).1
  have df : ((cmT l a).2 != 0) = true := by simpa using hf
  have hb0 : Below (w.heap.size + 1 + 1) ((w.alloc (.cells #[.int .i64 t.kind, .int .i64 t.num, .int .i64 t.c1, .int .i64 t.r1, .int .i64 t.c2, .int .i64 t.r2, .string ⟨t.word.toArray⟩, .slice (some ⟨g, o, none⟩) t.kids.length cap] 29)).alloc (.cells #[.int .i64 0, .int .i64 0] 53)) ((w.alloc (.cells #[.int .i64 t.kind, .int .i64 t.num, .int .i64 t.c1, .int .i64 t.r1, .int .i64 t.c2, .int .i64 t.r2, .string ⟨t.word.toArray⟩, .slice (some ⟨g, o, none⟩) t.kids.length cap] 29)).alloc (.cells #[.int .i64 0, .int .i64 0] 53)) := Below.refl _ _
  obtain ⟨⟨k0, k1, k2, k3, k4, k5, k6, k7⟩, ⟨kr0, kr1, kf0, kf1⟩, kz0, kz1, kb⟩ := par8 hb0
  obtain ⟨hg, A0, c0, ⟨q0, q1, q2, q3, q4, q5, q6, q7⟩, hk0⟩ := HK.out.kidAt kb Ha.out
  simp only [Nat.zero_mul, Nat.add_zero] at q0 q1 q2 q3 q4 q5 q6 q7
  have HC0 := Lib.hid (HA.out _ _ A0 c0 LA lc hk0 (HC.out.below kb))
  clear hk hc hl h0 h1 h2 ih h5 hwd hf hk0 hg HA
  clear k0 k1 k2 k3 k4 k5 k6 k7 kr0 kr1 kf0 kf1
  go_enter Tryd.func44, Tryd.ntmps44
  go_wp2_with fail
  refine Calls.mono HC0.out ?_; rintro e w1 ⟨rfl, b1⟩
  have hb1 := hb0.trans (b1.mono (by simp))
  obtain ⟨⟨m0, m1, m2, m3, m4, m5, m6, m7⟩, ⟨mr0, mr1, mf0, mf1⟩, mz0, mz1, mb⟩ := par8 hb1
  clear b1 hb1 q0 q1 q2 q3 q4 q5 q6 q7 kb kz0 kz1
  go_wp2_with fail
  exact bodyPost_ret (v := .agg #[.int .i64 (cmT l a).1, .int .i64 (cmT l a).2]) (by simp [results, Tryd.results44, go_sem, mr0, mr1, mz1, mf0, mf1]) rfl
    ⟨by rw [HE.out], (by repeat' (first | with_reducible assumption | exact Nat.le_succ _ | with_reducible exact Nat.le_refl _ | with_reducible refine Below.setCell ?_ ?_ _ | with_reducible refine Below.alloc ?_ ?_ _ | (simp; omega)))⟩
set_option maxHeartbeats 4000000 in
set_option maxRecDepth 10000 in
theorem call_ifY {l : List Cel} (hl : l.length ≤ maxLen) (t a b c : Tr) (hlen : t.kids.length ≤ 1000000) (h5 : t.kind = 5) (hwd : t.word = [73, 70]) (h0 : t.kids[0]? = some a) (h1 : t.kids[1]? = some b) (h2 : t.kids[2]? = some c) (ih : ∀ u ∈ t.kids, ComeC l u) (hf : (cmT l a).2 = 0) (hn : (cmT l a).1 ≠ 0) : CallCm l t := by
  intro w P A cap LA lc hk hc
  have HE : Hid (cmT l t = cmT l b) := Lib.hid (by rw [cm_if h5 hwd h0 h1 h2]; rw [if_neg (fun h => h hf)]; exact if_pos hn)
  have xIF : (t.word == [73, 70]) = true := by rw [hwd]; rfl
  obtain ⟨g, o, rfl⟩ := hk.addr h0
  have HA := Lib.hid (ih a (List.mem_of_getElem? h0))
  have HR := Lib.hid (ih b (List.mem_of_getElem? h1))
  have HK := Lib.hid hk
  have HC := Lib.hid hc
  have HLL := Lib.hid hl
  have Ha := Lib.hid h0
  have Hb := Lib.hid h1
  have l2 : 2 < t.kids.length := (List.getElem?_eq_some_iff.1 h2).1
  have df : ((cmT l a).2 != 0) = false := by simpa using hf
  have dn : ((cmT l a).1 != 0) = true := by simpa using hn
  have hb0 : Below (w.heap.size + 1 + 1) ((w.alloc (.cells #[.int .i64 t.kind, .int .i64 t.num, .int .i64 t.c1, .int .i64 t.r1, .int .i64 t.c2, .int .i64 t.r2, .string ⟨t.word.toArray⟩, .slice (some ⟨g, o, none⟩) t.kids.length cap] 29)).alloc (.cells #[.int .i64 0, .int .i64 0] 53)) ((w.alloc (.cells #[.int .i64 t.kind, .int .i64 t.num, .int .i64 t.c1, .int .i64 t.r1, .int .i64 t.c2, .int .i64 t.r2, .string ⟨t.word.toArray⟩, .slice (some ⟨g, o, none⟩) t.kids.length cap] 29)).alloc (.cells #[.int .i64 0, .int .i64 0] 53)) := Below.refl _ _
  obtain ⟨⟨k0, k1, k2, k3, k4, k5, k6, k7⟩, ⟨kr0, kr1, kf0, kf1⟩, kz0, kz1, kb⟩ := par8 hb0
  obtain ⟨hg, A0, c0, ⟨q0, q1, q2, q3, q4, q5, q6, q7⟩, hk0⟩ := HK.out.kidAt kb Ha.out
  simp only [Nat.zero_mul, Nat.add_zero] at q0 q1 q2 q3 q4 q5 q6 q7
  have HC0 := Lib.hid (HA.out _ _ A0 c0 LA lc hk0 (HC.out.below kb))
  clear hk hc hl h0 h1 h2 ih h5 hwd hf hn hk0 hg HA
  clear k0 k1 k2 k3 k4 k5 k6 k7 kr0 kr1 kf0 kf1
  go_enter Tryd.func44, Tryd.ntmps44
  go_wp2_with fail
  refine Calls.mono HC0.out ?_; rintro e w1 ⟨rfl, b1⟩
  have hb1 := hb0.trans (b1.mono (by simp))
  obtain ⟨⟨m0, m1, m2, m3, m4, m5, m6, m7⟩, ⟨mr0, mr1, mf0, mf1⟩, mz0, mz1, mb⟩ := par8 hb1
  obtain ⟨hg2, A1, c1, ⟨p0, p1, p2, p3, p4, p5, p6, p7⟩, hk1⟩ := HK.out.kidAt mb Hb.out
  simp only [Nat.one_mul, Nat.reduceMul, Nat.add_assoc, Nat.reduceAdd] at p0 p1 p2 p3 p4 p5 p6 p7
  have HC1 := Lib.hid fun ob => HR.out (w1.alloc ob) _ A1 c1 LA lc (hk1.kept (Kept.of_below ((Below.refl _ w1).alloc (Nat.le_refl _) ob))) ((HC.out.below mb).below ((Below.refl _ w1).alloc (Nat.le_refl _) ob))
  have zg : g < w1.heap.size := Lib.lt_of_cell p0
  clear b1 q0 q1 q2 q3 q4 q5 q6 q7 kb kz0 kz1 hk1 hg2
  go_wp2_with fail
  refine Calls.mono (HC1.out _) ?_; rintro e w2 ⟨rfl, b2⟩
  have hb2 := (hb1.alloc (by omega) _).trans (b2.mono (by simp; omega))
  obtain ⟨⟨n0, n1, n2, n3, n4, n5, n6, n7⟩, ⟨nr0, nr1, nf0, nf1⟩, nz0, nz1, nb⟩ := par8 hb2
  clear b2 hb1 hb2 m0 m1 m2 m3 m4 m5 m6 m7 mr0 mr1 mf0 mf1 mz0 mz1 mb p0 p1 p2 p3 p4 p5 p6 p7
  go_wp2_with fail
  exact bodyPost_ret (v := .agg #[.int .i64 (cmT l b).1, .int .i64 (cmT l b).2]) (by simp [results, Tryd.results44, go_sem, nr0, nr1, nz1, nf0, nf1]) rfl
    ⟨by rw [HE.out], (by repeat' (first | with_reducible assumption | exact Nat.le_succ _ | with_reducible exact Nat.le_refl _ | with_reducible refine Below.setCell ?_ ?_ _ | with_reducible refine Below.alloc ?_ ?_ _ | (simp; omega)))⟩
set_option maxHeartbeats 4000000 in
set_option maxRecDepth 10000 in
theorem call_ifN {l : List Cel} (hl : l.length ≤ maxLen) (t a b c : Tr) (hlen : t.kids.length ≤ 1000000) (h5 : t.kind = 5) (hwd : t.word = [73, 70]) (h0 : t.kids[0]? = some a) (h1 : t.kids[1]? = some b) (h2 : t.kids[2]? = some c) (ih : ∀ u ∈ t.kids, ComeC l u) (hf : (cmT l a).2 = 0) (hn : (cmT l a).1 = 0) : CallCm l t := by
  intro w P A cap LA lc hk hc
  have HE : Hid (cmT l t = cmT l c) := Lib.hid (by rw [cm_if h5 hwd h0 h1 h2]; rw [if_neg (fun h => h hf)]; exact if_neg (fun h => h hn))
  have xIF : (t.word == [73, 70]) = true := by rw [hwd]; rfl
  obtain ⟨g, o, rfl⟩ := hk.addr h0
  have HA := Lib.hid (ih a (List.mem_of_getElem? h0))
  have HR := Lib.hid (ih c (List.mem_of_getElem? h2))
  have HK := Lib.hid hk
  have HC := Lib.hid hc
  have HLL := Lib.hid hl
  have Ha := Lib.hid h0
  have Hc := Lib.hid h2
  have l2 : 2 < t.kids.length := (List.getElem?_eq_some_iff.1 h2).1
  have df : ((cmT l a).2 != 0) = false := by simpa using hf
  have dn : ((cmT l a).1 != 0) = false := by simpa using hn
  have hb0 : Below (w.heap.size + 1 + 1) ((w.alloc (.cells #[.int .i64 t.kind, .int .i64 t.num, .int .i64 t.c1, .int .i64 t.r1, .int .i64 t.c2, .int .i64 t.r2, .string ⟨t.word.toArray⟩, .slice (some ⟨g, o, none⟩) t.kids.length cap] 29)).alloc (.cells #[.int .i64 0, .int .i64 0] 53)) ((w.alloc (.cells #[.int .i64 t.kind, .int .i64 t.num, .int .i64 t.c1, .int .i64 t.r1, .int .i64 t.c2, .int .i64 t.r2, .string ⟨t.word.toArray⟩, .slice (some ⟨g, o, none⟩) t.kids.length cap] 29)).alloc (.cells #[.int .i64 0, .int .i64 0] 53)) := Below.refl _ _
  obtain ⟨⟨k0, k1, k2, k3, k4, k5, k6, k7⟩, ⟨kr0, kr1, kf0, kf1⟩, kz0, kz1, kb⟩ := par8 hb0
  obtain ⟨hg, A0, c0, ⟨q0, q1, q2, q3, q4, q5, q6, q7⟩, hk0⟩ := HK.out.kidAt kb Ha.out
  simp only [Nat.zero_mul, Nat.add_zero] at q0 q1 q2 q3 q4 q5 q6 q7
  have HC0 := Lib.hid (HA.out _ _ A0 c0 LA lc hk0 (HC.out.below kb))
  clear hk hc hl h0 h1 h2 ih h5 hwd hf hn hk0 hg HA
  clear k0 k1 k2 k3 k4 k5 k6 k7 kr0 kr1 kf0 kf1
  go_enter Tryd.func44, Tryd.ntmps44
  go_wp2_with fail
  refine Calls.mono HC0.out ?_; rintro e w1 ⟨rfl, b1⟩
  have hb1 := hb0.trans (b1.mono (by simp))
  obtain ⟨⟨m0, m1, m2, m3, m4, m5, m6, m7⟩, ⟨mr0, mr1, mf0, mf1⟩, mz0, mz1, mb⟩ := par8 hb1
  obtain ⟨hg2, A1, c1, ⟨p0, p1, p2, p3, p4, p5, p6, p7⟩, hk1⟩ := HK.out.kidAt mb Hc.out
  simp only [Nat.one_mul, Nat.reduceMul, Nat.add_assoc, Nat.reduceAdd] at p0 p1 p2 p3 p4 p5 p6 p7
  have HC1 := Lib.hid fun ob => HR.out (w1.alloc ob) _ A1 c1 LA lc (hk1.kept (Kept.of_below ((Below.refl _ w1).alloc (Nat.le_refl _) ob))) ((HC.out.below mb).below ((Below.refl _ w1).alloc (Nat.le_refl _) ob))
  have zg : g < w1.heap.size := Lib.lt_of_cell p0
  clear b1 q0 q1 q2 q3 q4 q5 q6 q7 kb kz0 kz1 hk1 hg2
  go_wp2_with fail
  refine Calls.mono (HC1.out _) ?_; rintro e w2 ⟨rfl, b2⟩
  have hb2 := (hb1.alloc (by omega) _).trans (b2.mono (by simp; omega))
  obtain ⟨⟨n0, n1, n2, n3, n4, n5, n6, n7⟩, ⟨nr0, nr1, nf0, nf1⟩, nz0, nz1, nb⟩ := par8 hb2
  clear b2 hb1 hb2 m0 m1 m2 m3 m4 m5 m6 m7 mr0 mr1 mf0 mf1 mz0 mz1 mb p0 p1 p2 p3 p4 p5 p6 p7
  go_wp2_with fail
  exact bodyPost_ret (v := .agg #[.int .i64 (cmT l c).1, .int .i64 (cmT l c).2]) (by simp [results, Tryd.results44, go_sem, nr0, nr1, nz1, nf0, nf1]) rfl
    ⟨by rw [HE.out], (by repeat' (first | with_reducible assumption | exact Nat.le_succ _ | with_reducible exact Nat.le_refl _ | with_reducible refine Below.setCell ?_ ?_ _ | with_reducible refine Below.alloc ?_ ?_ _ | (simp; omega)))⟩
set_option maxHeartbeats 4000000 in
set_option maxRecDepth 10000 in
theorem call_SUM {l : List Cel} (hl : l.length ≤ maxLen) (t : Tr) (ge : GE t) (hcb : ∀ q ∈ l, B64 q.n) (h5 : t.kind = 5) (hwd : t.word = [83, 85, 77]) (hi : ItemsC l t) : CallCm l t := by
  intro w P A cap LA lc hk hc
  have HE : Hid (cmT l t = allV gAdd (0, 0) (itL l t.kids)) := Lib.hid (cm_sum h5 hwd)
  have xIF : (t.word == [73, 70]) = false := by rw [hwd]; rfl
  have xSUM : (t.word == [83, 85, 77]) = true := by rw [hwd]; rfl
  have xMIN : (t.word == [77, 73, 78]) = false := by rw [hwd]; rfl
  have xMAX : (t.word == [77, 65, 88]) = false := by rw [hwd]; rfl
  have xCOUNT : (t.word == [67, 79, 85, 78, 84]) = false := by rw [hwd]; rfl
  have hb0 : Below (w.heap.size + 1 + 1) ((w.alloc (.cells #[.int .i64 t.kind, .int .i64 t.num, .int .i64 t.c1, .int .i64 t.r1, .int .i64 t.c2, .int .i64 t.r2, .string ⟨t.word.toArray⟩, .slice A t.kids.length cap] 29)).alloc (.cells #[.int .i64 0, .int .i64 0] 53)) ((w.alloc (.cells #[.int .i64 t.kind, .int .i64 t.num, .int .i64 t.c1, .int .i64 t.r1, .int .i64 t.c2, .int .i64 t.r2, .string ⟨t.word.toArray⟩, .slice A t.kids.length cap] 29)).alloc (.cells #[.int .i64 0, .int .i64 0] 53)) := Below.refl _ _
  obtain ⟨⟨k0, k1, k2, k3, k4, k5, k6, k7⟩, ⟨kr0, kr1, kf0, kf1⟩, kz0, kz1, kb⟩ := par8 hb0
  have HI := Lib.hid (hi _ P A cap LA lc (hk.kept (Kept.of_below kb)) (hc.below kb))
  have hlt := ge.len
  have HLL := Lib.hid hl
  clear hk hc hl h5 hwd hi
  clear k0 k1 k2 k3 k4 k5 k6 k7 kr0 kr1 kf0 kf1
  go_enter Tryd.func44, Tryd.ntmps44
  go_wp2_with fail
  refine Calls.mono HI.out ?_; rintro e w1 ⟨v, rfl, hown, b1⟩
  obtain ⟨A2, cap2, rfl, hL⟩ := hown.shape
  have hb1 := hb0.trans (b1.mono (by simp))
  obtain ⟨⟨m0, m1, m2, m3, m4, m5, m6, m7⟩, ⟨mr0, mr1, mf0, mf1⟩, mz0, mz1, mb⟩ := par8 hb1
  have HS := Lib.hid (vsum_any (itL l t.kids) (ge.itLen l) (ge.itB hcb) A2 cap2 w1 hL)
  have hLl := ge.itLen l
  unfold maxLen at hLl
  clear hown hL b1 kb kz0 kz1 HI ge hcb mr0 mr1 mf0 mf1
  generalize itL l t.kids = L at *
  go_wp2_with fail
  refine Calls.mono HS.out ?_; rintro e w2 ⟨rfl, b2⟩
  have hb2 := hb1.trans (b2.mono (by have := hb1.size; simpa using this))
  obtain ⟨⟨n0, n1, n2, n3, n4, n5, n6, n7⟩, ⟨nr0, nr1, nf0, nf1⟩, nz0, nz1, nb⟩ := par8 hb2
  clear b2 hb1 hb2 m0 m1 m2 m3 m4 m5 m6 m7 mz0 mz1 mb n0 n1 n2 n3 n4 n5 n6 n7
  go_wp2_with fail
  exact bodyPost_ret (v := .agg #[.int .i64 (allV gAdd (0, 0) L).1, .int .i64 (allV gAdd (0, 0) L).2]) (by simp [results, Tryd.results44, go_sem, nr0, nr1, nz1, nf0, nf1]) rfl
    ⟨by rw [HE.out], (by repeat' (first | with_reducible assumption | exact Nat.le_succ _ | with_reducible exact Nat.le_refl _ | with_reducible refine Below.setCell ?_ ?_ _ | with_reducible refine Below.alloc ?_ ?_ _ | (simp; omega)))⟩
set_option maxHeartbeats 4000000 in
set_option maxRecDepth 10000 in
theorem call_MIN {l : List Cel} (hl : l.length ≤ maxLen) (t : Tr) (ge : GE t) (hcb : ∀ q ∈ l, B64 q.n) (h5 : t.kind = 5) (hwd : t.word = [77, 73, 78]) (hi : ItemsC l t) : CallCm l t := by
  intro w P A cap LA lc hk hc
  have HE : Hid (cmT l t = mostV gLow (itL l t.kids)) := Lib.hid (cm_min h5 hwd)
  have xIF : (t.word == [73, 70]) = false := by rw [hwd]; rfl
  have xSUM : (t.word == [83, 85, 77]) = false := by rw [hwd]; rfl
  have xMIN : (t.word == [77, 73, 78]) = true := by rw [hwd]; rfl
  have xMAX : (t.word == [77, 65, 88]) = false := by rw [hwd]; rfl
  have xCOUNT : (t.word == [67, 79, 85, 78, 84]) = false := by rw [hwd]; rfl
  have hb0 : Below (w.heap.size + 1 + 1) ((w.alloc (.cells #[.int .i64 t.kind, .int .i64 t.num, .int .i64 t.c1, .int .i64 t.r1, .int .i64 t.c2, .int .i64 t.r2, .string ⟨t.word.toArray⟩, .slice A t.kids.length cap] 29)).alloc (.cells #[.int .i64 0, .int .i64 0] 53)) ((w.alloc (.cells #[.int .i64 t.kind, .int .i64 t.num, .int .i64 t.c1, .int .i64 t.r1, .int .i64 t.c2, .int .i64 t.r2, .string ⟨t.word.toArray⟩, .slice A t.kids.length cap] 29)).alloc (.cells #[.int .i64 0, .int .i64 0] 53)) := Below.refl _ _
  obtain ⟨⟨k0, k1, k2, k3, k4, k5, k6, k7⟩, ⟨kr0, kr1, kf0, kf1⟩, kz0, kz1, kb⟩ := par8 hb0
  have HI := Lib.hid (hi _ P A cap LA lc (hk.kept (Kept.of_below kb)) (hc.below kb))
  have hlt := ge.len
  have HLL := Lib.hid hl
  clear hk hc hl h5 hwd hi
  clear k0 k1 k2 k3 k4 k5 k6 k7 kr0 kr1 kf0 kf1
  go_enter Tryd.func44, Tryd.ntmps44
  go_wp2_with fail
  refine Calls.mono HI.out ?_; rintro e w1 ⟨v, rfl, hown, b1⟩
  obtain ⟨A2, cap2, rfl, hL⟩ := hown.shape
  have hb1 := hb0.trans (b1.mono (by simp))
  obtain ⟨⟨m0, m1, m2, m3, m4, m5, m6, m7⟩, ⟨mr0, mr1, mf0, mf1⟩, mz0, mz1, mb⟩ := par8 hb1
  have HS := Lib.hid (vlow_any (itL l t.kids) (ge.itLen l) A2 cap2 w1 hL)
  have hLl := ge.itLen l
  unfold maxLen at hLl
  clear hown hL b1 kb kz0 kz1 HI ge hcb mr0 mr1 mf0 mf1
  generalize itL l t.kids = L at *
  go_wp2_with fail
  refine Calls.mono HS.out ?_; rintro e w2 ⟨rfl, b2⟩
  have hb2 := hb1.trans (b2.mono (by have := hb1.size; simpa using this))
  obtain ⟨⟨n0, n1, n2, n3, n4, n5, n6, n7⟩, ⟨nr0, nr1, nf0, nf1⟩, nz0, nz1, nb⟩ := par8 hb2
  clear b2 hb1 hb2 m0 m1 m2 m3 m4 m5 m6 m7 mz0 mz1 mb n0 n1 n2 n3 n4 n5 n6 n7
  go_wp2_with fail
  exact bodyPost_ret (v := .agg #[.int .i64 (mostV gLow L).1, .int .i64 (mostV gLow L).2]) (by simp [results, Tryd.results44, go_sem, nr0, nr1, nz1, nf0, nf1]) rfl
    ⟨by rw [HE.out], (by repeat' (first | with_reducible assumption | exact Nat.le_succ _ | with_reducible exact Nat.le_refl _ | with_reducible refine Below.setCell ?_ ?_ _ | with_reducible refine Below.alloc ?_ ?_ _ | (simp; omega)))⟩
set_option maxHeartbeats 4000000 in
set_option maxRecDepth 10000 in
theorem call_MAX {l : List Cel} (hl : l.length ≤ maxLen) (t : Tr) (ge : GE t) (hcb : ∀ q ∈ l, B64 q.n) (h5 : t.kind = 5) (hwd : t.word = [77, 65, 88]) (hi : ItemsC l t) : CallCm l t := by
  intro w P A cap LA lc hk hc
  have HE : Hid (cmT l t = mostV gTop (itL l t.kids)) := Lib.hid (cm_max h5 hwd)
  have xIF : (t.word == [73, 70]) = false := by rw [hwd]; rfl
  have xSUM : (t.word == [83, 85, 77]) = false := by rw [hwd]; rfl
  have xMIN : (t.word == [77, 73, 78]) = false := by rw [hwd]; rfl
  have xMAX : (t.word == [77, 65, 88]) = true := by rw [hwd]; rfl
  have xCOUNT : (t.word == [67, 79, 85, 78, 84]) = false := by rw [hwd]; rfl
  have hb0 : Below (w.heap.size + 1 + 1) ((w.alloc (.cells #[.int .i64 t.kind, .int .i64 t.num, .int .i64 t.c1, .int .i64 t.r1, .int .i64 t.c2, .int .i64 t.r2, .string ⟨t.word.toArray⟩, .slice A t.kids.length cap] 29)).alloc (.cells #[.int .i64 0, .int .i64 0] 53)) ((w.alloc (.cells #[.int .i64 t.kind, .int .i64 t.num, .int .i64 t.c1, .int .i64 t.r1, .int .i64 t.c2, .int .i64 t.r2, .string ⟨t.word.toArray⟩, .slice A t.kids.length cap] 29)).alloc (.cells #[.int .i64 0, .int .i64 0] 53)) := Below.refl _ _
  obtain ⟨⟨k0, k1, k2, k3, k4, k5, k6, k7⟩, ⟨kr0, kr1, kf0, kf1⟩, kz0, kz1, kb⟩ := par8 hb0
  have HI := Lib.hid (hi _ P A cap LA lc (hk.kept (Kept.of_below kb)) (hc.below kb))
  have hlt := ge.len
  have HLL := Lib.hid hl
  clear hk hc hl h5 hwd hi
  clear k0 k1 k2 k3 k4 k5 k6 k7 kr0 kr1 kf0 kf1
  go_enter Tryd.func44, Tryd.ntmps44
  go_wp2_with fail
  refine Calls.mono HI.out ?_; rintro e w1 ⟨v, rfl, hown, b1⟩
  obtain ⟨A2, cap2, rfl, hL⟩ := hown.shape
  have hb1 := hb0.trans (b1.mono (by simp))
  obtain ⟨⟨m0, m1, m2, m3, m4, m5, m6, m7⟩, ⟨mr0, mr1, mf0, mf1⟩, mz0, mz1, mb⟩ := par8 hb1
  have HS := Lib.hid (vtop_any (itL l t.kids) (ge.itLen l) A2 cap2 w1 hL)
  have hLl := ge.itLen l
  unfold maxLen at hLl
  clear hown hL b1 kb kz0 kz1 HI ge hcb mr0 mr1 mf0 mf1
  generalize itL l t.kids = L at *
  go_wp2_with fail
  refine Calls.mono HS.out ?_; rintro e w2 ⟨rfl, b2⟩
  have hb2 := hb1.trans (b2.mono (by have := hb1.size; simpa using this))
  obtain ⟨⟨n0, n1, n2, n3, n4, n5, n6, n7⟩, ⟨nr0, nr1, nf0, nf1⟩, nz0, nz1, nb⟩ := par8 hb2
  clear b2 hb1 hb2 m0 m1 m2 m3 m4 m5 m6 m7 mz0 mz1 mb n0 n1 n2 n3 n4 n5 n6 n7
  go_wp2_with fail
  exact bodyPost_ret (v := .agg #[.int .i64 (mostV gTop L).1, .int .i64 (mostV gTop L).2]) (by simp [results, Tryd.results44, go_sem, nr0, nr1, nz1, nf0, nf1]) rfl
    ⟨by rw [HE.out], (by repeat' (first | with_reducible assumption | exact Nat.le_succ _ | with_reducible exact Nat.le_refl _ | with_reducible refine Below.setCell ?_ ?_ _ | with_reducible refine Below.alloc ?_ ?_ _ | (simp; omega)))⟩
theorem any_yes {ks : List Tr} {i : Nat} {u : Tr} (h : ks[i]? = some u) (hk : (u.kind == 2) = true) : (ks.any fun u => u.kind == 2) = true := List.any_eq_true.2 ⟨u, List.mem_of_getElem? h, hk⟩
theorem any_no {ks : List Tr} {i : Nat} {u : Tr} (h : ks[i]? = some u) (hp : ((ks.take i).any fun u => u.kind == 2) = false) (hk : (u.kind == 2) = false) : ((ks.take (i + 1)).any fun u => u.kind == 2) = false := by
  rw [List.take_add_one, h, List.any_append, hp]
  show (false || ([u].any fun u => u.kind == 2)) = false
  rw [List.any_cons, hk]; rfl
set_option maxHeartbeats 4000000 in
set_option maxRecDepth 10000 in
theorem call_COUNT {l : List Cel} (hl : l.length ≤ maxLen) (t : Tr) (ge : GE t) (h5 : t.kind = 5) (hwd : t.word = [67, 79, 85, 78, 84]) (hi : ItemsC l t) : CallCm l t := by
  intro w P A cap LA lc hk hc
  have HE1 : Hid ((t.kids.any fun u => u.kind == 2) = true → cmT l t = (0, 3)) := Lib.hid fun h => by rw [cm_count h5 hwd, if_pos h]
  have HE2 : Hid ((t.kids.any fun u => u.kind == 2) = false → cmT l t = (((itL l t.kids).length : Int), 0)) := Lib.hid fun h => by rw [cm_count h5 hwd, if_neg (by rw [h]; decide)]
  have xIF : (t.word == [73, 70]) = false := by rw [hwd]; rfl
  have xSUM : (t.word == [83, 85, 77]) = false := by rw [hwd]; rfl
  have xMIN : (t.word == [77, 73, 78]) = false := by rw [hwd]; rfl
  have xMAX : (t.word == [77, 65, 88]) = false := by rw [hwd]; rfl
  have xCOUNT : (t.word == [67, 79, 85, 78, 84]) = true := by rw [hwd]; rfl
  have hb0 : Below (w.heap.size + 1 + 1) ((w.alloc (.cells #[.int .i64 t.kind, .int .i64 t.num, .int .i64 t.c1, .int .i64 t.r1, .int .i64 t.c2, .int .i64 t.r2, .string ⟨t.word.toArray⟩, .slice A t.kids.length cap] 29)).alloc (.cells #[.int .i64 0, .int .i64 0] 53)) ((w.alloc (.cells #[.int .i64 t.kind, .int .i64 t.num, .int .i64 t.c1, .int .i64 t.r1, .int .i64 t.c2, .int .i64 t.r2, .string ⟨t.word.toArray⟩, .slice A t.kids.length cap] 29)).alloc (.cells #[.int .i64 0, .int .i64 0] 53)) := Below.refl _ _
  obtain ⟨⟨k0, k1, k2, k3, k4, k5, k6, k7⟩, ⟨kr0, kr1, kf0, kf1⟩, kz0, kz1, kb⟩ := par8 hb0
  have HI := Lib.hid (hi _ P A cap LA lc (hk.kept (Kept.of_below kb)) (hc.below kb))
  have hlt := ge.len
  have HK := Lib.hid hk
  clear hk hc hl h5 hwd hi
  clear k0 k1 k2 k3 k4 k5 k6 k7 kr0 kr1 kf0 kf1
  go_enter Tryd.func44, Tryd.ntmps44
  go_wp2_with fail
  refine Calls.mono HI.out ?_; rintro e w1 ⟨v, rfl, hown, b1⟩
  obtain ⟨A2, cap2, rfl, hL⟩ := hown.shape
  have hb1 := hb0.trans (b1.mono (by simp))
  obtain ⟨⟨m0, m1, m2, m3, m4, m5, m6, m7⟩, ⟨mr0, mr1, mf0, mf1⟩, mz0, mz1, mb⟩ := par8 hb1
  have hLl := ge.itLen l
  unfold maxLen at hLl
  clear hown hL b1 kb kz0 kz1 HI ge
  generalize itL l t.kids = L at *
  go_wp2_with fail
  go_loopw [7] (fun vi wr => ∃ i : Nat, i ≤ t.kids.length ∧ vi = .int .i64 (i : Int) ∧ Hid (((t.kids.take i).any fun u => u.kind == 2) = false) ∧ wr = w1) (fun vi _ => t.kids.length - (intOf vi).toNat)
  case atStart => exact ⟨0, Nat.zero_le _, rfl, Lib.hid (by rw [List.take_zero]; rfl), rfl⟩
  case round =>
    obtain ⟨i, hi, rfl, HT, rfl⟩ := hrel
    by_cases hlt2 : i < t.kids.length
    · have hu : t.kids[i]? = some (t.kids[i]'hlt2) := List.getElem?_eq_getElem hlt2
      obtain ⟨g, o, rfl⟩ := HK.out.addr hu
      obtain ⟨hg, A', cap', ⟨q0, q1, q2, q3, q4, q5, q6, q7⟩, hkv⟩ := HK.out.kidAt mb hu
      have HY := Lib.hid (any_yes hu)
      have HN := Lib.hid (any_no hu HT.out)
      generalize t.kids[i]'hlt2 = u at *
      clear hkv hu q1 q2 q3 q4 q5 q6 q7
      generalize u.kind = uk at *
      cases hk2 : (uk == 2) with
      | true =>
        have HE := Lib.hid (HE1.out (HY.out hk2))
        clear HY HN HE1 HE2
        go_wp2_with fail
        exact bodyPost_ret (v := .agg #[.int .i64 0, .int .i64 3]) (by simp [results, Tryd.results44, go_sem, mr0, mr1, mz1, mf0, mf1]) rfl
          ⟨by rw [HE.out], (by repeat' (first | with_reducible assumption | exact Nat.le_succ _ | with_reducible exact Nat.le_refl _ | with_reducible refine Below.setCell ?_ ?_ _ | with_reducible refine Below.alloc ?_ ?_ _ | (simp; omega)))⟩
      | false =>
        have HT2 := Lib.hid (HN.out hk2)
        clear HY HN
        go_wp2_with fail
        go_roundw
        case rel => exact ⟨i + 1, by omega, by go_num, HT2, trivial⟩
        case measure => simp [intOf]; omega
    · have hii : i = t.kids.length := by omega
      subst hii
      have hz := HT.out
      rw [List.take_length] at hz
      have HE := Lib.hid (HE2.out hz)
      clear hz HE1 HE2
      go_wp2_with fail
      exact bodyPost_ret (v := .agg #[.int .i64 L.length, .int .i64 0]) (by simp [results, Tryd.results44, go_sem, mr0, mr1, mz1, mf0, mf1]) rfl
        ⟨by rw [HE.out], (by repeat' (first | with_reducible assumption | exact Nat.le_succ _ | with_reducible exact Nat.le_refl _ | with_reducible refine Below.setCell ?_ ?_ _ | with_reducible refine Below.alloc ?_ ?_ _ | (simp; omega)))⟩
end Go.Proofs.YthaoalmhhgllmaaDoor
