/- The document's own Sum of values. -/
import Derived.Test.YtpnmefkbfonhpaaDoorVaC
import Derived.Test.YtpnmefkbfonhpaaDoorUaD
import Derived.Test.YtpnmefkbfonhpaaDoorUaF
import Derived.Deep.RegionHeld3
namespace Go.Proofs.YtpnmefkbfonhpaaDoor
open Go.RowKit

theorem all_faulty {G : Int → Int → Int × Int} {p : Int × Int} (h1 : p.1 = 0) (h2 : p.2 ≠ 0) : ∀ l, allV G p l = p
  | [] => rfl
  | q :: r => by
    have e : stepV G p q = p := by
      obtain ⟨a, b⟩ := p
      simp only at h1 h2
      subst h1
      unfold stepV bothN bothF
      simp [h2]
    show allV G (stepV G p q) r = p
    rw [e]
    exact all_faulty h1 h2 r
theorem all_stop {G : Int → Int → Int × Int} {p q : Int × Int} {l : List (Int × Int)} {i : Nat} (h : allV G p (l.take i) = q) (h1 : q.1 = 0) (h2 : q.2 ≠ 0) : allV G p l = q := by
  have e : allV G p l = allV G (allV G p (l.take i)) (l.drop i) := by
    unfold allV
    rw [← List.foldl_append, List.take_append_drop]
  rw [e, h]
  exact all_faulty h1 h2 _
theorem told_faulty {n : Int} (h : (vTold n).2 ≠ 0) : (vTold n).1 = 0 := by
  unfold vTold tNum tFault at *
  simp only at *
  split at h
  · exact absurd rfl h
  · rename_i hn; rw [if_neg hn]
theorem both_faulty {p : Int × Int} (hp : p.2 ≠ 0 → p.1 = 0) {f g : Int} (h : bothF p f g ≠ 0) : bothN p f g = 0 := by
  unfold bothF at h
  unfold bothN
  split
  · rename_i hh
    rw [if_pos hh.1, if_pos hh.2] at h
    exact hp h
  · rfl

set_option maxHeartbeats 2000000 in
theorem vsum_some (l : List (Int × Int)) (hl : l.length ≤ maxLen) (hlb : ∀ q ∈ l, B64 q.1) (g o cap : Nat) (w : World) (hc : AtV w g o l) :
    Calls Tryd.prog 18 #[.slice (some ⟨g, o, none⟩) l.length cap] w fun e w' =>
      e = .returned (.agg #[.int .i64 (allV gAdd (0, 0) l).1, .int .i64 (allV gAdd (0, 0) l).2]) ∧ Below w.heap.size w w' := by
  have HC := Lib.hid hc
  have HL := Lib.hid hlb
  unfold maxLen at hl
  clear hc hlb
  go_enter Tryd.func18, Tryd.ntmps18
  go_wp2_with fail
  go_loopw [4] (fun v wr => ∃ i : Nat, ∃ a : Int, i ≤ l.length ∧ v = .int .i64 i ∧ Hid (allV gAdd (0, 0) (l.take i) = (a, 0)) ∧ Hid (B64 a) ∧ Below w.heap.size w wr ∧ w.heap.size + 1 < wr.heap.size ∧
      wr.cell? ⟨w.heap.size, 0, none⟩ = some (.int .i64 0) ∧ wr.cell? ⟨w.heap.size, 1, none⟩ = some (.int .i64 0) ∧ wr.frozen? ⟨w.heap.size, 0, none⟩ = false ∧ wr.frozen? ⟨w.heap.size, 1, none⟩ = false ∧
      wr.cell? ⟨w.heap.size + 1, 0, none⟩ = some (.int .i64 a) ∧ wr.cell? ⟨w.heap.size + 1, 1, none⟩ = some (.int .i64 0) ∧ wr.frozen? ⟨w.heap.size + 1, 0, none⟩ = false ∧ wr.frozen? ⟨w.heap.size + 1, 1, none⟩ = false) (fun v _ => leftC l.length v)
  case atStart =>
    exact ⟨0, 0, Nat.zero_le _, rfl, Lib.hid (by simp [allV]), Lib.hid (by unfold B64; omega), ((Below.refl _ _).alloc (Nat.le_refl _) _).alloc (by simp) _, by simp, by simp [go_sem], by simp [go_sem], by simp [go_sem], by simp [go_sem], by simp [go_sem], by simp [go_sem], by simp [go_sem], by simp [go_sem]⟩
  case round =>
    obtain ⟨i, a, hi, rfl, HP, HB, hb, z1, k0, k1, g0, g1, c0, c1, f0, f1⟩ := hrel
    have z0 : w.heap.size < wr.heap.size := by omega
    by_cases hlt : i < l.length
    · obtain ⟨x, y, hxy⟩ : ∃ x y, l[i]? = some (x, y) := ⟨_, _, List.getElem?_eq_getElem hlt⟩
      have hx : B64 x := HL.out (x, y) (List.mem_of_getElem? hxy)
      obtain ⟨a0, a1⟩ := (HC.out.below hb) i x y hxy
      have hS := all_snoc (G := gAdd) (p := (0, 0)) hxy
      rw [HP.out] at hS
      have hd := vdo_any ⟨#[43]⟩ a 0 x y HB.out hx
      obtain ⟨e1, e2, e3⟩ := do_num (l := [43]) (n := a) (m := x) (f := 0) (g := y) (p := gAdd a x) rfl
      rw [show (⟨#[43]⟩ : ByteArray).data.toList = [43] from rfl, e1, e2, e3] at hd
      have hB2 : B64 (bothN (gAdd a x) 0 y) := step_b64 gAdd_stays (p := (a, 0)) (q := (x, y)) HB.out hx
      have hF : bothF (gAdd a x) 0 y ≠ 0 → bothN (gAdd a x) 0 y = 0 := both_faulty told_faulty
      have hS2 : allV gAdd (0, 0) (l.take (i + 1)) = (bothN (gAdd a x) 0 y, bothF (gAdd a x) 0 y) := hS
      have zg : g < wr.heap.size := Lib.lt_of_cell a0
      clear hxy hx hS e1 e2 e3
      generalize bothN (gAdd a x) 0 y = X at *
      generalize bothF (gAdd a x) 0 y = Y at *
      have HD := Lib.hid hd
      have HS := Lib.hid hS2
      have HB2 := Lib.hid hB2
      have HF := Lib.hid hF
      clear hd hS2 hB2 hF
      by_cases hq : Y = 0
      · subst hq
        clear HF
        have n4 : wr.heap.size ≠ w.heap.size := by omega
        have n0 : wr.heap.size ≠ w.heap.size + 1 := by omega
        have n1 : wr.heap.size ≠ g := by omega
        go_wp2_with fail
        go_region_held3 (fun w' => w'.cell? ⟨w.heap.size + 1, 0, none⟩ = some (.int .i64 a) ∧ w'.cell? ⟨w.heap.size + 1, 1, none⟩ = some (.int .i64 0) ∧ w'.cell? ⟨g, o + i * 2, none⟩ = some (.int .i64 x) ∧ w'.cell? ⟨g, o + i * 2 + 1, none⟩ = some (.int .i64 y))
          (first | (simp only [World.cell?_drew]; with_reducible exact ⟨c0, c1, a0, a1⟩) | with_reducible exact ⟨m0, m1, m2, m3⟩ | go_keep)
          (first
          | (go_at_call 10; refine (HD.out _).mono ?_; rintro e w1 ⟨rfl, b1⟩
             have B1 : Below wr.heap.size wr w1 := by first | exact below_up (Below.refl _ wr).drew b1 | exact below_alloc (Below.refl _ wr).drew b1
             have m0 := keep_cell B1 c0
             have m1 := keep_cell B1 c1
             have m2 := keep_cell B1 a0
             have m3 := keep_cell B1 a1
             have r0 := keep_cell B1 k0
             have r1 := keep_cell B1 k1
             have s0 := keep_frozen B1 z0 g0
             have s1 := keep_frozen B1 z0 g1
             have t0 := keep_frozen B1 z1 f0
             have t1 := keep_frozen B1 z1 f1
             have y0 : w.heap.size < w1.heap.size := Lib.lt_of_cell r0
             have y1 : w.heap.size + 1 < w1.heap.size := Lib.lt_of_cell m0
             have n5 : w1.heap.size ≠ w.heap.size := by omega
             have n2 : w1.heap.size ≠ w.heap.size + 1 := by have := B1.size; omega
             have n3 : w1.heap.size ≠ g := by have := B1.size; omega
             try (have p0 : w1.cell? ⟨wr.heap.size, 0, none⟩ = some (.int .i64 0) := keep_fresh (W := wr.drew) b1 0 (v := .int .i64 0) rfl
                  have p1 : w1.cell? ⟨wr.heap.size, 1, none⟩ = some (.int .i64 0) := keep_fresh (W := wr.drew) b1 1 (v := .int .i64 0) rfl
                  have q0 : w1.frozen? ⟨wr.heap.size, 0, none⟩ = false := fresh_frozen (W := wr.drew) b1 0
                  have q1 : w1.frozen? ⟨wr.heap.size, 1, none⟩ = false := fresh_frozen (W := wr.drew) b1 1
                  have zz : wr.heap.size < w1.heap.size := by have := b1.size; simp at this; omega)))
        all_goals (try clear a0 a1 c0 c1 k0 k1 g0 g1 f0 f1)
        all_goals go_wp2_with fail
        all_goals
          have h2 := hb.trans (B1.mono hb.size)
          go_roundw
          case rel =>
            refine ⟨i + 1, X, by omega, by go_num, HS, HB2, ?_, ?_⟩
            · repeat' (first | (with_reducible exact h2) | (with_reducible refine Below.alloc ?_ ?_ _) | (with_reducible refine Below.setCell ?_ ?_ _))
              all_goals (first | (simp; done) | (simpa using h2.size) | (simpa using hb.size))
            refine ⟨by simp; omega, by simp [go_sem, r0, y0], by simp [go_sem, r1, y0], by simp [go_sem, s0, y0], by simp [go_sem, s1, y0], by simp [go_sem, m0, y1], by simp [go_sem, m1, y1], by simp [go_sem, t0, y1], by simp [go_sem, t1, y1]⟩
          case measure => simp [leftC, intOf]; omega
      · have d1 : (Y != 0) = true := by rw [bne_iff_ne]; exact hq
        have HE := Lib.hid (all_stop HS.out (HF.out hq) hq)
        clear HF hq
        have n4 : wr.heap.size ≠ w.heap.size := by omega
        have n0 : wr.heap.size ≠ w.heap.size + 1 := by omega
        have n1 : wr.heap.size ≠ g := by omega
        go_wp2_with fail
        go_region_held3 (fun w' => w'.cell? ⟨w.heap.size + 1, 0, none⟩ = some (.int .i64 a) ∧ w'.cell? ⟨w.heap.size + 1, 1, none⟩ = some (.int .i64 0) ∧ w'.cell? ⟨g, o + i * 2, none⟩ = some (.int .i64 x) ∧ w'.cell? ⟨g, o + i * 2 + 1, none⟩ = some (.int .i64 y))
          (first | (simp only [World.cell?_drew]; with_reducible exact ⟨c0, c1, a0, a1⟩) | with_reducible exact ⟨m0, m1, m2, m3⟩ | go_keep)
          (first
          | (go_at_call 10; refine (HD.out _).mono ?_; rintro e w1 ⟨rfl, b1⟩
             have B1 : Below wr.heap.size wr w1 := by first | exact below_up (Below.refl _ wr).drew b1 | exact below_alloc (Below.refl _ wr).drew b1
             have m0 := keep_cell B1 c0
             have m1 := keep_cell B1 c1
             have m2 := keep_cell B1 a0
             have m3 := keep_cell B1 a1
             have r0 := keep_cell B1 k0
             have r1 := keep_cell B1 k1
             have s0 := keep_frozen B1 z0 g0
             have s1 := keep_frozen B1 z0 g1
             have t0 := keep_frozen B1 z1 f0
             have t1 := keep_frozen B1 z1 f1
             have y0 : w.heap.size < w1.heap.size := Lib.lt_of_cell r0
             have y1 : w.heap.size + 1 < w1.heap.size := Lib.lt_of_cell m0
             have n5 : w1.heap.size ≠ w.heap.size := by omega
             have n2 : w1.heap.size ≠ w.heap.size + 1 := by have := B1.size; omega
             have n3 : w1.heap.size ≠ g := by have := B1.size; omega
             try (have p0 : w1.cell? ⟨wr.heap.size, 0, none⟩ = some (.int .i64 0) := keep_fresh (W := wr.drew) b1 0 (v := .int .i64 0) rfl
                  have p1 : w1.cell? ⟨wr.heap.size, 1, none⟩ = some (.int .i64 0) := keep_fresh (W := wr.drew) b1 1 (v := .int .i64 0) rfl
                  have q0 : w1.frozen? ⟨wr.heap.size, 0, none⟩ = false := fresh_frozen (W := wr.drew) b1 0
                  have q1 : w1.frozen? ⟨wr.heap.size, 1, none⟩ = false := fresh_frozen (W := wr.drew) b1 1
                  have zz : wr.heap.size < w1.heap.size := by have := b1.size; simp at this; omega)))
        all_goals (try clear a0 a1 c0 c1 k0 k1 g0 g1 f0 f1)
        all_goals go_wp2_with fail
        all_goals
          have h2 := hb.trans (B1.mono hb.size)
          exact bodyPost_ret (v := .agg #[.int .i64 X, .int .i64 Y]) (by simp [results, Tryd.results18, go_sem, r0, r1, y0]) rfl
            ⟨by rw [HE.out], by
              repeat' (first | (with_reducible exact h2) | (with_reducible refine Below.alloc ?_ ?_ _) | (with_reducible refine Below.setCell ?_ ?_ _))
              all_goals (first | (simp; done) | (simpa using h2.size) | (simpa using hb.size))⟩
    · have hE := HP.out
      rw [List.take_of_length_le (by omega)] at hE
      have HE := Lib.hid hE
      clear hE
      go_wp2_with fail
      exact bodyPost_ret (v := .agg #[.int .i64 a, .int .i64 0]) (by simp [results, Tryd.results18, go_sem, k0, k1]) rfl
        ⟨by rw [HE.out], (hb.setCell (by simp) _).setCell (by simp) _⟩

set_option maxHeartbeats 400000 in
theorem vsum_nil (A : Option Addr) (cap : Nat) (w : World) :
    Calls Tryd.prog 18 #[.slice A 0 cap] w fun e w' => e = .returned (.agg #[.int .i64 0, .int .i64 0]) ∧ Below w.heap.size w w' := by
  go_enter Tryd.func18, Tryd.ntmps18
  go_wp2_with fail
  go_loopw [4] (fun v wr => v = .int .i64 0 ∧ wr = (w.alloc (.cells #[.int .i64 0, .int .i64 0] 24)).alloc (.cells #[.int .i64 0, .int .i64 0] 24)) (fun _ _ => 0)
  case atStart => exact ⟨rfl, rfl⟩
  case round =>
    obtain ⟨rfl, rfl⟩ := hrel
    go_wp2_with fail
    exact bodyPost_ret (v := .agg #[.int .i64 0, .int .i64 0]) (by simp [results, Tryd.results18, go_sem]) rfl
      ⟨rfl, ((Below.refl _ _).alloc (Nat.le_refl _) _).alloc (by simp) _⟩
theorem vsum_any (l : List (Int × Int)) (hl : l.length ≤ maxLen) (hlb : ∀ q ∈ l, B64 q.1) (A : Option Addr) (cap : Nat) (w : World) (hc : ListV w A l) :
    Calls Tryd.prog 18 #[.slice A l.length cap] w fun e w' =>
      e = .returned (.agg #[.int .i64 (allV gAdd (0, 0) l).1, .int .i64 (allV gAdd (0, 0) l).2]) ∧ Below w.heap.size w w' := by
  by_cases h : l = []
  · subst h
    exact vsum_nil A cap w
  · obtain ⟨g, o, rfl, ha⟩ := hc h
    exact vsum_some l hl hlb g o cap w ha
end Go.Proofs.YtpnmefkbfonhpaaDoor
