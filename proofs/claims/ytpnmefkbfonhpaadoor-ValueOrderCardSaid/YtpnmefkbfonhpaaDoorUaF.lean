/- Package value's Do and Neg. -/
import Derived.Test.YtpnmefkbfonhpaaDoorUaE
import Derived.Test.YtpnmefkbfonhpaaDoorUaD
import Derived.Test.YtpnmefkbfonhpaaDoorVaC
namespace Go.Proofs.YtpnmefkbfonhpaaDoor
open Go.RowKit

theorem do_num {l : List UInt8} {n f m g : Int} {p : Int × Int} (h : vOp l n m = some p) : doNum l n f m g = bothN p f g ∧ doFault l n f m g = bothF p f g ∧ (vOp l n m).isSome = true := by
  unfold doNum doFault bothN bothF
  rw [h]
  exact ⟨rfl, by simp [oFault], rfl⟩
theorem do_none {l : List UInt8} {n f m g : Int} (h : vOp l n m = none) : doNum l n f m g = 0 ∧ doFault l n f m g = 0 ∧ (vOp l n m).isSome = false := by
  unfold doNum doFault
  rw [h]
  exact ⟨by simp [oNum], rfl, rfl⟩
theorem actReckons (l : List UInt8) (n : Nat) (h : opReckons l = some n) : ∃ G, ActC n G ∧ ∀ a b, vOp l a b = some (G a b) := by
  by_cases h0 : l = [43]
  · subst h0; obtain rfl : 34 = n := Option.some.inj h; exact ⟨_, act_add, fun _ _ => rfl⟩
  by_cases h1 : l = [45]
  · subst h1; obtain rfl : 42 = n := Option.some.inj h; exact ⟨_, act_sub, fun _ _ => rfl⟩
  by_cases h2 : l = [42]
  · subst h2; obtain rfl : 44 = n := Option.some.inj h; exact ⟨_, act_mul, fun _ _ => rfl⟩
  by_cases h3 : l = [47]
  · subst h3; obtain rfl : 46 = n := Option.some.inj h; exact ⟨_, act_div, fun _ _ => rfl⟩
  unfold opReckons at h
  simp only [h0, h1, h2, h3, if_false] at h
  cases h
theorem actCompares (l : List UInt8) (n : Nat) (h : opCompares l = some n) : ∃ G, ActC n G ∧ ∀ a b, vOp l a b = some (G a b) := by
  by_cases h0 : l = [60]
  · subst h0; obtain rfl : 48 = n := Option.some.inj h; exact ⟨_, act_lt, fun _ _ => rfl⟩
  by_cases h1 : l = [60, 61]
  · subst h1; obtain rfl : 50 = n := Option.some.inj h; exact ⟨_, act_le, fun _ _ => rfl⟩
  by_cases h2 : l = [61]
  · subst h2; obtain rfl : 51 = n := Option.some.inj h; exact ⟨_, act_eq, fun _ _ => rfl⟩
  by_cases h3 : l = [60, 62]
  · subst h3; obtain rfl : 52 = n := Option.some.inj h; exact ⟨_, act_ne, fun _ _ => rfl⟩
  by_cases h4 : l = [62, 61]
  · subst h4; obtain rfl : 53 = n := Option.some.inj h; exact ⟨_, act_ge, fun _ _ => rfl⟩
  by_cases h5 : l = [62]
  · subst h5; obtain rfl : 54 = n := Option.some.inj h; exact ⟨_, act_gt, fun _ _ => rfl⟩
  unfold opCompares at h
  simp only [h0, h1, h2, h3, h4, h5, if_false] at h
  cases h
theorem act_none (l : List UInt8) (h : opReckons l = none) (h' : opCompares l = none) (a b : Int) : vOp l a b = none := by
  by_cases h0 : l = [43]
  · subst h0; exact absurd h (by decide)
  by_cases h1 : l = [45]
  · subst h1; exact absurd h (by decide)
  by_cases h2 : l = [42]
  · subst h2; exact absurd h (by decide)
  by_cases h3 : l = [47]
  · subst h3; exact absurd h (by decide)
  by_cases h4 : l = [60]
  · subst h4; exact absurd h' (by decide)
  by_cases h5 : l = [60, 61]
  · subst h5; exact absurd h' (by decide)
  by_cases h6 : l = [61]
  · subst h6; exact absurd h' (by decide)
  by_cases h7 : l = [60, 62]
  · subst h7; exact absurd h' (by decide)
  by_cases h8 : l = [62, 61]
  · subst h8; exact absurd h' (by decide)
  by_cases h9 : l = [62]
  · subst h9; exact absurd h' (by decide)
  unfold vOp
  simp only [h0, h1, h2, h3, h4, h5, h6, h7, h8, h9, if_false]

set_option maxHeartbeats 1000000 in
set_option maxRecDepth 10000 in
theorem udo_any (s : ByteArray) (hs : s.size ≤ maxLen) (n f m g : Int) (hn : B64 n) (hm : B64 m) (w : World) :
    Calls Tryd.prog 9 #[.string s, .agg #[.int .i64 n, .int .i64 f], .agg #[.int .i64 m, .int .i64 g]] w fun e w' =>
      e = .returned (.tuple #[.agg #[.int .i64 (doNum s.data.toList n f m g), .int .i64 (doFault s.data.toList n f m g)], .bool (vOp s.data.toList n m).isSome]) ∧ Below w.heap.size w w' := by
  have H := ureckons_any s hs
  have K := ucompares_any s hs
  unfold fnReckons at H
  unfold fnCompares at K
  cases ho : opReckons s.data.toList with
  | some k =>
    obtain ⟨G, hA, hG⟩ := actReckons _ _ ho
    obtain ⟨e1, e2, e3⟩ := do_num (l := s.data.toList) (f := f) (g := g) (hG n m)
    rw [e1, e2, e3]
    have HB := Lib.hid (uboth_any hA n f m g hn hm)
    rw [ho] at H
    have HH := Lib.hid H
    simp only [Option.isSome_some] at HH
    generalize bothN (G n m) f g = X at *
    generalize bothF (G n m) f g = Y at *
    clear H K ho hA hG e1 e2 e3 hn hm
    go_enter Tryd.func9, Tryd.ntmps9
    go_wp2_with fail
    refine (HH.out _).mono ?_; rintro e w1 ⟨rfl, b1⟩
    have a10 := keep_cell b1 (p := ⟨w.heap.size, 0, none⟩) (v := .int .i64 n) (by simp [go_sem])
    have a11 := keep_cell b1 (p := ⟨w.heap.size, 1, none⟩) (v := .int .i64 f) (by simp [go_sem])
    have c10 := keep_cell b1 (p := ⟨w.heap.size + 1, 0, none⟩) (v := .int .i64 m) (by simp [go_sem])
    have c11 := keep_cell b1 (p := ⟨w.heap.size + 1, 1, none⟩) (v := .int .i64 g) (by simp [go_sem])
    have k10 := keep_cell b1 (p := ⟨w.heap.size + 1 + 1, 0, none⟩) (v := .int .i64 0) (by simp [go_sem])
    have f10 := keep_frozen b1 (p := ⟨w.heap.size + 1 + 1, 0, none⟩) (by simp) (by simp [go_sem])
    have k11 := keep_cell b1 (p := ⟨w.heap.size + 1 + 1, 1, none⟩) (v := .int .i64 0) (by simp [go_sem])
    have f11 := keep_frozen b1 (p := ⟨w.heap.size + 1 + 1, 1, none⟩) (by simp) (by simp [go_sem])
    have h1 : Below w.heap.size w w1 := ((((Below.refl _ _).alloc (Nat.le_refl _) _).alloc (by simp) _).alloc (by simp; omega) _).trans (b1.mono (by simp; omega))
    have z1 : w.heap.size + 1 + 1 < w1.heap.size := Lib.lt_of_cell k10
    clear b1
    have y1 : w.heap.size + 1 < w1.heap.size := by omega
    have x1 : w.heap.size < w1.heap.size := by omega
    go_wp2_with fail
    refine (HB.out _).mono ?_; rintro e w2 ⟨rfl, b2⟩
    have a20 := keep_cell b2 a10
    have a21 := keep_cell b2 a11
    have c20 := keep_cell b2 c10
    have c21 := keep_cell b2 c11
    have k20 := keep_cell b2 k10
    have f20 := keep_frozen b2 z1 f10
    have k21 := keep_cell b2 k11
    have f21 := keep_frozen b2 z1 f11
    have h2 := h1.trans (b2.mono h1.size)
    have z2 : w.heap.size + 1 + 1 < w2.heap.size := Lib.lt_of_cell k20
    clear b2 h1 z1 a10 a11 c10 c11 k10 k11 f10 f11
    have y2 : w.heap.size + 1 < w2.heap.size := by omega
    have x2 : w.heap.size < w2.heap.size := by omega
    go_wp2_with fail
    exact bodyPost_ret (v := .tuple #[.agg #[.int .i64 X, .int .i64 Y], .bool true]) (by simp [results, Tryd.results9, go_sem, k20, k21]) rfl
      ⟨rfl, (h2.setCell (by simp; omega) _).setCell (by simp; omega) _⟩
  | none =>
    rw [ho] at H
    have HH := Lib.hid H
    simp only [Option.isSome_none] at HH
    clear H
    cases hc : opCompares s.data.toList with
    | some k =>
      obtain ⟨G, hA, hG⟩ := actCompares _ _ hc
      obtain ⟨e1, e2, e3⟩ := do_num (l := s.data.toList) (f := f) (g := g) (hG n m)
      rw [e1, e2, e3]
      have HB := Lib.hid (uboth_any hA n f m g hn hm)
      rw [hc] at K
      have HK := Lib.hid K
      simp only [Option.isSome_some] at HK
      generalize bothN (G n m) f g = X at *
      generalize bothF (G n m) f g = Y at *
      clear K ho hc hA hG e1 e2 e3 hn hm
      go_enter Tryd.func9, Tryd.ntmps9
      go_wp2_with fail
      refine (HH.out _).mono ?_; rintro e w1 ⟨rfl, b1⟩
      have a10 := keep_cell b1 (p := ⟨w.heap.size, 0, none⟩) (v := .int .i64 n) (by simp [go_sem])
      have a11 := keep_cell b1 (p := ⟨w.heap.size, 1, none⟩) (v := .int .i64 f) (by simp [go_sem])
      have c10 := keep_cell b1 (p := ⟨w.heap.size + 1, 0, none⟩) (v := .int .i64 m) (by simp [go_sem])
      have c11 := keep_cell b1 (p := ⟨w.heap.size + 1, 1, none⟩) (v := .int .i64 g) (by simp [go_sem])
      have k10 := keep_cell b1 (p := ⟨w.heap.size + 1 + 1, 0, none⟩) (v := .int .i64 0) (by simp [go_sem])
      have f10 := keep_frozen b1 (p := ⟨w.heap.size + 1 + 1, 0, none⟩) (by simp) (by simp [go_sem])
      have k11 := keep_cell b1 (p := ⟨w.heap.size + 1 + 1, 1, none⟩) (v := .int .i64 0) (by simp [go_sem])
      have f11 := keep_frozen b1 (p := ⟨w.heap.size + 1 + 1, 1, none⟩) (by simp) (by simp [go_sem])
      have h1 : Below w.heap.size w w1 := ((((Below.refl _ _).alloc (Nat.le_refl _) _).alloc (by simp) _).alloc (by simp; omega) _).trans (b1.mono (by simp; omega))
      have z1 : w.heap.size + 1 + 1 < w1.heap.size := Lib.lt_of_cell k10
      clear b1
      have y1 : w.heap.size + 1 < w1.heap.size := by omega
      have x1 : w.heap.size < w1.heap.size := by omega
      go_wp2_with fail
      refine (HK.out _).mono ?_; rintro e w2 ⟨rfl, b2⟩
      have a20 := keep_cell b2 a10
      have a21 := keep_cell b2 a11
      have c20 := keep_cell b2 c10
      have c21 := keep_cell b2 c11
      have k20 := keep_cell b2 k10
      have f20 := keep_frozen b2 z1 f10
      have k21 := keep_cell b2 k11
      have f21 := keep_frozen b2 z1 f11
      have h2 := h1.trans (b2.mono h1.size)
      have z2 : w.heap.size + 1 + 1 < w2.heap.size := Lib.lt_of_cell k20
      clear b2 h1 z1 a10 a11 c10 c11 k10 k11 f10 f11
      have y2 : w.heap.size + 1 < w2.heap.size := by omega
      have x2 : w.heap.size < w2.heap.size := by omega
      go_wp2_with fail
      refine (HB.out _).mono ?_; rintro e w3 ⟨rfl, b3⟩
      have a30 := keep_cell b3 a20
      have a31 := keep_cell b3 a21
      have c30 := keep_cell b3 c20
      have c31 := keep_cell b3 c21
      have k30 := keep_cell b3 k20
      have f30 := keep_frozen b3 z2 f20
      have k31 := keep_cell b3 k21
      have f31 := keep_frozen b3 z2 f21
      have h3 := h2.trans (b3.mono h2.size)
      have z3 : w.heap.size + 1 + 1 < w3.heap.size := Lib.lt_of_cell k30
      clear b3 h2 z2 a20 a21 c20 c21 k20 k21 f20 f21
      have y3 : w.heap.size + 1 < w3.heap.size := by omega
      have x3 : w.heap.size < w3.heap.size := by omega
      go_wp2_with fail
      exact bodyPost_ret (v := .tuple #[.agg #[.int .i64 X, .int .i64 Y], .bool true]) (by simp [results, Tryd.results9, go_sem, k30, k31]) rfl
        ⟨rfl, (h3.setCell (by simp; omega) _).setCell (by simp; omega) _⟩
    | none =>
      obtain ⟨e1, e2, e3⟩ := do_none (f := f) (g := g) (act_none _ ho hc n m)
      rw [e1, e2, e3]
      rw [hc] at K
      have HK := Lib.hid K
      simp only [Option.isSome_none] at HK
      clear K ho hc e1 e2 e3 hn hm
      go_enter Tryd.func9, Tryd.ntmps9
      go_wp2_with fail
      refine (HH.out _).mono ?_; rintro e w1 ⟨rfl, b1⟩
      have a10 := keep_cell b1 (p := ⟨w.heap.size, 0, none⟩) (v := .int .i64 n) (by simp [go_sem])
      have a11 := keep_cell b1 (p := ⟨w.heap.size, 1, none⟩) (v := .int .i64 f) (by simp [go_sem])
      have c10 := keep_cell b1 (p := ⟨w.heap.size + 1, 0, none⟩) (v := .int .i64 m) (by simp [go_sem])
      have c11 := keep_cell b1 (p := ⟨w.heap.size + 1, 1, none⟩) (v := .int .i64 g) (by simp [go_sem])
      have k10 := keep_cell b1 (p := ⟨w.heap.size + 1 + 1, 0, none⟩) (v := .int .i64 0) (by simp [go_sem])
      have f10 := keep_frozen b1 (p := ⟨w.heap.size + 1 + 1, 0, none⟩) (by simp) (by simp [go_sem])
      have k11 := keep_cell b1 (p := ⟨w.heap.size + 1 + 1, 1, none⟩) (v := .int .i64 0) (by simp [go_sem])
      have f11 := keep_frozen b1 (p := ⟨w.heap.size + 1 + 1, 1, none⟩) (by simp) (by simp [go_sem])
      have h1 : Below w.heap.size w w1 := ((((Below.refl _ _).alloc (Nat.le_refl _) _).alloc (by simp) _).alloc (by simp; omega) _).trans (b1.mono (by simp; omega))
      have z1 : w.heap.size + 1 + 1 < w1.heap.size := Lib.lt_of_cell k10
      clear b1
      have y1 : w.heap.size + 1 < w1.heap.size := by omega
      have x1 : w.heap.size < w1.heap.size := by omega
      go_wp2_with fail
      refine (HK.out _).mono ?_; rintro e w2 ⟨rfl, b2⟩
      have a20 := keep_cell b2 a10
      have a21 := keep_cell b2 a11
      have c20 := keep_cell b2 c10
      have c21 := keep_cell b2 c11
      have k20 := keep_cell b2 k10
      have f20 := keep_frozen b2 z1 f10
      have k21 := keep_cell b2 k11
      have f21 := keep_frozen b2 z1 f11
      have h2 := h1.trans (b2.mono h1.size)
      have z2 : w.heap.size + 1 + 1 < w2.heap.size := Lib.lt_of_cell k20
      clear b2 h1 z1 a10 a11 c10 c11 k10 k11 f10 f11
      have y2 : w.heap.size + 1 < w2.heap.size := by omega
      have x2 : w.heap.size < w2.heap.size := by omega
      go_wp2_with fail
      exact bodyPost_ret (v := .tuple #[.agg #[.int .i64 0, .int .i64 0], .bool false]) (by simp [results, Tryd.results9, go_sem, k20, k21]) rfl
        ⟨rfl, (h2.setCell (by simp; omega) _).setCell (by simp; omega) _⟩

set_option maxHeartbeats 1000000 in
theorem uneg_any (n f : Int) (hn : B64 n) (w : World) :
    Calls Tryd.prog 15 #[.agg #[.int .i64 n, .int .i64 f]] w fun e w' => e = .returned (.agg #[.int .i64 (doNum [45] 0 0 n f), .int .i64 (doFault [45] 0 0 n f)]) ∧ Below w.heap.size w w' := by
  have e0 : vOp [45] 0 n = some (vTold (-n)) := by
    show some (vTold (0 - n)) = _
    rw [show (0 : Int) - n = -n from by omega]
  obtain ⟨e1, e2, _⟩ := do_num (f := 0) (g := f) e0
  rw [e1, e2]
  have H := Lib.hid (uboth_any act_neg 0 0 n f (by unfold B64; omega) hn)
  have hmf : ∀ (fn : Fn) (first cap : Array Value) (w : World), (Instr.makeFunc fn first cap).run Tryd.prog w = .ok (.func fn first cap) w := fun _ _ _ _ => rfl
  clear hn e0 e1 e2
  generalize bothN (vTold (-n)) 0 f = X at *
  generalize bothF (vTold (-n)) 0 f = Y at *
  go_enter Tryd.func15, Tryd.ntmps15
  go_wp2_with fail
  refine (H.out _).mono ?_; rintro e w1 ⟨rfl, b1⟩
  have k0 := keep_cell b1 (p := ⟨w.heap.size + 1, 0, none⟩) (v := .int .i64 0) (by simp [go_sem])
  have k1 := keep_cell b1 (p := ⟨w.heap.size + 1, 1, none⟩) (v := .int .i64 0) (by simp [go_sem])
  have f0 := keep_frozen b1 (p := ⟨w.heap.size + 1, 0, none⟩) (by simp) (by simp [go_sem])
  have f1 := keep_frozen b1 (p := ⟨w.heap.size + 1, 1, none⟩) (by simp) (by simp [go_sem])
  have h1 : Below w.heap.size w w1 := (((Below.refl _ _).alloc (Nat.le_refl _) _).alloc (by simp) _).trans (b1.mono (by simp; omega))
  clear b1
  go_wp2_with fail
  exact bodyPost_ret (v := .agg #[.int .i64 X, .int .i64 Y]) (by simp [results, Tryd.results15, go_sem, k0, k1]) rfl ⟨rfl, (h1.setCell (by simp) _).setCell (by simp) _⟩
end Go.Proofs.YtpnmefkbfonhpaaDoor
