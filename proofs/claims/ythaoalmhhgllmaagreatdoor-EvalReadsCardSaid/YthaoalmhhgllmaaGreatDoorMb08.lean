/- Texts joined: UaF, ShD, EvB, EvC, EvD, CeC, TrS, TrU. -/
import Derived.Test.YthaoalmhhgllmaaGreatDoorMb07
import Derived.Test.YthaoalmhhgllmaaGreatDoorMb02
import Derived.Test.YthaoalmhhgllmaaGreatDoorMb01
import Derived.Test.YthaoalmhhgllmaaGreatDoorMb05
import Derived.Deep.RegionWith
import Derived.Deep.RegionHeld3
import Derived.Test.YthaoalmhhgllmaaGreatDoorMb06
import Derived.Deep.QuietTactic
import Derived.BigQuiet
set_option linter.all false
namespace Go.Proofs.YthaoalmhhgllmaaGreatDoor
open Go.RowKit
theorem do_num {l : List UInt8} {n f m g : Int} {p : Int × Int} (h : vOp l n m = some p) : doNum l n f m g = bothN p f g ∧ doFault l n f m g = bothF p f g ∧ (vOp l n m).isSome = true := by
  unfold doNum doFault bothN bothF
  rw [h]
  exact ⟨rfl, by simp [oFault], rfl⟩
theorem do_none {l : List UInt8} {n f m g : Int} (h : vOp l n m = none) : doNum l n f m g = 0 ∧ doFault l n f m g = 0 ∧ (vOp l n m).isSome = false := by
  unfold doNum doFault
  rw [h]
  exact ⟨by simp [oNum], rfl, rfl⟩
theorem actReckons (l : List UInt8) (n : Nat) (h : opReckons l = some n) : ∃ G, ActC n G ∧ ∀ a b, vOp l a b = some (G a b) := by
  by_cases h0 : l = [43]
  · subst h0; obtain rfl : 83 = n := Option.some.inj h; exact ⟨_, act_add, fun _ _ => rfl⟩
  by_cases h1 : l = [45]
  · subst h1; obtain rfl : 84 = n := Option.some.inj h; exact ⟨_, act_sub, fun _ _ => rfl⟩
  by_cases h2 : l = [42]
  · subst h2; obtain rfl : 85 = n := Option.some.inj h; exact ⟨_, act_mul, fun _ _ => rfl⟩
  by_cases h3 : l = [47]
  · subst h3; obtain rfl : 87 = n := Option.some.inj h; exact ⟨_, act_div, fun _ _ => rfl⟩
  unfold opReckons at h
  simp only [h0, h1, h2, h3, if_false] at h
  cases h
theorem actCompares (l : List UInt8) (n : Nat) (h : opCompares l = some n) : ∃ G, ActC n G ∧ ∀ a b, vOp l a b = some (G a b) := by
  by_cases h0 : l = [60]
  · subst h0; obtain rfl : 89 = n := Option.some.inj h; exact ⟨_, act_lt, fun _ _ => rfl⟩
  by_cases h1 : l = [60, 61]
  · subst h1; obtain rfl : 91 = n := Option.some.inj h; exact ⟨_, act_le, fun _ _ => rfl⟩
  by_cases h2 : l = [61]
  · subst h2; obtain rfl : 92 = n := Option.some.inj h; exact ⟨_, act_eq, fun _ _ => rfl⟩
  by_cases h3 : l = [60, 62]
  · subst h3; obtain rfl : 93 = n := Option.some.inj h; exact ⟨_, act_ne, fun _ _ => rfl⟩
  by_cases h4 : l = [62, 61]
  · subst h4; obtain rfl : 94 = n := Option.some.inj h; exact ⟨_, act_ge, fun _ _ => rfl⟩
  by_cases h5 : l = [62]
  · subst h5; obtain rfl : 95 = n := Option.some.inj h; exact ⟨_, act_gt, fun _ _ => rfl⟩
  unfold opCompares at h
  simp only [h0, h1, h2, h3, h4, h5, if_false] at h
  cases h
theorem act_none (l : List UInt8) (h : opReckons l = none) (h' : opCompares l = none) (a b : Int) : vOp l a b = none := by
  by_cases h0 : l = [43]
  · subst h0; exact absurd h (by decide)
  by_cases h1 : l = [45]
  · subst h1; exact absurd h (by decide)
  by_cases h2 : l = [42]
  · subst h2; exact absurd h (by decide)
  by_cases h3 : l = [47]
  · subst h3; exact absurd h (by decide)
  by_cases h4 : l = [60]
  · subst h4; exact absurd h' (by decide)
  by_cases h5 : l = [60, 61]
  · subst h5; exact absurd h' (by decide)
  by_cases h6 : l = [61]
  · subst h6; exact absurd h' (by decide)
  by_cases h7 : l = [60, 62]
  · subst h7; exact absurd h' (by decide)
  by_cases h8 : l = [62, 61]
  · subst h8; exact absurd h' (by decide)
  by_cases h9 : l = [62]
  · subst h9; exact absurd h' (by decide)
  unfold vOp
  simp only [h0, h1, h2, h3, h4, h5, h6, h7, h8, h9, if_false]

set_option maxHeartbeats 1000000 in
set_option maxRecDepth 10000 in
theorem udo_any (s : ByteArray) (hs : s.size ≤ maxLen) (n f m g : Int) (hn : B64 n) (hm : B64 m) (w : World) :
    Calls Tryz.prog 31 #[.string s, .agg #[.int .i64 n, .int .i64 f], .agg #[.int .i64 m, .int .i64 g]] w fun e w' =>
      e = .returned (.tuple #[.agg #[.int .i64 (doNum s.data.toList n f m g), .int .i64 (doFault s.data.toList n f m g)], .bool (vOp s.data.toList n m).isSome]) ∧ Below w.heap.size w w' := by
  have H := ureckons_any s hs
  have K := ucompares_any s hs
  unfold fnReckons at H
  unfold fnCompares at K
  cases ho : opReckons s.data.toList with
  | some k =>
    obtain ⟨G, hA, hG⟩ := actReckons _ _ ho
    obtain ⟨e1, e2, e3⟩ := do_num (l := s.data.toList) (f := f) (g := g) (hG n m)
    rw [e1, e2, e3]
    have HB := Lib.hid (uboth_any hA n f m g hn hm)
    rw [ho] at H
    have HH := Lib.hid H
    simp only [Option.isSome_some] at HH
    generalize bothN (G n m) f g = X at *
    generalize bothF (G n m) f g = Y at *
    clear H K ho hA hG e1 e2 e3 hn hm
    go_enter Tryz.func31, Tryz.ntmps31
    go_wp2_with fail
    refine (HH.out _).mono ?_; rintro e w1 ⟨rfl, b1⟩
    have a10 := keep_cell b1 (p := ⟨w.heap.size, 0, none⟩) (v := .int .i64 n) (by simp [go_sem])
    have a11 := keep_cell b1 (p := ⟨w.heap.size, 1, none⟩) (v := .int .i64 f) (by simp [go_sem])
    have c10 := keep_cell b1 (p := ⟨w.heap.size + 1, 0, none⟩) (v := .int .i64 m) (by simp [go_sem])
    have c11 := keep_cell b1 (p := ⟨w.heap.size + 1, 1, none⟩) (v := .int .i64 g) (by simp [go_sem])
    have k10 := keep_cell b1 (p := ⟨w.heap.size + 1 + 1, 0, none⟩) (v := .int .i64 0) (by simp [go_sem])
    have f10 := keep_frozen b1 (p := ⟨w.heap.size + 1 + 1, 0, none⟩) (by simp) (by simp [go_sem])
    have k11 := keep_cell b1 (p := ⟨w.heap.size + 1 + 1, 1, none⟩) (v := .int .i64 0) (by simp [go_sem])
    have f11 := keep_frozen b1 (p := ⟨w.heap.size + 1 + 1, 1, none⟩) (by simp) (by simp [go_sem])
    have h1 : Below w.heap.size w w1 := ((((Below.refl _ _).alloc (Nat.le_refl _) _).alloc (by simp) _).alloc (by simp; omega) _).trans (b1.mono (by simp; omega))
    have z1 : w.heap.size + 1 + 1 < w1.heap.size := Lib.lt_of_cell k10
    clear b1
    have y1 : w.heap.size + 1 < w1.heap.size := by omega
    have x1 : w.heap.size < w1.heap.size := by omega
    go_wp2_with fail
    refine (HB.out _).mono ?_; rintro e w2 ⟨rfl, b2⟩
    have a20 := keep_cell b2 a10
    have a21 := keep_cell b2 a11
    have c20 := keep_cell b2 c10
    have c21 := keep_cell b2 c11
    have k20 := keep_cell b2 k10
    have f20 := keep_frozen b2 z1 f10
    have k21 := keep_cell b2 k11
    have f21 := keep_frozen b2 z1 f11
    have h2 := h1.trans (b2.mono h1.size)
    have z2 : w.heap.size + 1 + 1 < w2.heap.size := Lib.lt_of_cell k20
    clear b2 h1 z1 a10 a11 c10 c11 k10 k11 f10 f11
    have y2 : w.heap.size + 1 < w2.heap.size := by omega
    have x2 : w.heap.size < w2.heap.size := by omega
    go_wp2_with fail
    exact bodyPost_ret (v := .tuple #[.agg #[.int .i64 X, .int .i64 Y], .bool true]) (by simp [results, Tryz.results31, go_sem, k20, k21]) rfl
      ⟨rfl, (h2.setCell (by simp; omega) _).setCell (by simp; omega) _⟩
  | none =>
    rw [ho] at H
    have HH := Lib.hid H
    simp only [Option.isSome_none] at HH
    clear H
    cases hc : opCompares s.data.toList with
    | some k =>
      obtain ⟨G, hA, hG⟩ := actCompares _ _ hc
      obtain ⟨e1, e2, e3⟩ := do_num (l := s.data.toList) (f := f) (g := g) (hG n m)
      rw [e1, e2, e3]
      have HB := Lib.hid (uboth_any hA n f m g hn hm)
      rw [hc] at K
      have HK := Lib.hid K
      simp only [Option.isSome_some] at HK
      generalize bothN (G n m) f g = X at *
      generalize bothF (G n m) f g = Y at *
      clear K ho hc hA hG e1 e2 e3 hn hm
      go_enter Tryz.func31, Tryz.ntmps31
      go_wp2_with fail
      refine (HH.out _).mono ?_; rintro e w1 ⟨rfl, b1⟩
      have a10 := keep_cell b1 (p := ⟨w.heap.size, 0, none⟩) (v := .int .i64 n) (by simp [go_sem])
      have a11 := keep_cell b1 (p := ⟨w.heap.size, 1, none⟩) (v := .int .i64 f) (by simp [go_sem])
      have c10 := keep_cell b1 (p := ⟨w.heap.size + 1, 0, none⟩) (v := .int .i64 m) (by simp [go_sem])
      have c11 := keep_cell b1 (p := ⟨w.heap.size + 1, 1, none⟩) (v := .int .i64 g) (by simp [go_sem])
      have k10 := keep_cell b1 (p := ⟨w.heap.size + 1 + 1, 0, none⟩) (v := .int .i64 0) (by simp [go_sem])
      have f10 := keep_frozen b1 (p := ⟨w.heap.size + 1 + 1, 0, none⟩) (by simp) (by simp [go_sem])
      have k11 := keep_cell b1 (p := ⟨w.heap.size + 1 + 1, 1, none⟩) (v := .int .i64 0) (by simp [go_sem])
      have f11 := keep_frozen b1 (p := ⟨w.heap.size + 1 + 1, 1, none⟩) (by simp) (by simp [go_sem])
      have h1 : Below w.heap.size w w1 := ((((Below.refl _ _).alloc (Nat.le_refl _) _).alloc (by simp) _).alloc (by simp; omega) _).trans (b1.mono (by simp; omega))
      have z1 : w.heap.size + 1 + 1 < w1.heap.size := Lib.lt_of_cell k10
      clear b1
      have y1 : w.heap.size + 1 < w1.heap.size := by omega
      have x1 : w.heap.size < w1.heap.size := by omega
      go_wp2_with fail
      refine (HK.out _).mono ?_; rintro e w2 ⟨rfl, b2⟩
      have a20 := keep_cell b2 a10
      have a21 := keep_cell b2 a11
      have c20 := keep_cell b2 c10
      have c21 := keep_cell b2 c11
      have k20 := keep_cell b2 k10
      have f20 := keep_frozen b2 z1 f10
      have k21 := keep_cell b2 k11
      have f21 := keep_frozen b2 z1 f11
      have h2 := h1.trans (b2.mono h1.size)
      have z2 : w.heap.size + 1 + 1 < w2.heap.size := Lib.lt_of_cell k20
      clear b2 h1 z1 a10 a11 c10 c11 k10 k11 f10 f11
      have y2 : w.heap.size + 1 < w2.heap.size := by omega
      have x2 : w.heap.size < w2.heap.size := by omega
      go_wp2_with fail
      refine (HB.out _).mono ?_; rintro e w3 ⟨rfl, b3⟩
      have a30 := keep_cell b3 a20
      have a31 := keep_cell b3 a21
      have c30 := keep_cell b3 c20
      have c31 := keep_cell b3 c21
      have k30 := keep_cell b3 k20
      have f30 := keep_frozen b3 z2 f20
      have k31 := keep_cell b3 k21
      have f31 := keep_frozen b3 z2 f21
      have h3 := h2.trans (b3.mono h2.size)
      have z3 : w.heap.size + 1 + 1 < w3.heap.size := Lib.lt_of_cell k30
      clear b3 h2 z2 a20 a21 c20 c21 k20 k21 f20 f21
      have y3 : w.heap.size + 1 < w3.heap.size := by omega
      have x3 : w.heap.size < w3.heap.size := by omega
      go_wp2_with fail
      exact bodyPost_ret (v := .tuple #[.agg #[.int .i64 X, .int .i64 Y], .bool true]) (by simp [results, Tryz.results31, go_sem, k30, k31]) rfl
        ⟨rfl, (h3.setCell (by simp; omega) _).setCell (by simp; omega) _⟩
    | none =>
      obtain ⟨e1, e2, e3⟩ := do_none (f := f) (g := g) (act_none _ ho hc n m)
      rw [e1, e2, e3]
      rw [hc] at K
      have HK := Lib.hid K
      simp only [Option.isSome_none] at HK
      clear K ho hc e1 e2 e3 hn hm
      go_enter Tryz.func31, Tryz.ntmps31
      go_wp2_with fail
      refine (HH.out _).mono ?_; rintro e w1 ⟨rfl, b1⟩
      have a10 := keep_cell b1 (p := ⟨w.heap.size, 0, none⟩) (v := .int .i64 n) (by simp [go_sem])
      have a11 := keep_cell b1 (p := ⟨w.heap.size, 1, none⟩) (v := .int .i64 f) (by simp [go_sem])
      have c10 := keep_cell b1 (p := ⟨w.heap.size + 1, 0, none⟩) (v := .int .i64 m) (by simp [go_sem])
      have c11 := keep_cell b1 (p := ⟨w.heap.size + 1, 1, none⟩) (v := .int .i64 g) (by simp [go_sem])
      have k10 := keep_cell b1 (p := ⟨w.heap.size + 1 + 1, 0, none⟩) (v := .int .i64 0) (by simp [go_sem])
      have f10 := keep_frozen b1 (p := ⟨w.heap.size + 1 + 1, 0, none⟩) (by simp) (by simp [go_sem])
      have k11 := keep_cell b1 (p := ⟨w.heap.size + 1 + 1, 1, none⟩) (v := .int .i64 0) (by simp [go_sem])
      have f11 := keep_frozen b1 (p := ⟨w.heap.size + 1 + 1, 1, none⟩) (by simp) (by simp [go_sem])
      have h1 : Below w.heap.size w w1 := ((((Below.refl _ _).alloc (Nat.le_refl _) _).alloc (by simp) _).alloc (by simp; omega) _).trans (b1.mono (by simp; omega))
      have z1 : w.heap.size + 1 + 1 < w1.heap.size := Lib.lt_of_cell k10
      clear b1
      have y1 : w.heap.size + 1 < w1.heap.size := by omega
      have x1 : w.heap.size < w1.heap.size := by omega
      go_wp2_with fail
      refine (HK.out _).mono ?_; rintro e w2 ⟨rfl, b2⟩
      have a20 := keep_cell b2 a10
      have a21 := keep_cell b2 a11
      have c20 := keep_cell b2 c10
      have c21 := keep_cell b2 c11
      have k20 := keep_cell b2 k10
      have f20 := keep_frozen b2 z1 f10
      have k21 := keep_cell b2 k11
      have f21 := keep_frozen b2 z1 f11
      have h2 := h1.trans (b2.mono h1.size)
      have z2 : w.heap.size + 1 + 1 < w2.heap.size := Lib.lt_of_cell k20
      clear b2 h1 z1 a10 a11 c10 c11 k10 k11 f10 f11
      have y2 : w.heap.size + 1 < w2.heap.size := by omega
      have x2 : w.heap.size < w2.heap.size := by omega
      go_wp2_with fail
      exact bodyPost_ret (v := .tuple #[.agg #[.int .i64 0, .int .i64 0], .bool false]) (by simp [results, Tryz.results31, go_sem, k20, k21]) rfl
        ⟨rfl, (h2.setCell (by simp; omega) _).setCell (by simp; omega) _⟩

set_option maxHeartbeats 1000000 in
theorem uneg_any (n f : Int) (hn : B64 n) (w : World) :
    Calls Tryz.prog 30 #[.agg #[.int .i64 n, .int .i64 f]] w fun e w' => e = .returned (.agg #[.int .i64 (doNum [45] 0 0 n f), .int .i64 (doFault [45] 0 0 n f)]) ∧ Below w.heap.size w w' := by
  have e0 : vOp [45] 0 n = some (vTold (-n)) := by
    show some (vTold (0 - n)) = _
    rw [show (0 : Int) - n = -n from by omega]
  obtain ⟨e1, e2, _⟩ := do_num (f := 0) (g := f) e0
  rw [e1, e2]
  have H := Lib.hid (uboth_any act_neg 0 0 n f (by unfold B64; omega) hn)
  have hmf : ∀ (fn : Fn) (first cap : Array Value) (w : World), (Instr.makeFunc fn first cap).run Tryz.prog w = .ok (.func fn first cap) w := fun _ _ _ _ => rfl
  clear hn e0 e1 e2
  generalize bothN (vTold (-n)) 0 f = X at *
  generalize bothF (vTold (-n)) 0 f = Y at *
  go_enter Tryz.func30, Tryz.ntmps30
  go_wp2_with fail
  refine (H.out _).mono ?_; rintro e w1 ⟨rfl, b1⟩
  have k0 := keep_cell b1 (p := ⟨w.heap.size + 1, 0, none⟩) (v := .int .i64 0) (by simp [go_sem])
  have k1 := keep_cell b1 (p := ⟨w.heap.size + 1, 1, none⟩) (v := .int .i64 0) (by simp [go_sem])
  have f0 := keep_frozen b1 (p := ⟨w.heap.size + 1, 0, none⟩) (by simp) (by simp [go_sem])
  have f1 := keep_frozen b1 (p := ⟨w.heap.size + 1, 1, none⟩) (by simp) (by simp [go_sem])
  have h1 : Below w.heap.size w w1 := (((Below.refl _ _).alloc (Nat.le_refl _) _).alloc (by simp) _).trans (b1.mono (by simp; omega))
  clear b1
  go_wp2_with fail
  exact bodyPost_ret (v := .agg #[.int .i64 X, .int .i64 Y]) (by simp [results, Tryz.results30, go_sem, k0, k1]) rfl ⟨rfl, (h1.setCell (by simp) _).setCell (by simp) _⟩
end Go.Proofs.YthaoalmhhgllmaaGreatDoor
namespace Go.Proofs.YthaoalmhhgllmaaGreatDoor
open Go.RowKit
theorem hasP_eq (a b c d x y : Int) : hasP a b c d x y = hasB a b c d x y := rfl
theorem usT_rd {x y : Int} {t : Tr} (h : t.kind = 1 ∨ t.kind = 6) : usT x y t = hasP t.c1 t.r1 t.c2 t.r2 x y := by
  cases t; rw [usT]; exact if_pos h
theorem usT_no {x y : Int} {t : Tr} (h : ¬ (t.kind = 1 ∨ t.kind = 6)) : usT x y t = usL x y t.kids := by
  cases t; rw [usT]; exact if_neg h
theorem usL_take_yes {x y : Int} : ∀ {ks : List Tr} {i : Nat} {u : Tr}, ks[i]? = some u → usT x y u = true → usL x y ks = true
  | [], i, u, h, _ => by simp at h
  | t :: ts, 0, u, h, k => by simp at h; subst h; rw [usL, k]; rfl
  | t :: ts, i + 1, u, h, k => by rw [usL, usL_take_yes (ks := ts) (i := i) (by simpa using h) k, Bool.or_true]
theorem usL_app {x y : Int} : ∀ (a b : List Tr), usL x y (a ++ b) = (usL x y a || usL x y b)
  | [], b => by rw [List.nil_append, usL, Bool.false_or]
  | t :: ts, b => by rw [List.cons_append, usL, usL, usL_app ts b, Bool.or_assoc]
theorem usL_take_no {x y : Int} {ks : List Tr} {i : Nat} {u : Tr} (h : ks[i]? = some u) (hp : usL x y (ks.take i) = false) (hu : usT x y u = false) : usL x y (ks.take (i + 1)) = false := by
  rw [List.take_add_one, h, usL_app, hp]
  show (false || usL x y [u]) = false
  rw [usL, usL, hu]; rfl
def UsC (x y : Int) (t : Tr) : Prop := ∀ (w : World) (P : Nat → Prop) (A : Option Addr) (cap : Nat), KV w P t A →
  Calls Tryz.prog 23 #[.agg #[.int .i64 t.kind, .int .i64 t.num, .int .i64 t.c1, .int .i64 t.r1, .int .i64 t.c2, .int .i64 t.r2, .string ⟨t.word.toArray⟩, .slice A t.kids.length cap], .agg #[.int .i64 x, .int .i64 y]] w fun e w' => e = .returned (.bool (usT x y t)) ∧ Below w.heap.size w w'
set_option maxHeartbeats 1000000 in
set_option maxRecDepth 10000 in
theorem uses_rd (x y : Int) (t : Tr) (hlen : t.kids.length ≤ maxLen) (b1 : Bool) (e1 : (t.kind == 1) = b1) (e6 : b1 = false → (t.kind == 6) = true) (h : t.kind = 1 ∨ t.kind = 6) : UsC x y t := by
  intro w P A cap _
  have HH := Lib.hid (fun w => rhas_any t.c1 t.r1 t.c2 t.r2 x y w)
  have HE := Lib.hid (usT_rd (x := x) (y := y) h)
  unfold maxLen at hlen
  clear h
  cases b1
  all_goals
    first | have k6 := e6 rfl | have k6 := e1
    clear e6
    go_enter Tryz.func23, Tryz.ntmps23
    go_wp2_with fail
    refine (HH.out _).mono ?_; rintro e w1 ⟨rfl, q1⟩
    have h1 : Below w.heap.size w w1 := (((Below.refl _ _).alloc (Nat.le_refl _) _).alloc (by simp) _).trans (q1.mono (by simp; omega))
    clear q1
    go_wp2_with fail
    go_ret
    exact ⟨by rw [HE.out, hasP_eq]; rfl, h1⟩
set_option maxHeartbeats 1000000 in
set_option maxRecDepth 10000 in
theorem uses_no (x y : Int) (t : Tr) (hlen : t.kids.length ≤ maxLen) (e1 : (t.kind == 1) = false) (e6 : (t.kind == 6) = false) (ih : ∀ u ∈ t.kids, UsC x y u) : UsC x y t := by
  intro w P A cap hk
  have HK := Lib.hid hk
  have HI := Lib.hid ih
  have HE := Lib.hid (usT_no (x := x) (y := y) (t := t) (by rw [beq_eq_false_iff_ne] at e1 e6; rintro (h | h); exact e1 h; exact e6 h))
  unfold maxLen at hlen
  generalize usT x y t = Z at *
  clear hk ih
  go_enter Tryz.func23, Tryz.ntmps23
  go_wp2_with fail
  go_loopw [5] (fun vi wr => ∃ i : Nat, i ≤ t.kids.length ∧ vi = .int .i64 (i : Int) ∧ Hid (usL x y (t.kids.take i) = false) ∧ Below w.heap.size w wr ∧ w.heap.size + 1 < wr.heap.size ∧ wr.cell? ⟨w.heap.size, 7, none⟩ = some (.slice A t.kids.length cap) ∧ wr.cell? ⟨w.heap.size + 1, 0, none⟩ = some (.int .i64 x) ∧ wr.cell? ⟨w.heap.size + 1, 1, none⟩ = some (.int .i64 y)) (fun vi _ => t.kids.length - (intOf vi).toNat)
  case atStart => exact ⟨0, Nat.zero_le _, rfl, Lib.hid (by rw [List.take_zero, usL]), (((Below.refl _ _).alloc (Nat.le_refl _) _).alloc (by simp) _), by simp, by simp [go_sem], by simp [go_sem], by simp [go_sem]⟩
  case round =>
    obtain ⟨i, hi, rfl, HTK, hbel, hsz, c7, p0, p1⟩ := hrel
    by_cases hlt : i < t.kids.length
    · have hu : t.kids[i]? = some (t.kids[i]'hlt) := List.getElem?_eq_getElem hlt
      obtain ⟨g, o, rfl⟩ := HK.out.addr hu
      obtain ⟨hg, A', cap', h8, hkv⟩ := HK.out.kidAt hbel hu
      have HTE := Lib.hid fun e => usL_take_no (x := x) (y := y) hu HTK.out e
      have HTB := Lib.hid fun e => usL_take_yes (x := x) (y := y) hu e
      have HC := Lib.hid (HI.out _ (List.getElem_mem hlt) wr.drew _ A' cap' (hkv.kept (Kept.of_below (Below.refl _ wr).drew)))
      generalize t.kids[i]'hlt = u at *
      obtain ⟨q0, q1, q2, q3, q4, q5, q6, q7⟩ := h8
      clear hkv hu
      go_wp2_with fail
      go_region_held3 (fun w' => w'.cell? ⟨g, o + i * 8, none⟩ = some (.int .i64 u.kind) ∧ w'.cell? ⟨g, o + i * 8 + 1, none⟩ = some (.int .i64 u.num) ∧ w'.cell? ⟨g, o + i * 8 + 2, none⟩ = some (.int .i64 u.c1) ∧ w'.cell? ⟨g, o + i * 8 + 3, none⟩ = some (.int .i64 u.r1) ∧ w'.cell? ⟨g, o + i * 8 + 4, none⟩ = some (.int .i64 u.c2) ∧ w'.cell? ⟨g, o + i * 8 + 5, none⟩ = some (.int .i64 u.r2) ∧ w'.cell? ⟨g, o + i * 8 + 6, none⟩ = some (.string ⟨u.word.toArray⟩) ∧ w'.cell? ⟨g, o + i * 8 + 7, none⟩ = some (.slice A' u.kids.length cap') ∧ w'.cell? ⟨w.heap.size, 7, none⟩ = some (.slice (some ⟨g, o, none⟩) t.kids.length cap) ∧ w'.cell? ⟨w.heap.size + 1, 0, none⟩ = some (.int .i64 x) ∧ w'.cell? ⟨w.heap.size + 1, 1, none⟩ = some (.int .i64 y))
        (first | (simp only [World.cell?_drew]; with_reducible exact ⟨q0, q1, q2, q3, q4, q5, q6, q7, c7, p0, p1⟩) | (with_reducible exact ⟨m0, m1, m2, m3, m4, m5, m6, m7, e7, r0, r1⟩) | fail)
        (first
        | (go_at_call 23; refine Calls.mono HC.out ?_; rintro e w1 ⟨rfl, b1⟩
           have B1 : Below wr.heap.size wr w1 := (Below.refl _ wr).drew.trans b1
           have m0 := keep_cell B1 q0
           have m1 := keep_cell B1 q1
           have m2 := keep_cell B1 q2
           have m3 := keep_cell B1 q3
           have m4 := keep_cell B1 q4
           have m5 := keep_cell B1 q5
           have m6 := keep_cell B1 q6
           have m7 := keep_cell B1 q7
           have e7 := keep_cell B1 c7
           have r0 := keep_cell B1 p0
           have r1 := keep_cell B1 p1
           have s7 : w.heap.size + 1 < w1.heap.size := Nat.lt_of_lt_of_le hsz B1.size
           have hb1 := hbel.trans (B1.mono hbel.size)
           clear b1 B1 c7 p0 p1 q0 q1 q2 q3 q4 q5 q6 q7)
        | fail)
      clear m0 m1 m2 m3 m4 m5 m6 m7
      generalize hM : usT x y u = M at *
      cases M with
      | false =>
        have HG := Lib.hid (HTE.out rfl)
        clear HTE HTB hM
        go_wp2_with fail
        go_roundw
        case rel => exact ⟨i + 1, by omega, by go_num, HG, hb1, s7, e7, r0, r1⟩
        case measure => simp [intOf]; omega
      | true =>
        have HF := Lib.hid (HTB.out rfl)
        clear HTE HTB hM
        go_wp2_with fail
        go_ret
        exact ⟨by rw [HE.out, HF.out]; rfl, hb1⟩
    · have hii : i = t.kids.length := by omega
      subst hii
      have hz : usL x y t.kids = false := by have := HTK.out; rwa [List.take_length] at this
      have HZ := Lib.hid hz
      clear hz
      go_wp2_with fail
      go_ret
      exact ⟨by rw [HE.out, HZ.out]; rfl, hbel⟩
theorem ruses_any (x y : Int) : ∀ {t : Tr}, Wid t → UsC x y t := by
  intro t hW
  induction hW with
  | @mk k n c r d s w ks hl hk ih =>
    by_cases h1 : k = 1
    · exact uses_rd x y _ hl true (by rw [beq_iff_eq]; exact h1) (fun e => by cases e) (.inl h1)
    · have b1 : (k == 1) = false := by rw [beq_eq_false_iff_ne]; exact h1
      by_cases h6 : k = 6
      · exact uses_rd x y _ hl false b1 (fun _ => by rw [beq_iff_eq]; exact h6) (.inr h6)
      · exact uses_no x y _ hl b1 (by rw [beq_eq_false_iff_ne]; exact h6) ih
end Go.Proofs.YthaoalmhhgllmaaGreatDoor
namespace Go.Proofs.YthaoalmhhgllmaaGreatDoor
open Go.RowKit
theorem mem_cells {a b c d : Int} {n : Nat} {p : Int × Int} (h : p ∈ cellsTo a b c d n) : hasB a b c d p.1 p.2 = true := by
  unfold cellsTo at h
  obtain ⟨j, hj, rfl⟩ := List.mem_map.1 h
  exact (List.mem_filter.1 hj).2
theorem filterMap_same {α β : Type} {f g : α → Option β} : ∀ {l : List α}, (∀ a ∈ l, f a = g a) → l.filterMap f = l.filterMap g
  | [], _ => rfl
  | a :: l, h => by
    rw [List.filterMap_cons, List.filterMap_cons, h a (List.mem_cons_self ..), filterMap_same fun b hb => h b (List.mem_cons_of_mem _ hb)]
theorem cIn_same {l m : List Cel} {a b c d : Int} (h : ∀ x y, hasB a b c d x y = true → cAt x y l = cAt x y m) : cIn l a b c d = cIn m a b c d :=
  filterMap_same fun p hp => h p.1 p.2 (mem_cells hp)
mutual
theorem cm_same {l m : List Cel} : ∀ t : Tr, mayB t = true → (∀ x y, usT x y t = true → cAt x y l = cAt x y m) → cmT l t = cmT m t
  | .mk k n c r d s w ks, hm, h => by
    by_cases k1 : k = 1
    · subst k1
      have hw := rdr_whole hm rfl
      rw [cm_read rfl, cm_read rfl]
      unfold cVal
      show (cAt c r l).getD (0, 0) = (cAt c r m).getD (0, 0)
      rw [h c r (by
        rw [usT, if_pos (.inl rfl)]
        unfold hasP
        have h2 : (rightB c r && rightB d s && (decide (c ≤ d) && decide (r ≤ s))) = true := hw
        rw [h2, Bool.true_and, decide_eq_true_iff]
        simp only [Bool.and_eq_true, decide_eq_true_iff] at h2
        omega)]
    · by_cases k6 : k = 6
      · have e : (Tr.mk k n c r d s w ks).kind = 6 := k6
        rw [cm_bad (.inr e), cm_bad (.inr e)]
      · have hk : ∀ u ∈ ks, mayB u = true := may_kids hm
        have hu : ∀ x y, usL x y ks = true → cAt x y l = cAt x y m := fun x y hxy => h x y (by
          rw [usT, if_neg (by rintro (e | e); exact k1 e; exact k6 e)]; exact hxy)
        have hL := cmL_same ks hk hu
        have hI := itL_same ks hk hu
        rw [cmT, cmT, hL, hI, if_neg k1, if_neg k1]
theorem cmL_same {l m : List Cel} : ∀ ks : List Tr, (∀ u ∈ ks, mayB u = true) → (∀ x y, usL x y ks = true → cAt x y l = cAt x y m) → cmL l ks = cmL m ks
  | [], _, _ => by rw [cmL, cmL]
  | t :: ts, hm, h => by
    rw [cmL, cmL, cm_same t (hm t (List.mem_cons_self ..)) (fun x y hx => h x y (by rw [usL, hx]; rfl)), cmL_same ts (fun u hu => hm u (List.mem_cons_of_mem _ hu)) (fun x y hx => h x y (by rw [usL, hx, Bool.or_true]))]
theorem itL_same {l m : List Cel} : ∀ ks : List Tr, (∀ u ∈ ks, mayB u = true) → (∀ x y, usL x y ks = true → cAt x y l = cAt x y m) → itL l ks = itL m ks
  | [], _, _ => by rw [itL, itL]
  | t :: ts, hm, h => by
    have h1 := cm_same t (hm t (List.mem_cons_self ..)) (fun x y hx => h x y (by rw [usL, hx]; rfl))
    have h2 := itL_same ts (fun u hu => hm u (List.mem_cons_of_mem _ hu)) (fun x y hx => h x y (by rw [usL, hx, Bool.or_true]))
    rw [itL, itL, h1, h2]
    by_cases k6 : t.kind = 6
    · rw [if_pos k6, if_pos k6, cIn_same (m := m) fun x y hx => h x y (by rw [usL, usT_rd (.inr k6)]; rw [show hasP t.c1 t.r1 t.c2 t.r2 x y = true from hx]; rfl)]
    · rw [if_neg k6, if_neg k6]
end
theorem cAt_filter {x y : Int} {f : Cel → Bool} : ∀ {l : List Cel}, (∀ q ∈ l, q.c = x → q.r = y → f q = true) → cAt x y (l.filter f) = cAt x y l
  | [], _ => rfl
  | q :: l, h => by
    have ih := cAt_filter (l := l) fun p hp => h p (List.mem_cons_of_mem _ hp)
    cases hf : f q with
    | true => rw [List.filter_cons_of_pos hf, cAt, cAt, ih]
    | false =>
      rw [List.filter_cons_of_neg (by rw [hf]; decide), cAt, ih, if_neg]
      rintro ⟨h1, h2⟩
      have := h q (List.mem_cons_self ..) h1 h2
      rw [hf] at this
      cases this
theorem cAt_none {x y : Int} : ∀ {l : List Cel}, (∀ q ∈ l, ¬ (q.c = x ∧ q.r = y)) → cAt x y l = none
  | [], _ => rfl
  | q :: l, h => by rw [cAt, if_neg (h q (List.mem_cons_self ..))]; exact cAt_none fun p hp => h p (List.mem_cons_of_mem _ hp)
theorem cAt_app {x y : Int} : ∀ {l m : List Cel}, cAt x y (l ++ m) = (cAt x y l).or (cAt x y m)
  | [], m => by rw [List.nil_append, cAt, Option.none_or]
  | q :: l, m => by
    rw [List.cons_append, cAt, cAt]
    by_cases h : q.c = x ∧ q.r = y
    · rw [if_pos h, if_pos h, Option.some_or]
    · rw [if_neg h, if_neg h]; exact cAt_app
theorem only_same {l o : List Cel} {t : Tr} {f : Int → Int → Bool} (hm : mayB t = true) (hf : ∀ x y, usT x y t = true → f x y = true) :
    cmT ((l.filter fun q => f q.c q.r) ++ (o.filter fun q => !f q.c q.r)) t = cmT l t := by
  refine cm_same t hm fun x y hu => ?_
  rw [cAt_app, cAt_filter (fun q _ h1 h2 => by rw [h1, h2]; exact hf x y hu), cAt_none (l := o.filter _), Option.or_none]
  rintro q hq ⟨h1, h2⟩
  have := (List.mem_filter.1 hq).2
  rw [h1, h2, hf x y hu] at this
  cases this
def OkF (p : Int × Int) : Prop := (p.2 = 0 ∨ p.2 = 1 ∨ p.2 = 2)
def NzF (p : Int × Int) : Prop := p.2 ≠ 0 → p.1 = 0
theorem nz_told (n : Int) : NzF (vTold n) := by
  unfold NzF vTold tNum tFault
  cases inI n <;> simp
theorem ok_told (n : Int) : OkF (vTold n) := by
  unfold OkF vTold tFault
  cases inI n <;> simp
theorem ok_op (w : List UInt8) (a b : Int) : oFault (vOp w a b) = 0 ∨ oFault (vOp w a b) = 1 ∨ oFault (vOp w a b) = 2 := by
  unfold vOp
  repeat' split
  all_goals first | exact ok_told _ | exact .inl rfl | exact .inr (.inr rfl)
theorem nz_op (w : List UInt8) (a b : Int) : oFault (vOp w a b) ≠ 0 → oNum (vOp w a b) = 0 := by
  unfold vOp
  repeat' split
  all_goals first | exact nz_told _ | (intro h; exact absurd rfl h) | (intro _; rfl)
theorem ok_do {w : List UInt8} {p q : Int × Int} (hp : OkF p) (hq : OkF q) : OkF (doNum w p.1 p.2 q.1 q.2, doFault w p.1 p.2 q.1 q.2) := by
  unfold OkF doFault at *
  have h := ok_op w p.1 q.1
  repeat' split
  all_goals first | exact h | exact hp | exact hq | exact .inl rfl
theorem nz_do (w : List UInt8) (p q : Int × Int) : NzF (doNum w p.1 p.2 q.1 q.2, doFault w p.1 p.2 q.1 q.2) := by
  unfold NzF doFault doNum
  have h := nz_op w p.1 q.1
  intro hn
  by_cases h0 : p.2 = 0 ∧ q.2 = 0
  · rw [if_pos h0]
    refine h fun e => hn ?_
    show (if (vOp w p.1 q.1).isSome = true then _ else (0 : Int)) = 0
    split
    · rw [if_pos h0.1, if_pos h0.2]; exact e
    · rfl
  · exact if_neg h0
theorem ok_all {G : Int → Int → Int × Int} (hG : ∀ a b, OkF (G a b)) : ∀ (l : List (Int × Int)) (p : Int × Int), OkF p → (∀ q ∈ l, OkF q) → OkF (allV G p l)
  | [], p, hp, _ => hp
  | q :: l, p, hp, h => by
    refine ok_all hG l (stepV G p q) ?_ fun z hz => h z (List.mem_cons_of_mem _ hz)
    have hq := h q (List.mem_cons_self ..)
    have hg := hG p.1 q.1
    unfold OkF stepV bothF at *
    repeat' split
    all_goals first | exact hg | exact hq | exact hp
theorem nz_all {G : Int → Int → Int × Int} (hG : ∀ a b, NzF (G a b)) : ∀ (l : List (Int × Int)) (p : Int × Int), NzF p → NzF (allV G p l)
  | [], p, hp => hp
  | q :: l, p, hp => by
    refine nz_all hG l (stepV G p q) ?_
    have hg := hG p.1 q.1
    unfold NzF stepV bothF bothN at *
    intro hn
    by_cases h0 : p.2 = 0 ∧ q.2 = 0
    · rw [if_pos h0]
      refine hg fun e => hn ?_
      show (if p.2 = 0 then _ else _) = (0 : Int)
      rw [if_pos h0.1, if_pos h0.2]; exact e
    · exact if_neg h0
end Go.Proofs.YthaoalmhhgllmaaGreatDoor
namespace Go.Proofs.YthaoalmhhgllmaaGreatDoor
open Go.RowKit
theorem nz_alone (q : Cel) : NzF (aloneV q) := fun h => if_neg h
theorem nz_at {x y : Int} : ∀ {l : List Cel} {v : Int × Int}, cAt x y l = some v → NzF v
  | [], v, h => by cases h
  | q :: l, v, h => by
    rw [cAt] at h
    by_cases hp : q.c = x ∧ q.r = y
    · rw [if_pos hp] at h; cases h; exact nz_alone q
    · rw [if_neg hp] at h; exact nz_at h
theorem nz_val (x y : Int) (l : List Cel) : NzF (cVal x y l) := by
  unfold cVal
  cases h : cAt x y l with
  | none => exact fun hn => absurd rfl hn
  | some v => exact nz_at h
theorem nz_add (a b : Int) : NzF (gAdd a b) := nz_told _
theorem nz_low (a b : Int) : NzF (gLow a b) := fun hn => absurd rfl hn
theorem nz_top (a b : Int) : NzF (gTop a b) := fun hn => absurd rfl hn
theorem nz_zero : NzF (0, 0) := fun hn => absurd rfl hn
theorem nz_bad : NzF (0, 3) := fun _ => rfl
theorem nz_get {l : List (Int × Int)} (h : ∀ q ∈ l, NzF q) (i : Nat) : NzF (l.getD i (0, 0)) := by
  rw [List.getD_eq_getElem?_getD]
  cases hi : l[i]? with
  | none => exact nz_zero
  | some v => exact h v (List.mem_of_getElem? hi)
theorem nz_most {G : Int → Int → Int × Int} (hG : ∀ a b, NzF (G a b)) {l : List (Int × Int)} (h : ∀ q ∈ l, NzF q) : NzF (mostV G l) := by
  unfold mostV
  refine nz_all hG l _ ?_
  cases l with
  | nil => exact nz_zero
  | cons a b => exact h a (List.mem_cons_self ..)
theorem nz_in {l : List Cel} {a b c d : Int} : ∀ q ∈ cIn l a b c d, NzF q := fun q hq => by
  unfold cIn at hq
  obtain ⟨p, _, hp⟩ := List.mem_filterMap.1 hq
  exact nz_at hp
mutual
theorem nz_cm (l : List Cel) : ∀ t : Tr, NzF (cmT l t)
  | .mk k n c r d s w ks => by
    have h1 := nz_cmL l ks
    have h2 := nz_itL l ks
    rw [cmT]
    repeat' split
    all_goals first
      | exact fun hn => absurd rfl hn
      | exact nz_bad
      | exact nz_val _ _ _
      | exact nz_do _ _ _
      | exact nz_do _ (0, 0) _
      | exact nz_get h1 _
      | exact nz_all nz_add _ _ nz_zero
      | exact nz_most nz_low h2
      | exact nz_most nz_top h2
theorem nz_cmL (l : List Cel) : ∀ ks : List Tr, ∀ q ∈ cmL l ks, NzF q
  | [], q, h => by rw [cmL] at h; cases h
  | t :: ts, q, h => by
    rw [cmL] at h
    rcases List.mem_cons.1 h with rfl | h
    · exact nz_cm l t
    · exact nz_cmL l ts q h
theorem nz_itL (l : List Cel) : ∀ ks : List Tr, ∀ q ∈ itL l ks, NzF q
  | [], q, h => by rw [itL] at h; cases h
  | t :: ts, q, h => by
    rw [itL] at h
    rcases List.mem_append.1 h with h | h
    · split at h
      · exact nz_in q h
      · rw [List.mem_singleton.1 h]; exact nz_cm l t
    · exact nz_itL l ts q h
end
theorem nz_of (l : List Cel) (t : Tr) : NzF (ofV l t) := by
  unfold ofV
  split
  · exact nz_cm l t
  · exact nz_bad
end Go.Proofs.YthaoalmhhgllmaaGreatDoor
namespace Go.Proofs.YthaoalmhhgllmaaGreatDoor
open Go.RowKit
theorem b_zero : B64 0 := by unfold B64; omega
theorem b_tru (b : Bool) : B64 (tru b) := by unfold tru B64; split <;> omega
theorem b_op (w : List UInt8) (a b : Int) : B64 (oNum (vOp w a b)) := by
  unfold vOp
  repeat' split
  all_goals first | exact told_b64 _ | exact b_tru _ | exact b_zero
theorem b_do (w : List UInt8) (n f m g : Int) : B64 (doNum w n f m g) := by
  unfold doNum
  split
  · exact b_op _ _ _
  · exact b_zero
theorem b_at {x y : Int} : ∀ {l : List Cel} {v : Int × Int}, (∀ q ∈ l, B64 q.n) → cAt x y l = some v → B64 v.1
  | [], v, _, h => by cases h
  | q :: l, v, hc, h => by
    rw [cAt] at h
    by_cases hp : q.c = x ∧ q.r = y
    · rw [if_pos hp] at h
      cases h
      unfold aloneV
      split
      · exact hc q (List.mem_cons_self ..)
      · exact b_zero
    · rw [if_neg hp] at h; exact b_at (fun p hp => hc p (List.mem_cons_of_mem _ hp)) h
theorem b_val {x y : Int} {l : List Cel} (hc : ∀ q ∈ l, B64 q.n) : B64 (cVal x y l).1 := by
  unfold cVal
  cases h : cAt x y l with
  | none => exact b_zero
  | some v => exact b_at hc h
theorem b_get {l : List (Int × Int)} (h : ∀ q ∈ l, B64 q.1) (i : Nat) : B64 (l.getD i (0, 0)).1 := by
  rw [List.getD_eq_getElem?_getD]
  cases hi : l[i]? with
  | none => exact b_zero
  | some v => exact h v (List.mem_of_getElem? hi)
theorem b_most {G : Int → Int → Int × Int} (hG : StaysV G) {l : List (Int × Int)} (h : ∀ q ∈ l, B64 q.1) : B64 (mostV G l).1 := by
  unfold mostV
  refine all_b64 hG l _ ?_ h
  cases l with
  | nil => exact b_zero
  | cons a b => exact h a (List.mem_cons_self ..)
theorem b_in {l : List Cel} (hc : ∀ q ∈ l, B64 q.n) {a b c d : Int} : ∀ q ∈ cIn l a b c d, B64 q.1 := fun q hq => by
  unfold cIn at hq
  obtain ⟨p, _, hp⟩ := List.mem_filterMap.1 hq
  exact b_at hc hp
theorem b_num {n c r d s : Int} {w : List UInt8} {ks : List Tr} (hm : mayB (.mk 0 n c r d s w ks) = true) (hf : n ≤ 9223372036854775807) : B64 n := by
  rw [mayB, if_pos rfl] at hm
  have := (Bool.and_eq_true _ _ ▸ hm).2
  have h0 : 0 ≤ n := of_decide_eq_true this
  unfold B64; omega
theorem cnt_pos : ∀ t : Tr, 1 ≤ cntT t
  | .mk _ _ _ _ _ _ _ ks => by rw [cntT]; omega
theorem cnt_len : ∀ ks : List Tr, ks.length ≤ cntL ks
  | [] => Nat.zero_le _
  | t :: ts => by have h1 := cnt_pos t; have h2 := cnt_len ts; rw [cntL, List.length_cons]; omega
mutual
theorem b_cm {l : List Cel} (hc : ∀ q ∈ l, B64 q.n) : ∀ t : Tr, mayB t = true → Fit t → cntT t ≤ 1000000 → B64 (cmT l t).1
  | .mk k n c r d s w ks, hm, .mk hn hf, hw0 => by
    have hw : cntL ks ≤ 1000000 := by rw [cntT] at hw0; omega
    have hl := cnt_len ks
    have hk : ∀ u ∈ ks, mayB u = true := may_kids hm
    have h1 := b_cmL hc ks hk hf hw
    have h2 := b_itL hc ks hk hf hw
    have h3 := itL_le l ks
    rw [cmT]
    repeat' split
    all_goals first
      | (rename_i e; subst e; exact b_num hm hn)
      | exact b_zero
      | exact b_val hc
      | exact b_do _ _ _ _ _
      | exact b_get h1 _
      | exact all_b64 gAdd_stays _ _ b_zero h2
      | exact b_most gLow_stays h2
      | exact b_most gTop_stays h2
      | (unfold B64; show _ ≤ ((itL l ks).length : Int) ∧ ((itL l ks).length : Int) ≤ _; omega)
theorem b_cmL {l : List Cel} (hc : ∀ q ∈ l, B64 q.n) : ∀ ks : List Tr, (∀ u ∈ ks, mayB u = true) → (∀ u ∈ ks, Fit u) → cntL ks ≤ 1000000 → ∀ q ∈ cmL l ks, B64 q.1
  | [], _, _, _, q, h => by rw [cmL] at h; cases h
  | t :: ts, hm, hf, hw, q, h => by
    rw [cmL] at h
    rcases List.mem_cons.1 h with rfl | h
    · exact b_cm hc t (hm t (List.mem_cons_self ..)) (hf t (List.mem_cons_self ..)) (by rw [cntL] at hw; omega)
    · exact b_cmL hc ts (fun u hu => hm u (List.mem_cons_of_mem _ hu)) (fun u hu => hf u (List.mem_cons_of_mem _ hu)) (by rw [cntL] at hw; omega) q h
theorem b_itL {l : List Cel} (hc : ∀ q ∈ l, B64 q.n) : ∀ ks : List Tr, (∀ u ∈ ks, mayB u = true) → (∀ u ∈ ks, Fit u) → cntL ks ≤ 1000000 → ∀ q ∈ itL l ks, B64 q.1
  | [], _, _, _, q, h => by rw [itL] at h; cases h
  | t :: ts, hm, hf, hw, q, h => by
    rw [itL] at h
    rcases List.mem_append.1 h with h | h
    · split at h
      · exact b_in hc q h
      · rw [List.mem_singleton.1 h]; exact b_cm hc t (hm t (List.mem_cons_self ..)) (hf t (List.mem_cons_self ..)) (by rw [cntL] at hw; omega)
    · exact b_itL hc ts (fun u hu => hm u (List.mem_cons_of_mem _ hu)) (fun u hu => hf u (List.mem_cons_of_mem _ hu)) (by rw [cntL] at hw; omega) q h
end
end Go.Proofs.YthaoalmhhgllmaaGreatDoor
namespace Go.Proofs.YthaoalmhhgllmaaGreatDoor
open Go.RowKit
theorem par8 {w w1 : World} {v0 v1 v2 v3 v4 v5 v6 v7 : Value} (hb : Below (w.heap.size + 1 + 1) ((w.alloc (.cells #[v0, v1, v2, v3, v4, v5, v6, v7] 29)).alloc (.cells #[.int .i64 0, .int .i64 0] 35)) w1) :
    (w1.cell? ⟨w.heap.size, 0, none⟩ = some v0 ∧ w1.cell? ⟨w.heap.size, 1, none⟩ = some v1 ∧ w1.cell? ⟨w.heap.size, 2, none⟩ = some v2 ∧ w1.cell? ⟨w.heap.size, 3, none⟩ = some v3 ∧ w1.cell? ⟨w.heap.size, 4, none⟩ = some v4 ∧ w1.cell? ⟨w.heap.size, 5, none⟩ = some v5 ∧ w1.cell? ⟨w.heap.size, 6, none⟩ = some v6 ∧ w1.cell? ⟨w.heap.size, 7, none⟩ = some v7) ∧
    (w1.cell? ⟨w.heap.size + 1, 0, none⟩ = some (.int .i64 0) ∧ w1.cell? ⟨w.heap.size + 1, 1, none⟩ = some (.int .i64 0) ∧ w1.frozen? ⟨w.heap.size + 1, 0, none⟩ = false ∧ w1.frozen? ⟨w.heap.size + 1, 1, none⟩ = false) ∧ w.heap.size < w1.heap.size ∧ w.heap.size + 1 < w1.heap.size ∧ Below w.heap.size w w1 := by
  have hs := hb.size
  simp at hs
  have c : ∀ (i : Nat) (v : Value), ((w.alloc (.cells #[v0, v1, v2, v3, v4, v5, v6, v7] 29)).alloc (.cells #[.int .i64 0, .int .i64 0] 35)).cell? ⟨w.heap.size, i, none⟩ = some v → w1.cell? ⟨w.heap.size, i, none⟩ = some v := fun i v h => by rw [hb.cell (by simp; omega)]; exact h
  refine ⟨⟨c _ _ ?_, c _ _ ?_, c _ _ ?_, c _ _ ?_, c _ _ ?_, c _ _ ?_, c _ _ ?_, c _ _ ?_⟩, ⟨?_, ?_, ?_, ?_⟩, by omega, by omega, (((Below.refl _ _).alloc (Nat.le_refl _) _).alloc (by simp) _).trans (hb.mono (by omega))⟩
  all_goals first | (simp [go_sem]; done) | (rw [hb.cell (by simp)]; simp [go_sem]; done) | (rw [hb.frozen (by simp)]; simp [go_sem])
structure GE (t : Tr) : Prop where
  may : mayB t = true
  fit : Fit t
  cnt : cntT t ≤ 1000000
theorem GE.kid {t u : Tr} (h : GE t) (hu : u ∈ t.kids) : GE u := by
  obtain ⟨k, n, c, r, d, s, w, ks⟩ := t
  have hc := h.cnt
  rw [cntT] at hc
  refine ⟨may_kids h.may u hu, by have hf := h.fit; cases hf with | mk _ hf => exact hf u hu, ?_⟩
  have : ∀ ks : List Tr, u ∈ ks → cntT u ≤ cntL ks := by
    intro ks
    induction ks with
    | nil => intro h; cases h
    | cons a b ih =>
      intro h
      rw [cntL]
      rcases List.mem_cons.1 h with rfl | h
      · omega
      · have := ih h; omega
  have := this ks hu
  omega
theorem GE.len {t : Tr} (h : GE t) : t.kids.length ≤ 1000000 := by
  obtain ⟨k, n, c, r, d, s, w, ks⟩ := t
  have hc := h.cnt
  rw [cntT] at hc
  have := cnt_len ks
  show ks.length ≤ _
  omega
theorem GE.b64 {t : Tr} (h : GE t) {l : List Cel} (hc : ∀ q ∈ l, B64 q.n) : B64 (cmT l t).1 := b_cm hc t h.may h.fit h.cnt
theorem GE.itB {t : Tr} (h : GE t) {l : List Cel} (hc : ∀ q ∈ l, B64 q.n) : ∀ q ∈ itL l t.kids, B64 q.1 := by
  obtain ⟨k, n, c, r, d, s, w, ks⟩ := t
  have hcn := h.cnt
  rw [cntT] at hcn
  have hf := h.fit
  cases hf with
  | mk _ hf => exact b_itL hc ks (may_kids h.may) hf (show cntL ks ≤ 1000000 by omega)
theorem GE.itLen {t : Tr} (h : GE t) (l : List Cel) : (itL l t.kids).length ≤ maxLen := by
  have h1 := itL_le l t.kids
  have h2 := h.len
  unfold maxLen; omega
theorem any_yes {ks : List Tr} {i : Nat} {u : Tr} (h : ks[i]? = some u) (hk : (u.kind == 2) = true) : (ks.any fun u => u.kind == 2) = true := List.any_eq_true.2 ⟨u, List.mem_of_getElem? h, hk⟩
theorem any_no {ks : List Tr} {i : Nat} {u : Tr} (h : ks[i]? = some u) (hp : ((ks.take i).any fun u => u.kind == 2) = false) (hk : (u.kind == 2) = false) : ((ks.take (i + 1)).any fun u => u.kind == 2) = false := by
  rw [List.take_add_one, h, List.any_append, hp]
  show (false || ([u].any fun u => u.kind == 2)) = false
  rw [List.any_cons, hk]; rfl
end Go.Proofs.YthaoalmhhgllmaaGreatDoor
namespace Go.Proofs.YthaoalmhhgllmaaGreatDoor
open Go.RowKit
set_option maxHeartbeats 2000000 in
set_option maxRecDepth 10000 in
theorem rdeep_any : ∀ (d : Nat) (t : Tr), deepT t ≤ d → d ≤ 1000000000 → Wid t → ∀ (w : World) (P : Nat → Prop) (A : Option Addr) (cap : Nat), KV w P t A →
    Calls Tryz.prog 20 #[tv t A cap] w fun e w' => e = .returned (.int .i64 (deepT t : Int)) ∧ Below w.heap.size w w' := by
  intro d
  induction d with
  | zero => intro t h; rw [deep_eq] at h; omega
  | succ d ih =>
    intro t hd hb hw w P A cap hk
    unfold tv
    have hlen := hw.len
    unfold maxLen at hlen
    have HW := Lib.hid hw
    have HK := Lib.hid hk
    have HI := Lib.hid ih
    have HE := Lib.hid (deep_eq t)
    have hdl : deepL t.kids ≤ d := by rw [deep_eq] at hd; omega
    clear hk hd ih hw
    go_enter Tryz.func20, Tryz.ntmps20
    go_wp2_with fail
    go_loopw [3, 4] (fun vn vi wr => ∃ i : Nat, i ≤ t.kids.length ∧ vn = .int .i64 (deepL (t.kids.take i) : Int) ∧ vi = .int .i64 (i : Int) ∧ Below w.heap.size w wr ∧ w.heap.size < wr.heap.size ∧ wr.cell? ⟨w.heap.size, 7, none⟩ = some (.slice A t.kids.length cap)) (fun _ vi _ => t.kids.length - (intOf vi).toNat)
    case atStart => exact ⟨0, Nat.zero_le _, by rw [List.take_zero, deepL]; rfl, rfl, (Below.refl _ _).alloc (Nat.le_refl _) _, by simp, by simp [go_sem]⟩
    case round =>
      obtain ⟨i, hi, rfl, rfl, hbel, hsz, c7⟩ := hrel
      have htl := deep_take_le t.kids i
      by_cases hlt : i < t.kids.length
      · have hu : t.kids[i]? = some (t.kids[i]'hlt) := List.getElem?_eq_getElem hlt
        obtain ⟨g, o, rfl⟩ := HK.out.addr hu
        obtain ⟨hg, A', cap', h8, hkv⟩ := HK.out.kidAt hbel hu
        have htk := Lib.hid (deep_take hu)
        have hdu := deep_kid hu
        have HC := Lib.hid (HI.out _ (Nat.le_trans hdu hdl) (by omega) (HW.out.kid hu) wr _ A' cap' hkv)
        generalize t.kids[i]'hlt = u at *
        unfold At8 at h8
        unfold tv at HC
        obtain ⟨q0, q1, q2, q3, q4, q5, q6, q7⟩ := h8
        clear hkv hu
        go_wp2_with fail
        refine HC.out.mono ?_; rintro e w1 ⟨rfl, b1⟩
        have e7 := keep_cell b1 c7
        have s7 : w.heap.size < w1.heap.size := Nat.lt_of_lt_of_le hsz b1.size
        have hb1 := hbel.trans (b1.mono hbel.size)
        clear b1 c7 q0 q1 q2 q3 q4 q5 q6 q7
        go_wp2_with fail
        go_roundw
        case rel => exact ⟨i + 1, by omega, by rw [htk.out]; congr 1; omega, by go_num, hb1, s7, e7⟩
        case measure => simp [intOf]; omega
      · have hii : i = t.kids.length := by omega
        subst hii
        rw [List.take_length] at *
        have hw : wrap64 ((deepL t.kids : Int) + 1) = (deepL t.kids : Int) + 1 := IntWalk.wrap64_in _ (by omega)
        go_wp2_with fail
        go_ret
        exact ⟨ret_int (by have := HE.out; omega), hbel⟩
end Go.Proofs.YthaoalmhhgllmaaGreatDoor
namespace Go.Proofs.YthaoalmhhgllmaaGreatDoor
open Go.RowKit
set_option maxHeartbeats 4000000 in
set_option maxRecDepth 10000 in
theorem ronly_at (t : Tr) (A : Option Addr) (cap : Nat) (n : Int) (w : World) (B0 N0 B1 B6 AT B4 B5 W0 LN : Bool) (h0 : (t.kind == 0) = B0) (hn : (t.num == 0) = N0) (h1 : (t.kind == 1) = B1) (h6 : (t.kind == 6) = B6)
    (hA : ∀ W, (binOp .eql 26 (.agg #[.int .i64 t.c1, .int .i64 t.r1, .int .i64 t.c2, .int .i64 t.r2]) (.agg #[.int .i64 0, .int .i64 0, .int .i64 0, .int .i64 0])).run Tryz.prog W = .ok (.bool AT) W)
    (h4 : (t.kind == 4) = B4) (h5 : (t.kind == 5) = B5) (hw : (t.word == []) = W0) (hl : ((t.kids.length : Int) == n) = LN) :
    Calls Tryz.prog 37 #[.agg #[.int .i64 t.kind, .int .i64 t.num, .int .i64 t.c1, .int .i64 t.r1, .int .i64 t.c2, .int .i64 t.r2, .string ⟨t.word.toArray⟩, .slice A t.kids.length cap], .int .i64 n] w fun e w' => e = .returned (.bool ((B0 || N0) && ((B1 || (B6 || AT)) && ((B4 || (B5 || W0)) && LN)))) ∧ Below w.heap.size w w' := by
  have hG := fun op X Y W => guard_range op X Y #[.int .i64 t.c1, .int .i64 t.r1, .int .i64 t.c2, .int .i64 t.r2] #[.int .i64 0, .int .i64 0, .int .i64 0, .int .i64 0] W
  cases B0 with
  | true =>
    cases B1 with
    | true =>
      cases B4 with
      | true =>
        cases LN with
        | true =>
          go_enter Tryz.func37, Tryz.ntmps37
          go_wp2_with fail
          go_ret
          exact ⟨rfl, (Below.refl _ _).alloc (Nat.le_refl _) _⟩
        | false =>
          go_enter Tryz.func37, Tryz.ntmps37
          go_wp2_with fail
          go_ret
          exact ⟨rfl, (Below.refl _ _).alloc (Nat.le_refl _) _⟩
      | false =>
        cases B5 with
        | true =>
          cases LN with
          | true =>
            go_enter Tryz.func37, Tryz.ntmps37
            go_wp2_with fail
            go_ret
            exact ⟨rfl, (Below.refl _ _).alloc (Nat.le_refl _) _⟩
          | false =>
            go_enter Tryz.func37, Tryz.ntmps37
            go_wp2_with fail
            go_ret
            exact ⟨rfl, (Below.refl _ _).alloc (Nat.le_refl _) _⟩
        | false =>
          cases W0 with
          | true =>
            cases LN with
            | true =>
              go_enter Tryz.func37, Tryz.ntmps37
              go_wp2_with fail
              go_ret
              exact ⟨rfl, (Below.refl _ _).alloc (Nat.le_refl _) _⟩
            | false =>
              go_enter Tryz.func37, Tryz.ntmps37
              go_wp2_with fail
              go_ret
              exact ⟨rfl, (Below.refl _ _).alloc (Nat.le_refl _) _⟩
          | false =>
            go_enter Tryz.func37, Tryz.ntmps37
            go_wp2_with fail
            go_ret
            exact ⟨rfl, (Below.refl _ _).alloc (Nat.le_refl _) _⟩
    | false =>
      cases B6 with
      | true =>
        cases B4 with
        | true =>
          cases LN with
          | true =>
            go_enter Tryz.func37, Tryz.ntmps37
            go_wp2_with fail
            go_ret
            exact ⟨rfl, (Below.refl _ _).alloc (Nat.le_refl _) _⟩
          | false =>
            go_enter Tryz.func37, Tryz.ntmps37
            go_wp2_with fail
            go_ret
            exact ⟨rfl, (Below.refl _ _).alloc (Nat.le_refl _) _⟩
        | false =>
          cases B5 with
          | true =>
            cases LN with
            | true =>
              go_enter Tryz.func37, Tryz.ntmps37
              go_wp2_with fail
              go_ret
              exact ⟨rfl, (Below.refl _ _).alloc (Nat.le_refl _) _⟩
            | false =>
              go_enter Tryz.func37, Tryz.ntmps37
              go_wp2_with fail
              go_ret
              exact ⟨rfl, (Below.refl _ _).alloc (Nat.le_refl _) _⟩
          | false =>
            cases W0 with
            | true =>
              cases LN with
              | true =>
                go_enter Tryz.func37, Tryz.ntmps37
                go_wp2_with fail
                go_ret
                exact ⟨rfl, (Below.refl _ _).alloc (Nat.le_refl _) _⟩
              | false =>
                go_enter Tryz.func37, Tryz.ntmps37
                go_wp2_with fail
                go_ret
                exact ⟨rfl, (Below.refl _ _).alloc (Nat.le_refl _) _⟩
            | false =>
              go_enter Tryz.func37, Tryz.ntmps37
              go_wp2_with fail
              go_ret
              exact ⟨rfl, (Below.refl _ _).alloc (Nat.le_refl _) _⟩
      | false =>
        cases AT with
        | true =>
          cases B4 with
          | true =>
            cases LN with
            | true =>
              go_enter Tryz.func37, Tryz.ntmps37
              go_wp2_with fail
              go_ret
              exact ⟨rfl, (Below.refl _ _).alloc (Nat.le_refl _) _⟩
            | false =>
              go_enter Tryz.func37, Tryz.ntmps37
              go_wp2_with fail
              go_ret
              exact ⟨rfl, (Below.refl _ _).alloc (Nat.le_refl _) _⟩
          | false =>
            cases B5 with
            | true =>
              cases LN with
              | true =>
                go_enter Tryz.func37, Tryz.ntmps37
                go_wp2_with fail
                go_ret
                exact ⟨rfl, (Below.refl _ _).alloc (Nat.le_refl _) _⟩
              | false =>
                go_enter Tryz.func37, Tryz.ntmps37
                go_wp2_with fail
                go_ret
                exact ⟨rfl, (Below.refl _ _).alloc (Nat.le_refl _) _⟩
            | false =>
              cases W0 with
              | true =>
                cases LN with
                | true =>
                  go_enter Tryz.func37, Tryz.ntmps37
                  go_wp2_with fail
                  go_ret
                  exact ⟨rfl, (Below.refl _ _).alloc (Nat.le_refl _) _⟩
                | false =>
                  go_enter Tryz.func37, Tryz.ntmps37
                  go_wp2_with fail
                  go_ret
                  exact ⟨rfl, (Below.refl _ _).alloc (Nat.le_refl _) _⟩
              | false =>
                go_enter Tryz.func37, Tryz.ntmps37
                go_wp2_with fail
                go_ret
                exact ⟨rfl, (Below.refl _ _).alloc (Nat.le_refl _) _⟩
        | false =>
          go_enter Tryz.func37, Tryz.ntmps37
          go_wp2_with fail
          go_ret
          exact ⟨rfl, (Below.refl _ _).alloc (Nat.le_refl _) _⟩
  | false =>
    cases N0 with
    | true =>
      cases B1 with
      | true =>
        cases B4 with
        | true =>
          cases LN with
          | true =>
            go_enter Tryz.func37, Tryz.ntmps37
            go_wp2_with fail
            go_ret
            exact ⟨rfl, (Below.refl _ _).alloc (Nat.le_refl _) _⟩
          | false =>
            go_enter Tryz.func37, Tryz.ntmps37
            go_wp2_with fail
            go_ret
            exact ⟨rfl, (Below.refl _ _).alloc (Nat.le_refl _) _⟩
        | false =>
          cases B5 with
          | true =>
            cases LN with
            | true =>
              go_enter Tryz.func37, Tryz.ntmps37
              go_wp2_with fail
              go_ret
              exact ⟨rfl, (Below.refl _ _).alloc (Nat.le_refl _) _⟩
            | false =>
              go_enter Tryz.func37, Tryz.ntmps37
              go_wp2_with fail
              go_ret
              exact ⟨rfl, (Below.refl _ _).alloc (Nat.le_refl _) _⟩
          | false =>
            cases W0 with
            | true =>
              cases LN with
              | true =>
                go_enter Tryz.func37, Tryz.ntmps37
                go_wp2_with fail
                go_ret
                exact ⟨rfl, (Below.refl _ _).alloc (Nat.le_refl _) _⟩
              | false =>
                go_enter Tryz.func37, Tryz.ntmps37
                go_wp2_with fail
                go_ret
                exact ⟨rfl, (Below.refl _ _).alloc (Nat.le_refl _) _⟩
            | false =>
              go_enter Tryz.func37, Tryz.ntmps37
              go_wp2_with fail
              go_ret
              exact ⟨rfl, (Below.refl _ _).alloc (Nat.le_refl _) _⟩
      | false =>
        cases B6 with
        | true =>
          cases B4 with
          | true =>
            cases LN with
            | true =>
              go_enter Tryz.func37, Tryz.ntmps37
              go_wp2_with fail
              go_ret
              exact ⟨rfl, (Below.refl _ _).alloc (Nat.le_refl _) _⟩
            | false =>
              go_enter Tryz.func37, Tryz.ntmps37
              go_wp2_with fail
              go_ret
              exact ⟨rfl, (Below.refl _ _).alloc (Nat.le_refl _) _⟩
          | false =>
            cases B5 with
            | true =>
              cases LN with
              | true =>
                go_enter Tryz.func37, Tryz.ntmps37
                go_wp2_with fail
                go_ret
                exact ⟨rfl, (Below.refl _ _).alloc (Nat.le_refl _) _⟩
              | false =>
                go_enter Tryz.func37, Tryz.ntmps37
                go_wp2_with fail
                go_ret
                exact ⟨rfl, (Below.refl _ _).alloc (Nat.le_refl _) _⟩
            | false =>
              cases W0 with
              | true =>
                cases LN with
                | true =>
                  go_enter Tryz.func37, Tryz.ntmps37
                  go_wp2_with fail
                  go_ret
                  exact ⟨rfl, (Below.refl _ _).alloc (Nat.le_refl _) _⟩
                | false =>
                  go_enter Tryz.func37, Tryz.ntmps37
                  go_wp2_with fail
                  go_ret
                  exact ⟨rfl, (Below.refl _ _).alloc (Nat.le_refl _) _⟩
              | false =>
                go_enter Tryz.func37, Tryz.ntmps37
                go_wp2_with fail
                go_ret
                exact ⟨rfl, (Below.refl _ _).alloc (Nat.le_refl _) _⟩
        | false =>
          cases AT with
          | true =>
            cases B4 with
            | true =>
              cases LN with
              | true =>
                go_enter Tryz.func37, Tryz.ntmps37
                go_wp2_with fail
                go_ret
                exact ⟨rfl, (Below.refl _ _).alloc (Nat.le_refl _) _⟩
              | false =>
                go_enter Tryz.func37, Tryz.ntmps37
                go_wp2_with fail
                go_ret
                exact ⟨rfl, (Below.refl _ _).alloc (Nat.le_refl _) _⟩
            | false =>
              cases B5 with
              | true =>
                cases LN with
                | true =>
                  go_enter Tryz.func37, Tryz.ntmps37
                  go_wp2_with fail
                  go_ret
                  exact ⟨rfl, (Below.refl _ _).alloc (Nat.le_refl _) _⟩
                | false =>
                  go_enter Tryz.func37, Tryz.ntmps37
                  go_wp2_with fail
                  go_ret
                  exact ⟨rfl, (Below.refl _ _).alloc (Nat.le_refl _) _⟩
              | false =>
                cases W0 with
                | true =>
                  cases LN with
                  | true =>
                    go_enter Tryz.func37, Tryz.ntmps37
                    go_wp2_with fail
                    go_ret
                    exact ⟨rfl, (Below.refl _ _).alloc (Nat.le_refl _) _⟩
                  | false =>
                    go_enter Tryz.func37, Tryz.ntmps37
                    go_wp2_with fail
                    go_ret
                    exact ⟨rfl, (Below.refl _ _).alloc (Nat.le_refl _) _⟩
                | false =>
                  go_enter Tryz.func37, Tryz.ntmps37
                  go_wp2_with fail
                  go_ret
                  exact ⟨rfl, (Below.refl _ _).alloc (Nat.le_refl _) _⟩
          | false =>
            go_enter Tryz.func37, Tryz.ntmps37
            go_wp2_with fail
            go_ret
            exact ⟨rfl, (Below.refl _ _).alloc (Nat.le_refl _) _⟩
    | false =>
      go_enter Tryz.func37, Tryz.ntmps37
      go_wp2_with fail
      go_ret
      exact ⟨rfl, (Below.refl _ _).alloc (Nat.le_refl _) _⟩
theorem ronly_any (t : Tr) (A : Option Addr) (cap n : Nat) (w : World) :
    Calls Tryz.prog 37 #[tv t A cap, .int .i64 (n : Int)] w fun e w' => e = .returned (.bool (onlyB t n)) ∧ Below w.heap.size w w' := by
  refine (ronly_at t A cap (n : Int) w _ _ _ _ _ _ _ _ _ rfl rfl rfl rfl (fun W => eql_range _ _ _ _ _ _ _ _ W) rfl rfl rfl rfl).mono fun e w' ⟨he, hb⟩ => ⟨he.trans (ret_bool ?_), hb⟩
  cases t with
  | mk k num c r d s wd ks =>
    unfold onlyB
    simp only [Tr.kind, Tr.num, Tr.c1, Tr.r1, Tr.c2, Tr.r2, Tr.word, Tr.kids]
    have e : ((ks.length : Int) == (n : Int)) = (ks.length == n) := by rw [Bool.eq_iff_iff, beq_iff_eq, beq_iff_eq]; omega
    rw [e]
    simp only [Bool.or_assoc, Bool.and_assoc]
end Go.Proofs.YthaoalmhhgllmaaGreatDoor
