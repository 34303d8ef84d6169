/- Texts joined: VaC, NumA, UaA, UaB, UaC. -/
import Derived.Test.YthaoalmhhgllmaaGreatDoorMa01
import Derived.Test.YthaoalmhhgllmaaGreatDoorProg
import Derived.WalkKit
import Derived.WalkSpells
import Derived.WalkLawsBesides
import Derived.Lib.Hide
import Derived.Deep.RegionWith
import Derived.WalkSmall
import Derived.Shelf.Abstract
set_option linter.all false
set_option linter.unusedVariables false
set_option linter.unusedSimpArgs false
namespace Go.Proofs.YthaoalmhhgllmaaGreatDoor
open Go.RowKit

def doNum (l : List UInt8) (n f m g : Int) : Int := if f = 0 ∧ g = 0 then oNum (vOp l n m) else 0
def doFault (l : List UInt8) (n f m g : Int) : Int := if (vOp l n m).isSome = true then (if f = 0 then (if g = 0 then oFault (vOp l n m) else g) else f) else 0

theorem ret_value {a b c d : Int} {t : Bool} (h : a = c) (k : b = d) : Ending.returned (.tuple #[.agg #[.int .i64 a, .int .i64 b], .bool t]) = .returned (.tuple #[.agg #[.int .i64 c, .int .i64 d], .bool t]) := by rw [h, k]

set_option maxHeartbeats 1000000 in
theorem vdo_any (s : ByteArray) (n f m g : Int) (hn : B64 n) (hm : B64 m) (w : World) :
    Calls Tryz.prog 35 #[.string s, .agg #[.int .i64 n, .int .i64 f], .agg #[.int .i64 m, .int .i64 g]] w fun e w' =>
      e = .returned (.tuple #[.agg #[.int .i64 (doNum s.data.toList n f m g), .int .i64 (doFault s.data.toList n f m g)], .bool (vOp s.data.toList n m).isSome]) ∧ Below w.heap.size w w' := by
  have H := Lib.hid (numbers_any s n m hn hm)
  unfold NumbersC at H
  have hX : vOp s.data.toList n m = none → oNum (vOp s.data.toList n m) = 0 := fun h => by rw [h]; rfl
  unfold doNum doFault
  have hZ : (vOp s.data.toList n m).isSome = false → oNum (vOp s.data.toList n m) = 0 := fun h => hX (by cases ho : vOp s.data.toList n m with | none => rfl | some p => rw [ho] at h; cases h)
  clear hX hn hm
  generalize oNum (vOp s.data.toList n m) = X at *
  generalize oFault (vOp s.data.toList n m) = Y at *
  generalize (vOp s.data.toList n m).isSome = Z at *
  have HZ := Lib.hid hZ
  clear hZ
  cases Z with
  | false =>
    have hx0 := HZ.out rfl
    subst hx0
    have e1 : (if f = 0 ∧ g = 0 then (0 : Int) else 0) = 0 := by split <;> rfl
    rw [e1]
    clear e1
    go_enter Tryz.func35, Tryz.ntmps35
    go_wp2_with fail
    refine (H.out _).mono ?_; rintro e w1 ⟨rfl, b1⟩
    have k0 := keep_cell b1 (p := ⟨w.heap.size + 1 + 1, 0, none⟩) (v := .int .i64 0) (by simp [go_sem])
    have k1 := keep_cell b1 (p := ⟨w.heap.size + 1 + 1, 1, none⟩) (v := .int .i64 0) (by simp [go_sem])
    have f0 := keep_frozen b1 (p := ⟨w.heap.size + 1 + 1, 0, none⟩) (by simp) (by simp [go_sem])
    have f1 := keep_frozen b1 (p := ⟨w.heap.size + 1 + 1, 1, none⟩) (by simp) (by simp [go_sem])
    have z1 : w.heap.size + 1 + 1 < w1.heap.size := by have := b1.size; simp at this; omega
    have h1 : Below w.heap.size w w1 := ((((Below.refl _ _).alloc (Nat.le_refl _) _).alloc (by simp) _).alloc (by simp; omega) _).trans (b1.mono (by simp; omega))
    clear b1
    go_wp2_with fail
    exact bodyPost_ret (v := .tuple #[.agg #[.int .i64 0, .int .i64 0], .bool false]) (by simp [results, Tryz.results35, go_sem, k0, k1, z1]) rfl
      ⟨rfl, ((h1.setCell (by simp; omega) _).setCell (by simp; omega) _).alloc (by simpa using h1.size) _⟩
  | true =>
    have HR : Hid ((if f = 0 ∧ g = 0 then X else 0) = (if f = 0 then (if g = 0 then X else 0) else 0)) := Lib.hid (by by_cases a : f = 0 <;> by_cases b : g = 0 <;> simp [a, b])
    rw [HR.out]
    clear HR HZ
    by_cases hf : f = 0
    · subst hf
      by_cases hg : g = 0
      · subst hg
        go_enter Tryz.func35, Tryz.ntmps35
        go_wp2_with fail
        refine (H.out _).mono ?_; rintro e w1 ⟨rfl, b1⟩
        have k0 := keep_cell b1 (p := ⟨w.heap.size + 1 + 1, 0, none⟩) (v := .int .i64 0) (by simp [go_sem])
        have k1 := keep_cell b1 (p := ⟨w.heap.size + 1 + 1, 1, none⟩) (v := .int .i64 0) (by simp [go_sem])
        have k2 := keep_cell b1 (p := ⟨w.heap.size, 1, none⟩) (v := .int .i64 0) (by simp [go_sem])
        have k3 := keep_cell b1 (p := ⟨w.heap.size + 1, 1, none⟩) (v := .int .i64 0) (by simp [go_sem])
        have f0 := keep_frozen b1 (p := ⟨w.heap.size + 1 + 1, 0, none⟩) (by simp) (by simp [go_sem])
        have f1 := keep_frozen b1 (p := ⟨w.heap.size + 1 + 1, 1, none⟩) (by simp) (by simp [go_sem])
        have z1 : w.heap.size + 1 + 1 < w1.heap.size := by have := b1.size; simp at this; omega
        have z2 : w.heap.size + 1 < w1.heap.size := by omega
        have z3 : w.heap.size < w1.heap.size := by omega
        have h1 : Below w.heap.size w w1 := ((((Below.refl _ _).alloc (Nat.le_refl _) _).alloc (by simp) _).alloc (by simp; omega) _).trans (b1.mono (by simp; omega))
        clear b1
        go_wp2_with fail
        exact bodyPost_ret (v := .tuple #[.agg #[.int .i64 X, .int .i64 Y], .bool true]) (by simp [results, Tryz.results35, go_sem, k0, k1, z1]) rfl
          ⟨rfl, ((h1.setCell (by simp; omega) _).setCell (by simp; omega) _).alloc (by simpa using h1.size) _⟩
      · have d2 : (g != 0) = true := by rw [bne_iff_ne]; exact hg
        rw [if_pos rfl, if_neg hg, if_pos rfl, if_pos rfl, if_neg hg]
        clear hg
        go_enter Tryz.func35, Tryz.ntmps35
        go_wp2_with fail
        refine (H.out _).mono ?_; rintro e w1 ⟨rfl, b1⟩
        have k0 := keep_cell b1 (p := ⟨w.heap.size + 1 + 1, 0, none⟩) (v := .int .i64 0) (by simp [go_sem])
        have k1 := keep_cell b1 (p := ⟨w.heap.size + 1 + 1, 1, none⟩) (v := .int .i64 0) (by simp [go_sem])
        have k2 := keep_cell b1 (p := ⟨w.heap.size, 1, none⟩) (v := .int .i64 0) (by simp [go_sem])
        have k3 := keep_cell b1 (p := ⟨w.heap.size + 1, 1, none⟩) (v := .int .i64 g) (by simp [go_sem])
        have f0 := keep_frozen b1 (p := ⟨w.heap.size + 1 + 1, 0, none⟩) (by simp) (by simp [go_sem])
        have f1 := keep_frozen b1 (p := ⟨w.heap.size + 1 + 1, 1, none⟩) (by simp) (by simp [go_sem])
        have z1 : w.heap.size + 1 + 1 < w1.heap.size := by have := b1.size; simp at this; omega
        have z2 : w.heap.size + 1 < w1.heap.size := by omega
        have z3 : w.heap.size < w1.heap.size := by omega
        have h1 : Below w.heap.size w w1 := ((((Below.refl _ _).alloc (Nat.le_refl _) _).alloc (by simp) _).alloc (by simp; omega) _).trans (b1.mono (by simp; omega))
        clear b1
        go_wp2_with fail
        exact bodyPost_ret (v := .tuple #[.agg #[.int .i64 0, .int .i64 g], .bool true]) (by simp [results, Tryz.results35, go_sem, k0, k1, z1]) rfl
          ⟨rfl, ((h1.setCell (by simp; omega) _).setCell (by simp; omega) _).alloc (by simpa using h1.size) _⟩
    · have d2 : (f != 0) = true := by rw [bne_iff_ne]; exact hf
      rw [if_neg hf, if_pos rfl, if_neg hf]
      clear hf
      go_enter Tryz.func35, Tryz.ntmps35
      go_wp2_with fail
      refine (H.out _).mono ?_; rintro e w1 ⟨rfl, b1⟩
      have k0 := keep_cell b1 (p := ⟨w.heap.size + 1 + 1, 0, none⟩) (v := .int .i64 0) (by simp [go_sem])
      have k1 := keep_cell b1 (p := ⟨w.heap.size + 1 + 1, 1, none⟩) (v := .int .i64 0) (by simp [go_sem])
      have k2 := keep_cell b1 (p := ⟨w.heap.size, 1, none⟩) (v := .int .i64 f) (by simp [go_sem])
      have f0 := keep_frozen b1 (p := ⟨w.heap.size + 1 + 1, 0, none⟩) (by simp) (by simp [go_sem])
      have f1 := keep_frozen b1 (p := ⟨w.heap.size + 1 + 1, 1, none⟩) (by simp) (by simp [go_sem])
      have z1 : w.heap.size + 1 + 1 < w1.heap.size := by have := b1.size; simp at this; omega
      have z3 : w.heap.size < w1.heap.size := by omega
      have h1 : Below w.heap.size w w1 := ((((Below.refl _ _).alloc (Nat.le_refl _) _).alloc (by simp) _).alloc (by simp; omega) _).trans (b1.mono (by simp; omega))
      clear b1
      go_wp2_with fail
      exact bodyPost_ret (v := .tuple #[.agg #[.int .i64 0, .int .i64 f], .bool true]) (by simp [results, Tryz.results35, go_sem, k0, k1, z1]) rfl
        ⟨rfl, ((h1.setCell (by simp; omega) _).setCell (by simp; omega) _).alloc (by simpa using h1.size) _⟩

set_option maxHeartbeats 400000 in
theorem vneg_any (n f : Int) (hn : B64 n) (w : World) :
    Calls Tryz.prog 34 #[.agg #[.int .i64 n, .int .i64 f]] w fun e w' => e = .returned (.agg #[.int .i64 (doNum [45] 0 0 n f), .int .i64 (doFault [45] 0 0 n f)]) ∧ Below w.heap.size w w' := by
  have H := Lib.hid (vdo_any ⟨#[45]⟩ 0 0 n f (by unfold B64; omega) hn)
  clear hn
  rw [show (⟨#[45]⟩ : ByteArray).data.toList = [45] from rfl] at H
  generalize doNum [45] 0 0 n f = X at *
  generalize doFault [45] 0 0 n f = Y at *
  go_enter Tryz.func34, Tryz.ntmps34
  go_wp2_with fail
  refine (H.out _).mono ?_; rintro e w1 ⟨rfl, b1⟩
  have k0 := keep_cell b1 (p := ⟨w.heap.size + 1, 0, none⟩) (v := .int .i64 0) (by simp [go_sem])
  have k1 := keep_cell b1 (p := ⟨w.heap.size + 1, 1, none⟩) (v := .int .i64 0) (by simp [go_sem])
  have f0 := keep_frozen b1 (p := ⟨w.heap.size + 1, 0, none⟩) (by simp) (by simp [go_sem])
  have f1 := keep_frozen b1 (p := ⟨w.heap.size + 1, 1, none⟩) (by simp) (by simp [go_sem])
  have z1 : w.heap.size + 1 < w1.heap.size := by have := b1.size; simp at this; omega
  have h1 : Below w.heap.size w w1 := (((Below.refl _ _).alloc (Nat.le_refl _) _).alloc (by simp) _).trans (b1.mono (by simp; omega))
  clear b1
  go_wp2_with fail
  exact bodyPost_ret (v := .agg #[.int .i64 X, .int .i64 Y]) (by simp [results, Tryz.results34, go_sem, k0, k1, z1]) rfl
    ⟨rfl, ((h1.setCell (by simp) _).setCell (by simp) _).alloc (by simpa using h1.size) _⟩
end Go.Proofs.YthaoalmhhgllmaaGreatDoor
namespace Go.Proofs.YthaoalmhhgllmaaGreatDoor
open Go.RowKit


def allUpTo (bs : List Bool) (k : Nat) : Bool := (bs.take k).all id
theorem allUpTo_zero (bs : List Bool) : allUpTo bs 0 = true := rfl
theorem allUpTo_succ (bs : List Bool) (k : Nat) (h : k < bs.length) (ha : allUpTo bs k = true) (hb : bs.getD k false = true) : allUpTo bs (k + 1) = true := by
  unfold allUpTo at *
  rw [List.take_succ_eq_append_getElem h, List.all_append, ha]
  simp [List.getD_eq_getElem?_getD, h] at hb
  simp [hb]
theorem all_false (bs : List Bool) (k : Nat) (h : k < bs.length) (hb : bs.getD k false = false) : bs.all id = false := by
  simp [List.getD_eq_getElem?_getD, h] at hb
  rw [List.all_eq_false]
  exact ⟨bs[k], List.getElem_mem h, by simp [hb]⟩
theorem all_true (bs : List Bool) (k : Nat) (h : bs.length ≤ k) (ha : allUpTo bs k = true) : bs.all id = true := by
  unfold allUpTo at ha
  rwa [List.take_of_length_le h] at ha

set_option maxHeartbeats 400000 in
theorem all_any (bs : List Bool) (b : Nat) (w : World) (hn : bs.length ≤ 1000) (hc : ∀ k, k < bs.length → w.cell? ⟨b, k, none⟩ = some (.bool (bs.getD k false))) :
    Calls Tryz.prog 116 #[.slice (some ⟨b, 0, none⟩) bs.length bs.length] w fun e w' => e = .returned (.bool (bs.all id)) ∧ w = w' := by
  have HC := Lib.hid hc
  clear hc
  go_enter Tryz.func116, Tryz.ntmps116
  go_wp2
  go_loop [7] (fun i => ∃ k : Nat, k ≤ bs.length ∧ i = .int .i64 k ∧ allUpTo bs k = true) (fun i => bs.length - (intOf i).toNat)
  case atStart => exact ⟨0, Nat.zero_le _, rfl, allUpTo_zero bs⟩
  case round =>
    obtain ⟨k, hk, rfl, ha⟩ := hrel
    have HA := Lib.hid ha
    clear ha
    by_cases hlt : k < bs.length
    · have hcell := HC.out k hlt
      cases hb : bs.getD k false
      · have hf := all_false bs k hlt hb
        rw [hb] at hcell
        have HF := Lib.hid hf
        clear hf hb
        go_wp2
        go_ret
        exact ⟨ret_bool HF.out.symm, rfl⟩
      · have hs := Lib.hid (allUpTo_succ bs k hlt HA.out hb)
        rw [hb] at hcell
        clear hb
        go_wp2
        go_round
        case rel => exact ⟨k + 1, by omega, by go_num, hs.out⟩
        case measure => simp [intOf]; omega
    · have hf := Lib.hid (all_true bs k (by omega) HA.out)
      go_wp2
      go_ret
      exact ⟨ret_bool hf.out.symm, rfl⟩
theorem all3 (x y z : Bool) (b : Nat) (w : World) (h0 : w.cell? ⟨b, 0, none⟩ = some (.bool x)) (h1 : w.cell? ⟨b, 1, none⟩ = some (.bool y)) (h2 : w.cell? ⟨b, 2, none⟩ = some (.bool z)) :
    Calls Tryz.prog 116 #[.slice (some ⟨b, 0, none⟩) 3 3] w fun e w' => e = .returned (.bool (x && y && z)) ∧ w = w' := by
  have h := all_any [x, y, z] b w (by simp) (fun k hk => by
    match k, hk with
    | 0, _ => exact h0
    | 1, _ => exact h1
    | 2, _ => exact h2)
  refine Calls.mono h fun e w' ⟨he, hw⟩ => ⟨he.trans (ret_bool (by simp [Bool.and_assoc])), hw⟩
theorem all2 (x y : Bool) (b : Nat) (w : World) (h0 : w.cell? ⟨b, 0, none⟩ = some (.bool x)) (h1 : w.cell? ⟨b, 1, none⟩ = some (.bool y)) :
    Calls Tryz.prog 116 #[.slice (some ⟨b, 0, none⟩) 2 2] w fun e w' => e = .returned (.bool (x && y)) ∧ w = w' := by
  have h := all_any [x, y] b w (by simp) (fun k hk => by
    match k, hk with
    | 0, _ => exact h0
    | 1, _ => exact h1)
  refine Calls.mono h fun e w' ⟨he, hw⟩ => ⟨he.trans (ret_bool (by simp)), hw⟩

theorem fresh_cell (W : World) (vs : Array Value) (t : TypeId) (b k : Nat) (hb : W.heap.size = b) : (W.alloc (.cells vs t)).cell? ⟨b, k, none⟩ = vs[k]? := by
  subst hb
  exact cell_of_row _ _ k vs t (0, 0) (heap_alloc_new W _)
theorem all3f (x y z : Bool) (b : Nat) (W : World) (hb : W.heap.size = b) :
    Calls Tryz.prog 116 #[.slice (some ⟨b, 0, none⟩) 3 3] (W.alloc (.cells #[.bool x, .bool y, .bool z] 4)) fun e w' => e = .returned (.bool (x && y && z)) ∧ W.alloc (.cells #[.bool x, .bool y, .bool z] 4) = w' :=
  all3 x y z b _ (fresh_cell W _ 4 b 0 hb) (fresh_cell W _ 4 b 1 hb) (fresh_cell W _ 4 b 2 hb)
theorem all2f (x y : Bool) (b : Nat) (W : World) (hb : W.heap.size = b) :
    Calls Tryz.prog 116 #[.slice (some ⟨b, 0, none⟩) 2 2] (W.alloc (.cells #[.bool x, .bool y] 4)) fun e w' => e = .returned (.bool (x && y)) ∧ W.alloc (.cells #[.bool x, .bool y] 4) = w' :=
  all2 x y b _ (fresh_cell W _ 4 b 0 hb) (fresh_cell W _ 4 b 1 hb)
theorem all2fd (x y : Bool) (b : Nat) (W : World) (hb : W.heap.size = b) :
    Calls Tryz.prog 116 #[.slice (some ⟨b, 0, none⟩) 2 2] (W.alloc (.cells #[.bool x, .bool y] 4)).drew fun e w' => e = .returned (.bool (x && y)) ∧ (W.alloc (.cells #[.bool x, .bool y] 4)).drew = w' :=
  all2 x y b _ (fresh_cell W _ 4 b 0 hb) (fresh_cell W _ 4 b 1 hb)

set_option maxHeartbeats 400000 in
theorem told_any (n : Int) (x : Bool) (w : World) :
    Calls Tryz.prog 117 #[.int .i64 n, .bool x] w fun e w' => e = .returned (.tuple #[.int .i64 (keep x n), .bool x]) ∧ w = w' := by
  cases x
  · go_enter Tryz.func117, Tryz.ntmps117
    go_wp2
    go_ret2
    exact ⟨rfl, rfl⟩
  · go_enter Tryz.func117, Tryz.ntmps117
    go_wp2
    go_ret2
    exact ⟨rfl, rfl⟩

set_option maxHeartbeats 400000 in
theorem add_any (a b : Int) (ha : B64 a) (hb : B64 b) (w : World) :
    Calls Tryz.prog 118 #[.int .i64 a, .int .i64 b] w fun e w' => e = .returned (.tuple #[.int .i64 (keep (inI (a + b)) (a + b)), .bool (inI (a + b))]) ∧ Below w.heap.size w w' := by
  have HF := Lib.hid (add_is a b ha hb)
  clear ha hb
  go_enter Tryz.func118, Tryz.ntmps118
  go_wp2_with fail
  refine (all3f _ _ _ _ _ rfl).mono ?_
  rintro e w1 ⟨rfl, rfl⟩
  go_wp2_with fail
  refine (all3f _ _ _ _ _ (by simp)).mono ?_
  rintro e w1 ⟨rfl, rfl⟩
  go_wp2_with fail
  refine (all2f _ _ _ _ (by simp)).mono ?_
  rintro e w1 ⟨rfl, rfl⟩
  go_wp2_with fail
  refine (told_any _ _ _).mono ?_
  rintro e w1 ⟨rfl, rfl⟩
  go_wp2_with fail
  go_ret2
  exact ⟨ret_pair (keep_eq HF.out wrap_of) HF.out, (((Below.refl _ _).alloc (Nat.le_refl _) _).alloc (by simp) _).alloc (by simp; omega) _⟩

set_option maxHeartbeats 400000 in
theorem sub_any (a b : Int) (ha : B64 a) (hb : B64 b) (w : World) :
    Calls Tryz.prog 82 #[.int .i64 a, .int .i64 b] w fun e w' => e = .returned (.tuple #[.int .i64 (keep (inI (a - b)) (a - b)), .bool (inI (a - b))]) ∧ Below w.heap.size w w' := by
  have HF := Lib.hid (sub_is a b ha hb)
  clear ha hb
  go_enter Tryz.func82, Tryz.ntmps82
  go_wp2_with fail
  refine (all3f _ _ _ _ _ rfl).mono ?_
  rintro e w1 ⟨rfl, rfl⟩
  go_wp2_with fail
  refine (all3f _ _ _ _ _ (by simp)).mono ?_
  rintro e w1 ⟨rfl, rfl⟩
  go_wp2_with fail
  refine (all2f _ _ _ _ (by simp)).mono ?_
  rintro e w1 ⟨rfl, rfl⟩
  go_wp2_with fail
  refine (told_any _ _ _).mono ?_
  rintro e w1 ⟨rfl, rfl⟩
  go_wp2_with fail
  go_ret2
  exact ⟨ret_pair (keep_eq HF.out wrap_of) HF.out, (((Below.refl _ _).alloc (Nat.le_refl _) _).alloc (by simp) _).alloc (by simp; omega) _⟩

set_option maxHeartbeats 400000 in
theorem neg_any (a : Int) (ha : B64 a) (w : World) :
    Calls Tryz.prog 51 #[.int .i64 a] w fun e w' => e = .returned (.tuple #[.int .i64 (keep (inI (-a)) (-a)), .bool (inI (-a))]) ∧ Below w.heap.size w w' := by
  have e0 : (0 : Int) - a = -a := by omega
  have H := Lib.hid (sub_any 0 a (by unfold B64; omega) ha)
  rw [e0] at H
  clear ha e0
  go_enter Tryz.func51, Tryz.ntmps51
  go_wp2_with fail
  refine (H.out _).mono ?_
  rintro e w1 ⟨rfl, hb⟩
  go_wp2_with fail
  go_ret2
  exact ⟨rfl, hb⟩

set_option maxHeartbeats 400000 in
theorem div_zero (a : Int) (w : World) :
    Calls Tryz.prog 88 #[.int .i64 a, .int .i64 0] w fun e w' => e = .returned (.tuple #[.int .i64 0, .bool false]) ∧ w = w' := by
  go_enter Tryz.func88, Tryz.ntmps88
  go_wp2
  go_ret2
  exact ⟨rfl, rfl⟩

set_option maxHeartbeats 400000 in
theorem div_any (a b : Int) (ha : B64 a) (hb : B64 b) (h0 : b ≠ 0) (w : World) :
    Calls Tryz.prog 88 #[.int .i64 a, .int .i64 b] w fun e w' => e = .returned (.tuple #[.int .i64 (keep (inI (a.tdiv b)) (a.tdiv b)), .bool (inI (a.tdiv b))]) ∧ Below w.heap.size w w' := by
  have HF := Lib.hid (tdiv_is a b ha hb h0)
  clear ha hb
  have hz : (b == 0) = false := by simpa using h0
  go_enter Tryz.func88, Tryz.ntmps88
  go_wp2_with fail
  go_region_with ((first | (go_at_call 116; refine (all2fd _ _ _ _ rfl).mono ?_; rintro e w1 ⟨rfl, rfl⟩) | (go_at_call 117; refine (told_any _ _ _).mono ?_; rintro e w1 ⟨rfl, rfl⟩)))
  all_goals
    go_wp2
    go_ret2
    exact ⟨ret_pair (keep_eq HF.out fun h => (IntWalk.i64_left _).trans (wrap_of h)) HF.out, below_drewN ((Below.refl _ _).alloc (Nat.le_refl _) _) 1⟩

set_option maxHeartbeats 400000 in
theorem mul_zero (a : Int) (w : World) :
    Calls Tryz.prog 86 #[.int .i64 a, .int .i64 0] w fun e w' => e = .returned (.tuple #[.int .i64 0, .bool true]) ∧ w = w' := by
  go_enter Tryz.func86, Tryz.ntmps86
  go_wp2
  go_ret2
  exact ⟨rfl, rfl⟩

set_option maxHeartbeats 400000 in
theorem mul_ne (a b : Int) (ha : B64 a) (hb : B64 b) (h0 : b ≠ 0) (w : World) :
    Calls Tryz.prog 86 #[.int .i64 a, .int .i64 b] w fun e w' => e = .returned (.tuple #[.int .i64 (keep (inI (a * b)) (a * b)), .bool (inI (a * b))]) ∧ Below w.heap.size w w' := by
  have HF := Lib.hid (mul_is a b ha hb h0)
  have HD := Lib.hid (div_any (wrap64 (a * b)) b (wrap_b64 _) hb h0)
  clear ha hb
  have hz : (b == 0) = false := by simpa using h0
  go_enter Tryz.func86, Tryz.ntmps86
  go_wp2_with fail
  refine (HD.out _).mono ?_
  rintro e w1 ⟨rfl, hb1⟩
  go_wp2_with fail
  refine (all2f _ _ _ _ rfl).mono ?_
  rintro e w2 ⟨rfl, rfl⟩
  go_wp2_with fail
  refine (told_any _ _ _).mono ?_
  rintro e w2 ⟨rfl, rfl⟩
  go_wp2_with fail
  go_ret2
  exact ⟨ret_pair (keep_eq HF.out wrap_of) HF.out, hb1.alloc hb1.size _⟩

theorem mul_any (a b : Int) (ha : B64 a) (hb : B64 b) (w : World) :
    Calls Tryz.prog 86 #[.int .i64 a, .int .i64 b] w fun e w' => e = .returned (.tuple #[.int .i64 (keep (inI (a * b)) (a * b)), .bool (inI (a * b))]) ∧ Below w.heap.size w w' := by
  by_cases h0 : b = 0
  · subst h0
    refine (mul_zero a w).mono fun e w' ⟨he, hw⟩ => ⟨he.trans (ret_pair ?_ ?_), hw ▸ Below.refl _ _⟩
    · rw [Int.mul_zero]; rfl
    · rw [Int.mul_zero]; rfl
  · exact mul_ne a b ha hb h0 w
end Go.Proofs.YthaoalmhhgllmaaGreatDoor
namespace Go.Proofs.YthaoalmhhgllmaaGreatDoor
open Go.RowKit

structure ActC (f : Nat) (g : Int → Int → Int × Int) : Prop where
  enters : ∀ (args : Array Value) (w : World), (callFunc f args).run Tryz.prog w = .ok (.enter f args) w
  runs : ∀ a b : Int, B64 a → B64 b → ∀ w, Calls Tryz.prog f #[.int .i64 a, .int .i64 b] w fun e w' => e = .returned (.agg #[.int .i64 (g a b).1, .int .i64 (g a b).2]) ∧ Below w.heap.size w w'

set_option maxHeartbeats 400000 in
theorem utold_any (n : Int) (ok : Bool) (w : World) :
    Calls Tryz.prog 50 #[.int .i64 n, .bool ok] w fun e w' => e = .returned (.agg #[.int .i64 (tNum ok n), .int .i64 (tFault ok)]) ∧ Below w.heap.size w w' := by
  cases ok
  · go_enter Tryz.func50, Tryz.ntmps50
    go_wp2_with fail
    exact bodyPost_ret (v := .agg #[.int .i64 0, .int .i64 1]) (by simp [results, Tryz.results50, go_sem]) rfl ⟨rfl, (Below.refl _ _).alloc (Nat.le_refl _) _⟩
  · go_enter Tryz.func50, Tryz.ntmps50
    go_wp2_with fail
    exact bodyPost_ret (v := .agg #[.int .i64 n, .int .i64 0]) (by simp [results, Tryz.results50, go_sem]) rfl ⟨rfl, (Below.refl _ _).alloc (Nat.le_refl _) _⟩
set_option maxHeartbeats 400000 in
theorem utruth_any (b : Bool) (w : World) :
    Calls Tryz.prog 90 #[.bool b] w fun e w' => e = .returned (.agg #[.int .i64 (tru b), .int .i64 0]) ∧ Below w.heap.size w w' := by
  cases b
  · go_enter Tryz.func90, Tryz.ntmps90
    go_wp2_with fail
    exact bodyPost_ret (v := .agg #[.int .i64 0, .int .i64 0]) (by simp [results, Tryz.results90, go_sem]) rfl ⟨rfl, (Below.refl _ _).alloc (Nat.le_refl _) _⟩
  · go_enter Tryz.func90, Tryz.ntmps90
    go_wp2_with fail
    exact bodyPost_ret (v := .agg #[.int .i64 1, .int .i64 0]) (by simp [results, Tryz.results90, go_sem]) rfl ⟨rfl, (Below.refl _ _).alloc (Nat.le_refl _) _⟩

set_option maxHeartbeats 400000 in
theorem act_add : ActC 83 fun a b => vTold (a + b) where
  enters := fun args w => enters_of Tryz.func83 (by kernel_rfl) rfl args w
  runs := fun a b ha hb w => by
    have H := Lib.hid (add_any a b ha hb)
    clear ha hb
    go_enter Tryz.func83, Tryz.ntmps83
    go_wp2_with fail
    refine (H.out _).mono ?_; rintro e w1 ⟨rfl, b1⟩
    have k10 := keep_cell b1 (p := ⟨w.heap.size, 0, none⟩) (v := .int .i64 0) (by simp [go_sem])
    have k11 := keep_cell b1 (p := ⟨w.heap.size, 1, none⟩) (v := .int .i64 0) (by simp [go_sem])
    have f10 := keep_frozen b1 (p := ⟨w.heap.size, 0, none⟩) (by simp) (by simp [go_sem])
    have f11 := keep_frozen b1 (p := ⟨w.heap.size, 1, none⟩) (by simp) (by simp [go_sem])
    have h1 : Below w.heap.size w w1 := ((Below.refl _ _).alloc (Nat.le_refl _) _).trans (b1.mono (by simp))
    have z1 : w.heap.size < w1.heap.size := Lib.lt_of_cell k10
    clear b1
    go_wp2_with fail
    refine (utold_any _ _ _).mono ?_; rintro e w2 ⟨rfl, b2⟩
    have k20 := keep_cell b2 k10
    have k21 := keep_cell b2 k11
    have f20 := keep_frozen b2 z1 f10
    have f21 := keep_frozen b2 z1 f11
    have h2 := h1.trans (b2.mono h1.size)
    have z2 : w.heap.size < w2.heap.size := Lib.lt_of_cell k20
    clear b2 k10 k11 f10 f11 h1 z1
    go_wp2_with fail
    exact bodyPost_ret (v := .agg #[.int .i64 (tNum (inI (a + b)) (keep (inI (a + b)) (a + b))), .int .i64 (tFault (inI (a + b)))]) (by simp [results, Tryz.results83, go_sem, k20, k21]) rfl ⟨rfl, (h2.setCell (by simp) _).setCell (by simp) _⟩
set_option maxHeartbeats 400000 in
theorem act_sub : ActC 84 fun a b => vTold (a - b) where
  enters := fun args w => enters_of Tryz.func84 (by kernel_rfl) rfl args w
  runs := fun a b ha hb w => by
    have H := Lib.hid (sub_any a b ha hb)
    clear ha hb
    go_enter Tryz.func84, Tryz.ntmps84
    go_wp2_with fail
    refine (H.out _).mono ?_; rintro e w1 ⟨rfl, b1⟩
    have k10 := keep_cell b1 (p := ⟨w.heap.size, 0, none⟩) (v := .int .i64 0) (by simp [go_sem])
    have k11 := keep_cell b1 (p := ⟨w.heap.size, 1, none⟩) (v := .int .i64 0) (by simp [go_sem])
    have f10 := keep_frozen b1 (p := ⟨w.heap.size, 0, none⟩) (by simp) (by simp [go_sem])
    have f11 := keep_frozen b1 (p := ⟨w.heap.size, 1, none⟩) (by simp) (by simp [go_sem])
    have h1 : Below w.heap.size w w1 := ((Below.refl _ _).alloc (Nat.le_refl _) _).trans (b1.mono (by simp))
    have z1 : w.heap.size < w1.heap.size := Lib.lt_of_cell k10
    clear b1
    go_wp2_with fail
    refine (utold_any _ _ _).mono ?_; rintro e w2 ⟨rfl, b2⟩
    have k20 := keep_cell b2 k10
    have k21 := keep_cell b2 k11
    have f20 := keep_frozen b2 z1 f10
    have f21 := keep_frozen b2 z1 f11
    have h2 := h1.trans (b2.mono h1.size)
    have z2 : w.heap.size < w2.heap.size := Lib.lt_of_cell k20
    clear b2 k10 k11 f10 f11 h1 z1
    go_wp2_with fail
    exact bodyPost_ret (v := .agg #[.int .i64 (tNum (inI (a - b)) (keep (inI (a - b)) (a - b))), .int .i64 (tFault (inI (a - b)))]) (by simp [results, Tryz.results84, go_sem, k20, k21]) rfl ⟨rfl, (h2.setCell (by simp) _).setCell (by simp) _⟩
set_option maxHeartbeats 400000 in
theorem act_mul : ActC 85 fun a b => vTold (a * b) where
  enters := fun args w => enters_of Tryz.func85 (by kernel_rfl) rfl args w
  runs := fun a b ha hb w => by
    have H := Lib.hid (mul_any a b ha hb)
    clear ha hb
    go_enter Tryz.func85, Tryz.ntmps85
    go_wp2_with fail
    refine (H.out _).mono ?_; rintro e w1 ⟨rfl, b1⟩
    have k10 := keep_cell b1 (p := ⟨w.heap.size, 0, none⟩) (v := .int .i64 0) (by simp [go_sem])
    have k11 := keep_cell b1 (p := ⟨w.heap.size, 1, none⟩) (v := .int .i64 0) (by simp [go_sem])
    have f10 := keep_frozen b1 (p := ⟨w.heap.size, 0, none⟩) (by simp) (by simp [go_sem])
    have f11 := keep_frozen b1 (p := ⟨w.heap.size, 1, none⟩) (by simp) (by simp [go_sem])
    have h1 : Below w.heap.size w w1 := ((Below.refl _ _).alloc (Nat.le_refl _) _).trans (b1.mono (by simp))
    have z1 : w.heap.size < w1.heap.size := Lib.lt_of_cell k10
    clear b1
    go_wp2_with fail
    refine (utold_any _ _ _).mono ?_; rintro e w2 ⟨rfl, b2⟩
    have k20 := keep_cell b2 k10
    have k21 := keep_cell b2 k11
    have f20 := keep_frozen b2 z1 f10
    have f21 := keep_frozen b2 z1 f11
    have h2 := h1.trans (b2.mono h1.size)
    have z2 : w.heap.size < w2.heap.size := Lib.lt_of_cell k20
    clear b2 k10 k11 f10 f11 h1 z1
    go_wp2_with fail
    exact bodyPost_ret (v := .agg #[.int .i64 (tNum (inI (a * b)) (keep (inI (a * b)) (a * b))), .int .i64 (tFault (inI (a * b)))]) (by simp [results, Tryz.results85, go_sem, k20, k21]) rfl ⟨rfl, (h2.setCell (by simp) _).setCell (by simp) _⟩
set_option maxHeartbeats 400000 in
theorem act_div : ActC 87 fun a b => if b = 0 then (0, 2) else vTold (a.tdiv b) where
  enters := fun args w => enters_of Tryz.func87 (by kernel_rfl) rfl args w
  runs := fun a b ha hb w => by
    by_cases hz : b = 0
    · subst hz
      go_enter Tryz.func87, Tryz.ntmps87
      go_wp2_with fail
      exact bodyPost_ret (v := .agg #[.int .i64 0, .int .i64 2]) (by simp [results, Tryz.results87, go_sem]) rfl ⟨rfl, (Below.refl _ _).alloc (Nat.le_refl _) _⟩
    · have H := Lib.hid (div_any a b ha hb hz)
      rw [if_neg hz]
      have hz1 : (b == 0) = false := by rw [beq_eq_false_iff_ne]; exact hz
      clear ha hb hz
      go_enter Tryz.func87, Tryz.ntmps87
      go_wp2_with fail
      refine (H.out _).mono ?_; rintro e w1 ⟨rfl, b1⟩
      have k10 := keep_cell b1 (p := ⟨w.heap.size, 0, none⟩) (v := .int .i64 0) (by simp [go_sem])
      have k11 := keep_cell b1 (p := ⟨w.heap.size, 1, none⟩) (v := .int .i64 0) (by simp [go_sem])
      have f10 := keep_frozen b1 (p := ⟨w.heap.size, 0, none⟩) (by simp) (by simp [go_sem])
      have f11 := keep_frozen b1 (p := ⟨w.heap.size, 1, none⟩) (by simp) (by simp [go_sem])
      have h1 : Below w.heap.size w w1 := ((Below.refl _ _).alloc (Nat.le_refl _) _).trans (b1.mono (by simp))
      have z1 : w.heap.size < w1.heap.size := Lib.lt_of_cell k10
      clear b1
      go_wp2_with fail
      refine (utold_any _ _ _).mono ?_; rintro e w2 ⟨rfl, b2⟩
      have k20 := keep_cell b2 k10
      have k21 := keep_cell b2 k11
      have f20 := keep_frozen b2 z1 f10
      have f21 := keep_frozen b2 z1 f11
      have h2 := h1.trans (b2.mono h1.size)
      have z2 : w.heap.size < w2.heap.size := Lib.lt_of_cell k20
      clear b2 k10 k11 f10 f11 h1 z1
      go_wp2_with fail
      exact bodyPost_ret (v := .agg #[.int .i64 (tNum (inI (a.tdiv b)) (keep (inI (a.tdiv b)) (a.tdiv b))), .int .i64 (tFault (inI (a.tdiv b)))]) (by simp [results, Tryz.results87, go_sem, k20, k21]) rfl ⟨rfl, (h2.setCell (by simp) _).setCell (by simp) _⟩
set_option maxHeartbeats 400000 in
theorem act_neg : ActC 49 fun _ b => vTold (-b) where
  enters := fun args w => enters_of Tryz.func49 (by kernel_rfl) rfl args w
  runs := fun a b _ hb w => by
    have H := Lib.hid (neg_any b hb)
    clear hb
    go_enter Tryz.func49, Tryz.ntmps49
    go_wp2_with fail
    refine (H.out _).mono ?_; rintro e w1 ⟨rfl, b1⟩
    have k10 := keep_cell b1 (p := ⟨w.heap.size, 0, none⟩) (v := .int .i64 0) (by simp [go_sem])
    have k11 := keep_cell b1 (p := ⟨w.heap.size, 1, none⟩) (v := .int .i64 0) (by simp [go_sem])
    have f10 := keep_frozen b1 (p := ⟨w.heap.size, 0, none⟩) (by simp) (by simp [go_sem])
    have f11 := keep_frozen b1 (p := ⟨w.heap.size, 1, none⟩) (by simp) (by simp [go_sem])
    have h1 : Below w.heap.size w w1 := ((Below.refl _ _).alloc (Nat.le_refl _) _).trans (b1.mono (by simp))
    have z1 : w.heap.size < w1.heap.size := Lib.lt_of_cell k10
    clear b1
    go_wp2_with fail
    refine (utold_any _ _ _).mono ?_; rintro e w2 ⟨rfl, b2⟩
    have k20 := keep_cell b2 k10
    have k21 := keep_cell b2 k11
    have f20 := keep_frozen b2 z1 f10
    have f21 := keep_frozen b2 z1 f11
    have h2 := h1.trans (b2.mono h1.size)
    have z2 : w.heap.size < w2.heap.size := Lib.lt_of_cell k20
    clear b2 k10 k11 f10 f11 h1 z1
    go_wp2_with fail
    exact bodyPost_ret (v := .agg #[.int .i64 (tNum (inI (-b)) (keep (inI (-b)) (-b))), .int .i64 (tFault (inI (-b)))]) (by simp [results, Tryz.results49, go_sem, k20, k21]) rfl ⟨rfl, (h2.setCell (by simp) _).setCell (by simp) _⟩
set_option maxHeartbeats 400000 in
theorem act_lt : ActC 89 fun a b => (tru (decide (a < b)), 0) where
  enters := fun args w => enters_of Tryz.func89 (by kernel_rfl) rfl args w
  runs := fun a b _ _ w => by
    go_enter Tryz.func89, Tryz.ntmps89
    go_wp2_with fail
    refine (utruth_any (decide (a < b)) _).mono ?_; rintro e w1 ⟨rfl, b1⟩
    have k10 := keep_cell b1 (p := ⟨w.heap.size, 0, none⟩) (v := .int .i64 0) (by simp [go_sem])
    have k11 := keep_cell b1 (p := ⟨w.heap.size, 1, none⟩) (v := .int .i64 0) (by simp [go_sem])
    have f10 := keep_frozen b1 (p := ⟨w.heap.size, 0, none⟩) (by simp) (by simp [go_sem])
    have f11 := keep_frozen b1 (p := ⟨w.heap.size, 1, none⟩) (by simp) (by simp [go_sem])
    have h1 : Below w.heap.size w w1 := ((Below.refl _ _).alloc (Nat.le_refl _) _).trans (b1.mono (by simp))
    have z1 : w.heap.size < w1.heap.size := Lib.lt_of_cell k10
    clear b1
    go_wp2_with fail
    exact bodyPost_ret (v := .agg #[.int .i64 (tru (decide (a < b))), .int .i64 0]) (by simp [results, Tryz.results89, go_sem, k10, k11]) rfl ⟨rfl, (h1.setCell (by simp) _).setCell (by simp) _⟩
set_option maxHeartbeats 400000 in
theorem act_le : ActC 91 fun a b => (tru (decide (a ≤ b)), 0) where
  enters := fun args w => enters_of Tryz.func91 (by kernel_rfl) rfl args w
  runs := fun a b _ _ w => by
    go_enter Tryz.func91, Tryz.ntmps91
    go_wp2_with fail
    refine (utruth_any (decide (a ≤ b)) _).mono ?_; rintro e w1 ⟨rfl, b1⟩
    have k10 := keep_cell b1 (p := ⟨w.heap.size, 0, none⟩) (v := .int .i64 0) (by simp [go_sem])
    have k11 := keep_cell b1 (p := ⟨w.heap.size, 1, none⟩) (v := .int .i64 0) (by simp [go_sem])
    have f10 := keep_frozen b1 (p := ⟨w.heap.size, 0, none⟩) (by simp) (by simp [go_sem])
    have f11 := keep_frozen b1 (p := ⟨w.heap.size, 1, none⟩) (by simp) (by simp [go_sem])
    have h1 : Below w.heap.size w w1 := ((Below.refl _ _).alloc (Nat.le_refl _) _).trans (b1.mono (by simp))
    have z1 : w.heap.size < w1.heap.size := Lib.lt_of_cell k10
    clear b1
    go_wp2_with fail
    exact bodyPost_ret (v := .agg #[.int .i64 (tru (decide (a ≤ b))), .int .i64 0]) (by simp [results, Tryz.results91, go_sem, k10, k11]) rfl ⟨rfl, (h1.setCell (by simp) _).setCell (by simp) _⟩
set_option maxHeartbeats 400000 in
theorem act_eq : ActC 92 fun a b => (tru (a == b), 0) where
  enters := fun args w => enters_of Tryz.func92 (by kernel_rfl) rfl args w
  runs := fun a b _ _ w => by
    go_enter Tryz.func92, Tryz.ntmps92
    go_wp2_with fail
    refine (utruth_any (a == b) _).mono ?_; rintro e w1 ⟨rfl, b1⟩
    have k10 := keep_cell b1 (p := ⟨w.heap.size, 0, none⟩) (v := .int .i64 0) (by simp [go_sem])
    have k11 := keep_cell b1 (p := ⟨w.heap.size, 1, none⟩) (v := .int .i64 0) (by simp [go_sem])
    have f10 := keep_frozen b1 (p := ⟨w.heap.size, 0, none⟩) (by simp) (by simp [go_sem])
    have f11 := keep_frozen b1 (p := ⟨w.heap.size, 1, none⟩) (by simp) (by simp [go_sem])
    have h1 : Below w.heap.size w w1 := ((Below.refl _ _).alloc (Nat.le_refl _) _).trans (b1.mono (by simp))
    have z1 : w.heap.size < w1.heap.size := Lib.lt_of_cell k10
    clear b1
    go_wp2_with fail
    exact bodyPost_ret (v := .agg #[.int .i64 (tru (a == b)), .int .i64 0]) (by simp [results, Tryz.results92, go_sem, k10, k11]) rfl ⟨rfl, (h1.setCell (by simp) _).setCell (by simp) _⟩
set_option maxHeartbeats 400000 in
theorem act_ne : ActC 93 fun a b => (tru (a != b), 0) where
  enters := fun args w => enters_of Tryz.func93 (by kernel_rfl) rfl args w
  runs := fun a b _ _ w => by
    go_enter Tryz.func93, Tryz.ntmps93
    go_wp2_with fail
    refine (utruth_any (a != b) _).mono ?_; rintro e w1 ⟨rfl, b1⟩
    have k10 := keep_cell b1 (p := ⟨w.heap.size, 0, none⟩) (v := .int .i64 0) (by simp [go_sem])
    have k11 := keep_cell b1 (p := ⟨w.heap.size, 1, none⟩) (v := .int .i64 0) (by simp [go_sem])
    have f10 := keep_frozen b1 (p := ⟨w.heap.size, 0, none⟩) (by simp) (by simp [go_sem])
    have f11 := keep_frozen b1 (p := ⟨w.heap.size, 1, none⟩) (by simp) (by simp [go_sem])
    have h1 : Below w.heap.size w w1 := ((Below.refl _ _).alloc (Nat.le_refl _) _).trans (b1.mono (by simp))
    have z1 : w.heap.size < w1.heap.size := Lib.lt_of_cell k10
    clear b1
    go_wp2_with fail
    exact bodyPost_ret (v := .agg #[.int .i64 (tru (a != b)), .int .i64 0]) (by simp [results, Tryz.results93, go_sem, k10, k11]) rfl ⟨rfl, (h1.setCell (by simp) _).setCell (by simp) _⟩
set_option maxHeartbeats 400000 in
theorem act_ge : ActC 94 fun a b => (tru (decide (b ≤ a)), 0) where
  enters := fun args w => enters_of Tryz.func94 (by kernel_rfl) rfl args w
  runs := fun a b _ _ w => by
    go_enter Tryz.func94, Tryz.ntmps94
    go_wp2_with fail
    refine (utruth_any (decide (b ≤ a)) _).mono ?_; rintro e w1 ⟨rfl, b1⟩
    have k10 := keep_cell b1 (p := ⟨w.heap.size, 0, none⟩) (v := .int .i64 0) (by simp [go_sem])
    have k11 := keep_cell b1 (p := ⟨w.heap.size, 1, none⟩) (v := .int .i64 0) (by simp [go_sem])
    have f10 := keep_frozen b1 (p := ⟨w.heap.size, 0, none⟩) (by simp) (by simp [go_sem])
    have f11 := keep_frozen b1 (p := ⟨w.heap.size, 1, none⟩) (by simp) (by simp [go_sem])
    have h1 : Below w.heap.size w w1 := ((Below.refl _ _).alloc (Nat.le_refl _) _).trans (b1.mono (by simp))
    have z1 : w.heap.size < w1.heap.size := Lib.lt_of_cell k10
    clear b1
    go_wp2_with fail
    exact bodyPost_ret (v := .agg #[.int .i64 (tru (decide (b ≤ a))), .int .i64 0]) (by simp [results, Tryz.results94, go_sem, k10, k11]) rfl ⟨rfl, (h1.setCell (by simp) _).setCell (by simp) _⟩
set_option maxHeartbeats 400000 in
theorem act_gt : ActC 95 fun a b => (tru (decide (b < a)), 0) where
  enters := fun args w => enters_of Tryz.func95 (by kernel_rfl) rfl args w
  runs := fun a b _ _ w => by
    go_enter Tryz.func95, Tryz.ntmps95
    go_wp2_with fail
    refine (utruth_any (decide (b < a)) _).mono ?_; rintro e w1 ⟨rfl, b1⟩
    have k10 := keep_cell b1 (p := ⟨w.heap.size, 0, none⟩) (v := .int .i64 0) (by simp [go_sem])
    have k11 := keep_cell b1 (p := ⟨w.heap.size, 1, none⟩) (v := .int .i64 0) (by simp [go_sem])
    have f10 := keep_frozen b1 (p := ⟨w.heap.size, 0, none⟩) (by simp) (by simp [go_sem])
    have f11 := keep_frozen b1 (p := ⟨w.heap.size, 1, none⟩) (by simp) (by simp [go_sem])
    have h1 : Below w.heap.size w w1 := ((Below.refl _ _).alloc (Nat.le_refl _) _).trans (b1.mono (by simp))
    have z1 : w.heap.size < w1.heap.size := Lib.lt_of_cell k10
    clear b1
    go_wp2_with fail
    exact bodyPost_ret (v := .agg #[.int .i64 (tru (decide (b < a))), .int .i64 0]) (by simp [results, Tryz.results95, go_sem, k10, k11]) rfl ⟨rfl, (h1.setCell (by simp) _).setCell (by simp) _⟩
set_option maxHeartbeats 400000 in
theorem act_least : ActC 99 fun a b => (if b < a then b else a, 0) where
  enters := fun args w => enters_of Tryz.func99 (by kernel_rfl) rfl args w
  runs := fun a b _ _ w => by
    by_cases h : b < a
    · rw [if_pos h]
      go_enter Tryz.func99, Tryz.ntmps99
      go_wp2_with fail
      exact bodyPost_ret (v := .agg #[.int .i64 b, .int .i64 0]) (by simp [results, Tryz.results99, go_sem]) rfl ⟨rfl, (Below.refl _ _).alloc (Nat.le_refl _) _⟩
    · rw [if_neg h]
      go_enter Tryz.func99, Tryz.ntmps99
      go_wp2_with fail
      exact bodyPost_ret (v := .agg #[.int .i64 a, .int .i64 0]) (by simp [results, Tryz.results99, go_sem]) rfl ⟨rfl, (Below.refl _ _).alloc (Nat.le_refl _) _⟩
set_option maxHeartbeats 400000 in
theorem act_most : ActC 100 fun a b => (if a < b then b else a, 0) where
  enters := fun args w => enters_of Tryz.func100 (by kernel_rfl) rfl args w
  runs := fun a b _ _ w => by
    by_cases h : a < b
    · rw [if_pos h]
      go_enter Tryz.func100, Tryz.ntmps100
      go_wp2_with fail
      exact bodyPost_ret (v := .agg #[.int .i64 b, .int .i64 0]) (by simp [results, Tryz.results100, go_sem]) rfl ⟨rfl, (Below.refl _ _).alloc (Nat.le_refl _) _⟩
    · rw [if_neg h]
      go_enter Tryz.func100, Tryz.ntmps100
      go_wp2_with fail
      exact bodyPost_ret (v := .agg #[.int .i64 a, .int .i64 0]) (by simp [results, Tryz.results100, go_sem]) rfl ⟨rfl, (Below.refl _ _).alloc (Nat.le_refl _) _⟩
end Go.Proofs.YthaoalmhhgllmaaGreatDoor
namespace Go.Proofs.YthaoalmhhgllmaaGreatDoor
open Go.RowKit

def bothN (p : Int × Int) (f g : Int) : Int := if f = 0 ∧ g = 0 then p.1 else 0
def bothF (p : Int × Int) (f g : Int) : Int := if f = 0 then (if g = 0 then p.2 else g) else f
def leftU (v : Value) : Nat := 2 - (intOf v).toNat

set_option maxHeartbeats 1000000 in
set_option maxRecDepth 10000 in
theorem uboth_any {F : Nat} {G : Int → Int → Int × Int} (hA : ActC F G) (n f m g : Int) (hn : B64 n) (hm : B64 m) (w : World) :
    Calls Tryz.prog 48 #[.agg #[.int .i64 n, .int .i64 f], .agg #[.int .i64 m, .int .i64 g], .func (.func F) #[] #[]] w fun e w' =>
      e = .returned (.agg #[.int .i64 (bothN (G n m) f g), .int .i64 (bothF (G n m) f g)]) ∧ Below w.heap.size w w' := by
  have H := Lib.hid (hA.runs n m hn hm)
  have hE := hA.enters
  clear hn hm
  generalize G n m = X at *
  have x0 : ∀ w : World, (Instr.index 109 (.agg #[.int .i64 n, .int .i64 f, .int .i64 m, .int .i64 g]) (.int .i64 0)).run Tryz.prog w = .ok (.agg #[.int .i64 n, .int .i64 f]) w := fun _ => by kernel_rfl
  have x1 : ∀ w : World, (Instr.index 109 (.agg #[.int .i64 n, .int .i64 f, .int .i64 m, .int .i64 g]) (.int .i64 1)).run Tryz.prog w = .ok (.agg #[.int .i64 m, .int .i64 g]) w := fun _ => by kernel_rfl
  go_enter Tryz.func48, Tryz.ntmps48
  go_wp2_with fail
  go_loopw [12] (fun v wr => ∃ i : Nat, i ≤ 2 ∧ v = .int .i64 i ∧ Hid ((1 ≤ i → f = 0) ∧ (2 ≤ i → g = 0)) ∧ Below (w.heap.size + 1 + 1 + 1) (((w.alloc (.cells #[.int .i64 n, .int .i64 f] 35)).alloc (.cells #[.int .i64 m, .int .i64 g] 35)).alloc (.cells #[.int .i64 0, .int .i64 0] 35)) wr) (fun v _ => leftU v)
  case atStart => exact ⟨0, by omega, rfl, Lib.hid ⟨fun h => by omega, fun h => by omega⟩, Below.refl _ _⟩
  case round =>
    obtain ⟨i, hi, rfl, HU, hb⟩ := hrel
    have a0 : wr.cell? ⟨w.heap.size, 0, none⟩ = some (.int .i64 n) := by rw [hb.cell (by simp; omega)]; simp [go_sem]
    have a1 : wr.cell? ⟨w.heap.size, 1, none⟩ = some (.int .i64 f) := by rw [hb.cell (by simp; omega)]; simp [go_sem]
    have c0 : wr.cell? ⟨w.heap.size + 1, 0, none⟩ = some (.int .i64 m) := by rw [hb.cell (by simp)]; simp [go_sem]
    have c1 : wr.cell? ⟨w.heap.size + 1, 1, none⟩ = some (.int .i64 g) := by rw [hb.cell (by simp)]; simp [go_sem]
    have k0 : wr.cell? ⟨w.heap.size + 1 + 1, 0, none⟩ = some (.int .i64 0) := by rw [hb.cell (by simp)]; simp [go_sem]
    have k1 : wr.cell? ⟨w.heap.size + 1 + 1, 1, none⟩ = some (.int .i64 0) := by rw [hb.cell (by simp)]; simp [go_sem]
    have f0 : wr.frozen? ⟨w.heap.size + 1 + 1, 0, none⟩ = false := by rw [hb.frozen (by simp)]; simp [go_sem]
    have f1 : wr.frozen? ⟨w.heap.size + 1 + 1, 1, none⟩ = false := by rw [hb.frozen (by simp)]; simp [go_sem]
    have z0 : w.heap.size + 1 + 1 < wr.heap.size := by have := hb.size; simp at this; omega
    have z1 : w.heap.size + 1 < wr.heap.size := by omega
    have z2 : w.heap.size < wr.heap.size := by omega
    have b0 : Below w.heap.size w wr := ((((Below.refl _ _).alloc (Nat.le_refl _) _).alloc (by simp) _).alloc (by simp; omega) _).trans (hb.mono (by omega))
    have hq : i = 0 ∨ i = 1 ∨ i = 2 := by omega
    clear hi
    rcases hq with rfl | rfl | rfl
    · by_cases hf : f = 0
      · have HU' : Hid ((1 ≤ 0 + 1 → f = 0) ∧ (2 ≤ 0 + 1 → g = 0)) := Lib.hid ⟨fun _ => hf, fun h => by omega⟩
        have d1 : (f != 0) = false := by simpa using hf
        clear hf HU
        go_wp2_with fail
        go_roundw
        case rel => exact ⟨0 + 1, by omega, by go_num, HU', hb.alloc (by omega) _⟩
        case measure => simp [leftU, intOf]
      · have d1 : (f != 0) = true := by simpa using hf
        have e1 : bothN X f g = 0 := if_neg (by omega)
        have e2 : bothF X f g = f := if_neg hf
        have E := Lib.hid (And.intro e1 e2)
        clear hf HU e1 e2
        go_wp2_with fail
        exact bodyPost_ret (v := .agg #[.int .i64 0, .int .i64 f]) (by simp [results, Tryz.results48, go_sem, k0, k1, z0]) rfl
          ⟨by rw [E.out.1, E.out.2], ((b0.setCell (by simp; omega) _).setCell (by simp; omega) _).alloc (by simpa using b0.size) _⟩
    · have hf : f = 0 := HU.out.1 (by omega)
      by_cases hg : g = 0
      · have HU' : Hid ((1 ≤ 1 + 1 → f = 0) ∧ (2 ≤ 1 + 1 → g = 0)) := Lib.hid ⟨fun _ => hf, fun h => hg⟩
        have d1 : (g != 0) = false := by simpa using hg
        clear hf hg HU
        go_wp2_with fail
        go_roundw
        case rel => exact ⟨1 + 1, by omega, by go_num, HU', hb.alloc (by omega) _⟩
        case measure => simp [leftU, intOf]
      · have d1 : (g != 0) = true := by simpa using hg
        have e1 : bothN X f g = 0 := if_neg (by omega)
        have e2 : bothF X f g = g := by unfold bothF; rw [if_pos hf, if_neg hg]
        have E := Lib.hid (And.intro e1 e2)
        clear hf hg HU e1 e2
        go_wp2_with fail
        exact bodyPost_ret (v := .agg #[.int .i64 0, .int .i64 g]) (by simp [results, Tryz.results48, go_sem, k0, k1, z0]) rfl
          ⟨by rw [E.out.1, E.out.2], ((b0.setCell (by simp; omega) _).setCell (by simp; omega) _).alloc (by simpa using b0.size) _⟩
    · have hf : f = 0 := HU.out.1 (by omega)
      have hg : g = 0 := HU.out.2 (by omega)
      subst hf hg
      clear HU hb
      go_wp2_with fail
      refine (H.out _).mono ?_; rintro e w1 ⟨rfl, b1⟩
      have q0 := keep_cell b1 k0
      have q1 := keep_cell b1 k1
      have p0 := keep_frozen b1 (by simpa using z0) f0
      have p1 := keep_frozen b1 (by simpa using z0) f1
      have h2 := b0.trans (b1.mono b0.size)
      clear a0 a1 c0 c1 k0 k1 f0 f1 b1
      go_wp2_with fail
      exact bodyPost_ret (v := .agg #[.int .i64 X.1, .int .i64 X.2]) (by simp [results, Tryz.results48, go_sem, q0, q1]) rfl
        ⟨rfl, (h2.setCell (by simp; omega) _).setCell (by simp; omega) _⟩
end Go.Proofs.YthaoalmhhgllmaaGreatDoor
namespace Go.Proofs.YthaoalmhhgllmaaGreatDoor
open Go.RowKit

def AtV (w : World) (g o : Nat) (l : List (Int × Int)) : Prop := ∀ (i : Nat) (x y : Int), l[i]? = some (x, y) → w.cell? ⟨g, o + i * 2, none⟩ = some (.int .i64 x) ∧ w.cell? ⟨g, o + i * 2 + 1, none⟩ = some (.int .i64 y)
theorem AtV.below {w w' : World} {g o : Nat} {l : List (Int × Int)} (h : AtV w g o l) (hb : Below w.heap.size w w') : AtV w' g o l := fun i x y hi => ⟨keep_cell hb (h i x y hi).1, keep_cell hb (h i x y hi).2⟩
def stepV (G : Int → Int → Int × Int) (p q : Int × Int) : Int × Int := (bothN (G p.1 q.1) p.2 q.2, bothF (G p.1 q.1) p.2 q.2)
def allV (G : Int → Int → Int × Int) (p : Int × Int) (l : List (Int × Int)) : Int × Int := l.foldl (stepV G) p
def StaysV (G : Int → Int → Int × Int) : Prop := ∀ a b, B64 a → B64 b → B64 (G a b).1
theorem step_b64 {G : Int → Int → Int × Int} (hG : StaysV G) {p q : Int × Int} (hp : B64 p.1) (hq : B64 q.1) : B64 (stepV G p q).1 := by
  unfold stepV bothN
  simp only
  split
  · exact hG _ _ hp hq
  · unfold B64; omega
theorem all_b64 {G : Int → Int → Int × Int} (hG : StaysV G) : ∀ (l : List (Int × Int)) (p : Int × Int), B64 p.1 → (∀ q ∈ l, B64 q.1) → B64 (allV G p l).1
  | [], _, hp, _ => hp
  | q :: r, p, hp, hl => all_b64 hG r (stepV G p q) (step_b64 hG hp (hl q (by simp))) (fun x hx => hl x (by simp [hx]))
theorem vall_snoc {G : Int → Int → Int × Int} {p : Int × Int} {l : List (Int × Int)} {i : Nat} {x y : Int} (h : l[i]? = some (x, y)) : allV G p (l.take (i + 1)) = stepV G (allV G p (l.take i)) (x, y) := by
  unfold allV
  rw [List.take_add_one, h]
  simp
def leftC (n : Nat) (v : Value) : Nat := n - (intOf v).toNat

set_option maxHeartbeats 400000 in
theorem uall_nil {F : Nat} (A : Option Addr) (cap : Nat) (n f : Int) (w : World) :
    Calls Tryz.prog 96 #[.agg #[.int .i64 n, .int .i64 f], .slice A 0 cap, .func (.func F) #[] #[]] w fun e w' => e = .returned (.agg #[.int .i64 n, .int .i64 f]) ∧ Below w.heap.size w w' := by
  go_enter Tryz.func96, Tryz.ntmps96
  go_wp2_with fail
  go_loopw [11] (fun v wr => v = .int .i64 0 ∧ wr = (w.alloc (.cells #[.int .i64 n, .int .i64 f] 35)).alloc (.cells #[.int .i64 0, .int .i64 0] 35)) (fun _ _ => 0)
  case atStart => exact ⟨rfl, rfl⟩
  case round =>
    obtain ⟨rfl, rfl⟩ := hrel
    go_wp2_with fail
    exact bodyPost_ret (v := .agg #[.int .i64 n, .int .i64 f]) (by simp [results, Tryz.results96, go_sem]) rfl
      ⟨rfl, by first | exact (((Below.refl _ _).alloc (Nat.le_refl _) _).alloc (by simp) _) | exact (((((Below.refl _ _).alloc (Nat.le_refl _) _).alloc (by simp) _).setCell (by simp) _).setCell (by simp) _)⟩

set_option maxHeartbeats 1000000 in
theorem uall_some {F : Nat} {G : Int → Int → Int × Int} (hA : ActC F G) (hG : StaysV G) (l : List (Int × Int)) (hl : l.length ≤ maxLen) (hlb : ∀ q ∈ l, B64 q.1) (n f : Int) (hn : B64 n) (g o cap : Nat) (w : World) (hc : AtV w g o l) :
    Calls Tryz.prog 96 #[.agg #[.int .i64 n, .int .i64 f], .slice (some ⟨g, o, none⟩) l.length cap, .func (.func F) #[] #[]] w fun e w' =>
      e = .returned (.agg #[.int .i64 (allV G (n, f) l).1, .int .i64 (allV G (n, f) l).2]) ∧ Below w.heap.size w w' := by
  have HC := Lib.hid hc
  have HL := Lib.hid hlb
  have HN := Lib.hid hn
  have HG := Lib.hid hG
  have HA := Lib.hid hA
  unfold maxLen at hl
  clear hc hlb hn hG hA
  go_enter Tryz.func96, Tryz.ntmps96
  go_wp2_with fail
  go_loopw [11] (fun v wr => ∃ i : Nat, ∃ a b : Int, i ≤ l.length ∧ v = .int .i64 i ∧ Hid (allV G (n, f) (l.take i) = (a, b)) ∧ Hid (B64 a) ∧ Below w.heap.size w wr ∧ w.heap.size + 1 < wr.heap.size ∧
      wr.cell? ⟨w.heap.size, 0, none⟩ = some (.int .i64 a) ∧ wr.cell? ⟨w.heap.size, 1, none⟩ = some (.int .i64 b) ∧ wr.frozen? ⟨w.heap.size, 0, none⟩ = false ∧ wr.frozen? ⟨w.heap.size, 1, none⟩ = false ∧
      wr.cell? ⟨w.heap.size + 1, 0, none⟩ = some (.int .i64 0) ∧ wr.cell? ⟨w.heap.size + 1, 1, none⟩ = some (.int .i64 0) ∧ wr.frozen? ⟨w.heap.size + 1, 0, none⟩ = false ∧ wr.frozen? ⟨w.heap.size + 1, 1, none⟩ = false) (fun v _ => leftC l.length v)
  case atStart =>
    exact ⟨0, n, f, Nat.zero_le _, rfl, Lib.hid (by simp [allV]), HN, ((Below.refl _ _).alloc (Nat.le_refl _) _).alloc (by simp) _, by simp, by simp [go_sem], by simp [go_sem], by simp [go_sem], by simp [go_sem], by simp [go_sem], by simp [go_sem], by simp [go_sem], by simp [go_sem]⟩
  case round =>
    obtain ⟨i, a, b, hi, rfl, HP, HB, hb, z1, c0, c1, f0, f1, k0, k1, g0, g1⟩ := hrel
    have z0 : w.heap.size < wr.heap.size := by omega
    by_cases hlt : i < l.length
    · obtain ⟨x, y, hxy⟩ : ∃ x y, l[i]? = some (x, y) := ⟨_, _, List.getElem?_eq_getElem hlt⟩
      have hx : B64 x := HL.out (x, y) (List.mem_of_getElem? hxy)
      obtain ⟨a0, a1⟩ := (HC.out.below hb) i x y hxy
      have hS := vall_snoc (G := G) (p := (n, f)) hxy
      rw [HP.out] at hS
      have HS := Lib.hid hS
      have HB2 := Lib.hid (step_b64 HG.out (p := (a, b)) (q := (x, y)) HB.out hx)
      have HM := Lib.hid (uboth_any HA.out a b x y HB.out hx)
      have zg : g < wr.heap.size := Lib.lt_of_cell a0
      clear hxy hx hS
      go_wp2_with fail
      refine (HM.out _).mono ?_; rintro e w1 ⟨rfl, b1⟩
      have p0 := keep_cell b1 (p := ⟨w.heap.size, 0, none⟩) (v := .int .i64 a) (by simp [go_sem, c0, z0])
      have p1 := keep_cell b1 (p := ⟨w.heap.size, 1, none⟩) (v := .int .i64 b) (by simp [go_sem, c1, z0])
      have q0 := keep_frozen b1 (p := ⟨w.heap.size, 0, none⟩) (by simp; omega) (by simp [go_sem, f0, z0])
      have q1 := keep_frozen b1 (p := ⟨w.heap.size, 1, none⟩) (by simp; omega) (by simp [go_sem, f1, z0])
      have r0 := keep_cell b1 (p := ⟨w.heap.size + 1, 0, none⟩) (v := .int .i64 0) (by simp [go_sem, k0, z1])
      have r1 := keep_cell b1 (p := ⟨w.heap.size + 1, 1, none⟩) (v := .int .i64 0) (by simp [go_sem, k1, z1])
      have s0 := keep_frozen b1 (p := ⟨w.heap.size + 1, 0, none⟩) (by simp; omega) (by simp [go_sem, g0, z1])
      have s1 := keep_frozen b1 (p := ⟨w.heap.size + 1, 1, none⟩) (by simp; omega) (by simp [go_sem, g1, z1])
      have h2 := (hb.alloc hb.size _).trans (b1.mono (by have := hb.size; simp; omega))
      have z2 : w.heap.size + 1 < w1.heap.size := Lib.lt_of_cell r0
      clear c0 c1 f0 f1 k0 k1 g0 g1 a0 a1 b1 hb
      go_wp2_with fail
      go_roundw
      case rel =>
        refine ⟨i + 1, (stepV G (a, b) (x, y)).1, (stepV G (a, b) (x, y)).2, by omega, by go_num, HS, HB2, (h2.setCell (by simp) _).setCell (by simp) _, ?_⟩
        refine ⟨by simp; omega, by simp [go_sem, stepV, p0], by simp [go_sem, stepV, p1], by simp [go_sem, q0], by simp [go_sem, q1], by simp [go_sem, r0], by simp [go_sem, r1], by simp [go_sem, s0], by simp [go_sem, s1]⟩
      case measure => simp [leftC, intOf]; omega
    · have hE := HP.out
      rw [List.take_of_length_le (by omega)] at hE
      have HE := Lib.hid hE
      clear hE
      go_wp2_with fail
      exact bodyPost_ret (v := .agg #[.int .i64 a, .int .i64 b]) (by simp [results, Tryz.results96, go_sem, k0, k1]) rfl
        ⟨by rw [HE.out], (hb.setCell (by simp) _).setCell (by simp) _⟩
theorem uall_any {F : Nat} {G : Int → Int → Int × Int} (hA : ActC F G) (hG : StaysV G) (l : List (Int × Int)) (hl : l.length ≤ maxLen) (hlb : ∀ q ∈ l, B64 q.1) (n f : Int) (hn : B64 n) (A : Option Addr) (cap : Nat) (w : World)
    (hc : l ≠ [] → ∃ g o, A = some ⟨g, o, none⟩ ∧ AtV w g o l) :
    Calls Tryz.prog 96 #[.agg #[.int .i64 n, .int .i64 f], .slice A l.length cap, .func (.func F) #[] #[]] w fun e w' =>
      e = .returned (.agg #[.int .i64 (allV G (n, f) l).1, .int .i64 (allV G (n, f) l).2]) ∧ Below w.heap.size w w' := by
  by_cases h : l = []
  · subst h
    exact uall_nil A cap n f w
  · obtain ⟨g, o, rfl, ha⟩ := hc h
    exact uall_some hA hG l hl hlb n f hn g o cap w ha
end Go.Proofs.YthaoalmhhgllmaaGreatDoor
