/- The document's own Do and Neg on values. -/
import Derived.Test.YtpnmefkbfonhpaaDoorVaB
namespace Go.Proofs.YtpnmefkbfonhpaaDoor
open Go.RowKit

/-- what an op makes of two values: its number, its fault -/
def doNum (l : List UInt8) (n f m g : Int) : Int := if f = 0 ∧ g = 0 then oNum (vOp l n m) else 0
def doFault (l : List UInt8) (n f m g : Int) : Int := if (vOp l n m).isSome = true then (if f = 0 then (if g = 0 then oFault (vOp l n m) else g) else f) else 0

theorem ret_value {a b c d : Int} {t : Bool} (h : a = c) (k : b = d) : Ending.returned (.tuple #[.agg #[.int .i64 a, .int .i64 b], .bool t]) = .returned (.tuple #[.agg #[.int .i64 c, .int .i64 d], .bool t]) := by rw [h, k]

set_option maxHeartbeats 1000000 in
theorem vdo_any (s : ByteArray) (n f m g : Int) (hn : B64 n) (hm : B64 m) (w : World) :
    Calls Tryd.prog 10 #[.string s, .agg #[.int .i64 n, .int .i64 f], .agg #[.int .i64 m, .int .i64 g]] w fun e w' =>
      e = .returned (.tuple #[.agg #[.int .i64 (doNum s.data.toList n f m g), .int .i64 (doFault s.data.toList n f m g)], .bool (vOp s.data.toList n m).isSome]) ∧ Below w.heap.size w w' := by
  have H := Lib.hid (numbers_any s n m hn hm)
  unfold NumbersC at H
  have hX : vOp s.data.toList n m = none → oNum (vOp s.data.toList n m) = 0 := fun h => by rw [h]; rfl
  unfold doNum doFault
  have hZ : (vOp s.data.toList n m).isSome = false → oNum (vOp s.data.toList n m) = 0 := fun h => hX (by cases ho : vOp s.data.toList n m with | none => rfl | some p => rw [ho] at h; cases h)
  clear hX hn hm
  generalize oNum (vOp s.data.toList n m) = X at *
  generalize oFault (vOp s.data.toList n m) = Y at *
  generalize (vOp s.data.toList n m).isSome = Z at *
  have HZ := Lib.hid hZ
  clear hZ
  cases Z with
  | false =>
    have hx0 := HZ.out rfl
    subst hx0
    have e1 : (if f = 0 ∧ g = 0 then (0 : Int) else 0) = 0 := by split <;> rfl
    rw [e1]
    clear e1
    go_enter Tryd.func10, Tryd.ntmps10
    go_wp2_with fail
    refine (H.out _).mono ?_; rintro e w1 ⟨rfl, b1⟩
    have k0 := keep_cell b1 (p := ⟨w.heap.size + 1 + 1, 0, none⟩) (v := .int .i64 0) (by simp [go_sem])
    have k1 := keep_cell b1 (p := ⟨w.heap.size + 1 + 1, 1, none⟩) (v := .int .i64 0) (by simp [go_sem])
    have f0 := keep_frozen b1 (p := ⟨w.heap.size + 1 + 1, 0, none⟩) (by simp) (by simp [go_sem])
    have f1 := keep_frozen b1 (p := ⟨w.heap.size + 1 + 1, 1, none⟩) (by simp) (by simp [go_sem])
    have z1 : w.heap.size + 1 + 1 < w1.heap.size := by have := b1.size; simp at this; omega
    have h1 : Below w.heap.size w w1 := ((((Below.refl _ _).alloc (Nat.le_refl _) _).alloc (by simp) _).alloc (by simp; omega) _).trans (b1.mono (by simp; omega))
    clear b1
    go_wp2_with fail
    exact bodyPost_ret (v := .tuple #[.agg #[.int .i64 0, .int .i64 0], .bool false]) (by simp [results, Tryd.results10, go_sem, k0, k1, z1]) rfl
      ⟨rfl, ((h1.setCell (by simp; omega) _).setCell (by simp; omega) _).alloc (by simpa using h1.size) _⟩
  | true =>
    have HR : Hid ((if f = 0 ∧ g = 0 then X else 0) = (if f = 0 then (if g = 0 then X else 0) else 0)) := Lib.hid (by by_cases a : f = 0 <;> by_cases b : g = 0 <;> simp [a, b])
    rw [HR.out]
    clear HR HZ
    by_cases hf : f = 0
    · subst hf
      by_cases hg : g = 0
      · subst hg
        go_enter Tryd.func10, Tryd.ntmps10
        go_wp2_with fail
        refine (H.out _).mono ?_; rintro e w1 ⟨rfl, b1⟩
        have k0 := keep_cell b1 (p := ⟨w.heap.size + 1 + 1, 0, none⟩) (v := .int .i64 0) (by simp [go_sem])
        have k1 := keep_cell b1 (p := ⟨w.heap.size + 1 + 1, 1, none⟩) (v := .int .i64 0) (by simp [go_sem])
        have k2 := keep_cell b1 (p := ⟨w.heap.size, 1, none⟩) (v := .int .i64 0) (by simp [go_sem])
        have k3 := keep_cell b1 (p := ⟨w.heap.size + 1, 1, none⟩) (v := .int .i64 0) (by simp [go_sem])
        have f0 := keep_frozen b1 (p := ⟨w.heap.size + 1 + 1, 0, none⟩) (by simp) (by simp [go_sem])
        have f1 := keep_frozen b1 (p := ⟨w.heap.size + 1 + 1, 1, none⟩) (by simp) (by simp [go_sem])
        have z1 : w.heap.size + 1 + 1 < w1.heap.size := by have := b1.size; simp at this; omega
        have z2 : w.heap.size + 1 < w1.heap.size := by omega
        have z3 : w.heap.size < w1.heap.size := by omega
        have h1 : Below w.heap.size w w1 := ((((Below.refl _ _).alloc (Nat.le_refl _) _).alloc (by simp) _).alloc (by simp; omega) _).trans (b1.mono (by simp; omega))
        clear b1
        go_wp2_with fail
        exact bodyPost_ret (v := .tuple #[.agg #[.int .i64 X, .int .i64 Y], .bool true]) (by simp [results, Tryd.results10, go_sem, k0, k1, z1]) rfl
          ⟨rfl, ((h1.setCell (by simp; omega) _).setCell (by simp; omega) _).alloc (by simpa using h1.size) _⟩
      · have d2 : (g != 0) = true := by rw [bne_iff_ne]; exact hg
        rw [if_pos rfl, if_neg hg, if_pos rfl, if_pos rfl, if_neg hg]
        clear hg
        go_enter Tryd.func10, Tryd.ntmps10
        go_wp2_with fail
        refine (H.out _).mono ?_; rintro e w1 ⟨rfl, b1⟩
        have k0 := keep_cell b1 (p := ⟨w.heap.size + 1 + 1, 0, none⟩) (v := .int .i64 0) (by simp [go_sem])
        have k1 := keep_cell b1 (p := ⟨w.heap.size + 1 + 1, 1, none⟩) (v := .int .i64 0) (by simp [go_sem])
        have k2 := keep_cell b1 (p := ⟨w.heap.size, 1, none⟩) (v := .int .i64 0) (by simp [go_sem])
        have k3 := keep_cell b1 (p := ⟨w.heap.size + 1, 1, none⟩) (v := .int .i64 g) (by simp [go_sem])
        have f0 := keep_frozen b1 (p := ⟨w.heap.size + 1 + 1, 0, none⟩) (by simp) (by simp [go_sem])
        have f1 := keep_frozen b1 (p := ⟨w.heap.size + 1 + 1, 1, none⟩) (by simp) (by simp [go_sem])
        have z1 : w.heap.size + 1 + 1 < w1.heap.size := by have := b1.size; simp at this; omega
        have z2 : w.heap.size + 1 < w1.heap.size := by omega
        have z3 : w.heap.size < w1.heap.size := by omega
        have h1 : Below w.heap.size w w1 := ((((Below.refl _ _).alloc (Nat.le_refl _) _).alloc (by simp) _).alloc (by simp; omega) _).trans (b1.mono (by simp; omega))
        clear b1
        go_wp2_with fail
        exact bodyPost_ret (v := .tuple #[.agg #[.int .i64 0, .int .i64 g], .bool true]) (by simp [results, Tryd.results10, go_sem, k0, k1, z1]) rfl
          ⟨rfl, ((h1.setCell (by simp; omega) _).setCell (by simp; omega) _).alloc (by simpa using h1.size) _⟩
    · have d2 : (f != 0) = true := by rw [bne_iff_ne]; exact hf
      rw [if_neg hf, if_pos rfl, if_neg hf]
      clear hf
      go_enter Tryd.func10, Tryd.ntmps10
      go_wp2_with fail
      refine (H.out _).mono ?_; rintro e w1 ⟨rfl, b1⟩
      have k0 := keep_cell b1 (p := ⟨w.heap.size + 1 + 1, 0, none⟩) (v := .int .i64 0) (by simp [go_sem])
      have k1 := keep_cell b1 (p := ⟨w.heap.size + 1 + 1, 1, none⟩) (v := .int .i64 0) (by simp [go_sem])
      have k2 := keep_cell b1 (p := ⟨w.heap.size, 1, none⟩) (v := .int .i64 f) (by simp [go_sem])
      have f0 := keep_frozen b1 (p := ⟨w.heap.size + 1 + 1, 0, none⟩) (by simp) (by simp [go_sem])
      have f1 := keep_frozen b1 (p := ⟨w.heap.size + 1 + 1, 1, none⟩) (by simp) (by simp [go_sem])
      have z1 : w.heap.size + 1 + 1 < w1.heap.size := by have := b1.size; simp at this; omega
      have z3 : w.heap.size < w1.heap.size := by omega
      have h1 : Below w.heap.size w w1 := ((((Below.refl _ _).alloc (Nat.le_refl _) _).alloc (by simp) _).alloc (by simp; omega) _).trans (b1.mono (by simp; omega))
      clear b1
      go_wp2_with fail
      exact bodyPost_ret (v := .tuple #[.agg #[.int .i64 0, .int .i64 f], .bool true]) (by simp [results, Tryd.results10, go_sem, k0, k1, z1]) rfl
        ⟨rfl, ((h1.setCell (by simp; omega) _).setCell (by simp; omega) _).alloc (by simpa using h1.size) _⟩

set_option maxHeartbeats 400000 in
theorem vneg_any (n f : Int) (hn : B64 n) (w : World) :
    Calls Tryd.prog 16 #[.agg #[.int .i64 n, .int .i64 f]] w fun e w' => e = .returned (.agg #[.int .i64 (doNum [45] 0 0 n f), .int .i64 (doFault [45] 0 0 n f)]) ∧ Below w.heap.size w w' := by
  have H := Lib.hid (vdo_any ⟨#[45]⟩ 0 0 n f (by unfold B64; omega) hn)
  clear hn
  rw [show (⟨#[45]⟩ : ByteArray).data.toList = [45] from rfl] at H
  generalize doNum [45] 0 0 n f = X at *
  generalize doFault [45] 0 0 n f = Y at *
  go_enter Tryd.func16, Tryd.ntmps16
  go_wp2_with fail
  refine (H.out _).mono ?_; rintro e w1 ⟨rfl, b1⟩
  have k0 := keep_cell b1 (p := ⟨w.heap.size + 1, 0, none⟩) (v := .int .i64 0) (by simp [go_sem])
  have k1 := keep_cell b1 (p := ⟨w.heap.size + 1, 1, none⟩) (v := .int .i64 0) (by simp [go_sem])
  have f0 := keep_frozen b1 (p := ⟨w.heap.size + 1, 0, none⟩) (by simp) (by simp [go_sem])
  have f1 := keep_frozen b1 (p := ⟨w.heap.size + 1, 1, none⟩) (by simp) (by simp [go_sem])
  have z1 : w.heap.size + 1 < w1.heap.size := by have := b1.size; simp at this; omega
  have h1 : Below w.heap.size w w1 := (((Below.refl _ _).alloc (Nat.le_refl _) _).alloc (by simp) _).trans (b1.mono (by simp; omega))
  clear b1
  go_wp2_with fail
  exact bodyPost_ret (v := .agg #[.int .i64 X, .int .i64 Y]) (by simp [results, Tryd.results16, go_sem, k0, k1, z1]) rfl
    ⟨rfl, ((h1.setCell (by simp) _).setCell (by simp) _).alloc (by simpa using h1.size) _⟩
end Go.Proofs.YtpnmefkbfonhpaaDoor
