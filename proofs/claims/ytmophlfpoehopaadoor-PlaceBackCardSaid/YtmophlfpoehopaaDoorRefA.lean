/- The document's own answers on places: which may be, their index, and moves. -/
import Derived.Test.YtmophlfpoehopaaDoorNumD
import Derived.Deep.CutRange
import Derived.WalkSmall
import Derived.Lib.AtoiErrMem
namespace Go.Proofs.YtmophlfpoehopaaDoor
open Go.RowKit

/-- What stood ahead of a call that only lays new blocks stands behind it. -/
theorem keep_cell {W w1 : World} (hb : Below W.heap.size W w1) {p : Addr} {v : Value} (h : W.cell? p = some v) : w1.cell? p = some v := by
  rw [hb.cell (Lib.lt_of_cell h)]; exact h
theorem keep_frozen {W w1 : World} (hb : Below W.heap.size W w1) {p : Addr} (hp : p.block < W.heap.size) (h : W.frozen? p = false) : w1.frozen? p = false := by
  rw [hb.frozen hp]; exact h

/-- may a place be? -/
def rightB (c r : Int) : Bool := decide (0 ≤ c ∧ c ≤ 15 ∧ 0 ≤ r ∧ r ≤ 63)
/-- a number, if it is told; else 0 -/
theorem rightB_iff (c r : Int) : rightB c r = true ↔ 0 ≤ c ∧ c ≤ 15 ∧ 0 ≤ r ∧ r ≤ 63 := by unfold rightB; simp
theorem rightB_not (c r : Int) : rightB c r = false ↔ ¬ (0 ≤ c ∧ c ≤ 15 ∧ 0 ≤ r ∧ r ≤ 63) := by unfold rightB; simp

set_option maxHeartbeats 400000 in
theorem rright_any (c r : Int) (w : World) :
    Calls Tryd.prog 12 #[.agg #[.int .i64 c, .int .i64 r]] w fun e w' => e = .returned (.bool (rightB c r)) ∧ Below w.heap.size w w' := by
  go_enter Tryd.func12, Tryd.ntmps12
  go_wp2_with fail
  all_goals go_ret
  · exact ⟨ret_bool (bool_iff (by rw [rightB_iff]; simp; omega)), (Below.refl _ _).alloc (Nat.le_refl _) _⟩
  · exact ⟨ret_bool ((rightB_not _ _).2 (by omega)).symm, (Below.refl _ _).alloc (Nat.le_refl _) _⟩
  · exact ⟨ret_bool ((rightB_not _ _).2 (by omega)).symm, (Below.refl _ _).alloc (Nat.le_refl _) _⟩
  · exact ⟨ret_bool ((rightB_not _ _).2 (by omega)).symm, (Below.refl _ _).alloc (Nat.le_refl _) _⟩

/-- an index that a place has -/
def idxB (i : Int) : Bool := decide (0 ≤ i ∧ i ≤ 1023)
/-- the place with an index: (0, 0), if there is none -/
def atC (i : Int) : Int := if 0 ≤ i ∧ i ≤ 1023 then i % 16 else 0
def atR (i : Int) : Int := if 0 ≤ i ∧ i ≤ 1023 then i / 16 else 0
set_option maxHeartbeats 400000 in
theorem rat_any (i : Int) (w : World) :
    Calls Tryd.prog 10 #[.int .i64 i] w fun e w' => e = .returned (.tuple #[.agg #[.int .i64 (atC i), .int .i64 (atR i)], .bool (idxB i)]) ∧ Below w.heap.size w w' := by
  by_cases h : 0 ≤ i ∧ i ≤ 1023
  · have e1 := Lib.hid (show atC i = i % 16 from if_pos h)
    have e2 := Lib.hid (show atR i = i / 16 from if_pos h)
    have e3 := Lib.hid (show idxB i = true from decide_eq_true h)
    obtain ⟨h1, h2⟩ := h
    go_enter Tryd.func10, Tryd.ntmps10
    go_wp2_with fail
    exact bodyPost_ret (v := .tuple #[.agg #[.int .i64 (i % 16), .int .i64 (i / 16)], .bool true]) (by simp [results, Tryd.results10, go_sem]) rfl
      ⟨by rw [e1.out, e2.out, e3.out], (Below.refl _ _).alloc (Nat.le_refl _) _⟩
  · have e1 := Lib.hid (show atC i = 0 from if_neg h)
    have e2 := Lib.hid (show atR i = 0 from if_neg h)
    have e3 := Lib.hid (show idxB i = false from decide_eq_false h)
    by_cases h1 : i < 0
    · clear h
      go_enter Tryd.func10, Tryd.ntmps10
      go_wp2_with fail
      exact bodyPost_ret (v := .tuple #[.agg #[.int .i64 0, .int .i64 0], .bool false]) (by simp [results, Tryd.results10, go_sem]) rfl
        ⟨by rw [e1.out, e2.out, e3.out], (Below.refl _ _).alloc (Nat.le_refl _) _⟩
    · have h2 : 1023 < i := by omega
      clear h
      go_enter Tryd.func10, Tryd.ntmps10
      go_wp2_with fail
      exact bodyPost_ret (v := .tuple #[.agg #[.int .i64 0, .int .i64 0], .bool false]) (by simp [results, Tryd.results10, go_sem]) rfl
        ⟨by rw [e1.out, e2.out, e3.out], (Below.refl _ _).alloc (Nat.le_refl _) _⟩

/-- a place's index; -1 of one that may not be -/
def idxN (c r : Int) : Int := if rightB c r = true then 16 * r + c else -1
set_option maxHeartbeats 400000 in
theorem rindex_any (c r : Int) (w : World) :
    Calls Tryd.prog 16 #[.agg #[.int .i64 c, .int .i64 r]] w fun e w' => e = .returned (.int .i64 (idxN c r)) ∧ Below w.heap.size w w' := by
  have HR := Lib.hid (rright_any c r)
  cases hr : rightB c r with
  | true =>
    obtain ⟨h1, h2, h3, h4⟩ := (rightB_iff c r).1 hr
    have e1 := Lib.hid (show idxN c r = 16 * r + c from if_pos hr)
    rw [hr] at HR
    clear hr
    go_enter Tryd.func16, Tryd.ntmps16
    go_wp2_with fail
    refine (HR.out _).mono ?_; rintro e w1 ⟨rfl, b1⟩
    have k0 := keep_cell b1 (p := ⟨w.heap.size, 0, none⟩) (v := .int .i64 c) (by simp)
    have k1 := keep_cell b1 (p := ⟨w.heap.size, 1, none⟩) (v := .int .i64 r) (by simp)
    go_wp2_with fail
    go_ret
    exact ⟨ret_int e1.out.symm, ((Below.refl _ _).alloc (Nat.le_refl _) _).trans (b1.mono (by simp))⟩
  | false =>
    have e1 := Lib.hid (show idxN c r = -1 from if_neg (by rw [hr]; decide))
    rw [hr] at HR
    clear hr
    go_enter Tryd.func16, Tryd.ntmps16
    go_wp2_with fail
    refine (HR.out _).mono ?_; rintro e w1 ⟨rfl, b1⟩
    go_wp2_with fail
    go_ret
    exact ⟨ret_int e1.out.symm, ((Below.refl _ _).alloc (Nat.le_refl _) _).trans (b1.mono (by simp))⟩

set_option maxHeartbeats 400000 in
theorem rfar_any (n : Int) (w : World) :
    Calls Tryd.prog 38 #[.int .i64 n] w fun e w' => e = .returned (.bool (decide (n < -64 ∨ 64 < n))) ∧ w = w' := by
  by_cases h1 : n < -64
  · have e1 := Lib.hid (show decide (n < -64 ∨ 64 < n) = true from decide_eq_true (.inl h1))
    go_enter Tryd.func38, Tryd.ntmps38
    go_wp2_with fail
    go_ret
    exact ⟨ret_bool e1.out.symm, rfl⟩
  · have e1 := Lib.hid (show decide (n < -64 ∨ 64 < n) = decide (64 < n) from decide_eq_decide.2 ⟨fun h => h.resolve_left h1, .inr⟩)
    go_enter Tryd.func38, Tryd.ntmps38
    go_wp2_with fail
    go_ret
    exact ⟨ret_bool (by simpa using e1.out.symm), rfl⟩

/-- a place so much on: does it stay on the sheet? -/
def mvB (c r x y : Int) : Bool := rightB c r && rightB (c + x) (r + y)
def mvC (c r x y : Int) : Int := if mvB c r x y = true then c + x else 0
def mvR (c r x y : Int) : Int := if mvB c r x y = true then r + y else 0
set_option maxHeartbeats 1000000 in
theorem rmove_any (c r x y : Int) (w : World) :
    Calls Tryd.prog 18 #[.agg #[.int .i64 c, .int .i64 r], .agg #[.int .i64 x, .int .i64 y]] w fun e w' => e = .returned (.tuple #[.agg #[.int .i64 (mvC c r x y), .int .i64 (mvR c r x y)], .bool (mvB c r x y)]) ∧ Below w.heap.size w w' := by
  have HR := Lib.hid (rright_any c r)
  have HQ := Lib.hid (rright_any (c + x) (r + y))
  have HX := Lib.hid (rfar_any x)
  have HY := Lib.hid (rfar_any y)
  cases hr : rightB c r with
  | false =>
    have e0 : mvB c r x y = false := by unfold mvB; rw [hr]; rfl
    have e1 := Lib.hid (show mvC c r x y = 0 from if_neg (by rw [e0]; decide))
    have e2 := Lib.hid (show mvR c r x y = 0 from if_neg (by rw [e0]; decide))
    have e3 := Lib.hid e0
    rw [hr] at HR
    clear hr e0
    go_enter Tryd.func18, Tryd.ntmps18
    go_wp2_with fail
    refine (HR.out _).mono ?_; rintro e w1 ⟨rfl, b1⟩
    have k0 := keep_cell b1 (p := ⟨w.heap.size + 1 + 1, 0, none⟩) (v := .int .i64 0) (by simp [go_sem])
    have k1 := keep_cell b1 (p := ⟨w.heap.size + 1 + 1, 1, none⟩) (v := .int .i64 0) (by simp [go_sem])
    have f0 := keep_frozen b1 (p := ⟨w.heap.size + 1 + 1, 0, none⟩) (by simp) (by simp [go_sem])
    have f1 := keep_frozen b1 (p := ⟨w.heap.size + 1 + 1, 1, none⟩) (by simp) (by simp [go_sem])
    go_wp2_with fail
    have b2 : Below w.heap.size w w1 := ((((Below.refl _ _).alloc (Nat.le_refl _) _).alloc (by simp) _).alloc (by simp; omega) _).trans (b1.mono (by simp; omega))
    exact bodyPost_ret (v := .tuple #[.agg #[.int .i64 0, .int .i64 0], .bool false]) (by simp [results, Tryd.results18, go_sem, k0, k1]) rfl
      ⟨by rw [e1.out, e2.out, e3.out], (b2.setCell (by simp; omega) _).setCell (by simp; omega) _⟩
  | true =>
    obtain ⟨c0, c1, r0, r1⟩ := (rightB_iff c r).1 hr
    rw [hr] at HR
    by_cases hf : (x < -64 ∨ 64 < x) ∨ (y < -64 ∨ 64 < y)
    · have e0 : mvB c r x y = false := by
        unfold mvB
        rw [hr, Bool.true_and, rightB_not]
        omega
      have e1 := Lib.hid (show mvC c r x y = 0 from if_neg (by rw [e0]; decide))
      have e2 := Lib.hid (show mvR c r x y = 0 from if_neg (by rw [e0]; decide))
      have e3 := Lib.hid e0
      clear hr e0
      by_cases hx : x < -64 ∨ 64 < x
      · have d1 : decide (x < -64 ∨ 64 < x) = true := decide_eq_true hx
        rw [d1] at HX
        clear hf hx d1
        go_enter Tryd.func18, Tryd.ntmps18
        go_wp2_with fail
        refine (HR.out _).mono ?_; rintro e w1 ⟨rfl, b1⟩
        have k0 := keep_cell b1 (p := ⟨w.heap.size + 1 + 1, 0, none⟩) (v := .int .i64 0) (by simp [go_sem])
        have k1 := keep_cell b1 (p := ⟨w.heap.size + 1 + 1, 1, none⟩) (v := .int .i64 0) (by simp [go_sem])
        have k2 := keep_cell b1 (p := ⟨w.heap.size + 1, 0, none⟩) (v := .int .i64 x) (by simp [go_sem])
        have f0 := keep_frozen b1 (p := ⟨w.heap.size + 1 + 1, 0, none⟩) (by simp) (by simp [go_sem])
        have f1 := keep_frozen b1 (p := ⟨w.heap.size + 1 + 1, 1, none⟩) (by simp) (by simp [go_sem])
        go_wp2_with fail
        refine (HX.out _).mono ?_; rintro e w2 ⟨rfl, rfl⟩
        go_wp2_with fail
        have b2 : Below w.heap.size w w1 := ((((Below.refl _ _).alloc (Nat.le_refl _) _).alloc (by simp) _).alloc (by simp; omega) _).trans (b1.mono (by simp; omega))
        exact bodyPost_ret (v := .tuple #[.agg #[.int .i64 0, .int .i64 0], .bool false]) (by simp [results, Tryd.results18, go_sem, k0, k1]) rfl
          ⟨by rw [e1.out, e2.out, e3.out], (b2.setCell (by simp; omega) _).setCell (by simp; omega) _⟩
      · have d1 : decide (x < -64 ∨ 64 < x) = false := decide_eq_false hx
        have d2 : decide (y < -64 ∨ 64 < y) = true := decide_eq_true (hf.resolve_left hx)
        rw [d1] at HX
        rw [d2] at HY
        clear hf hx d1 d2
        go_enter Tryd.func18, Tryd.ntmps18
        go_wp2_with fail
        refine (HR.out _).mono ?_; rintro e w1 ⟨rfl, b1⟩
        have k0 := keep_cell b1 (p := ⟨w.heap.size + 1 + 1, 0, none⟩) (v := .int .i64 0) (by simp [go_sem])
        have k1 := keep_cell b1 (p := ⟨w.heap.size + 1 + 1, 1, none⟩) (v := .int .i64 0) (by simp [go_sem])
        have k2 := keep_cell b1 (p := ⟨w.heap.size + 1, 0, none⟩) (v := .int .i64 x) (by simp [go_sem])
        have k3 := keep_cell b1 (p := ⟨w.heap.size + 1, 1, none⟩) (v := .int .i64 y) (by simp [go_sem])
        have f0 := keep_frozen b1 (p := ⟨w.heap.size + 1 + 1, 0, none⟩) (by simp) (by simp [go_sem])
        have f1 := keep_frozen b1 (p := ⟨w.heap.size + 1 + 1, 1, none⟩) (by simp) (by simp [go_sem])
        go_wp2_with fail
        refine (HX.out _).mono ?_; rintro e w2 ⟨rfl, rfl⟩
        go_wp2_with fail
        refine (HY.out _).mono ?_; rintro e w2 ⟨rfl, rfl⟩
        go_wp2_with fail
        have b2 : Below w.heap.size w w1 := ((((Below.refl _ _).alloc (Nat.le_refl _) _).alloc (by simp) _).alloc (by simp; omega) _).trans (b1.mono (by simp; omega))
        exact bodyPost_ret (v := .tuple #[.agg #[.int .i64 0, .int .i64 0], .bool false]) (by simp [results, Tryd.results18, go_sem, k0, k1]) rfl
          ⟨by rw [e1.out, e2.out, e3.out], (b2.setCell (by simp; omega) _).setCell (by simp; omega) _⟩
    · have d1 : decide (x < -64 ∨ 64 < x) = false := decide_eq_false fun h => hf (.inl h)
      have d2 : decide (y < -64 ∨ 64 < y) = false := decide_eq_false fun h => hf (.inr h)
      have x0 : -64 ≤ x := by omega
      have x1 : x ≤ 64 := by omega
      have y0 : -64 ≤ y := by omega
      have y1 : y ≤ 64 := by omega
      have e0 : mvB c r x y = rightB (c + x) (r + y) := by unfold mvB; rw [hr, Bool.true_and]
      rw [d1] at HX
      rw [d2] at HY
      clear hf d1 d2 hr
      cases hq : rightB (c + x) (r + y) with
      | true =>
        have e1 := Lib.hid (show mvC c r x y = c + x from if_pos (by rw [e0, hq]))
        have e2 := Lib.hid (show mvR c r x y = r + y from if_pos (by rw [e0, hq]))
        have e3 := Lib.hid (e0.trans hq)
        rw [hq] at HQ
        clear e0 hq
        go_enter Tryd.func18, Tryd.ntmps18
        go_wp2_with fail
        refine (HR.out _).mono ?_; rintro e w1 ⟨rfl, b1⟩
        have k0 := keep_cell b1 (p := ⟨w.heap.size + 1 + 1, 0, none⟩) (v := .int .i64 0) (by simp [go_sem])
        have k1 := keep_cell b1 (p := ⟨w.heap.size + 1 + 1, 1, none⟩) (v := .int .i64 0) (by simp [go_sem])
        have k2 := keep_cell b1 (p := ⟨w.heap.size + 1, 0, none⟩) (v := .int .i64 x) (by simp [go_sem])
        have k3 := keep_cell b1 (p := ⟨w.heap.size + 1, 1, none⟩) (v := .int .i64 y) (by simp [go_sem])
        have k4 := keep_cell b1 (p := ⟨w.heap.size, 0, none⟩) (v := .int .i64 c) (by simp [go_sem])
        have k5 := keep_cell b1 (p := ⟨w.heap.size, 1, none⟩) (v := .int .i64 r) (by simp [go_sem])
        have f0 := keep_frozen b1 (p := ⟨w.heap.size + 1 + 1, 0, none⟩) (by simp) (by simp [go_sem])
        have f1 := keep_frozen b1 (p := ⟨w.heap.size + 1 + 1, 1, none⟩) (by simp) (by simp [go_sem])
        have z1 : w.heap.size + 1 + 1 < w1.heap.size := by have := b1.size; simp at this; omega
        go_wp2_with fail
        refine (HX.out _).mono ?_; rintro e w2 ⟨rfl, rfl⟩
        go_wp2_with fail
        refine (HY.out _).mono ?_; rintro e w2 ⟨rfl, rfl⟩
        go_wp2_with fail
        refine (HQ.out _).mono ?_; rintro e w2 ⟨rfl, b2⟩
        have m0 := keep_cell b2 (p := ⟨w.heap.size + 1 + 1, 0, none⟩) (v := .int .i64 0) (by simp [go_sem, z1, k0])
        have m1 := keep_cell b2 (p := ⟨w.heap.size + 1 + 1, 1, none⟩) (v := .int .i64 0) (by simp [go_sem, z1, k1])
        have m2 := keep_cell b2 (p := ⟨w1.heap.size, 0, none⟩) (v := .int .i64 (c + x)) (by simp [go_sem])
        have m3 := keep_cell b2 (p := ⟨w1.heap.size, 1, none⟩) (v := .int .i64 (r + y)) (by simp [go_sem])
        have g0 := keep_frozen b2 (p := ⟨w.heap.size + 1 + 1, 0, none⟩) (by simp; omega) (by simp [go_sem, z1, f0])
        have g1 := keep_frozen b2 (p := ⟨w.heap.size + 1 + 1, 1, none⟩) (by simp; omega) (by simp [go_sem, z1, f1])
        have h2 : Below w.heap.size w w1 := ((((Below.refl _ _).alloc (Nat.le_refl _) _).alloc (by simp) _).alloc (by simp; omega) _).trans (b1.mono (by simp; omega))
        have h3 : Below w.heap.size w w2 := (h2.alloc (by omega) _).trans (b2.mono (by simp; omega))
        clear k0 k1 k2 k3 k4 k5 f0 f1
        go_wp2_with fail
        exact bodyPost_ret (v := .tuple #[.agg #[.int .i64 (c + x), .int .i64 (r + y)], .bool true]) (by simp [results, Tryd.results18, go_sem, m0, m1]) rfl
          ⟨by rw [e1.out, e2.out, e3.out], (h3.setCell (by simp; omega) _).setCell (by simp; omega) _⟩
      | false =>
        have e1 := Lib.hid (show mvC c r x y = 0 from if_neg (by rw [e0, hq]; decide))
        have e2 := Lib.hid (show mvR c r x y = 0 from if_neg (by rw [e0, hq]; decide))
        have e3 := Lib.hid (e0.trans hq)
        rw [hq] at HQ
        clear e0 hq
        go_enter Tryd.func18, Tryd.ntmps18
        go_wp2_with fail
        refine (HR.out _).mono ?_; rintro e w1 ⟨rfl, b1⟩
        have k0 := keep_cell b1 (p := ⟨w.heap.size + 1 + 1, 0, none⟩) (v := .int .i64 0) (by simp [go_sem])
        have k1 := keep_cell b1 (p := ⟨w.heap.size + 1 + 1, 1, none⟩) (v := .int .i64 0) (by simp [go_sem])
        have k2 := keep_cell b1 (p := ⟨w.heap.size + 1, 0, none⟩) (v := .int .i64 x) (by simp [go_sem])
        have k3 := keep_cell b1 (p := ⟨w.heap.size + 1, 1, none⟩) (v := .int .i64 y) (by simp [go_sem])
        have k4 := keep_cell b1 (p := ⟨w.heap.size, 0, none⟩) (v := .int .i64 c) (by simp [go_sem])
        have k5 := keep_cell b1 (p := ⟨w.heap.size, 1, none⟩) (v := .int .i64 r) (by simp [go_sem])
        have f0 := keep_frozen b1 (p := ⟨w.heap.size + 1 + 1, 0, none⟩) (by simp) (by simp [go_sem])
        have f1 := keep_frozen b1 (p := ⟨w.heap.size + 1 + 1, 1, none⟩) (by simp) (by simp [go_sem])
        have z1 : w.heap.size + 1 + 1 < w1.heap.size := by have := b1.size; simp at this; omega
        go_wp2_with fail
        refine (HX.out _).mono ?_; rintro e w2 ⟨rfl, rfl⟩
        go_wp2_with fail
        refine (HY.out _).mono ?_; rintro e w2 ⟨rfl, rfl⟩
        go_wp2_with fail
        refine (HQ.out _).mono ?_; rintro e w2 ⟨rfl, b2⟩
        have m0 := keep_cell b2 (p := ⟨w.heap.size + 1 + 1, 0, none⟩) (v := .int .i64 0) (by simp [go_sem, z1, k0])
        have m1 := keep_cell b2 (p := ⟨w.heap.size + 1 + 1, 1, none⟩) (v := .int .i64 0) (by simp [go_sem, z1, k1])
        have m2 := keep_cell b2 (p := ⟨w1.heap.size, 0, none⟩) (v := .int .i64 (c + x)) (by simp [go_sem])
        have m3 := keep_cell b2 (p := ⟨w1.heap.size, 1, none⟩) (v := .int .i64 (r + y)) (by simp [go_sem])
        have g0 := keep_frozen b2 (p := ⟨w.heap.size + 1 + 1, 0, none⟩) (by simp; omega) (by simp [go_sem, z1, f0])
        have g1 := keep_frozen b2 (p := ⟨w.heap.size + 1 + 1, 1, none⟩) (by simp; omega) (by simp [go_sem, z1, f1])
        have h2 : Below w.heap.size w w1 := ((((Below.refl _ _).alloc (Nat.le_refl _) _).alloc (by simp) _).alloc (by simp; omega) _).trans (b1.mono (by simp; omega))
        have h3 : Below w.heap.size w w2 := (h2.alloc (by omega) _).trans (b2.mono (by simp; omega))
        clear k0 k1 k2 k3 k4 k5 f0 f1
        go_wp2_with fail
        exact bodyPost_ret (v := .tuple #[.agg #[.int .i64 0, .int .i64 0], .bool false]) (by simp [results, Tryd.results18, go_sem, m0, m1]) rfl
          ⟨by rw [e1.out, e2.out, e3.out], (h3.setCell (by simp; omega) _).setCell (by simp; omega) _⟩
end Go.Proofs.YtmophlfpoehopaaDoor
