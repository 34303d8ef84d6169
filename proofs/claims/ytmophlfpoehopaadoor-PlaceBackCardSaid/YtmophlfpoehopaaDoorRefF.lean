/- The document's own answers on places mirrored, and on the least range that has two. -/
import Derived.Test.YtmophlfpoehopaaDoorRefB
namespace Go.Proofs.YtmophlfpoehopaaDoor
open Go.RowKit

/-- a place changed over: may it be? -/
def mirB (c r : Int) : Bool := rightB c r && rightB r c
def mirC (c r : Int) : Int := if mirB c r = true then r else 0
def mirR (c r : Int) : Int := if mirB c r = true then c else 0
set_option maxHeartbeats 1000000 in
theorem rmirror_any (c r : Int) (w : World) :
    Calls Tryd.prog 20 #[.agg #[.int .i64 c, .int .i64 r]] w fun e w' => e = .returned (.tuple #[.agg #[.int .i64 (mirC c r), .int .i64 (mirR c r)], .bool (mirB c r)]) ∧ Below w.heap.size w w' := by
  have HP := Lib.hid (rright_any c r)
  have HQ := Lib.hid (rright_any r c)
  cases hp : rightB c r <;> cases hq : rightB r c
  all_goals
    rw [hp] at HP
    rw [hq] at HQ
  case true.true =>
    have e0 : mirB c r = true := by unfold mirB; rw [hp, hq]; rfl
    have e1 := Lib.hid (show mirC c r = r from if_pos e0)
    have e2 := Lib.hid (show mirR c r = c from if_pos e0)
    have e3 := Lib.hid e0
    clear hp hq e0
    go_enter Tryd.func20, Tryd.ntmps20
    go_wp2_with fail
    refine (HP.out _).mono ?_; rintro e w1 ⟨rfl, b1⟩
    have k0 := keep_cell b1 (p := ⟨w.heap.size + 1, 0, none⟩) (v := .int .i64 0) (by simp [go_sem])
    have k1 := keep_cell b1 (p := ⟨w.heap.size + 1, 1, none⟩) (v := .int .i64 0) (by simp [go_sem])
    have k2 := keep_cell b1 (p := ⟨w.heap.size + 1 + 1, 0, none⟩) (v := .int .i64 r) (by simp [go_sem])
    have k3 := keep_cell b1 (p := ⟨w.heap.size + 1 + 1, 1, none⟩) (v := .int .i64 c) (by simp [go_sem])
    have f0 := keep_frozen b1 (p := ⟨w.heap.size + 1, 0, none⟩) (by simp) (by simp [go_sem])
    have f1 := keep_frozen b1 (p := ⟨w.heap.size + 1, 1, none⟩) (by simp) (by simp [go_sem])
    have z1 : w.heap.size + 1 + 1 < w1.heap.size := by have := b1.size; simp at this; omega
    have h1 : Below w.heap.size w w1 := ((((Below.refl _ _).alloc (Nat.le_refl _) _).alloc (by simp) _).alloc (by simp; omega) _).trans (b1.mono (by simp; omega))
    clear b1
    go_wp2_with fail
    refine (HQ.out _).mono ?_; rintro e w2 ⟨rfl, b2⟩
    have m0 := keep_cell b2 k0
    have m1 := keep_cell b2 k1
    have m2 := keep_cell b2 k2
    have m3 := keep_cell b2 k3
    have g0 := keep_frozen b2 (by show w.heap.size + 1 < _; omega) f0
    have g1 := keep_frozen b2 (by show w.heap.size + 1 < _; omega) f1
    have h2 := h1.trans (b2.mono h1.size)
    clear k0 k1 k2 k3 f0 f1 b2
    go_wp2_with fail
    exact bodyPost_ret (v := .tuple #[.agg #[.int .i64 r, .int .i64 c], .bool true]) (by simp [results, Tryd.results20, go_sem, m0, m1]) rfl
      ⟨by rw [e1.out, e2.out, e3.out], (h2.setCell (by simp) _).setCell (by simp) _⟩
  all_goals
    have e0 : mirB c r = false := by unfold mirB; rw [hp, hq]; rfl
    have e1 := Lib.hid (show mirC c r = 0 from if_neg (by rw [e0]; decide))
    have e2 := Lib.hid (show mirR c r = 0 from if_neg (by rw [e0]; decide))
    have e3 := Lib.hid e0
    clear hp hq e0
    go_enter Tryd.func20, Tryd.ntmps20
    go_wp2_with fail
    refine (HP.out _).mono ?_; rintro e w1 ⟨rfl, b1⟩
    have k0 := keep_cell b1 (p := ⟨w.heap.size + 1, 0, none⟩) (v := .int .i64 0) (by simp [go_sem])
    have k1 := keep_cell b1 (p := ⟨w.heap.size + 1, 1, none⟩) (v := .int .i64 0) (by simp [go_sem])
    have k2 := keep_cell b1 (p := ⟨w.heap.size + 1 + 1, 0, none⟩) (v := .int .i64 r) (by simp [go_sem])
    have k3 := keep_cell b1 (p := ⟨w.heap.size + 1 + 1, 1, none⟩) (v := .int .i64 c) (by simp [go_sem])
    have f0 := keep_frozen b1 (p := ⟨w.heap.size + 1, 0, none⟩) (by simp) (by simp [go_sem])
    have f1 := keep_frozen b1 (p := ⟨w.heap.size + 1, 1, none⟩) (by simp) (by simp [go_sem])
    have z1 : w.heap.size + 1 + 1 < w1.heap.size := by have := b1.size; simp at this; omega
    have h1 : Below w.heap.size w w1 := ((((Below.refl _ _).alloc (Nat.le_refl _) _).alloc (by simp) _).alloc (by simp; omega) _).trans (b1.mono (by simp; omega))
    clear b1
    go_wp2_with fail
    refine (HQ.out _).mono ?_; rintro e w2 ⟨rfl, b2⟩
    have m0 := keep_cell b2 k0
    have m1 := keep_cell b2 k1
    have g0 := keep_frozen b2 (by show w.heap.size + 1 < _; omega) f0
    have g1 := keep_frozen b2 (by show w.heap.size + 1 < _; omega) f1
    have h2 := h1.trans (b2.mono h1.size)
    clear k0 k1 k2 k3 f0 f1 b2
    go_wp2_with fail
    exact bodyPost_ret (v := .tuple #[.agg #[.int .i64 0, .int .i64 0], .bool false]) (by simp [results, Tryd.results20, go_sem, m0, m1]) rfl
      ⟨by rw [e1.out, e2.out, e3.out], (h2.setCell (by simp) _).setCell (by simp) _⟩

/-- the least range that has two places -/
def spB (a b c d : Int) : Bool := rightB a b && rightB c d
def spN (x : Bool) (n : Int) : Int := if x = true then n else 0
set_option maxHeartbeats 1000000 in
theorem rspan_any (a b c d : Int) (w : World) :
    Calls Tryd.prog 22 #[.agg #[.int .i64 a, .int .i64 b], .agg #[.int .i64 c, .int .i64 d]] w fun e w' => e = .returned (.tuple #[.agg #[.int .i64 (spN (spB a b c d) (min a c)), .int .i64 (spN (spB a b c d) (min b d)), .int .i64 (spN (spB a b c d) (max a c)), .int .i64 (spN (spB a b c d) (max b d))], .bool (spB a b c d)]) ∧ Below w.heap.size w w' := by
  have HP := Lib.hid (rright_any a b)
  have HQ := Lib.hid (rright_any c d)
  cases hp : rightB a b <;> cases hq : rightB c d
  all_goals
    rw [hp] at HP
    rw [hq] at HQ
    have e0 : spB a b c d = (rightB a b && rightB c d) := rfl
    rw [hp, hq] at e0
    simp only [Bool.and_self, Bool.and_true, Bool.and_false] at e0
    rw [e0]
    clear hp hq e0
    go_enter Tryd.func22, Tryd.ntmps22
    go_wp2_with fail
    refine (HP.out _).mono ?_; rintro e w1 ⟨rfl, b1⟩
    have k0 := keep_cell b1 (p := ⟨w.heap.size + 1 + 1, 0, none⟩) (v := .int .i64 0) (by simp [go_sem])
    have k1 := keep_cell b1 (p := ⟨w.heap.size + 1 + 1, 1, none⟩) (v := .int .i64 0) (by simp [go_sem])
    have k2 := keep_cell b1 (p := ⟨w.heap.size + 1 + 1, 2, none⟩) (v := .int .i64 0) (by simp [go_sem])
    have k3 := keep_cell b1 (p := ⟨w.heap.size + 1 + 1, 3, none⟩) (v := .int .i64 0) (by simp [go_sem])
    have k4 := keep_cell b1 (p := ⟨w.heap.size, 0, none⟩) (v := .int .i64 a) (by simp [go_sem])
    have k5 := keep_cell b1 (p := ⟨w.heap.size, 1, none⟩) (v := .int .i64 b) (by simp [go_sem])
    have k6 := keep_cell b1 (p := ⟨w.heap.size + 1, 0, none⟩) (v := .int .i64 c) (by simp [go_sem])
    have k7 := keep_cell b1 (p := ⟨w.heap.size + 1, 1, none⟩) (v := .int .i64 d) (by simp [go_sem])
    have f0 := keep_frozen b1 (p := ⟨w.heap.size + 1 + 1, 0, none⟩) (by simp) (by simp [go_sem])
    have f1 := keep_frozen b1 (p := ⟨w.heap.size + 1 + 1, 1, none⟩) (by simp) (by simp [go_sem])
    have f2 := keep_frozen b1 (p := ⟨w.heap.size + 1 + 1, 2, none⟩) (by simp) (by simp [go_sem])
    have f3 := keep_frozen b1 (p := ⟨w.heap.size + 1 + 1, 3, none⟩) (by simp) (by simp [go_sem])
    have z1 : w.heap.size + 1 + 1 < w1.heap.size := by have := b1.size; simp at this; omega
    have h1 : Below w.heap.size w w1 := ((((Below.refl _ _).alloc (Nat.le_refl _) _).alloc (by simp) _).alloc (by simp; omega) _).trans (b1.mono (by simp; omega))
    clear b1
    go_wp2_with fail
    refine (HQ.out _).mono ?_; rintro e w2 ⟨rfl, b2⟩
    have m0 := keep_cell b2 k0
    have m1 := keep_cell b2 k1
    have m2 := keep_cell b2 k2
    have m3 := keep_cell b2 k3
    have m4 := keep_cell b2 k4
    have m5 := keep_cell b2 k5
    have m6 := keep_cell b2 k6
    have m7 := keep_cell b2 k7
    have g0 := keep_frozen b2 z1 f0
    have g1 := keep_frozen b2 z1 f1
    have g2 := keep_frozen b2 z1 f2
    have g3 := keep_frozen b2 z1 f3
    have h2 := h1.trans (b2.mono h1.size)
    clear k0 k1 k2 k3 k4 k5 k6 k7 f0 f1 f2 f3 b2
    go_wp2_with fail
    all_goals first
      | exact bodyPost_ret (v := .tuple #[.agg #[.int .i64 0, .int .i64 0, .int .i64 0, .int .i64 0], .bool false]) (by simp [results, Tryd.results22, go_sem, m0, m1, m2, m3]) rfl
          ⟨rfl, (((h2.setCell (by simp; omega) _).setCell (by simp; omega) _).setCell (by simp; omega) _).setCell (by simp; omega) _⟩
      | exact bodyPost_ret (v := .tuple #[.agg #[.int .i64 (min a c), .int .i64 (min b d), .int .i64 (max a c), .int .i64 (max b d)], .bool true]) (by simp [results, Tryd.results22, go_sem, m0, m1, m2, m3] <;> omega) rfl
          ⟨rfl, (((h2.setCell (by simp; omega) _).setCell (by simp; omega) _).setCell (by simp; omega) _).setCell (by simp; omega) _⟩
end Go.Proofs.YtmophlfpoehopaaDoor
