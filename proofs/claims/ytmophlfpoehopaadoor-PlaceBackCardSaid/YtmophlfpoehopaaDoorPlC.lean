/- place's own Move: through complex numbers. -/
import Derived.Test.YtmophlfpoehopaaDoorPlB
import Derived.Deep.RegionWith
namespace Go.Proofs.YtmophlfpoehopaaDoor
open Go.RowKit

theorem add_hop {a b c d re im : Nat} (h : cSumBits .add .f64 a b c d = some (re, im)) (t : TypeId) (w : World) :
    (binOp .add t (.complex .f64 a b) (.complex .f64 c d)).run Tryd.prog w = .ok (.complex .f64 re im) w := run_complex_sum w .add (Or.inl rfl) t .f64 a b c d re im h

set_option maxHeartbeats 1000000 in
theorem pmove_no (c r x y : Int) (w : World) (hr : rightB c r = false) :
    Calls Tryd.prog 17 #[.agg #[.int .i64 c, .int .i64 r], .agg #[.int .i64 x, .int .i64 y]] w fun e w' => e = .returned (.tuple #[.agg #[.int .i64 (mvC c r x y), .int .i64 (mvR c r x y)], .bool (mvB c r x y)]) ∧ Below w.heap.size w w' := by
  have HR := Lib.hid (pright_any c r)
  have e0 : mvB c r x y = false := by unfold mvB; rw [hr]; rfl
  have e1 := Lib.hid (show mvC c r x y = 0 from if_neg (by rw [e0]; decide))
  have e2 := Lib.hid (show mvR c r x y = 0 from if_neg (by rw [e0]; decide))
  have e3 := Lib.hid e0
  rw [hr] at HR
  clear hr e0
  go_enter Tryd.func17, Tryd.ntmps17
  go_wp2_with fail
  refine (HR.out _).mono ?_; rintro e w1 ⟨rfl, b1⟩
  have k0 := keep_cell b1 (p := ⟨w.heap.size + 1 + 1, 0, none⟩) (v := .int .i64 0) (by simp [go_sem])
  have k1 := keep_cell b1 (p := ⟨w.heap.size + 1 + 1, 1, none⟩) (v := .int .i64 0) (by simp [go_sem])
  have f0 := keep_frozen b1 (p := ⟨w.heap.size + 1 + 1, 0, none⟩) (by simp) (by simp [go_sem])
  have f1 := keep_frozen b1 (p := ⟨w.heap.size + 1 + 1, 1, none⟩) (by simp) (by simp [go_sem])
  go_wp2_with fail
  have b2 : Below w.heap.size w w1 := ((((Below.refl _ _).alloc (Nat.le_refl _) _).alloc (by simp) _).alloc (by simp; omega) _).trans (b1.mono (by simp; omega))
  exact bodyPost_ret (v := .tuple #[.agg #[.int .i64 0, .int .i64 0], .bool false]) (by simp [results, Tryd.results17, go_sem, k0, k1]) rfl
    ⟨by rw [e1.out, e2.out, e3.out], (b2.setCell (by simp; omega) _).setCell (by simp; omega) _⟩

set_option maxHeartbeats 1000000 in
theorem pmove_yes (c r x y : Int) (w : World) (hr : rightB c r = true) (hx : -9223372036854775808 ≤ x ∧ x ≤ 9223372036854775807) (hy : -9223372036854775808 ≤ y ∧ y ≤ 9223372036854775807) :
    Calls Tryd.prog 17 #[.agg #[.int .i64 c, .int .i64 r], .agg #[.int .i64 x, .int .i64 y]] w fun e w' => e = .returned (.tuple #[.agg #[.int .i64 (mvC c r x y), .int .i64 (mvR c r x y)], .bool (mvB c r x y)]) ∧ Below w.heap.size w w' := by
  have HR := Lib.hid (pright_any c r)
  obtain ⟨c0, c1, r0, r1⟩ := (rightB_iff c r).1 hr
  obtain ⟨a, ha, ha2, ha3⟩ := col_sum c x c0 c1 hx.1 hx.2
  obtain ⟨b, hb, hb2, hb3⟩ := row_sum r y r0 r1 hy.1 hy.2
  have HQ := Lib.hid (placed_any a b _ _ ha2 hb2 (c + x) (r + y) ha3 hb3)
  rw [right_and] at HQ
  have e0 : rightB (c + x) (r + y) = mvB c r x y := by unfold mvB; rw [hr]; rfl
  rw [e0] at HQ
  have e1 := Lib.hid (show mvC c r x y = ifB (mvB c r x y) (c + x) from rfl)
  have e2 := Lib.hid (show mvR c r x y = ifB (mvB c r x y) (r + y) from rfl)
  have hop := add_hop (a := fl c) (b := fl r) (c := fl x) (d := fl y) (re := a) (im := b) (by
    unfold cSumBits floatBits
    show (Ieee.double.add (fl c) (fl x)).bind _ = _
    rw [ha]
    show (Ieee.double.add (fl r) (fl y)).bind _ = _
    rw [hb]
    rfl)
  rw [hr] at HR
  clear hr e0 ha ha2 ha3 hb hb2 hb3 hx hy
  generalize ifB (mvB c r x y) (c + x) = X at *
  generalize ifB (mvB c r x y) (r + y) = Y at *
  generalize mvB c r x y = Z at *
  go_enter Tryd.func17, Tryd.ntmps17
  go_wp2_with fail
  refine (HR.out _).mono ?_; rintro e w1 ⟨rfl, b1⟩
  have k0 := keep_cell b1 (p := ⟨w.heap.size + 1 + 1, 0, none⟩) (v := .int .i64 0) (by simp [go_sem])
  have k1 := keep_cell b1 (p := ⟨w.heap.size + 1 + 1, 1, none⟩) (v := .int .i64 0) (by simp [go_sem])
  have k2 := keep_cell b1 (p := ⟨w.heap.size + 1, 0, none⟩) (v := .int .i64 x) (by simp [go_sem])
  have k3 := keep_cell b1 (p := ⟨w.heap.size + 1, 1, none⟩) (v := .int .i64 y) (by simp [go_sem])
  have k4 := keep_cell b1 (p := ⟨w.heap.size, 0, none⟩) (v := .int .i64 c) (by simp [go_sem])
  have k5 := keep_cell b1 (p := ⟨w.heap.size, 1, none⟩) (v := .int .i64 r) (by simp [go_sem])
  have f0 := keep_frozen b1 (p := ⟨w.heap.size + 1 + 1, 0, none⟩) (by simp) (by simp [go_sem])
  have f1 := keep_frozen b1 (p := ⟨w.heap.size + 1 + 1, 1, none⟩) (by simp) (by simp [go_sem])
  have z1 : w.heap.size + 1 + 1 < w1.heap.size := by have := b1.size; simp at this; omega
  have z2 : w.heap.size + 1 < w1.heap.size := by omega
  have z3 : w.heap.size < w1.heap.size := by omega
  have h1 : Below w.heap.size w w1 := ((((Below.refl _ _).alloc (Nat.le_refl _) _).alloc (by simp) _).alloc (by simp; omega) _).trans (b1.mono (by simp; omega))
  clear b1
  go_wp2_with fail
  go_region_with ((first
    | (go_at_call 37; refine (plane_any _ _ _).mono ?_; rintro e w2 ⟨rfl, rfl⟩)
    | (go_at_call 36; refine (HQ.out _).mono ?_; rintro e w3 ⟨rfl, b3⟩
       have B3 : Below w1.heap.size w1 w3 := (((Below.refl _ w1).drew.alloc (by simp) _).alloc (by simp) _).trans (b3.mono (by simp; omega))
       have m0 := keep_cell B3 k0
       have m1 := keep_cell B3 k1
       have g0 := keep_frozen B3 z1 f0
       have g1 := keep_frozen B3 z1 f1
       have h3 : Below w.heap.size w w3 := h1.trans (B3.mono h1.size))))
  all_goals
    go_wp2
    exact bodyPost_ret (v := .tuple #[.agg #[.int .i64 X, .int .i64 Y], .bool Z]) (by simp [results, Tryd.results17, go_sem, m0, m1]) rfl
      ⟨by rw [e1.out, e2.out], (h3.setCell (by simp; omega) _).setCell (by simp; omega) _⟩

theorem pmove_any (c r x y : Int) (w : World) (hx : -9223372036854775808 ≤ x ∧ x ≤ 9223372036854775807) (hy : -9223372036854775808 ≤ y ∧ y ≤ 9223372036854775807) :
    Calls Tryd.prog 17 #[.agg #[.int .i64 c, .int .i64 r], .agg #[.int .i64 x, .int .i64 y]] w fun e w' => e = .returned (.tuple #[.agg #[.int .i64 (mvC c r x y), .int .i64 (mvR c r x y)], .bool (mvB c r x y)]) ∧ Below w.heap.size w w' := by
  cases hr : rightB c r with
  | true => exact pmove_yes c r x y w hr hx hy
  | false => exact pmove_no c r x y w hr
end Go.Proofs.YtmophlfpoehopaaDoor
