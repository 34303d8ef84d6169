/- What package value does with two numbers: told, truth, and each act, by one word: ActC. -/
import Derived.Test.YtpnmefkbfonhpaaDoorVaB
import Derived.Test.YtpnmefkbfonhpaaDoorNumA
import Derived.Shelf.Abstract
namespace Go.Proofs.YtpnmefkbfonhpaaDoor
open Go.RowKit

/-- AN ACT: function f makes of any two ints the value g says, and only lays new blocks. -/
structure ActC (f : Nat) (g : Int → Int → Int × Int) : Prop where
  enters : ∀ (args : Array Value) (w : World), (callFunc f args).run Tryd.prog w = .ok (.enter f args) w
  runs : ∀ a b : Int, B64 a → B64 b → ∀ w, Calls Tryd.prog f #[.int .i64 a, .int .i64 b] w fun e w' => e = .returned (.agg #[.int .i64 (g a b).1, .int .i64 (g a b).2]) ∧ Below w.heap.size w w'

set_option maxHeartbeats 400000 in
theorem uright_at (n f : Int) (w : World) (b0 b1 b4 bn : Bool) (h0 : (f == 0) = b0) (h1 : decide ((1 : Int) ≤ f) = b1) (h4 : decide (f ≤ 4) = b4) (hn : (n == 0) = bn) :
    Calls Tryd.prog 12 #[.agg #[.int .i64 n, .int .i64 f]] w fun e w' => e = .returned (.bool (b0 || bn && b1 && b4)) ∧ Below w.heap.size w w' := by
  cases b0 <;> cases b1 <;> cases b4 <;> cases bn
  all_goals
    go_enter Tryd.func12, Tryd.ntmps12
    go_wp2_with fail
    go_ret
    exact ⟨rfl, (Below.refl _ _).alloc (Nat.le_refl _) _⟩
theorem uright_any (n f : Int) (w : World) :
    Calls Tryd.prog 12 #[.agg #[.int .i64 n, .int .i64 f]] w fun e w' => e = .returned (.bool (vRight n f)) ∧ Below w.heap.size w w' :=
  (uright_at n f w _ _ _ _ rfl rfl rfl rfl).mono fun _ _ ⟨he, hb⟩ => ⟨he.trans (ret_bool (by
    unfold vRight
    rw [Bool.eq_iff_iff]
    simp only [Bool.or_eq_true, Bool.and_eq_true, beq_iff_eq, decide_eq_true_eq]
    omega)), hb⟩

set_option maxHeartbeats 400000 in
theorem utold_any (n : Int) (ok : Bool) (w : World) :
    Calls Tryd.prog 31 #[.int .i64 n, .bool ok] w fun e w' => e = .returned (.agg #[.int .i64 (tNum ok n), .int .i64 (tFault ok)]) ∧ Below w.heap.size w w' := by
  cases ok
  · go_enter Tryd.func31, Tryd.ntmps31
    go_wp2_with fail
    exact bodyPost_ret (v := .agg #[.int .i64 0, .int .i64 1]) (by simp [results, Tryd.results31, go_sem]) rfl ⟨rfl, (Below.refl _ _).alloc (Nat.le_refl _) _⟩
  · go_enter Tryd.func31, Tryd.ntmps31
    go_wp2_with fail
    exact bodyPost_ret (v := .agg #[.int .i64 n, .int .i64 0]) (by simp [results, Tryd.results31, go_sem]) rfl ⟨rfl, (Below.refl _ _).alloc (Nat.le_refl _) _⟩
set_option maxHeartbeats 400000 in
theorem utruth_any (b : Bool) (w : World) :
    Calls Tryd.prog 49 #[.bool b] w fun e w' => e = .returned (.agg #[.int .i64 (tru b), .int .i64 0]) ∧ Below w.heap.size w w' := by
  cases b
  · go_enter Tryd.func49, Tryd.ntmps49
    go_wp2_with fail
    exact bodyPost_ret (v := .agg #[.int .i64 0, .int .i64 0]) (by simp [results, Tryd.results49, go_sem]) rfl ⟨rfl, (Below.refl _ _).alloc (Nat.le_refl _) _⟩
  · go_enter Tryd.func49, Tryd.ntmps49
    go_wp2_with fail
    exact bodyPost_ret (v := .agg #[.int .i64 1, .int .i64 0]) (by simp [results, Tryd.results49, go_sem]) rfl ⟨rfl, (Below.refl _ _).alloc (Nat.le_refl _) _⟩

set_option maxHeartbeats 400000 in
theorem act_add : ActC 34 fun a b => vTold (a + b) where
  enters := fun args w => enters_of Tryd.func34 (by kernel_rfl) rfl args w
  runs := fun a b ha hb w => by
    have H := Lib.hid (add_any a b ha hb)
    clear ha hb
    go_enter Tryd.func34, Tryd.ntmps34
    go_wp2_with fail
    refine (H.out _).mono ?_; rintro e w1 ⟨rfl, b1⟩
    have k10 := keep_cell b1 (p := ⟨w.heap.size, 0, none⟩) (v := .int .i64 0) (by simp [go_sem])
    have k11 := keep_cell b1 (p := ⟨w.heap.size, 1, none⟩) (v := .int .i64 0) (by simp [go_sem])
    have f10 := keep_frozen b1 (p := ⟨w.heap.size, 0, none⟩) (by simp) (by simp [go_sem])
    have f11 := keep_frozen b1 (p := ⟨w.heap.size, 1, none⟩) (by simp) (by simp [go_sem])
    have h1 : Below w.heap.size w w1 := ((Below.refl _ _).alloc (Nat.le_refl _) _).trans (b1.mono (by simp))
    have z1 : w.heap.size < w1.heap.size := Lib.lt_of_cell k10
    clear b1
    go_wp2_with fail
    refine (utold_any _ _ _).mono ?_; rintro e w2 ⟨rfl, b2⟩
    have k20 := keep_cell b2 k10
    have k21 := keep_cell b2 k11
    have f20 := keep_frozen b2 z1 f10
    have f21 := keep_frozen b2 z1 f11
    have h2 := h1.trans (b2.mono h1.size)
    have z2 : w.heap.size < w2.heap.size := Lib.lt_of_cell k20
    clear b2 k10 k11 f10 f11 h1 z1
    go_wp2_with fail
    exact bodyPost_ret (v := .agg #[.int .i64 (tNum (inI (a + b)) (keep (inI (a + b)) (a + b))), .int .i64 (tFault (inI (a + b)))]) (by simp [results, Tryd.results34, go_sem, k20, k21]) rfl ⟨rfl, (h2.setCell (by simp) _).setCell (by simp) _⟩
set_option maxHeartbeats 400000 in
theorem act_sub : ActC 42 fun a b => vTold (a - b) where
  enters := fun args w => enters_of Tryd.func42 (by kernel_rfl) rfl args w
  runs := fun a b ha hb w => by
    have H := Lib.hid (sub_any a b ha hb)
    clear ha hb
    go_enter Tryd.func42, Tryd.ntmps42
    go_wp2_with fail
    refine (H.out _).mono ?_; rintro e w1 ⟨rfl, b1⟩
    have k10 := keep_cell b1 (p := ⟨w.heap.size, 0, none⟩) (v := .int .i64 0) (by simp [go_sem])
    have k11 := keep_cell b1 (p := ⟨w.heap.size, 1, none⟩) (v := .int .i64 0) (by simp [go_sem])
    have f10 := keep_frozen b1 (p := ⟨w.heap.size, 0, none⟩) (by simp) (by simp [go_sem])
    have f11 := keep_frozen b1 (p := ⟨w.heap.size, 1, none⟩) (by simp) (by simp [go_sem])
    have h1 : Below w.heap.size w w1 := ((Below.refl _ _).alloc (Nat.le_refl _) _).trans (b1.mono (by simp))
    have z1 : w.heap.size < w1.heap.size := Lib.lt_of_cell k10
    clear b1
    go_wp2_with fail
    refine (utold_any _ _ _).mono ?_; rintro e w2 ⟨rfl, b2⟩
    have k20 := keep_cell b2 k10
    have k21 := keep_cell b2 k11
    have f20 := keep_frozen b2 z1 f10
    have f21 := keep_frozen b2 z1 f11
    have h2 := h1.trans (b2.mono h1.size)
    have z2 : w.heap.size < w2.heap.size := Lib.lt_of_cell k20
    clear b2 k10 k11 f10 f11 h1 z1
    go_wp2_with fail
    exact bodyPost_ret (v := .agg #[.int .i64 (tNum (inI (a - b)) (keep (inI (a - b)) (a - b))), .int .i64 (tFault (inI (a - b)))]) (by simp [results, Tryd.results42, go_sem, k20, k21]) rfl ⟨rfl, (h2.setCell (by simp) _).setCell (by simp) _⟩
set_option maxHeartbeats 400000 in
theorem act_mul : ActC 44 fun a b => vTold (a * b) where
  enters := fun args w => enters_of Tryd.func44 (by kernel_rfl) rfl args w
  runs := fun a b ha hb w => by
    have H := Lib.hid (mul_any a b ha hb)
    clear ha hb
    go_enter Tryd.func44, Tryd.ntmps44
    go_wp2_with fail
    refine (H.out _).mono ?_; rintro e w1 ⟨rfl, b1⟩
    have k10 := keep_cell b1 (p := ⟨w.heap.size, 0, none⟩) (v := .int .i64 0) (by simp [go_sem])
    have k11 := keep_cell b1 (p := ⟨w.heap.size, 1, none⟩) (v := .int .i64 0) (by simp [go_sem])
    have f10 := keep_frozen b1 (p := ⟨w.heap.size, 0, none⟩) (by simp) (by simp [go_sem])
    have f11 := keep_frozen b1 (p := ⟨w.heap.size, 1, none⟩) (by simp) (by simp [go_sem])
    have h1 : Below w.heap.size w w1 := ((Below.refl _ _).alloc (Nat.le_refl _) _).trans (b1.mono (by simp))
    have z1 : w.heap.size < w1.heap.size := Lib.lt_of_cell k10
    clear b1
    go_wp2_with fail
    refine (utold_any _ _ _).mono ?_; rintro e w2 ⟨rfl, b2⟩
    have k20 := keep_cell b2 k10
    have k21 := keep_cell b2 k11
    have f20 := keep_frozen b2 z1 f10
    have f21 := keep_frozen b2 z1 f11
    have h2 := h1.trans (b2.mono h1.size)
    have z2 : w.heap.size < w2.heap.size := Lib.lt_of_cell k20
    clear b2 k10 k11 f10 f11 h1 z1
    go_wp2_with fail
    exact bodyPost_ret (v := .agg #[.int .i64 (tNum (inI (a * b)) (keep (inI (a * b)) (a * b))), .int .i64 (tFault (inI (a * b)))]) (by simp [results, Tryd.results44, go_sem, k20, k21]) rfl ⟨rfl, (h2.setCell (by simp) _).setCell (by simp) _⟩
set_option maxHeartbeats 400000 in
theorem act_div : ActC 46 fun a b => if b = 0 then (0, 2) else vTold (a.tdiv b) where
  enters := fun args w => enters_of Tryd.func46 (by kernel_rfl) rfl args w
  runs := fun a b ha hb w => by
    by_cases hz : b = 0
    · subst hz
      go_enter Tryd.func46, Tryd.ntmps46
      go_wp2_with fail
      exact bodyPost_ret (v := .agg #[.int .i64 0, .int .i64 2]) (by simp [results, Tryd.results46, go_sem]) rfl ⟨rfl, (Below.refl _ _).alloc (Nat.le_refl _) _⟩
    · have H := Lib.hid (div_any a b ha hb hz)
      rw [if_neg hz]
      have hz1 : (b == 0) = false := by rw [beq_eq_false_iff_ne]; exact hz
      clear ha hb hz
      go_enter Tryd.func46, Tryd.ntmps46
      go_wp2_with fail
      refine (H.out _).mono ?_; rintro e w1 ⟨rfl, b1⟩
      have k10 := keep_cell b1 (p := ⟨w.heap.size, 0, none⟩) (v := .int .i64 0) (by simp [go_sem])
      have k11 := keep_cell b1 (p := ⟨w.heap.size, 1, none⟩) (v := .int .i64 0) (by simp [go_sem])
      have f10 := keep_frozen b1 (p := ⟨w.heap.size, 0, none⟩) (by simp) (by simp [go_sem])
      have f11 := keep_frozen b1 (p := ⟨w.heap.size, 1, none⟩) (by simp) (by simp [go_sem])
      have h1 : Below w.heap.size w w1 := ((Below.refl _ _).alloc (Nat.le_refl _) _).trans (b1.mono (by simp))
      have z1 : w.heap.size < w1.heap.size := Lib.lt_of_cell k10
      clear b1
      go_wp2_with fail
      refine (utold_any _ _ _).mono ?_; rintro e w2 ⟨rfl, b2⟩
      have k20 := keep_cell b2 k10
      have k21 := keep_cell b2 k11
      have f20 := keep_frozen b2 z1 f10
      have f21 := keep_frozen b2 z1 f11
      have h2 := h1.trans (b2.mono h1.size)
      have z2 : w.heap.size < w2.heap.size := Lib.lt_of_cell k20
      clear b2 k10 k11 f10 f11 h1 z1
      go_wp2_with fail
      exact bodyPost_ret (v := .agg #[.int .i64 (tNum (inI (a.tdiv b)) (keep (inI (a.tdiv b)) (a.tdiv b))), .int .i64 (tFault (inI (a.tdiv b)))]) (by simp [results, Tryd.results46, go_sem, k20, k21]) rfl ⟨rfl, (h2.setCell (by simp) _).setCell (by simp) _⟩
set_option maxHeartbeats 400000 in
theorem act_neg : ActC 30 fun _ b => vTold (-b) where
  enters := fun args w => enters_of Tryd.func30 (by kernel_rfl) rfl args w
  runs := fun a b _ hb w => by
    have H := Lib.hid (neg_any b hb)
    clear hb
    go_enter Tryd.func30, Tryd.ntmps30
    go_wp2_with fail
    refine (H.out _).mono ?_; rintro e w1 ⟨rfl, b1⟩
    have k10 := keep_cell b1 (p := ⟨w.heap.size, 0, none⟩) (v := .int .i64 0) (by simp [go_sem])
    have k11 := keep_cell b1 (p := ⟨w.heap.size, 1, none⟩) (v := .int .i64 0) (by simp [go_sem])
    have f10 := keep_frozen b1 (p := ⟨w.heap.size, 0, none⟩) (by simp) (by simp [go_sem])
    have f11 := keep_frozen b1 (p := ⟨w.heap.size, 1, none⟩) (by simp) (by simp [go_sem])
    have h1 : Below w.heap.size w w1 := ((Below.refl _ _).alloc (Nat.le_refl _) _).trans (b1.mono (by simp))
    have z1 : w.heap.size < w1.heap.size := Lib.lt_of_cell k10
    clear b1
    go_wp2_with fail
    refine (utold_any _ _ _).mono ?_; rintro e w2 ⟨rfl, b2⟩
    have k20 := keep_cell b2 k10
    have k21 := keep_cell b2 k11
    have f20 := keep_frozen b2 z1 f10
    have f21 := keep_frozen b2 z1 f11
    have h2 := h1.trans (b2.mono h1.size)
    have z2 : w.heap.size < w2.heap.size := Lib.lt_of_cell k20
    clear b2 k10 k11 f10 f11 h1 z1
    go_wp2_with fail
    exact bodyPost_ret (v := .agg #[.int .i64 (tNum (inI (-b)) (keep (inI (-b)) (-b))), .int .i64 (tFault (inI (-b)))]) (by simp [results, Tryd.results30, go_sem, k20, k21]) rfl ⟨rfl, (h2.setCell (by simp) _).setCell (by simp) _⟩
set_option maxHeartbeats 400000 in
theorem act_lt : ActC 48 fun a b => (tru (decide (a < b)), 0) where
  enters := fun args w => enters_of Tryd.func48 (by kernel_rfl) rfl args w
  runs := fun a b _ _ w => by
    go_enter Tryd.func48, Tryd.ntmps48
    go_wp2_with fail
    refine (utruth_any (decide (a < b)) _).mono ?_; rintro e w1 ⟨rfl, b1⟩
    have k10 := keep_cell b1 (p := ⟨w.heap.size, 0, none⟩) (v := .int .i64 0) (by simp [go_sem])
    have k11 := keep_cell b1 (p := ⟨w.heap.size, 1, none⟩) (v := .int .i64 0) (by simp [go_sem])
    have f10 := keep_frozen b1 (p := ⟨w.heap.size, 0, none⟩) (by simp) (by simp [go_sem])
    have f11 := keep_frozen b1 (p := ⟨w.heap.size, 1, none⟩) (by simp) (by simp [go_sem])
    have h1 : Below w.heap.size w w1 := ((Below.refl _ _).alloc (Nat.le_refl _) _).trans (b1.mono (by simp))
    have z1 : w.heap.size < w1.heap.size := Lib.lt_of_cell k10
    clear b1
    go_wp2_with fail
    exact bodyPost_ret (v := .agg #[.int .i64 (tru (decide (a < b))), .int .i64 0]) (by simp [results, Tryd.results48, go_sem, k10, k11]) rfl ⟨rfl, (h1.setCell (by simp) _).setCell (by simp) _⟩
set_option maxHeartbeats 400000 in
theorem act_le : ActC 50 fun a b => (tru (decide (a ≤ b)), 0) where
  enters := fun args w => enters_of Tryd.func50 (by kernel_rfl) rfl args w
  runs := fun a b _ _ w => by
    go_enter Tryd.func50, Tryd.ntmps50
    go_wp2_with fail
    refine (utruth_any (decide (a ≤ b)) _).mono ?_; rintro e w1 ⟨rfl, b1⟩
    have k10 := keep_cell b1 (p := ⟨w.heap.size, 0, none⟩) (v := .int .i64 0) (by simp [go_sem])
    have k11 := keep_cell b1 (p := ⟨w.heap.size, 1, none⟩) (v := .int .i64 0) (by simp [go_sem])
    have f10 := keep_frozen b1 (p := ⟨w.heap.size, 0, none⟩) (by simp) (by simp [go_sem])
    have f11 := keep_frozen b1 (p := ⟨w.heap.size, 1, none⟩) (by simp) (by simp [go_sem])
    have h1 : Below w.heap.size w w1 := ((Below.refl _ _).alloc (Nat.le_refl _) _).trans (b1.mono (by simp))
    have z1 : w.heap.size < w1.heap.size := Lib.lt_of_cell k10
    clear b1
    go_wp2_with fail
    exact bodyPost_ret (v := .agg #[.int .i64 (tru (decide (a ≤ b))), .int .i64 0]) (by simp [results, Tryd.results50, go_sem, k10, k11]) rfl ⟨rfl, (h1.setCell (by simp) _).setCell (by simp) _⟩
set_option maxHeartbeats 400000 in
theorem act_eq : ActC 51 fun a b => (tru (a == b), 0) where
  enters := fun args w => enters_of Tryd.func51 (by kernel_rfl) rfl args w
  runs := fun a b _ _ w => by
    go_enter Tryd.func51, Tryd.ntmps51
    go_wp2_with fail
    refine (utruth_any (a == b) _).mono ?_; rintro e w1 ⟨rfl, b1⟩
    have k10 := keep_cell b1 (p := ⟨w.heap.size, 0, none⟩) (v := .int .i64 0) (by simp [go_sem])
    have k11 := keep_cell b1 (p := ⟨w.heap.size, 1, none⟩) (v := .int .i64 0) (by simp [go_sem])
    have f10 := keep_frozen b1 (p := ⟨w.heap.size, 0, none⟩) (by simp) (by simp [go_sem])
    have f11 := keep_frozen b1 (p := ⟨w.heap.size, 1, none⟩) (by simp) (by simp [go_sem])
    have h1 : Below w.heap.size w w1 := ((Below.refl _ _).alloc (Nat.le_refl _) _).trans (b1.mono (by simp))
    have z1 : w.heap.size < w1.heap.size := Lib.lt_of_cell k10
    clear b1
    go_wp2_with fail
    exact bodyPost_ret (v := .agg #[.int .i64 (tru (a == b)), .int .i64 0]) (by simp [results, Tryd.results51, go_sem, k10, k11]) rfl ⟨rfl, (h1.setCell (by simp) _).setCell (by simp) _⟩
set_option maxHeartbeats 400000 in
theorem act_ne : ActC 52 fun a b => (tru (a != b), 0) where
  enters := fun args w => enters_of Tryd.func52 (by kernel_rfl) rfl args w
  runs := fun a b _ _ w => by
    go_enter Tryd.func52, Tryd.ntmps52
    go_wp2_with fail
    refine (utruth_any (a != b) _).mono ?_; rintro e w1 ⟨rfl, b1⟩
    have k10 := keep_cell b1 (p := ⟨w.heap.size, 0, none⟩) (v := .int .i64 0) (by simp [go_sem])
    have k11 := keep_cell b1 (p := ⟨w.heap.size, 1, none⟩) (v := .int .i64 0) (by simp [go_sem])
    have f10 := keep_frozen b1 (p := ⟨w.heap.size, 0, none⟩) (by simp) (by simp [go_sem])
    have f11 := keep_frozen b1 (p := ⟨w.heap.size, 1, none⟩) (by simp) (by simp [go_sem])
    have h1 : Below w.heap.size w w1 := ((Below.refl _ _).alloc (Nat.le_refl _) _).trans (b1.mono (by simp))
    have z1 : w.heap.size < w1.heap.size := Lib.lt_of_cell k10
    clear b1
    go_wp2_with fail
    exact bodyPost_ret (v := .agg #[.int .i64 (tru (a != b)), .int .i64 0]) (by simp [results, Tryd.results52, go_sem, k10, k11]) rfl ⟨rfl, (h1.setCell (by simp) _).setCell (by simp) _⟩
set_option maxHeartbeats 400000 in
theorem act_ge : ActC 53 fun a b => (tru (decide (b ≤ a)), 0) where
  enters := fun args w => enters_of Tryd.func53 (by kernel_rfl) rfl args w
  runs := fun a b _ _ w => by
    go_enter Tryd.func53, Tryd.ntmps53
    go_wp2_with fail
    refine (utruth_any (decide (b ≤ a)) _).mono ?_; rintro e w1 ⟨rfl, b1⟩
    have k10 := keep_cell b1 (p := ⟨w.heap.size, 0, none⟩) (v := .int .i64 0) (by simp [go_sem])
    have k11 := keep_cell b1 (p := ⟨w.heap.size, 1, none⟩) (v := .int .i64 0) (by simp [go_sem])
    have f10 := keep_frozen b1 (p := ⟨w.heap.size, 0, none⟩) (by simp) (by simp [go_sem])
    have f11 := keep_frozen b1 (p := ⟨w.heap.size, 1, none⟩) (by simp) (by simp [go_sem])
    have h1 : Below w.heap.size w w1 := ((Below.refl _ _).alloc (Nat.le_refl _) _).trans (b1.mono (by simp))
    have z1 : w.heap.size < w1.heap.size := Lib.lt_of_cell k10
    clear b1
    go_wp2_with fail
    exact bodyPost_ret (v := .agg #[.int .i64 (tru (decide (b ≤ a))), .int .i64 0]) (by simp [results, Tryd.results53, go_sem, k10, k11]) rfl ⟨rfl, (h1.setCell (by simp) _).setCell (by simp) _⟩
set_option maxHeartbeats 400000 in
theorem act_gt : ActC 54 fun a b => (tru (decide (b < a)), 0) where
  enters := fun args w => enters_of Tryd.func54 (by kernel_rfl) rfl args w
  runs := fun a b _ _ w => by
    go_enter Tryd.func54, Tryd.ntmps54
    go_wp2_with fail
    refine (utruth_any (decide (b < a)) _).mono ?_; rintro e w1 ⟨rfl, b1⟩
    have k10 := keep_cell b1 (p := ⟨w.heap.size, 0, none⟩) (v := .int .i64 0) (by simp [go_sem])
    have k11 := keep_cell b1 (p := ⟨w.heap.size, 1, none⟩) (v := .int .i64 0) (by simp [go_sem])
    have f10 := keep_frozen b1 (p := ⟨w.heap.size, 0, none⟩) (by simp) (by simp [go_sem])
    have f11 := keep_frozen b1 (p := ⟨w.heap.size, 1, none⟩) (by simp) (by simp [go_sem])
    have h1 : Below w.heap.size w w1 := ((Below.refl _ _).alloc (Nat.le_refl _) _).trans (b1.mono (by simp))
    have z1 : w.heap.size < w1.heap.size := Lib.lt_of_cell k10
    clear b1
    go_wp2_with fail
    exact bodyPost_ret (v := .agg #[.int .i64 (tru (decide (b < a))), .int .i64 0]) (by simp [results, Tryd.results54, go_sem, k10, k11]) rfl ⟨rfl, (h1.setCell (by simp) _).setCell (by simp) _⟩
set_option maxHeartbeats 400000 in
theorem act_least : ActC 36 fun a b => (if b < a then b else a, 0) where
  enters := fun args w => enters_of Tryd.func36 (by kernel_rfl) rfl args w
  runs := fun a b _ _ w => by
    by_cases h : b < a
    · rw [if_pos h]
      go_enter Tryd.func36, Tryd.ntmps36
      go_wp2_with fail
      exact bodyPost_ret (v := .agg #[.int .i64 b, .int .i64 0]) (by simp [results, Tryd.results36, go_sem]) rfl ⟨rfl, (Below.refl _ _).alloc (Nat.le_refl _) _⟩
    · rw [if_neg h]
      go_enter Tryd.func36, Tryd.ntmps36
      go_wp2_with fail
      exact bodyPost_ret (v := .agg #[.int .i64 a, .int .i64 0]) (by simp [results, Tryd.results36, go_sem]) rfl ⟨rfl, (Below.refl _ _).alloc (Nat.le_refl _) _⟩
set_option maxHeartbeats 400000 in
theorem act_most : ActC 37 fun a b => (if a < b then b else a, 0) where
  enters := fun args w => enters_of Tryd.func37 (by kernel_rfl) rfl args w
  runs := fun a b _ _ w => by
    by_cases h : a < b
    · rw [if_pos h]
      go_enter Tryd.func37, Tryd.ntmps37
      go_wp2_with fail
      exact bodyPost_ret (v := .agg #[.int .i64 b, .int .i64 0]) (by simp [results, Tryd.results37, go_sem]) rfl ⟨rfl, (Below.refl _ _).alloc (Nat.le_refl _) _⟩
    · rw [if_neg h]
      go_enter Tryd.func37, Tryd.ntmps37
      go_wp2_with fail
      exact bodyPost_ret (v := .agg #[.int .i64 a, .int .i64 0]) (by simp [results, Tryd.results37, go_sem]) rfl ⟨rfl, (Below.refl _ _).alloc (Nat.le_refl _) _⟩
end Go.Proofs.YtpnmefkbfonhpaaDoor
