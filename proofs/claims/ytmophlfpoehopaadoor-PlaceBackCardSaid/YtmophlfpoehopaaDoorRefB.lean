/- The document's own answers on places mirrored, and on ranges. -/
import Derived.Test.YtmophlfpoehopaaDoorRefA
namespace Go.Proofs.YtmophlfpoehopaaDoor
open Go.RowKit

/-- What a range's four cells, or a place's two, read behind a call that only lays new blocks. -/
theorem keep_fresh {W w1 : World} {cs : Array Value} {T : TypeId} (hb : Below (W.alloc (.cells cs T)).heap.size (W.alloc (.cells cs T)) w1) (i : Nat) {v : Value} (h : cs[i]? = some v) : w1.cell? ⟨W.heap.size, i, none⟩ = some v :=
  keep_cell hb (by rw [cell_of_row _ _ i cs T (0, 0) (heap_alloc_new W _)]; exact h)

/-- may a range be? -/
def wholeB (a b c d : Int) : Bool := rightB a b && rightB c d && (decide (a ≤ c) && decide (b ≤ d))
theorem wholeB_iff (a b c d : Int) : wholeB a b c d = true ↔ (0 ≤ a ∧ a ≤ 15 ∧ 0 ≤ b ∧ b ≤ 63) ∧ (0 ≤ c ∧ c ≤ 15 ∧ 0 ≤ d ∧ d ≤ 63) ∧ a ≤ c ∧ b ≤ d := by
  unfold wholeB rightB; simp [and_assoc]
set_option maxHeartbeats 1000000 in
theorem rwhole_any (a b c d : Int) (w : World) :
    Calls Tryd.prog 29 #[.agg #[.int .i64 a, .int .i64 b, .int .i64 c, .int .i64 d]] w fun e w' => e = .returned (.bool (wholeB a b c d)) ∧ Below w.heap.size w w' := by
  have HF := Lib.hid (rright_any a b)
  have HT := Lib.hid (rright_any c d)
  cases hf : rightB a b with
  | false =>
    have e1 := Lib.hid (show wholeB a b c d = false from by unfold wholeB; rw [hf]; rfl)
    rw [hf] at HF
    clear hf
    go_enter Tryd.func29, Tryd.ntmps29
    go_wp2_with fail
    refine (HF.out _).mono ?_; rintro e w1 ⟨rfl, b1⟩
    have k2 := keep_fresh b1 2 (v := .int .i64 c) rfl
    have k3 := keep_fresh b1 3 (v := .int .i64 d) rfl
    go_wp2_with fail
    refine (HT.out _).mono ?_; rintro e w2 ⟨rfl, b2⟩
    have h1 : Below w.heap.size w w1 := ((Below.refl _ _).alloc (Nat.le_refl _) _).trans (b1.mono (by simp))
    have h2 := h1.trans (b2.mono h1.size)
    clear k2 k3 b1 b2
    go_wp2_with fail
    go_ret
    exact ⟨ret_bool e1.out.symm, h2⟩
  | true =>
    rw [hf] at HF
    cases ht : rightB c d with
    | false =>
      have e1 := Lib.hid (show wholeB a b c d = false from by unfold wholeB; rw [hf, ht]; rfl)
      rw [ht] at HT
      clear hf ht
      go_enter Tryd.func29, Tryd.ntmps29
      go_wp2_with fail
      refine (HF.out _).mono ?_; rintro e w1 ⟨rfl, b1⟩
      have k2 := keep_fresh b1 2 (v := .int .i64 c) rfl
      have k3 := keep_fresh b1 3 (v := .int .i64 d) rfl
      go_wp2_with fail
      refine (HT.out _).mono ?_; rintro e w2 ⟨rfl, b2⟩
      have h1 : Below w.heap.size w w1 := ((Below.refl _ _).alloc (Nat.le_refl _) _).trans (b1.mono (by simp))
      have h2 := h1.trans (b2.mono h1.size)
      clear k2 k3 b1 b2
      go_wp2_with fail
      go_ret
      exact ⟨ret_bool e1.out.symm, h2⟩
    | true =>
      have e1 := Lib.hid (show wholeB a b c d = (decide (a ≤ c) && decide (b ≤ d)) from by unfold wholeB; rw [hf, ht]; rfl)
      rw [ht] at HT
      clear hf ht
      go_enter Tryd.func29, Tryd.ntmps29
      go_wp2_with fail
      refine (HF.out _).mono ?_; rintro e w1 ⟨rfl, b1⟩
      have j0 := keep_fresh b1 0 (v := .int .i64 a) rfl
      have j1 := keep_fresh b1 1 (v := .int .i64 b) rfl
      have j2 := keep_fresh b1 2 (v := .int .i64 c) rfl
      have j3 := keep_fresh b1 3 (v := .int .i64 d) rfl
      go_wp2_with fail
      refine (HT.out _).mono ?_; rintro e w2 ⟨rfl, b2⟩
      have k0 := keep_cell b2 j0
      have k1 := keep_cell b2 j1
      have k2 := keep_cell b2 j2
      have k3 := keep_cell b2 j3
      have h1 : Below w.heap.size w w1 := ((Below.refl _ _).alloc (Nat.le_refl _) _).trans (b1.mono (by simp))
      have h2 := h1.trans (b2.mono h1.size)
      clear j0 j1 j2 j3 b1 b2
      by_cases hac : a ≤ c
      · have d1 : decide (a ≤ c) = true := decide_eq_true hac
        rw [d1, Bool.true_and] at e1
        clear hac
        go_wp2_with fail
        go_ret
        exact ⟨ret_bool e1.out.symm, h2⟩
      · have d1 : decide (a ≤ c) = false := decide_eq_false hac
        rw [d1, Bool.false_and] at e1
        clear hac
        go_wp2_with fail
        go_ret
        exact ⟨ret_bool e1.out.symm, h2⟩

/-- does a range that may be have a place? -/
def hasB (a b c d x y : Int) : Bool := wholeB a b c d && decide (a ≤ x ∧ x ≤ c ∧ b ≤ y ∧ y ≤ d)
set_option maxHeartbeats 1000000 in
theorem rhas_any (a b c d x y : Int) (w : World) :
    Calls Tryd.prog 31 #[.agg #[.int .i64 a, .int .i64 b, .int .i64 c, .int .i64 d], .agg #[.int .i64 x, .int .i64 y]] w fun e w' => e = .returned (.bool (hasB a b c d x y)) ∧ Below w.heap.size w w' := by
  have HW := Lib.hid (rwhole_any a b c d)
  cases hw : wholeB a b c d with
  | false =>
    have e1 := Lib.hid (show hasB a b c d x y = false from by unfold hasB; rw [hw]; rfl)
    rw [hw] at HW
    clear hw
    go_enter Tryd.func31, Tryd.ntmps31
    go_wp2_with fail
    refine (HW.out _).mono ?_; rintro e w1 ⟨rfl, b1⟩
    have h1 : Below w.heap.size w w1 := (((Below.refl _ _).alloc (Nat.le_refl _) _).alloc (by simp) _).trans (b1.mono (by simp; omega))
    go_wp2_with fail
    go_ret
    exact ⟨ret_bool e1.out.symm, h1⟩
  | true =>
    have e1 := Lib.hid (show hasB a b c d x y = decide (a ≤ x ∧ x ≤ c ∧ b ≤ y ∧ y ≤ d) from by unfold hasB; rw [hw]; rfl)
    rw [hw] at HW
    clear hw
    go_enter Tryd.func31, Tryd.ntmps31
    go_wp2_with fail
    refine (HW.out _).mono ?_; rintro e w1 ⟨rfl, b1⟩
    have k0 := keep_cell b1 (p := ⟨w.heap.size, 0, none⟩) (v := .int .i64 a) (by simp [go_sem])
    have k1 := keep_cell b1 (p := ⟨w.heap.size, 1, none⟩) (v := .int .i64 b) (by simp [go_sem])
    have k2 := keep_cell b1 (p := ⟨w.heap.size, 2, none⟩) (v := .int .i64 c) (by simp [go_sem])
    have k3 := keep_cell b1 (p := ⟨w.heap.size, 3, none⟩) (v := .int .i64 d) (by simp [go_sem])
    have k4 := keep_cell b1 (p := ⟨w.heap.size + 1, 0, none⟩) (v := .int .i64 x) (by simp [go_sem])
    have k5 := keep_cell b1 (p := ⟨w.heap.size + 1, 1, none⟩) (v := .int .i64 y) (by simp [go_sem])
    have h1 : Below w.heap.size w w1 := (((Below.refl _ _).alloc (Nat.le_refl _) _).alloc (by simp) _).trans (b1.mono (by simp; omega))
    clear b1
    go_wp2_with fail
    all_goals go_ret
    · exact ⟨ret_bool (Eq.trans (decide_eq_decide.2 (by omega)) e1.out.symm), h1⟩
    · exact ⟨ret_bool (Eq.trans (decide_eq_false (by omega)).symm e1.out.symm), h1⟩
    · exact ⟨ret_bool (Eq.trans (decide_eq_false (by omega)).symm e1.out.symm), h1⟩
    · exact ⟨ret_bool (Eq.trans (decide_eq_false (by omega)).symm e1.out.symm), h1⟩
end Go.Proofs.YtmophlfpoehopaaDoor
