/- place's own calls: which places may be, their index, and moves, as complex numbers. -/
import Derived.Test.YtmophlfpoehopaaDoorRefF
import Derived.Test.YtmophlfpoehopaaDoorFl
import Derived.Laws.ComplexArith
import Derived.WalkLawsBesides
namespace Go.Proofs.YtmophlfpoehopaaDoor
open Go.RowKit

set_option maxHeartbeats 400000 in
theorem pright_any (c r : Int) (w : World) :
    Calls Tryd.prog 11 #[.agg #[.int .i64 c, .int .i64 r]] w fun e w' => e = .returned (.bool (rightB c r)) ∧ Below w.heap.size w w' := by
  go_enter Tryd.func11, Tryd.ntmps11
  go_wp2_with fail
  all_goals go_ret
  · exact ⟨ret_bool (bool_iff (by rw [rightB_iff]; simp; omega)), (Below.refl _ _).alloc (Nat.le_refl _) _⟩
  · exact ⟨ret_bool ((rightB_not _ _).2 (by omega)).symm, (Below.refl _ _).alloc (Nat.le_refl _) _⟩
  · exact ⟨ret_bool ((rightB_not _ _).2 (by omega)).symm, (Below.refl _ _).alloc (Nat.le_refl _) _⟩
  · exact ⟨ret_bool ((rightB_not _ _).2 (by omega)).symm, (Below.refl _ _).alloc (Nat.le_refl _) _⟩

set_option maxHeartbeats 400000 in
theorem pat_any (i : Int) (w : World) :
    Calls Tryd.prog 9 #[.int .i64 i] w fun e w' => e = .returned (.tuple #[.agg #[.int .i64 (atC i), .int .i64 (atR i)], .bool (idxB i)]) ∧ Below w.heap.size w w' := by
  by_cases h : 0 ≤ i ∧ i ≤ 1023
  · have e1 := Lib.hid (show atC i = i % 16 from if_pos h)
    have e2 := Lib.hid (show atR i = i / 16 from if_pos h)
    have e3 := Lib.hid (show idxB i = true from decide_eq_true h)
    obtain ⟨h1, h2⟩ := h
    go_enter Tryd.func9, Tryd.ntmps9
    go_wp2_with fail
    exact bodyPost_ret (v := .tuple #[.agg #[.int .i64 (i % 16), .int .i64 (i / 16)], .bool true]) (by simp [results, Tryd.results9, go_sem]) rfl
      ⟨by rw [e1.out, e2.out, e3.out], (Below.refl _ _).alloc (Nat.le_refl _) _⟩
  · have e1 := Lib.hid (show atC i = 0 from if_neg h)
    have e2 := Lib.hid (show atR i = 0 from if_neg h)
    have e3 := Lib.hid (show idxB i = false from decide_eq_false h)
    by_cases h1 : i < 0
    · clear h
      go_enter Tryd.func9, Tryd.ntmps9
      go_wp2_with fail
      exact bodyPost_ret (v := .tuple #[.agg #[.int .i64 0, .int .i64 0], .bool false]) (by simp [results, Tryd.results9, go_sem]) rfl
        ⟨by rw [e1.out, e2.out, e3.out], (Below.refl _ _).alloc (Nat.le_refl _) _⟩
    · have h2 : 1024 ≤ i := by omega
      clear h
      go_enter Tryd.func9, Tryd.ntmps9
      go_wp2_with fail
      exact bodyPost_ret (v := .tuple #[.agg #[.int .i64 0, .int .i64 0], .bool false]) (by simp [results, Tryd.results9, go_sem]) rfl
        ⟨by rw [e1.out, e2.out, e3.out], (Below.refl _ _).alloc (Nat.le_refl _) _⟩

set_option maxHeartbeats 400000 in
theorem pindex_any (c r : Int) (w : World) :
    Calls Tryd.prog 15 #[.agg #[.int .i64 c, .int .i64 r]] w fun e w' => e = .returned (.int .i64 (idxN c r)) ∧ Below w.heap.size w w' := by
  have HR := Lib.hid (pright_any c r)
  cases hr : rightB c r with
  | true =>
    obtain ⟨h1, h2, h3, h4⟩ := (rightB_iff c r).1 hr
    have e1 := Lib.hid (show idxN c r = 16 * r + c from if_pos hr)
    rw [hr] at HR
    clear hr
    go_enter Tryd.func15, Tryd.ntmps15
    go_wp2_with fail
    refine (HR.out _).mono ?_; rintro e w1 ⟨rfl, b1⟩
    have k0 := keep_cell b1 (p := ⟨w.heap.size, 0, none⟩) (v := .int .i64 c) (by simp)
    have k1 := keep_cell b1 (p := ⟨w.heap.size, 1, none⟩) (v := .int .i64 r) (by simp)
    go_wp2_with fail
    go_ret
    exact ⟨ret_int e1.out.symm, ((Below.refl _ _).alloc (Nat.le_refl _) _).trans (b1.mono (by simp))⟩
  | false =>
    have e1 := Lib.hid (show idxN c r = -1 from if_neg (by rw [hr]; decide))
    rw [hr] at HR
    clear hr
    go_enter Tryd.func15, Tryd.ntmps15
    go_wp2_with fail
    refine (HR.out _).mono ?_; rintro e w1 ⟨rfl, b1⟩
    go_wp2_with fail
    go_ret
    exact ⟨ret_int e1.out.symm, ((Below.refl _ _).alloc (Nat.le_refl _) _).trans (b1.mono (by simp))⟩

set_option maxHeartbeats 400000 in
theorem plane_any (c r : Int) (w : World) :
    Calls Tryd.prog 37 #[.agg #[.int .i64 c, .int .i64 r]] w fun e w' => e = .returned (.complex .f64 (fl c) (fl r)) ∧ w.alloc (.cells #[.int .i64 c, .int .i64 r] 23) = w' := by
  go_enter Tryd.func37, Tryd.ntmps37
  go_wp2_with fail
  go_ret
  exact ⟨rfl, rfl⟩

theorem geZ_is (z : Nat) : (FloatKind.f64.format.order z 0 == some Ordering.gt || FloatKind.f64.format.order z 0 == some Ordering.eq) = geZ z := rfl
theorem ltE_is (z e : Nat) : (FloatKind.f64.format.order z e == some Ordering.lt) = ltE z e := rfl
set_option maxHeartbeats 400000 in
theorem within_any (z e : Nat) (w : World) :
    Calls Tryd.prog 44 #[.float .f64 z, .float .f64 e] w fun en w' => en = .returned (.bool (geZ z && ltE z e)) ∧ w = w' := by
  have h1 := geZ_is z
  have h2 := ltE_is z e
  cases hg : geZ z with
  | true =>
    rw [hg] at h1
    cases hl : ltE z e with
    | true =>
      rw [hl] at h2
      clear hg hl
      go_enter Tryd.func44, Tryd.ntmps44
      go_wp2_with fail
      go_ret
      exact ⟨rfl, rfl⟩
    | false =>
      rw [hl] at h2
      clear hg hl
      go_enter Tryd.func44, Tryd.ntmps44
      go_wp2_with fail
      go_ret
      exact ⟨rfl, rfl⟩
  | false =>
    rw [hg] at h1
    clear hg h2
    go_enter Tryd.func44, Tryd.ntmps44
    go_wp2_with fail
    go_ret
    exact ⟨rfl, rfl⟩
end Go.Proofs.YtmophlfpoehopaaDoor
