/- lexer's own calls: words; the token that a name is. -/
import Derived.Test.YtjfmmnebhmlkeaaDoorLsA
import Derived.Test.YtjfmmnebhmlkeaaDoorPlJ
namespace Go.Proofs.YtjfmmnebhmlkeaaDoor
open Go.RowKit

set_option maxHeartbeats 400000 in
theorem uword_at (s : ByteArray) (w : World) (b0 b1 b2 b3 b4 : Bool) (h0 : (s.toList == [73, 70]) = b0) (h1 : (s.toList == [83, 85, 77]) = b1) (h2 : (s.toList == [77, 73, 78]) = b2) (h3 : (s.toList == [77, 65, 88]) = b3) (h4 : (s.toList == [67, 79, 85, 78, 84]) = b4) :
    Calls Tryd.prog 28 #[.string s] w fun e w' => e = .returned (.bool (b0 || b1 || b2 || b3 || b4)) ∧ w = w' := by
  cases b0 with
  | true =>
    go_enter Tryd.func28, Tryd.ntmps28
    go_wp2_with fail
    go_ret
    exact ⟨rfl, rfl⟩
  | false =>
    cases b1 with
    | true =>
      go_enter Tryd.func28, Tryd.ntmps28
      go_wp2_with fail
      go_ret
      exact ⟨rfl, rfl⟩
    | false =>
      cases b2 <;> cases b3 <;> cases b4
      all_goals
        go_enter Tryd.func28, Tryd.ntmps28
        go_wp2_with fail
        go_ret
        exact ⟨rfl, rfl⟩
theorem uword_any (s : ByteArray) (w : World) :
    Calls Tryd.prog 28 #[.string s] w fun e w' => e = .returned (.bool (wordB s.data.toList)) ∧ w = w' :=
  (uword_at s w _ _ _ _ _ rfl rfl rfl rfl rfl).mono fun _ _ ⟨he, hb⟩ => ⟨he.trans (ret_bool (by rw [ByteArray.toList_eq]; rfl)), hb⟩

/-- the token that a name is, at no place, and its length -/
def namV (l : List UInt8) : Value :=
  if prE l = 0 then .tuple #[.agg #[.int .i64 2, .int .i64 0, .int .i64 (prC l), .int .i64 (prR l), .string ⟨#[]⟩, .int .i64 0], .int .i64 (l.length : Int)]
  else if prE l = 4 then .tuple #[.agg #[.int .i64 3, .int .i64 0, .int .i64 0, .int .i64 0, .string ⟨#[]⟩, .int .i64 0], .int .i64 (l.length : Int)]
  else if wordB l = true then .tuple #[.agg #[.int .i64 4, .int .i64 0, .int .i64 0, .int .i64 0, .string ⟨l.toArray⟩, .int .i64 0], .int .i64 (l.length : Int)]
  else .tuple #[.agg #[.int .i64 0, .int .i64 0, .int .i64 0, .int .i64 0, .string ⟨#[]⟩, .int .i64 0], .int .i64 0]
theorem string_list (s : ByteArray) : (⟨s.data.toList.toArray⟩ : ByteArray) = s := rfl
set_option maxHeartbeats 1000000 in
set_option maxRecDepth 10000 in
theorem uname_any (s : ByteArray) (hs : s.size ≤ 9223372036854775807) (w : World) :
    Calls Tryd.prog 16 #[.string s] w fun e w' => e = .returned (namV s.data.toList) ∧ Below w.heap.size w w' := by
  have H1 := Lib.hid (pparse_any s hs)
  have HW := Lib.hid (uword_any s)
  have hl := len_of s
  by_cases h0 : prE s.data.toList = 0
  · skip
    have HV := Lib.hid (show namV s.data.toList = .tuple #[.agg #[.int .i64 2, .int .i64 0, .int .i64 (prC s.data.toList), .int .i64 (prR s.data.toList), .string ⟨#[]⟩, .int .i64 0], .int .i64 (s.size : Int)] from by unfold namV; rw [if_pos h0, hl])
    clear hl
    generalize prC s.data.toList = C at *
    generalize prR s.data.toList = R at *
    generalize prE s.data.toList = E at *
    have d0 : (E == 0) = true := by rw [beq_iff_eq]; exact h0
    clear h0
    go_enter Tryd.func16, Tryd.ntmps16
    go_wp2_with fail
    refine (H1.out _).mono ?_; rintro e w1 ⟨rfl, b1⟩
    have k10 := keep_fresh b1 0 (v := .int .i64 0) rfl
    have k11 := keep_fresh b1 1 (v := .int .i64 0) rfl
    have k12 := keep_fresh b1 2 (v := .int .i64 0) rfl
    have k13 := keep_fresh b1 3 (v := .int .i64 0) rfl
    have k14 := keep_fresh b1 4 (v := .string ⟨#[]⟩) rfl
    have k15 := keep_fresh b1 5 (v := .int .i64 0) rfl
    have f10 := fresh_frozen b1 0
    have f11 := fresh_frozen b1 1
    have f12 := fresh_frozen b1 2
    have f13 := fresh_frozen b1 3
    have f14 := fresh_frozen b1 4
    have f15 := fresh_frozen b1 5
    have h1 : Below w.heap.size w w1 := ((Below.refl _ _).alloc (Nat.le_refl _) _).trans (b1.mono (by simp))
    have z1 : w.heap.size < w1.heap.size := by have := b1.size; simp at this; omega
    clear b1
    go_wp2_with fail
    exact bodyPost_ret (v := .tuple #[.agg #[.int .i64 2, .int .i64 0, .int .i64 C, .int .i64 R, .string ⟨#[]⟩, .int .i64 0], .int .i64 (s.size : Int)]) (by simp [results, Tryd.results16, go_sem, k10, k11, k12, k13, k14, k15, z1]) rfl ⟨by rw [HV.out], by
      repeat' (first | (with_reducible exact h1) | (with_reducible refine Below.alloc ?_ ?_ _) | (with_reducible refine Below.setCell ?_ ?_ _))
      all_goals (first | (simp; done) | (simpa using h1.size))⟩
  · by_cases h4 : prE s.data.toList = 4
    · skip
      have HV := Lib.hid (show namV s.data.toList = .tuple #[.agg #[.int .i64 3, .int .i64 0, .int .i64 0, .int .i64 0, .string ⟨#[]⟩, .int .i64 0], .int .i64 (s.size : Int)] from by unfold namV; rw [if_neg h0, if_pos h4, hl])
      clear hl
      generalize prC s.data.toList = C at *
      generalize prR s.data.toList = R at *
      generalize prE s.data.toList = E at *
      have d0 : (E == 0) = false := by rw [beq_eq_false_iff_ne]; exact h0
      have d4 : (E == 4) = true := by rw [beq_iff_eq]; exact h4
      clear h0 h4
      go_enter Tryd.func16, Tryd.ntmps16
      go_wp2_with fail
      refine (H1.out _).mono ?_; rintro e w1 ⟨rfl, b1⟩
      have k10 := keep_fresh b1 0 (v := .int .i64 0) rfl
      have k11 := keep_fresh b1 1 (v := .int .i64 0) rfl
      have k12 := keep_fresh b1 2 (v := .int .i64 0) rfl
      have k13 := keep_fresh b1 3 (v := .int .i64 0) rfl
      have k14 := keep_fresh b1 4 (v := .string ⟨#[]⟩) rfl
      have k15 := keep_fresh b1 5 (v := .int .i64 0) rfl
      have f10 := fresh_frozen b1 0
      have f11 := fresh_frozen b1 1
      have f12 := fresh_frozen b1 2
      have f13 := fresh_frozen b1 3
      have f14 := fresh_frozen b1 4
      have f15 := fresh_frozen b1 5
      have h1 : Below w.heap.size w w1 := ((Below.refl _ _).alloc (Nat.le_refl _) _).trans (b1.mono (by simp))
      have z1 : w.heap.size < w1.heap.size := by have := b1.size; simp at this; omega
      clear b1
      go_wp2_with fail
      exact bodyPost_ret (v := .tuple #[.agg #[.int .i64 3, .int .i64 0, .int .i64 0, .int .i64 0, .string ⟨#[]⟩, .int .i64 0], .int .i64 (s.size : Int)]) (by simp [results, Tryd.results16, go_sem, k10, k11, k12, k13, k14, k15, z1]) rfl ⟨by rw [HV.out], by
        repeat' (first | (with_reducible exact h1) | (with_reducible refine Below.alloc ?_ ?_ _) | (with_reducible refine Below.setCell ?_ ?_ _))
        all_goals (first | (simp; done) | (simpa using h1.size))⟩
    · cases hw : wordB s.data.toList with
      | true =>
        have HV := Lib.hid (show namV s.data.toList = .tuple #[.agg #[.int .i64 4, .int .i64 0, .int .i64 0, .int .i64 0, .string s, .int .i64 0], .int .i64 (s.size : Int)] from by unfold namV; rw [if_neg h0, if_neg h4, if_pos hw, hl, string_list])
        clear hl
        rw [hw] at HW
        generalize prC s.data.toList = C at *
        generalize prR s.data.toList = R at *
        generalize prE s.data.toList = E at *
        have d0 : (E == 0) = false := by rw [beq_eq_false_iff_ne]; exact h0
        have d4 : (E == 4) = false := by rw [beq_eq_false_iff_ne]; exact h4
        clear h0 h4 hw
        go_enter Tryd.func16, Tryd.ntmps16
        go_wp2_with fail
        refine (H1.out _).mono ?_; rintro e w1 ⟨rfl, b1⟩
        have k10 := keep_fresh b1 0 (v := .int .i64 0) rfl
        have k11 := keep_fresh b1 1 (v := .int .i64 0) rfl
        have k12 := keep_fresh b1 2 (v := .int .i64 0) rfl
        have k13 := keep_fresh b1 3 (v := .int .i64 0) rfl
        have k14 := keep_fresh b1 4 (v := .string ⟨#[]⟩) rfl
        have k15 := keep_fresh b1 5 (v := .int .i64 0) rfl
        have f10 := fresh_frozen b1 0
        have f11 := fresh_frozen b1 1
        have f12 := fresh_frozen b1 2
        have f13 := fresh_frozen b1 3
        have f14 := fresh_frozen b1 4
        have f15 := fresh_frozen b1 5
        have h1 : Below w.heap.size w w1 := ((Below.refl _ _).alloc (Nat.le_refl _) _).trans (b1.mono (by simp))
        have z1 : w.heap.size < w1.heap.size := by have := b1.size; simp at this; omega
        clear b1
        go_wp2_with fail
        refine (HW.out _).mono ?_; rintro e v1 ⟨rfl, rfl⟩
        go_wp2_with fail
        exact bodyPost_ret (v := .tuple #[.agg #[.int .i64 4, .int .i64 0, .int .i64 0, .int .i64 0, .string s, .int .i64 0], .int .i64 (s.size : Int)]) (by simp [results, Tryd.results16, go_sem, k10, k11, k12, k13, k14, k15, z1]) rfl ⟨by rw [HV.out], by
          repeat' (first | (with_reducible exact h1) | (with_reducible refine Below.alloc ?_ ?_ _) | (with_reducible refine Below.setCell ?_ ?_ _))
          all_goals (first | (simp; done) | (simpa using h1.size))⟩
      | false =>
        have HV := Lib.hid (show namV s.data.toList = .tuple #[.agg #[.int .i64 0, .int .i64 0, .int .i64 0, .int .i64 0, .string ⟨#[]⟩, .int .i64 0], .int .i64 0] from by unfold namV; rw [if_neg h0, if_neg h4, if_neg (by rw [hw]; decide)])
        clear hl
        rw [hw] at HW
        generalize prC s.data.toList = C at *
        generalize prR s.data.toList = R at *
        generalize prE s.data.toList = E at *
        have d0 : (E == 0) = false := by rw [beq_eq_false_iff_ne]; exact h0
        have d4 : (E == 4) = false := by rw [beq_eq_false_iff_ne]; exact h4
        clear h0 h4 hw
        go_enter Tryd.func16, Tryd.ntmps16
        go_wp2_with fail
        refine (H1.out _).mono ?_; rintro e w1 ⟨rfl, b1⟩
        have k10 := keep_fresh b1 0 (v := .int .i64 0) rfl
        have k11 := keep_fresh b1 1 (v := .int .i64 0) rfl
        have k12 := keep_fresh b1 2 (v := .int .i64 0) rfl
        have k13 := keep_fresh b1 3 (v := .int .i64 0) rfl
        have k14 := keep_fresh b1 4 (v := .string ⟨#[]⟩) rfl
        have k15 := keep_fresh b1 5 (v := .int .i64 0) rfl
        have f10 := fresh_frozen b1 0
        have f11 := fresh_frozen b1 1
        have f12 := fresh_frozen b1 2
        have f13 := fresh_frozen b1 3
        have f14 := fresh_frozen b1 4
        have f15 := fresh_frozen b1 5
        have h1 : Below w.heap.size w w1 := ((Below.refl _ _).alloc (Nat.le_refl _) _).trans (b1.mono (by simp))
        have z1 : w.heap.size < w1.heap.size := by have := b1.size; simp at this; omega
        clear b1
        go_wp2_with fail
        refine (HW.out _).mono ?_; rintro e v1 ⟨rfl, rfl⟩
        go_wp2_with fail
        exact bodyPost_ret (v := .tuple #[.agg #[.int .i64 0, .int .i64 0, .int .i64 0, .int .i64 0, .string ⟨#[]⟩, .int .i64 0], .int .i64 0]) (by simp [results, Tryd.results16, go_sem, k10, k11, k12, k13, k14, k15, z1]) rfl ⟨by rw [HV.out], by
          repeat' (first | (with_reducible exact h1) | (with_reducible refine Below.alloc ?_ ?_ _) | (with_reducible refine Below.setCell ?_ ?_ _))
          all_goals (first | (simp; done) | (simpa using h1.size))⟩
end Go.Proofs.YtjfmmnebhmlkeaaDoor
