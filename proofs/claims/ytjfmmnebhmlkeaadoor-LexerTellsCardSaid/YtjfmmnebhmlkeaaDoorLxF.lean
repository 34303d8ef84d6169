/- The document's own tokens: the token at whatever place. -/
import Derived.Test.YtjfmmnebhmlkeaaDoorLxE
namespace Go.Proofs.YtjfmmnebhmlkeaaDoor
open Go.RowKit

theorem mark_cases (s : ByteArray) (p : Nat) : markN s.data.toList p = 0 ∨ markN s.data.toList p = 1 ∨ markN s.data.toList p = 2 ∧ p + 1 < s.size := by
  by_cases hp : p + 1 < s.size
  · unfold markN markC
    split
    · exact .inr (.inr ⟨rfl, hp⟩)
    · split
      · exact .inr (.inl rfl)
      · exact .inl rfl
  · have e := byte_past s (p + 1) hp
    unfold markN markC
    rw [e]
    split
    · rename_i h
      rcases h with ⟨_, h | h⟩ | ⟨_, h⟩ <;> exact absurd h (by decide)
    · split
      · exact .inr (.inl rfl)
      · exact .inl rfl

set_option maxHeartbeats 4000000 in
set_option maxRecDepth 100000 in
theorem lone_A (s : ByteArray) (hs : s.size ≤ 4611686018427387903) (p : Nat) (h : p < s.size) (hf : isFig (s[p]'h) = false) (hl : (s[p]'h).toNat < 65) (w : World) :
    Calls Tryd.prog 11 #[.string s, .int .i64 (p : Int)] w fun e w' => e = .returned (oneV (oneT s.data.toList p)) ∧ Below w.heap.size w w' := by
  have H1 := Lib.hid (lfigure_any (s[p]'h))
  rw [hf] at H1
  have g0 := byte_getD s p h
  have h2 := lmark_any s (by omega) p h
  have hO : oneT s.data.toList p = (if subL s.data.toList p 4 = [35, 82, 69, 70] then some (⟨3, 0, 0, 0, [], p⟩, 4) else if markN s.data.toList p = 0 then none else some (⟨5, 0, 0, 0, subL s.data.toList p (markN s.data.toList p).toNat, p⟩, (markN s.data.toList p).toNat)) := by
    unfold oneT
    rw [if_neg (by rw [g0, hf]; decide), if_neg (by rw [g0]; omega)]
  clear hf g0
  by_cases h4 : p + 4 ≤ s.size
  · have d4 : decide ((4 : Int) ≤ (s.size : Int) - (p : Int)) = true := decide_eq_true (by omega)
    by_cases hr : subL s.data.toList p 4 = [35, 82, 69, 70]
    · have dr : ((s.extract p (p + 4)).toList == [35, 82, 69, 70]) = true := by rw [ByteArray.toList_eq, extract_sub, hr]; rfl
      have l1 : decide ((65 : Int) ≤ ((s[p]'h).toNat : Int)) = false := decide_eq_false (by omega)
      have HO := Lib.hid (show oneV (oneT s.data.toList p) = .tuple #[.agg #[.int .i64 3, .int .i64 0, .int .i64 0, .int .i64 0, .string ⟨#[]⟩, .int .i64 (p : Int)], .int .i64 4] from by rw [hO, if_pos hr]; rfl)
      clear hO hr hl
      go_enter Tryd.func11, Tryd.ntmps11
      go_wp2_with fail
      refine (H1.out _).mono ?_; rintro e w1 ⟨rfl, rfl⟩
      go_wp2_with fail
      exact bodyPost_ret (v := .tuple #[.agg #[.int .i64 3, .int .i64 0, .int .i64 0, .int .i64 0, .string ⟨#[]⟩, .int .i64 (p : Int)], .int .i64 4]) (by simp [results, Tryd.results11, go_sem]) rfl ⟨by rw [HO.out], ((Below.refl _ _).alloc (Nat.le_refl _) _)⟩
    · have dr : ((s.extract p (p + 4)).toList == [35, 82, 69, 70]) = false := by rw [ByteArray.toList_eq, extract_sub, beq_eq_false_iff_ne]; exact hr
      rcases mark_cases s p with hm | hm | ⟨hm, hp⟩
      · have l1 : decide ((65 : Int) ≤ ((s[p]'h).toNat : Int)) = false := decide_eq_false (by omega)
        have HO := Lib.hid (show oneV (oneT s.data.toList p) = .tuple #[.agg #[.int .i64 0, .int .i64 0, .int .i64 0, .int .i64 0, .string ⟨#[]⟩, .int .i64 0], .int .i64 0] from by rw [hO, if_neg hr, if_pos hm]; rfl)
        rw [hm] at h2
        have H2 := Lib.hid h2
        clear hO hr hl hm h2
        go_enter Tryd.func11, Tryd.ntmps11
        go_wp2_with fail
        refine (H1.out _).mono ?_; rintro e w1 ⟨rfl, rfl⟩
        go_wp2_with fail
        refine (H2.out _).mono ?_; rintro e w2 ⟨rfl, rfl⟩
        go_wp2_with fail
        exact bodyPost_ret (v := .tuple #[.agg #[.int .i64 0, .int .i64 0, .int .i64 0, .int .i64 0, .string ⟨#[]⟩, .int .i64 0], .int .i64 0]) (by simp [results, Tryd.results11, go_sem]) rfl ⟨by rw [HO.out], ((Below.refl _ _).alloc (Nat.le_refl _) _)⟩
      · have l1 : decide ((65 : Int) ≤ ((s[p]'h).toNat : Int)) = false := decide_eq_false (by omega)
        have HO := Lib.hid (show oneV (oneT s.data.toList p) = .tuple #[.agg #[.int .i64 5, .int .i64 0, .int .i64 0, .int .i64 0, .string (s.extract p (p + 1)), .int .i64 (p : Int)], .int .i64 1] from by rw [hO, if_neg hr, if_neg (by rw [hm]; decide), hm, extract_string]; rfl)
        rw [hm] at h2
        have H2 := Lib.hid h2
        clear hO hr hl hm h2
        go_enter Tryd.func11, Tryd.ntmps11
        go_wp2_with fail
        refine (H1.out _).mono ?_; rintro e w1 ⟨rfl, rfl⟩
        go_wp2_with fail
        refine (H2.out _).mono ?_; rintro e w2 ⟨rfl, rfl⟩
        go_wp2_with fail
        exact bodyPost_ret (v := .tuple #[.agg #[.int .i64 5, .int .i64 0, .int .i64 0, .int .i64 0, .string (s.extract p (p + 1)), .int .i64 (p : Int)], .int .i64 1]) (by simp [results, Tryd.results11, go_sem]) rfl ⟨by rw [HO.out], ((Below.refl _ _).alloc (Nat.le_refl _) _)⟩
      · have l1 : decide ((65 : Int) ≤ ((s[p]'h).toNat : Int)) = false := decide_eq_false (by omega)
        have HO := Lib.hid (show oneV (oneT s.data.toList p) = .tuple #[.agg #[.int .i64 5, .int .i64 0, .int .i64 0, .int .i64 0, .string (s.extract p (p + 2)), .int .i64 (p : Int)], .int .i64 2] from by rw [hO, if_neg hr, if_neg (by rw [hm]; decide), hm, extract_string]; rfl)
        rw [hm] at h2
        have H2 := Lib.hid h2
        clear hO hr hl hm h2
        go_enter Tryd.func11, Tryd.ntmps11
        go_wp2_with fail
        refine (H1.out _).mono ?_; rintro e w1 ⟨rfl, rfl⟩
        go_wp2_with fail
        refine (H2.out _).mono ?_; rintro e w2 ⟨rfl, rfl⟩
        go_wp2_with fail
        exact bodyPost_ret (v := .tuple #[.agg #[.int .i64 5, .int .i64 0, .int .i64 0, .int .i64 0, .string (s.extract p (p + 2)), .int .i64 (p : Int)], .int .i64 2]) (by simp [results, Tryd.results11, go_sem]) rfl ⟨by rw [HO.out], ((Below.refl _ _).alloc (Nat.le_refl _) _)⟩
  · have d4 : decide ((4 : Int) ≤ (s.size : Int) - (p : Int)) = false := decide_eq_false (by omega)
    have hr : ¬ subL s.data.toList p 4 = [35, 82, 69, 70] := by
      intro e
      have := congrArg List.length e
      unfold subL at this
      rw [List.length_take, List.length_drop, len_of] at this
      simp at this
      omega
    clear h4
    rcases mark_cases s p with hm | hm | ⟨hm, hp⟩
    · have l1 : decide ((65 : Int) ≤ ((s[p]'h).toNat : Int)) = false := decide_eq_false (by omega)
      have HO := Lib.hid (show oneV (oneT s.data.toList p) = .tuple #[.agg #[.int .i64 0, .int .i64 0, .int .i64 0, .int .i64 0, .string ⟨#[]⟩, .int .i64 0], .int .i64 0] from by rw [hO, if_neg hr, if_pos hm]; rfl)
      rw [hm] at h2
      have H2 := Lib.hid h2
      clear hO hr hl hm h2
      go_enter Tryd.func11, Tryd.ntmps11
      go_wp2_with fail
      refine (H1.out _).mono ?_; rintro e w1 ⟨rfl, rfl⟩
      go_wp2_with fail
      refine (H2.out _).mono ?_; rintro e w2 ⟨rfl, rfl⟩
      go_wp2_with fail
      exact bodyPost_ret (v := .tuple #[.agg #[.int .i64 0, .int .i64 0, .int .i64 0, .int .i64 0, .string ⟨#[]⟩, .int .i64 0], .int .i64 0]) (by simp [results, Tryd.results11, go_sem]) rfl ⟨by rw [HO.out], ((Below.refl _ _).alloc (Nat.le_refl _) _)⟩
    · have l1 : decide ((65 : Int) ≤ ((s[p]'h).toNat : Int)) = false := decide_eq_false (by omega)
      have HO := Lib.hid (show oneV (oneT s.data.toList p) = .tuple #[.agg #[.int .i64 5, .int .i64 0, .int .i64 0, .int .i64 0, .string (s.extract p (p + 1)), .int .i64 (p : Int)], .int .i64 1] from by rw [hO, if_neg hr, if_neg (by rw [hm]; decide), hm, extract_string]; rfl)
      rw [hm] at h2
      have H2 := Lib.hid h2
      clear hO hr hl hm h2
      go_enter Tryd.func11, Tryd.ntmps11
      go_wp2_with fail
      refine (H1.out _).mono ?_; rintro e w1 ⟨rfl, rfl⟩
      go_wp2_with fail
      refine (H2.out _).mono ?_; rintro e w2 ⟨rfl, rfl⟩
      go_wp2_with fail
      exact bodyPost_ret (v := .tuple #[.agg #[.int .i64 5, .int .i64 0, .int .i64 0, .int .i64 0, .string (s.extract p (p + 1)), .int .i64 (p : Int)], .int .i64 1]) (by simp [results, Tryd.results11, go_sem]) rfl ⟨by rw [HO.out], ((Below.refl _ _).alloc (Nat.le_refl _) _)⟩
    · have l1 : decide ((65 : Int) ≤ ((s[p]'h).toNat : Int)) = false := decide_eq_false (by omega)
      have HO := Lib.hid (show oneV (oneT s.data.toList p) = .tuple #[.agg #[.int .i64 5, .int .i64 0, .int .i64 0, .int .i64 0, .string (s.extract p (p + 2)), .int .i64 (p : Int)], .int .i64 2] from by rw [hO, if_neg hr, if_neg (by rw [hm]; decide), hm, extract_string]; rfl)
      rw [hm] at h2
      have H2 := Lib.hid h2
      clear hO hr hl hm h2
      go_enter Tryd.func11, Tryd.ntmps11
      go_wp2_with fail
      refine (H1.out _).mono ?_; rintro e w1 ⟨rfl, rfl⟩
      go_wp2_with fail
      refine (H2.out _).mono ?_; rintro e w2 ⟨rfl, rfl⟩
      go_wp2_with fail
      exact bodyPost_ret (v := .tuple #[.agg #[.int .i64 5, .int .i64 0, .int .i64 0, .int .i64 0, .string (s.extract p (p + 2)), .int .i64 (p : Int)], .int .i64 2]) (by simp [results, Tryd.results11, go_sem]) rfl ⟨by rw [HO.out], ((Below.refl _ _).alloc (Nat.le_refl _) _)⟩

set_option maxHeartbeats 4000000 in
set_option maxRecDepth 100000 in
theorem lone_B (s : ByteArray) (hs : s.size ≤ 4611686018427387903) (p : Nat) (h : p < s.size) (hf : isFig (s[p]'h) = false) (hl : 90 < (s[p]'h).toNat) (w : World) :
    Calls Tryd.prog 11 #[.string s, .int .i64 (p : Int)] w fun e w' => e = .returned (oneV (oneT s.data.toList p)) ∧ Below w.heap.size w w' := by
  have H1 := Lib.hid (lfigure_any (s[p]'h))
  rw [hf] at H1
  have g0 := byte_getD s p h
  have h2 := lmark_any s (by omega) p h
  have hO : oneT s.data.toList p = (if subL s.data.toList p 4 = [35, 82, 69, 70] then some (⟨3, 0, 0, 0, [], p⟩, 4) else if markN s.data.toList p = 0 then none else some (⟨5, 0, 0, 0, subL s.data.toList p (markN s.data.toList p).toNat, p⟩, (markN s.data.toList p).toNat)) := by
    unfold oneT
    rw [if_neg (by rw [g0, hf]; decide), if_neg (by rw [g0]; omega)]
  clear hf g0
  by_cases h4 : p + 4 ≤ s.size
  · have d4 : decide ((4 : Int) ≤ (s.size : Int) - (p : Int)) = true := decide_eq_true (by omega)
    by_cases hr : subL s.data.toList p 4 = [35, 82, 69, 70]
    · have dr : ((s.extract p (p + 4)).toList == [35, 82, 69, 70]) = true := by rw [ByteArray.toList_eq, extract_sub, hr]; rfl
      have l1 : decide ((65 : Int) ≤ ((s[p]'h).toNat : Int)) = true := decide_eq_true (by omega)
      have l2 : decide (((s[p]'h).toNat : Int) ≤ 90) = false := decide_eq_false (by omega)
      have HO := Lib.hid (show oneV (oneT s.data.toList p) = .tuple #[.agg #[.int .i64 3, .int .i64 0, .int .i64 0, .int .i64 0, .string ⟨#[]⟩, .int .i64 (p : Int)], .int .i64 4] from by rw [hO, if_pos hr]; rfl)
      clear hO hr hl
      go_enter Tryd.func11, Tryd.ntmps11
      go_wp2_with fail
      refine (H1.out _).mono ?_; rintro e w1 ⟨rfl, rfl⟩
      go_wp2_with fail
      exact bodyPost_ret (v := .tuple #[.agg #[.int .i64 3, .int .i64 0, .int .i64 0, .int .i64 0, .string ⟨#[]⟩, .int .i64 (p : Int)], .int .i64 4]) (by simp [results, Tryd.results11, go_sem]) rfl ⟨by rw [HO.out], ((Below.refl _ _).alloc (Nat.le_refl _) _)⟩
    · have dr : ((s.extract p (p + 4)).toList == [35, 82, 69, 70]) = false := by rw [ByteArray.toList_eq, extract_sub, beq_eq_false_iff_ne]; exact hr
      rcases mark_cases s p with hm | hm | ⟨hm, hp⟩
      · have l1 : decide ((65 : Int) ≤ ((s[p]'h).toNat : Int)) = true := decide_eq_true (by omega)
        have l2 : decide (((s[p]'h).toNat : Int) ≤ 90) = false := decide_eq_false (by omega)
        have HO := Lib.hid (show oneV (oneT s.data.toList p) = .tuple #[.agg #[.int .i64 0, .int .i64 0, .int .i64 0, .int .i64 0, .string ⟨#[]⟩, .int .i64 0], .int .i64 0] from by rw [hO, if_neg hr, if_pos hm]; rfl)
        rw [hm] at h2
        have H2 := Lib.hid h2
        clear hO hr hl hm h2
        go_enter Tryd.func11, Tryd.ntmps11
        go_wp2_with fail
        refine (H1.out _).mono ?_; rintro e w1 ⟨rfl, rfl⟩
        go_wp2_with fail
        refine (H2.out _).mono ?_; rintro e w2 ⟨rfl, rfl⟩
        go_wp2_with fail
        exact bodyPost_ret (v := .tuple #[.agg #[.int .i64 0, .int .i64 0, .int .i64 0, .int .i64 0, .string ⟨#[]⟩, .int .i64 0], .int .i64 0]) (by simp [results, Tryd.results11, go_sem]) rfl ⟨by rw [HO.out], ((Below.refl _ _).alloc (Nat.le_refl _) _)⟩
      · have l1 : decide ((65 : Int) ≤ ((s[p]'h).toNat : Int)) = true := decide_eq_true (by omega)
        have l2 : decide (((s[p]'h).toNat : Int) ≤ 90) = false := decide_eq_false (by omega)
        have HO := Lib.hid (show oneV (oneT s.data.toList p) = .tuple #[.agg #[.int .i64 5, .int .i64 0, .int .i64 0, .int .i64 0, .string (s.extract p (p + 1)), .int .i64 (p : Int)], .int .i64 1] from by rw [hO, if_neg hr, if_neg (by rw [hm]; decide), hm, extract_string]; rfl)
        rw [hm] at h2
        have H2 := Lib.hid h2
        clear hO hr hl hm h2
        go_enter Tryd.func11, Tryd.ntmps11
        go_wp2_with fail
        refine (H1.out _).mono ?_; rintro e w1 ⟨rfl, rfl⟩
        go_wp2_with fail
        refine (H2.out _).mono ?_; rintro e w2 ⟨rfl, rfl⟩
        go_wp2_with fail
        exact bodyPost_ret (v := .tuple #[.agg #[.int .i64 5, .int .i64 0, .int .i64 0, .int .i64 0, .string (s.extract p (p + 1)), .int .i64 (p : Int)], .int .i64 1]) (by simp [results, Tryd.results11, go_sem]) rfl ⟨by rw [HO.out], ((Below.refl _ _).alloc (Nat.le_refl _) _)⟩
      · have l1 : decide ((65 : Int) ≤ ((s[p]'h).toNat : Int)) = true := decide_eq_true (by omega)
        have l2 : decide (((s[p]'h).toNat : Int) ≤ 90) = false := decide_eq_false (by omega)
        have HO := Lib.hid (show oneV (oneT s.data.toList p) = .tuple #[.agg #[.int .i64 5, .int .i64 0, .int .i64 0, .int .i64 0, .string (s.extract p (p + 2)), .int .i64 (p : Int)], .int .i64 2] from by rw [hO, if_neg hr, if_neg (by rw [hm]; decide), hm, extract_string]; rfl)
        rw [hm] at h2
        have H2 := Lib.hid h2
        clear hO hr hl hm h2
        go_enter Tryd.func11, Tryd.ntmps11
        go_wp2_with fail
        refine (H1.out _).mono ?_; rintro e w1 ⟨rfl, rfl⟩
        go_wp2_with fail
        refine (H2.out _).mono ?_; rintro e w2 ⟨rfl, rfl⟩
        go_wp2_with fail
        exact bodyPost_ret (v := .tuple #[.agg #[.int .i64 5, .int .i64 0, .int .i64 0, .int .i64 0, .string (s.extract p (p + 2)), .int .i64 (p : Int)], .int .i64 2]) (by simp [results, Tryd.results11, go_sem]) rfl ⟨by rw [HO.out], ((Below.refl _ _).alloc (Nat.le_refl _) _)⟩
  · have d4 : decide ((4 : Int) ≤ (s.size : Int) - (p : Int)) = false := decide_eq_false (by omega)
    have hr : ¬ subL s.data.toList p 4 = [35, 82, 69, 70] := by
      intro e
      have := congrArg List.length e
      unfold subL at this
      rw [List.length_take, List.length_drop, len_of] at this
      simp at this
      omega
    clear h4
    rcases mark_cases s p with hm | hm | ⟨hm, hp⟩
    · have l1 : decide ((65 : Int) ≤ ((s[p]'h).toNat : Int)) = true := decide_eq_true (by omega)
      have l2 : decide (((s[p]'h).toNat : Int) ≤ 90) = false := decide_eq_false (by omega)
      have HO := Lib.hid (show oneV (oneT s.data.toList p) = .tuple #[.agg #[.int .i64 0, .int .i64 0, .int .i64 0, .int .i64 0, .string ⟨#[]⟩, .int .i64 0], .int .i64 0] from by rw [hO, if_neg hr, if_pos hm]; rfl)
      rw [hm] at h2
      have H2 := Lib.hid h2
      clear hO hr hl hm h2
      go_enter Tryd.func11, Tryd.ntmps11
      go_wp2_with fail
      refine (H1.out _).mono ?_; rintro e w1 ⟨rfl, rfl⟩
      go_wp2_with fail
      refine (H2.out _).mono ?_; rintro e w2 ⟨rfl, rfl⟩
      go_wp2_with fail
      exact bodyPost_ret (v := .tuple #[.agg #[.int .i64 0, .int .i64 0, .int .i64 0, .int .i64 0, .string ⟨#[]⟩, .int .i64 0], .int .i64 0]) (by simp [results, Tryd.results11, go_sem]) rfl ⟨by rw [HO.out], ((Below.refl _ _).alloc (Nat.le_refl _) _)⟩
    · have l1 : decide ((65 : Int) ≤ ((s[p]'h).toNat : Int)) = true := decide_eq_true (by omega)
      have l2 : decide (((s[p]'h).toNat : Int) ≤ 90) = false := decide_eq_false (by omega)
      have HO := Lib.hid (show oneV (oneT s.data.toList p) = .tuple #[.agg #[.int .i64 5, .int .i64 0, .int .i64 0, .int .i64 0, .string (s.extract p (p + 1)), .int .i64 (p : Int)], .int .i64 1] from by rw [hO, if_neg hr, if_neg (by rw [hm]; decide), hm, extract_string]; rfl)
      rw [hm] at h2
      have H2 := Lib.hid h2
      clear hO hr hl hm h2
      go_enter Tryd.func11, Tryd.ntmps11
      go_wp2_with fail
      refine (H1.out _).mono ?_; rintro e w1 ⟨rfl, rfl⟩
      go_wp2_with fail
      refine (H2.out _).mono ?_; rintro e w2 ⟨rfl, rfl⟩
      go_wp2_with fail
      exact bodyPost_ret (v := .tuple #[.agg #[.int .i64 5, .int .i64 0, .int .i64 0, .int .i64 0, .string (s.extract p (p + 1)), .int .i64 (p : Int)], .int .i64 1]) (by simp [results, Tryd.results11, go_sem]) rfl ⟨by rw [HO.out], ((Below.refl _ _).alloc (Nat.le_refl _) _)⟩
    · have l1 : decide ((65 : Int) ≤ ((s[p]'h).toNat : Int)) = true := decide_eq_true (by omega)
      have l2 : decide (((s[p]'h).toNat : Int) ≤ 90) = false := decide_eq_false (by omega)
      have HO := Lib.hid (show oneV (oneT s.data.toList p) = .tuple #[.agg #[.int .i64 5, .int .i64 0, .int .i64 0, .int .i64 0, .string (s.extract p (p + 2)), .int .i64 (p : Int)], .int .i64 2] from by rw [hO, if_neg hr, if_neg (by rw [hm]; decide), hm, extract_string]; rfl)
      rw [hm] at h2
      have H2 := Lib.hid h2
      clear hO hr hl hm h2
      go_enter Tryd.func11, Tryd.ntmps11
      go_wp2_with fail
      refine (H1.out _).mono ?_; rintro e w1 ⟨rfl, rfl⟩
      go_wp2_with fail
      refine (H2.out _).mono ?_; rintro e w2 ⟨rfl, rfl⟩
      go_wp2_with fail
      exact bodyPost_ret (v := .tuple #[.agg #[.int .i64 5, .int .i64 0, .int .i64 0, .int .i64 0, .string (s.extract p (p + 2)), .int .i64 (p : Int)], .int .i64 2]) (by simp [results, Tryd.results11, go_sem]) rfl ⟨by rw [HO.out], ((Below.refl _ _).alloc (Nat.le_refl _) _)⟩

theorem lone_any (s : ByteArray) (hs : s.size ≤ 4611686018427387903) (p : Nat) (h : p < s.size) (w : World) :
    Calls Tryd.prog 11 #[.string s, .int .i64 (p : Int)] w fun e w' => e = .returned (oneV (oneT s.data.toList p)) ∧ Below w.heap.size w w' := by
  cases hf : isFig (s[p]'h) with
  | true => exact lone_fig s hs p h hf w
  | false =>
    by_cases h1 : (s[p]'h).toNat < 65
    · exact lone_A s hs p h hf h1 w
    · by_cases h2 : 90 < (s[p]'h).toNat
      · exact lone_B s hs p h hf h2 w
      · exact lone_name s hs p h hf ⟨by omega, by omega⟩ w
end Go.Proofs.YtjfmmnebhmlkeaaDoor
