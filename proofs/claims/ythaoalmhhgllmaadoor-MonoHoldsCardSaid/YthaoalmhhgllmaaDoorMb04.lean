/- Texts joined: LxE, LxF, LxG, LxS, LxL. -/
import Derived.Test.YthaoalmhhgllmaaDoorMb03
import Derived.OwnWalk
import Derived.Deep.Onto
import Derived.WalkKit
set_option linter.all false
namespace Go.Proofs.YthaoalmhhgllmaaDoor
open Go.RowKit
set_option maxHeartbeats 4000000 in
set_option maxRecDepth 100000 in
theorem lone_name (s : ByteArray) (hs : s.size ≤ 4611686018427387903) (p : Nat) (h : p < s.size) (hf : isFig (s[p]'h) = false) (hl : 65 ≤ (s[p]'h).toNat ∧ (s[p]'h).toNat ≤ 90) (w : World) :
    Calls Tryd.prog 45 #[.string s, .int .i64 (p : Int)] w fun e w' => e = .returned (oneV (oneT s.data.toList p)) ∧ Below w.heap.size w w' := by
  have H1 := Lib.hid (lfigure_any (s[p]'h))
  rw [hf] at H1
  have g0 := byte_getD s p h
  have HF := Lib.hid (And.intro hf hl)
  have l1 : decide ((65 : Int) ≤ ((s[p]'h).toNat : Int)) = true := decide_eq_true (by omega)
  have l2 : decide (((s[p]'h).toNat : Int) ≤ 90) = true := decide_eq_true (by omega)
  clear hf hl
  go_enter Tryd.func45, Tryd.ntmps45
  go_wp2_with fail
  refine (H1.out _).mono ?_; rintro e w1 ⟨rfl, rfl⟩
  go_wp2_with fail
  go_loopw [6] (fun v wr => ∃ n : Nat, p + n ≤ s.size ∧ v = .int .i64 n ∧ Hid (∀ j, j < n → isNam (s.data.toList.getD (p + j) 0) = true) ∧ wr = w.alloc (.cells #[.int .i64 0, .int .i64 0, .int .i64 0, .int .i64 0, .string ⟨#[]⟩, .int .i64 0] 95)) (fun v _ => s.size - p - (intOf v).toNat)
  case atStart => exact ⟨0, by omega, rfl, Lib.hid fun j hj => by omega, rfl⟩
  case round =>
    obtain ⟨n, hn, rfl, HU, rfl⟩ := hrel
    by_cases hlt : p + n < s.size
    · have gn := byte_getD s (p + n) hlt
      have h4 := lnamed_any (s[p + n]'hlt)
      cases hd : isNam (s[p + n]'hlt) with
      | true =>
        rw [hd] at h4
        have H4 := Lib.hid h4
        have HU' : Hid (∀ j, j < n + 1 → isNam (s.data.toList.getD (p + j) 0) = true) := Lib.hid fun j hj => by
          by_cases e : j = n
          · subst e; rw [gn]; exact hd
          · exact HU.out j (by omega)
        clear gn hd h4
        go_wp2_with fail
        refine (H4.out _).mono ?_; rintro e w3 ⟨rfl, rfl⟩
        go_wp2_with fail
        go_roundw
        case rel => exact ⟨n + 1, by omega, by go_num, HU', by first | rfl | trivial⟩
        case measure => simp [intOf]; omega
      | false =>
        rw [hd] at h4
        have H4 := Lib.hid h4
        have hR : runLen isNam s.data.toList p = n := run_is HU.out (by rw [len_of]; omega) (.inr (by rw [gn]; exact hd))
        have hO : oneT s.data.toList p = (if wordB (subL s.data.toList p n) = true then some (⟨4, 0, 0, 0, subL s.data.toList p n, p⟩, n) else if prE (subL s.data.toList p n) = 0 then some (⟨2, 0, prC (subL s.data.toList p n), prR (subL s.data.toList p n), [], p⟩, n) else if prE (subL s.data.toList p n) = 4 then some (⟨3, 0, 0, 0, [], p⟩, n) else none) := by
          unfold oneT
          rw [if_neg (by rw [g0, HF.out.1]; decide), if_pos (by rw [g0]; exact HF.out.2), hR]
        have h2 := rparse2_any (s.extract p (p + n)) (by rw [extract_size s p n hn]; omega)
        have h3 := lword_any (s.extract p (p + n))
        rw [extract_sub] at h2 h3
        have H2 := Lib.hid h2
        have hX := extract_string s p n
        clear h2 hR gn hd h4
        cases hw : wordB (subL s.data.toList p n) with
        | true =>
          rw [hw] at h3
          have H3 := Lib.hid h3
          have HO := Lib.hid (show oneV (oneT s.data.toList p) = .tuple #[.agg #[.int .i64 4, .int .i64 0, .int .i64 0, .int .i64 0, .string (s.extract p (p + n)), .int .i64 (p : Int)], .int .i64 (n : Int)] from by rw [hO, if_pos hw, hX]; rfl)
          clear hO hw h3 hX
          go_wp2_with fail
          refine (H4.out _).mono ?_; rintro e w3 ⟨rfl, rfl⟩
          go_wp2_with fail
          refine (H2.out _).mono ?_; rintro e w1 ⟨rfl, b1⟩
          have k0 := keep_fresh b1 0 (v := .int .i64 0) rfl
          have k1 := keep_fresh b1 1 (v := .int .i64 0) rfl
          have k2 := keep_fresh b1 2 (v := .int .i64 0) rfl
          have k3 := keep_fresh b1 3 (v := .int .i64 0) rfl
          have k4 := keep_fresh b1 4 (v := .string ⟨#[]⟩) rfl
          have k5 := keep_fresh b1 5 (v := .int .i64 0) rfl
          have f0 := fresh_frozen b1 0
          have f1 := fresh_frozen b1 1
          have f2 := fresh_frozen b1 2
          have f3 := fresh_frozen b1 3
          have f4 := fresh_frozen b1 4
          have f5 := fresh_frozen b1 5
          have h1 : Below w.heap.size w w1 := ((Below.refl _ _).alloc (Nat.le_refl _) _).trans (b1.mono (by simp))
          have zz : w.heap.size < w1.heap.size := by have := b1.size; simp at this; omega
          clear b1
          go_wp2_with fail
          refine (H3.out _).mono ?_; rintro e w2 ⟨rfl, rfl⟩
          go_wp2_with fail
          exact bodyPost_ret (v := .tuple #[.agg #[.int .i64 4, .int .i64 0, .int .i64 0, .int .i64 0, .string (s.extract p (p + n)), .int .i64 (p : Int)], .int .i64 (n : Int)]) (by simp [results, Tryd.results45, go_sem, k0, k1, k2, k3, k4, k5, zz]) rfl ⟨by rw [HO.out], by
            repeat' (first | (with_reducible exact h1) | (with_reducible refine Below.alloc ?_ ?_ _) | (with_reducible refine Below.setCell ?_ ?_ _))
            all_goals (first | (simp; done) | (simpa using h1.size))⟩
        | false =>
          rw [hw] at h3
          have H3 := Lib.hid h3
          rw [if_neg (by rw [hw]; decide)] at hO
          clear hw h3 hX
          by_cases e0 : prE (subL s.data.toList p n) = 0
          · rw [if_pos e0] at hO
            have HO := Lib.hid (show oneV (oneT s.data.toList p) = .tuple #[.agg #[.int .i64 2, .int .i64 0, .int .i64 (prC (subL s.data.toList p n)), .int .i64 (prR (subL s.data.toList p n)), .string ⟨#[]⟩, .int .i64 (p : Int)], .int .i64 (n : Int)] from by rw [hO]; rfl)
            clear hO
            generalize prC (subL s.data.toList p n) = PC at *
            generalize prR (subL s.data.toList p n) = PR at *
            generalize prE (subL s.data.toList p n) = PE at *
            have d0 : (PE == 0) = true := by rw [beq_iff_eq]; exact e0
            clear e0
            go_wp2_with fail
            refine (H4.out _).mono ?_; rintro e w3 ⟨rfl, rfl⟩
            go_wp2_with fail
            refine (H2.out _).mono ?_; rintro e w1 ⟨rfl, b1⟩
            have k0 := keep_fresh b1 0 (v := .int .i64 0) rfl
            have k1 := keep_fresh b1 1 (v := .int .i64 0) rfl
            have k2 := keep_fresh b1 2 (v := .int .i64 0) rfl
            have k3 := keep_fresh b1 3 (v := .int .i64 0) rfl
            have k4 := keep_fresh b1 4 (v := .string ⟨#[]⟩) rfl
            have k5 := keep_fresh b1 5 (v := .int .i64 0) rfl
            have f0 := fresh_frozen b1 0
            have f1 := fresh_frozen b1 1
            have f2 := fresh_frozen b1 2
            have f3 := fresh_frozen b1 3
            have f4 := fresh_frozen b1 4
            have f5 := fresh_frozen b1 5
            have h1 : Below w.heap.size w w1 := ((Below.refl _ _).alloc (Nat.le_refl _) _).trans (b1.mono (by simp))
            have zz : w.heap.size < w1.heap.size := by have := b1.size; simp at this; omega
            clear b1
            go_wp2_with fail
            refine (H3.out _).mono ?_; rintro e w2 ⟨rfl, rfl⟩
            go_wp2_with fail
            exact bodyPost_ret (v := .tuple #[.agg #[.int .i64 2, .int .i64 0, .int .i64 PC, .int .i64 PR, .string ⟨#[]⟩, .int .i64 (p : Int)], .int .i64 (n : Int)]) (by simp [results, Tryd.results45, go_sem, k0, k1, k2, k3, k4, k5, zz]) rfl ⟨by rw [HO.out], by
              repeat' (first | (with_reducible exact h1) | (with_reducible refine Below.alloc ?_ ?_ _) | (with_reducible refine Below.setCell ?_ ?_ _))
              all_goals (first | (simp; done) | (simpa using h1.size))⟩
          · rw [if_neg e0] at hO
            by_cases e4 : prE (subL s.data.toList p n) = 4
            · rw [if_pos e4] at hO
              have HO := Lib.hid (show oneV (oneT s.data.toList p) = .tuple #[.agg #[.int .i64 3, .int .i64 0, .int .i64 0, .int .i64 0, .string ⟨#[]⟩, .int .i64 (p : Int)], .int .i64 (n : Int)] from by rw [hO]; rfl)
              clear hO
              generalize prC (subL s.data.toList p n) = PC at *
              generalize prR (subL s.data.toList p n) = PR at *
              generalize prE (subL s.data.toList p n) = PE at *
              have d0 : (PE == 0) = false := by rw [beq_eq_false_iff_ne]; exact e0
              have d4 : (PE == 4) = true := by rw [beq_iff_eq]; exact e4
              clear e0 e4
              go_wp2_with fail
              refine (H4.out _).mono ?_; rintro e w3 ⟨rfl, rfl⟩
              go_wp2_with fail
              refine (H2.out _).mono ?_; rintro e w1 ⟨rfl, b1⟩
              have k0 := keep_fresh b1 0 (v := .int .i64 0) rfl
              have k1 := keep_fresh b1 1 (v := .int .i64 0) rfl
              have k2 := keep_fresh b1 2 (v := .int .i64 0) rfl
              have k3 := keep_fresh b1 3 (v := .int .i64 0) rfl
              have k4 := keep_fresh b1 4 (v := .string ⟨#[]⟩) rfl
              have k5 := keep_fresh b1 5 (v := .int .i64 0) rfl
              have f0 := fresh_frozen b1 0
              have f1 := fresh_frozen b1 1
              have f2 := fresh_frozen b1 2
              have f3 := fresh_frozen b1 3
              have f4 := fresh_frozen b1 4
              have f5 := fresh_frozen b1 5
              have h1 : Below w.heap.size w w1 := ((Below.refl _ _).alloc (Nat.le_refl _) _).trans (b1.mono (by simp))
              have zz : w.heap.size < w1.heap.size := by have := b1.size; simp at this; omega
              clear b1
              go_wp2_with fail
              refine (H3.out _).mono ?_; rintro e w2 ⟨rfl, rfl⟩
              go_wp2_with fail
              exact bodyPost_ret (v := .tuple #[.agg #[.int .i64 3, .int .i64 0, .int .i64 0, .int .i64 0, .string ⟨#[]⟩, .int .i64 (p : Int)], .int .i64 (n : Int)]) (by simp [results, Tryd.results45, go_sem, k0, k1, k2, k3, k4, k5, zz]) rfl ⟨by rw [HO.out], by
                repeat' (first | (with_reducible exact h1) | (with_reducible refine Below.alloc ?_ ?_ _) | (with_reducible refine Below.setCell ?_ ?_ _))
                all_goals (first | (simp; done) | (simpa using h1.size))⟩
            · rw [if_neg e4] at hO
              have HO := Lib.hid (show oneV (oneT s.data.toList p) = .tuple #[.agg #[.int .i64 0, .int .i64 0, .int .i64 0, .int .i64 0, .string ⟨#[]⟩, .int .i64 0], .int .i64 0] from by rw [hO]; rfl)
              clear hO
              generalize prC (subL s.data.toList p n) = PC at *
              generalize prR (subL s.data.toList p n) = PR at *
              generalize prE (subL s.data.toList p n) = PE at *
              have d0 : (PE == 0) = false := by rw [beq_eq_false_iff_ne]; exact e0
              have d4 : (PE == 4) = false := by rw [beq_eq_false_iff_ne]; exact e4
              clear e0 e4
              go_wp2_with fail
              refine (H4.out _).mono ?_; rintro e w3 ⟨rfl, rfl⟩
              go_wp2_with fail
              refine (H2.out _).mono ?_; rintro e w1 ⟨rfl, b1⟩
              have k0 := keep_fresh b1 0 (v := .int .i64 0) rfl
              have k1 := keep_fresh b1 1 (v := .int .i64 0) rfl
              have k2 := keep_fresh b1 2 (v := .int .i64 0) rfl
              have k3 := keep_fresh b1 3 (v := .int .i64 0) rfl
              have k4 := keep_fresh b1 4 (v := .string ⟨#[]⟩) rfl
              have k5 := keep_fresh b1 5 (v := .int .i64 0) rfl
              have f0 := fresh_frozen b1 0
              have f1 := fresh_frozen b1 1
              have f2 := fresh_frozen b1 2
              have f3 := fresh_frozen b1 3
              have f4 := fresh_frozen b1 4
              have f5 := fresh_frozen b1 5
              have h1 : Below w.heap.size w w1 := ((Below.refl _ _).alloc (Nat.le_refl _) _).trans (b1.mono (by simp))
              have zz : w.heap.size < w1.heap.size := by have := b1.size; simp at this; omega
              clear b1
              go_wp2_with fail
              refine (H3.out _).mono ?_; rintro e w2 ⟨rfl, rfl⟩
              go_wp2_with fail
              exact bodyPost_ret (v := .tuple #[.agg #[.int .i64 0, .int .i64 0, .int .i64 0, .int .i64 0, .string ⟨#[]⟩, .int .i64 0], .int .i64 0]) (by simp [results, Tryd.results45, go_sem, k0, k1, k2, k3, k4, k5, zz]) rfl ⟨by rw [HO.out], by
                repeat' (first | (with_reducible exact h1) | (with_reducible refine Below.alloc ?_ ?_ _) | (with_reducible refine Below.setCell ?_ ?_ _))
                all_goals (first | (simp; done) | (simpa using h1.size))⟩
    · have hR : runLen isNam s.data.toList p = n := run_is HU.out (by rw [len_of]; omega) (.inl (by rw [len_of]; omega))
      have hO : oneT s.data.toList p = (if wordB (subL s.data.toList p n) = true then some (⟨4, 0, 0, 0, subL s.data.toList p n, p⟩, n) else if prE (subL s.data.toList p n) = 0 then some (⟨2, 0, prC (subL s.data.toList p n), prR (subL s.data.toList p n), [], p⟩, n) else if prE (subL s.data.toList p n) = 4 then some (⟨3, 0, 0, 0, [], p⟩, n) else none) := by
        unfold oneT
        rw [if_neg (by rw [g0, HF.out.1]; decide), if_pos (by rw [g0]; exact HF.out.2), hR]
      have h2 := rparse2_any (s.extract p (p + n)) (by rw [extract_size s p n hn]; omega)
      have h3 := lword_any (s.extract p (p + n))
      rw [extract_sub] at h2 h3
      have H2 := Lib.hid h2
      have hX := extract_string s p n
      clear h2 hR 
      cases hw : wordB (subL s.data.toList p n) with
      | true =>
        rw [hw] at h3
        have H3 := Lib.hid h3
        have HO := Lib.hid (show oneV (oneT s.data.toList p) = .tuple #[.agg #[.int .i64 4, .int .i64 0, .int .i64 0, .int .i64 0, .string (s.extract p (p + n)), .int .i64 (p : Int)], .int .i64 (n : Int)] from by rw [hO, if_pos hw, hX]; rfl)
        clear hO hw h3 hX
        go_wp2_with fail
        refine (H2.out _).mono ?_; rintro e w1 ⟨rfl, b1⟩
        have k0 := keep_fresh b1 0 (v := .int .i64 0) rfl
        have k1 := keep_fresh b1 1 (v := .int .i64 0) rfl
        have k2 := keep_fresh b1 2 (v := .int .i64 0) rfl
        have k3 := keep_fresh b1 3 (v := .int .i64 0) rfl
        have k4 := keep_fresh b1 4 (v := .string ⟨#[]⟩) rfl
        have k5 := keep_fresh b1 5 (v := .int .i64 0) rfl
        have f0 := fresh_frozen b1 0
        have f1 := fresh_frozen b1 1
        have f2 := fresh_frozen b1 2
        have f3 := fresh_frozen b1 3
        have f4 := fresh_frozen b1 4
        have f5 := fresh_frozen b1 5
        have h1 : Below w.heap.size w w1 := ((Below.refl _ _).alloc (Nat.le_refl _) _).trans (b1.mono (by simp))
        have zz : w.heap.size < w1.heap.size := by have := b1.size; simp at this; omega
        clear b1
        go_wp2_with fail
        refine (H3.out _).mono ?_; rintro e w2 ⟨rfl, rfl⟩
        go_wp2_with fail
        exact bodyPost_ret (v := .tuple #[.agg #[.int .i64 4, .int .i64 0, .int .i64 0, .int .i64 0, .string (s.extract p (p + n)), .int .i64 (p : Int)], .int .i64 (n : Int)]) (by simp [results, Tryd.results45, go_sem, k0, k1, k2, k3, k4, k5, zz]) rfl ⟨by rw [HO.out], by
          repeat' (first | (with_reducible exact h1) | (with_reducible refine Below.alloc ?_ ?_ _) | (with_reducible refine Below.setCell ?_ ?_ _))
          all_goals (first | (simp; done) | (simpa using h1.size))⟩
      | false =>
        rw [hw] at h3
        have H3 := Lib.hid h3
        rw [if_neg (by rw [hw]; decide)] at hO
        clear hw h3 hX
        by_cases e0 : prE (subL s.data.toList p n) = 0
        · rw [if_pos e0] at hO
          have HO := Lib.hid (show oneV (oneT s.data.toList p) = .tuple #[.agg #[.int .i64 2, .int .i64 0, .int .i64 (prC (subL s.data.toList p n)), .int .i64 (prR (subL s.data.toList p n)), .string ⟨#[]⟩, .int .i64 (p : Int)], .int .i64 (n : Int)] from by rw [hO]; rfl)
          clear hO
          generalize prC (subL s.data.toList p n) = PC at *
          generalize prR (subL s.data.toList p n) = PR at *
          generalize prE (subL s.data.toList p n) = PE at *
          have d0 : (PE == 0) = true := by rw [beq_iff_eq]; exact e0
          clear e0
          go_wp2_with fail
          refine (H2.out _).mono ?_; rintro e w1 ⟨rfl, b1⟩
          have k0 := keep_fresh b1 0 (v := .int .i64 0) rfl
          have k1 := keep_fresh b1 1 (v := .int .i64 0) rfl
          have k2 := keep_fresh b1 2 (v := .int .i64 0) rfl
          have k3 := keep_fresh b1 3 (v := .int .i64 0) rfl
          have k4 := keep_fresh b1 4 (v := .string ⟨#[]⟩) rfl
          have k5 := keep_fresh b1 5 (v := .int .i64 0) rfl
          have f0 := fresh_frozen b1 0
          have f1 := fresh_frozen b1 1
          have f2 := fresh_frozen b1 2
          have f3 := fresh_frozen b1 3
          have f4 := fresh_frozen b1 4
          have f5 := fresh_frozen b1 5
          have h1 : Below w.heap.size w w1 := ((Below.refl _ _).alloc (Nat.le_refl _) _).trans (b1.mono (by simp))
          have zz : w.heap.size < w1.heap.size := by have := b1.size; simp at this; omega
          clear b1
          go_wp2_with fail
          refine (H3.out _).mono ?_; rintro e w2 ⟨rfl, rfl⟩
          go_wp2_with fail
          exact bodyPost_ret (v := .tuple #[.agg #[.int .i64 2, .int .i64 0, .int .i64 PC, .int .i64 PR, .string ⟨#[]⟩, .int .i64 (p : Int)], .int .i64 (n : Int)]) (by simp [results, Tryd.results45, go_sem, k0, k1, k2, k3, k4, k5, zz]) rfl ⟨by rw [HO.out], by
            repeat' (first | (with_reducible exact h1) | (with_reducible refine Below.alloc ?_ ?_ _) | (with_reducible refine Below.setCell ?_ ?_ _))
            all_goals (first | (simp; done) | (simpa using h1.size))⟩
        · rw [if_neg e0] at hO
          by_cases e4 : prE (subL s.data.toList p n) = 4
          · rw [if_pos e4] at hO
            have HO := Lib.hid (show oneV (oneT s.data.toList p) = .tuple #[.agg #[.int .i64 3, .int .i64 0, .int .i64 0, .int .i64 0, .string ⟨#[]⟩, .int .i64 (p : Int)], .int .i64 (n : Int)] from by rw [hO]; rfl)
            clear hO
            generalize prC (subL s.data.toList p n) = PC at *
            generalize prR (subL s.data.toList p n) = PR at *
            generalize prE (subL s.data.toList p n) = PE at *
            have d0 : (PE == 0) = false := by rw [beq_eq_false_iff_ne]; exact e0
            have d4 : (PE == 4) = true := by rw [beq_iff_eq]; exact e4
            clear e0 e4
            go_wp2_with fail
            refine (H2.out _).mono ?_; rintro e w1 ⟨rfl, b1⟩
            have k0 := keep_fresh b1 0 (v := .int .i64 0) rfl
            have k1 := keep_fresh b1 1 (v := .int .i64 0) rfl
            have k2 := keep_fresh b1 2 (v := .int .i64 0) rfl
            have k3 := keep_fresh b1 3 (v := .int .i64 0) rfl
            have k4 := keep_fresh b1 4 (v := .string ⟨#[]⟩) rfl
            have k5 := keep_fresh b1 5 (v := .int .i64 0) rfl
            have f0 := fresh_frozen b1 0
            have f1 := fresh_frozen b1 1
            have f2 := fresh_frozen b1 2
            have f3 := fresh_frozen b1 3
            have f4 := fresh_frozen b1 4
            have f5 := fresh_frozen b1 5
            have h1 : Below w.heap.size w w1 := ((Below.refl _ _).alloc (Nat.le_refl _) _).trans (b1.mono (by simp))
            have zz : w.heap.size < w1.heap.size := by have := b1.size; simp at this; omega
            clear b1
            go_wp2_with fail
            refine (H3.out _).mono ?_; rintro e w2 ⟨rfl, rfl⟩
            go_wp2_with fail
            exact bodyPost_ret (v := .tuple #[.agg #[.int .i64 3, .int .i64 0, .int .i64 0, .int .i64 0, .string ⟨#[]⟩, .int .i64 (p : Int)], .int .i64 (n : Int)]) (by simp [results, Tryd.results45, go_sem, k0, k1, k2, k3, k4, k5, zz]) rfl ⟨by rw [HO.out], by
              repeat' (first | (with_reducible exact h1) | (with_reducible refine Below.alloc ?_ ?_ _) | (with_reducible refine Below.setCell ?_ ?_ _))
              all_goals (first | (simp; done) | (simpa using h1.size))⟩
          · rw [if_neg e4] at hO
            have HO := Lib.hid (show oneV (oneT s.data.toList p) = .tuple #[.agg #[.int .i64 0, .int .i64 0, .int .i64 0, .int .i64 0, .string ⟨#[]⟩, .int .i64 0], .int .i64 0] from by rw [hO]; rfl)
            clear hO
            generalize prC (subL s.data.toList p n) = PC at *
            generalize prR (subL s.data.toList p n) = PR at *
            generalize prE (subL s.data.toList p n) = PE at *
            have d0 : (PE == 0) = false := by rw [beq_eq_false_iff_ne]; exact e0
            have d4 : (PE == 4) = false := by rw [beq_eq_false_iff_ne]; exact e4
            clear e0 e4
            go_wp2_with fail
            refine (H2.out _).mono ?_; rintro e w1 ⟨rfl, b1⟩
            have k0 := keep_fresh b1 0 (v := .int .i64 0) rfl
            have k1 := keep_fresh b1 1 (v := .int .i64 0) rfl
            have k2 := keep_fresh b1 2 (v := .int .i64 0) rfl
            have k3 := keep_fresh b1 3 (v := .int .i64 0) rfl
            have k4 := keep_fresh b1 4 (v := .string ⟨#[]⟩) rfl
            have k5 := keep_fresh b1 5 (v := .int .i64 0) rfl
            have f0 := fresh_frozen b1 0
            have f1 := fresh_frozen b1 1
            have f2 := fresh_frozen b1 2
            have f3 := fresh_frozen b1 3
            have f4 := fresh_frozen b1 4
            have f5 := fresh_frozen b1 5
            have h1 : Below w.heap.size w w1 := ((Below.refl _ _).alloc (Nat.le_refl _) _).trans (b1.mono (by simp))
            have zz : w.heap.size < w1.heap.size := by have := b1.size; simp at this; omega
            clear b1
            go_wp2_with fail
            refine (H3.out _).mono ?_; rintro e w2 ⟨rfl, rfl⟩
            go_wp2_with fail
            exact bodyPost_ret (v := .tuple #[.agg #[.int .i64 0, .int .i64 0, .int .i64 0, .int .i64 0, .string ⟨#[]⟩, .int .i64 0], .int .i64 0]) (by simp [results, Tryd.results45, go_sem, k0, k1, k2, k3, k4, k5, zz]) rfl ⟨by rw [HO.out], by
              repeat' (first | (with_reducible exact h1) | (with_reducible refine Below.alloc ?_ ?_ _) | (with_reducible refine Below.setCell ?_ ?_ _))
              all_goals (first | (simp; done) | (simpa using h1.size))⟩
end Go.Proofs.YthaoalmhhgllmaaDoor
namespace Go.Proofs.YthaoalmhhgllmaaDoor
open Go.RowKit
theorem mark_cases (s : ByteArray) (p : Nat) : markN s.data.toList p = 0 ∨ markN s.data.toList p = 1 ∨ markN s.data.toList p = 2 ∧ p + 1 < s.size := by
  by_cases hp : p + 1 < s.size
  · unfold markN markC
    split
    · exact .inr (.inr ⟨rfl, hp⟩)
    · split
      · exact .inr (.inl rfl)
      · exact .inl rfl
  · have e := byte_past s (p + 1) hp
    unfold markN markC
    rw [e]
    split
    · rename_i h
      rcases h with ⟨_, h | h⟩ | ⟨_, h⟩ <;> exact absurd h (by decide)
    · split
      · exact .inr (.inl rfl)
      · exact .inl rfl

set_option maxHeartbeats 4000000 in
set_option maxRecDepth 100000 in
theorem lone_A (s : ByteArray) (hs : s.size ≤ 4611686018427387903) (p : Nat) (h : p < s.size) (hf : isFig (s[p]'h) = false) (hl : (s[p]'h).toNat < 65) (w : World) :
    Calls Tryd.prog 45 #[.string s, .int .i64 (p : Int)] w fun e w' => e = .returned (oneV (oneT s.data.toList p)) ∧ Below w.heap.size w w' := by
  have H1 := Lib.hid (lfigure_any (s[p]'h))
  rw [hf] at H1
  have g0 := byte_getD s p h
  have h2 := lmark_any s (by omega) p h
  have hO : oneT s.data.toList p = (if subL s.data.toList p 4 = [35, 82, 69, 70] then some (⟨3, 0, 0, 0, [], p⟩, 4) else if markN s.data.toList p = 0 then none else some (⟨5, 0, 0, 0, subL s.data.toList p (markN s.data.toList p).toNat, p⟩, (markN s.data.toList p).toNat)) := by
    unfold oneT
    rw [if_neg (by rw [g0, hf]; decide), if_neg (by rw [g0]; omega)]
  clear hf g0
  by_cases h4 : p + 4 ≤ s.size
  · have d4 : decide ((4 : Int) ≤ (s.size : Int) - (p : Int)) = true := decide_eq_true (by omega)
    by_cases hr : subL s.data.toList p 4 = [35, 82, 69, 70]
    · have dr : ((s.extract p (p + 4)).toList == [35, 82, 69, 70]) = true := by rw [ByteArray.toList_eq, extract_sub, hr]; rfl
      have l1 : decide ((65 : Int) ≤ ((s[p]'h).toNat : Int)) = false := decide_eq_false (by omega)
      have HO := Lib.hid (show oneV (oneT s.data.toList p) = .tuple #[.agg #[.int .i64 3, .int .i64 0, .int .i64 0, .int .i64 0, .string ⟨#[]⟩, .int .i64 (p : Int)], .int .i64 4] from by rw [hO, if_pos hr]; rfl)
      clear hO hr hl
      go_enter Tryd.func45, Tryd.ntmps45
      go_wp2_with fail
      refine (H1.out _).mono ?_; rintro e w1 ⟨rfl, rfl⟩
      go_wp2_with fail
      exact bodyPost_ret (v := .tuple #[.agg #[.int .i64 3, .int .i64 0, .int .i64 0, .int .i64 0, .string ⟨#[]⟩, .int .i64 (p : Int)], .int .i64 4]) (by simp [results, Tryd.results45, go_sem]) rfl ⟨by rw [HO.out], ((Below.refl _ _).alloc (Nat.le_refl _) _)⟩
    · have dr : ((s.extract p (p + 4)).toList == [35, 82, 69, 70]) = false := by rw [ByteArray.toList_eq, extract_sub, beq_eq_false_iff_ne]; exact hr
      rcases mark_cases s p with hm | hm | ⟨hm, hp⟩
      · have l1 : decide ((65 : Int) ≤ ((s[p]'h).toNat : Int)) = false := decide_eq_false (by omega)
        have HO := Lib.hid (show oneV (oneT s.data.toList p) = .tuple #[.agg #[.int .i64 0, .int .i64 0, .int .i64 0, .int .i64 0, .string ⟨#[]⟩, .int .i64 0], .int .i64 0] from by rw [hO, if_neg hr, if_pos hm]; rfl)
        rw [hm] at h2
        have H2 := Lib.hid h2
        clear hO hr hl hm h2
        go_enter Tryd.func45, Tryd.ntmps45
        go_wp2_with fail
        refine (H1.out _).mono ?_; rintro e w1 ⟨rfl, rfl⟩
        go_wp2_with fail
        refine (H2.out _).mono ?_; rintro e w2 ⟨rfl, rfl⟩
        go_wp2_with fail
        exact bodyPost_ret (v := .tuple #[.agg #[.int .i64 0, .int .i64 0, .int .i64 0, .int .i64 0, .string ⟨#[]⟩, .int .i64 0], .int .i64 0]) (by simp [results, Tryd.results45, go_sem]) rfl ⟨by rw [HO.out], ((Below.refl _ _).alloc (Nat.le_refl _) _)⟩
      · have l1 : decide ((65 : Int) ≤ ((s[p]'h).toNat : Int)) = false := decide_eq_false (by omega)
        have HO := Lib.hid (show oneV (oneT s.data.toList p) = .tuple #[.agg #[.int .i64 5, .int .i64 0, .int .i64 0, .int .i64 0, .string (s.extract p (p + 1)), .int .i64 (p : Int)], .int .i64 1] from by rw [hO, if_neg hr, if_neg (by rw [hm]; decide), hm, extract_string]; rfl)
        rw [hm] at h2
        have H2 := Lib.hid h2
        clear hO hr hl hm h2
        go_enter Tryd.func45, Tryd.ntmps45
        go_wp2_with fail
        refine (H1.out _).mono ?_; rintro e w1 ⟨rfl, rfl⟩
        go_wp2_with fail
        refine (H2.out _).mono ?_; rintro e w2 ⟨rfl, rfl⟩
        go_wp2_with fail
        exact bodyPost_ret (v := .tuple #[.agg #[.int .i64 5, .int .i64 0, .int .i64 0, .int .i64 0, .string (s.extract p (p + 1)), .int .i64 (p : Int)], .int .i64 1]) (by simp [results, Tryd.results45, go_sem]) rfl ⟨by rw [HO.out], ((Below.refl _ _).alloc (Nat.le_refl _) _)⟩
      · have l1 : decide ((65 : Int) ≤ ((s[p]'h).toNat : Int)) = false := decide_eq_false (by omega)
        have HO := Lib.hid (show oneV (oneT s.data.toList p) = .tuple #[.agg #[.int .i64 5, .int .i64 0, .int .i64 0, .int .i64 0, .string (s.extract p (p + 2)), .int .i64 (p : Int)], .int .i64 2] from by rw [hO, if_neg hr, if_neg (by rw [hm]; decide), hm, extract_string]; rfl)
        rw [hm] at h2
        have H2 := Lib.hid h2
        clear hO hr hl hm h2
        go_enter Tryd.func45, Tryd.ntmps45
        go_wp2_with fail
        refine (H1.out _).mono ?_; rintro e w1 ⟨rfl, rfl⟩
        go_wp2_with fail
        refine (H2.out _).mono ?_; rintro e w2 ⟨rfl, rfl⟩
        go_wp2_with fail
        exact bodyPost_ret (v := .tuple #[.agg #[.int .i64 5, .int .i64 0, .int .i64 0, .int .i64 0, .string (s.extract p (p + 2)), .int .i64 (p : Int)], .int .i64 2]) (by simp [results, Tryd.results45, go_sem]) rfl ⟨by rw [HO.out], ((Below.refl _ _).alloc (Nat.le_refl _) _)⟩
  · have d4 : decide ((4 : Int) ≤ (s.size : Int) - (p : Int)) = false := decide_eq_false (by omega)
    have hr : ¬ subL s.data.toList p 4 = [35, 82, 69, 70] := by
      intro e
      have := congrArg List.length e
      unfold subL at this
      rw [List.length_take, List.length_drop, len_of] at this
      simp at this
      omega
    clear h4
    rcases mark_cases s p with hm | hm | ⟨hm, hp⟩
    · have l1 : decide ((65 : Int) ≤ ((s[p]'h).toNat : Int)) = false := decide_eq_false (by omega)
      have HO := Lib.hid (show oneV (oneT s.data.toList p) = .tuple #[.agg #[.int .i64 0, .int .i64 0, .int .i64 0, .int .i64 0, .string ⟨#[]⟩, .int .i64 0], .int .i64 0] from by rw [hO, if_neg hr, if_pos hm]; rfl)
      rw [hm] at h2
      have H2 := Lib.hid h2
      clear hO hr hl hm h2
      go_enter Tryd.func45, Tryd.ntmps45
      go_wp2_with fail
      refine (H1.out _).mono ?_; rintro e w1 ⟨rfl, rfl⟩
      go_wp2_with fail
      refine (H2.out _).mono ?_; rintro e w2 ⟨rfl, rfl⟩
      go_wp2_with fail
      exact bodyPost_ret (v := .tuple #[.agg #[.int .i64 0, .int .i64 0, .int .i64 0, .int .i64 0, .string ⟨#[]⟩, .int .i64 0], .int .i64 0]) (by simp [results, Tryd.results45, go_sem]) rfl ⟨by rw [HO.out], ((Below.refl _ _).alloc (Nat.le_refl _) _)⟩
    · have l1 : decide ((65 : Int) ≤ ((s[p]'h).toNat : Int)) = false := decide_eq_false (by omega)
      have HO := Lib.hid (show oneV (oneT s.data.toList p) = .tuple #[.agg #[.int .i64 5, .int .i64 0, .int .i64 0, .int .i64 0, .string (s.extract p (p + 1)), .int .i64 (p : Int)], .int .i64 1] from by rw [hO, if_neg hr, if_neg (by rw [hm]; decide), hm, extract_string]; rfl)
      rw [hm] at h2
      have H2 := Lib.hid h2
      clear hO hr hl hm h2
      go_enter Tryd.func45, Tryd.ntmps45
      go_wp2_with fail
      refine (H1.out _).mono ?_; rintro e w1 ⟨rfl, rfl⟩
      go_wp2_with fail
      refine (H2.out _).mono ?_; rintro e w2 ⟨rfl, rfl⟩
      go_wp2_with fail
      exact bodyPost_ret (v := .tuple #[.agg #[.int .i64 5, .int .i64 0, .int .i64 0, .int .i64 0, .string (s.extract p (p + 1)), .int .i64 (p : Int)], .int .i64 1]) (by simp [results, Tryd.results45, go_sem]) rfl ⟨by rw [HO.out], ((Below.refl _ _).alloc (Nat.le_refl _) _)⟩
    · have l1 : decide ((65 : Int) ≤ ((s[p]'h).toNat : Int)) = false := decide_eq_false (by omega)
      have HO := Lib.hid (show oneV (oneT s.data.toList p) = .tuple #[.agg #[.int .i64 5, .int .i64 0, .int .i64 0, .int .i64 0, .string (s.extract p (p + 2)), .int .i64 (p : Int)], .int .i64 2] from by rw [hO, if_neg hr, if_neg (by rw [hm]; decide), hm, extract_string]; rfl)
      rw [hm] at h2
      have H2 := Lib.hid h2
      clear hO hr hl hm h2
      go_enter Tryd.func45, Tryd.ntmps45
      go_wp2_with fail
      refine (H1.out _).mono ?_; rintro e w1 ⟨rfl, rfl⟩
      go_wp2_with fail
      refine (H2.out _).mono ?_; rintro e w2 ⟨rfl, rfl⟩
      go_wp2_with fail
      exact bodyPost_ret (v := .tuple #[.agg #[.int .i64 5, .int .i64 0, .int .i64 0, .int .i64 0, .string (s.extract p (p + 2)), .int .i64 (p : Int)], .int .i64 2]) (by simp [results, Tryd.results45, go_sem]) rfl ⟨by rw [HO.out], ((Below.refl _ _).alloc (Nat.le_refl _) _)⟩

set_option maxHeartbeats 4000000 in
set_option maxRecDepth 100000 in
theorem lone_B (s : ByteArray) (hs : s.size ≤ 4611686018427387903) (p : Nat) (h : p < s.size) (hf : isFig (s[p]'h) = false) (hl : 90 < (s[p]'h).toNat) (w : World) :
    Calls Tryd.prog 45 #[.string s, .int .i64 (p : Int)] w fun e w' => e = .returned (oneV (oneT s.data.toList p)) ∧ Below w.heap.size w w' := by
  have H1 := Lib.hid (lfigure_any (s[p]'h))
  rw [hf] at H1
  have g0 := byte_getD s p h
  have h2 := lmark_any s (by omega) p h
  have hO : oneT s.data.toList p = (if subL s.data.toList p 4 = [35, 82, 69, 70] then some (⟨3, 0, 0, 0, [], p⟩, 4) else if markN s.data.toList p = 0 then none else some (⟨5, 0, 0, 0, subL s.data.toList p (markN s.data.toList p).toNat, p⟩, (markN s.data.toList p).toNat)) := by
    unfold oneT
    rw [if_neg (by rw [g0, hf]; decide), if_neg (by rw [g0]; omega)]
  clear hf g0
  by_cases h4 : p + 4 ≤ s.size
  · have d4 : decide ((4 : Int) ≤ (s.size : Int) - (p : Int)) = true := decide_eq_true (by omega)
    by_cases hr : subL s.data.toList p 4 = [35, 82, 69, 70]
    · have dr : ((s.extract p (p + 4)).toList == [35, 82, 69, 70]) = true := by rw [ByteArray.toList_eq, extract_sub, hr]; rfl
      have l1 : decide ((65 : Int) ≤ ((s[p]'h).toNat : Int)) = true := decide_eq_true (by omega)
      have l2 : decide (((s[p]'h).toNat : Int) ≤ 90) = false := decide_eq_false (by omega)
      have HO := Lib.hid (show oneV (oneT s.data.toList p) = .tuple #[.agg #[.int .i64 3, .int .i64 0, .int .i64 0, .int .i64 0, .string ⟨#[]⟩, .int .i64 (p : Int)], .int .i64 4] from by rw [hO, if_pos hr]; rfl)
      clear hO hr hl
      go_enter Tryd.func45, Tryd.ntmps45
      go_wp2_with fail
      refine (H1.out _).mono ?_; rintro e w1 ⟨rfl, rfl⟩
      go_wp2_with fail
      exact bodyPost_ret (v := .tuple #[.agg #[.int .i64 3, .int .i64 0, .int .i64 0, .int .i64 0, .string ⟨#[]⟩, .int .i64 (p : Int)], .int .i64 4]) (by simp [results, Tryd.results45, go_sem]) rfl ⟨by rw [HO.out], ((Below.refl _ _).alloc (Nat.le_refl _) _)⟩
    · have dr : ((s.extract p (p + 4)).toList == [35, 82, 69, 70]) = false := by rw [ByteArray.toList_eq, extract_sub, beq_eq_false_iff_ne]; exact hr
      rcases mark_cases s p with hm | hm | ⟨hm, hp⟩
      · have l1 : decide ((65 : Int) ≤ ((s[p]'h).toNat : Int)) = true := decide_eq_true (by omega)
        have l2 : decide (((s[p]'h).toNat : Int) ≤ 90) = false := decide_eq_false (by omega)
        have HO := Lib.hid (show oneV (oneT s.data.toList p) = .tuple #[.agg #[.int .i64 0, .int .i64 0, .int .i64 0, .int .i64 0, .string ⟨#[]⟩, .int .i64 0], .int .i64 0] from by rw [hO, if_neg hr, if_pos hm]; rfl)
        rw [hm] at h2
        have H2 := Lib.hid h2
        clear hO hr hl hm h2
        go_enter Tryd.func45, Tryd.ntmps45
        go_wp2_with fail
        refine (H1.out _).mono ?_; rintro e w1 ⟨rfl, rfl⟩
        go_wp2_with fail
        refine (H2.out _).mono ?_; rintro e w2 ⟨rfl, rfl⟩
        go_wp2_with fail
        exact bodyPost_ret (v := .tuple #[.agg #[.int .i64 0, .int .i64 0, .int .i64 0, .int .i64 0, .string ⟨#[]⟩, .int .i64 0], .int .i64 0]) (by simp [results, Tryd.results45, go_sem]) rfl ⟨by rw [HO.out], ((Below.refl _ _).alloc (Nat.le_refl _) _)⟩
      · have l1 : decide ((65 : Int) ≤ ((s[p]'h).toNat : Int)) = true := decide_eq_true (by omega)
        have l2 : decide (((s[p]'h).toNat : Int) ≤ 90) = false := decide_eq_false (by omega)
        have HO := Lib.hid (show oneV (oneT s.data.toList p) = .tuple #[.agg #[.int .i64 5, .int .i64 0, .int .i64 0, .int .i64 0, .string (s.extract p (p + 1)), .int .i64 (p : Int)], .int .i64 1] from by rw [hO, if_neg hr, if_neg (by rw [hm]; decide), hm, extract_string]; rfl)
        rw [hm] at h2
        have H2 := Lib.hid h2
        clear hO hr hl hm h2
        go_enter Tryd.func45, Tryd.ntmps45
        go_wp2_with fail
        refine (H1.out _).mono ?_; rintro e w1 ⟨rfl, rfl⟩
        go_wp2_with fail
        refine (H2.out _).mono ?_; rintro e w2 ⟨rfl, rfl⟩
        go_wp2_with fail
        exact bodyPost_ret (v := .tuple #[.agg #[.int .i64 5, .int .i64 0, .int .i64 0, .int .i64 0, .string (s.extract p (p + 1)), .int .i64 (p : Int)], .int .i64 1]) (by simp [results, Tryd.results45, go_sem]) rfl ⟨by rw [HO.out], ((Below.refl _ _).alloc (Nat.le_refl _) _)⟩
      · have l1 : decide ((65 : Int) ≤ ((s[p]'h).toNat : Int)) = true := decide_eq_true (by omega)
        have l2 : decide (((s[p]'h).toNat : Int) ≤ 90) = false := decide_eq_false (by omega)
        have HO := Lib.hid (show oneV (oneT s.data.toList p) = .tuple #[.agg #[.int .i64 5, .int .i64 0, .int .i64 0, .int .i64 0, .string (s.extract p (p + 2)), .int .i64 (p : Int)], .int .i64 2] from by rw [hO, if_neg hr, if_neg (by rw [hm]; decide), hm, extract_string]; rfl)
        rw [hm] at h2
        have H2 := Lib.hid h2
        clear hO hr hl hm h2
        go_enter Tryd.func45, Tryd.ntmps45
        go_wp2_with fail
        refine (H1.out _).mono ?_; rintro e w1 ⟨rfl, rfl⟩
        go_wp2_with fail
        refine (H2.out _).mono ?_; rintro e w2 ⟨rfl, rfl⟩
        go_wp2_with fail
        exact bodyPost_ret (v := .tuple #[.agg #[.int .i64 5, .int .i64 0, .int .i64 0, .int .i64 0, .string (s.extract p (p + 2)), .int .i64 (p : Int)], .int .i64 2]) (by simp [results, Tryd.results45, go_sem]) rfl ⟨by rw [HO.out], ((Below.refl _ _).alloc (Nat.le_refl _) _)⟩
  · have d4 : decide ((4 : Int) ≤ (s.size : Int) - (p : Int)) = false := decide_eq_false (by omega)
    have hr : ¬ subL s.data.toList p 4 = [35, 82, 69, 70] := by
      intro e
      have := congrArg List.length e
      unfold subL at this
      rw [List.length_take, List.length_drop, len_of] at this
      simp at this
      omega
    clear h4
    rcases mark_cases s p with hm | hm | ⟨hm, hp⟩
    · have l1 : decide ((65 : Int) ≤ ((s[p]'h).toNat : Int)) = true := decide_eq_true (by omega)
      have l2 : decide (((s[p]'h).toNat : Int) ≤ 90) = false := decide_eq_false (by omega)
      have HO := Lib.hid (show oneV (oneT s.data.toList p) = .tuple #[.agg #[.int .i64 0, .int .i64 0, .int .i64 0, .int .i64 0, .string ⟨#[]⟩, .int .i64 0], .int .i64 0] from by rw [hO, if_neg hr, if_pos hm]; rfl)
      rw [hm] at h2
      have H2 := Lib.hid h2
      clear hO hr hl hm h2
      go_enter Tryd.func45, Tryd.ntmps45
      go_wp2_with fail
      refine (H1.out _).mono ?_; rintro e w1 ⟨rfl, rfl⟩
      go_wp2_with fail
      refine (H2.out _).mono ?_; rintro e w2 ⟨rfl, rfl⟩
      go_wp2_with fail
      exact bodyPost_ret (v := .tuple #[.agg #[.int .i64 0, .int .i64 0, .int .i64 0, .int .i64 0, .string ⟨#[]⟩, .int .i64 0], .int .i64 0]) (by simp [results, Tryd.results45, go_sem]) rfl ⟨by rw [HO.out], ((Below.refl _ _).alloc (Nat.le_refl _) _)⟩
    · have l1 : decide ((65 : Int) ≤ ((s[p]'h).toNat : Int)) = true := decide_eq_true (by omega)
      have l2 : decide (((s[p]'h).toNat : Int) ≤ 90) = false := decide_eq_false (by omega)
      have HO := Lib.hid (show oneV (oneT s.data.toList p) = .tuple #[.agg #[.int .i64 5, .int .i64 0, .int .i64 0, .int .i64 0, .string (s.extract p (p + 1)), .int .i64 (p : Int)], .int .i64 1] from by rw [hO, if_neg hr, if_neg (by rw [hm]; decide), hm, extract_string]; rfl)
      rw [hm] at h2
      have H2 := Lib.hid h2
      clear hO hr hl hm h2
      go_enter Tryd.func45, Tryd.ntmps45
      go_wp2_with fail
      refine (H1.out _).mono ?_; rintro e w1 ⟨rfl, rfl⟩
      go_wp2_with fail
      refine (H2.out _).mono ?_; rintro e w2 ⟨rfl, rfl⟩
      go_wp2_with fail
      exact bodyPost_ret (v := .tuple #[.agg #[.int .i64 5, .int .i64 0, .int .i64 0, .int .i64 0, .string (s.extract p (p + 1)), .int .i64 (p : Int)], .int .i64 1]) (by simp [results, Tryd.results45, go_sem]) rfl ⟨by rw [HO.out], ((Below.refl _ _).alloc (Nat.le_refl _) _)⟩
    · have l1 : decide ((65 : Int) ≤ ((s[p]'h).toNat : Int)) = true := decide_eq_true (by omega)
      have l2 : decide (((s[p]'h).toNat : Int) ≤ 90) = false := decide_eq_false (by omega)
      have HO := Lib.hid (show oneV (oneT s.data.toList p) = .tuple #[.agg #[.int .i64 5, .int .i64 0, .int .i64 0, .int .i64 0, .string (s.extract p (p + 2)), .int .i64 (p : Int)], .int .i64 2] from by rw [hO, if_neg hr, if_neg (by rw [hm]; decide), hm, extract_string]; rfl)
      rw [hm] at h2
      have H2 := Lib.hid h2
      clear hO hr hl hm h2
      go_enter Tryd.func45, Tryd.ntmps45
      go_wp2_with fail
      refine (H1.out _).mono ?_; rintro e w1 ⟨rfl, rfl⟩
      go_wp2_with fail
      refine (H2.out _).mono ?_; rintro e w2 ⟨rfl, rfl⟩
      go_wp2_with fail
      exact bodyPost_ret (v := .tuple #[.agg #[.int .i64 5, .int .i64 0, .int .i64 0, .int .i64 0, .string (s.extract p (p + 2)), .int .i64 (p : Int)], .int .i64 2]) (by simp [results, Tryd.results45, go_sem]) rfl ⟨by rw [HO.out], ((Below.refl _ _).alloc (Nat.le_refl _) _)⟩

theorem lone_any (s : ByteArray) (hs : s.size ≤ 4611686018427387903) (p : Nat) (h : p < s.size) (w : World) :
    Calls Tryd.prog 45 #[.string s, .int .i64 (p : Int)] w fun e w' => e = .returned (oneV (oneT s.data.toList p)) ∧ Below w.heap.size w w' := by
  cases hf : isFig (s[p]'h) with
  | true => exact lone_fig s hs p h hf w
  | false =>
    by_cases h1 : (s[p]'h).toNat < 65
    · exact lone_A s hs p h hf h1 w
    · by_cases h2 : 90 < (s[p]'h).toNat
      · exact lone_B s hs p h hf h2 w
      · exact lone_name s hs p h hf ⟨by omega, by omega⟩ w
end Go.Proofs.YthaoalmhhgllmaaDoor
namespace Go.Proofs.YthaoalmhhgllmaaDoor
open Go.RowKit
theorem grown_of_below' {w w' : World} (h : Below w.heap.size w w') (row : Option Nat) : w.grownBy w' row := ⟨h.os, h.tape, h.output, h.size, fun i hi _ => h.block i hi⟩
theorem own_below' {w w' : World} {base : Nat} {e : TypeId} {size : Nat} {v : Value} {n : Nat} {xs : List Value} (h : w.ownsRow base e size v n xs) (hb : Below w.heap.size w w') : w'.ownsRow base e size v n xs :=
  h.kept (grown_of_below' hb none) (by cases v.ownBlock <;> simp)
def tokL (t : Tok) : List Value := [.int .i64 t.kind, .int .i64 t.num, .int .i64 t.col, .int .i64 t.row, .string ⟨t.text.toArray⟩, .int .i64 (t.frm : Int)]
def toksC (l : List Tok) : List Value := l.flatMap tokL
theorem toksC_snoc (l : List Tok) (t : Tok) : toksC (l ++ [t]) = toksC l ++ tokL t := by
  unfold toksC; rw [List.flatMap_append]; simp
def scanF (l : List UInt8) : Nat → Nat → List Tok → Option (List Tok) × Nat
  | 0, p, _ => (none, p)
  | k + 1, p, acc =>
    if p < l.length then
      if l.getD p 0 = 32 then scanF l k (p + 1) acc
      else match oneT l p with
        | none => (none, p)
        | some (t, n) => scanF l k (p + n) (acc ++ [t])
    else (some acc, 0)
def scanT (l : List UInt8) : Option (List Tok) × Nat := scanF l (l.length + 1) 0 []
def ansL (l : List UInt8) : List Tok := if 200 < l.length then [] else (scanT l).1.getD []
def ansP (l : List UInt8) : Int := if 200 < l.length then 0 else match (scanT l).1 with | some _ => 0 | none => ((scanT l).2 : Int)
def ansE (l : List UInt8) : Int := if 200 < l.length then 3 else match (scanT l).1 with | some _ => 0 | none => 2
theorem ans_some {l : List UInt8} (h : ¬ 200 < l.length) {a : List Tok} (e : scanT l = (some a, 0)) : ansL l = a ∧ ansP l = 0 ∧ ansE l = 0 := by
  unfold ansL ansP ansE
  rw [if_neg h, if_neg h, if_neg h, e]
  exact ⟨rfl, rfl, rfl⟩
theorem ans_none {l : List UInt8} (h : ¬ 200 < l.length) {p : Nat} (e : scanT l = (none, p)) : ansL l = [] ∧ ansP l = (p : Int) ∧ ansE l = 2 := by
  unfold ansL ansP ansE
  rw [if_neg h, if_neg h, if_neg h, e]
  exact ⟨rfl, rfl, rfl⟩
theorem run_pos {f : UInt8 → Bool} {l : List UInt8} {p : Nat} (hp : p < l.length) (h : f (l.getD p 0) = true) : 0 < runLen f l p := by
  have e : l.drop p = l[p] :: l.drop (p + 1) := List.drop_eq_getElem_cons hp
  have hf : f l[p] = true := by simpa [List.getD_eq_getElem?_getD, hp] using h
  unfold runLen
  rw [e, List.takeWhile_cons, hf]
  simp
theorem run_le (f : UInt8 → Bool) (l : List UInt8) (p : Nat) (hp : p ≤ l.length) : p + runLen f l p ≤ l.length := by
  unfold runLen
  have h := (List.takeWhile_prefix f (l := l.drop p)).length_le
  rw [List.length_drop] at h
  omega
theorem one_pos (s : ByteArray) {p n : Nat} {t : Tok} (hp : p < s.size) (h : oneT s.data.toList p = some (t, n)) : 0 < n ∧ p + n ≤ s.size := by
  have hl := len_of s
  unfold oneT at h
  split at h
  · rename_i hf
    split at h
    · simp at h
      rw [← h.2, ← hl]
      exact ⟨run_pos (by rw [hl]; exact hp) hf, run_le _ _ _ (by rw [hl]; omega)⟩
    · cases h
  · split at h
    · rename_i hf hc
      have hN : isNam (s.data.toList.getD p 0) = true := decide_eq_true (.inl hc)
      have hq : 0 < runLen isNam s.data.toList p ∧ p + runLen isNam s.data.toList p ≤ s.size := by
        rw [← hl]
        exact ⟨run_pos (by rw [hl]; exact hp) hN, run_le _ _ _ (by rw [hl]; omega)⟩
      split at h
      · simp at h; rw [← h.2]; exact hq
      · split at h
        · simp at h; rw [← h.2]; exact hq
        · split at h
          · simp at h; rw [← h.2]; exact hq
          · cases h
    · split at h
      · rename_i hr
        simp at h
        have := congrArg List.length hr
        unfold subL at this
        rw [List.length_take, List.length_drop, hl] at this
        simp at this
        omega
      · split at h
        · cases h
        · rename_i hm
          simp at h
          rcases mark_cases s p with h0 | h1 | ⟨h2, h3⟩
          · exact absurd h0 hm
          · rw [h1] at h; have := h.2; simp at this; omega
          · rw [h2] at h; have := h.2; simp at this; omega
theorem tok_info : (Tryd.prog.info? 95).map (fun i => (i.zero, i.size, i.bytes)) = some (some (.agg #[.int .i64 0, .int .i64 0, .int .i64 0, .int .i64 0, .string ⟨#[]⟩, .int .i64 0]), 6, 56) := by kernel_rfl

set_option maxHeartbeats 4000000 in
set_option maxRecDepth 100000 in
theorem lscan_short (s : ByteArray) (hs : s.size ≤ 200) (w : World) :
    Calls Tryd.prog 29 #[.string s] w fun e w' => ∃ v, e = .returned (.tuple #[v, .int .i64 (ansP s.data.toList), .int .i64 (ansE s.data.toList)]) ∧
      w'.ownsRow w.heap.size 95 6 v (ansL s.data.toList).length (toksC (ansL s.data.toList)) ∧ Below w.heap.size w w' := by
  obtain ⟨i0, hi0, hz0, hz1, hz2⟩ := info_parts tok_info
  have HI := Lib.hid hi0
  have HZ0 := Lib.hid hz0
  have HZ1 := Lib.hid hz1
  have HZ2 := Lib.hid hz2
  have HL := Lib.hid (len_of s)
  have HN : Hid (¬ 200 < s.data.toList.length) := Lib.hid (by rw [len_of]; omega)
  have d0 : decide ((200 : Int) < (s.size : Int)) = false := decide_eq_false (by omega)
  clear hi0 hz0 hz1 hz2
  go_enter Tryd.func29, Tryd.ntmps29
  go_wp2_with fail
  go_loopw [5, 6] (fun v a wr => ∃ (p k : Nat) (acc : List Tok), p ≤ s.size ∧ a = .int .i64 p ∧ acc.length ≤ p ∧ Hid (scanT s.data.toList = scanF s.data.toList k p acc ∧ s.size < k + p) ∧ wr.ownsRow w.heap.size 95 6 v acc.length (toksC acc) ∧ Below w.heap.size w wr) (fun _ a _ => s.size - (intOf a).toNat)
  case atStart => exact ⟨0, s.data.toList.length + 1, [], Nat.zero_le _, rfl, Nat.zero_le _, Lib.hid ⟨rfl, by rw [len_of]; omega⟩, World.ownsRow_nil _ _ _ _, Below.refl _ _⟩
  case round =>
    obtain ⟨p, k, acc, hp, rfl, hacc, HS, hown, hb⟩ := hrel
    have HO := Lib.hid hown
    clear hown
    by_cases hlt : p < s.size
    · have hk : ∃ k', k = k' + 1 := by
        cases k with
        | zero => have := HS.out.2; omega
        | succ k' => exact ⟨k', rfl⟩
      obtain ⟨k', rfl⟩ := hk
      have g0 := byte_getD s p hlt
      have hk' : s.size < k' + 1 + p := HS.out.2
      have hS : scanT s.data.toList = (if s[p]'hlt = 32 then scanF s.data.toList k' (p + 1) acc else match oneT s.data.toList p with | none => (none, p) | some (t, n) => scanF s.data.toList k' (p + n) (acc ++ [t])) := by
        rw [HS.out.1, scanF, if_pos (by rw [len_of]; exact hlt), g0]
      clear HS
      by_cases hc : s[p]'hlt = 32
      · rw [if_pos hc] at hS
        have HS' : Hid (scanT s.data.toList = scanF s.data.toList k' (p + 1) acc ∧ s.size < k' + (p + 1)) := Lib.hid ⟨hS, by omega⟩
        have t32 : (((s[p]'hlt).toNat : Int) == 32) = true := byte_eq (k := 32) hc
        clear hS hc g0 hk'
        go_wp2_with fail
        go_roundw
        case rel => exact ⟨p + 1, k', acc, by omega, by go_num, by omega, HS', HO.out, hb⟩
        case measure => simp [intOf]; omega
      · rw [if_neg hc] at hS
        have t32 : (((s[p]'hlt).toNat : Int) == 32) = false := byte_ne (k := 32) hc
        have h1 := lone_any s (by omega) p hlt
        clear hc g0
        cases ho : oneT s.data.toList p with
        | none =>
          rw [ho] at h1 hS
          have HA := Lib.hid (ans_none HN.out hS)
          have H1 := Lib.hid h1
          unfold oneV at H1
          clear ho h1 hS hk'
          go_wp2_with fail
          refine (H1.out _).mono ?_; rintro e w1 ⟨rfl, b1⟩
          go_wp2_with fail
          go_ret3
          exact ⟨.slice none 0 0, by rw [HA.out.2.1, HA.out.2.2]; rfl, by rw [HA.out.1]; exact World.ownsRow_nil _ _ _ _, (hb.trans (b1.mono hb.size)).alloc (Nat.le_trans hb.size b1.size) _⟩
        | some r =>
          obtain ⟨⟨kd, nu, co, ro, te, fr⟩, n⟩ := r
          obtain ⟨hn0, hn1⟩ := one_pos s hlt ho
          rw [ho] at h1 hS
          have HS' : Hid (scanT s.data.toList = scanF s.data.toList k' (p + n) (acc ++ [⟨kd, nu, co, ro, te, fr⟩]) ∧ s.size < k' + (p + n)) := Lib.hid ⟨hS, by omega⟩
          have H1 := Lib.hid h1
          unfold oneV tokC at H1
          have tn : ((n : Int) == 0) = false := by rw [beq_eq_false_iff_ne]; omega
          clear ho h1 hS hk'
          go_wp2_with fail
          refine (H1.out _).mono ?_; rintro e w1 ⟨rfl, b1⟩
          have HO1 := Lib.hid (own_below' HO.out b1)
          have hb1 := hb.trans (b1.mono hb.size)
          have hz := hb1.size
          clear b1
          go_wp2_with (at_builtin
                       refine wpList_append_own _ rfl _ _ 75 rfl w.heap.size 95 i0 (.agg #[.int .i64 0, .int .i64 0, .int .i64 0, .int .i64 0, .string ⟨#[]⟩, .int .i64 0]) 6 56 Tryd.underlying75 HI.out HZ0.out HZ1.out HZ2.out rfl (by decide) _ _ _ rfl ((HO1.out.alloc _).alloc _)
                         ⟨w1.heap.size + 1, 0, none⟩ 1 1 (tokL ⟨kd, nu, co, ro, te, fr⟩) rfl rfl ?c1 ?c2 ?c3 ?c4 ?c5 ?_)
          case c1 =>
            intro j u hj
            match j, hj with
            | 0, hj => simp [tokL] at hj; subst hj; simp [Addr.add, go_sem]
            | 1, hj => simp [tokL] at hj; subst hj; simp [Addr.add, go_sem]
            | 2, hj => simp [tokL] at hj; subst hj; simp [Addr.add, go_sem]
            | 3, hj => simp [tokL] at hj; subst hj; simp [Addr.add, go_sem]
            | 4, hj => simp [tokL] at hj; subst hj; simp [Addr.add, go_sem]
            | 5, hj => simp [tokL] at hj; subst hj; simp [Addr.add, go_sem]
          case c2 => intro u hu; simp [tokL] at hu; rcases hu with rfl | rfl | rfl | rfl | rfl | rfl <;> rfl
          case c3 => unfold maxLen; omega
          case c4 => omega
          case c5 => simp; omega
          intro v' w4 hown4 hg4 _
          rw [← toksC_snoc] at hown4
          have e5 : acc.length + 1 = (acc ++ [(⟨kd, nu, co, ro, te, fr⟩ : Tok)]).length := by simp
          rw [e5] at hown4
          have HO4 := Lib.hid hown4
          have hb4 : Below w.heap.size w w4 := ((hb1.alloc hz _).alloc (by simp; omega) _).grown hg4 (by simp; omega) (fun g hgg => (HO1.out.lt g hgg).1)
          clear hg4 hown4
          go_wp2_with fail
          go_roundw
          case rel => exact ⟨p + n, k', acc ++ [⟨kd, nu, co, ro, te, fr⟩], hn1, by go_num, by simp; omega, HS', HO4.out, hb4⟩
          case measure => simp [intOf]; omega
    · have hpe : ¬ p < s.data.toList.length := by rw [len_of]; exact hlt
      have hS : scanT s.data.toList = (some acc, 0) := by
        cases k with
        | zero => have := HS.out.2; omega
        | succ k' => rw [HS.out.1, scanF, if_neg hpe]
      have HA := Lib.hid (ans_some HN.out hS)
      clear hS hpe HS
      go_wp2_with fail
      go_ret3
      exact ⟨_, by rw [HA.out.2.1, HA.out.2.2]; rfl, by rw [HA.out.1]; exact HO.out, hb⟩
set_option maxHeartbeats 400000 in
theorem lscan_long (s : ByteArray) (hs : 200 < s.size) (hm : s.size ≤ 9223372036854775807) (w : World) :
    Calls Tryd.prog 29 #[.string s] w fun e w' => e = .returned (.tuple #[.slice none 0 0, .int .i64 0, .int .i64 3]) ∧ w = w' := by
  have d0 : decide ((200 : Int) < (s.size : Int)) = true := decide_eq_true (by omega)
  clear hs
  go_enter Tryd.func29, Tryd.ntmps29
  go_wp2_with fail
  go_ret3
  exact ⟨rfl, rfl⟩
theorem lscan_any (s : ByteArray) (hm : s.size ≤ 9223372036854775807) (w : World) :
    Calls Tryd.prog 29 #[.string s] w fun e w' => ∃ v, e = .returned (.tuple #[v, .int .i64 (ansP s.data.toList), .int .i64 (ansE s.data.toList)]) ∧
      w'.ownsRow w.heap.size 95 6 v (ansL s.data.toList).length (toksC (ansL s.data.toList)) ∧ Below w.heap.size w w' := by
  by_cases h : s.size ≤ 200
  · exact lscan_short s h w
  · have hl : 200 < s.data.toList.length := by rw [len_of]; omega
    have e1 : ansL s.data.toList = [] := if_pos hl
    have e2 : ansP s.data.toList = 0 := if_pos hl
    have e3 : ansE s.data.toList = 3 := if_pos hl
    refine (lscan_long s (by omega) hm w).mono fun e w' ⟨he, hw⟩ => ⟨.slice none 0 0, by rw [he, e2, e3], by rw [e1]; exact World.ownsRow_nil _ _ _ _, hw ▸ Below.refl _ _⟩
end Go.Proofs.YthaoalmhhgllmaaDoor
namespace Go.Proofs.YthaoalmhhgllmaaDoor
open Go.RowKit
def AtT (w : World) (g : Nat) (l : List Tok) : Prop := ∀ (i : Nat) (t : Tok), l[i]? = some t → w.cell? ⟨g, i * 6, none⟩ = some (.int .i64 t.kind) ∧ w.cell? ⟨g, i * 6 + 1, none⟩ = some (.int .i64 t.num) ∧ w.cell? ⟨g, i * 6 + 2, none⟩ = some (.int .i64 t.col) ∧
  w.cell? ⟨g, i * 6 + 3, none⟩ = some (.int .i64 t.row) ∧ w.cell? ⟨g, i * 6 + 4, none⟩ = some (.string ⟨t.text.toArray⟩) ∧ w.cell? ⟨g, i * 6 + 5, none⟩ = some (.int .i64 (t.frm : Int))
theorem toks_at : ∀ (l : List Tok) (i k : Nat) (t : Tok), l[i]? = some t → k < 6 → (toksC l)[i * 6 + k]? = (tokL t)[k]?
  | [], i, k, t, h, _ => by simp at h
  | p :: r, 0, k, t, h, hk => by
    simp at h; subst h
    show (tokL p ++ toksC r)[0 * 6 + k]? = _
    rw [Nat.zero_mul, Nat.zero_add, List.getElem?_append_left (by simpa [tokL] using hk)]
  | p :: r, i + 1, k, t, h, hk => by
    have := toks_at r i k t (by simpa using h) hk
    show (tokL p ++ toksC r)[(i + 1) * 6 + k]? = _
    rw [List.getElem?_append_right (by simp [tokL]; omega), show (i + 1) * 6 + k - (tokL p).length = i * 6 + k from by simp [tokL]; omega]
    exact this
theorem tok_shape {w : World} {base T : Nat} {v : Value} {l : List Tok} (h : w.ownsRow base T 6 v l.length (toksC l)) :
    ∃ A cap, v = .slice A l.length cap ∧ (l ≠ [] → ∃ g, A = some ⟨g, 0, none⟩ ∧ g < w.heap.size ∧ base ≤ g ∧ AtT w g l) ∧ l.length ≤ maxLen := by
  have h' := h
  obtain ⟨_, h⟩ := h
  rcases h with ⟨rfl, hl⟩ | ⟨g, cap, cur, rfl, _, _, hlc, hcm, _⟩
  · have e := List.eq_nil_of_length_eq_zero hl
    subst e
    exact ⟨none, 0, rfl, fun h => absurd rfl h, Nat.zero_le _⟩
  · refine ⟨some ⟨g, 0, none⟩, cap, rfl, fun _ => ⟨g, rfl, (h'.lt g rfl).2, (h'.lt g rfl).1, ?_⟩, by omega⟩
    intro i t hi
    have hlt : i < l.length := (List.getElem?_eq_some_iff.1 hi).1
    have c := fun k (hk : k < 6) => (h'.cellAt (i * 6 + k) (by omega)).trans (toks_at l i k t hi hk)
    exact ⟨c 0 (by omega), c 1 (by omega), c 2 (by omega), c 3 (by omega), c 4 (by omega), c 5 (by omega)⟩
theorem one_pos' {l : List UInt8} {p n : Nat} {t : Tok} (hp : p < l.length) (h : oneT l p = some (t, n)) : 0 < n ∧ p + n ≤ l.length := by
  have e1 : (⟨l.toArray⟩ : ByteArray).data.toList = l := by simp
  have e2 : (⟨l.toArray⟩ : ByteArray).size = l.length := by show l.toArray.size = l.length; simp
  have := one_pos ⟨l.toArray⟩ (p := p) (n := n) (t := t) (by rw [e2]; exact hp) (by rw [e1]; exact h)
  rwa [e2] at this
theorem scan_len {l : List UInt8} : ∀ (k p : Nat) (acc a : List Tok) (q : Nat), p ≤ l.length → scanF l k p acc = (some a, q) → a.length ≤ acc.length + (l.length - p)
  | 0, p, acc, a, q, _, h => by simp [scanF] at h
  | k + 1, p, acc, a, q, hp, h => by
    unfold scanF at h
    split at h
    · rename_i hlt
      split at h
      · have := scan_len k (p + 1) acc a q (by omega) h; omega
      · split at h
        · simp at h
        · rename_i t n ho
          obtain ⟨h0, h1⟩ := one_pos' hlt ho
          have := scan_len k (p + n) (acc ++ [t]) a q h1 h
          simp at this
          omega
    · simp at h
      rw [← h.1]; omega
theorem ans_len (l : List UInt8) : (ansL l).length ≤ 1000 := by
  unfold ansL
  split
  · simp
  · cases hs : scanT l with
    | mk o q =>
      cases o with
      | none => simp
      | some a =>
        have := scan_len (l.length + 1) 0 [] a q (Nat.zero_le _) hs
        simp at this ⊢
        omega
end Go.Proofs.YthaoalmhhgllmaaDoor
namespace Go.Proofs.YthaoalmhhgllmaaDoor
open Go.RowKit
theorem getD_drop (l : List UInt8) (p i : Nat) : (l.drop p).getD i 0 = l.getD (p + i) 0 := by
  simp [List.getD_eq_getElem?_getD]
theorem one_drop (l : List UInt8) (p : Nat) : oneT l p = (oneT (l.drop p) 0).map fun x => ({ x.1 with frm := p }, x.2) := by
  have e0 : (l.drop p).getD 0 0 = l.getD p 0 := getD_drop l p 0
  have e1 : ∀ f, runLen f (l.drop p) 0 = runLen f l p := fun f => by unfold runLen; simp
  have e2 : ∀ n, subL (l.drop p) 0 n = subL l p n := fun n => by unfold subL; simp
  have e3 : markN (l.drop p) 0 = markN l p := by
    unfold markN
    rw [e0, getD_drop]
  unfold oneT
  rw [e0, e1, e1, e2, e2, e2, e3, e2]
  split
  · cases numV (subL l p (runLen isFig l p)) <;> rfl
  · split
    · split
      · rfl
      · split
        · rfl
        · split <;> rfl
    · split
      · rfl
      · split <;> rfl
end Go.Proofs.YthaoalmhhgllmaaDoor
