/- Plain facts on tokens: a token hangs on its bytes, and on what stands behind it; blanks. -/
import Derived.Test.YtjfmmnebhmlkeaaDoorLxK
namespace Go.Proofs.YtjfmmnebhmlkeaaDoor
open Go.RowKit

theorem getD_drop (l : List UInt8) (p i : Nat) : (l.drop p).getD i 0 = l.getD (p + i) 0 := by
  simp [List.getD_eq_getElem?_getD]
theorem one_drop (l : List UInt8) (p : Nat) : oneT l p = (oneT (l.drop p) 0).map fun x => ({ x.1 with frm := p }, x.2) := by
  have e0 : (l.drop p).getD 0 0 = l.getD p 0 := getD_drop l p 0
  have e1 : ∀ f, runLen f (l.drop p) 0 = runLen f l p := fun f => by unfold runLen; simp
  have e2 : ∀ n, subL (l.drop p) 0 n = subL l p n := fun n => by unfold subL; simp
  have e3 : markN (l.drop p) 0 = markN l p := by
    unfold markN
    rw [e0, getD_drop]
  unfold oneT
  rw [e0, e1, e1, e2, e2, e2, e3, e2]
  split
  · cases numV (subL l p (runLen isFig l p)) <;> rfl
  · split
    · split
      · rfl
      · split
        · rfl
        · split <;> rfl
    · split
      · rfl
      · split <;> rfl
theorem run_take (f : UInt8 → Bool) (r : List UInt8) : r.take (runLen f r 0) = r.takeWhile f := by
  unfold runLen
  rw [List.drop_zero]
  exact (List.prefix_iff_eq_take.1 (List.takeWhile_prefix f)).symm
theorem run_end (f : UInt8 → Bool) : ∀ (r : List UInt8) (c : UInt8), (r.drop (runLen f r 0)).head? = some c → f c = false
  | [], c, h => by simp at h
  | a :: q, c, h => by
    unfold runLen at h
    rw [List.drop_zero, List.takeWhile_cons] at h
    cases ha : f a with
    | false => rw [ha] at h; simp at h; rw [← h]; exact ha
    | true =>
      rw [ha] at h
      simp at h
      exact run_end f q c (by unfold runLen; simpa using h)
theorem take_own (f : UInt8 → Bool) (z : List UInt8) (hz : z.takeWhile f = []) : ∀ r : List UInt8, (r.takeWhile f ++ z).takeWhile f = r.takeWhile f
  | [] => hz
  | a :: q => by
    rw [List.takeWhile_cons]
    cases ha : f a with
    | false => simpa using hz
    | true =>
      show (a :: (q.takeWhile f ++ z)).takeWhile f = a :: q.takeWhile f
      rw [List.takeWhile_cons, ha]
      show a :: (q.takeWhile f ++ z).takeWhile f = _
      rw [take_own f z hz q]
theorem run_local (f : UInt8 → Bool) (r z : List UInt8) (h32 : f 32 = false) (hz : z.head? = none ∨ z.head? = some 32 ∨ z.head? = (r.drop (runLen f r 0)).head?) : runLen f (r.take (runLen f r 0) ++ z) 0 = runLen f r 0 := by
  have hzf : z.takeWhile f = [] := by
    cases z with
    | nil => rfl
    | cons c q =>
      rw [List.takeWhile_cons]
      have hc : f c = false := by
        rcases hz with h | h | h
        · simp at h
        · simp at h; rw [h]; exact h32
        · exact run_end f r c (by rw [← h]; rfl)
      rw [hc]; rfl
  rw [run_take]
  unfold runLen
  rw [List.drop_zero, List.drop_zero, take_own f z hzf r]
theorem head_take {r z : List UInt8} {n : Nat} (hn : 0 < n) (hr : r ≠ []) : (r.take n ++ z).getD 0 0 = r.getD 0 0 := by
  cases r with
  | nil => exact absurd rfl hr
  | cons a q =>
    cases n with
    | zero => omega
    | succ k => rfl
theorem sub_take {r z : List UInt8} {n : Nat} (hn : n ≤ r.length) : subL (r.take n ++ z) 0 n = subL r 0 n := by
  unfold subL
  rw [List.drop_zero, List.drop_zero, List.take_append_of_le_length (by rw [List.length_take]; omega), List.take_take, Nat.min_self]
theorem mark_one {c d : UInt8} (h : markC c d = 1) : markC c 0 = 1 ∧ markC c 32 = 1 := by
  unfold markC at h ⊢
  split at h
  · simp at h
  · split at h
    · rename_i h1
      have a : ¬ (c = 60 ∧ ((0 : UInt8) = 61 ∨ (0 : UInt8) = 62) ∨ c = 62 ∧ (0 : UInt8) = 61) := by
        rintro (⟨_, h | h⟩ | ⟨_, h⟩) <;> exact absurd h (by decide)
      have b : ¬ (c = 60 ∧ ((32 : UInt8) = 61 ∨ (32 : UInt8) = 62) ∨ c = 62 ∧ (32 : UInt8) = 61) := by
        rintro (⟨_, h | h⟩ | ⟨_, h⟩) <;> exact absurd h (by decide)
      rw [if_neg a, if_neg b, if_pos h1]
      exact ⟨rfl, rfl⟩
    · simp at h
theorem mark_val (c d : UInt8) : markC c d = 0 ∨ markC c d = 1 ∨ markC c d = 2 := by
  unfold markC
  split
  · exact .inr (.inr rfl)
  · split
    · exact .inr (.inl rfl)
    · exact .inl rfl
theorem mark_35 (d : UInt8) : markC 35 d = 0 := by
  unfold markC
  rw [if_neg (by rintro (⟨h, _⟩ | ⟨h, _⟩) <;> exact absurd h (by decide)), if_neg (by decide)]
/-- A token hangs on its own bytes, and on the next one: that is a blank, or none, or the same. -/
theorem one_local {r z : List UInt8} {t : Tok} {n : Nat} (hr : r ≠ []) (h : oneT r 0 = some (t, n)) (hz : z.head? = none ∨ z.head? = some 32 ∨ z.head? = (r.drop n).head?) : oneT (r.take n ++ z) 0 = some (t, n) := by
  obtain ⟨hn, hle⟩ := one_pos' (l := r) (p := 0) (List.length_pos_iff.2 hr) h
  rw [Nat.zero_add] at hle
  have hh := head_take (z := z) hn hr
  have hs := sub_take (z := z) hle
  have h0 := h
  unfold oneT at h ⊢
  rw [hh]
  split at h
  · rename_i hf
    rw [if_pos hf]
    have hn2 : n = runLen isFig r 0 := by
      split at h
      · simp at h; exact h.2.symm
      · cases h
    subst hn2
    rw [run_local isFig r z (by decide) hz, hs]
    exact h
  · rename_i hf
    rw [if_neg hf]
    split at h
    · rename_i hc
      rw [if_pos hc]
      have hn2 : n = runLen isNam r 0 := by
        split at h
        · simp at h; exact h.2.symm
        · split at h
          · simp at h; exact h.2.symm
          · split at h
            · simp at h; exact h.2.symm
            · cases h
      subst hn2
      rw [run_local isNam r z (by decide) hz, hs]
      exact h
    · rename_i hc
      rw [if_neg hc]
      split at h
      · rename_i hq
        have hn2 : n = 4 := by simp at h; exact h.2.symm
        subst hn2
        rw [if_pos (by rw [hs]; exact hq)]
        exact h
      · rename_i hq
        split at h
        · cases h
        · rename_i hm
          simp at h
          obtain ⟨ht, hn2⟩ := h
          cases r with
          | nil => exact absurd rfl hr
          | cons c q =>
            have c35 : c ≠ 35 := by
              rintro rfl
              exact hm (mark_35 _)
            have hq2 : ¬ subL ((c :: q).take n ++ z) 0 4 = [35, 82, 69, 70] := by
              cases n with
              | zero => omega
              | succ k =>
                intro e
                have e2 := congrArg List.head? e
                simp [subL] at e2
                exact c35 e2
            have hm2 : markN ((c :: q).take n ++ z) 0 = markN (c :: q) 0 := by
              have hv : markN (c :: q) 0 = markC c (q.getD 0 0) := rfl
              rw [hv] at hm hn2 ⊢
              rcases mark_val c (q.getD 0 0) with h1 | h1 | h1
              · exact absurd h1 hm
              · rw [h1] at hn2 ⊢
                have hn3 : n = 1 := by simpa using hn2.symm
                subst hn3
                obtain ⟨m0, m1⟩ := mark_one h1
                cases z with
                | nil => exact m0
                | cons a y =>
                  show markC c a = 1
                  rcases hz with h | h | h
                  · simp at h
                  · simp at h; rw [h]; exact m1
                  · simp at h
                    cases q with
                    | nil => simp at h
                    | cons b x => simp at h; rw [h]; exact h1
              · rw [h1] at hn2 ⊢
                have hn3 : n = 2 := by simpa using hn2.symm
                subst hn3
                cases q with
                | nil => simp at hle
                | cons b x => exact h1
            rw [if_neg hq2, hm2, if_neg hm, hn2, hs]
            rw [hn2] at ht
            rw [← ht]
end Go.Proofs.YtjfmmnebhmlkeaaDoor
