/- Plain facts on places' texts: which text is a place's. -/
import Derived.Test.YtjfmmnebhmlkeaaDoorRefE
namespace Go.Proofs.YtjfmmnebhmlkeaaDoor
open Go.Lib

theorem letter_toNat (c : Int) (h0 : 0 ≤ c) (h1 : c ≤ 15) : (letter c).toNat = 65 + c.toNat := by
  unfold letter; rw [UInt8.toNat_ofNat']; omega
theorem textAt_is (j : Nat) (h : j < 1024) : textAt j = letter ((j : Int) % 16) :: decDigits (j / 16 + 1) := by
  unfold textAt
  rw [atC_of j h, atR_of j h]
  unfold placeText
  rw [if_pos ((rightB_iff _ _).2 (by omega))]
  refine congrArg (List.cons _) ?_
  have e : (j : Int) / 16 + 1 = ((j / 16 + 1 : Nat) : Int) := by omega
  rw [e, itoa_nonneg]
/-- A formed text: its letter, and the number behind. -/
theorem formed_parts {l : List UInt8} (h : formedB l = true) : ∃ (ch : UInt8) (ds : List UInt8) (u : Nat), l = ch :: ds ∧ 65 ≤ ch.toNat ∧ ch.toNat ≤ 90 ∧ 1 ≤ u ∧ u ≤ 999 ∧ decDigits u = ds ∧ decFrom 0 ds = some u := by
  unfold formedB at h
  rw [Bool.and_eq_true, decide_eq_true_eq, decide_eq_true_eq] at h
  obtain ⟨⟨h2, h4, ha, hz, h1⟩, hd⟩ := h
  cases l with
  | nil => simp at h2
  | cons ch ds =>
    have hdec : ∃ u, decFrom 0 ds = some u := by
      have aux : ∀ (l : List UInt8) (acc : Nat), (∀ i (hi : i < l.length), 48 ≤ (l[i]'hi).toNat ∧ (l[i]'hi).toNat ≤ 57) → ∃ u, decFrom acc l = some u := by
        intro l
        induction l with
        | nil => intro acc _; exact ⟨acc, rfl⟩
        | cons b t ih =>
          intro acc hb
          have h0 := hb 0 (by simp)
          simp only [List.getElem_cons_zero] at h0
          simp only [decFrom, digitVal, if_pos h0]
          exact ih _ fun i hi => by
            have := hb (i + 1) (by simpa using hi)
            simpa using this
      refine aux ds 0 fun i hi => ?_
      have := hd (i + 1) (by simpa using hi) (by omega)
      simpa [List.getD_eq_getElem?_getD, List.getElem?_eq_getElem hi] using this
    obtain ⟨u, hu⟩ := hdec
    have hne : ds ≠ [] := by rintro rfl; simp at h2
    have hh : ds.head? ≠ some 48 := by
      cases ds with
      | nil => simp
      | cons b t =>
        simp only [List.getD_eq_getElem?_getD, List.getElem?_cons_succ, List.getElem?_cons_zero, Option.getD_some] at h1
        intro e
        have e := Option.some.inj e
        subst e
        exact h1 rfl
    have hdig := digits_of_dec ds.length ds u rfl hu hne (.inl hh)
    have hlt := decFrom_lt ds 0 u hu
    have hl3 : ds.length ≤ 3 := by simpa using h4
    have hp : 10 ^ ds.length ≤ 10 ^ 3 := Nat.pow_le_pow_right (by decide) hl3
    refine ⟨ch, ds, u, rfl, ha, hz, ?_, by omega, hdig, hu⟩
    rcases Nat.eq_zero_or_pos u with e | e
    · subst e
      rw [digits_zero] at hdig
      rw [← hdig] at hh
      simp at hh
    · exact e
theorem digits_inj {u v : Nat} (h : decDigits u = decDigits v) : u = v := by
  have a := dec_digits u
  rw [h, dec_digits] at a
  exact (Option.some.inj a).symm
/-- What Parse comes to at a formed text. -/
theorem parse_yes {ch : UInt8} {ds : List UInt8} {u : Nat} (hf : formedB (ch :: ds) = true) (h1 : 65 ≤ ch.toNat) (h2 : ch.toNat ≤ 80) (hu : 1 ≤ u) (hu2 : u ≤ 64) (hd : decDigits u = ds) :
    prC (ch :: ds) = (ch.toNat : Int) - 65 ∧ prR (ch :: ds) = (u : Int) - 1 ∧ prE (ch :: ds) = 0 := by
  obtain ⟨i, hi⟩ : ∃ i : Nat, i = 16 * (u - 1) + (ch.toNat - 65) := ⟨_, rfl⟩
  have hi2 : i < 1024 := by omega
  have ht : textAt i = ch :: ds := by
    rw [textAt_is i hi2, ← hd]
    have e1 : letter ((i : Int) % 16) = ch := by
      apply UInt8.toNat_inj.1
      rw [letter_toNat _ (by omega) (by omega)]
      omega
    have e2 : i / 16 + 1 = u := by omega
    rw [e1, e2]
  have hfd := find_some hi2 ht fun j hj he => by
    have hj2 : j < 1024 := by omega
    rw [textAt_is j hj2, ← hd] at he
    have e1 := congrArg UInt8.toNat (List.cons.inj he).1
    rw [letter_toNat _ (by omega) (by omega)] at e1
    have e2 := digits_inj (List.cons.inj he).2
    omega
  refine ⟨?_, ?_, ?_⟩
  · unfold prC; rw [if_pos hf, hfd]; show atC (i : Int) = _; rw [atC_of i hi2]; omega
  · unfold prR; rw [if_pos hf, hfd]; show atR (i : Int) = _; rw [atR_of i hi2]; omega
  · unfold prE; rw [if_pos hf, hfd]
theorem parse_no {ch : UInt8} {ds : List UInt8} {u : Nat} (hf : formedB (ch :: ds) = true) (h : 80 < ch.toNat ∨ 64 < u) (hd : decDigits u = ds) :
    prC (ch :: ds) = 0 ∧ prR (ch :: ds) = 0 ∧ prE (ch :: ds) = 4 := by
  have hfd := find_none (l := ch :: ds) fun j hj2 he => by
    rw [textAt_is j hj2, ← hd] at he
    have e1 := congrArg UInt8.toNat (List.cons.inj he).1
    rw [letter_toNat _ (by omega) (by omega)] at e1
    have e2 := digits_inj (List.cons.inj he).2
    omega
  refine ⟨?_, ?_, ?_⟩
  · unfold prC; rw [if_pos hf, hfd]
  · unfold prR; rw [if_pos hf, hfd]
  · unfold prE; rw [if_pos hf, hfd]
theorem parse_form {l : List UInt8} (hf : formedB l = false) : prC l = 0 ∧ prR l = 0 ∧ prE l = 2 := by
  refine ⟨?_, ?_, ?_⟩
  · unfold prC; rw [if_neg (by rw [hf]; decide)]
  · unfold prR; rw [if_neg (by rw [hf]; decide)]
  · unfold prE; rw [if_neg (by rw [hf]; decide)]
end Go.Proofs.YtjfmmnebhmlkeaaDoor
