/- Plain facts on numbers' texts: which text is a number's. No program in it. -/
import Derived.Test.YtjfmmnebhmlkeaaDoorPl
import Derived.Lib.Atoi
import Derived.Lib.AtoiAll
import Derived.Lib.AtoiAllCases
import Derived.Lib.ItoaNum
import Derived.Lib.ItoaMem
import Derived.Laws.Strings
namespace Go.Proofs.YtjfmmnebhmlkeaaDoor
open Go.Lib

theorem digitVal_eq {b : UInt8} {d : Nat} (h : digitVal b = some d) : d < 10 ∧ b = UInt8.ofNat (48 + d) ∧ b.toNat = 48 + d := by
  unfold digitVal at h
  split at h
  · injection h with h
    refine ⟨by omega, ?_, by omega⟩
    apply UInt8.toNat_inj.1
    rw [UInt8.toNat_ofNat']
    omega
  · cases h
theorem digitVal_of {d : Nat} (h : d < 10) : digitVal (UInt8.ofNat (48 + d)) = some d := by
  have e : (UInt8.ofNat (48 + d)).toNat = 48 + d := by rw [UInt8.toNat_ofNat']; omega
  unfold digitVal
  rw [e, if_pos (by omega)]
  congr 1
  omega
theorem decFrom_append (l : List UInt8) (b : UInt8) : ∀ acc, decFrom acc (l ++ [b]) = (decFrom acc l).bind fun n => (digitVal b).map fun d => n * 10 + d := by
  induction l with
  | nil => intro acc; simp only [List.nil_append, decFrom, Option.bind_some]; cases digitVal b <;> rfl
  | cons a t ih =>
    intro acc
    simp only [List.cons_append, decFrom]
    cases digitVal a with
    | none => rfl
    | some d => exact ih _
theorem decFrom_le : ∀ (l : List UInt8) (acc u : Nat), decFrom acc l = some u → acc ≤ u
  | [], acc, u, h => by simp only [decFrom, Option.some.injEq] at h; omega
  | c :: r, acc, u, h => by
    simp only [decFrom] at h
    split at h
    · have := decFrom_le r _ u h; omega
    · cases h
theorem parse_of_dec : ∀ (l : List UInt8) (acc u : Nat), decFrom acc l = some u → u < 18446744073709551616 → parseUint10 acc l = .ok u
  | [], acc, u, h, _ => by simp only [decFrom, Option.some.injEq] at h; subst h; rfl
  | c :: r, acc, u, h, hu => by
    simp only [decFrom] at h
    split at h
    · rename_i d hd
      have hle := decFrom_le r _ u h
      obtain ⟨h1, _, h3⟩ := digitVal_eq hd
      simp only [parseUint10]
      have e : c.toNat - 48 = d := by omega
      rw [if_pos (by omega), if_neg (by omega), if_neg (by omega), e]
      exact parse_of_dec r _ u h hu
    · cases h

theorem dec_digits (u : Nat) : decFrom 0 (decDigits u) = some u := by
  induction u using Nat.strongRecOn with
  | _ u ih =>
    by_cases h : u < 10
    · rw [decDigits, dif_pos h]
      simp only [decFrom, digitVal_of h]
      simp
    · rw [decDigits, dif_neg h, decFrom_append, ih (u / 10) (by omega), digitVal_of (by omega)]
      simp
      omega
theorem head_append {α : Type} {l : List α} (r : List α) (h : l ≠ []) : (l ++ r).head? = l.head? := by
  cases l with
  | nil => exact absurd rfl h
  | cons a t => rfl
theorem digits_ne (u : Nat) : decDigits u ≠ [] := by
  intro h
  have := decDigits_length u
  have := nDigits_pos u
  rw [h] at *
  simp at *
  omega
theorem digits_head (u : Nat) (hu : u ≠ 0) : (decDigits u).head? ≠ some 48 := by
  induction u using Nat.strongRecOn with
  | _ u ih =>
    by_cases h : u < 10
    · rw [decDigits, dif_pos h]
      simp only [List.head?_cons, ne_eq, Option.some.injEq]
      intro e
      have := congrArg UInt8.toNat e
      rw [UInt8.toNat_ofNat'] at this
      have e2 : (48 : UInt8).toNat = 48 := rfl
      omega
    · rw [decDigits, dif_neg h, head_append _ (digits_ne _)]
      exact ih (u / 10) (by omega) (by omega)
theorem digits_zero : decDigits 0 = [48] := by rw [decDigits_one (by omega)]; rfl

theorem snoc_cases {α : Type} (l : List α) (h : l ≠ []) : ∃ t b, l = t ++ [b] := ⟨l.dropLast, l.getLast h, (List.dropLast_concat_getLast h).symm⟩
/-- A row of figures without needless noughts is its number's. -/
theorem digits_of_dec (n : Nat) : ∀ (l : List UInt8) (u : Nat), l.length = n → decFrom 0 l = some u → l ≠ [] → (l.head? ≠ some 48 ∨ l.length = 1) → decDigits u = l := by
  induction n using Nat.strongRecOn with
  | _ n ih =>
    intro l u hn hd hne hh
    obtain ⟨t, b, rfl⟩ := snoc_cases l hne
    rw [decFrom_append] at hd
    cases ht : decFrom 0 t with
    | none => rw [ht] at hd; cases hd
    | some m =>
      rw [ht, Option.bind_some] at hd
      cases hb : digitVal b with
      | none => rw [hb] at hd; cases hd
      | some d =>
        rw [hb] at hd
        simp only [Option.map_some, Option.some.injEq] at hd
        obtain ⟨h1, h2, _⟩ := digitVal_eq hb
        by_cases hte : t = []
        · subst hte
          simp only [decFrom, Option.some.injEq] at ht
          subst ht
          have : u = d := by omega
          subst this
          rw [decDigits_one h1, h2]; rfl
        · have hl : (t ++ [b]).length ≠ 1 := by
            have : 0 < t.length := List.length_pos_iff.2 hte
            simp; omega
          have hh' : t.head? ≠ some 48 := by
            rcases hh with hh | hh
            · rwa [head_append _ hte] at hh
            · exact absurd hh hl
          have hlen : t.length + 1 = n := by simpa using hn
          have it := ih t.length (by omega) t m rfl ht hte (.inl hh')
          have hm : m ≠ 0 := by
            rintro rfl
            rw [digits_zero] at it
            rw [← it] at hh'
            simp at hh'
          rw [decDigits, dif_neg (by omega), show u / 10 = m by omega, show u % 10 = d by omega, it, h2]
theorem nDigits_le (u : Nat) (h : u ≤ 9223372036854775808) : nDigits u ≤ 19 := by
  by_cases h1 : u < 10 ^ 18
  · have := lt_pow_nDigits u
    rcases Nat.lt_or_ge (nDigits u) 20 with h2 | h2
    · omega
    · exfalso
      have h3 : 10 ^ 19 ≤ u := by
        by_cases h0 : u < 10
        · rw [nDigits_small h0] at h2; omega
        · obtain ⟨k, hk⟩ : ∃ k, nDigits u = k + 20 := ⟨nDigits u - 20, by omega⟩
          exfalso
          have hu : nDigits u ≤ 18 := by
            clear hk h2 this
            have aux : ∀ k v, v < 10 ^ k → 1 ≤ k → nDigits v ≤ k := by
              intro k
              induction k with
              | zero => intro v _ h; omega
              | succ k ih =>
                intro v hv _
                by_cases hv0 : v < 10
                · rw [nDigits_small hv0]; omega
                · rw [nDigits_big hv0]
                  rcases Nat.eq_zero_or_pos k with hk | hk
                  · subst hk; omega
                  · have := ih (v / 10) (by rw [Nat.pow_succ] at hv; omega) hk
                    omega
            exact aux 18 u h1 (by omega)
          omega
      omega
  · have := nDigits_unique 18 u (by omega) (by omega)
    omega

theorem itoa_parse (n : Int) (hn : B64 n) : atoiAll (itoa n) = .ok n := by
  unfold B64 at hn
  unfold itoa
  have key : ∀ u : Nat, u < 18446744073709551616 → parseMag (decDigits u) = .ok u := fun u hu => by
    unfold parseMag
    rw [if_neg (digits_ne u)]
    exact parse_of_dec _ 0 u (dec_digits u) hu
  split
  · rw [atoiAll_minus, key n.natAbs (by omega)]
    simp only [signed]
    rw [if_neg (by omega)]
    congr 1
    omega
  · have hk := key n.toNat (by omega)
    cases hd : decDigits n.toNat with
    | nil => exact absurd hd (digits_ne _)
    | cons c r =>
      obtain ⟨d, hc⟩ := digit_of_decFrom _ 0 _ (dec_digits n.toNat) 0 c (by rw [hd]; rfl)
      obtain ⟨h1, _, h3⟩ := digitVal_eq hc
      rw [atoiAll_plain c r (by omega) (by omega), ← hd, hk]
      simp only [signless]
      rw [if_neg (by omega)]
      congr 1
      omega

/-- The number whose text it is, if there is one: as strconv has it. -/
def pB (l : List UInt8) : Bool := match atoiAll l with
  | .ok v => decide (itoa v = l)
  | _ => false
def pV (l : List UInt8) : Int := match atoiAll l with
  | .ok v => keep (decide (itoa v = l)) v
  | _ => 0
theorem p_some {l : List UInt8} {n : Int} (hn : B64 n) (h : itoa n = l) : pV l = n ∧ pB l = true := by
  subst h
  unfold pV pB
  rw [itoa_parse n hn]
  simp [keep]
theorem p_none {l : List UInt8} (h : ∀ n, B64 n → itoa n ≠ l) : pV l = 0 ∧ pB l = false := by
  unfold pV pB
  cases ha : atoiAll l
  · have hb := atoiAll_bounds ha
    have := h _ hb
    simp [keep, this]
  · exact ⟨rfl, rfl⟩
  · exact ⟨rfl, rfl⟩

theorem p_fail {l : List UInt8} (h : ∀ v, atoiAll l ≠ .ok v) : pV l = 0 ∧ pB l = false := by
  unfold pV pB
  cases ha : atoiAll l
  · exact absurd ha (h _)
  · exact ⟨rfl, rfl⟩
  · exact ⟨rfl, rfl⟩
theorem p_test {s : ByteArray} {v : Int} (h : atoiAll s.data.toList = .ok v) : (itoa v == s.toList) = pB s.data.toList := by
  unfold pB
  rw [h, ByteArray.toList_eq]
  exact bool_iff (by simp)
theorem p_keep {s : ByteArray} {v : Int} (h : atoiAll s.data.toList = .ok v) : keep (itoa v == s.toList) v = pV s.data.toList := by
  rw [p_test h]
  unfold pV pB
  rw [h]

/-- What of a text is the figures: behind a minus. -/
def minusB (l : List UInt8) : Bool := decide (l.head? = some 45)
def rest (l : List UInt8) : List UInt8 := if minusB l = true then l.tail else l
/-- A text that has a number's form, and its number is told. -/
theorem p_form {l : List UInt8} {u : Nat} (hne : rest l ≠ []) (hh : (rest l).head? ≠ some 48 ∨ ((rest l).length = 1 ∧ minusB l = false)) (hd : decFrom 0 (rest l) = some u) :
    pV l = keep (inI (sgn (minusB l) u)) (sgn (minusB l) u) ∧ pB l = inI (sgn (minusB l) u) := by
  have hdig : decDigits u = rest l := digits_of_dec _ (rest l) u rfl hd hne (hh.imp id fun h => h.1)
  have htext : itoa (sgn (minusB l) u) = l := by
    cases hm : minusB l with
    | true =>
      have h0 : u ≠ 0 := by
        rintro rfl
        rw [digits_zero] at hdig
        rw [← hdig, hm] at hh
        simp at hh
      have hr : l = 45 :: rest l := by
        unfold rest; rw [if_pos hm]
        unfold minusB at hm
        cases l with
        | nil => simp at hm
        | cons c r => simp at hm; subst hm; rfl
      rw [sgn_neg]
      rw [itoa_neg u (by omega), hdig]
      exact hr.symm
    | false =>
      rw [sgn_pos, itoa_nonneg, hdig]
      unfold rest; rw [if_neg (by rw [hm]; decide)]
  by_cases hb : B64 (sgn (minusB l) u)
  · obtain ⟨h1, h2⟩ := p_some hb htext
    obtain ⟨h3, h4⟩ := some_is hb
    exact ⟨h1.trans h3, h2.trans h4⟩
  · have hn : ∀ n, B64 n → itoa n ≠ l := by
      intro n hn he
      apply hb
      have h1 := itoa_parse n hn
      have : itoa n = itoa (sgn (minusB l) u) := he.trans htext.symm
      have e : n = sgn (minusB l) u := by
        have hdn : ∀ k : Int, (rest (itoa k), minusB (itoa k)) = (decDigits k.natAbs, decide (k < 0)) := by
          intro k
          unfold itoa
          split
          · rename_i hk
            have hm : minusB (45 :: decDigits k.natAbs) = true := by simp [minusB]
            unfold rest
            rw [hm, if_pos rfl]
            simp [hk]
          · rename_i hk
            have e : k.toNat = k.natAbs := by omega
            rw [e]
            have hm : minusB (decDigits k.natAbs) = false := by
              unfold minusB
              apply decide_eq_false
              intro hh
              cases hc : decDigits k.natAbs with
              | nil => exact absurd hc (digits_ne _)
              | cons c r =>
                rw [hc] at hh
                simp at hh
                subst hh
                obtain ⟨d, hd⟩ := digit_of_decFrom _ 0 _ (dec_digits k.natAbs) 0 45 (by rw [hc]; rfl)
                obtain ⟨_, _, h3⟩ := digitVal_eq hd
                have e2 : (45 : UInt8).toNat = 45 := rfl
                omega
            unfold rest
            rw [hm, if_neg (by decide)]
            simp [hk]
        have h2 := (hdn n).symm.trans (this ▸ hdn (sgn (minusB l) u))
        have h3 := (Prod.mk.inj h2).1
        have h4 := (Prod.mk.inj h2).2
        have h5 : n.natAbs = (sgn (minusB l) u).natAbs := by
          have a := dec_digits n.natAbs
          rw [h3, dec_digits] at a
          exact (Option.some.inj a).symm
        simp only [decide_eq_decide] at h4
        omega
      rw [← e]; exact hn
    obtain ⟨h1, h2⟩ := p_none hn
    obtain ⟨h3, h4⟩ := none_is hb
    exact ⟨h1.trans h3, h2.trans h4⟩
/-- A text that has no number's form. -/
theorem p_bad {l : List UInt8} (h : rest l = [] ∨ 19 < (rest l).length ∨ ((rest l).head? = some 48 ∧ (minusB l = true ∨ (rest l).length ≠ 1)) ∨ decFrom 0 (rest l) = none) : pV l = 0 ∧ pB l = false := by
  apply p_none
  intro n hn he
  have hx : (rest l = decDigits n.natAbs ∧ minusB l = decide (n < 0)) := by
    subst he
    unfold itoa
    split
    · rename_i hk
      have hm : minusB (45 :: decDigits n.natAbs) = true := by simp [minusB]
      unfold rest
      rw [hm, if_pos rfl]
      simp [hk]
    · rename_i hk
      have e : n.toNat = n.natAbs := by omega
      rw [e]
      have hm : minusB (decDigits n.natAbs) = false := by
        unfold minusB
        apply decide_eq_false
        intro hh
        cases hc : decDigits n.natAbs with
        | nil => exact absurd hc (digits_ne _)
        | cons c r =>
          rw [hc] at hh
          simp at hh
          subst hh
          obtain ⟨d, hd⟩ := digit_of_decFrom _ 0 _ (dec_digits n.natAbs) 0 45 (by rw [hc]; rfl)
          obtain ⟨_, _, h3⟩ := digitVal_eq hd
          have e2 : (45 : UInt8).toNat = 45 := rfl
          omega
      unfold rest
      rw [hm, if_neg (by decide)]
      simp [hk]
  obtain ⟨h1, h2⟩ := hx
  rw [h1, h2] at h
  unfold B64 at hn
  rcases h with h | h | ⟨h, h'⟩ | h
  · exact digits_ne _ h
  · rw [decDigits_length] at h
    have := nDigits_le n.natAbs (by omega)
    omega
  · by_cases h0 : n.natAbs = 0
    · have : n = 0 := by omega
      subst this
      rw [show (0 : Int).natAbs = 0 from rfl, digits_zero] at h'
      simp at h'
    · exact digits_head _ h0 h
  · rw [dec_digits] at h; cases h
end Go.Proofs.YtjfmmnebhmlkeaaDoor
