/- Plain facts on numbers from -2^63 to 2^63 - 1: what is told of sums, differences, products and quotients. No program in it. -/
import Derived.RowKit
import Derived.IntWalk
namespace Go.Proofs.YtjfmmnebhmlkeaaDoor
open Go.RowKit

/-- A number that an int holds. -/
def B64 (n : Int) : Prop := -9223372036854775808 ≤ n ∧ n ≤ 9223372036854775807
/-- The same, as a test. -/
def inI (n : Int) : Bool := decide (-9223372036854775808 ≤ n ∧ n ≤ 9223372036854775807)
/-- n, if it is told; else 0. -/
def keep (x : Bool) (n : Int) : Int := if x = true then n else 0

theorem inI_iff (n : Int) : inI n = true ↔ B64 n := by unfold inI B64; simp
theorem inI_not (n : Int) : inI n = false ↔ ¬ B64 n := by unfold inI B64; simp
theorem bool_iff {x y : Bool} (h : x = true ↔ y = true) : x = y := by cases x <;> cases y <;> simp_all
theorem keep_eq {x y : Bool} {n m : Int} (hx : x = y) (h : y = true → n = m) : keep x n = keep y m := by
  subst hx; unfold keep; split
  · exact h ‹_›
  · rfl
theorem keep_b64 (x : Bool) (n : Int) (h : x = true → B64 n) : B64 (keep x n) := by
  unfold keep; split
  · exact h ‹_›
  · unfold B64; omega
theorem wrap_b64 (n : Int) : B64 (wrap64 n) := by unfold B64 wrap64; omega
theorem wrap_in {n : Int} (h : B64 n) : wrap64 n = n := by unfold B64 at h; unfold wrap64; omega
theorem wrap_of {n : Int} (h : inI n = true) : wrap64 n = n := wrap_in ((inI_iff n).1 h)

theorem add_is (a b : Int) (ha : B64 a) (hb : B64 b) :
    ((!decide (0 < a) || !decide (0 < b) || !decide (wrap64 (a + b) < 0)) && (!decide (a < 0) || !decide (b < 0) || !decide (0 ≤ wrap64 (a + b)))) = inI (a + b) := by
  apply bool_iff
  rw [inI_iff]
  unfold B64 wrap64 at *
  simp only [Bool.and_eq_true, Bool.or_eq_true, Bool.not_eq_true', decide_eq_false_iff_not]
  omega
theorem sub_is (a b : Int) (ha : B64 a) (hb : B64 b) :
    ((!decide (0 ≤ a) || !decide (b < 0) || !decide (wrap64 (a - b) < 0)) && (!decide (a < 0) || !decide (0 < b) || !decide (0 ≤ wrap64 (a - b)))) = inI (a - b) := by
  apply bool_iff
  rw [inI_iff]
  unfold B64 wrap64 at *
  simp only [Bool.and_eq_true, Bool.or_eq_true, Bool.not_eq_true', decide_eq_false_iff_not]
  omega

/-- A quotient toward 0, and what is left. -/
theorem tdiv_facts (c b : Int) : c = b * (c.tdiv b) + c.tmod b ∧ (0 ≤ c → 0 ≤ c.tmod b) ∧ (c ≤ 0 → c.tmod b ≤ 0) ∧ (0 < b → -b < c.tmod b ∧ c.tmod b < b) ∧ (b < 0 → b < c.tmod b ∧ c.tmod b < -b) := by
  have h1 := Int.mul_tdiv_add_tmod c b
  refine ⟨h1.symm, fun h => Int.tmod_nonneg b h, fun h => ?_, fun h => ?_, fun h => ?_⟩
  · have := Int.tmod_nonneg (a := -c) b (by omega)
    rw [Int.neg_tmod] at this
    omega
  · rcases Int.le_total 0 c with hc | hc
    · have h2 := Int.tmod_nonneg b hc
      have h3 := Int.tmod_lt_of_pos c h
      omega
    · have h2 := Int.tmod_nonneg (a := -c) b (by omega)
      have h3 := Int.tmod_lt_of_pos (-c) h
      rw [Int.neg_tmod] at h2 h3
      omega
  · have hb' : 0 < -b := by omega
    rw [← Int.tmod_neg c b]
    rcases Int.le_total 0 c with hc | hc
    · have h2 := Int.tmod_nonneg (-b) hc
      have h3 := Int.tmod_lt_of_pos c hb'
      omega
    · have h2 := Int.tmod_nonneg (a := -c) (-b) (by omega)
      have h3 := Int.tmod_lt_of_pos (-c) hb'
      rw [Int.neg_tmod] at h2 h3
      omega
/-- The quotient of two ints is an int, but for one pair. -/
theorem tdiv_is (a b : Int) (ha : B64 a) (hb : B64 b) (h0 : b ≠ 0) : (!(a == -9223372036854775808) || !(b == -1)) = inI (a.tdiv b) := by
  obtain ⟨h1, h2, h3, h4, h5⟩ := tdiv_facts a b
  apply bool_iff
  rw [inI_iff]
  simp only [Bool.not_eq_true', Bool.or_eq_true, beq_eq_false_iff_ne]
  generalize a.tdiv b = q at *
  generalize a.tmod b = r at *
  unfold B64 at *
  refine ⟨fun h => ?_, fun h => ?_⟩
  rotate_left
  · revert h
    intro hq
    by_cases h : b = -1
    · subst h; omega
    · omega
  · revert h
    intro hn
    by_cases h : b = -1
    · subst h; omega
    · by_cases h' : b = 1
      · subst h'; omega
      · rcases Int.lt_or_lt_of_ne h0 with hb0 | hb0
        · have : b ≤ -2 := by omega
          constructor
          · apply Int.not_lt.1
            intro hc
            have := Int.mul_le_mul_of_nonpos_right (a := -2) (b := b) (c := q) this (by omega)
            omega
          · apply Int.not_lt.1
            intro hc
            have := Int.mul_le_mul_of_nonneg_right (a := b) (b := -2) (c := q) this (by omega)
            omega
        · have : 2 ≤ b := by omega
          constructor
          · apply Int.not_lt.1
            intro hc
            have := Int.mul_le_mul_of_nonpos_right (a := b) (b := 2) (c := q) this (by omega)
            omega
          · apply Int.not_lt.1
            intro hc
            have := Int.mul_le_mul_of_nonneg_right (a := 2) (b := b) (c := q) this (by omega)
            omega
/-- A product is an int just where what wrapped round is divided back. -/
theorem mul_is (a b : Int) (ha : B64 a) (hb : B64 b) (h0 : b ≠ 0) : (inI ((wrap64 (a * b)).tdiv b) && (keep (inI ((wrap64 (a * b)).tdiv b)) ((wrap64 (a * b)).tdiv b) == a)) = inI (a * b) := by
  apply bool_iff
  rw [Bool.and_eq_true, inI_iff (a * b), beq_iff_eq]
  constructor
  · rintro ⟨h1, h2⟩
    rw [h1] at h2
    have h2' : (wrap64 (a * b)).tdiv b = a := h2
    obtain ⟨g1, g2, g3, g4, g5⟩ := tdiv_facts (wrap64 (a * b)) b
    rw [h2'] at g1
    rw [Int.mul_comm b a] at g1
    have hw := wrap_b64 (a * b)
    have hm : ∃ k : Int, wrap64 (a * b) = a * b + 18446744073709551616 * k := by
      refine ⟨-((a * b + 9223372036854775808) / 18446744073709551616), ?_⟩
      unfold wrap64
      have := Int.emod_add_mul_ediv (a * b + 9223372036854775808) 18446744073709551616
      omega
    obtain ⟨k, hk⟩ := hm
    generalize a * b = p at *
    generalize wrap64 p = c at *
    generalize c.tmod b = r at *
    unfold B64 at *
    omega
  · intro h
    rw [wrap_in h]
    have : (a * b).tdiv b = a := Int.mul_tdiv_cancel a h0
    rw [this]
    have hi := (inI_iff a).2 ha
    exact ⟨hi, by rw [hi]; rfl⟩

/-- how far a number is from 0 -/
def absI (a : Int) : Int := if a < 0 then -a else a
/-- the number of a size and a sign -/
def sgn (m : Bool) (u : Int) : Int := if m = true then -u else u
theorem absI_neg {a : Int} (h : a < 0) : absI a = -a := by unfold absI; rw [if_pos h]
theorem absI_pos {a : Int} (h : ¬ a < 0) : absI a = a := by unfold absI; rw [if_neg h]
theorem absI_bd {a : Int} (ha : B64 a) : 0 ≤ absI a ∧ absI a ≤ 9223372036854775808 := by
  unfold absI B64 at *; split <;> omega
theorem sgn_pos (u : Int) : sgn false u = u := rfl
theorem sgn_neg (u : Int) : sgn true u = -u := rfl
theorem none_is {n : Int} (h : ¬ B64 n) : (0 : Int) = keep (inI n) n ∧ false = inI n := by
  have := (inI_not n).2 h
  rw [this]; exact ⟨rfl, rfl⟩
theorem some_is {n : Int} (h : B64 n) : n = keep (inI n) n ∧ true = inI n := by
  have := (inI_iff n).2 h
  rw [this]; exact ⟨rfl, rfl⟩
/-- Toward 0: the quotient of the sizes, with the signs. -/
theorem tdiv_sgn (a b : Int) : sgn (decide (a < 0) != decide (b < 0)) (absI a / absI b) = a.tdiv b := by
  by_cases h1 : a < 0 <;> by_cases h2 : b < 0
  · rw [absI_neg h1, absI_neg h2, decide_eq_true h1, decide_eq_true h2]
    rw [← Int.tdiv_eq_ediv_of_nonneg (by omega), Int.neg_tdiv, Int.tdiv_neg]; simp [sgn]
  · rw [absI_neg h1, absI_pos h2, decide_eq_true h1, decide_eq_false h2]
    rw [← Int.tdiv_eq_ediv_of_nonneg (by omega), Int.neg_tdiv]; simp [sgn]
  · rw [absI_pos h1, absI_neg h2, decide_eq_false h1, decide_eq_true h2]
    rw [← Int.tdiv_eq_ediv_of_nonneg (by omega), Int.tdiv_neg]; simp [sgn]
  · rw [absI_pos h1, absI_pos h2, decide_eq_false h1, decide_eq_false h2]
    rw [← Int.tdiv_eq_ediv_of_nonneg (by omega)]; simp [sgn]
theorem mul_sgn (a b : Int) : sgn (decide (a < 0) != decide (b < 0)) (absI a * absI b) = a * b := by
  by_cases h1 : a < 0 <;> by_cases h2 : b < 0
  · rw [absI_neg h1, absI_neg h2, decide_eq_true h1, decide_eq_true h2, Int.neg_mul_neg]; simp [sgn]
  · rw [absI_neg h1, absI_pos h2, decide_eq_true h1, decide_eq_false h2, Int.neg_mul]; simp [sgn]
  · rw [absI_pos h1, absI_neg h2, decide_eq_false h1, decide_eq_true h2, Int.mul_neg]; simp [sgn]
  · rw [absI_pos h1, absI_pos h2, decide_eq_false h1, decide_eq_false h2]; simp [sgn]
end Go.Proofs.YtjfmmnebhmlkeaaDoor
