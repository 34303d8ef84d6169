/- Texts joined: Pl, Tx, EnvI, NumS, NumD, RefA, PlAr, RefC, PlHs. -/
import Derived.RowKit
import Derived.IntWalk
import Derived.Lib.Atoi
import Derived.Lib.AtoiAll
import Derived.Lib.AtoiAllCases
import Derived.Lib.ItoaNum
import Derived.Lib.ItoaMem
import Derived.Laws.Strings
import Derived.Test.YtahdlijkohmdfaaGreatDoorShelf
import Derived.Test.YtahdlijkohmdfaaGreatDoorMp01
import Derived.Lib.AtoiErrMem
import Derived.Test.YtahdlijkohmdfaaGreatDoorProg
import Derived.WalkKit
import Derived.WalkSpells
import Derived.WalkLawsBesides
import Derived.Lib.Hide
import Derived.Lib.ConvBytes
import Derived.Deep.CutRange
import Derived.WalkSmall
import Derived.Deep.RegionWith
import Derived.Deep.RegionHeld3
import Derived.Laws.Runes
import Derived.Laws.Concat
set_option linter.all false
set_option linter.unusedVariables false
set_option linter.unusedSimpArgs false
namespace Go.Proofs.YtahdlijkohmdfaaGreatDoor
open Go.RowKit

def B64 (n : Int) : Prop := -9223372036854775808 ≤ n ∧ n ≤ 9223372036854775807
def inI (n : Int) : Bool := decide (-9223372036854775808 ≤ n ∧ n ≤ 9223372036854775807)
def keep (x : Bool) (n : Int) : Int := if x = true then n else 0

theorem inI_iff (n : Int) : inI n = true ↔ B64 n := by unfold inI B64; simp
theorem inI_not (n : Int) : inI n = false ↔ ¬ B64 n := by unfold inI B64; simp
theorem bool_iff {x y : Bool} (h : x = true ↔ y = true) : x = y := by cases x <;> cases y <;> simp_all
theorem keep_eq {x y : Bool} {n m : Int} (hx : x = y) (h : y = true → n = m) : keep x n = keep y m := by
  subst hx; unfold keep; split
  · exact h ‹_›
  · rfl
theorem keep_b64 (x : Bool) (n : Int) (h : x = true → B64 n) : B64 (keep x n) := by
  unfold keep; split
  · exact h ‹_›
  · unfold B64; omega
theorem wrap_b64 (n : Int) : B64 (wrap64 n) := by unfold B64 wrap64; omega
theorem wrap_in {n : Int} (h : B64 n) : wrap64 n = n := by unfold B64 at h; unfold wrap64; omega
theorem wrap_of {n : Int} (h : inI n = true) : wrap64 n = n := wrap_in ((inI_iff n).1 h)

theorem add_is (a b : Int) (ha : B64 a) (hb : B64 b) :
    ((!decide (0 < a) || !decide (0 < b) || !decide (wrap64 (a + b) < 0)) && (!decide (a < 0) || !decide (b < 0) || !decide (0 ≤ wrap64 (a + b)))) = inI (a + b) := by
  apply bool_iff
  rw [inI_iff]
  unfold B64 wrap64 at *
  simp only [Bool.and_eq_true, Bool.or_eq_true, Bool.not_eq_true', decide_eq_false_iff_not]
  omega
theorem sub_is (a b : Int) (ha : B64 a) (hb : B64 b) :
    ((!decide (0 ≤ a) || !decide (b < 0) || !decide (wrap64 (a - b) < 0)) && (!decide (a < 0) || !decide (0 < b) || !decide (0 ≤ wrap64 (a - b)))) = inI (a - b) := by
  apply bool_iff
  rw [inI_iff]
  unfold B64 wrap64 at *
  simp only [Bool.and_eq_true, Bool.or_eq_true, Bool.not_eq_true', decide_eq_false_iff_not]
  omega

theorem tdiv_facts (c b : Int) : c = b * (c.tdiv b) + c.tmod b ∧ (0 ≤ c → 0 ≤ c.tmod b) ∧ (c ≤ 0 → c.tmod b ≤ 0) ∧ (0 < b → -b < c.tmod b ∧ c.tmod b < b) ∧ (b < 0 → b < c.tmod b ∧ c.tmod b < -b) := by
  have h1 := Int.mul_tdiv_add_tmod c b
  refine ⟨h1.symm, fun h => Int.tmod_nonneg b h, fun h => ?_, fun h => ?_, fun h => ?_⟩
  · have := Int.tmod_nonneg (a := -c) b (by omega)
    rw [Int.neg_tmod] at this
    omega
  · rcases Int.le_total 0 c with hc | hc
    · have h2 := Int.tmod_nonneg b hc
      have h3 := Int.tmod_lt_of_pos c h
      omega
    · have h2 := Int.tmod_nonneg (a := -c) b (by omega)
      have h3 := Int.tmod_lt_of_pos (-c) h
      rw [Int.neg_tmod] at h2 h3
      omega
  · have hb' : 0 < -b := by omega
    rw [← Int.tmod_neg c b]
    rcases Int.le_total 0 c with hc | hc
    · have h2 := Int.tmod_nonneg (-b) hc
      have h3 := Int.tmod_lt_of_pos c hb'
      omega
    · have h2 := Int.tmod_nonneg (a := -c) (-b) (by omega)
      have h3 := Int.tmod_lt_of_pos (-c) hb'
      rw [Int.neg_tmod] at h2 h3
      omega
theorem tdiv_is (a b : Int) (ha : B64 a) (hb : B64 b) (h0 : b ≠ 0) : (!(a == -9223372036854775808) || !(b == -1)) = inI (a.tdiv b) := by
  obtain ⟨h1, h2, h3, h4, h5⟩ := tdiv_facts a b
  apply bool_iff
  rw [inI_iff]
  simp only [Bool.not_eq_true', Bool.or_eq_true, beq_eq_false_iff_ne]
  generalize a.tdiv b = q at *
  generalize a.tmod b = r at *
  unfold B64 at *
  refine ⟨fun h => ?_, fun h => ?_⟩
  rotate_left
  · revert h
    intro hq
    by_cases h : b = -1
    · subst h; omega
    · omega
  · revert h
    intro hn
    by_cases h : b = -1
    · subst h; omega
    · by_cases h' : b = 1
      · subst h'; omega
      · rcases Int.lt_or_lt_of_ne h0 with hb0 | hb0
        · have : b ≤ -2 := by omega
          constructor
          · apply Int.not_lt.1
            intro hc
            have := Int.mul_le_mul_of_nonpos_right (a := -2) (b := b) (c := q) this (by omega)
            omega
          · apply Int.not_lt.1
            intro hc
            have := Int.mul_le_mul_of_nonneg_right (a := b) (b := -2) (c := q) this (by omega)
            omega
        · have : 2 ≤ b := by omega
          constructor
          · apply Int.not_lt.1
            intro hc
            have := Int.mul_le_mul_of_nonpos_right (a := b) (b := 2) (c := q) this (by omega)
            omega
          · apply Int.not_lt.1
            intro hc
            have := Int.mul_le_mul_of_nonneg_right (a := 2) (b := b) (c := q) this (by omega)
            omega
theorem mul_is (a b : Int) (ha : B64 a) (hb : B64 b) (h0 : b ≠ 0) : (inI ((wrap64 (a * b)).tdiv b) && (keep (inI ((wrap64 (a * b)).tdiv b)) ((wrap64 (a * b)).tdiv b) == a)) = inI (a * b) := by
  apply bool_iff
  rw [Bool.and_eq_true, inI_iff (a * b), beq_iff_eq]
  constructor
  · rintro ⟨h1, h2⟩
    rw [h1] at h2
    have h2' : (wrap64 (a * b)).tdiv b = a := h2
    obtain ⟨g1, g2, g3, g4, g5⟩ := tdiv_facts (wrap64 (a * b)) b
    rw [h2'] at g1
    rw [Int.mul_comm b a] at g1
    have hw := wrap_b64 (a * b)
    have hm : ∃ k : Int, wrap64 (a * b) = a * b + 18446744073709551616 * k := by
      refine ⟨-((a * b + 9223372036854775808) / 18446744073709551616), ?_⟩
      unfold wrap64
      have := Int.emod_add_mul_ediv (a * b + 9223372036854775808) 18446744073709551616
      omega
    obtain ⟨k, hk⟩ := hm
    generalize a * b = p at *
    generalize wrap64 p = c at *
    generalize c.tmod b = r at *
    unfold B64 at *
    omega
  · intro h
    rw [wrap_in h]
    have : (a * b).tdiv b = a := Int.mul_tdiv_cancel a h0
    rw [this]
    have hi := (inI_iff a).2 ha
    exact ⟨hi, by rw [hi]; rfl⟩

def absI (a : Int) : Int := if a < 0 then -a else a
def sgn (m : Bool) (u : Int) : Int := if m = true then -u else u
theorem absI_neg {a : Int} (h : a < 0) : absI a = -a := by unfold absI; rw [if_pos h]
theorem absI_pos {a : Int} (h : ¬ a < 0) : absI a = a := by unfold absI; rw [if_neg h]
theorem absI_bd {a : Int} (ha : B64 a) : 0 ≤ absI a ∧ absI a ≤ 9223372036854775808 := by
  unfold absI B64 at *; split <;> omega
theorem sgn_pos (u : Int) : sgn false u = u := rfl
theorem sgn_neg (u : Int) : sgn true u = -u := rfl
theorem none_is {n : Int} (h : ¬ B64 n) : (0 : Int) = keep (inI n) n ∧ false = inI n := by
  have := (inI_not n).2 h
  rw [this]; exact ⟨rfl, rfl⟩
theorem some_is {n : Int} (h : B64 n) : n = keep (inI n) n ∧ true = inI n := by
  have := (inI_iff n).2 h
  rw [this]; exact ⟨rfl, rfl⟩
theorem tdiv_sgn (a b : Int) : sgn (decide (a < 0) != decide (b < 0)) (absI a / absI b) = a.tdiv b := by
  by_cases h1 : a < 0 <;> by_cases h2 : b < 0
  · rw [absI_neg h1, absI_neg h2, decide_eq_true h1, decide_eq_true h2]
    rw [← Int.tdiv_eq_ediv_of_nonneg (by omega), Int.neg_tdiv, Int.tdiv_neg]; simp [sgn]
  · rw [absI_neg h1, absI_pos h2, decide_eq_true h1, decide_eq_false h2]
    rw [← Int.tdiv_eq_ediv_of_nonneg (by omega), Int.neg_tdiv]; simp [sgn]
  · rw [absI_pos h1, absI_neg h2, decide_eq_false h1, decide_eq_true h2]
    rw [← Int.tdiv_eq_ediv_of_nonneg (by omega), Int.tdiv_neg]; simp [sgn]
  · rw [absI_pos h1, absI_pos h2, decide_eq_false h1, decide_eq_false h2]
    rw [← Int.tdiv_eq_ediv_of_nonneg (by omega)]; simp [sgn]
theorem mul_sgn (a b : Int) : sgn (decide (a < 0) != decide (b < 0)) (absI a * absI b) = a * b := by
  by_cases h1 : a < 0 <;> by_cases h2 : b < 0
  · rw [absI_neg h1, absI_neg h2, decide_eq_true h1, decide_eq_true h2, Int.neg_mul_neg]; simp [sgn]
  · rw [absI_neg h1, absI_pos h2, decide_eq_true h1, decide_eq_false h2, Int.neg_mul]; simp [sgn]
  · rw [absI_pos h1, absI_neg h2, decide_eq_false h1, decide_eq_true h2, Int.mul_neg]; simp [sgn]
  · rw [absI_pos h1, absI_pos h2, decide_eq_false h1, decide_eq_false h2]; simp [sgn]
end Go.Proofs.YtahdlijkohmdfaaGreatDoor
namespace Go.Proofs.YtahdlijkohmdfaaGreatDoor
open Go.Lib

theorem digitVal_eq {b : UInt8} {d : Nat} (h : digitVal b = some d) : d < 10 ∧ b = UInt8.ofNat (48 + d) ∧ b.toNat = 48 + d := by
  unfold digitVal at h
  split at h
  · injection h with h
    refine ⟨by omega, ?_, by omega⟩
    apply UInt8.toNat_inj.1
    rw [UInt8.toNat_ofNat']
    omega
  · cases h
theorem digitVal_of {d : Nat} (h : d < 10) : digitVal (UInt8.ofNat (48 + d)) = some d := by
  have e : (UInt8.ofNat (48 + d)).toNat = 48 + d := by rw [UInt8.toNat_ofNat']; omega
  unfold digitVal
  rw [e, if_pos (by omega)]
  congr 1
  omega
theorem decFrom_append (l : List UInt8) (b : UInt8) : ∀ acc, decFrom acc (l ++ [b]) = (decFrom acc l).bind fun n => (digitVal b).map fun d => n * 10 + d := by
  induction l with
  | nil => intro acc; simp only [List.nil_append, decFrom, Option.bind_some]; cases digitVal b <;> rfl
  | cons a t ih =>
    intro acc
    simp only [List.cons_append, decFrom]
    cases digitVal a with
    | none => rfl
    | some d => exact ih _
theorem decFrom_le : ∀ (l : List UInt8) (acc u : Nat), decFrom acc l = some u → acc ≤ u
  | [], acc, u, h => by simp only [decFrom, Option.some.injEq] at h; omega
  | c :: r, acc, u, h => by
    simp only [decFrom] at h
    split at h
    · have := decFrom_le r _ u h; omega
    · cases h
theorem parse_of_dec : ∀ (l : List UInt8) (acc u : Nat), decFrom acc l = some u → u < 18446744073709551616 → parseUint10 acc l = .ok u
  | [], acc, u, h, _ => by simp only [decFrom, Option.some.injEq] at h; subst h; rfl
  | c :: r, acc, u, h, hu => by
    simp only [decFrom] at h
    split at h
    · rename_i d hd
      have hle := decFrom_le r _ u h
      obtain ⟨h1, _, h3⟩ := digitVal_eq hd
      simp only [parseUint10]
      have e : c.toNat - 48 = d := by omega
      rw [if_pos (by omega), if_neg (by omega), if_neg (by omega), e]
      exact parse_of_dec r _ u h hu
    · cases h

theorem dec_digits (u : Nat) : decFrom 0 (decDigits u) = some u := by
  induction u using Nat.strongRecOn with
  | _ u ih =>
    by_cases h : u < 10
    · rw [decDigits, dif_pos h]
      simp only [decFrom, digitVal_of h]
      simp
    · rw [decDigits, dif_neg h, decFrom_append, ih (u / 10) (by omega), digitVal_of (by omega)]
      simp
      omega
theorem head_append {α : Type} {l : List α} (r : List α) (h : l ≠ []) : (l ++ r).head? = l.head? := by
  cases l with
  | nil => exact absurd rfl h
  | cons a t => rfl
theorem digits_ne (u : Nat) : decDigits u ≠ [] := by
  intro h
  have := decDigits_length u
  have := nDigits_pos u
  rw [h] at *
  simp at *
  omega
theorem digits_head (u : Nat) (hu : u ≠ 0) : (decDigits u).head? ≠ some 48 := by
  induction u using Nat.strongRecOn with
  | _ u ih =>
    by_cases h : u < 10
    · rw [decDigits, dif_pos h]
      simp only [List.head?_cons, ne_eq, Option.some.injEq]
      intro e
      have := congrArg UInt8.toNat e
      rw [UInt8.toNat_ofNat'] at this
      have e2 : (48 : UInt8).toNat = 48 := rfl
      omega
    · rw [decDigits, dif_neg h, head_append _ (digits_ne _)]
      exact ih (u / 10) (by omega) (by omega)
theorem digits_zero : decDigits 0 = [48] := by rw [decDigits_one (by omega)]; rfl

theorem snoc_cases {α : Type} (l : List α) (h : l ≠ []) : ∃ t b, l = t ++ [b] := ⟨l.dropLast, l.getLast h, (List.dropLast_concat_getLast h).symm⟩
theorem digits_of_dec (n : Nat) : ∀ (l : List UInt8) (u : Nat), l.length = n → decFrom 0 l = some u → l ≠ [] → (l.head? ≠ some 48 ∨ l.length = 1) → decDigits u = l := by
  induction n using Nat.strongRecOn with
  | _ n ih =>
    intro l u hn hd hne hh
    obtain ⟨t, b, rfl⟩ := snoc_cases l hne
    rw [decFrom_append] at hd
    cases ht : decFrom 0 t with
    | none => rw [ht] at hd; cases hd
    | some m =>
      rw [ht, Option.bind_some] at hd
      cases hb : digitVal b with
      | none => rw [hb] at hd; cases hd
      | some d =>
        rw [hb] at hd
        simp only [Option.map_some, Option.some.injEq] at hd
        obtain ⟨h1, h2, _⟩ := digitVal_eq hb
        by_cases hte : t = []
        · subst hte
          simp only [decFrom, Option.some.injEq] at ht
          subst ht
          have : u = d := by omega
          subst this
          rw [decDigits_one h1, h2]; rfl
        · have hl : (t ++ [b]).length ≠ 1 := by
            have : 0 < t.length := List.length_pos_iff.2 hte
            simp; omega
          have hh' : t.head? ≠ some 48 := by
            rcases hh with hh | hh
            · rwa [head_append _ hte] at hh
            · exact absurd hh hl
          have hlen : t.length + 1 = n := by simpa using hn
          have it := ih t.length (by omega) t m rfl ht hte (.inl hh')
          have hm : m ≠ 0 := by
            rintro rfl
            rw [digits_zero] at it
            rw [← it] at hh'
            simp at hh'
          rw [decDigits, dif_neg (by omega), show u / 10 = m by omega, show u % 10 = d by omega, it, h2]
theorem nDigits_le (u : Nat) (h : u ≤ 9223372036854775808) : nDigits u ≤ 19 := by
  by_cases h1 : u < 10 ^ 18
  · have := lt_pow_nDigits u
    rcases Nat.lt_or_ge (nDigits u) 20 with h2 | h2
    · omega
    · exfalso
      have h3 : 10 ^ 19 ≤ u := by
        by_cases h0 : u < 10
        · rw [nDigits_small h0] at h2; omega
        · obtain ⟨k, hk⟩ : ∃ k, nDigits u = k + 20 := ⟨nDigits u - 20, by omega⟩
          exfalso
          have hu : nDigits u ≤ 18 := by
            clear hk h2 this
            have aux : ∀ k v, v < 10 ^ k → 1 ≤ k → nDigits v ≤ k := by
              intro k
              induction k with
              | zero => intro v _ h; omega
              | succ k ih =>
                intro v hv _
                by_cases hv0 : v < 10
                · rw [nDigits_small hv0]; omega
                · rw [nDigits_big hv0]
                  rcases Nat.eq_zero_or_pos k with hk | hk
                  · subst hk; omega
                  · have := ih (v / 10) (by rw [Nat.pow_succ] at hv; omega) hk
                    omega
            exact aux 18 u h1 (by omega)
          omega
      omega
  · have := nDigits_unique 18 u (by omega) (by omega)
    omega

theorem itoa_parse (n : Int) (hn : B64 n) : atoiAll (itoa n) = .ok n := by
  unfold B64 at hn
  unfold itoa
  have key : ∀ u : Nat, u < 18446744073709551616 → parseMag (decDigits u) = .ok u := fun u hu => by
    unfold parseMag
    rw [if_neg (digits_ne u)]
    exact parse_of_dec _ 0 u (dec_digits u) hu
  split
  · rw [atoiAll_minus, key n.natAbs (by omega)]
    simp only [signed]
    rw [if_neg (by omega)]
    congr 1
    omega
  · have hk := key n.toNat (by omega)
    cases hd : decDigits n.toNat with
    | nil => exact absurd hd (digits_ne _)
    | cons c r =>
      obtain ⟨d, hc⟩ := digit_of_decFrom _ 0 _ (dec_digits n.toNat) 0 c (by rw [hd]; rfl)
      obtain ⟨h1, _, h3⟩ := digitVal_eq hc
      rw [atoiAll_plain c r (by omega) (by omega), ← hd, hk]
      simp only [signless]
      rw [if_neg (by omega)]
      congr 1
      omega

def pB (l : List UInt8) : Bool := match atoiAll l with
  | .ok v => decide (itoa v = l)
  | _ => false
def pV (l : List UInt8) : Int := match atoiAll l with
  | .ok v => keep (decide (itoa v = l)) v
  | _ => 0
theorem p_some {l : List UInt8} {n : Int} (hn : B64 n) (h : itoa n = l) : pV l = n ∧ pB l = true := by
  subst h
  unfold pV pB
  rw [itoa_parse n hn]
  simp [keep]
theorem p_none {l : List UInt8} (h : ∀ n, B64 n → itoa n ≠ l) : pV l = 0 ∧ pB l = false := by
  unfold pV pB
  cases ha : atoiAll l
  · have hb := atoiAll_bounds ha
    have := h _ hb
    simp [keep, this]
  · exact ⟨rfl, rfl⟩
  · exact ⟨rfl, rfl⟩

theorem p_fail {l : List UInt8} (h : ∀ v, atoiAll l ≠ .ok v) : pV l = 0 ∧ pB l = false := by
  unfold pV pB
  cases ha : atoiAll l
  · exact absurd ha (h _)
  · exact ⟨rfl, rfl⟩
  · exact ⟨rfl, rfl⟩
theorem p_test {s : ByteArray} {v : Int} (h : atoiAll s.data.toList = .ok v) : (itoa v == s.toList) = pB s.data.toList := by
  unfold pB
  rw [h, ByteArray.toList_eq]
  exact bool_iff (by simp)
theorem p_keep {s : ByteArray} {v : Int} (h : atoiAll s.data.toList = .ok v) : keep (itoa v == s.toList) v = pV s.data.toList := by
  rw [p_test h]
  unfold pV pB
  rw [h]

def minusB (l : List UInt8) : Bool := decide (l.head? = some 45)
def rest (l : List UInt8) : List UInt8 := if minusB l = true then l.tail else l
theorem p_form {l : List UInt8} {u : Nat} (hne : rest l ≠ []) (hh : (rest l).head? ≠ some 48 ∨ ((rest l).length = 1 ∧ minusB l = false)) (hd : decFrom 0 (rest l) = some u) :
    pV l = keep (inI (sgn (minusB l) u)) (sgn (minusB l) u) ∧ pB l = inI (sgn (minusB l) u) := by
  have hdig : decDigits u = rest l := digits_of_dec _ (rest l) u rfl hd hne (hh.imp id fun h => h.1)
  have htext : itoa (sgn (minusB l) u) = l := by
    cases hm : minusB l with
    | true =>
      have h0 : u ≠ 0 := by
        rintro rfl
        rw [digits_zero] at hdig
        rw [← hdig, hm] at hh
        simp at hh
      have hr : l = 45 :: rest l := by
        unfold rest; rw [if_pos hm]
        unfold minusB at hm
        cases l with
        | nil => simp at hm
        | cons c r => simp at hm; subst hm; rfl
      rw [sgn_neg]
      rw [itoa_neg u (by omega), hdig]
      exact hr.symm
    | false =>
      rw [sgn_pos, itoa_nonneg, hdig]
      unfold rest; rw [if_neg (by rw [hm]; decide)]
  by_cases hb : B64 (sgn (minusB l) u)
  · obtain ⟨h1, h2⟩ := p_some hb htext
    obtain ⟨h3, h4⟩ := some_is hb
    exact ⟨h1.trans h3, h2.trans h4⟩
  · have hn : ∀ n, B64 n → itoa n ≠ l := by
      intro n hn he
      apply hb
      have h1 := itoa_parse n hn
      have : itoa n = itoa (sgn (minusB l) u) := he.trans htext.symm
      have e : n = sgn (minusB l) u := by
        have hdn : ∀ k : Int, (rest (itoa k), minusB (itoa k)) = (decDigits k.natAbs, decide (k < 0)) := by
          intro k
          unfold itoa
          split
          · rename_i hk
            have hm : minusB (45 :: decDigits k.natAbs) = true := by simp [minusB]
            unfold rest
            rw [hm, if_pos rfl]
            simp [hk]
          · rename_i hk
            have e : k.toNat = k.natAbs := by omega
            rw [e]
            have hm : minusB (decDigits k.natAbs) = false := by
              unfold minusB
              apply decide_eq_false
              intro hh
              cases hc : decDigits k.natAbs with
              | nil => exact absurd hc (digits_ne _)
              | cons c r =>
                rw [hc] at hh
                simp at hh
                subst hh
                obtain ⟨d, hd⟩ := digit_of_decFrom _ 0 _ (dec_digits k.natAbs) 0 45 (by rw [hc]; rfl)
                obtain ⟨_, _, h3⟩ := digitVal_eq hd
                have e2 : (45 : UInt8).toNat = 45 := rfl
                omega
            unfold rest
            rw [hm, if_neg (by decide)]
            simp [hk]
        have h2 := (hdn n).symm.trans (this ▸ hdn (sgn (minusB l) u))
        have h3 := (Prod.mk.inj h2).1
        have h4 := (Prod.mk.inj h2).2
        have h5 : n.natAbs = (sgn (minusB l) u).natAbs := by
          have a := dec_digits n.natAbs
          rw [h3, dec_digits] at a
          exact (Option.some.inj a).symm
        simp only [decide_eq_decide] at h4
        omega
      rw [← e]; exact hn
    obtain ⟨h1, h2⟩ := p_none hn
    obtain ⟨h3, h4⟩ := none_is hb
    exact ⟨h1.trans h3, h2.trans h4⟩
theorem p_bad {l : List UInt8} (h : rest l = [] ∨ 19 < (rest l).length ∨ ((rest l).head? = some 48 ∧ (minusB l = true ∨ (rest l).length ≠ 1)) ∨ decFrom 0 (rest l) = none) : pV l = 0 ∧ pB l = false := by
  apply p_none
  intro n hn he
  have hx : (rest l = decDigits n.natAbs ∧ minusB l = decide (n < 0)) := by
    subst he
    unfold itoa
    split
    · rename_i hk
      have hm : minusB (45 :: decDigits n.natAbs) = true := by simp [minusB]
      unfold rest
      rw [hm, if_pos rfl]
      simp [hk]
    · rename_i hk
      have e : n.toNat = n.natAbs := by omega
      rw [e]
      have hm : minusB (decDigits n.natAbs) = false := by
        unfold minusB
        apply decide_eq_false
        intro hh
        cases hc : decDigits n.natAbs with
        | nil => exact absurd hc (digits_ne _)
        | cons c r =>
          rw [hc] at hh
          simp at hh
          subst hh
          obtain ⟨d, hd⟩ := digit_of_decFrom _ 0 _ (dec_digits n.natAbs) 0 45 (by rw [hc]; rfl)
          obtain ⟨_, _, h3⟩ := digitVal_eq hd
          have e2 : (45 : UInt8).toNat = 45 := rfl
          omega
      unfold rest
      rw [hm, if_neg (by decide)]
      simp [hk]
  obtain ⟨h1, h2⟩ := hx
  rw [h1, h2] at h
  unfold B64 at hn
  rcases h with h | h | ⟨h, h'⟩ | h
  · exact digits_ne _ h
  · rw [decDigits_length] at h
    have := nDigits_le n.natAbs (by omega)
    omega
  · by_cases h0 : n.natAbs = 0
    · have : n = 0 := by omega
      subst this
      rw [show (0 : Int).natAbs = 0 from rfl, digits_zero] at h'
      simp at h'
    · exact digits_head _ h0 h
  · rw [dec_digits] at h; cases h
end Go.Proofs.YtahdlijkohmdfaaGreatDoor
namespace Go.Proofs.YtahdlijkohmdfaaGreatDoor
open Go.RowKit

theorem gTab : Tryz.prog.globalNamed "internal/strconv.uint64pow10" = some 4 := by kernel_rfl
structure EnvI (w : World) : Prop where
  tab : Lib.TabIs Tryz.prog w "internal/strconv.uint64pow10" .u64 Lib.pow10Tab
theorem EnvI.below {w w' : World} (h : EnvI w) (hb : Below w.heap.size w w') : EnvI w' := by
  obtain ⟨ht⟩ := h
  have hc := ht.cell gTab 0 (by rw [Lib.pow10Tab_length]; omega)
  exact ⟨var?_below hb gTab (Lib.lt_of_cell hc) ht⟩
theorem grow_below (w : World) (os : Array Obj) : Below w.heap.size w (Sort.grow w os) :=
  ⟨rfl, rfl, rfl, by simp [Sort.grow], fun k hk => by simp [Sort.grow, Array.getElem?_append_left hk]⟩
theorem itoa_any (n : Int) (hn : B64 n) (w : World) (hE : EnvI w) :
    Calls Tryz.prog 71 #[.int .i64 n] w fun e w' => e = .returned (.string ⟨(Lib.itoa n).toArray⟩) ∧ Below w.heap.size w w' :=
  (Any.strconv_Itoa Tryz.laysM171 n hn.1 hn.2 w hE.tab).mono fun _ _ ⟨he, k, os, hw⟩ => ⟨he, hw ▸ (below_drewN (Below.refl _ _) k).trans (grow_below (w.drewN k) os)⟩
end Go.Proofs.YtahdlijkohmdfaaGreatDoor
namespace Go.Proofs.YtahdlijkohmdfaaGreatDoor
open Go.RowKit



set_option maxHeartbeats 400000 in
theorem size_any (a : Int) (ha : B64 a) (w : World) :
    Calls Tryz.prog 78 #[.int .i64 a] w fun e w' => e = .returned (.int .u64 (absI a)) ∧ w = w' := by
  by_cases h : a < 0
  · go_enter Tryz.func78, Tryz.ntmps78
    go_wp2
    go_ret
    exact ⟨ret_u64 (by rw [absI_neg h]; unfold B64 at ha; simp only [IntKind.wrap_u64, wrap64]; omega), rfl⟩
  · go_enter Tryz.func78, Tryz.ntmps78
    go_wp2
    go_ret
    exact ⟨ret_u64 (by rw [absI_pos (by omega)]; unfold B64 at ha; simp only [IntKind.wrap_u64]; omega), rfl⟩
end Go.Proofs.YtahdlijkohmdfaaGreatDoor
namespace Go.Proofs.YtahdlijkohmdfaaGreatDoor
open Go.RowKit

def dig (d : Nat) : UInt8 := UInt8.ofNat (48 + d)
theorem conv_one (W : World) (d : Nat) (hd : d < 10) (b : Nat) (hb : W.heap.size = b) :
    Sem.run Tryz.prog (convert 51 9 (.slice (some ⟨b, 0, none⟩) 1 1)) (W.alloc (.cells #[.int .u8 (48 + (d : Int))] 5)) =
      .ok (.string ⟨#[dig d]⟩) (W.alloc (.cells #[.int .u8 (48 + (d : Int))] 5)) := by
  refine run_convert_bytes_back (W.alloc (.cells #[.int .u8 (48 + (d : Int))] 5)) 51 9 5 ⟨b, 0, none⟩ 1 [dig d] Tryz.underlying51 Tryz.underlying5 Tryz.underlying9 ?_
  intro j hj
  have hj0 : j = 0 := by simpa using hj
  subst hj0
  subst hb
  have e : (dig d).toNat = 48 + d := by unfold dig; rw [UInt8.toNat_ofNat']; omega
  simp only [List.getElem_cons_zero, e]
  have h := cell_of_row (W.alloc (.cells #[.int .u8 (48 + (d : Int))] 5)) W.heap.size 0 #[.int .u8 (48 + (d : Int))] 5 (0, 0) (heap_alloc_new W _)
  rw [show ((48 + d : Nat) : Int) = 48 + (d : Int) from by omega]
  exact h

theorem digits_len (u : Nat) (h : u < 18446744073709551616) : (Lib.decDigits u).length ≤ 30 := by
  rw [Lib.decDigits_length]
  by_cases h1 : u ≤ 9223372036854775808
  · have := nDigits_le u h1; omega
  · have : Lib.nDigits u = Lib.nDigits (u / 10) + 1 := Lib.nDigits_big (by omega)
    have := nDigits_le (u / 10) (by omega)
    omega
set_option maxHeartbeats 400000 in
set_option maxRecDepth 10000 in
theorem figures_any (u : Nat) : u < 18446744073709551616 → ∀ w : World,
    Calls Tryz.prog 77 #[.int .u64 u] w fun e w' => e = .returned (.string ⟨(Lib.decDigits u).toArray⟩) ∧ Below w.heap.size w w' := by
  induction u using Nat.strongRecOn with
  | _ u ih =>
    intro hu w
    have hc := conv_one w (u % 10) (by omega) w.heap.size rfl
    rw [show ((u % 10 : Nat) : Int) = (u : Int) % 10 from by omega] at hc
    by_cases h : u < 10
    · have HR : Hid (Lib.decDigits u = [dig u]) := Lib.hid (Lib.decDigits_one h)
      have hm : u % 10 = u := by omega
      rw [hm] at hc
      clear hm ih
      go_enter Tryz.func77, Tryz.ntmps77
      go_wp2_with fail
      go_ret
      exact ⟨ret_str (by rw [HR.out]), (Below.refl _ _).alloc (Nat.le_refl _) _⟩
    · have IH := Lib.hid (ih (u / 10) (by omega) (by omega))
      have HR : Hid (Lib.decDigits u = Lib.decDigits (u / 10) ++ [dig (u % 10)]) := Lib.hid (by rw [Lib.decDigits, dif_neg h]; rfl)
      have hlen := digits_len (u / 10) (by omega)
      rw [show ((u / 10 : Nat) : Int) = (u : Int) / 10 from by omega] at IH
      clear ih
      go_enter Tryz.func77, Tryz.ntmps77
      go_wp2_with fail
      refine (IH.out _).mono ?_
      rintro e w1 ⟨rfl, h1⟩
      go_wp2_with fail
      go_ret
      exact ⟨ret_str (by rw [HR.out, ByteArray.mk_append_mk]), ((Below.refl _ _).alloc (Nat.le_refl _) _).trans (h1.mono (by simp))⟩
set_option maxHeartbeats 400000 in
set_option maxRecDepth 10000 in
theorem rtext_any (a : Int) (ha : B64 a) (w : World) :
    Calls Tryz.prog 50 #[.int .i64 a] w fun e w' => e = .returned (.string ⟨(Lib.itoa a).toArray⟩) ∧ Below w.heap.size w w' := by
  have hn : absI a = (a.natAbs : Int) := by unfold absI; split <;> omega
  have HS := Lib.hid (size_any a ha)
  have HF := Lib.hid (figures_any a.natAbs (by unfold B64 at ha; omega))
  have hlen := digits_len a.natAbs (by unfold B64 at ha; omega)
  rw [hn] at HS
  clear hn ha
  obtain ⟨D, hD⟩ : ∃ D, D = Lib.decDigits a.natAbs := ⟨_, rfl⟩
  rw [← hD] at HF hlen
  by_cases h : a < 0
  · have HR : Hid (Lib.itoa a = 45 :: D) := Lib.hid (by unfold Lib.itoa; rw [if_pos h, hD])
    clear hD
    go_enter Tryz.func50, Tryz.ntmps50
    go_wp2_with fail
    refine (HS.out _).mono ?_; rintro e w1 ⟨rfl, rfl⟩
    go_wp2_with fail
    refine (HF.out _).mono ?_; rintro e w1 ⟨rfl, h1⟩
    go_wp2_with fail
    go_ret
    exact ⟨ret_str (by rw [HR.out, ByteArray.mk_append_mk]; simp), h1⟩
  · have HR : Hid (Lib.itoa a = D) := Lib.hid (by unfold Lib.itoa; rw [if_neg h, hD]; congr 1; omega)
    clear hD
    go_enter Tryz.func50, Tryz.ntmps50
    go_wp2_with fail
    refine (HS.out _).mono ?_; rintro e w1 ⟨rfl, rfl⟩
    go_wp2_with fail
    refine (HF.out _).mono ?_; rintro e w1 ⟨rfl, h1⟩
    go_wp2_with fail
    go_ret
    exact ⟨ret_str (by rw [HR.out]), h1⟩
end Go.Proofs.YtahdlijkohmdfaaGreatDoor
namespace Go.Proofs.YtahdlijkohmdfaaGreatDoor
open Go.RowKit

def rightB (c r : Int) : Bool := decide (0 ≤ c ∧ c ≤ 15 ∧ 0 ≤ r ∧ r ≤ 63)
theorem rightB_iff (c r : Int) : rightB c r = true ↔ 0 ≤ c ∧ c ≤ 15 ∧ 0 ≤ r ∧ r ≤ 63 := by unfold rightB; simp
theorem rightB_not (c r : Int) : rightB c r = false ↔ ¬ (0 ≤ c ∧ c ≤ 15 ∧ 0 ≤ r ∧ r ≤ 63) := by unfold rightB; simp

set_option maxHeartbeats 400000 in
theorem rright_any (c r : Int) (w : World) :
    Calls Tryz.prog 46 #[.agg #[.int .i64 c, .int .i64 r]] w fun e w' => e = .returned (.bool (rightB c r)) ∧ Below w.heap.size w w' := by
  go_enter Tryz.func46, Tryz.ntmps46
  go_wp2_with fail
  all_goals go_ret
  · exact ⟨ret_bool (bool_iff (by rw [rightB_iff]; simp; omega)), (Below.refl _ _).alloc (Nat.le_refl _) _⟩
  · exact ⟨ret_bool ((rightB_not _ _).2 (by omega)).symm, (Below.refl _ _).alloc (Nat.le_refl _) _⟩
  · exact ⟨ret_bool ((rightB_not _ _).2 (by omega)).symm, (Below.refl _ _).alloc (Nat.le_refl _) _⟩
  · exact ⟨ret_bool ((rightB_not _ _).2 (by omega)).symm, (Below.refl _ _).alloc (Nat.le_refl _) _⟩

def idxB (i : Int) : Bool := decide (0 ≤ i ∧ i ≤ 1023)
def atC (i : Int) : Int := if 0 ≤ i ∧ i ≤ 1023 then i % 16 else 0
def atR (i : Int) : Int := if 0 ≤ i ∧ i ≤ 1023 then i / 16 else 0
set_option maxHeartbeats 400000 in
theorem rat_any (i : Int) (w : World) :
    Calls Tryz.prog 87 #[.int .i64 i] w fun e w' => e = .returned (.tuple #[.agg #[.int .i64 (atC i), .int .i64 (atR i)], .bool (idxB i)]) ∧ Below w.heap.size w w' := by
  by_cases h : 0 ≤ i ∧ i ≤ 1023
  · have e1 := Lib.hid (show atC i = i % 16 from if_pos h)
    have e2 := Lib.hid (show atR i = i / 16 from if_pos h)
    have e3 := Lib.hid (show idxB i = true from decide_eq_true h)
    obtain ⟨h1, h2⟩ := h
    go_enter Tryz.func87, Tryz.ntmps87
    go_wp2_with fail
    exact bodyPost_ret (v := .tuple #[.agg #[.int .i64 (i % 16), .int .i64 (i / 16)], .bool true]) (by simp [results, Tryz.results87, go_sem]) rfl
      ⟨by rw [e1.out, e2.out, e3.out], (Below.refl _ _).alloc (Nat.le_refl _) _⟩
  · have e1 := Lib.hid (show atC i = 0 from if_neg h)
    have e2 := Lib.hid (show atR i = 0 from if_neg h)
    have e3 := Lib.hid (show idxB i = false from decide_eq_false h)
    by_cases h1 : i < 0
    · clear h
      go_enter Tryz.func87, Tryz.ntmps87
      go_wp2_with fail
      exact bodyPost_ret (v := .tuple #[.agg #[.int .i64 0, .int .i64 0], .bool false]) (by simp [results, Tryz.results87, go_sem]) rfl
        ⟨by rw [e1.out, e2.out, e3.out], (Below.refl _ _).alloc (Nat.le_refl _) _⟩
    · have h2 : 1023 < i := by omega
      clear h
      go_enter Tryz.func87, Tryz.ntmps87
      go_wp2_with fail
      exact bodyPost_ret (v := .tuple #[.agg #[.int .i64 0, .int .i64 0], .bool false]) (by simp [results, Tryz.results87, go_sem]) rfl
        ⟨by rw [e1.out, e2.out, e3.out], (Below.refl _ _).alloc (Nat.le_refl _) _⟩

theorem atC_of (j : Nat) (h : j < 1024) : atC (j : Int) = (j : Int) % 16 := if_pos (by omega)
theorem atR_of (j : Nat) (h : j < 1024) : atR (j : Int) = (j : Int) / 16 := if_pos (by omega)
end Go.Proofs.YtahdlijkohmdfaaGreatDoor
namespace Go.Proofs.YtahdlijkohmdfaaGreatDoor
open Go.RowKit

set_option maxHeartbeats 400000 in
theorem pright_any (c r : Int) (w : World) :
    Calls Tryz.prog 72 #[.agg #[.int .i64 c, .int .i64 r]] w fun e w' => e = .returned (.bool (rightB c r)) ∧ Below w.heap.size w w' := by
  go_enter Tryz.func72, Tryz.ntmps72
  go_wp2_with fail
  all_goals go_ret
  · exact ⟨ret_bool (bool_iff (by rw [rightB_iff]; simp; omega)), (Below.refl _ _).alloc (Nat.le_refl _) _⟩
  · exact ⟨ret_bool ((rightB_not _ _).2 (by omega)).symm, (Below.refl _ _).alloc (Nat.le_refl _) _⟩
  · exact ⟨ret_bool ((rightB_not _ _).2 (by omega)).symm, (Below.refl _ _).alloc (Nat.le_refl _) _⟩
  · exact ⟨ret_bool ((rightB_not _ _).2 (by omega)).symm, (Below.refl _ _).alloc (Nat.le_refl _) _⟩
end Go.Proofs.YtahdlijkohmdfaaGreatDoor
namespace Go.Proofs.YtahdlijkohmdfaaGreatDoor
open Go.RowKit

def letter (c : Int) : UInt8 := UInt8.ofNat (65 + c.toNat)
def letters : ByteArray := ⟨#[65, 66, 67, 68, 69, 70, 71, 72, 73, 74, 75, 76, 77, 78, 79, 80]⟩
theorem letters_at : ∀ k : Fin 16, (letters.extract k.val (k.val + 1)).data.toList = [UInt8.ofNat (65 + k.val)] := by decide +kernel
theorem letter_is (c : Int) (c0 : 0 ≤ c) (c1 : c ≤ 15) : (⟨#[65, 66, 67, 68, 69, 70, 71, 72, 73, 74, 75, 76, 77, 78, 79, 80]⟩ : ByteArray).extract c.toNat (c + 1).toNat = ⟨#[letter c]⟩ := by
  have e := letters_at ⟨c.toNat, by omega⟩
  have e2 : (c + 1).toNat = c.toNat + 1 := by omega
  rw [e2]
  have e4 : ∀ (a : ByteArray) (x : UInt8), a.data.toList = [x] → a = ⟨#[x]⟩ := fun a x hx => by
    obtain ⟨d⟩ := a
    congr
    exact Array.toList_inj.1 hx
  exact e4 _ _ e

theorem itoa_len (n : Int) (h : B64 n) : (Lib.itoa n).length ≤ 31 := by
  have h1 := digits_len n.natAbs (by unfold B64 at h; omega)
  have h2 := digits_len n.toNat (by unfold B64 at h; omega)
  unfold Lib.itoa
  split
  · simp; omega
  · omega
def placeText (c r : Int) : List UInt8 := if rightB c r = true then letter c :: Lib.itoa (r + 1) else []
set_option maxHeartbeats 1000000 in
theorem rtext2_yes (c r : Int) (w : World) (hr : rightB c r = true) :
    Calls Tryz.prog 51 #[.agg #[.int .i64 c, .int .i64 r]] w fun e w' => e = .returned (.string ⟨(placeText c r).toArray⟩) ∧ Below w.heap.size w w' := by
  have HR := Lib.hid (rright_any c r)
  obtain ⟨c0, c1, r0, r1⟩ := (rightB_iff c r).1 hr
  rw [hr] at HR
  have e1 := Lib.hid (show placeText c r = letter c :: Lib.itoa (r + 1) from if_pos hr)
  clear hr
  have hl := letter_is c c0 c1
  have hw1 : IntKind.i64.wrap (c + 1) = c + 1 := IntWalk.i64_in _ (by omega)
  have hw2 : IntKind.i64.wrap (r + 1) = r + 1 := IntWalk.i64_in _ (by omega)
  have hc1 : 0 ≤ c + 1 := by omega
  have hc2 : c + 1 ≤ 16 := by omega
  have HT := Lib.hid (rtext_any (r + 1) (by unfold B64; omega))
  have hlen := itoa_len (r + 1) (by unfold B64; omega)
  obtain ⟨D, hD⟩ : ∃ D, D = Lib.itoa (r + 1) := ⟨_, rfl⟩
  rw [← hD] at HT hlen e1
  clear hD
  go_enter Tryz.func51, Tryz.ntmps51
  go_wp2_with fail
  refine (HR.out _).mono ?_; rintro e w1 ⟨rfl, b1⟩
  have k0 := keep_fresh b1 0 (v := .int .i64 c) rfl
  have k1 := keep_fresh b1 1 (v := .int .i64 r) rfl
  go_wp2_with fail
  go_region_with ((first
    | (go_at_call 50; refine (HT.out _).mono ?_; rintro e w2 ⟨rfl, b2⟩; have m0 := keep_cell (W := w1.drew) b2 k0; have m1 := keep_cell (W := w1.drew) b2 k1)))
  all_goals
    go_wp2
    go_ret
    have h1 : Below w.heap.size w w1 := ((Below.refl _ _).alloc (Nat.le_refl _) _).trans (b1.mono (by simp))
    exact ⟨ret_str (by rw [e1.out, ByteArray.mk_append_mk]; simp), h1.drew.trans (b2.mono h1.size)⟩
set_option maxHeartbeats 400000 in
theorem rtext2_no (c r : Int) (w : World) (hr : rightB c r = false) :
    Calls Tryz.prog 51 #[.agg #[.int .i64 c, .int .i64 r]] w fun e w' => e = .returned (.string ⟨(placeText c r).toArray⟩) ∧ Below w.heap.size w w' := by
  have HR := Lib.hid (rright_any c r)
  have e1 := Lib.hid (show placeText c r = [] from if_neg (by rw [hr]; decide))
  rw [hr] at HR
  clear hr
  go_enter Tryz.func51, Tryz.ntmps51
  go_wp2_with fail
  refine (HR.out _).mono ?_; rintro e w1 ⟨rfl, b1⟩
  have h1 : Below w.heap.size w w1 := ((Below.refl _ _).alloc (Nat.le_refl _) _).trans (b1.mono (by simp))
  go_wp2_with fail
  go_ret
  exact ⟨ret_str (by rw [e1.out]), h1⟩
theorem rtext2_any (c r : Int) (w : World) :
    Calls Tryz.prog 51 #[.agg #[.int .i64 c, .int .i64 r]] w fun e w' => e = .returned (.string ⟨(placeText c r).toArray⟩) ∧ Below w.heap.size w w' := by
  cases hr : rightB c r with
  | true => exact rtext2_yes c r w hr
  | false => exact rtext2_no c r w hr
end Go.Proofs.YtahdlijkohmdfaaGreatDoor
namespace Go.Proofs.YtahdlijkohmdfaaGreatDoor
open Go.RowKit

theorem encode_letters : ∀ k : Fin 16, (Utf8.encode (65 + (k.val : Int))).data.toList = [UInt8.ofNat (65 + k.val)] := by decide +kernel
theorem encode_letter (c : Int) (c0 : 0 ≤ c) (c1 : c ≤ 15) : Utf8.encode (65 + c) = ⟨#[letter c]⟩ := by
  have e := encode_letters ⟨c.toNat, by omega⟩
  have e1 : ((c.toNat : Nat) : Int) = c := by omega
  simp only [e1] at e
  have e4 : ∀ (a : ByteArray) (x : UInt8), a.data.toList = [x] → a = ⟨#[x]⟩ := fun a x hx => by
    obtain ⟨d⟩ := a
    congr
    exact Array.toList_inj.1 hx
  exact e4 _ _ e

set_option maxHeartbeats 1000000 in
theorem ptext_yes (c r : Int) (w : World) (hr : rightB c r = true) (hE : EnvI w) :
    Calls Tryz.prog 39 #[.agg #[.int .i64 c, .int .i64 r]] w fun e w' => e = .returned (.string ⟨(placeText c r).toArray⟩) ∧ Below w.heap.size w w' := by
  have HR := Lib.hid (pright_any c r)
  obtain ⟨c0, c1, r0, r1⟩ := (rightB_iff c r).1 hr
  rw [hr] at HR
  have e1 := Lib.hid (show placeText c r = letter c :: Lib.itoa (r + 1) from if_pos hr)
  clear hr
  have HEN := Lib.hid (encode_letter c c0 c1)
  have HT := Lib.hid (itoa_any (r + 1) (by unfold B64; omega))
  have hlen := itoa_len (r + 1) (by unfold B64; omega)
  have HE := Lib.hid hE
  clear hE
  obtain ⟨D, hD⟩ : ∃ D, D = Lib.itoa (r + 1) := ⟨_, rfl⟩
  rw [← hD] at HT hlen e1
  clear hD
  have hcat : ∀ w, (Op.stringOp .add ⟨#[letter c]⟩ ⟨D.toArray⟩).run Tryz.prog w = .ok (.string ⟨(letter c :: D).toArray⟩) w := fun w => run_string_add_lists w [letter c] D (by simp) (by omega)
  have hw1 : IntKind.i64.wrap (65 + c) = 65 + c := IntWalk.i64_in _ (by omega)
  have hw2 : IntKind.i64.wrap (r + 1) = r + 1 := IntWalk.i64_in _ (by omega)
  have hw3 : IntKind.i32.wrap (65 + c) = 65 + c := by simp only [IntKind.wrap_i32]; omega
  go_enter Tryz.func39, Tryz.ntmps39
  go_wp2_with fail
  refine (HR.out _).mono ?_; rintro e w1 ⟨rfl, b1⟩
  have k0 := keep_fresh b1 0 (v := .int .i64 c) rfl
  have k1 := keep_fresh b1 1 (v := .int .i64 r) rfl
  have h1 : Below w.heap.size w w1 := ((Below.refl _ _).alloc (Nat.le_refl _) _).trans (b1.mono (by simp))
  have HE1 := Lib.hid (HE.out.below h1)
  have HE2 : Hid (EnvI w1.drew) := Lib.hid ⟨HE1.out.tab⟩
  have hen := HEN.out
  go_wp2_with fail
  go_region_held3 (fun w' => w'.cell? ⟨w.heap.size, 0, none⟩ = some (.int .i64 c) ∧ w'.cell? ⟨w.heap.size, 1, none⟩ = some (.int .i64 r))
    (first | (simp only [World.cell?_drew]; with_reducible exact ⟨k0, k1⟩) | with_reducible exact ⟨m0, m1⟩ | fail)
    (first
    | (go_at_call 71; refine (HT.out _ HE2.out).mono ?_; rintro e w2 ⟨rfl, b2⟩
       have B2 : Below w1.heap.size w1 w2 := (Below.refl _ w1).drew.trans b2
       have m0 := keep_cell B2 k0
       have m1 := keep_cell B2 k1))
  all_goals
    go_wp2
    go_ret
    exact ⟨ret_str (by rw [e1.out]), h1.trans (B2.mono h1.size)⟩

set_option maxHeartbeats 400000 in
theorem ptext_no (c r : Int) (w : World) (hr : rightB c r = false) :
    Calls Tryz.prog 39 #[.agg #[.int .i64 c, .int .i64 r]] w fun e w' => e = .returned (.string ⟨(placeText c r).toArray⟩) ∧ Below w.heap.size w w' := by
  have HR := Lib.hid (pright_any c r)
  have e1 := Lib.hid (show placeText c r = [] from if_neg (by rw [hr]; decide))
  rw [hr] at HR
  clear hr
  go_enter Tryz.func39, Tryz.ntmps39
  go_wp2_with fail
  refine (HR.out _).mono ?_; rintro e w1 ⟨rfl, b1⟩
  have h1 : Below w.heap.size w w1 := ((Below.refl _ _).alloc (Nat.le_refl _) _).trans (b1.mono (by simp))
  go_wp2_with fail
  go_ret
  exact ⟨ret_str (by rw [e1.out]), h1⟩
theorem ptext_any (c r : Int) (w : World) (hE : EnvI w) :
    Calls Tryz.prog 39 #[.agg #[.int .i64 c, .int .i64 r]] w fun e w' => e = .returned (.string ⟨(placeText c r).toArray⟩) ∧ Below w.heap.size w w' := by
  cases hr : rightB c r with
  | true => exact ptext_yes c r w hr hE
  | false => exact ptext_no c r w hr
end Go.Proofs.YtahdlijkohmdfaaGreatDoor
