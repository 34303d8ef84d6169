/- Texts joined: Fl, PlA, PlBa, PlC, ShJ. -/
import Derived.Laws.ComplexArith
import Derived.Test.YteflmfifhmlpiaaDoorMa10
import Derived.WalkLawsBesides
import Derived.Deep.RegionWith
import Derived.Test.YteflmfifhmlpiaaDoorMa09
import Derived.Deep.RegionHeld3
set_option linter.all false
set_option linter.unusedVariables false
set_option linter.unusedSimpArgs false
namespace Go.Proofs.YteflmfifhmlpiaaDoor
open Ieee

def fl (n : Int) : Nat := floatOfInt .f64 n

theorem d_binade : double.binade = 4503599627370496 := by decide +kernel
theorem d_least : double.leastPlace = -1074 := by decide +kernel
theorem d_inf : double.infRung = 9218868437227405312 := by decide +kernel
theorem d_sw : double.signWeight = 9223372036854775808 := by decide +kernel

theorem cut_bounds (neg : Bool) (n drop : Nat) (h : drop ≤ n.log2 + 2) : n / 2 ^ drop ≤ Toward.even.cut neg n drop ∧ Toward.even.cut neg n drop ≤ n / 2 ^ drop + 1 := by
  unfold Toward.cut
  simp only [Nat.min_eq_left h, Nat.shiftLeft_eq, Nat.one_mul]
  refine ⟨Nat.le_add_right _ _, Nat.add_le_add_left (Bool.toNat_le _) _⟩

theorem cut_exact (neg : Bool) (n drop : Nat) (h : drop ≤ n.log2 + 2 ∧ n % 2 ^ drop = 0) : Toward.even.cut neg n drop = n / 2 ^ drop := by
  unfold Toward.cut
  have hp : 0 < 2 ^ drop := Nat.two_pow_pos drop
  have e1 : (decide (2 ^ drop < 2 * 0) : Bool) = false := decide_eq_false (by omega)
  have e2 : ((2 ^ drop : Nat) == 2 * 0) = false := by rw [beq_eq_false_iff_ne]; omega
  simp only [Nat.min_eq_left h.1, Nat.shiftLeft_eq, Nat.one_mul, h.2, e1, e2, Bool.false_and, Bool.or_false, Bool.toNat_false, Nat.add_zero]

theorem kept_bounds (neg : Bool) (mag : Nat) (h : mag ≠ 0) :
    4503599627370496 ≤ Toward.even.cut neg (mag <<< (52 - mag.log2)) (mag.log2 - 52) ∧ Toward.even.cut neg (mag <<< (52 - mag.log2)) (mag.log2 - 52) ≤ 9007199254740992 := by
  have h1 := Nat.log2_self_le h
  have h2 := Nat.lt_log2_self (n := mag)
  obtain ⟨L, hL⟩ : ∃ L, L = mag.log2 := ⟨_, rfl⟩
  rw [← hL] at h1 h2
  by_cases hc : L ≤ 52
  · have e0 : mag.log2 - 52 = 0 := by omega
    rw [e0, ← hL]
    obtain ⟨c1, c2⟩ := cut_bounds neg (mag <<< (52 - L)) 0 (by omega)
    rw [Nat.pow_zero, Nat.div_one, Nat.shiftLeft_eq] at c1 c2
    rw [Nat.shiftLeft_eq]
    have p1 : 2 ^ L * 2 ^ (52 - L) = 2 ^ 52 := by rw [← Nat.pow_add]; congr 1; omega
    have p2 : 2 ^ (L + 1) * 2 ^ (52 - L) = 2 ^ 53 := by rw [← Nat.pow_add]; congr 1; omega
    have q1 := Nat.mul_le_mul_right (2 ^ (52 - L)) h1
    have q2 := Nat.mul_lt_mul_of_pos_right h2 (Nat.two_pow_pos (52 - L))
    rw [p1] at q1
    rw [p2] at q2
    have r1 : (2 : Nat) ^ 52 = 4503599627370496 := by decide
    have r2 : (2 : Nat) ^ 53 = 9007199254740992 := by decide
    omega
  · have e0 : 52 - mag.log2 = 0 := by omega
    rw [e0, Nat.shiftLeft_zero]
    obtain ⟨c1, c2⟩ := cut_bounds neg mag (mag.log2 - 52) (by omega)
    rw [← hL] at c1 c2 ⊢
    have p1 : 2 ^ L = 2 ^ 52 * 2 ^ (L - 52) := by rw [← Nat.pow_add]; congr 1; omega
    have p2 : 2 ^ (L + 1) = 2 ^ 53 * 2 ^ (L - 52) := by rw [← Nat.pow_add]; congr 1; omega
    rw [p1] at h1
    rw [p2] at h2
    have q1 := (Nat.le_div_iff_mul_le (Nat.two_pow_pos (L - 52))).2 h1
    have q2 := (Nat.div_lt_iff_lt_mul (Nat.two_pow_pos (L - 52))).2 h2
    have r1 : (2 : Nat) ^ 52 = 4503599627370496 := by decide
    have r2 : (2 : Nat) ^ 53 = 9007199254740992 := by decide
    omega

theorem word_neg (neg : Bool) (r : Nat) (h : r < 9218868437227405312) : (double.word neg r / 9223372036854775808 % 2 == 1) = neg := by
  cases neg
  · show (r / 9223372036854775808 % 2 == 1) = false
    rw [beq_eq_false_iff_ne]; omega
  · show ((double.signWeight + r) / 9223372036854775808 % 2 == 1) = true
    rw [beq_iff_eq, d_sw]; omega
theorem word_mod (neg : Bool) (r : Nat) (h : r < 9218868437227405312) : double.word neg r % 9223372036854775808 = r := by
  cases neg
  · show r % 9223372036854775808 = r
    omega
  · show (double.signWeight + r) % 9223372036854775808 = r
    rw [d_sw]; omega
theorem read_word (neg : Bool) (r : Nat) (h1 : 4503599627370496 ≤ r) (h2 : r < 9218868437227405312) :
    double.read (double.word neg r) = .number neg (4503599627370496 + r % 4503599627370496) (-1074 + (r / 4503599627370496 - 1 : Nat)) := by
  have hneg := word_neg neg r h2
  have hmod := word_mod neg r h2
  unfold Format.read
  simp only [d_sw, d_binade, d_inf, d_least, hneg, hmod]
  rw [if_neg (by omega), if_pos h2]
theorem parts_of (B kept : Nat) (k1 : 4503599627370496 ≤ kept) (k2 : kept ≤ 9007199254740992) (hB : B ≤ 2022) :
    4503599627370496 ≤ B * 4503599627370496 + kept ∧ B * 4503599627370496 + kept < 9218868437227405312 ∧ B + 1 ≤ (B * 4503599627370496 + kept) / 4503599627370496 ∧ (B * 4503599627370496 + kept) / 4503599627370496 ≤ B + 2 := by
  omega
theorem nearest_read (neg : Bool) (mag : Nat) (place E : Int) (h : mag ≠ 0) (hE : E = place + mag.log2) (h0 : -1022 ≤ E) (h1 : E ≤ 1000) :
    ∃ (m : Nat) (p : Int), double.read (double.nearest neg mag place) = .number neg m p ∧ 4503599627370496 ≤ m ∧ m < 9007199254740992 ∧ E - 52 ≤ p ∧ p ≤ E - 51 := by
  obtain ⟨k1, k2⟩ := kept_bounds neg mag h
  obtain ⟨L, hL⟩ : ∃ L : Nat, L = mag.log2 := ⟨_, rfl⟩
  rw [← hL] at hE k1 k2
  obtain ⟨kept, hk⟩ : ∃ kept, kept = Toward.even.cut neg (mag <<< (52 - L)) (L - 52) := ⟨_, rfl⟩
  rw [← hk] at k1 k2
  have e1 : max (place + (L : Int) - (double.fractionBits : Int)) (-1074) = E - 52 := by
    clear hk hL
    show max (place + (L : Int) - 52) (-1074) = _; omega
  have e2 : (place - (E - 52)).toNat = 52 - L := by clear hk hL; omega
  have e3 : ((E - 52) - place).toNat = L - 52 := by clear hk hL; omega
  obtain ⟨B, hB⟩ : ∃ B : Nat, (B : Int) = E + 1022 := ⟨(E + 1022).toNat, by clear hk hL; omega⟩
  have e4 : (E - 52 - -1074).toNat = B := by clear hk hL; omega
  have hBu : B ≤ 2022 := by clear hk hL; omega
  obtain ⟨g1, g2, g3, g4⟩ := parts_of B kept k1 k2 hBu
  have hn : double.nearest neg mag place = double.word neg (B * 4503599627370496 + kept) := by
    unfold Format.nearest
    rw [if_neg h]
    dsimp only
    rw [d_least, ← hL, e1, e2, e3, ← hk, d_binade, d_inf, e4, Nat.min_eq_left (Nat.le_of_lt g2)]
  rw [hn, read_word neg _ g1 g2]
  obtain ⟨r, hr⟩ : ∃ r, r = B * 4503599627370496 + kept := ⟨_, rfl⟩
  rw [← hr] at g1 g2 g3 g4 ⊢
  clear hk hL hn hr k1 k2 e1 e2 e3 e4
  exact ⟨_, _, rfl, Nat.le_add_right _ _, by omega, by omega, by omega⟩

theorem fl_small : ∀ c : Fin 64, double.read (fl (c.val : Int)) = .number false 0 (-1074) ∧ c.val = 0 ∨
    ∃ L : Fin 6, double.read (fl (c.val : Int)) = .number false (c.val * 2 ^ (52 - L.val)) ((L.val : Int) - 52) ∧ 2 ^ L.val ≤ c.val ∧ c.val < 2 ^ (L.val + 1) := by decide +kernel

theorem fl_is (n : Int) : fl n = double.nearest (decide (n < 0)) n.natAbs 0 := rfl

theorem signed_false (m k : Nat) : signed false m k = ((m * 2 ^ k : Nat) : Int) := by
  unfold signed; rw [Nat.shiftLeft_eq]; rfl
theorem signed_true (m k : Nat) : signed true m k = -((m * 2 ^ k : Nat) : Int) := by
  unfold signed; rw [Nat.shiftLeft_eq]; rfl

theorem sum_far (mc m : Nat) (pc p : Int) (s : Bool) (hm : 4503599627370496 ≤ m) (hm2 : m < 9007199254740992) (hp : -46 ≤ p) (hp2 : p ≤ 13)
    (hc : mc = 0 ∧ pc = -1074 ∨ mc < 9007199254740992 ∧ -52 ≤ pc ∧ pc ≤ -47) :
    ∃ z, ((Datum.number false mc pc).sum (.number s m p)).map double.write = some z ∧ ∃ (m' : Nat) (p' : Int), double.read z = .number s m' p' ∧ 4503599627370496 ≤ m' ∧ (s = false → -46 ≤ p') := by
  have hb : min pc p = pc := by omega
  obtain ⟨k, hk⟩ : ∃ k : Nat, (k : Int) = p - pc := ⟨(p - pc).toNat, by omega⟩
  have e0 : (p - pc).toNat = k := by omega
  have e1 : (pc - pc).toNat = 0 := by omega
  have k1 : 1 ≤ k := by omega
  have hpow : 2 ≤ 2 ^ k := by
    have := Nat.pow_le_pow_right (n := 2) (by decide) k1
    simpa using this
  have hbig : mc < m * 2 ^ k := by
    have h2 : 9007199254740992 ≤ m * 2 ^ k := by
      have := Nat.mul_le_mul hm hpow
      omega
    rcases hc with ⟨rfl, _⟩ | ⟨h3, _⟩ <;> omega
  obtain ⟨X, hX⟩ : ∃ X, X = m * 2 ^ k := ⟨_, rfl⟩
  have hsum : (Datum.number false mc pc).sum (.number s m p) = some (.number s (if s = true then X - mc else mc + X) pc) := by
    unfold Datum.sum
    simp only [hb, e0, e1]
    cases s
    · rw [signed_false, signed_false, ← hX, Nat.pow_zero, Nat.mul_one]
      have t0 : (mc : Int) + (X : Int) ≠ 0 := by omega
      have t1 : ¬ ((mc : Int) + (X : Int) < 0) := by omega
      have t2 : ((mc : Int) + (X : Int)).natAbs = mc + X := by omega
      simp [t0, t1, t2]
    · rw [signed_false, signed_true, ← hX, Nat.pow_zero, Nat.mul_one]
      have t0 : (mc : Int) + -(X : Int) ≠ 0 := by omega
      have t1 : (mc : Int) + -(X : Int) < 0 := by omega
      have t2 : ((mc : Int) + -(X : Int)).natAbs = X - mc := by omega
      simp [t0, t1, t2]
  rw [hsum]
  refine ⟨_, rfl, ?_⟩
  have hX1 : 2 ^ (52 + k) ≤ X := by
    rw [hX, Nat.pow_add]
    exact Nat.mul_le_mul_right _ hm
  have hX2 : X < 2 ^ (53 + k) := by
    rw [hX, Nat.pow_add]
    exact Nat.mul_lt_mul_of_pos_right hm2 (Nat.two_pow_pos k)
  have hd : (2 : Nat) ^ (54 + k) = 2 ^ (53 + k) + 2 ^ (53 + k) := by
    rw [show 54 + k = (53 + k) + 1 by omega, Nat.pow_succ]; omega
  cases s
  · have hne : mc + X ≠ 0 := by omega
    have l1 : 52 + k ≤ (mc + X).log2 := (Nat.le_log2 hne).2 (by omega)
    have l2 : (mc + X).log2 < 54 + k := (Nat.log2_lt hne).2 (by omega)
    obtain ⟨m', p', hr, g1, _, g3, _⟩ := nearest_read false (mc + X) pc (pc + (mc + X).log2) hne rfl (by omega) (by omega)
    exact ⟨m', p', hr, g1, fun _ => by omega⟩
  · have hne : X - mc ≠ 0 := by omega
    have l2 : (X - mc).log2 < 54 + k := (Nat.log2_lt hne).2 (by omega)
    have l0 : -1022 ≤ pc + ((X - mc).log2 : Int) := by
      rcases hc with ⟨rfl, h3⟩ | ⟨_, h3, _⟩
      · have l1 : 52 + k ≤ (X - 0).log2 := (Nat.le_log2 hne).2 (by omega)
        omega
      · omega
    obtain ⟨m', p', hr, g1, _, _, _⟩ := nearest_read true (X - mc) pc (pc + (X - mc).log2) hne rfl l0 (by omega)
    exact ⟨m', p', hr, g1, fun h => by cases h⟩

theorem log2_of {n : Nat} (h0 : 64 ≤ n) (h1 : n ≤ 9223372036854775808) : 6 ≤ n.log2 ∧ n.log2 ≤ 63 := by
  have hne : n ≠ 0 := by omega
  have a := (Nat.le_log2 (k := 6) hne).2 (by show 64 ≤ n; omega)
  have b := (Nat.log2_lt (k := 64) hne).2 (by show n < 18446744073709551616; omega)
  omega

theorem add_far (c x : Int) (h0 : 0 ≤ c) (h1 : c ≤ 63) (hx : x < -64 ∨ 64 < x) (hl : -9223372036854775808 ≤ x) (hu : x ≤ 9223372036854775807) :
    ∃ z, double.add (fl c) (fl x) = some z ∧ ∃ (m : Nat) (p : Int), double.read z = .number (decide (x < 0)) m p ∧ 4503599627370496 ≤ m ∧ (0 ≤ x → -46 ≤ p) := by
  obtain ⟨l1, l2⟩ := log2_of (n := x.natAbs) (by omega) (by omega)
  obtain ⟨m, p, hr, g1, g2, g3, g4⟩ := nearest_read (decide (x < 0)) x.natAbs 0 (0 + x.natAbs.log2) (by omega) rfl (by omega) (by omega)
  have hs := fl_small ⟨c.toNat, by omega⟩
  have ec : ((c.toNat : Nat) : Int) = c := by omega
  simp only [ec] at hs
  unfold Format.add
  rw [fl_is x, hr]
  rcases hs with ⟨hc, _⟩ | ⟨L, hc, b1, b2⟩
  · rw [hc]
    obtain ⟨z, hz, m', p', q1, q2, q3⟩ := sum_far 0 m (-1074) p (decide (x < 0)) g1 g2 (by omega) (by omega) (.inl ⟨rfl, rfl⟩)
    exact ⟨z, hz, m', p', q1, q2, fun h => q3 (decide_eq_false (by omega))⟩
  · rw [hc]
    have hL := L.isLt
    have hmc : c.toNat * 2 ^ (52 - L.val) < 9007199254740992 := by
      have := Nat.mul_lt_mul_of_pos_right b2 (Nat.two_pow_pos (52 - L.val))
      rw [← Nat.pow_add, show L.val + 1 + (52 - L.val) = 53 by omega] at this
      exact this
    obtain ⟨z, hz, m', p', q1, q2, q3⟩ := sum_far (c.toNat * 2 ^ (52 - L.val)) m ((L.val : Int) - 52) p (decide (x < 0)) g1 g2 (by omega) (by omega) (.inr ⟨hmc, by omega, by omega⟩)
    exact ⟨z, hz, m', p', q1, q2, fun h => q3 (decide_eq_false (by omega))⟩

theorem nearest_scale (neg : Bool) (t k : Nat) (h0 : t ≠ 0) (h1 : t < 128) : double.nearest neg (t * 2 ^ k) (-(k : Int)) = double.nearest neg t 0 := by
  have hp : 0 < 2 ^ k := Nat.two_pow_pos k
  have hne : t * 2 ^ k ≠ 0 := Nat.mul_ne_zero h0 (by omega)
  have a1 := Nat.log2_self_le h0
  have a2 := Nat.lt_log2_self (n := t)
  have hl : (t * 2 ^ k).log2 = t.log2 + k := by
    have u1 : t.log2 + k ≤ (t * 2 ^ k).log2 := (Nat.le_log2 hne).2 (by rw [Nat.pow_add]; exact Nat.mul_le_mul_right _ a1)
    have u2 : (t * 2 ^ k).log2 < t.log2 + k + 1 := (Nat.log2_lt hne).2 (by
      rw [show t.log2 + k + 1 = (t.log2 + 1) + k by omega, Nat.pow_add]; exact Nat.mul_lt_mul_of_pos_right a2 hp)
    omega
  have hL : t.log2 < 7 := (Nat.log2_lt h0).2 h1
  obtain ⟨L, hLe⟩ : ∃ L, L = t.log2 := ⟨_, rfl⟩
  rw [← hLe] at hl hL
  have e1 : max (-(k : Int) + ((L + k : Nat) : Int) - (double.fractionBits : Int)) (-1074) = (L : Int) - 52 := by
    show max (-(k : Int) + ((L + k : Nat) : Int) - 52) (-1074) = _; omega
  have e2 : max ((0 : Int) + (L : Int) - (double.fractionBits : Int)) (-1074) = (L : Int) - 52 := by
    show max ((0 : Int) + (L : Int) - 52) (-1074) = _; omega
  have hc : Toward.even.cut neg ((t * 2 ^ k) <<< (-(k : Int) - ((L : Int) - 52)).toNat) (((L : Int) - 52) - -(k : Int)).toNat = Toward.even.cut neg (t <<< ((0 : Int) - ((L : Int) - 52)).toNat) (((L : Int) - 52) - 0).toNat := by
    have z1 : ((0 : Int) - ((L : Int) - 52)).toNat = 52 - L := by omega
    have z2 : (((L : Int) - 52) - 0).toNat = 0 := by omega
    rw [z1, z2, cut_exact neg (t <<< (52 - L)) 0 ⟨Nat.zero_le _, Nat.mod_one _⟩, Nat.pow_zero, Nat.div_one, Nat.shiftLeft_eq]
    by_cases hk : k ≤ 52 - L
    · have z3 : (-(k : Int) - ((L : Int) - 52)).toNat = 52 - L - k := by omega
      have z4 : (((L : Int) - 52) - -(k : Int)).toNat = 0 := by omega
      rw [z3, z4, cut_exact neg _ 0 ⟨Nat.zero_le _, Nat.mod_one _⟩, Nat.pow_zero, Nat.div_one, Nat.shiftLeft_eq, Nat.mul_assoc, ← Nat.pow_add]
      congr 2
      omega
    · have z3 : (-(k : Int) - ((L : Int) - 52)).toNat = 0 := by omega
      obtain ⟨d, hd⟩ : ∃ d, d = k - (52 - L) := ⟨_, rfl⟩
      have z4 : (((L : Int) - 52) - -(k : Int)).toNat = d := by omega
      have z5 : t * 2 ^ k = t * 2 ^ (52 - L) * 2 ^ d := by
        rw [Nat.mul_assoc, ← Nat.pow_add]; congr 2; omega
      have hd2 : d ≤ (t * 2 ^ k).log2 + 2 := by omega
      have z6 : (t * 2 ^ k) % 2 ^ d = 0 := by rw [z5]; exact Nat.mul_mod_left _ _
      rw [z3, z4, Nat.pow_zero, Nat.mul_one, cut_exact neg _ d ⟨hd2, z6⟩, z5, Nat.mul_div_cancel _ (Nat.two_pow_pos d), Nat.shiftLeft_eq]
  unfold Format.nearest
  rw [if_neg hne, if_neg h0]
  dsimp only
  rw [d_least, hl, ← hLe, e1, e2, hc]

theorem fl_near_all : ∀ x : Fin 129, double.read (fl ((x.val : Int) - 64)) = .number (decide ((x.val : Int) - 64 < 0)) (((x.val : Int) - 64).natAbs * 2 ^ (if x.val = 64 then 1074 else 52 - ((x.val : Int) - 64).natAbs.log2)) (-((if x.val = 64 then 1074 else 52 - ((x.val : Int) - 64).natAbs.log2 : Nat) : Int)) := by decide +kernel
theorem fl_near (x : Int) (h0 : -64 ≤ x) (h1 : x ≤ 64) : ∃ k : Nat, double.read (fl x) = .number (decide (x < 0)) (x.natAbs * 2 ^ k) (-(k : Int)) := by
  have h := fl_near_all ⟨(x + 64).toNat, by omega⟩
  have e : (((x + 64).toNat : Nat) : Int) - 64 = x := by omega
  simp only [e] at h
  exact ⟨_, h⟩
theorem signed_is (x : Int) (k d : Nat) : signed (decide (x < 0)) (x.natAbs * 2 ^ k) d = x * ((2 ^ (k + d) : Nat) : Int) := by
  by_cases h : x < 0
  · rw [decide_eq_true h, signed_true, Nat.mul_assoc, ← Nat.pow_add, Int.natCast_mul]
    have : (x.natAbs : Int) = -x := by omega
    rw [this, Int.neg_mul, Int.neg_neg]
  · rw [decide_eq_false h, signed_false, Nat.mul_assoc, ← Nat.pow_add, Int.natCast_mul]
    have : (x.natAbs : Int) = x := by omega
    rw [this]
theorem add_near (c x : Int) (h0 : 0 ≤ c) (h1 : c ≤ 63) (x0 : -64 ≤ x) (x1 : x ≤ 64) : double.add (fl c) (fl x) = some (fl (c + x)) := by
  obtain ⟨k, hk⟩ := fl_near c (by omega) (by omega)
  obtain ⟨l, hl⟩ := fl_near x x0 x1
  obtain ⟨K, hK⟩ : ∃ K, K = max k l := ⟨_, rfl⟩
  have hb : min (-(k : Int)) (-(l : Int)) = -(K : Int) := by omega
  have d1 : (-(k : Int) - -(K : Int)).toNat = K - k := by omega
  have d2 : (-(l : Int) - -(K : Int)).toNat = K - l := by omega
  have s1 : k + (K - k) = K := by omega
  have s2 : l + (K - l) = K := by omega
  have hc : decide (c < 0) = false := decide_eq_false (by omega)
  have hP : (0 : Int) < ((2 ^ K : Nat) : Int) := by have := Nat.two_pow_pos K; omega
  have hsum : (Datum.number (decide (c < 0)) (c.natAbs * 2 ^ k) (-(k : Int))).sum (.number (decide (x < 0)) (x.natAbs * 2 ^ l) (-(l : Int))) = some (.number (decide (c + x < 0)) ((c + x).natAbs * 2 ^ K) (-(K : Int))) := by
    unfold Datum.sum
    simp only [hb, d1, d2, signed_is, s1, s2, ← Int.add_mul]
    have hz : (if (c + x) * ((2 ^ K : Nat) : Int) = 0 then decide (c < 0) && decide (x < 0) else decide ((c + x) * ((2 ^ K : Nat) : Int) < 0)) = decide (c + x < 0) := by
      by_cases hz : c + x = 0
      · rw [hz, Int.zero_mul, if_pos rfl, hc]; rfl
      · have hz2 : (c + x) * ((2 ^ K : Nat) : Int) ≠ 0 := Int.mul_ne_zero hz (by omega)
        rw [if_neg hz2]
        refine decide_eq_decide.2 ⟨fun h => ?_, fun h => Int.mul_neg_of_neg_of_pos h hP⟩
        exact Int.not_le.1 fun hge => absurd (Int.mul_nonneg hge (Int.le_of_lt hP)) (by omega)
    rw [hz, Int.natAbs_mul, Int.natAbs_natCast]
  unfold Format.add
  rw [hk, hl, hsum]
  refine congrArg some ?_
  rw [fl_is (c + x)]
  show double.nearest _ _ _ = _
  by_cases hz : (c + x).natAbs = 0
  · have : c + x = 0 := by omega
    rw [this]
    have hz0 : (0 : Int).natAbs * 2 ^ K = 0 := by rw [Int.natAbs_zero, Nat.zero_mul]
    rw [hz0]
    unfold Format.nearest
    rw [if_pos rfl, if_pos Int.natAbs_zero]
  · exact nearest_scale _ _ K hz (by omega)

def geZ (z : Nat) : Bool := double.order z 0 == some .gt || double.order z 0 == some .eq
def ltE (z e : Nat) : Bool := double.order z e == some .lt

theorem near_all : ∀ t : Fin 192, geZ (fl ((t.val : Int) - 64)) = decide (64 ≤ t.val) ∧ ltE (fl ((t.val : Int) - 64)) (fl 16) = decide (t.val < 80) ∧ ltE (fl ((t.val : Int) - 64)) (fl 64) = decide (t.val < 128) ∧
    floatToIntVal .f64 (fl ((t.val : Int) - 64)) .i64 = some ((t.val : Int) - 64) := by decide +kernel
theorem near_is (t : Int) (h0 : -64 ≤ t) (h1 : t ≤ 127) : geZ (fl t) = decide (0 ≤ t) ∧ ltE (fl t) (fl 16) = decide (t < 16) ∧ ltE (fl t) (fl 64) = decide (t < 64) ∧ floatToIntVal .f64 (fl t) .i64 = some t := by
  have h := near_all ⟨(t + 64).toNat, by omega⟩
  have e : (((t + 64).toNat : Nat) : Int) - 64 = t := by omega
  simp only [e] at h
  obtain ⟨a, b, c, d⟩ := h
  refine ⟨a.trans (decide_eq_decide.2 (by omega)), b.trans (decide_eq_decide.2 (by omega)), c.trans (decide_eq_decide.2 (by omega)), d⟩

theorem fl0 : double.read 0 = .number false 0 (-1074) := by decide +kernel
theorem fl16 : double.read (fl 16) = .number false 4503599627370496 (-48) := by decide +kernel
theorem fl64 : double.read (fl 64) = .number false 4503599627370496 (-46) := by decide +kernel

theorem far_low {z m : Nat} {p : Int} (h : double.read z = .number true m p) (hm : 4503599627370496 ≤ m) : geZ z = false := by
  have : double.order z 0 = some .lt := by
    unfold Format.order
    rw [h, fl0]
    unfold Datum.order
    simp only [signed_true, signed_false]
    congr 1
    rw [Int.compare_eq_lt]
    have : 0 < m * 2 ^ (p - min p (-1074)).toNat := Nat.mul_pos (by omega) (Nat.two_pow_pos _)
    omega
  unfold geZ
  rw [this]
  rfl
theorem far_high {z m : Nat} {p q : Int} {e : Nat} (h : double.read z = .number false m p) (hm : 4503599627370496 ≤ m) (hp : q ≤ p) (he : double.read e = .number false 4503599627370496 q) : ltE z e = false := by
  have : double.order z e ≠ some .lt := by
    unfold Format.order
    rw [h, he]
    unfold Datum.order
    simp only [signed_false]
    have hb : min p q = q := by omega
    have e1 : (q - q).toNat = 0 := by omega
    rw [hb, e1, Nat.pow_zero, Nat.mul_one]
    intro hc
    have hc := Option.some.inj hc
    rw [Int.compare_eq_lt] at hc
    have : m ≤ m * 2 ^ (p - q).toNat := Nat.le_mul_of_pos_right _ (Nat.two_pow_pos _)
    omega
  unfold ltE
  exact beq_eq_false_iff_ne.2 this
theorem far_not (c x : Int) (h0 : 0 ≤ c) (h1 : c ≤ 63) (hx : x < -64 ∨ 64 < x) (hl : -9223372036854775808 ≤ x) (hu : x ≤ 9223372036854775807) :
    ∃ z, double.add (fl c) (fl x) = some z ∧ (geZ z = false ∨ ltE z (fl 16) = false ∧ ltE z (fl 64) = false) := by
  obtain ⟨z, hz, m, p, hr, hm, hp⟩ := add_far c x h0 h1 hx hl hu
  refine ⟨z, hz, ?_⟩
  by_cases hn : x < 0
  · rw [decide_eq_true hn] at hr
    exact .inl (far_low hr hm)
  · rw [decide_eq_false hn] at hr
    have := hp (by omega)
    exact .inr ⟨far_high hr hm (by omega) fl16, far_high hr hm (by omega) fl64⟩
end Go.Proofs.YteflmfifhmlpiaaDoor
namespace Go.Proofs.YteflmfifhmlpiaaDoor
open Go.RowKit

set_option maxHeartbeats 400000 in
theorem pat_any (i : Int) (w : World) :
    Calls Tryd.prog 31 #[.int .i64 i] w fun e w' => e = .returned (.tuple #[.agg #[.int .i64 (atC i), .int .i64 (atR i)], .bool (idxB i)]) ∧ Below w.heap.size w w' := by
  by_cases h : 0 ≤ i ∧ i ≤ 1023
  · have e1 := Lib.hid (show atC i = i % 16 from if_pos h)
    have e2 := Lib.hid (show atR i = i / 16 from if_pos h)
    have e3 := Lib.hid (show idxB i = true from decide_eq_true h)
    obtain ⟨h1, h2⟩ := h
    go_enter Tryd.func31, Tryd.ntmps31
    go_wp2_with fail
    exact bodyPost_ret (v := .tuple #[.agg #[.int .i64 (i % 16), .int .i64 (i / 16)], .bool true]) (by simp [results, Tryd.results31, go_sem]) rfl
      ⟨by rw [e1.out, e2.out, e3.out], (Below.refl _ _).alloc (Nat.le_refl _) _⟩
  · have e1 := Lib.hid (show atC i = 0 from if_neg h)
    have e2 := Lib.hid (show atR i = 0 from if_neg h)
    have e3 := Lib.hid (show idxB i = false from decide_eq_false h)
    by_cases h1 : i < 0
    · clear h
      go_enter Tryd.func31, Tryd.ntmps31
      go_wp2_with fail
      exact bodyPost_ret (v := .tuple #[.agg #[.int .i64 0, .int .i64 0], .bool false]) (by simp [results, Tryd.results31, go_sem]) rfl
        ⟨by rw [e1.out, e2.out, e3.out], (Below.refl _ _).alloc (Nat.le_refl _) _⟩
    · have h2 : 1024 ≤ i := by omega
      clear h
      go_enter Tryd.func31, Tryd.ntmps31
      go_wp2_with fail
      exact bodyPost_ret (v := .tuple #[.agg #[.int .i64 0, .int .i64 0], .bool false]) (by simp [results, Tryd.results31, go_sem]) rfl
        ⟨by rw [e1.out, e2.out, e3.out], (Below.refl _ _).alloc (Nat.le_refl _) _⟩

set_option maxHeartbeats 400000 in
theorem pindex_any (c r : Int) (w : World) :
    Calls Tryd.prog 30 #[.agg #[.int .i64 c, .int .i64 r]] w fun e w' => e = .returned (.int .i64 (idxN c r)) ∧ Below w.heap.size w w' := by
  have HR := Lib.hid (pright_any c r)
  cases hr : rightB c r with
  | true =>
    obtain ⟨h1, h2, h3, h4⟩ := (rightB_iff c r).1 hr
    have e1 := Lib.hid (show idxN c r = 16 * r + c from if_pos hr)
    rw [hr] at HR
    clear hr
    go_enter Tryd.func30, Tryd.ntmps30
    go_wp2_with fail
    refine (HR.out _).mono ?_; rintro e w1 ⟨rfl, b1⟩
    have k0 := keep_cell b1 (p := ⟨w.heap.size, 0, none⟩) (v := .int .i64 c) (by simp)
    have k1 := keep_cell b1 (p := ⟨w.heap.size, 1, none⟩) (v := .int .i64 r) (by simp)
    go_wp2_with fail
    go_ret
    exact ⟨ret_int e1.out.symm, ((Below.refl _ _).alloc (Nat.le_refl _) _).trans (b1.mono (by simp))⟩
  | false =>
    have e1 := Lib.hid (show idxN c r = -1 from if_neg (by rw [hr]; decide))
    rw [hr] at HR
    clear hr
    go_enter Tryd.func30, Tryd.ntmps30
    go_wp2_with fail
    refine (HR.out _).mono ?_; rintro e w1 ⟨rfl, b1⟩
    go_wp2_with fail
    go_ret
    exact ⟨ret_int e1.out.symm, ((Below.refl _ _).alloc (Nat.le_refl _) _).trans (b1.mono (by simp))⟩

set_option maxHeartbeats 400000 in
theorem plane_any (c r : Int) (w : World) :
    Calls Tryd.prog 84 #[.agg #[.int .i64 c, .int .i64 r]] w fun e w' => e = .returned (.complex .f64 (fl c) (fl r)) ∧ w.alloc (.cells #[.int .i64 c, .int .i64 r] 24) = w' := by
  go_enter Tryd.func84, Tryd.ntmps84
  go_wp2_with fail
  go_ret
  exact ⟨rfl, rfl⟩

theorem geZ_is (z : Nat) : (FloatKind.f64.format.order z 0 == some Ordering.gt || FloatKind.f64.format.order z 0 == some Ordering.eq) = geZ z := rfl
theorem ltE_is (z e : Nat) : (FloatKind.f64.format.order z e == some Ordering.lt) = ltE z e := rfl
set_option maxHeartbeats 400000 in
theorem within_any (z e : Nat) (w : World) :
    Calls Tryd.prog 92 #[.float .f64 z, .float .f64 e] w fun en w' => en = .returned (.bool (geZ z && ltE z e)) ∧ w = w' := by
  have h1 := geZ_is z
  have h2 := ltE_is z e
  cases hg : geZ z with
  | true =>
    rw [hg] at h1
    cases hl : ltE z e with
    | true =>
      rw [hl] at h2
      clear hg hl
      go_enter Tryd.func92, Tryd.ntmps92
      go_wp2_with fail
      go_ret
      exact ⟨rfl, rfl⟩
    | false =>
      rw [hl] at h2
      clear hg hl
      go_enter Tryd.func92, Tryd.ntmps92
      go_wp2_with fail
      go_ret
      exact ⟨rfl, rfl⟩
  | false =>
    rw [hg] at h1
    clear hg h2
    go_enter Tryd.func92, Tryd.ntmps92
    go_wp2_with fail
    go_ret
    exact ⟨rfl, rfl⟩
end Go.Proofs.YteflmfifhmlpiaaDoor
namespace Go.Proofs.YteflmfifhmlpiaaDoor
open Go.RowKit

theorem c16 : fl 16 = 4625196817309499392 := by decide +kernel
theorem c64 : fl 64 = 4634204016564240384 := by decide +kernel
def ifB (b : Bool) (n : Int) : Int := if b = true then n else 0

theorem conv_int (src dst : TypeId) (b : Nat) (n : Int) (hs : (Tryd.prog.underlying src).isSome = true) (hd : Tryd.prog.underlying dst = some (.int .i64)) (h : floatToIntVal .f64 b .i64 = some n) (w : World) :
    (convert src dst (.float .f64 b)).run Tryd.prog w = .ok (.int .i64 n) w := run_convert_float_int w src dst .f64 .i64 b n hs hd h

set_option maxHeartbeats 400000 in
theorem placed_any (a b : Nat) (A B : Bool) (hA : (geZ a && ltE a (fl 16)) = A) (hB : (geZ b && ltE b (fl 64)) = B) (C R : Int)
    (hC : A = true → floatToIntVal .f64 a .i64 = some C) (hR : B = true → floatToIntVal .f64 b .i64 = some R) (w : World) :
    Calls Tryd.prog 83 #[.complex .f64 a b] w fun e w' => e = .returned (.tuple #[.agg #[.int .i64 (ifB (A && B) C), .int .i64 (ifB (A && B) R)], .bool (A && B)]) ∧ Below w.heap.size w w' := by
  have HA := Lib.hid (within_any a (fl 16))
  have HB := Lib.hid (within_any b (fl 64))
  rw [hA, c16] at HA
  rw [hB, c64] at HB
  clear hA hB
  cases A with
  | false =>
    clear hC hR
    go_enter Tryd.func83, Tryd.ntmps83
    go_wp2_with fail
    refine (HA.out _).mono ?_; rintro e w1 ⟨rfl, rfl⟩
    go_wp2_with fail
    exact bodyPost_ret (v := .tuple #[.agg #[.int .i64 0, .int .i64 0], .bool false]) (by simp [results, Tryd.results83, go_sem]) rfl
      ⟨rfl, (Below.refl _ _).alloc (Nat.le_refl _) _⟩
  | true =>
    cases B with
    | false =>
      clear hC hR
      go_enter Tryd.func83, Tryd.ntmps83
      go_wp2_with fail
      refine (HA.out _).mono ?_; rintro e w1 ⟨rfl, rfl⟩
      go_wp2_with fail
      refine (HB.out _).mono ?_; rintro e w1 ⟨rfl, rfl⟩
      go_wp2_with fail
      exact bodyPost_ret (v := .tuple #[.agg #[.int .i64 0, .int .i64 0], .bool false]) (by simp [results, Tryd.results83, go_sem]) rfl
        ⟨rfl, (Below.refl _ _).alloc (Nat.le_refl _) _⟩
    | true =>
      have h1 := fun w => conv_int 111 3 a C (by rw [Tryd.underlying111]; rfl) Tryd.underlying3 (hC rfl) w
      have h2 := fun w => conv_int 111 3 b R (by rw [Tryd.underlying111]; rfl) Tryd.underlying3 (hR rfl) w
      clear hC hR
      go_enter Tryd.func83, Tryd.ntmps83
      go_wp2_with fail
      refine (HA.out _).mono ?_; rintro e w1 ⟨rfl, rfl⟩
      go_wp2_with fail
      refine (HB.out _).mono ?_; rintro e w1 ⟨rfl, rfl⟩
      go_wp2_with fail
      exact bodyPost_ret (v := .tuple #[.agg #[.int .i64 C, .int .i64 R], .bool true]) (by simp [results, Tryd.results83, go_sem]) rfl
        ⟨rfl, (Below.refl _ _).alloc (Nat.le_refl _) _⟩

theorem col_sum (c x : Int) (h0 : 0 ≤ c) (h1 : c ≤ 15) (hl : -9223372036854775808 ≤ x) (hu : x ≤ 9223372036854775807) :
    ∃ z, Ieee.double.add (fl c) (fl x) = some z ∧ (geZ z && ltE z (fl 16)) = decide (0 ≤ c + x ∧ c + x ≤ 15) ∧ (decide (0 ≤ c + x ∧ c + x ≤ 15) = true → floatToIntVal .f64 z .i64 = some (c + x)) := by
  by_cases hx : x < -64 ∨ 64 < x
  · obtain ⟨z, hz, hn⟩ := far_not c x h0 (by omega) hx hl hu
    have hd : decide (0 ≤ c + x ∧ c + x ≤ 15) = false := decide_eq_false (by omega)
    refine ⟨z, hz, ?_, fun h => ?_⟩
    · rw [hd]
      rcases hn with h | ⟨h, _⟩
      · rw [h]; rfl
      · rw [h, Bool.and_false]
    · rw [hd] at h; cases h
  · obtain ⟨a, b, _, d⟩ := near_is (c + x) (by omega) (by omega)
    refine ⟨_, add_near c x h0 (by omega) (by omega) (by omega), ?_, fun _ => d⟩
    rw [a, b, Bool.eq_iff_iff, Bool.and_eq_true, decide_eq_true_eq, decide_eq_true_eq, decide_eq_true_eq]
    omega
theorem row_sum (r y : Int) (h0 : 0 ≤ r) (h1 : r ≤ 63) (hl : -9223372036854775808 ≤ y) (hu : y ≤ 9223372036854775807) :
    ∃ z, Ieee.double.add (fl r) (fl y) = some z ∧ (geZ z && ltE z (fl 64)) = decide (0 ≤ r + y ∧ r + y ≤ 63) ∧ (decide (0 ≤ r + y ∧ r + y ≤ 63) = true → floatToIntVal .f64 z .i64 = some (r + y)) := by
  by_cases hx : y < -64 ∨ 64 < y
  · obtain ⟨z, hz, hn⟩ := far_not r y h0 h1 hx hl hu
    have hd : decide (0 ≤ r + y ∧ r + y ≤ 63) = false := decide_eq_false (by omega)
    refine ⟨z, hz, ?_, fun h => ?_⟩
    · rw [hd]
      rcases hn with h | ⟨_, h⟩
      · rw [h]; rfl
      · rw [h, Bool.and_false]
    · rw [hd] at h; cases h
  · obtain ⟨a, _, b, d⟩ := near_is (r + y) (by omega) (by omega)
    refine ⟨_, add_near r y h0 h1 (by omega) (by omega), ?_, fun _ => d⟩
    rw [a, b, Bool.eq_iff_iff, Bool.and_eq_true, decide_eq_true_eq, decide_eq_true_eq, decide_eq_true_eq]
    omega
theorem right_and (c r : Int) : (decide (0 ≤ c ∧ c ≤ 15) && decide (0 ≤ r ∧ r ≤ 63)) = rightB c r := by
  unfold rightB
  rw [Bool.eq_iff_iff, Bool.and_eq_true, decide_eq_true_eq, decide_eq_true_eq, decide_eq_true_eq]
  omega
end Go.Proofs.YteflmfifhmlpiaaDoor
namespace Go.Proofs.YteflmfifhmlpiaaDoor
open Go.RowKit

theorem add_hop {a b c d re im : Nat} (h : cSumBits .add .f64 a b c d = some (re, im)) (t : TypeId) (w : World) :
    (binOp .add t (.complex .f64 a b) (.complex .f64 c d)).run Tryd.prog w = .ok (.complex .f64 re im) w := run_complex_sum w .add (Or.inl rfl) t .f64 a b c d re im h

set_option maxHeartbeats 1000000 in
theorem pmove_no (c r x y : Int) (w : World) (hr : rightB c r = false) :
    Calls Tryd.prog 68 #[.agg #[.int .i64 c, .int .i64 r], .agg #[.int .i64 x, .int .i64 y]] w fun e w' => e = .returned (.tuple #[.agg #[.int .i64 (mvC c r x y), .int .i64 (mvR c r x y)], .bool (mvB c r x y)]) ∧ Below w.heap.size w w' := by
  have HR := Lib.hid (pright_any c r)
  have e0 : mvB c r x y = false := by unfold mvB; rw [hr]; rfl
  have e1 := Lib.hid (show mvC c r x y = 0 from if_neg (by rw [e0]; decide))
  have e2 := Lib.hid (show mvR c r x y = 0 from if_neg (by rw [e0]; decide))
  have e3 := Lib.hid e0
  rw [hr] at HR
  clear hr e0
  go_enter Tryd.func68, Tryd.ntmps68
  go_wp2_with fail
  refine (HR.out _).mono ?_; rintro e w1 ⟨rfl, b1⟩
  have k0 := keep_cell b1 (p := ⟨w.heap.size + 1 + 1, 0, none⟩) (v := .int .i64 0) (by simp [go_sem])
  have k1 := keep_cell b1 (p := ⟨w.heap.size + 1 + 1, 1, none⟩) (v := .int .i64 0) (by simp [go_sem])
  have f0 := keep_frozen b1 (p := ⟨w.heap.size + 1 + 1, 0, none⟩) (by simp) (by simp [go_sem])
  have f1 := keep_frozen b1 (p := ⟨w.heap.size + 1 + 1, 1, none⟩) (by simp) (by simp [go_sem])
  go_wp2_with fail
  have b2 : Below w.heap.size w w1 := ((((Below.refl _ _).alloc (Nat.le_refl _) _).alloc (by simp) _).alloc (by simp; omega) _).trans (b1.mono (by simp; omega))
  exact bodyPost_ret (v := .tuple #[.agg #[.int .i64 0, .int .i64 0], .bool false]) (by simp [results, Tryd.results68, go_sem, k0, k1]) rfl
    ⟨by rw [e1.out, e2.out, e3.out], (b2.setCell (by simp; omega) _).setCell (by simp; omega) _⟩

set_option maxHeartbeats 1000000 in
theorem pmove_yes (c r x y : Int) (w : World) (hr : rightB c r = true) (hx : -9223372036854775808 ≤ x ∧ x ≤ 9223372036854775807) (hy : -9223372036854775808 ≤ y ∧ y ≤ 9223372036854775807) :
    Calls Tryd.prog 68 #[.agg #[.int .i64 c, .int .i64 r], .agg #[.int .i64 x, .int .i64 y]] w fun e w' => e = .returned (.tuple #[.agg #[.int .i64 (mvC c r x y), .int .i64 (mvR c r x y)], .bool (mvB c r x y)]) ∧ Below w.heap.size w w' := by
  have HR := Lib.hid (pright_any c r)
  obtain ⟨c0, c1, r0, r1⟩ := (rightB_iff c r).1 hr
  obtain ⟨a, ha, ha2, ha3⟩ := col_sum c x c0 c1 hx.1 hx.2
  obtain ⟨b, hb, hb2, hb3⟩ := row_sum r y r0 r1 hy.1 hy.2
  have HQ := Lib.hid (placed_any a b _ _ ha2 hb2 (c + x) (r + y) ha3 hb3)
  rw [right_and] at HQ
  have e0 : rightB (c + x) (r + y) = mvB c r x y := by unfold mvB; rw [hr]; rfl
  rw [e0] at HQ
  have e1 := Lib.hid (show mvC c r x y = ifB (mvB c r x y) (c + x) from rfl)
  have e2 := Lib.hid (show mvR c r x y = ifB (mvB c r x y) (r + y) from rfl)
  have hop := add_hop (a := fl c) (b := fl r) (c := fl x) (d := fl y) (re := a) (im := b) (by
    unfold cSumBits floatBits
    show (Ieee.double.add (fl c) (fl x)).bind _ = _
    rw [ha]
    show (Ieee.double.add (fl r) (fl y)).bind _ = _
    rw [hb]
    rfl)
  rw [hr] at HR
  clear hr e0 ha ha2 ha3 hb hb2 hb3 hx hy
  generalize ifB (mvB c r x y) (c + x) = X at *
  generalize ifB (mvB c r x y) (r + y) = Y at *
  generalize mvB c r x y = Z at *
  go_enter Tryd.func68, Tryd.ntmps68
  go_wp2_with fail
  refine (HR.out _).mono ?_; rintro e w1 ⟨rfl, b1⟩
  have k0 := keep_cell b1 (p := ⟨w.heap.size + 1 + 1, 0, none⟩) (v := .int .i64 0) (by simp [go_sem])
  have k1 := keep_cell b1 (p := ⟨w.heap.size + 1 + 1, 1, none⟩) (v := .int .i64 0) (by simp [go_sem])
  have k2 := keep_cell b1 (p := ⟨w.heap.size + 1, 0, none⟩) (v := .int .i64 x) (by simp [go_sem])
  have k3 := keep_cell b1 (p := ⟨w.heap.size + 1, 1, none⟩) (v := .int .i64 y) (by simp [go_sem])
  have k4 := keep_cell b1 (p := ⟨w.heap.size, 0, none⟩) (v := .int .i64 c) (by simp [go_sem])
  have k5 := keep_cell b1 (p := ⟨w.heap.size, 1, none⟩) (v := .int .i64 r) (by simp [go_sem])
  have f0 := keep_frozen b1 (p := ⟨w.heap.size + 1 + 1, 0, none⟩) (by simp) (by simp [go_sem])
  have f1 := keep_frozen b1 (p := ⟨w.heap.size + 1 + 1, 1, none⟩) (by simp) (by simp [go_sem])
  have z1 : w.heap.size + 1 + 1 < w1.heap.size := by have := b1.size; simp at this; omega
  have z2 : w.heap.size + 1 < w1.heap.size := by omega
  have z3 : w.heap.size < w1.heap.size := by omega
  have h1 : Below w.heap.size w w1 := ((((Below.refl _ _).alloc (Nat.le_refl _) _).alloc (by simp) _).alloc (by simp; omega) _).trans (b1.mono (by simp; omega))
  clear b1
  go_wp2_with fail
  go_region_with ((first
    | (go_at_call 84; refine (plane_any _ _ _).mono ?_; rintro e w2 ⟨rfl, rfl⟩)
    | (go_at_call 83; refine (HQ.out _).mono ?_; rintro e w3 ⟨rfl, b3⟩
       have B3 : Below w1.heap.size w1 w3 := (((Below.refl _ w1).drew.alloc (by simp) _).alloc (by simp) _).trans (b3.mono (by simp; omega))
       have m0 := keep_cell B3 k0
       have m1 := keep_cell B3 k1
       have g0 := keep_frozen B3 z1 f0
       have g1 := keep_frozen B3 z1 f1
       have h3 : Below w.heap.size w w3 := h1.trans (B3.mono h1.size))))
  all_goals
    go_wp2
    exact bodyPost_ret (v := .tuple #[.agg #[.int .i64 X, .int .i64 Y], .bool Z]) (by simp [results, Tryd.results68, go_sem, m0, m1]) rfl
      ⟨by rw [e1.out, e2.out], (h3.setCell (by simp; omega) _).setCell (by simp; omega) _⟩

theorem pmove_any (c r x y : Int) (w : World) (hx : -9223372036854775808 ≤ x ∧ x ≤ 9223372036854775807) (hy : -9223372036854775808 ≤ y ∧ y ≤ 9223372036854775807) :
    Calls Tryd.prog 68 #[.agg #[.int .i64 c, .int .i64 r], .agg #[.int .i64 x, .int .i64 y]] w fun e w' => e = .returned (.tuple #[.agg #[.int .i64 (mvC c r x y), .int .i64 (mvR c r x y)], .bool (mvB c r x y)]) ∧ Below w.heap.size w w' := by
  cases hr : rightB c r with
  | true => exact pmove_yes c r x y w hr hx hy
  | false => exact pmove_no c r x y w hr
end Go.Proofs.YteflmfifhmlpiaaDoor
namespace Go.Proofs.YteflmfifhmlpiaaDoor
open Go.RowKit

set_option maxHeartbeats 1000000 in
set_option maxRecDepth 10000 in
theorem preader_any (t : Tr) (w : World) (A : Option Addr) (ca : Nat) :
    Calls Tryd.prog 45 #[tv t A ca] w fun e w' => e = .returned (.bool (rdr t)) ∧ Below w.heap.size w w' := by
  unfold tv
  by_cases h1 : t.kind = 1
  · have e1 : (t.kind == 1) = true := by rw [beq_iff_eq]; exact h1
    have HE : Hid (rdr t = true) := Lib.hid (by unfold rdr; rw [e1]; rfl)
    clear h1
    go_enter Tryd.func45, Tryd.ntmps45
    go_wp2_with fail
    go_ret
    exact ⟨by rw [HE.out]; rfl, (Below.refl _ _).alloc (Nat.le_refl _) _⟩
  · have e1 : (t.kind == 1) = false := by rw [beq_eq_false_iff_ne]; exact h1
    by_cases h6 : t.kind = 6
    · have e6 : (t.kind == 6) = true := by rw [beq_iff_eq]; exact h6
      have HE : Hid (rdr t = true) := Lib.hid (by unfold rdr; rw [e1, e6]; rfl)
      clear h1 h6
      go_enter Tryd.func45, Tryd.ntmps45
      go_wp2_with fail
      go_ret
      exact ⟨by rw [HE.out]; rfl, (Below.refl _ _).alloc (Nat.le_refl _) _⟩
    · have e6 : (t.kind == 6) = false := by rw [beq_eq_false_iff_ne]; exact h6
      have HE : Hid (rdr t = false) := Lib.hid (by unfold rdr; rw [e1, e6]; rfl)
      clear h1 h6
      go_enter Tryd.func45, Tryd.ntmps45
      go_wp2_with fail
      go_ret
      exact ⟨by rw [HE.out]; rfl, (Below.refl _ _).alloc (Nat.le_refl _) _⟩
def B63 (x : Int) : Prop := -9223372036854775808 ≤ x ∧ x ≤ 9223372036854775807
set_option maxHeartbeats 2000000 in
set_option maxRecDepth 10000 in
theorem pon_any (a b c d x y : Int) (hx : B63 x) (hy : B63 y) (w : World) :
    Calls Tryd.prog 46 #[.agg #[.int .i64 a, .int .i64 b, .int .i64 c, .int .i64 d], .agg #[.int .i64 x, .int .i64 y]] w fun e w' =>
      e = .returned (.tuple #[.agg #[.int .i64 (mvC a b x y), .int .i64 (mvR a b x y), .int .i64 (mvC c d x y), .int .i64 (mvR c d x y)], .bool (mvB a b x y && mvB c d x y)]) ∧ Below w.heap.size w w' := by
  have H1 := Lib.hid (fun w => pmove_any a b x y w hx hy)
  have H2 := Lib.hid (fun w => pmove_any c d x y w hx hy)
  generalize mvC a b x y = u1 at *
  generalize mvR a b x y = u2 at *
  generalize mvC c d x y = u3 at *
  generalize mvR c d x y = u4 at *
  generalize mvB a b x y = v1 at *
  generalize mvB c d x y = v2 at *
  clear hx hy
  go_enter Tryd.func46, Tryd.ntmps46
  go_wp2_with fail
  refine (H1.out _).mono ?_; rintro e w1 ⟨rfl, b1⟩
  have k2 : w1.cell? ⟨w.heap.size, 2, none⟩ = some (.int .i64 c) := keep_cell b1 (by simp [go_sem])
  have k3 : w1.cell? ⟨w.heap.size, 3, none⟩ = some (.int .i64 d) := keep_cell b1 (by simp [go_sem])
  have p0 : w1.cell? ⟨w.heap.size + 1, 0, none⟩ = some (.int .i64 x) := keep_cell b1 (by simp [go_sem])
  have p1 : w1.cell? ⟨w.heap.size + 1, 1, none⟩ = some (.int .i64 y) := keep_cell b1 (by simp [go_sem])
  have r0 : w1.cell? ⟨w.heap.size + 1 + 1, 0, none⟩ = some (.int .i64 0) := keep_cell b1 (by simp [go_sem])
  have r1 : w1.cell? ⟨w.heap.size + 1 + 1, 1, none⟩ = some (.int .i64 0) := keep_cell b1 (by simp [go_sem])
  have r2 : w1.cell? ⟨w.heap.size + 1 + 1, 2, none⟩ = some (.int .i64 0) := keep_cell b1 (by simp [go_sem])
  have r3 : w1.cell? ⟨w.heap.size + 1 + 1, 3, none⟩ = some (.int .i64 0) := keep_cell b1 (by simp [go_sem])
  have f0 : w1.frozen? ⟨w.heap.size + 1 + 1, 0, none⟩ = false := keep_frozen b1 (by simp) (by simp [go_sem])
  have f1 : w1.frozen? ⟨w.heap.size + 1 + 1, 1, none⟩ = false := keep_frozen b1 (by simp) (by simp [go_sem])
  have f2 : w1.frozen? ⟨w.heap.size + 1 + 1, 2, none⟩ = false := keep_frozen b1 (by simp) (by simp [go_sem])
  have f3 : w1.frozen? ⟨w.heap.size + 1 + 1, 3, none⟩ = false := keep_frozen b1 (by simp) (by simp [go_sem])
  have h1 : Below w.heap.size w w1 := ((((Below.refl _ _).alloc (Nat.le_refl _) _).alloc (by simp) _).alloc (by simp; omega) _).trans (b1.mono (by simp; omega))
  have z1 : w.heap.size + 1 + 1 < w1.heap.size := by have := b1.size; simp at this; omega
  have za : w.heap.size < w1.heap.size := by omega
  have zb : w.heap.size + 1 < w1.heap.size := by omega
  clear b1
  go_wp2_with fail
  refine (H2.out _).mono ?_; rintro e w2 ⟨rfl, b2⟩
  have s0 := keep_fresh b2 0 (v := .int .i64 u1) rfl
  have s1 := keep_fresh b2 1 (v := .int .i64 u2) rfl
  replace r0 := keep_cell b2 (kc_alloc r0 _)
  replace r1 := keep_cell b2 (kc_alloc r1 _)
  replace r2 := keep_cell b2 (kc_alloc r2 _)
  replace r3 := keep_cell b2 (kc_alloc r3 _)
  replace f0 := keep_frozen b2 (by simp; omega) (kf_alloc f0 z1 _)
  replace f1 := keep_frozen b2 (by simp; omega) (kf_alloc f1 z1 _)
  replace f2 := keep_frozen b2 (by simp; omega) (kf_alloc f2 z1 _)
  replace f3 := keep_frozen b2 (by simp; omega) (kf_alloc f3 z1 _)
  have h2 : Below w.heap.size w w2 := (h1.alloc (by omega) _).trans (b2.mono (by simp; omega))
  have z2 : w1.heap.size < w2.heap.size := by have := b2.size; simp at this; omega
  have n1 : w.heap.size + 1 + 1 ≠ w1.heap.size := by omega
  have n2 : w.heap.size + 1 + 1 < w2.heap.size := by omega
  clear b2 h1 p0 p1 k2 k3
  cases v1
  · go_wp2_with fail
    exact bodyPost_ret (v := .tuple #[.agg #[.int .i64 u1, .int .i64 u2, .int .i64 u3, .int .i64 u4], .bool false]) (by simp [results, Tryd.results46, go_sem, n2, r0, r1, r2, r3]) rfl ⟨rfl, by
      repeat' (first | with_reducible exact h2 | with_reducible refine Below.alloc ?_ (by first | omega | (simp; omega)) _ | with_reducible refine Below.setCell ?_ (by first | omega | (simp; omega)) _)⟩
  · go_wp2_with fail
    exact bodyPost_ret (v := .tuple #[.agg #[.int .i64 u1, .int .i64 u2, .int .i64 u3, .int .i64 u4], .bool v2]) (by simp [results, Tryd.results46, go_sem, n2, r0, r1, r2, r3]) rfl ⟨rfl, by
      repeat' (first | with_reducible exact h2 | with_reducible refine Below.alloc ?_ (by first | omega | (simp; omega)) _ | with_reducible refine Below.setCell ?_ (by first | omega | (simp; omega)) _)⟩
end Go.Proofs.YteflmfifhmlpiaaDoor
