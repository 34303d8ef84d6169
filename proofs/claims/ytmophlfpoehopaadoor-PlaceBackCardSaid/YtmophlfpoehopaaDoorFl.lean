/- Plain facts on float64: small whole numbers are added exactly; what is far off stays far off. -/
import Derived.Laws.ComplexArith
namespace Go.Proofs.YtmophlfpoehopaaDoor
open Ieee

/-- float64's word of an int -/
def fl (n : Int) : Nat := floatOfInt .f64 n

theorem d_binade : double.binade = 4503599627370496 := by decide +kernel
theorem d_least : double.leastPlace = -1074 := by decide +kernel
theorem d_inf : double.infRung = 9218868437227405312 := by decide +kernel
theorem d_sw : double.signWeight = 9223372036854775808 := by decide +kernel

theorem cut_bounds (neg : Bool) (n drop : Nat) (h : drop ≤ n.log2 + 2) : n / 2 ^ drop ≤ Toward.even.cut neg n drop ∧ Toward.even.cut neg n drop ≤ n / 2 ^ drop + 1 := by
  unfold Toward.cut
  simp only [Nat.min_eq_left h, Nat.shiftLeft_eq, Nat.one_mul]
  refine ⟨Nat.le_add_right _ _, Nat.add_le_add_left (Bool.toNat_le _) _⟩

theorem cut_exact (neg : Bool) (n drop : Nat) (h : drop ≤ n.log2 + 2 ∧ n % 2 ^ drop = 0) : Toward.even.cut neg n drop = n / 2 ^ drop := by
  unfold Toward.cut
  have hp : 0 < 2 ^ drop := Nat.two_pow_pos drop
  have e1 : (decide (2 ^ drop < 2 * 0) : Bool) = false := decide_eq_false (by omega)
  have e2 : ((2 ^ drop : Nat) == 2 * 0) = false := by rw [beq_eq_false_iff_ne]; omega
  simp only [Nat.min_eq_left h.1, Nat.shiftLeft_eq, Nat.one_mul, h.2, e1, e2, Bool.false_and, Bool.or_false, Bool.toNat_false, Nat.add_zero]

/-- what is kept of a number has 53 digits, or is the least number of 54 -/
theorem kept_bounds (neg : Bool) (mag : Nat) (h : mag ≠ 0) :
    4503599627370496 ≤ Toward.even.cut neg (mag <<< (52 - mag.log2)) (mag.log2 - 52) ∧ Toward.even.cut neg (mag <<< (52 - mag.log2)) (mag.log2 - 52) ≤ 9007199254740992 := by
  have h1 := Nat.log2_self_le h
  have h2 := Nat.lt_log2_self (n := mag)
  obtain ⟨L, hL⟩ : ∃ L, L = mag.log2 := ⟨_, rfl⟩
  rw [← hL] at h1 h2
  by_cases hc : L ≤ 52
  · have e0 : mag.log2 - 52 = 0 := by omega
    rw [e0, ← hL]
    obtain ⟨c1, c2⟩ := cut_bounds neg (mag <<< (52 - L)) 0 (by omega)
    rw [Nat.pow_zero, Nat.div_one, Nat.shiftLeft_eq] at c1 c2
    rw [Nat.shiftLeft_eq]
    have p1 : 2 ^ L * 2 ^ (52 - L) = 2 ^ 52 := by rw [← Nat.pow_add]; congr 1; omega
    have p2 : 2 ^ (L + 1) * 2 ^ (52 - L) = 2 ^ 53 := by rw [← Nat.pow_add]; congr 1; omega
    have q1 := Nat.mul_le_mul_right (2 ^ (52 - L)) h1
    have q2 := Nat.mul_lt_mul_of_pos_right h2 (Nat.two_pow_pos (52 - L))
    rw [p1] at q1
    rw [p2] at q2
    have r1 : (2 : Nat) ^ 52 = 4503599627370496 := by decide
    have r2 : (2 : Nat) ^ 53 = 9007199254740992 := by decide
    omega
  · have e0 : 52 - mag.log2 = 0 := by omega
    rw [e0, Nat.shiftLeft_zero]
    obtain ⟨c1, c2⟩ := cut_bounds neg mag (mag.log2 - 52) (by omega)
    rw [← hL] at c1 c2 ⊢
    have p1 : 2 ^ L = 2 ^ 52 * 2 ^ (L - 52) := by rw [← Nat.pow_add]; congr 1; omega
    have p2 : 2 ^ (L + 1) = 2 ^ 53 * 2 ^ (L - 52) := by rw [← Nat.pow_add]; congr 1; omega
    rw [p1] at h1
    rw [p2] at h2
    have q1 := (Nat.le_div_iff_mul_le (Nat.two_pow_pos (L - 52))).2 h1
    have q2 := (Nat.div_lt_iff_lt_mul (Nat.two_pow_pos (L - 52))).2 h2
    have r1 : (2 : Nat) ^ 52 = 4503599627370496 := by decide
    have r2 : (2 : Nat) ^ 53 = 9007199254740992 := by decide
    omega

theorem word_neg (neg : Bool) (r : Nat) (h : r < 9218868437227405312) : (double.word neg r / 9223372036854775808 % 2 == 1) = neg := by
  cases neg
  · show (r / 9223372036854775808 % 2 == 1) = false
    rw [beq_eq_false_iff_ne]; omega
  · show ((double.signWeight + r) / 9223372036854775808 % 2 == 1) = true
    rw [beq_iff_eq, d_sw]; omega
theorem word_mod (neg : Bool) (r : Nat) (h : r < 9218868437227405312) : double.word neg r % 9223372036854775808 = r := by
  cases neg
  · show r % 9223372036854775808 = r
    omega
  · show (double.signWeight + r) % 9223372036854775808 = r
    rw [d_sw]; omega
theorem read_word (neg : Bool) (r : Nat) (h1 : 4503599627370496 ≤ r) (h2 : r < 9218868437227405312) :
    double.read (double.word neg r) = .number neg (4503599627370496 + r % 4503599627370496) (-1074 + (r / 4503599627370496 - 1 : Nat)) := by
  have hneg := word_neg neg r h2
  have hmod := word_mod neg r h2
  unfold Format.read
  simp only [d_sw, d_binade, d_inf, d_least, hneg, hmod]
  rw [if_neg (by omega), if_pos h2]
theorem parts_of (B kept : Nat) (k1 : 4503599627370496 ≤ kept) (k2 : kept ≤ 9007199254740992) (hB : B ≤ 2022) :
    4503599627370496 ≤ B * 4503599627370496 + kept ∧ B * 4503599627370496 + kept < 9218868437227405312 ∧ B + 1 ≤ (B * 4503599627370496 + kept) / 4503599627370496 ∧ (B * 4503599627370496 + kept) / 4503599627370496 ≤ B + 2 := by
  omega
/-- what is read of the word nearest to a number -/
theorem nearest_read (neg : Bool) (mag : Nat) (place E : Int) (h : mag ≠ 0) (hE : E = place + mag.log2) (h0 : -1022 ≤ E) (h1 : E ≤ 1000) :
    ∃ (m : Nat) (p : Int), double.read (double.nearest neg mag place) = .number neg m p ∧ 4503599627370496 ≤ m ∧ m < 9007199254740992 ∧ E - 52 ≤ p ∧ p ≤ E - 51 := by
  obtain ⟨k1, k2⟩ := kept_bounds neg mag h
  obtain ⟨L, hL⟩ : ∃ L : Nat, L = mag.log2 := ⟨_, rfl⟩
  rw [← hL] at hE k1 k2
  obtain ⟨kept, hk⟩ : ∃ kept, kept = Toward.even.cut neg (mag <<< (52 - L)) (L - 52) := ⟨_, rfl⟩
  rw [← hk] at k1 k2
  have e1 : max (place + (L : Int) - (double.fractionBits : Int)) (-1074) = E - 52 := by
    clear hk hL
    show max (place + (L : Int) - 52) (-1074) = _; omega
  have e2 : (place - (E - 52)).toNat = 52 - L := by clear hk hL; omega
  have e3 : ((E - 52) - place).toNat = L - 52 := by clear hk hL; omega
  obtain ⟨B, hB⟩ : ∃ B : Nat, (B : Int) = E + 1022 := ⟨(E + 1022).toNat, by clear hk hL; omega⟩
  have e4 : (E - 52 - -1074).toNat = B := by clear hk hL; omega
  have hBu : B ≤ 2022 := by clear hk hL; omega
  obtain ⟨g1, g2, g3, g4⟩ := parts_of B kept k1 k2 hBu
  have hn : double.nearest neg mag place = double.word neg (B * 4503599627370496 + kept) := by
    unfold Format.nearest
    rw [if_neg h]
    dsimp only
    rw [d_least, ← hL, e1, e2, e3, ← hk, d_binade, d_inf, e4, Nat.min_eq_left (Nat.le_of_lt g2)]
  rw [hn, read_word neg _ g1 g2]
  obtain ⟨r, hr⟩ : ∃ r, r = B * 4503599627370496 + kept := ⟨_, rfl⟩
  rw [← hr] at g1 g2 g3 g4 ⊢
  clear hk hL hn hr k1 k2 e1 e2 e3 e4
  exact ⟨_, _, rfl, Nat.le_add_right _ _, by omega, by omega, by omega⟩

/-- the words of small whole numbers -/
theorem fl_small : ∀ c : Fin 64, double.read (fl (c.val : Int)) = .number false 0 (-1074) ∧ c.val = 0 ∨
    ∃ L : Fin 6, double.read (fl (c.val : Int)) = .number false (c.val * 2 ^ (52 - L.val)) ((L.val : Int) - 52) ∧ 2 ^ L.val ≤ c.val ∧ c.val < 2 ^ (L.val + 1) := by decide +kernel

theorem fl_is (n : Int) : fl n = double.nearest (decide (n < 0)) n.natAbs 0 := rfl

theorem signed_false (m k : Nat) : signed false m k = ((m * 2 ^ k : Nat) : Int) := by
  unfold signed; rw [Nat.shiftLeft_eq]; rfl
theorem signed_true (m k : Nat) : signed true m k = -((m * 2 ^ k : Nat) : Int) := by
  unfold signed; rw [Nat.shiftLeft_eq]; rfl

/-- a sum with a number that is far off: its sign is that one's -/
theorem sum_far (mc m : Nat) (pc p : Int) (s : Bool) (hm : 4503599627370496 ≤ m) (hm2 : m < 9007199254740992) (hp : -46 ≤ p) (hp2 : p ≤ 13)
    (hc : mc = 0 ∧ pc = -1074 ∨ mc < 9007199254740992 ∧ -52 ≤ pc ∧ pc ≤ -47) :
    ∃ z, ((Datum.number false mc pc).sum (.number s m p)).map double.write = some z ∧ ∃ (m' : Nat) (p' : Int), double.read z = .number s m' p' ∧ 4503599627370496 ≤ m' ∧ (s = false → -46 ≤ p') := by
  have hb : min pc p = pc := by omega
  obtain ⟨k, hk⟩ : ∃ k : Nat, (k : Int) = p - pc := ⟨(p - pc).toNat, by omega⟩
  have e0 : (p - pc).toNat = k := by omega
  have e1 : (pc - pc).toNat = 0 := by omega
  have k1 : 1 ≤ k := by omega
  have hpow : 2 ≤ 2 ^ k := by
    have := Nat.pow_le_pow_right (n := 2) (by decide) k1
    simpa using this
  have hbig : mc < m * 2 ^ k := by
    have h2 : 9007199254740992 ≤ m * 2 ^ k := by
      have := Nat.mul_le_mul hm hpow
      omega
    rcases hc with ⟨rfl, _⟩ | ⟨h3, _⟩ <;> omega
  obtain ⟨X, hX⟩ : ∃ X, X = m * 2 ^ k := ⟨_, rfl⟩
  have hsum : (Datum.number false mc pc).sum (.number s m p) = some (.number s (if s = true then X - mc else mc + X) pc) := by
    unfold Datum.sum
    simp only [hb, e0, e1]
    cases s
    · rw [signed_false, signed_false, ← hX, Nat.pow_zero, Nat.mul_one]
      have t0 : (mc : Int) + (X : Int) ≠ 0 := by omega
      have t1 : ¬ ((mc : Int) + (X : Int) < 0) := by omega
      have t2 : ((mc : Int) + (X : Int)).natAbs = mc + X := by omega
      simp [t0, t1, t2]
    · rw [signed_false, signed_true, ← hX, Nat.pow_zero, Nat.mul_one]
      have t0 : (mc : Int) + -(X : Int) ≠ 0 := by omega
      have t1 : (mc : Int) + -(X : Int) < 0 := by omega
      have t2 : ((mc : Int) + -(X : Int)).natAbs = X - mc := by omega
      simp [t0, t1, t2]
  rw [hsum]
  refine ⟨_, rfl, ?_⟩
  have hX1 : 2 ^ (52 + k) ≤ X := by
    rw [hX, Nat.pow_add]
    exact Nat.mul_le_mul_right _ hm
  have hX2 : X < 2 ^ (53 + k) := by
    rw [hX, Nat.pow_add]
    exact Nat.mul_lt_mul_of_pos_right hm2 (Nat.two_pow_pos k)
  have hd : (2 : Nat) ^ (54 + k) = 2 ^ (53 + k) + 2 ^ (53 + k) := by
    rw [show 54 + k = (53 + k) + 1 by omega, Nat.pow_succ]; omega
  cases s
  · have hne : mc + X ≠ 0 := by omega
    have l1 : 52 + k ≤ (mc + X).log2 := (Nat.le_log2 hne).2 (by omega)
    have l2 : (mc + X).log2 < 54 + k := (Nat.log2_lt hne).2 (by omega)
    obtain ⟨m', p', hr, g1, _, g3, _⟩ := nearest_read false (mc + X) pc (pc + (mc + X).log2) hne rfl (by omega) (by omega)
    exact ⟨m', p', hr, g1, fun _ => by omega⟩
  · have hne : X - mc ≠ 0 := by omega
    have l2 : (X - mc).log2 < 54 + k := (Nat.log2_lt hne).2 (by omega)
    have l0 : -1022 ≤ pc + ((X - mc).log2 : Int) := by
      rcases hc with ⟨rfl, h3⟩ | ⟨_, h3, _⟩
      · have l1 : 52 + k ≤ (X - 0).log2 := (Nat.le_log2 hne).2 (by omega)
        omega
      · omega
    obtain ⟨m', p', hr, g1, _, _, _⟩ := nearest_read true (X - mc) pc (pc + (X - mc).log2) hne rfl l0 (by omega)
    exact ⟨m', p', hr, g1, fun h => by cases h⟩

theorem log2_of {n : Nat} (h0 : 64 ≤ n) (h1 : n ≤ 9223372036854775808) : 6 ≤ n.log2 ∧ n.log2 ≤ 63 := by
  have hne : n ≠ 0 := by omega
  have a := (Nat.le_log2 (k := 6) hne).2 (by show 64 ≤ n; omega)
  have b := (Nat.log2_lt (k := 64) hne).2 (by show n < 18446744073709551616; omega)
  omega

/-- a number of the sheet and one far off: the sum is far off -/
theorem add_far (c x : Int) (h0 : 0 ≤ c) (h1 : c ≤ 63) (hx : x < -64 ∨ 64 < x) (hl : -9223372036854775808 ≤ x) (hu : x ≤ 9223372036854775807) :
    ∃ z, double.add (fl c) (fl x) = some z ∧ ∃ (m : Nat) (p : Int), double.read z = .number (decide (x < 0)) m p ∧ 4503599627370496 ≤ m ∧ (0 ≤ x → -46 ≤ p) := by
  obtain ⟨l1, l2⟩ := log2_of (n := x.natAbs) (by omega) (by omega)
  obtain ⟨m, p, hr, g1, g2, g3, g4⟩ := nearest_read (decide (x < 0)) x.natAbs 0 (0 + x.natAbs.log2) (by omega) rfl (by omega) (by omega)
  have hs := fl_small ⟨c.toNat, by omega⟩
  have ec : ((c.toNat : Nat) : Int) = c := by omega
  simp only [ec] at hs
  unfold Format.add
  rw [fl_is x, hr]
  rcases hs with ⟨hc, _⟩ | ⟨L, hc, b1, b2⟩
  · rw [hc]
    obtain ⟨z, hz, m', p', q1, q2, q3⟩ := sum_far 0 m (-1074) p (decide (x < 0)) g1 g2 (by omega) (by omega) (.inl ⟨rfl, rfl⟩)
    exact ⟨z, hz, m', p', q1, q2, fun h => q3 (decide_eq_false (by omega))⟩
  · rw [hc]
    have hL := L.isLt
    have hmc : c.toNat * 2 ^ (52 - L.val) < 9007199254740992 := by
      have := Nat.mul_lt_mul_of_pos_right b2 (Nat.two_pow_pos (52 - L.val))
      rw [← Nat.pow_add, show L.val + 1 + (52 - L.val) = 53 by omega] at this
      exact this
    obtain ⟨z, hz, m', p', q1, q2, q3⟩ := sum_far (c.toNat * 2 ^ (52 - L.val)) m ((L.val : Int) - 52) p (decide (x < 0)) g1 g2 (by omega) (by omega) (.inr ⟨hmc, by omega, by omega⟩)
    exact ⟨z, hz, m', p', q1, q2, fun h => q3 (decide_eq_false (by omega))⟩

/-- one number, written with more digits, has one word -/
theorem nearest_scale (neg : Bool) (t k : Nat) (h0 : t ≠ 0) (h1 : t < 128) : double.nearest neg (t * 2 ^ k) (-(k : Int)) = double.nearest neg t 0 := by
  have hp : 0 < 2 ^ k := Nat.two_pow_pos k
  have hne : t * 2 ^ k ≠ 0 := Nat.mul_ne_zero h0 (by omega)
  have a1 := Nat.log2_self_le h0
  have a2 := Nat.lt_log2_self (n := t)
  have hl : (t * 2 ^ k).log2 = t.log2 + k := by
    have u1 : t.log2 + k ≤ (t * 2 ^ k).log2 := (Nat.le_log2 hne).2 (by rw [Nat.pow_add]; exact Nat.mul_le_mul_right _ a1)
    have u2 : (t * 2 ^ k).log2 < t.log2 + k + 1 := (Nat.log2_lt hne).2 (by
      rw [show t.log2 + k + 1 = (t.log2 + 1) + k by omega, Nat.pow_add]; exact Nat.mul_lt_mul_of_pos_right a2 hp)
    omega
  have hL : t.log2 < 7 := (Nat.log2_lt h0).2 h1
  obtain ⟨L, hLe⟩ : ∃ L, L = t.log2 := ⟨_, rfl⟩
  rw [← hLe] at hl hL
  have e1 : max (-(k : Int) + ((L + k : Nat) : Int) - (double.fractionBits : Int)) (-1074) = (L : Int) - 52 := by
    show max (-(k : Int) + ((L + k : Nat) : Int) - 52) (-1074) = _; omega
  have e2 : max ((0 : Int) + (L : Int) - (double.fractionBits : Int)) (-1074) = (L : Int) - 52 := by
    show max ((0 : Int) + (L : Int) - 52) (-1074) = _; omega
  have hc : Toward.even.cut neg ((t * 2 ^ k) <<< (-(k : Int) - ((L : Int) - 52)).toNat) (((L : Int) - 52) - -(k : Int)).toNat = Toward.even.cut neg (t <<< ((0 : Int) - ((L : Int) - 52)).toNat) (((L : Int) - 52) - 0).toNat := by
    have z1 : ((0 : Int) - ((L : Int) - 52)).toNat = 52 - L := by omega
    have z2 : (((L : Int) - 52) - 0).toNat = 0 := by omega
    rw [z1, z2, cut_exact neg (t <<< (52 - L)) 0 ⟨Nat.zero_le _, Nat.mod_one _⟩, Nat.pow_zero, Nat.div_one, Nat.shiftLeft_eq]
    by_cases hk : k ≤ 52 - L
    · have z3 : (-(k : Int) - ((L : Int) - 52)).toNat = 52 - L - k := by omega
      have z4 : (((L : Int) - 52) - -(k : Int)).toNat = 0 := by omega
      rw [z3, z4, cut_exact neg _ 0 ⟨Nat.zero_le _, Nat.mod_one _⟩, Nat.pow_zero, Nat.div_one, Nat.shiftLeft_eq, Nat.mul_assoc, ← Nat.pow_add]
      congr 2
      omega
    · have z3 : (-(k : Int) - ((L : Int) - 52)).toNat = 0 := by omega
      obtain ⟨d, hd⟩ : ∃ d, d = k - (52 - L) := ⟨_, rfl⟩
      have z4 : (((L : Int) - 52) - -(k : Int)).toNat = d := by omega
      have z5 : t * 2 ^ k = t * 2 ^ (52 - L) * 2 ^ d := by
        rw [Nat.mul_assoc, ← Nat.pow_add]; congr 2; omega
      have hd2 : d ≤ (t * 2 ^ k).log2 + 2 := by omega
      have z6 : (t * 2 ^ k) % 2 ^ d = 0 := by rw [z5]; exact Nat.mul_mod_left _ _
      rw [z3, z4, Nat.pow_zero, Nat.mul_one, cut_exact neg _ d ⟨hd2, z6⟩, z5, Nat.mul_div_cancel _ (Nat.two_pow_pos d), Nat.shiftLeft_eq]
  unfold Format.nearest
  rw [if_neg hne, if_neg h0]
  dsimp only
  rw [d_least, hl, ← hLe, e1, e2, hc]

/-- the words of small numbers -/
theorem fl_near_all : ∀ x : Fin 129, double.read (fl ((x.val : Int) - 64)) = .number (decide ((x.val : Int) - 64 < 0)) (((x.val : Int) - 64).natAbs * 2 ^ (if x.val = 64 then 1074 else 52 - ((x.val : Int) - 64).natAbs.log2)) (-((if x.val = 64 then 1074 else 52 - ((x.val : Int) - 64).natAbs.log2 : Nat) : Int)) := by decide +kernel
theorem fl_near (x : Int) (h0 : -64 ≤ x) (h1 : x ≤ 64) : ∃ k : Nat, double.read (fl x) = .number (decide (x < 0)) (x.natAbs * 2 ^ k) (-(k : Int)) := by
  have h := fl_near_all ⟨(x + 64).toNat, by omega⟩
  have e : (((x + 64).toNat : Nat) : Int) - 64 = x := by omega
  simp only [e] at h
  exact ⟨_, h⟩
theorem signed_is (x : Int) (k d : Nat) : signed (decide (x < 0)) (x.natAbs * 2 ^ k) d = x * ((2 ^ (k + d) : Nat) : Int) := by
  by_cases h : x < 0
  · rw [decide_eq_true h, signed_true, Nat.mul_assoc, ← Nat.pow_add, Int.natCast_mul]
    have : (x.natAbs : Int) = -x := by omega
    rw [this, Int.neg_mul, Int.neg_neg]
  · rw [decide_eq_false h, signed_false, Nat.mul_assoc, ← Nat.pow_add, Int.natCast_mul]
    have : (x.natAbs : Int) = x := by omega
    rw [this]
/-- small numbers are added exactly -/
theorem add_near (c x : Int) (h0 : 0 ≤ c) (h1 : c ≤ 63) (x0 : -64 ≤ x) (x1 : x ≤ 64) : double.add (fl c) (fl x) = some (fl (c + x)) := by
  obtain ⟨k, hk⟩ := fl_near c (by omega) (by omega)
  obtain ⟨l, hl⟩ := fl_near x x0 x1
  obtain ⟨K, hK⟩ : ∃ K, K = max k l := ⟨_, rfl⟩
  have hb : min (-(k : Int)) (-(l : Int)) = -(K : Int) := by omega
  have d1 : (-(k : Int) - -(K : Int)).toNat = K - k := by omega
  have d2 : (-(l : Int) - -(K : Int)).toNat = K - l := by omega
  have s1 : k + (K - k) = K := by omega
  have s2 : l + (K - l) = K := by omega
  have hc : decide (c < 0) = false := decide_eq_false (by omega)
  have hP : (0 : Int) < ((2 ^ K : Nat) : Int) := by have := Nat.two_pow_pos K; omega
  have hsum : (Datum.number (decide (c < 0)) (c.natAbs * 2 ^ k) (-(k : Int))).sum (.number (decide (x < 0)) (x.natAbs * 2 ^ l) (-(l : Int))) = some (.number (decide (c + x < 0)) ((c + x).natAbs * 2 ^ K) (-(K : Int))) := by
    unfold Datum.sum
    simp only [hb, d1, d2, signed_is, s1, s2, ← Int.add_mul]
    have hz : (if (c + x) * ((2 ^ K : Nat) : Int) = 0 then decide (c < 0) && decide (x < 0) else decide ((c + x) * ((2 ^ K : Nat) : Int) < 0)) = decide (c + x < 0) := by
      by_cases hz : c + x = 0
      · rw [hz, Int.zero_mul, if_pos rfl, hc]; rfl
      · have hz2 : (c + x) * ((2 ^ K : Nat) : Int) ≠ 0 := Int.mul_ne_zero hz (by omega)
        rw [if_neg hz2]
        refine decide_eq_decide.2 ⟨fun h => ?_, fun h => Int.mul_neg_of_neg_of_pos h hP⟩
        exact Int.not_le.1 fun hge => absurd (Int.mul_nonneg hge (Int.le_of_lt hP)) (by omega)
    rw [hz, Int.natAbs_mul, Int.natAbs_natCast]
  unfold Format.add
  rw [hk, hl, hsum]
  refine congrArg some ?_
  rw [fl_is (c + x)]
  show double.nearest _ _ _ = _
  by_cases hz : (c + x).natAbs = 0
  · have : c + x = 0 := by omega
    rw [this]
    have hz0 : (0 : Int).natAbs * 2 ^ K = 0 := by rw [Int.natAbs_zero, Nat.zero_mul]
    rw [hz0]
    unfold Format.nearest
    rw [if_pos rfl, if_pos Int.natAbs_zero]
  · exact nearest_scale _ _ K hz (by omega)

/-- at least 0? -/
def geZ (z : Nat) : Bool := double.order z 0 == some .gt || double.order z 0 == some .eq
/-- below 16? below 64? -/
def ltE (z e : Nat) : Bool := double.order z e == some .lt

theorem near_all : ∀ t : Fin 192, geZ (fl ((t.val : Int) - 64)) = decide (64 ≤ t.val) ∧ ltE (fl ((t.val : Int) - 64)) (fl 16) = decide (t.val < 80) ∧ ltE (fl ((t.val : Int) - 64)) (fl 64) = decide (t.val < 128) ∧
    floatToIntVal .f64 (fl ((t.val : Int) - 64)) .i64 = some ((t.val : Int) - 64) := by decide +kernel
theorem near_is (t : Int) (h0 : -64 ≤ t) (h1 : t ≤ 127) : geZ (fl t) = decide (0 ≤ t) ∧ ltE (fl t) (fl 16) = decide (t < 16) ∧ ltE (fl t) (fl 64) = decide (t < 64) ∧ floatToIntVal .f64 (fl t) .i64 = some t := by
  have h := near_all ⟨(t + 64).toNat, by omega⟩
  have e : (((t + 64).toNat : Nat) : Int) - 64 = t := by omega
  simp only [e] at h
  obtain ⟨a, b, c, d⟩ := h
  refine ⟨a.trans (decide_eq_decide.2 (by omega)), b.trans (decide_eq_decide.2 (by omega)), c.trans (decide_eq_decide.2 (by omega)), d⟩

theorem fl0 : double.read 0 = .number false 0 (-1074) := by decide +kernel
theorem fl16 : double.read (fl 16) = .number false 4503599627370496 (-48) := by decide +kernel
theorem fl64 : double.read (fl 64) = .number false 4503599627370496 (-46) := by decide +kernel

theorem far_low {z m : Nat} {p : Int} (h : double.read z = .number true m p) (hm : 4503599627370496 ≤ m) : geZ z = false := by
  have : double.order z 0 = some .lt := by
    unfold Format.order
    rw [h, fl0]
    unfold Datum.order
    simp only [signed_true, signed_false]
    congr 1
    rw [Int.compare_eq_lt]
    have : 0 < m * 2 ^ (p - min p (-1074)).toNat := Nat.mul_pos (by omega) (Nat.two_pow_pos _)
    omega
  unfold geZ
  rw [this]
  rfl
theorem far_high {z m : Nat} {p q : Int} {e : Nat} (h : double.read z = .number false m p) (hm : 4503599627370496 ≤ m) (hp : q ≤ p) (he : double.read e = .number false 4503599627370496 q) : ltE z e = false := by
  have : double.order z e ≠ some .lt := by
    unfold Format.order
    rw [h, he]
    unfold Datum.order
    simp only [signed_false]
    have hb : min p q = q := by omega
    have e1 : (q - q).toNat = 0 := by omega
    rw [hb, e1, Nat.pow_zero, Nat.mul_one]
    intro hc
    have hc := Option.some.inj hc
    rw [Int.compare_eq_lt] at hc
    have : m ≤ m * 2 ^ (p - q).toNat := Nat.le_mul_of_pos_right _ (Nat.two_pow_pos _)
    omega
  unfold ltE
  exact beq_eq_false_iff_ne.2 this
/-- a sum that is far off is on no sheet -/
theorem far_not (c x : Int) (h0 : 0 ≤ c) (h1 : c ≤ 63) (hx : x < -64 ∨ 64 < x) (hl : -9223372036854775808 ≤ x) (hu : x ≤ 9223372036854775807) :
    ∃ z, double.add (fl c) (fl x) = some z ∧ (geZ z = false ∨ ltE z (fl 16) = false ∧ ltE z (fl 64) = false) := by
  obtain ⟨z, hz, m, p, hr, hm, hp⟩ := add_far c x h0 h1 hx hl hu
  refine ⟨z, hz, ?_⟩
  by_cases hn : x < 0
  · rw [decide_eq_true hn] at hr
    exact .inl (far_low hr hm)
  · rw [decide_eq_false hn] at hr
    have := hp (by omega)
    exact .inr ⟨far_high hr hm (by omega) fl16, far_high hr hm (by omega) fl64⟩
end Go.Proofs.YtmophlfpoehopaaDoor
