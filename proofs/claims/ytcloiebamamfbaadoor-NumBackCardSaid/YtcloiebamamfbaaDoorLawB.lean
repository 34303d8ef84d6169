/- The walk of the statement that goes back again. -/
import Derived.Test.YtcloiebamamfbaaDoorLawA
import Derived.Deep.CutRange
namespace Go.Proofs.YtcloiebamamfbaaDoor
open Go.RowKit

set_option maxHeartbeats 2000000 in
set_option maxRecDepth 100000 in
theorem back_core (a b c e f h i j k : Int) (p r s u v : Bool) (hb : B64 b) (hk : B64 k)
    (H1 : ∀ w, Calls Tryd.prog 6 #[.int .i64 a, .int .i64 b] w fun x w' => x = .returned (.tuple #[.int .i64 c, .bool p]) ∧ Below w.heap.size w w')
    (H2 : ∀ w, Calls Tryd.prog 6 #[.int .i64 b, .int .i64 a] w fun x w' => x = .returned (.tuple #[.int .i64 c, .bool p]) ∧ Below w.heap.size w w')
    (H3 : ∀ w, Calls Tryd.prog 8 #[.int .i64 c, .int .i64 b] w fun x w' => x = .returned (.tuple #[.int .i64 e, .bool r]) ∧ Below w.heap.size w w')
    (h3 : p = true → r = true ∧ e = a)
    (H4 : ∀ w, Calls Tryd.prog 10 #[.int .i64 a, .int .i64 b] w fun x w' => x = .returned (.tuple #[.int .i64 f, .bool s]) ∧ Below w.heap.size w w')
    (H5 : ∀ w, Calls Tryd.prog 10 #[.int .i64 b, .int .i64 a] w fun x w' => x = .returned (.tuple #[.int .i64 f, .bool s]) ∧ Below w.heap.size w w')
    (H6 : ∀ w, Calls Tryd.prog 12 #[.int .i64 f, .int .i64 b] w fun x w' => x = .returned (.tuple #[.int .i64 h, .bool u]) ∧ Below w.heap.size w w')
    (h6 : s = true → b ≠ 0 → u = true ∧ h = a)
    (H7 : ∀ w, Calls Tryd.prog 12 #[.int .i64 a, .int .i64 b] w fun x w' => x = .returned (.tuple #[.int .i64 i, .bool v]) ∧ Below w.heap.size w w')
    (h7 : v = false → b = 0 ∨ b = -1)
    (H8 : v = true → ∀ w, Calls Tryd.prog 10 #[.int .i64 i, .int .i64 b] w fun x w' => x = .returned (.tuple #[.int .i64 j, .bool true]) ∧ Below w.heap.size w w')
    (H9 : v = true → ∀ w, Calls Tryd.prog 8 #[.int .i64 a, .int .i64 j] w fun x w' => x = .returned (.tuple #[.int .i64 k, .bool true]) ∧ Below w.heap.size w w')
    (h9 : v = true → k ≠ 0 → (k < 0 ↔ a < 0))
    (h10 : v = true → (0 < b → k < b ∧ -b < k) ∧ (b < 0 → b < k ∧ (0 < k → b < -k)) ∧ b ≠ 0)
    (w : World) (hE : Env w) :
    Calls Tryd.prog 5 #[.int .i64 a, .int .i64 b] w fun x w' => x = .returned (.bool true) ∧ Below w.heap.size w w' := by
  have G1 := Lib.hid H1
  have G2 := Lib.hid H2
  have G3 := Lib.hid H3
  have g3 := Lib.hid h3
  have G4 := Lib.hid H4
  have G5 := Lib.hid H5
  have G6 := Lib.hid H6
  have g6 := Lib.hid h6
  have G7 := Lib.hid H7
  have g7 := Lib.hid h7
  have G8 := Lib.hid H8
  have G9 := Lib.hid H9
  have g9 := Lib.hid h9
  have g10 := Lib.hid h10
  have HE := Lib.hid hE
  clear H1 H2 H3 h3 H4 H5 H6 h6 H7 h7 H8 H9 h9 h10 hE
  go_enter Tryd.func5, Tryd.ntmps5
  go_wp2_with fail
  refine (G1.out _).mono ?_; rintro x w1 ⟨rfl, b1⟩
  go_wp2_with fail
  refine (G2.out _).mono ?_; rintro x w2 ⟨rfl, h2⟩
  have b2 := b1.trans (h2.mono b1.size)
  clear b1 h2
  go_wp2_with fail
  refine (G3.out _).mono ?_; rintro x w3 ⟨rfl, h3⟩
  have b3 := b2.trans (h3.mono b2.size)
  clear b2 h3
  go_upto_region 4 with fail
  go_cut [61] from 42 to 61 (fun s61 wx => s61 = .bool false ∧ w3 = wx)
  case first =>
    cases p with
    | true =>
      obtain ⟨rfl, rfl⟩ := g3.out (by trivial)
      go_wp2_with fail
      go_meet
      exact ⟨rfl, rfl⟩
    | false =>
      go_wp2_with fail
      go_meet
      exact ⟨rfl, rfl⟩
  case rest =>
    obtain ⟨rfl, rfl⟩ := hcut
    go_wp2_with fail
    refine (G4.out _).mono ?_; rintro x w4 ⟨rfl, h4⟩
    have b4 := b3.trans (h4.mono b3.size)
    clear b3 h4
    go_wp2_with fail
    refine (G5.out _).mono ?_; rintro x w5 ⟨rfl, h5⟩
    have b5 := b4.trans (h5.mono b4.size)
    clear b4 h5
    go_wp2_with fail
    refine (G6.out _).mono ?_; rintro x w6 ⟨rfl, h6⟩
    have b6 := b5.trans (h6.mono b5.size)
    clear b5 h6
    go_upto_region 9 with fail
    go_cut [103] from 80 to 103 (fun s103 wx => s103 = .bool false ∧ w6 = wx)
    case first =>
      cases s with
      | true =>
        by_cases h0 : b = 0
        · have hz : (b != 0) = false := by simp [h0]
          clear h0
          go_wp2_with fail
          go_meet
          exact ⟨rfl, rfl⟩
        · have hz : (b != 0) = true := by simpa using h0
          obtain ⟨rfl, rfl⟩ := g6.out (by trivial) h0
          clear h0
          go_wp2_with fail
          go_meet
          exact ⟨rfl, rfl⟩
      | false =>
        go_wp2_with fail
        go_meet
        exact ⟨rfl, rfl⟩
    case rest =>
      obtain ⟨rfl, rfl⟩ := hcut
      go_wp2_with fail
      refine (G7.out _).mono ?_; rintro x w7 ⟨rfl, h7⟩
      have b7 := b6.trans (h7.mono b6.size)
      clear b6 h7
      have HE7 := Lib.hid (HE.out.below b7)
      cases v with
      | false =>
        go_wp2_with fail
        refine (alive_any _ HE7.out).mono ?_; rintro x w8 ⟨rfl, h8⟩
        have b8 := b7.trans (h8.mono b7.size)
        clear b7 h8
        rcases g7.out (by trivial) with h0 | h0
        · have hz : (b == 0) = true := by simpa using h0
          clear h0
          go_wp2_with fail
          go_ret
          exact ⟨rfl, b8⟩
        · have hz : (b == 0) = false := by subst h0; rfl
          have hy : (b == -1) = true := by simpa using h0
          clear h0
          go_wp2_with fail
          go_ret
          exact ⟨rfl, b8⟩
      | true =>
        go_wp2_with fail
        refine (G8.out (by trivial) _).mono ?_; rintro x w8 ⟨rfl, h8⟩
        have b8 := b7.trans (h8.mono b7.size)
        clear b7 h8
        go_wp2_with fail
        refine (G9.out (by trivial) _).mono ?_; rintro x w9 ⟨rfl, h9⟩
        have b9 := b8.trans (h9.mono b8.size)
        clear b8 h9
        have HE9 := Lib.hid (HE.out.below b9)
        go_upto_region 16 with fail
        go_cut [149] from 133 to 149 (fun s149 wx => s149 = .bool false ∧ w9 = wx)
        case first =>
          by_cases hk0 : k = 0
          · have hz : (k != 0) = false := by simp [hk0]
            clear hk0
            go_wp2_with fail
            go_meet
            exact ⟨rfl, rfl⟩
          · have hz : (k != 0) = true := by simpa using hk0
            have hs := g9.out (by trivial) hk0
            clear hk0
            by_cases ha0 : a < 0
            · have d1 : decide (a < 0) = true := decide_eq_true ha0
              have d2 : decide (k < 0) = true := decide_eq_true (hs.2 ha0)
              clear ha0 hs
              go_wp2_with fail
              go_meet
              exact ⟨rfl, rfl⟩
            · have d1 : decide (a < 0) = false := decide_eq_false ha0
              have d2 : decide (k < 0) = false := decide_eq_false fun hh => ha0 (hs.1 hh)
              clear ha0 hs
              go_wp2_with fail
              go_meet
              exact ⟨rfl, rfl⟩
        case rest =>
          obtain ⟨rfl, rfl⟩ := hcut
          go_upto_region 18 with fail
          go_cut [23] from 150 to 181 (fun s23 wx => s23 = .bool true ∧ w9 = wx)
          case first =>
            obtain ⟨g1, g2, g3⟩ := g10.out (by trivial)
            have B := hb
            have K := hk
            unfold B64 at B K
            by_cases hb0 : 0 < b
            · obtain ⟨g4, g5⟩ := g1 hb0
              have d1 : decide (0 < b) = true := decide_eq_true hb0
              have d2 : decide (k < b) = true := decide_eq_true g4
              have d3 : decide (-b < k) = true := decide_eq_true g5
              obtain ⟨B1, B2⟩ := B
              have B3 : -9223372036854775808 ≤ -b := by omega
              have B4 : -b ≤ 9223372036854775807 := by omega
              clear g1 g2 g3 g4 g5 hb0 K
              go_wp2_with fail
              go_meet
              exact ⟨rfl, rfl⟩
            · obtain ⟨g4, g5⟩ := g2 (by omega)
              have d1 : decide (0 < b) = false := decide_eq_false hb0
              have d4 : decide (b < 0) = true := decide_eq_true (by omega)
              have d2 : decide (b < k) = true := decide_eq_true g4
              by_cases hk0 : k ≤ 0
              · have d5 : decide (k ≤ 0) = true := decide_eq_true hk0
                clear g1 g2 g3 g4 g5 hb0 K B hk0
                go_wp2_with fail
                go_meet
                exact ⟨rfl, rfl⟩
              · have d5 : decide (k ≤ 0) = false := decide_eq_false hk0
                have d6 : decide (b < -k) = true := decide_eq_true (g5 (by omega))
                obtain ⟨B1, B2⟩ := K
                have B3 : -9223372036854775808 ≤ -k := by omega
                have B4 : -k ≤ 9223372036854775807 := by omega
                clear g1 g2 g3 g4 g5 hb0 B hk0
                go_wp2_with fail
                go_meet
                exact ⟨rfl, rfl⟩
          case rest =>
            obtain ⟨rfl, rfl⟩ := hcut
            go_wp2_with fail
            refine (alive_any _ HE9.out).mono ?_; rintro x w10 ⟨rfl, h10⟩
            have b10 := b9.trans (h10.mono b9.size)
            clear b9 h10
            go_wp2_with fail
            go_ret
            exact ⟨rfl, b10⟩

/-- a quotient, times what it was divided by, and what is left -/
theorem left_facts (a b : Int) (ha : B64 a) (hb : B64 b) (h0 : b ≠ 0) :
    B64 (a.tdiv b * b) ∧ B64 (a - a.tdiv b * b) ∧ (a - a.tdiv b * b ≠ 0 → (a - a.tdiv b * b < 0 ↔ a < 0)) ∧
      (0 < b → a - a.tdiv b * b < b ∧ -b < a - a.tdiv b * b) ∧ (b < 0 → b < a - a.tdiv b * b ∧ (0 < a - a.tdiv b * b → b < -(a - a.tdiv b * b))) := by
  obtain ⟨h1, h2, h3, h4, h5⟩ := tdiv_facts a b
  rw [Int.mul_comm] at h1
  generalize a.tdiv b * b = q at *
  generalize a.tmod b = m at *
  unfold B64 at *
  refine ⟨?_, ?_, ?_, ?_, ?_⟩ <;> omega

theorem back_any (a b : Int) (ha : B64 a) (hb : B64 b) (w : World) (hE : Env w) :
    Calls Tryd.prog 5 #[.int .i64 a, .int .i64 b] w fun x w' => x = .returned (.bool true) ∧ Below w.heap.size w w' := by
  have e1 : b + a = a + b := Int.add_comm b a
  have e2 : b * a = a * b := Int.mul_comm b a
  have hc : B64 (keep (inI (a + b)) (a + b)) := keep_b64 _ _ (inI_iff _).1
  have hf : B64 (keep (inI (a * b)) (a * b)) := keep_b64 _ _ (inI_iff _).1
  have hkk : B64 (if b = 0 then 0 else a - a.tdiv b * b) := by
    split
    · unfold B64; omega
    · exact (left_facts a b ha hb ‹_›).2.1
  refine back_core a b (keep (inI (a + b)) (a + b)) (keep (inI (keep (inI (a + b)) (a + b) - b)) (keep (inI (a + b)) (a + b) - b)) (keep (inI (a * b)) (a * b))
    (dN (keep (inI (a * b)) (a * b)) b) (dN a b) (a.tdiv b * b) (if b = 0 then 0 else a - a.tdiv b * b)
    (inI (a + b)) (inI (keep (inI (a + b)) (a + b) - b)) (inI (a * b)) (dB (keep (inI (a * b)) (a * b)) b) (dB a b) hb hkk
    (add_any a b ha hb) (by have := add_any b a hb ha; rwa [e1] at this) (sub_any _ b hc hb) ?_ (mul_any a b ha hb) (by have := mul_any b a hb ha; rwa [e2] at this)
    (div_all _ b hf hb) ?_ (div_all a b ha hb) ?_ ?_ ?_ ?_ ?_ w hE
  · intro hp
    have e : keep true (a + b) = a + b := rfl
    have e3 : a + b - b = a := by omega
    have ia := (inI_iff a).2 ha
    rw [hp, e, e3, ia]
    exact ⟨rfl, rfl⟩
  · intro hs h0
    have e : keep true (a * b) = a * b := rfl
    have e3 : (a * b).tdiv b = a := Int.mul_tdiv_cancel a h0
    have ia := (inI_iff a).2 ha
    unfold dB dN
    rw [hs, e, if_neg h0, if_neg h0, e3, ia]
    exact ⟨rfl, rfl⟩
  · intro hv
    by_cases h0 : b = 0
    · exact .inl h0
    · right
      unfold dB at hv
      rw [if_neg h0, ← tdiv_is a b ha hb h0] at hv
      simp at hv
      exact hv.2
  · intro hv
    have h0 : b ≠ 0 := by rintro rfl; unfold dB at hv; simp at hv
    unfold dB at hv
    rw [if_neg h0] at hv
    have hi := (inI_iff _).1 hv
    obtain ⟨l1, _⟩ := left_facts a b ha hb h0
    intro w
    have := mul_any (a.tdiv b) b hi hb w
    rw [(inI_iff _).2 l1] at this
    have e : dN a b = a.tdiv b := by unfold dN; rw [if_neg h0, hv]; rfl
    rw [e]
    exact this
  · intro hv w
    have h0 : b ≠ 0 := by rintro rfl; unfold dB at hv; simp at hv
    obtain ⟨l1, l2, _⟩ := left_facts a b ha hb h0
    have := sub_any a (a.tdiv b * b) ha l1 w
    rw [(inI_iff _).2 l2] at this
    rw [if_neg h0]
    exact this
  · intro hv
    have h0 : b ≠ 0 := by rintro rfl; unfold dB at hv; simp at hv
    rw [if_neg h0]
    exact (left_facts a b ha hb h0).2.2.1
  · intro hv
    have h0 : b ≠ 0 := by rintro rfl; unfold dB at hv; simp at hv
    rw [if_neg h0]
    obtain ⟨_, _, _, l4, l5⟩ := left_facts a b ha hb h0
    exact ⟨l4, l5, h0⟩
end Go.Proofs.YtcloiebamamfbaaDoor
