/- Plain facts on ranges: what two have together, from its first place to its last. -/
import Derived.Test.YtmophlfpoehopaaDoorRefI
namespace Go.Proofs.YtmophlfpoehopaaDoor

theorem head_filter_range {P : Nat → Bool} {n k : Nat} (hk : k < n) (hp : P k = true) (hb : ∀ j, j < k → P j = false) : ((List.range n).filter P).head? = some k := by
  rw [List.head?_filter, List.find?_range_eq_some]
  exact ⟨hp, by simpa using hk, fun j hj => by simpa using hb j hj⟩
theorem last_filter_range {P : Nat → Bool} : ∀ {n k : Nat}, k < n → P k = true → (∀ j, k < j → j < n → P j = false) → ((List.range n).filter P).getLast? = some k := by
  intro n
  induction n with
  | zero => intro k hk; omega
  | succ n ih =>
    intro k hk hp hb
    rw [List.range_succ, List.filter_append]
    by_cases e : k = n
    · subst e
      simp [hp]
    · have h1 : P n = false := hb n (by omega) (by omega)
      have h2 := ih (by omega) hp fun j hj hjn => hb j hj (by omega)
      simp only [List.filter_cons, List.filter_nil, h1, Bool.false_eq_true, if_false, List.append_nil]
      exact h2
theorem atC_of (j : Nat) (h : j < 1024) : atC (j : Int) = (j : Int) % 16 := if_pos (by omega)
theorem atR_of (j : Nat) (h : j < 1024) : atR (j : Int) = (j : Int) / 16 := if_pos (by omega)

/-- do two ranges have a place together? -/
def meetB (a b c d e f g h : Int) : Bool := wholeB a b c d && wholeB e f g h && decide (max a e ≤ min c g ∧ max b f ≤ min d h)
theorem mt_is (a b c d e f g h : Int) : mtL a b c d e f g h = (((List.range 1024).filter fun (j : Nat) => hasB a b c d (atC (j : Int)) (atR (j : Int)) && hasB e f g h (atC (j : Int)) (atR (j : Int))).map fun (j : Nat) => (atC (j : Int), atR (j : Int))) := by
  unfold mtL both cellsTo
  rw [List.filter_map, List.filter_filter]
  refine congrArg (List.map _) (List.filter_congr fun j _ => ?_)
  simp [Function.comp, Bool.and_comm]
theorem hasB_iff (a b c d x y : Int) : hasB a b c d x y = true ↔ wholeB a b c d = true ∧ a ≤ x ∧ x ≤ c ∧ b ≤ y ∧ y ≤ d := by
  unfold hasB; simp
theorem mt_none {a b c d e f g h : Int} (hm : meetB a b c d e f g h = false) : mtL a b c d e f g h = [] := by
  rw [mt_is, List.map_eq_nil_iff, List.filter_eq_nil_iff]
  intro j _ hj
  rw [Bool.and_eq_true, hasB_iff, hasB_iff] at hj
  have : meetB a b c d e f g h = true := by
    unfold meetB
    rw [hj.1.1, hj.2.1]
    simp
    omega
  rw [this] at hm
  cases hm
theorem mt_some {a b c d e f g h : Int} (hm : meetB a b c d e f g h = true) :
    fstOr (mtL a b c d e f g h) = (max a e, max b f) ∧ lstOr (mtL a b c d e f g h) = (min c g, min d h) ∧ someB (mtL a b c d e f g h) = true := by
  unfold meetB at hm
  rw [Bool.and_eq_true, Bool.and_eq_true, decide_eq_true_eq] at hm
  obtain ⟨⟨w1, w2⟩, h1, h2⟩ := hm
  have q1 := (wholeB_iff a b c d).1 w1
  have q2 := (wholeB_iff e f g h).1 w2
  have hP : ∀ j : Nat, j < 1024 → ((hasB a b c d (atC (j : Int)) (atR (j : Int)) && hasB e f g h (atC (j : Int)) (atR (j : Int))) = true ↔ (max a e ≤ (j : Int) % 16 ∧ (j : Int) % 16 ≤ min c g ∧ max b f ≤ (j : Int) / 16 ∧ (j : Int) / 16 ≤ min d h)) := by
    intro j hj
    rw [Bool.and_eq_true, hasB_iff, hasB_iff, atC_of j hj, atR_of j hj]
    simp only [w1, w2, true_and]
    omega
  have hF : ∀ j : Nat, j < 1024 → ¬ (max a e ≤ (j : Int) % 16 ∧ (j : Int) % 16 ≤ min c g ∧ max b f ≤ (j : Int) / 16 ∧ (j : Int) / 16 ≤ min d h) → (hasB a b c d (atC (j : Int)) (atR (j : Int)) && hasB e f g h (atC (j : Int)) (atR (j : Int))) = false := by
    intro j hj hn
    cases hx : (hasB a b c d (atC (j : Int)) (atR (j : Int)) && hasB e f g h (atC (j : Int)) (atR (j : Int))) with
    | false => rfl
    | true => exact absurd ((hP j hj).1 hx) hn
  obtain ⟨k, hk⟩ : ∃ k : Nat, (k : Int) = 16 * max b f + max a e := ⟨(16 * max b f + max a e).toNat, by omega⟩
  obtain ⟨m, hm⟩ : ∃ m : Nat, (m : Int) = 16 * min d h + min c g := ⟨(16 * min d h + min c g).toNat, by omega⟩
  have k1 : k < 1024 := by omega
  have m1 : m < 1024 := by omega
  have H := head_filter_range (P := fun (j : Nat) => hasB a b c d (atC (j : Int)) (atR (j : Int)) && hasB e f g h (atC (j : Int)) (atR (j : Int))) k1 ((hP k k1).2 (by omega)) fun j hj => hF j (by omega) (by omega)
  have T := last_filter_range (P := fun (j : Nat) => hasB a b c d (atC (j : Int)) (atR (j : Int)) && hasB e f g h (atC (j : Int)) (atR (j : Int))) m1 ((hP m m1).2 (by omega)) fun j hj hj2 => hF j hj2 (by omega)
  rw [mt_is]
  refine ⟨?_, ?_, ?_⟩
  · unfold fstOr
    rw [List.head?_map, H]
    simp only [Option.map_some, Option.getD_some, atC_of k k1, atR_of k k1]
    exact Prod.ext (show (k : Int) % 16 = max a e by omega) (show (k : Int) / 16 = max b f by omega)
  · unfold lstOr
    rw [List.getLast?_map, T]
    simp only [Option.map_some, Option.getD_some, atC_of m m1, atR_of m m1]
    exact Prod.ext (show (m : Int) % 16 = min c g by omega) (show (m : Int) / 16 = min d h by omega)
  · unfold someB
    cases hl : (List.range 1024).filter fun (j : Nat) => hasB a b c d (atC (j : Int)) (atR (j : Int)) && hasB e f g h (atC (j : Int)) (atR (j : Int)) with
    | nil => rw [hl] at H; cases H
    | cons x t => rfl
end Go.Proofs.YtmophlfpoehopaaDoor
