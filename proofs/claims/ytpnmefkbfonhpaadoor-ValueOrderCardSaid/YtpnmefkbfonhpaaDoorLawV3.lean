/- The walk of the statement on the order of values: what all ten ops make of any two values. -/
import Derived.Test.YtpnmefkbfonhpaaDoorUaI
import Derived.Deep.RegionHeld3
namespace Go.Proofs.YtpnmefkbfonhpaaDoor
open Go.RowKit

/-- the ops that are asked, in their order -/
def opS (i : Nat) : List UInt8 := ([[60], [61], [62], [60, 61], [62, 61], [60, 62], [43], [45], [42], [47]] : List (List UInt8)).getD i []
def opB (i : Nat) : ByteArray := ⟨(opS i).toArray⟩
theorem op_some (i : Nat) (h : i < 10) (n m : Int) : (vOp (opS i) n m).isSome = true := by
  match i, h with
  | 0, _ => rfl
  | 1, _ => rfl
  | 2, _ => rfl
  | 3, _ => rfl
  | 4, _ => rfl
  | 5, _ => rfl
  | 6, _ => rfl
  | 7, _ => rfl
  | 8, _ => rfl
  | 9, _ => rfl
theorem op_size (i : Nat) (h : i < 10) : (opB i).size ≤ maxLen := by
  have h : (opS i).length ≤ 2 := by
    match i, h with
    | 0, _ => decide
    | 1, _ => decide
    | 2, _ => decide
    | 3, _ => decide
    | 4, _ => decide
    | 5, _ => decide
    | 6, _ => decide
    | 7, _ => decide
    | 8, _ => decide
    | 9, _ => decide
  show (opS i).toArray.size ≤ maxLen
  unfold maxLen
  simp
  omega
/-- what each op makes -/
def gotN (n f m g : Int) (i : Nat) : Int := doNum (opS i) n f m g
def gotF (n f m g : Int) (i : Nat) : Int := doFault (opS i) n f m g
theorem got_any (i : Nat) (h : i < 10) (n f m g : Int) (hn : B64 n) (hm : B64 m) (w : World) :
    Calls Tryd.prog 9 #[.string (opB i), .agg #[.int .i64 n, .int .i64 f], .agg #[.int .i64 m, .int .i64 g]] w fun e w' => e = .returned (.tuple #[.agg #[.int .i64 (gotN n f m g i), .int .i64 (gotF n f m g i)], .bool true]) ∧ Below w.heap.size w w' :=
  (udo_any (opB i) (op_size i h) n f m g hn hm w).mono fun _ _ ⟨he, hb⟩ => ⟨he.trans (ret_do rfl rfl (op_some i h n m)), hb⟩

/-- WHERE THE LAW's VARIABLES STAND: the two values, the array of what was made so far, the ops. -/
structure OrdW (W : World) (P Q R S : Nat) (n f m g : Int) (i : Nat) : Prop where
  a0 : W.cell? ⟨P, 0, none⟩ = some (.int .i64 n)
  a1 : W.cell? ⟨P, 1, none⟩ = some (.int .i64 f)
  b0 : W.cell? ⟨Q, 0, none⟩ = some (.int .i64 m)
  b1 : W.cell? ⟨Q, 1, none⟩ = some (.int .i64 g)
  os : ∀ j, j < 10 → W.cell? ⟨S, j, none⟩ = some (.string (opB j))
  r0 : ∀ j, j < 10 → W.cell? ⟨R, j * 2, none⟩ = some (.int .i64 (if j < i then gotN n f m g j else 0))
  r1 : ∀ j, j < 10 → W.cell? ⟨R, j * 2 + 1, none⟩ = some (.int .i64 (if j < i then gotF n f m g j else 0))
  fr : ∀ k, k < 20 → W.frozen? ⟨R, k, none⟩ = false
theorem OrdW.lt {W : World} {P Q R S : Nat} {n f m g : Int} {i : Nat} (h : OrdW W P Q R S n f m g i) : R < W.heap.size := Lib.lt_of_cell (h.r0 0 (by omega))
theorem OrdW.keep {W w1 : World} {P Q R S : Nat} {n f m g : Int} {i : Nat} (h : OrdW W P Q R S n f m g i) (b : Below W.heap.size W w1) : OrdW w1 P Q R S n f m g i :=
  ⟨keep_cell b h.a0, keep_cell b h.a1, keep_cell b h.b0, keep_cell b h.b1, fun j hj => keep_cell b (h.os j hj), fun j hj => keep_cell b (h.r0 j hj), fun j hj => keep_cell b (h.r1 j hj), fun k hk => keep_frozen b h.lt (h.fr k hk)⟩
theorem far_cell {W : World} {X k B o : Nat} {v u : Value} (hb : X ≠ B) (h : W.cell? ⟨B, o, none⟩ = some u) : (W.setCell ⟨X, k, none⟩ v).cell? ⟨B, o, none⟩ = some u := by
  rw [World.cell?_setCell_other _ _ _ _ (fun e => hb (congrArg Addr.block e))]; exact h
theorem off_cell {W : World} {X k o : Nat} {v u : Value} (hb : k ≠ o) (h : W.cell? ⟨X, o, none⟩ = some u) : (W.setCell ⟨X, k, none⟩ v).cell? ⟨X, o, none⟩ = some u := by
  rw [World.cell?_setCell_other _ _ _ _ (fun e => hb (congrArg Addr.off e))]; exact h
theorem OrdW.set {W : World} {P Q R S : Nat} {n f m g : Int} {i : Nat} (h : OrdW W P Q R S n f m g i) {X k : Nat} (hP : X ≠ P) (hQ : X ≠ Q) (hR : X ≠ R) (hS : X ≠ S) (v : Value) : OrdW (W.setCell ⟨X, k, none⟩ v) P Q R S n f m g i :=
  ⟨far_cell hP h.a0, far_cell hP h.a1, far_cell hQ h.b0, far_cell hQ h.b1, fun j hj => far_cell hS (h.os j hj), fun j hj => far_cell hR (h.r0 j hj), fun j hj => far_cell hR (h.r1 j hj), fun k' hk => by simp [go_sem, h.fr k' hk]⟩
theorem OrdW.store {W : World} {P Q R S : Nat} {n f m g : Int} {i : Nat} (h : OrdW W P Q R S n f m g i) (hi : i < 10) (hP : R ≠ P) (hQ : R ≠ Q) (hS : R ≠ S) :
    OrdW ((W.setCell ⟨R, i * 2, none⟩ (.int .i64 (gotN n f m g i))).setCell ⟨R, i * 2 + 1, none⟩ (.int .i64 (gotF n f m g i))) P Q R S n f m g (i + 1) := by
  refine ⟨far_cell hP (far_cell hP h.a0), far_cell hP (far_cell hP h.a1), far_cell hQ (far_cell hQ h.b0), far_cell hQ (far_cell hQ h.b1), fun j hj => far_cell hS (far_cell hS (h.os j hj)), fun j hj => ?_, fun j hj => ?_, fun k hk => by simp [go_sem, h.fr k hk]⟩
  · refine off_cell (by omega) ?_
    by_cases e : j = i
    · subst e
      rw [if_pos (by omega)]
      exact World.cell?_setCell_same _ _ _ (h.r0 j hj)
    · have e3 : (if j < i + 1 then gotN n f m g j else 0) = (if j < i then gotN n f m g j else 0) := by
        by_cases e1 : j < i
        · rw [if_pos e1, if_pos (by omega)]
        · rw [if_neg e1, if_neg (by omega)]
      rw [e3]
      exact off_cell (by omega) (h.r0 j hj)
  · by_cases e : j = i
    · subst e
      rw [if_pos (by omega)]
      exact World.cell?_setCell_same _ _ _ (off_cell (by omega) (h.r1 j hj))
    · have e3 : (if j < i + 1 then gotF n f m g j else 0) = (if j < i then gotF n f m g j else 0) := by
        by_cases e1 : j < i
        · rw [if_pos e1, if_pos (by omega)]
        · rw [if_neg e1, if_neg (by omega)]
      rw [e3]
      exact off_cell (by omega) (off_cell (by omega) (h.r1 j hj))

theorem ord_start (n f m g : Int) (w : World) : OrdW ((((w.alloc (.cells #[.int .i64 n, .int .i64 f] 24)).alloc (.cells #[.int .i64 m, .int .i64 g] 24)).alloc (.cells #[.int .i64 0, .int .i64 0, .int .i64 0, .int .i64 0, .int .i64 0, .int .i64 0, .int .i64 0, .int .i64 0, .int .i64 0, .int .i64 0, .int .i64 0, .int .i64 0, .int .i64 0, .int .i64 0, .int .i64 0, .int .i64 0, .int .i64 0, .int .i64 0, .int .i64 0, .int .i64 0] 38)).alloc (.cells #[.string ⟨#[60]⟩, .string ⟨#[61]⟩, .string ⟨#[62]⟩, .string ⟨#[60, 61]⟩, .string ⟨#[62, 61]⟩, .string ⟨#[60, 62]⟩, .string ⟨#[43]⟩, .string ⟨#[45]⟩, .string ⟨#[42]⟩, .string ⟨#[47]⟩] 9)) (w.heap.size) (w.heap.size + 1) (w.heap.size + 1 + 1) (w.heap.size + 1 + 1 + 1) n f m g 0 := by
  refine ⟨by simp [go_sem], by simp [go_sem], by simp [go_sem], by simp [go_sem], fun j hj => ?_, fun j hj => ?_, fun j hj => ?_, fun k hk => ?_⟩
  · have e : j = 0 ∨ j = 1 ∨ j = 2 ∨ j = 3 ∨ j = 4 ∨ j = 5 ∨ j = 6 ∨ j = 7 ∨ j = 8 ∨ j = 9 := by omega
    rcases e with rfl | rfl | rfl | rfl | rfl | rfl | rfl | rfl | rfl | rfl <;> (simp [go_sem]; rfl)
  · have e : j = 0 ∨ j = 1 ∨ j = 2 ∨ j = 3 ∨ j = 4 ∨ j = 5 ∨ j = 6 ∨ j = 7 ∨ j = 8 ∨ j = 9 := by omega
    rcases e with rfl | rfl | rfl | rfl | rfl | rfl | rfl | rfl | rfl | rfl <;> simp [go_sem]
  · have e : j = 0 ∨ j = 1 ∨ j = 2 ∨ j = 3 ∨ j = 4 ∨ j = 5 ∨ j = 6 ∨ j = 7 ∨ j = 8 ∨ j = 9 := by omega
    rcases e with rfl | rfl | rfl | rfl | rfl | rfl | rfl | rfl | rfl | rfl <;> simp [go_sem]
  · simp [go_sem]


theorem a_low2 (n f m g : Int) (hn : B64 n) (hm : B64 m) (W : World) (b : Nat) (hs : W.heap.size = b) : Calls Tryd.prog 19 #[.slice (some ⟨b, 0, none⟩) 2 2] (W.alloc (.cells #[.int .i64 n, .int .i64 f, .int .i64 m, .int .i64 g] 24)) fun e w' =>
    e = .returned (.agg #[.int .i64 (mostV gLow [(n, f), (m, g)]).1, .int .i64 (mostV gLow [(n, f), (m, g)]).2]) ∧ Below (W.alloc (.cells #[.int .i64 n, .int .i64 f, .int .i64 m, .int .i64 g] 24)).heap.size (W.alloc (.cells #[.int .i64 n, .int .i64 f, .int .i64 m, .int .i64 g] 24)) w' :=
  hs ▸ uleast_any [(n, f), (m, g)] (by show 2 ≤ maxLen; unfold maxLen; decide) (by simp [hn, hm]) (some ⟨W.heap.size, 0, none⟩) 2 _ (listV_fresh W [(n, f), (m, g)] 24)
theorem a_top2 (n f m g : Int) (hn : B64 n) (hm : B64 m) (W : World) (b : Nat) (hs : W.heap.size = b) : Calls Tryd.prog 21 #[.slice (some ⟨b, 0, none⟩) 2 2] (W.alloc (.cells #[.int .i64 n, .int .i64 f, .int .i64 m, .int .i64 g] 24)) fun e w' =>
    e = .returned (.agg #[.int .i64 (mostV gTop [(n, f), (m, g)]).1, .int .i64 (mostV gTop [(n, f), (m, g)]).2]) ∧ Below (W.alloc (.cells #[.int .i64 n, .int .i64 f, .int .i64 m, .int .i64 g] 24)).heap.size (W.alloc (.cells #[.int .i64 n, .int .i64 f, .int .i64 m, .int .i64 g] 24)) w' :=
  hs ▸ ugreatest_any [(n, f), (m, g)] (by show 2 ≤ maxLen; unfold maxLen; decide) (by simp [hn, hm]) (some ⟨W.heap.size, 0, none⟩) 2 _ (listV_fresh W [(n, f), (m, g)] 24)
theorem a_sum2 (n f m g : Int) (hn : B64 n) (hm : B64 m) (W : World) (b : Nat) (hs : W.heap.size = b) : Calls Tryd.prog 17 #[.slice (some ⟨b, 0, none⟩) 2 2] (W.alloc (.cells #[.int .i64 n, .int .i64 f, .int .i64 m, .int .i64 g] 24)) fun e w' =>
    e = .returned (.agg #[.int .i64 (allV gAdd (0, 0) [(n, f), (m, g)]).1, .int .i64 (allV gAdd (0, 0) [(n, f), (m, g)]).2]) ∧ Below (W.alloc (.cells #[.int .i64 n, .int .i64 f, .int .i64 m, .int .i64 g] 24)).heap.size (W.alloc (.cells #[.int .i64 n, .int .i64 f, .int .i64 m, .int .i64 g] 24)) w' :=
  hs ▸ usum_any [(n, f), (m, g)] (by show 2 ≤ maxLen; unfold maxLen; decide) (by simp [hn, hm]) (some ⟨W.heap.size, 0, none⟩) 2 _ (listV_fresh W [(n, f), (m, g)] 24)

theorem faulty_got {n f m g F : Int} (h : f ≠ 0 ∧ F = f ∨ f = 0 ∧ g ≠ 0 ∧ F = g) (i : Nat) (hi : i < 10) : gotN n f m g i = 0 ∧ gotF n f m g i = F := by
  unfold gotN gotF doNum doFault
  rw [if_pos (op_some i hi n m)]
  rcases h with ⟨h1, rfl⟩ | ⟨rfl, h1, rfl⟩
  · simp [h1]
  · simp [h1]
theorem faulty_all {n f m g F : Int} (h : f ≠ 0 ∧ F = f ∨ f = 0 ∧ g ≠ 0 ∧ F = g) (hn : B64 n) : mostV gLow [(n, f), (m, g)] = (0, F) ∧ mostV gTop [(n, f), (m, g)] = (0, F) ∧ allV gAdd (0, 0) [(n, f), (m, g)] = (0, F) := by
  have e : gAdd 0 n = (n, 0) := by
    have hi : inI n = true := by unfold B64 at hn; unfold inI; simpa using hn
    unfold gAdd vTold
    rw [show (0 : Int) + n = n from by omega, hi]
    rfl
  rcases h with ⟨h1, rfl⟩ | ⟨rfl, h1, rfl⟩
  · simp [mostV, allV, stepV, bothN, bothF, h1]
  · simp [mostV, allV, stepV, bothN, bothF, h1, gLow, gTop, e]
theorem fine_sum {n m : Int} (hn : B64 n) : allV gAdd (0, 0) [(n, 0), (m, 0)] = gAdd n m := by
  have e : gAdd 0 n = (n, 0) := by
    have hi : inI n = true := by unfold B64 at hn; unfold inI; simpa using hn
    unfold gAdd vTold
    rw [show (0 : Int) + n = n from by omega, hi]
    rfl
  simp [allV, stepV, bothN, bothF, e]
theorem fine_low (n m : Int) : mostV gLow [(n, 0), (m, 0)] = (if m < n then m else n, 0) := by
  simp [mostV, allV, stepV, bothN, bothF, gLow]
theorem fine_top (n m : Int) : mostV gTop [(n, 0), (m, 0)] = (if n < m then m else n, 0) := by
  simp [mostV, allV, stepV, bothN, bothF, gTop]
theorem got_lt {n m : Int} (h : n < m) : tru (decide (n < m)) = 1 ∧ tru (n == m) = 0 ∧ tru (decide (m < n)) = 0 ∧ tru (decide (n ≤ m)) = 1 ∧ tru (decide (m ≤ n)) = 0 ∧ tru (n != m) = 1 := by
  have h1 : ¬ n = m := by omega
  have h2 : ¬ m < n := by omega
  have h3 : n ≤ m := by omega
  have h4 : ¬ m ≤ n := by omega
  simp [tru, h, h1, h2, h3, h4]
theorem got_eq (n : Int) : tru (decide (n < n)) = 0 ∧ tru (n == n) = 1 ∧ tru (decide (n < n)) = 0 ∧ tru (decide (n ≤ n)) = 1 ∧ tru (decide (n ≤ n)) = 1 ∧ tru (n != n) = 0 := by
  simp [tru]
theorem got_gt {n m : Int} (h : m < n) : tru (decide (n < m)) = 0 ∧ tru (n == m) = 0 ∧ tru (decide (m < n)) = 1 ∧ tru (decide (n ≤ m)) = 0 ∧ tru (decide (m ≤ n)) = 1 ∧ tru (n != m) = 1 := by
  have h1 : ¬ n = m := by omega
  have h2 : ¬ n < m := by omega
  have h3 : m ≤ n := by omega
  have h4 : ¬ n ≤ m := by omega
  simp [tru, h, h1, h2, h3, h4]
theorem fine_got (n m : Int) : gotN n 0 m 0 0 = tru (decide (n < m)) ∧ gotN n 0 m 0 1 = tru (n == m) ∧ gotN n 0 m 0 2 = tru (decide (m < n)) ∧ gotN n 0 m 0 3 = tru (decide (n ≤ m)) ∧ gotN n 0 m 0 4 = tru (decide (m ≤ n)) ∧ gotN n 0 m 0 5 = tru (n != m) ∧ gotN n 0 m 0 6 = (gAdd n m).1 ∧ gotF n 0 m 0 6 = (gAdd n m).2 :=
  ⟨rfl, rfl, rfl, rfl, rfl, rfl, rfl, rfl⟩

end Go.Proofs.YtpnmefkbfonhpaaDoor
