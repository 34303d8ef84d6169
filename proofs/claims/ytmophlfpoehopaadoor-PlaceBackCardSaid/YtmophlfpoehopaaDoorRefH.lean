/- The document's own test whether two lists of places are one. -/
import Derived.Test.YtmophlfpoehopaaDoorRefG
import Derived.Deep.QuietTactic
import Derived.BigQuiet
namespace Go.Proofs.YtmophlfpoehopaaDoor
open Go.RowKit

/-- Where a list of places stands: its i-th place is read from these two cells. -/
def At2 (w : World) (g : Nat) (l : List (Int × Int)) : Prop := ∀ (i : Nat) (x y : Int), l[i]? = some (x, y) → w.cell? ⟨g, i * 2, none⟩ = some (.int .i64 x) ∧ w.cell? ⟨g, i * 2 + 1, none⟩ = some (.int .i64 y)
theorem cells2_at : ∀ (l : List (Int × Int)) (i : Nat) (x y : Int), l[i]? = some (x, y) → (cells2 l)[i * 2]? = some (.int .i64 x) ∧ (cells2 l)[i * 2 + 1]? = some (.int .i64 y)
  | [], i, x, y, h => by simp at h
  | p :: t, 0, x, y, h => by
    simp at h; subst h
    exact ⟨rfl, rfl⟩
  | p :: t, i + 1, x, y, h => by
    have := cells2_at t i x y (by simpa using h)
    have e1 : (i + 1) * 2 = i * 2 + 2 := by omega
    have e : cells2 (p :: t) = .int .i64 p.1 :: .int .i64 p.2 :: cells2 t := rfl
    rw [e, e1, List.getElem?_cons_succ, List.getElem?_cons_succ, List.getElem?_cons_succ, List.getElem?_cons_succ]
    exact this
theorem at2_of_own {w : World} {base g cap : Nat} {l : List (Int × Int)} (h : w.ownsRow base 23 2 (.slice (some ⟨g, 0, none⟩) l.length cap) l.length (cells2 l)) : At2 w g l := by
  intro i x y hi
  have hlt : i < l.length := (List.getElem?_eq_some_iff.1 hi).1
  obtain ⟨h1, h2⟩ := cells2_at l i x y hi
  exact ⟨(h.cellAt (i * 2) (by omega)).trans h1, (h.cellAt (i * 2 + 1) (by omega)).trans h2⟩

theorem placeGuard : Tryd.prog.eqGuardType Tryd.prog.depth 23 = false := by kernel_rfl
theorem placeStood : Tryd.prog.stoodInHeld 23 = false := by kernel_rfl
theorem placeStruct : Tryd.prog.underlying 23 = some (.struct (Tryd.prog.fieldsOf 23)) := by kernel_rfl
theorem guard_place (op : BinOp) (X Y : Operand) (xs ys : Array Value) (W : World) : (eqGuard op 23 X Y (.agg xs) (.agg ys)).run Tryd.prog W = .ok () W := run_eqGuard_agg W op 23 X Y xs ys placeGuard
theorem neq_place (x y p q : Int) (W : World) : (binOp .neq 23 (.agg #[.int .i64 x, .int .i64 y]) (.agg #[.int .i64 p, .int .i64 q])).run Tryd.prog W = .ok (.bool (!(x == p && y == q))) W := by
  rw [run_neq_struct, run_equalIn_agg W 9999 23 _ _ placeStruct placeStood]
  by_cases h1 : x = p <;> by_cases h2 : y = q <;> simp [go_sem, h1, h2]
/-- how many are left -/
def leftH (n : Nat) (v : Value) : Nat := n - (intOf v).toNat
set_option maxHeartbeats 1000000 in
theorem same_core (l m : List (Int × Int)) (g h ca cb : Nat) (w : World) (hl : l.length ≤ maxLen) (hm : m.length ≤ maxLen) (ha : At2 w g l) (hb : At2 w h m) :
    Calls Tryd.prog 25 #[.slice (some ⟨g, 0, none⟩) l.length ca, .slice (some ⟨h, 0, none⟩) m.length cb] w fun e w' => e = .returned (.bool (decide (l = m))) ∧ ∃ n, w' = w.drewN n := by
  have HA := Lib.hid ha
  have HB := Lib.hid hb
  unfold maxLen at hl hm
  clear ha hb
  by_cases hne : l.length = m.length
  · have d0 : ((l.length : Int) != (m.length : Int)) = false := by simp [hne]
    have HN := Lib.hid hne
    clear hne
    go_enter Tryd.func25, Tryd.ntmps25
    go_wp2_with fail
    go_loopw [5] (fun v wr => ∃ i : Nat, i ≤ l.length ∧ v = .int .i64 i ∧ Hid (l.take i = m.take i) ∧ ∃ n, wr = w.drewN n) (fun v _ => leftH l.length v)
    case atStart => exact ⟨0, Nat.zero_le _, rfl, Lib.hid (by simp), 0, rfl⟩
    case round =>
      obtain ⟨i, hi, rfl, HU, nd, rfl⟩ := hrel
      by_cases hlt : i < l.length
      · obtain ⟨x, y, hxy⟩ : ∃ x y, l[i]? = some (x, y) := ⟨_, _, List.getElem?_eq_getElem hlt⟩
        have hlt2 : i < m.length := by have := HN.out; omega
        obtain ⟨p, q, hpq⟩ : ∃ p q, m[i]? = some (p, q) := ⟨_, _, List.getElem?_eq_getElem hlt2⟩
        obtain ⟨a0, a1⟩ := HA.out i x y hxy
        obtain ⟨b0, b1⟩ := HB.out i p q hpq
        have Hxy := Lib.hid hxy
        have Hpq := Lib.hid hpq
        clear hxy hpq
        have hG := fun X Y W => guard_place .neq X Y #[.int .i64 x, .int .i64 y] #[.int .i64 p, .int .i64 q] W
        have hE := neq_place x y p q
        cases he : (!(x == p && y == q)) with
        | true =>
          rw [he] at hE
          have HF := Lib.hid (show decide (l = m) = false from decide_eq_false (by
            rintro rfl
            rw [Hxy.out] at Hpq
            have := Option.some.inj Hpq.out
            obtain ⟨rfl, rfl⟩ := Prod.mk.inj this
            simp at he))
          clear he
          go_wp2_with fail
          go_quiet (fail)
          go_wp2_with fail
          go_ret
          exact ⟨ret_bool HF.out.symm, nd + _, by first | exact (World.drewN_drewN _ _ _) | rfl⟩
        | false =>
          rw [he] at hE
          have HS : Hid (l.take (i + 1) = m.take (i + 1)) := Lib.hid (by
            have h2 : x = p ∧ y = q := by simpa using he
            obtain ⟨rfl, rfl⟩ := h2
            rw [List.take_add_one, List.take_add_one, HU.out, Hxy.out, Hpq.out])
          clear he
          go_wp2_with fail
          go_quiet (fail)
          go_wp2_with fail
          go_roundw
          case rel => exact ⟨i + 1, by omega, by go_num, HS, nd + nq, by first | exact (World.drewN_drewN _ _ _) | rfl⟩
          case measure => simp [leftH, intOf]; omega
      · have HF := Lib.hid (show decide (l = m) = true from decide_eq_true (by
          have h1 := HU.out
          rwa [List.take_of_length_le (by omega), List.take_of_length_le (by have := HN.out; omega)] at h1))
        go_wp2_with fail
        go_ret
        exact ⟨ret_bool HF.out.symm, nd, rfl⟩
  · have d0 : ((l.length : Int) != (m.length : Int)) = true := by simpa using fun h => hne (by omega)
    have HF := Lib.hid (show decide (l = m) = false from decide_eq_false (by rintro rfl; exact hne rfl))
    clear hne
    go_enter Tryd.func25, Tryd.ntmps25
    go_wp2_with fail
    go_ret
    exact ⟨ret_bool HF.out.symm, 0, by simp [World.drewN_zero]⟩
set_option maxHeartbeats 400000 in
theorem same_len (A B : Option Addr) (n k ca cb : Nat) (w : World) (hne : n ≠ k) :
    Calls Tryd.prog 25 #[.slice A n ca, .slice B k cb] w fun e w' => e = .returned (.bool false) ∧ ∃ n, w' = w.drewN n := by
  have d0 : ((n : Int) != (k : Int)) = true := by simpa using fun h => hne (by omega)
  clear hne
  go_enter Tryd.func25, Tryd.ntmps25
  go_wp2_with fail
  go_ret
  exact ⟨rfl, 0, by simp [World.drewN_zero]⟩
set_option maxHeartbeats 400000 in
theorem same_nil (A B : Option Addr) (ca cb : Nat) (w : World) :
    Calls Tryd.prog 25 #[.slice A 0 ca, .slice B 0 cb] w fun e w' => e = .returned (.bool true) ∧ ∃ n, w' = w.drewN n := by
  go_enter Tryd.func25, Tryd.ntmps25
  go_wp2_with fail
  go_loopw [5] (fun v wr => v = .int .i64 0 ∧ wr = w) (fun _ _ => 0)
  case atStart => exact ⟨rfl, rfl⟩
  case round =>
    obtain ⟨rfl, rfl⟩ := hrel
    go_wp2_with fail
    go_ret
    exact ⟨rfl, 0, by simp [World.drewN_zero]⟩

/-- Are two owned lists of places one? -/
theorem rsame_any {w : World} {base base' : Nat} {va vb : Value} (l m : List (Int × Int)) (ha : w.ownsRow base 23 2 va l.length (cells2 l)) (hb : w.ownsRow base' 23 2 vb m.length (cells2 m)) :
    Calls Tryd.prog 25 #[va, vb] w fun e w' => e = .returned (.bool (decide (l = m))) ∧ ∃ n, w' = w.drewN n := by
  have ha' := ha
  have hb' := hb
  obtain ⟨_, ha⟩ := ha
  obtain ⟨_, hb⟩ := hb
  rcases ha with ⟨rfl, hl⟩ | ⟨g, cap, cur, rfl, _, _, hlc, hcm, _⟩ <;> rcases hb with ⟨rfl, hm⟩ | ⟨g', cap', cur', rfl, _, _, hlc', hcm', _⟩
  · have e1 := List.eq_nil_of_length_eq_zero hl
    have e2 := List.eq_nil_of_length_eq_zero hm
    subst e1; subst e2
    exact same_nil _ _ _ _ w
  · have e1 := List.eq_nil_of_length_eq_zero hl
    subst e1
    by_cases hm0 : m = []
    · subst hm0
      exact same_nil _ _ _ _ w
    · rw [decide_eq_false (fun h => hm0 h.symm)]
      exact same_len _ _ 0 m.length _ _ w (fun h => hm0 (List.eq_nil_of_length_eq_zero h.symm))
  · have e2 := List.eq_nil_of_length_eq_zero hm
    subst e2
    by_cases hl0 : l = []
    · subst hl0
      exact same_nil _ _ _ _ w
    · rw [decide_eq_false hl0]
      exact same_len _ _ l.length 0 _ _ w (fun h => hl0 (List.eq_nil_of_length_eq_zero h))
  · exact same_core l m g g' cap cap' w (by omega) (by omega) (at2_of_own ha') (at2_of_own hb')
end Go.Proofs.YtmophlfpoehopaaDoor
