/- The document's own Parse of places. -/
import Derived.Test.YtjfmmnebhmlkeaaDoorRefC
namespace Go.Proofs.YtjfmmnebhmlkeaaDoor
open Go.RowKit

theorem byte_at (s : ByteArray) (i : Nat) (h : i < s.size) : s.data.toList[i]? = some (s[i]'h) := by
  have h1 : i < s.data.toList.length := by rw [Array.length_toList]; exact h
  rw [List.getElem?_eq_getElem h1]
  rfl
theorem byte_getD (s : ByteArray) (i : Nat) (h : i < s.size) : s.data.toList.getD i 0 = (s[i]'h) := by
  rw [List.getD_eq_getElem?_getD, byte_at s i h]; rfl
theorem len_of (s : ByteArray) : s.data.toList.length = s.size := Array.length_toList

/-- has a text a place's form? -/
def formedB (l : List UInt8) : Bool := decide (2 ≤ l.length ∧ l.length ≤ 4 ∧ 65 ≤ (l.getD 0 0).toNat ∧ (l.getD 0 0).toNat ≤ 90 ∧ (l.getD 1 0).toNat ≠ 48) &&
  decide (∀ i, i < l.length → 1 ≤ i → 48 ≤ (l.getD i 0).toNat ∧ (l.getD i 0).toNat ≤ 57)

set_option maxHeartbeats 1000000 in
theorem rformed_any (s : ByteArray) (hs : s.size ≤ 9223372036854775807) (w : World) :
    Calls Tryd.prog 31 #[.string s] w fun e w' => e = .returned (.bool (formedB s.data.toList)) ∧ w = w' := by
  by_cases h2 : s.size < 2
  · have e1 := Lib.hid (show formedB s.data.toList = false from by
      unfold formedB; rw [len_of, decide_eq_false (by omega)]; rfl)
    have d1 : decide ((s.size : Int) < 2) = true := decide_eq_true (by omega)
    clear h2
    go_enter Tryd.func31, Tryd.ntmps31
    go_wp2_with fail
    go_ret
    exact ⟨ret_bool e1.out.symm, rfl⟩
  · have d1 : decide ((s.size : Int) < 2) = false := decide_eq_false (by omega)
    by_cases h4 : 4 < s.size
    · have e1 := Lib.hid (show formedB s.data.toList = false from by
        unfold formedB; rw [len_of, decide_eq_false (by omega)]; rfl)
      have d2 : decide ((4 : Int) < (s.size : Int)) = true := decide_eq_true (by omega)
      clear h2 h4
      go_enter Tryd.func31, Tryd.ntmps31
      go_wp2_with fail
      go_ret
      exact ⟨ret_bool e1.out.symm, rfl⟩
    · have d2 : decide ((4 : Int) < (s.size : Int)) = false := decide_eq_false (by omega)
      have s0 : 0 < s.size := by omega
      have s1 : 1 < s.size := by omega
      have g0 := Lib.hid (byte_getD s 0 s0)
      have g1 := Lib.hid (byte_getD s 1 s1)
      by_cases ha : 65 ≤ (s[0]'s0).toNat ∧ (s[0]'s0).toNat ≤ 90 ∧ (s[1]'s1).toNat ≠ 48
      · obtain ⟨a1, a2, a3⟩ := ha
        have d3 : decide (((s[0]'s0).toNat : Int) < 65) = false := decide_eq_false (by omega)
        have d4 : decide ((90 : Int) < ((s[0]'s0).toNat : Int)) = false := decide_eq_false (by omega)
        have d5 : (((s[1]'s1).toNat : Int) == 48) = false := by rw [beq_eq_false_iff_ne]; omega
        have e0 := Lib.hid (show formedB s.data.toList = decide (∀ i, i < s.data.toList.length → 1 ≤ i → 48 ≤ (s.data.toList.getD i 0).toNat ∧ (s.data.toList.getD i 0).toNat ≤ 57) from by
          unfold formedB
          rw [g0.out, g1.out, len_of, decide_eq_true (p := 2 ≤ s.size ∧ _) (by omega), Bool.true_and])
        clear a1 a2 a3 h2
        go_enter Tryd.func31, Tryd.ntmps31
        go_wp2_with fail
        go_loop [3] (fun v => ∃ i : Nat, 1 ≤ i ∧ i ≤ s.size ∧ v = .int .i64 i ∧ Hid (∀ j, j < i → 1 ≤ j → 48 ≤ (s.data.toList.getD j 0).toNat ∧ (s.data.toList.getD j 0).toNat ≤ 57)) (fun v => s.size - (intOf v).toNat)
        case atStart => exact ⟨1, Nat.le_refl _, by omega, rfl, Lib.hid fun j hj hj1 => by omega⟩
        case round =>
          obtain ⟨i, hi1, hi, rfl, HU⟩ := hrel
          by_cases hlt : i < s.size
          · have gi := Lib.hid (byte_getD s i hlt)
            by_cases hdig : 48 ≤ (s[i]'hlt).toNat ∧ (s[i]'hlt).toNat ≤ 57
            · have HS : Hid (∀ j, j < i + 1 → 1 ≤ j → 48 ≤ (s.data.toList.getD j 0).toNat ∧ (s.data.toList.getD j 0).toNat ≤ 57) := Lib.hid fun j hj hj1 => by
                by_cases e : j = i
                · subst e; rw [gi.out]; exact hdig
                · exact HU.out j (by omega) hj1
              obtain ⟨q1, q2⟩ := hdig
              have t1 : decide (((s[i]'hlt).toNat : Int) < 48) = false := decide_eq_false (by omega)
              have t2 : decide ((57 : Int) < ((s[i]'hlt).toNat : Int)) = false := decide_eq_false (by omega)
              clear q1 q2
              go_wp2_with fail
              go_round
              case rel => exact ⟨i + 1, by omega, by omega, by go_num, HS⟩
              case measure => simp [intOf]; omega
            · have e1 := Lib.hid (show formedB s.data.toList = false from by
                rw [e0.out]
                refine decide_eq_false fun h => hdig ?_
                have := h i (by rw [len_of]; exact hlt) hi1
                rwa [gi.out] at this)
              by_cases q1 : (s[i]'hlt).toNat < 48
              · have t1 : decide (((s[i]'hlt).toNat : Int) < 48) = true := decide_eq_true (by omega)
                clear hdig q1
                go_wp2_with fail
                go_ret
                exact ⟨ret_bool e1.out.symm, rfl⟩
              · have t1 : decide (((s[i]'hlt).toNat : Int) < 48) = false := decide_eq_false (by omega)
                have t2 : decide ((57 : Int) < ((s[i]'hlt).toNat : Int)) = true := decide_eq_true (by omega)
                clear hdig q1
                go_wp2_with fail
                go_ret
                exact ⟨ret_bool e1.out.symm, rfl⟩
          · have e1 := Lib.hid (show formedB s.data.toList = true from by
              rw [e0.out]
              refine decide_eq_true fun j hj hj1 => HU.out j (by rw [len_of] at hj; omega) hj1)
            go_wp2_with fail
            go_ret
            exact ⟨ret_bool e1.out.symm, rfl⟩
      · have e1 := Lib.hid (show formedB s.data.toList = false from by
          unfold formedB
          rw [g0.out, g1.out, len_of, decide_eq_false (p := 2 ≤ s.size ∧ _) (by omega), Bool.false_and])
        by_cases a1 : (s[0]'s0).toNat < 65
        · have d3 : decide (((s[0]'s0).toNat : Int) < 65) = true := decide_eq_true (by omega)
          clear a1 ha h2 h4
          go_enter Tryd.func31, Tryd.ntmps31
          go_wp2_with fail
          go_ret
          exact ⟨ret_bool e1.out.symm, rfl⟩
        · have d3 : decide (((s[0]'s0).toNat : Int) < 65) = false := decide_eq_false (by omega)
          by_cases a2 : 90 < (s[0]'s0).toNat
          · have d4 : decide ((90 : Int) < ((s[0]'s0).toNat : Int)) = true := decide_eq_true (by omega)
            clear a1 a2 ha h2 h4
            go_enter Tryd.func31, Tryd.ntmps31
            go_wp2_with fail
            go_ret
            exact ⟨ret_bool e1.out.symm, rfl⟩
          · have d4 : decide ((90 : Int) < ((s[0]'s0).toNat : Int)) = false := decide_eq_false (by omega)
            have d5 : (((s[1]'s1).toNat : Int) == 48) = true := by rw [beq_iff_eq]; omega
            clear a1 a2 ha h2 h4
            go_enter Tryd.func31, Tryd.ntmps31
            go_wp2_with fail
            go_ret
            exact ⟨ret_bool e1.out.symm, rfl⟩
end Go.Proofs.YtjfmmnebhmlkeaaDoor
