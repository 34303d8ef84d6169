/- place's own test whether a text has a place's form. -/
import Derived.Test.YtjfmmnebhmlkeaaDoorRefD
import Derived.Laws.RangeAny
namespace Go.Proofs.YtjfmmnebhmlkeaaDoor
open Go.RowKit

/-- what stands behind the letter -/
theorem behind_size (s : ByteArray) : (s.extract 1 s.size).size = s.size - 1 := by rw [ByteArray.size_extract]; omega
theorem behind_at (s : ByteArray) (i : Nat) (h : i < (s.extract 1 s.size).size) : (s.extract 1 s.size)[i]'h = s.data.toList.getD (i + 1) 0 := by
  have h2 : i + 1 < s.size := by rw [behind_size] at h; omega
  rw [byte_getD s (i + 1) h2, ByteArray.getElem_extract]
  congr 1
  omega
theorem rune_not {t : ByteArray} {pos : Nat} (h : pos < t.size) (hn : ¬ (48 ≤ (t[pos]'h).toNat ∧ (t[pos]'h).toNat ≤ 57)) : (Utf8.decode t pos).1 < 48 ∨ 57 < (Utf8.decode t pos).1 := by
  by_cases ha : (t[pos]'h).toNat < 128
  · rw [decode_ascii t pos h ha]
    show (t[pos]'h).toNat < 48 ∨ 57 < (t[pos]'h).toNat
    omega
  · have := (decode_high t pos h (by omega)).1
    omega

set_option maxHeartbeats 1000000 in
theorem pformed_any (s : ByteArray) (hs : s.size ≤ 9223372036854775807) (w : World) :
    Calls Tryd.prog 36 #[.string s] w fun e w' => e = .returned (.bool (formedB s.data.toList)) ∧ Below w.heap.size w w' := by
  by_cases h2 : s.size < 2
  · have e1 := Lib.hid (show formedB s.data.toList = false from by
      unfold formedB; rw [len_of, decide_eq_false (by omega)]; rfl)
    have d1 : decide ((s.size : Int) < 2) = true := decide_eq_true (by omega)
    clear h2
    go_enter Tryd.func36, Tryd.ntmps36
    go_wp2_with fail
    go_ret
    exact ⟨ret_bool e1.out.symm, Below.refl _ _⟩
  · have d1 : decide ((s.size : Int) < 2) = false := decide_eq_false (by omega)
    by_cases h4 : 4 < s.size
    · have e1 := Lib.hid (show formedB s.data.toList = false from by
        unfold formedB; rw [len_of, decide_eq_false (by omega)]; rfl)
      have d2 : decide ((4 : Int) < (s.size : Int)) = true := decide_eq_true (by omega)
      clear h2 h4
      go_enter Tryd.func36, Tryd.ntmps36
      go_wp2_with fail
      go_ret
      exact ⟨ret_bool e1.out.symm, Below.refl _ _⟩
    · have d2 : decide ((4 : Int) < (s.size : Int)) = false := decide_eq_false (by omega)
      have s0 : 0 < s.size := by omega
      have s1 : 1 < s.size := by omega
      have g0 := Lib.hid (byte_getD s 0 s0)
      have g1 := Lib.hid (byte_getD s 1 s1)
      by_cases ha : 65 ≤ (s[0]'s0).toNat ∧ (s[0]'s0).toNat ≤ 90 ∧ (s[1]'s1).toNat ≠ 48
      · obtain ⟨a1, a2, a3⟩ := ha
        have d3 : decide (((s[0]'s0).toNat : Int) < 65) = false := decide_eq_false (by omega)
        have d4 : decide ((90 : Int) < ((s[0]'s0).toNat : Int)) = false := decide_eq_false (by omega)
        have d5 : (((s[1]'s1).toNat : Int) == 48) = false := by rw [beq_eq_false_iff_ne]; omega
        have e0 := Lib.hid (show formedB s.data.toList = decide (∀ i, i < s.data.toList.length → 1 ≤ i → 48 ≤ (s.data.toList.getD i 0).toNat ∧ (s.data.toList.getD i 0).toNat ≤ 57) from by
          unfold formedB
          rw [g0.out, g1.out, len_of, decide_eq_true (p := 2 ≤ s.size ∧ _) (by omega), Bool.true_and])
        have BS := Lib.hid (behind_size s)
        have BA := Lib.hid (behind_at s)
        clear a1 a2 a3 h2
        go_enter Tryd.func36, Tryd.ntmps36
        go_wp2_with fail
        generalize s.extract 1 s.size = T at *
        go_loopw [4] (fun _ wr => ∃ pos : Nat, pos ≤ T.size ∧ wr = w.iter T pos ∧ Hid (∀ j, j < pos + 1 → 1 ≤ j → 48 ≤ (s.data.toList.getD j 0).toNat ∧ (s.data.toList.getD j 0).toNat ≤ 57)) (fun _ wr => T.size - wr.iterPos w.heap.size)
        case atStart => exact ⟨0, Nat.zero_le _, rfl, Lib.hid fun j hj hj1 => by omega⟩
        case round =>
          obtain ⟨pos, hpos, rfl, HU⟩ := hrel
          by_cases hp : pos < T.size
          · have hb := BA.out pos hp
            by_cases hdig : 48 ≤ (T[pos]'hp).toNat ∧ (T[pos]'hp).toNat ≤ 57
            · have HS : Hid (∀ j, j < pos + 1 + 1 → 1 ≤ j → 48 ≤ (s.data.toList.getD j 0).toNat ∧ (s.data.toList.getD j 0).toNat ≤ 57) := Lib.hid fun j hj hj1 => by
                by_cases e : j = pos + 1
                · subst e; rw [← hb]; exact hdig
                · exact HU.out j (by omega) hj1
              have hnx := fun ty => run_next_ascii (P := Tryd.prog) w T pos ty hp (by omega)
              have HB := Lib.hid hb
              clear hb
              obtain ⟨q1, q2⟩ := hdig
              have t1 : decide (((T[pos]'hp).toNat : Int) < 48) = false := decide_eq_false (by omega)
              have t2 : decide ((57 : Int) < ((T[pos]'hp).toNat : Int)) = false := decide_eq_false (by omega)
              clear q1 q2
              go_wp2_with fail
              go_roundw
              case rel => exact ⟨pos + 1, by omega, rfl, HS⟩
              case measure => simp; omega
            · have hr := rune_not hp hdig
              have hnx := fun ty => run_next_any (P := Tryd.prog) w T pos ty hp
              have e1 := Lib.hid (show formedB s.data.toList = false from by
                rw [e0.out]
                refine decide_eq_false fun h => hdig ?_
                have := h (pos + 1) (by rw [len_of]; have := BS.out; omega) (by omega)
                rwa [← hb] at this)
              have HB := Lib.hid hb
              clear hb hdig
              generalize (Utf8.decode T pos).1 = R at *
              generalize (Utf8.decode T pos).2 = V at *
              by_cases q1 : R < 48
              · have t1 : decide ((R : Int) < 48) = true := decide_eq_true (by omega)
                clear hr q1
                go_wp2_with fail
                go_ret
                exact ⟨ret_bool e1.out.symm, (Below.refl _ _).alloc (Nat.le_refl _) _⟩
              · have t1 : decide ((R : Int) < 48) = false := decide_eq_false (by omega)
                have t2 : decide ((57 : Int) < (R : Int)) = true := decide_eq_true (by omega)
                clear hr q1
                go_wp2_with fail
                go_ret
                exact ⟨ret_bool e1.out.symm, (Below.refl _ _).alloc (Nat.le_refl _) _⟩
          · have hnx := fun ty => run_next_end (P := Tryd.prog) w T pos ty hp
            have e1 := Lib.hid (show formedB s.data.toList = true from by
              rw [e0.out]
              refine decide_eq_true fun j hj hj1 => HU.out j (by rw [len_of] at hj; have := BS.out; omega) hj1)
            go_wp2_with fail
            go_ret
            exact ⟨ret_bool e1.out.symm, (Below.refl _ _).alloc (Nat.le_refl _) _⟩
      · have e1 := Lib.hid (show formedB s.data.toList = false from by
          unfold formedB
          rw [g0.out, g1.out, len_of, decide_eq_false (p := 2 ≤ s.size ∧ _) (by omega), Bool.false_and])
        by_cases a1 : (s[0]'s0).toNat < 65
        · have d3 : decide (((s[0]'s0).toNat : Int) < 65) = true := decide_eq_true (by omega)
          clear a1 ha h2 h4
          go_enter Tryd.func36, Tryd.ntmps36
          go_wp2_with fail
          go_ret
          exact ⟨ret_bool e1.out.symm, Below.refl _ _⟩
        · have d3 : decide (((s[0]'s0).toNat : Int) < 65) = false := decide_eq_false (by omega)
          by_cases a2 : 90 < (s[0]'s0).toNat
          · have d4 : decide ((90 : Int) < ((s[0]'s0).toNat : Int)) = true := decide_eq_true (by omega)
            clear a1 a2 ha h2 h4
            go_enter Tryd.func36, Tryd.ntmps36
            go_wp2_with fail
            go_ret
            exact ⟨ret_bool e1.out.symm, Below.refl _ _⟩
          · have d4 : decide ((90 : Int) < ((s[0]'s0).toNat : Int)) = false := decide_eq_false (by omega)
            have d5 : (((s[1]'s1).toNat : Int) == 48) = true := by rw [beq_iff_eq]; omega
            clear a1 a2 ha h2 h4
            go_enter Tryd.func36, Tryd.ntmps36
            go_wp2_with fail
            go_ret
            exact ⟨ret_bool e1.out.symm, Below.refl _ _⟩
end Go.Proofs.YtjfmmnebhmlkeaaDoor
