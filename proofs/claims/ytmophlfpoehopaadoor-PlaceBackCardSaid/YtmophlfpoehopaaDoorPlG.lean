/- place's own Cells: the places of a range, row by row. -/
import Derived.Test.YtmophlfpoehopaaDoorPlD
import Derived.Test.YtmophlfpoehopaaDoorRefJ
import Derived.OwnWalk
import Derived.Deep.Onto
namespace Go.Proofs.YtmophlfpoehopaaDoor
open Go.RowKit

theorem cellsTo_skip {a b c d : Int} {i : Nat} : ∀ n : Nat, (∀ j, i ≤ j → j < i + n → hasB a b c d (atC (j : Int)) (atR (j : Int)) = false) → cellsTo a b c d (i + n) = cellsTo a b c d i
  | 0, _ => rfl
  | n + 1, h => by
    have h1 := cellsTo_skip (a := a) (b := b) (c := c) (d := d) (i := i) n fun j h1 h2 => h j h1 (by omega)
    rw [← h1]
    exact cellsTo_no (h (i + n) (by omega) (by omega))
theorem cellsTo_eq {a b c d : Int} {i k : Nat} (hk : i ≤ k) (h : ∀ j, i ≤ j → j < k → hasB a b c d (atC (j : Int)) (atR (j : Int)) = false) : cellsTo a b c d i = cellsTo a b c d k := by
  obtain ⟨n, rfl⟩ := Nat.exists_eq_add_of_le hk
  exact (cellsTo_skip n h).symm
theorem has_not {a b c d : Int} {j : Nat} (hj : j < 1024) (h : ¬ (a ≤ (j : Int) % 16 ∧ (j : Int) % 16 ≤ c ∧ b ≤ (j : Int) / 16 ∧ (j : Int) / 16 ≤ d)) : hasB a b c d (atC (j : Int)) (atR (j : Int)) = false := by
  rw [atC_of j hj, atR_of j hj]
  cases hx : hasB a b c d ((j : Int) % 16) ((j : Int) / 16) with
  | false => rfl
  | true => exact absurd ((hasB_iff _ _ _ _ _ _).1 hx).2 h
theorem cells_none {a b c d : Int} (hw : wholeB a b c d = false) : cellsTo a b c d 1024 = [] := by
  refine (cellsTo_eq (i := 0) (Nat.zero_le _) fun j _ _ => ?_).symm
  unfold hasB
  rw [hw, Bool.false_and]

set_option maxHeartbeats 400000 in
theorem pcells_no (a b c d : Int) (w : World) (hW : wholeB a b c d = false) :
    Calls Tryd.prog 26 #[.agg #[.int .i64 a, .int .i64 b, .int .i64 c, .int .i64 d]] w fun e w' => ∃ v, e = .returned v ∧
      w'.ownsRow w.heap.size 23 2 v (cellsTo a b c d 1024).length (cells2 (cellsTo a b c d 1024)) ∧ Below w.heap.size w w' := by
  have HC := Lib.hid (cells_none hW)
  have HW := Lib.hid (pwhole_any a b c d)
  rw [hW] at HW
  rw [HC.out]
  clear hW
  go_enter Tryd.func26, Tryd.ntmps26
  go_wp2_with fail
  refine (HW.out _).mono ?_; rintro e w1 ⟨rfl, b1⟩
  have h1 : Below w.heap.size w w1 := ((Below.refl _ _).alloc (Nat.le_refl _) _).trans (b1.mono (by simp))
  clear b1
  go_wp2_with fail
  go_ret
  exact ⟨_, rfl, World.ownsRow_nil _ _ _ _, h1⟩

set_option maxHeartbeats 2000000 in
set_option maxRecDepth 10000 in
theorem pcells_yes (a b c d : Nat) (w : World) (hW : wholeB a b c d = true) :
    Calls Tryd.prog 26 #[.agg #[.int .i64 a, .int .i64 b, .int .i64 c, .int .i64 d]] w fun e w' => ∃ v, e = .returned v ∧
      w'.ownsRow w.heap.size 23 2 v (cellsTo a b c d 1024).length (cells2 (cellsTo a b c d 1024)) ∧ Below w.heap.size w w' := by
  obtain ⟨i0, hi0, hz0, hz1, hz2⟩ := info_parts place_info
  have HI := Lib.hid hi0
  have HZ0 := Lib.hid hz0
  have HZ1 := Lib.hid hz1
  have HZ2 := Lib.hid hz2
  clear hi0 hz0 hz1 hz2
  have HW := Lib.hid (pwhole_any a b c d)
  have hq := (wholeB_iff _ _ _ _).1 hW
  have Hhas : Hid (∀ j : Nat, j < 1024 → (a : Int) ≤ (j : Int) % 16 → (j : Int) % 16 ≤ c → (b : Int) ≤ (j : Int) / 16 → (j : Int) / 16 ≤ d → hasB a b c d (atC (j : Int)) (atR (j : Int)) = true) :=
    Lib.hid fun j hj h1 h2 h3 h4 => by rw [atC_of j hj, atR_of j hj]; exact (hasB_iff _ _ _ _ _ _).2 ⟨hW, h1, h2, h3, h4⟩
  rw [hW] at HW
  clear hW
  have ha : a ≤ 15 := by omega
  have hb : b ≤ 63 := by omega
  have hc : c ≤ 15 := by omega
  have hd : d ≤ 63 := by omega
  have hac : a ≤ c := by omega
  have hbd : b ≤ d := by omega
  clear hq
  have HE0 : Hid (cellsTo a b c d (16 * b) = []) := Lib.hid (cellsTo_eq (i := 0) (Nat.zero_le _) fun j _ h2 => has_not (by omega) (by omega)).symm
  have HEd : Hid (cellsTo a b c d (16 * (d + 1)) = cellsTo a b c d 1024) := Lib.hid (cellsTo_eq (by omega) fun j h1 h2 => has_not (by omega) (by omega))
  have HEs : Hid (∀ row : Nat, b ≤ row → row ≤ d → cellsTo a b c d (16 * row) = cellsTo a b c d (16 * row + a)) := Lib.hid fun row h1 h2 => cellsTo_eq (by omega) fun j h3 h4 => has_not (by omega) (by omega)
  have HEe : Hid (∀ row : Nat, b ≤ row → row ≤ d → cellsTo a b c d (16 * row + (c + 1)) = cellsTo a b c d (16 * (row + 1))) := Lib.hid fun row h1 h2 => cellsTo_eq (by omega) fun j h3 h4 => has_not (by omega) (by omega)
  have HEy : Hid (∀ row col : Nat, b ≤ row → row ≤ d → a ≤ col → col ≤ c → cellsTo a b c d (16 * row + (col + 1)) = cellsTo a b c d (16 * row + col) ++ [((col : Int), (row : Int))]) := Lib.hid fun row col h1 h2 h3 h4 => by
    have hj : 16 * row + col < 1024 := by omega
    have h := cellsTo_yes (Hhas.out (16 * row + col) hj (by omega) (by omega) (by omega) (by omega))
    rw [atC_of _ hj, atR_of _ hj] at h
    have e1 : ((16 * row + col : Nat) : Int) % 16 = (col : Int) := by omega
    have e2 : ((16 * row + col : Nat) : Int) / 16 = (row : Int) := by omega
    rw [e1, e2] at h
    exact h
  clear Hhas
  go_enter Tryd.func26, Tryd.ntmps26
  go_wp2_with fail
  refine (HW.out _).mono ?_; rintro e w1 ⟨rfl, b1⟩
  have j0 := keep_fresh b1 0 (v := .int .i64 a) rfl
  have j1 := keep_fresh b1 1 (v := .int .i64 b) rfl
  have j2 := keep_fresh b1 2 (v := .int .i64 c) rfl
  have j3 := keep_fresh b1 3 (v := .int .i64 d) rfl
  have h1 : Below w.heap.size w w1 := ((Below.refl _ _).alloc (Nat.le_refl _) _).trans (b1.mono (by simp))
  clear b1
  go_wp2_with fail
  go_loopw [3, 4] (fun v n wr => ∃ row : Nat, b ≤ row ∧ row ≤ d + 1 ∧ n = .int .i64 row ∧ wr.ownsRow w1.heap.size 23 2 v (cellsTo a b c d (16 * row)).length (cells2 (cellsTo a b c d (16 * row))) ∧
      Below w1.heap.size w1 wr) (fun _ n _ => leftG n)
  case atStart => exact ⟨b, Nat.le_refl _, by omega, rfl, by rw [HE0.out]; exact World.ownsRow_nil _ _ _ _, Below.refl _ _⟩
  case round =>
    obtain ⟨row, hr0, hr1, rfl, hown, hb0⟩ := hrel
    have HO := Lib.hid hown
    have HB := Lib.hid hb0
    have k0 := keep_cell hb0 j0
    have k2 := keep_cell hb0 j2
    have k3 := keep_cell hb0 j3
    clear hown hb0
    by_cases hlt : row ≤ d
    · have HES := Lib.hid (HEs.out row hr0 hlt)
      have HEE := Lib.hid (HEe.out row hr0 hlt)
      go_wp2_with fail
      go_loopw [3, 5] (fun v n wq => ∃ col : Nat, a ≤ col ∧ col ≤ c + 1 ∧ n = .int .i64 col ∧ wq.ownsRow w1.heap.size 23 2 v (cellsTo a b c d (16 * row + col)).length (cells2 (cellsTo a b c d (16 * row + col))) ∧
          Below w1.heap.size w1 wq) (fun _ n _ => leftG n)
      case atStart => exact ⟨a, Nat.le_refl _, by omega, rfl, by rw [← HES.out]; exact HO.out, HB.out⟩
      case round =>
        obtain ⟨col, hc0, hc1, rfl, hown, hb0⟩ := hrel
        have HO2 := Lib.hid hown
        have HB2 := Lib.hid hb0
        have hlen := cellsTo_le a b c d (16 * row + col)
        have m2 := keep_cell hb0 j2
        have zq := hb0.size
        clear hown hb0
        by_cases hle : col ≤ c
        · have HY := Lib.hid (HEy.out row col hr0 hlt hc0 hle)
          go_wp2_with (at_builtin
                       refine wpList_append_own _ rfl _ _ 42 rfl w1.heap.size 23 i0 (.agg #[.int .i64 0, .int .i64 0]) 2 16 Tryd.underlying42 HI.out HZ0.out HZ1.out HZ2.out rfl (by decide) _ _ _ rfl (HO2.out.alloc _)
                         ⟨wr.heap.size, 0, none⟩ 1 1 [.int .i64 col, .int .i64 row] rfl rfl ?c1 ?c2 ?c3 ?c4 ?c5 ?_)
          case c1 =>
            intro j u hj
            match j, hj with
            | 0, hj => simp at hj; subst hj; simp [Addr.add]
            | 1, hj => simp at hj; subst hj; simp [Addr.add]
          case c2 => intro u hu; simp at hu; rcases hu with rfl | rfl <;> rfl
          case c3 => unfold maxLen; omega
          case c4 => omega
          case c5 => simp; omega
          intro v' w4 hown4 hg4 _
          rw [← cells2_snoc] at hown4
          have e5 : (cellsTo a b c d (16 * row + col)).length + 1 = (cellsTo a b c d (16 * row + (col + 1))).length := by rw [HY.out]; simp
          rw [e5, ← HY.out] at hown4
          have HO4 := Lib.hid hown4
          clear hown4 e5
          have hb4 : Below w1.heap.size w1 w4 := (HB2.out.alloc zq _).grown hg4 (by simp; omega) (fun g hgg => (HO2.out.lt g hgg).1)
          clear hg4
          go_wp2_with fail
          go_roundw
          case rel => exact ⟨col + 1, by omega, by omega, by go_num, HO4.out, hb4⟩
          case measure => simp [leftG, intOf]; omega
        · have hce : col = c + 1 := by omega
          subst hce
          have HO3 : Hid (wr.ownsRow w1.heap.size 23 2 _ (cellsTo a b c d (16 * (row + 1))).length (cells2 (cellsTo a b c d (16 * (row + 1))))) := Lib.hid (by rw [← HEE.out]; exact HO2.out)
          go_wp2_with fail
          go_roundw
          case rel => exact ⟨row + 1, by omega, by omega, by go_num, HO3.out, HB2.out⟩
          case measure => simp [leftG, intOf]; omega
    · have hre : row = d + 1 := by omega
      subst hre
      have HO3 : Hid (wr.ownsRow w1.heap.size 23 2 _ (cellsTo a b c d 1024).length (cells2 (cellsTo a b c d 1024))) := Lib.hid (by rw [← HEd.out]; exact HO.out)
      have h2 := h1.trans (HB.out.mono h1.size)
      have hz := h1.size
      go_wp2_with fail
      go_ret
      exact ⟨_, rfl, HO3.out.mono hz, h2⟩

theorem pcells_any (a b c d : Int) (w : World) :
    Calls Tryd.prog 26 #[.agg #[.int .i64 a, .int .i64 b, .int .i64 c, .int .i64 d]] w fun e w' => ∃ v, e = .returned v ∧
      w'.ownsRow w.heap.size 23 2 v (cellsTo a b c d 1024).length (cells2 (cellsTo a b c d 1024)) ∧ Below w.heap.size w w' := by
  cases hW : wholeB a b c d with
  | false => exact pcells_no a b c d w hW
  | true =>
    have hq := (wholeB_iff _ _ _ _).1 hW
    obtain ⟨a', rfl⟩ := Int.eq_ofNat_of_zero_le hq.1.1
    obtain ⟨b', rfl⟩ := Int.eq_ofNat_of_zero_le hq.1.2.2.1
    obtain ⟨c', rfl⟩ := Int.eq_ofNat_of_zero_le hq.2.1.1
    obtain ⟨d', rfl⟩ := Int.eq_ofNat_of_zero_le hq.2.1.2.2.1
    exact pcells_yes a' b' c' d' w hW
end Go.Proofs.YtmophlfpoehopaaDoor
