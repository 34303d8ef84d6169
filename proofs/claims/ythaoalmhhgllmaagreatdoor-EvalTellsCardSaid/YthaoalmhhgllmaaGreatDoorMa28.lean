/- Texts joined: PlG, EwB, EwC, EwD, EwE. -/
import Derived.Test.YthaoalmhhgllmaaGreatDoorMa03
import Derived.Test.YthaoalmhhgllmaaGreatDoorMa09
import Derived.Test.YthaoalmhhgllmaaGreatDoorMa27
import Derived.OwnWalk
import Derived.Deep.Onto
import Derived.Deep.RegionHeld3
import Derived.Test.YthaoalmhhgllmaaGreatDoorMa13
import Derived.Test.YthaoalmhhgllmaaGreatDoorMa11
set_option linter.all false
set_option linter.unusedVariables false
set_option linter.unusedSimpArgs false
namespace Go.Proofs.YthaoalmhhgllmaaGreatDoor
open Go.RowKit

theorem cellsTo_skip {a b c d : Int} {i : Nat} : ∀ n : Nat, (∀ j, i ≤ j → j < i + n → hasB a b c d (atC (j : Int)) (atR (j : Int)) = false) → cellsTo a b c d (i + n) = cellsTo a b c d i
  | 0, _ => rfl
  | n + 1, h => by
    have h1 := cellsTo_skip (a := a) (b := b) (c := c) (d := d) (i := i) n fun j h1 h2 => h j h1 (by omega)
    rw [← h1]
    exact cellsTo_no (h (i + n) (by omega) (by omega))
theorem cellsTo_eq {a b c d : Int} {i k : Nat} (hk : i ≤ k) (h : ∀ j, i ≤ j → j < k → hasB a b c d (atC (j : Int)) (atR (j : Int)) = false) : cellsTo a b c d i = cellsTo a b c d k := by
  obtain ⟨n, rfl⟩ := Nat.exists_eq_add_of_le hk
  exact (cellsTo_skip n h).symm
theorem has_not {a b c d : Int} {j : Nat} (hj : j < 1024) (h : ¬ (a ≤ (j : Int) % 16 ∧ (j : Int) % 16 ≤ c ∧ b ≤ (j : Int) / 16 ∧ (j : Int) / 16 ≤ d)) : hasB a b c d (atC (j : Int)) (atR (j : Int)) = false := by
  rw [atC_of j hj, atR_of j hj]
  cases hx : hasB a b c d ((j : Int) % 16) ((j : Int) / 16) with
  | false => rfl
  | true => exact absurd ((hasB_iff _ _ _ _ _ _).1 hx).2 h
theorem cells_none {a b c d : Int} (hw : wholeB a b c d = false) : cellsTo a b c d 1024 = [] := by
  refine (cellsTo_eq (i := 0) (Nat.zero_le _) fun j _ _ => ?_).symm
  unfold hasB
  rw [hw, Bool.false_and]

set_option maxHeartbeats 400000 in
theorem pcells_no (a b c d : Int) (w : World) (hW : wholeB a b c d = false) :
    Calls Tryz.prog 119 #[.agg #[.int .i64 a, .int .i64 b, .int .i64 c, .int .i64 d]] w fun e w' => ∃ v, e = .returned v ∧
      w'.ownsRow w.heap.size 24 2 v (cellsTo a b c d 1024).length (cells2 (cellsTo a b c d 1024)) ∧ Below w.heap.size w w' := by
  have HC := Lib.hid (cells_none hW)
  have HW := Lib.hid (pwhole_any a b c d)
  rw [hW] at HW
  rw [HC.out]
  clear hW
  go_enter Tryz.func119, Tryz.ntmps119
  go_wp2_with fail
  refine (HW.out _).mono ?_; rintro e w1 ⟨rfl, b1⟩
  have h1 : Below w.heap.size w w1 := ((Below.refl _ _).alloc (Nat.le_refl _) _).trans (b1.mono (by simp))
  clear b1
  go_wp2_with fail
  go_ret
  exact ⟨_, rfl, World.ownsRow_nil _ _ _ _, h1⟩

set_option maxHeartbeats 2000000 in
set_option maxRecDepth 10000 in
theorem pcells_yes (a b c d : Nat) (w : World) (hW : wholeB a b c d = true) :
    Calls Tryz.prog 119 #[.agg #[.int .i64 a, .int .i64 b, .int .i64 c, .int .i64 d]] w fun e w' => ∃ v, e = .returned v ∧
      w'.ownsRow w.heap.size 24 2 v (cellsTo a b c d 1024).length (cells2 (cellsTo a b c d 1024)) ∧ Below w.heap.size w w' := by
  obtain ⟨i0, hi0, hz0, hz1, hz2⟩ := info_parts place_info
  have HI := Lib.hid hi0
  have HZ0 := Lib.hid hz0
  have HZ1 := Lib.hid hz1
  have HZ2 := Lib.hid hz2
  clear hi0 hz0 hz1 hz2
  have HW := Lib.hid (pwhole_any a b c d)
  have hq := (wholeB_iff _ _ _ _).1 hW
  have Hhas : Hid (∀ j : Nat, j < 1024 → (a : Int) ≤ (j : Int) % 16 → (j : Int) % 16 ≤ c → (b : Int) ≤ (j : Int) / 16 → (j : Int) / 16 ≤ d → hasB a b c d (atC (j : Int)) (atR (j : Int)) = true) :=
    Lib.hid fun j hj h1 h2 h3 h4 => by rw [atC_of j hj, atR_of j hj]; exact (hasB_iff _ _ _ _ _ _).2 ⟨hW, h1, h2, h3, h4⟩
  rw [hW] at HW
  clear hW
  have ha : a ≤ 15 := by omega
  have hb : b ≤ 63 := by omega
  have hc : c ≤ 15 := by omega
  have hd : d ≤ 63 := by omega
  have hac : a ≤ c := by omega
  have hbd : b ≤ d := by omega
  clear hq
  have HE0 : Hid (cellsTo a b c d (16 * b) = []) := Lib.hid (cellsTo_eq (i := 0) (Nat.zero_le _) fun j _ h2 => has_not (by omega) (by omega)).symm
  have HEd : Hid (cellsTo a b c d (16 * (d + 1)) = cellsTo a b c d 1024) := Lib.hid (cellsTo_eq (by omega) fun j h1 h2 => has_not (by omega) (by omega))
  have HEs : Hid (∀ row : Nat, b ≤ row → row ≤ d → cellsTo a b c d (16 * row) = cellsTo a b c d (16 * row + a)) := Lib.hid fun row h1 h2 => cellsTo_eq (by omega) fun j h3 h4 => has_not (by omega) (by omega)
  have HEe : Hid (∀ row : Nat, b ≤ row → row ≤ d → cellsTo a b c d (16 * row + (c + 1)) = cellsTo a b c d (16 * (row + 1))) := Lib.hid fun row h1 h2 => cellsTo_eq (by omega) fun j h3 h4 => has_not (by omega) (by omega)
  have HEy : Hid (∀ row col : Nat, b ≤ row → row ≤ d → a ≤ col → col ≤ c → cellsTo a b c d (16 * row + (col + 1)) = cellsTo a b c d (16 * row + col) ++ [((col : Int), (row : Int))]) := Lib.hid fun row col h1 h2 h3 h4 => by
    have hj : 16 * row + col < 1024 := by omega
    have h := cellsTo_yes (Hhas.out (16 * row + col) hj (by omega) (by omega) (by omega) (by omega))
    rw [atC_of _ hj, atR_of _ hj] at h
    have e1 : ((16 * row + col : Nat) : Int) % 16 = (col : Int) := by omega
    have e2 : ((16 * row + col : Nat) : Int) / 16 = (row : Int) := by omega
    rw [e1, e2] at h
    exact h
  clear Hhas
  go_enter Tryz.func119, Tryz.ntmps119
  go_wp2_with fail
  refine (HW.out _).mono ?_; rintro e w1 ⟨rfl, b1⟩
  have j0 := keep_fresh b1 0 (v := .int .i64 a) rfl
  have j1 := keep_fresh b1 1 (v := .int .i64 b) rfl
  have j2 := keep_fresh b1 2 (v := .int .i64 c) rfl
  have j3 := keep_fresh b1 3 (v := .int .i64 d) rfl
  have h1 : Below w.heap.size w w1 := ((Below.refl _ _).alloc (Nat.le_refl _) _).trans (b1.mono (by simp))
  clear b1
  go_wp2_with fail
  go_loopw [3, 4] (fun v n wr => ∃ row : Nat, b ≤ row ∧ row ≤ d + 1 ∧ n = .int .i64 row ∧ wr.ownsRow w1.heap.size 24 2 v (cellsTo a b c d (16 * row)).length (cells2 (cellsTo a b c d (16 * row))) ∧
      Below w1.heap.size w1 wr) (fun _ n _ => leftG n)
  case atStart => exact ⟨b, Nat.le_refl _, by omega, rfl, by rw [HE0.out]; exact World.ownsRow_nil _ _ _ _, Below.refl _ _⟩
  case round =>
    obtain ⟨row, hr0, hr1, rfl, hown, hb0⟩ := hrel
    have HO := Lib.hid hown
    have HB := Lib.hid hb0
    have k0 := keep_cell hb0 j0
    have k2 := keep_cell hb0 j2
    have k3 := keep_cell hb0 j3
    clear hown hb0
    by_cases hlt : row ≤ d
    · have HES := Lib.hid (HEs.out row hr0 hlt)
      have HEE := Lib.hid (HEe.out row hr0 hlt)
      go_wp2_with fail
      go_loopw [3, 5] (fun v n wq => ∃ col : Nat, a ≤ col ∧ col ≤ c + 1 ∧ n = .int .i64 col ∧ wq.ownsRow w1.heap.size 24 2 v (cellsTo a b c d (16 * row + col)).length (cells2 (cellsTo a b c d (16 * row + col))) ∧
          Below w1.heap.size w1 wq) (fun _ n _ => leftG n)
      case atStart => exact ⟨a, Nat.le_refl _, by omega, rfl, by rw [← HES.out]; exact HO.out, HB.out⟩
      case round =>
        obtain ⟨col, hc0, hc1, rfl, hown, hb0⟩ := hrel
        have HO2 := Lib.hid hown
        have HB2 := Lib.hid hb0
        have hlen := cellsTo_le a b c d (16 * row + col)
        have m2 := keep_cell hb0 j2
        have zq := hb0.size
        clear hown hb0
        by_cases hle : col ≤ c
        · have HY := Lib.hid (HEy.out row col hr0 hlt hc0 hle)
          go_wp2_with (at_builtin
                       refine wpList_append_own _ rfl _ _ 39 rfl w1.heap.size 24 i0 (.agg #[.int .i64 0, .int .i64 0]) 2 16 Tryz.underlying39 HI.out HZ0.out HZ1.out HZ2.out rfl (by decide) _ _ _ rfl (HO2.out.alloc _)
                         ⟨wr.heap.size, 0, none⟩ 1 1 [.int .i64 col, .int .i64 row] rfl rfl ?c1 ?c2 ?c3 ?c4 ?c5 ?_)
          case c1 =>
            intro j u hj
            match j, hj with
            | 0, hj => simp at hj; subst hj; simp [Addr.add]
            | 1, hj => simp at hj; subst hj; simp [Addr.add]
          case c2 => intro u hu; simp at hu; rcases hu with rfl | rfl <;> rfl
          case c3 => unfold maxLen; omega
          case c4 => omega
          case c5 => simp; omega
          intro v' w4 hown4 hg4 _
          rw [← cells2_snoc] at hown4
          have e5 : (cellsTo a b c d (16 * row + col)).length + 1 = (cellsTo a b c d (16 * row + (col + 1))).length := by rw [HY.out]; simp
          rw [e5, ← HY.out] at hown4
          have HO4 := Lib.hid hown4
          clear hown4 e5
          have hb4 : Below w1.heap.size w1 w4 := (HB2.out.alloc zq _).grown hg4 (by simp; omega) (fun g hgg => (HO2.out.lt g hgg).1)
          clear hg4
          go_wp2_with fail
          go_roundw
          case rel => exact ⟨col + 1, by omega, by omega, by go_num, HO4.out, hb4⟩
          case measure => simp [leftG, intOf]; omega
        · have hce : col = c + 1 := by omega
          subst hce
          have HO3 : Hid (wr.ownsRow w1.heap.size 24 2 _ (cellsTo a b c d (16 * (row + 1))).length (cells2 (cellsTo a b c d (16 * (row + 1))))) := Lib.hid (by rw [← HEE.out]; exact HO2.out)
          go_wp2_with fail
          go_roundw
          case rel => exact ⟨row + 1, by omega, by omega, by go_num, HO3.out, HB2.out⟩
          case measure => simp [leftG, intOf]; omega
    · have hre : row = d + 1 := by omega
      subst hre
      have HO3 : Hid (wr.ownsRow w1.heap.size 24 2 _ (cellsTo a b c d 1024).length (cells2 (cellsTo a b c d 1024))) := Lib.hid (by rw [← HEd.out]; exact HO.out)
      have h2 := h1.trans (HB.out.mono h1.size)
      have hz := h1.size
      go_wp2_with fail
      go_ret
      exact ⟨_, rfl, HO3.out.mono hz, h2⟩

theorem pcells_any (a b c d : Int) (w : World) :
    Calls Tryz.prog 119 #[.agg #[.int .i64 a, .int .i64 b, .int .i64 c, .int .i64 d]] w fun e w' => ∃ v, e = .returned v ∧
      w'.ownsRow w.heap.size 24 2 v (cellsTo a b c d 1024).length (cells2 (cellsTo a b c d 1024)) ∧ Below w.heap.size w w' := by
  cases hW : wholeB a b c d with
  | false => exact pcells_no a b c d w hW
  | true =>
    have hq := (wholeB_iff _ _ _ _).1 hW
    obtain ⟨a', rfl⟩ := Int.eq_ofNat_of_zero_le hq.1.1
    obtain ⟨b', rfl⟩ := Int.eq_ofNat_of_zero_le hq.1.2.2.1
    obtain ⟨c', rfl⟩ := Int.eq_ofNat_of_zero_le hq.2.1.1
    obtain ⟨d', rfl⟩ := Int.eq_ofNat_of_zero_le hq.2.1.2.2.1
    exact pcells_yes a' b' c' d' w hW
end Go.Proofs.YthaoalmhhgllmaaGreatDoor
namespace Go.Proofs.YthaoalmhhgllmaaGreatDoor
open Go.RowKit

set_option maxHeartbeats 1000000 in
theorem ealone_any (q : Cel) (w : World) :
    Calls Tryz.prog 29 #[.agg #[.int .i64 q.n, .int .i64 q.f]] w fun e w' => e = .returned (.agg #[.int .i64 (aloneV q).1, .int .i64 (aloneV q).2]) ∧ Below w.heap.size w w' := by
  cases hf : (q.f != 0) with
  | true =>
    have E : Hid (aloneV q = (0, q.f)) := Lib.hid (by unfold aloneV; rw [if_neg (by simpa using hf)])
    go_enter Tryz.func29, Tryz.ntmps29
    go_wp2_with fail
    exact bodyPost_ret (v := .agg #[.int .i64 0, .int .i64 q.f]) (by simp [results, Tryz.results29, go_sem]) rfl
      ⟨by rw [E.out], (by repeat' (first | with_reducible exact Below.refl _ _ | exact Nat.le_succ _ | with_reducible exact Nat.le_refl _ | with_reducible refine Below.setCell ?_ ?_ _ | with_reducible refine Below.alloc ?_ ?_ _ | (simp; omega) | simp))⟩
  | false =>
    have E : Hid (aloneV q = (q.n, q.f)) := Lib.hid (by unfold aloneV; rw [if_pos (by simpa using hf)])
    go_enter Tryz.func29, Tryz.ntmps29
    go_wp2_with fail
    exact bodyPost_ret (v := .agg #[.int .i64 q.n, .int .i64 q.f]) (by simp [results, Tryz.results29, go_sem]) rfl
      ⟨by rw [E.out], (by repeat' (first | with_reducible exact Below.refl _ _ | exact Nat.le_succ _ | with_reducible exact Nat.le_refl _ | with_reducible refine Below.setCell ?_ ?_ _ | with_reducible refine Below.alloc ?_ ?_ _ | (simp; omega) | simp))⟩
theorem take_snoc {l : List Cel} {i : Nat} {q : Cel} (h : l[i]? = some q) : l.take (i + 1) = l.take i ++ [q] := by rw [List.take_add_one, h]; rfl
set_option maxHeartbeats 4000000 in
set_option maxRecDepth 10000 in
theorem efirst_any (l : List Cel) (hl : l.length < maxLen) (hb : ∀ q ∈ l, B64 q.c ∧ B64 q.r) (LA : Option Addr) (lc : Nat) (w : World) (hc : ListC w LA l) :
    Calls Tryz.prog 17 #[.slice LA l.length lc] w fun e w' => ∃ b, e = .returned (.map (some b)) ∧ MapC w' b l ∧ Below w.heap.size w w' := by
  have HC := Lib.hid hc
  have HB := Lib.hid hb
  have HL := Lib.hid hl
  have hmm := @run_makeMap Tryz.prog
  unfold maxLen at hl
  clear hc hb
  go_enter Tryz.func17, Tryz.ntmps17
  go_wp2_with fail
  go_loopw [11] (fun vi wr => ∃ i : Nat, i ≤ l.length ∧ vi = .int .i64 (i : Int) ∧ Hid (MapC wr w.heap.size (l.take i)) ∧ Below w.heap.size w wr) (fun vi _ => l.length - (intOf vi).toNat)
  case atStart => exact ⟨0, Nat.zero_le _, rfl, Lib.hid (by rw [List.take_zero]; exact MapC.made w), (Below.refl _ _).alloc (Nat.le_refl _) _⟩
  case round =>
    obtain ⟨i, hi, rfl, HM, hbel⟩ := hrel
    by_cases hlt : i < l.length
    · obtain ⟨q, hq⟩ : ∃ q, l[i]? = some q := ⟨_, List.getElem?_eq_getElem hlt⟩
      obtain ⟨g, o, rfl, hat⟩ := HC.out (by rintro rfl; simp at hlt)
      obtain ⟨c0, c1, c2, c3⟩ := (hat.below hbel).get hq
      obtain ⟨hqc, hqr⟩ := HB.out q (List.mem_of_getElem? hq)
      have HQ := Lib.hid (And.intro hqc hqr)
      have HT := Lib.hid (take_snoc hq)
      have HA := Lib.hid (fun w => ealone_any q w)
      have hlk : (l.take i).length < 9223372036854775807 := by rw [List.length_take]; omega
      have zs := hbel.size
      clear hat hq
      cases hs : (cAt q.c q.r (l.take i)).isSome with
      | true =>
        have HM2 := Lib.hid (HM.out.old hs)
        rw [← HT.out] at HM2
        obtain ⟨vn, hvn⟩ : ∃ vn, oN (cAt q.c q.r (l.take i)) = vn := ⟨_, rfl⟩
        obtain ⟨vf, hvf⟩ : ∃ vf, oF (cAt q.c q.r (l.take i)) = vf := ⟨_, rfl⟩
        have HMb : Hid (∀ w', Below wr.heap.size wr w' → MapC w' w.heap.size (l.take i)) := Lib.hid fun w' h => HM.out.below h
        have HF : Hid (∀ w', Below wr.heap.size wr w' → ∃ i2 : Nat, i2 ≤ l.length ∧ Value.int .i64 ((i : Int) + 1) = .int .i64 (i2 : Int) ∧ Hid (MapC w' w.heap.size (l.take i2)) ∧ Below w.heap.size w w') := Lib.hid fun w' h => ⟨i + 1, hlt, by go_num, Lib.hid (HM2.out.below h), hbel.trans (h.mono zs)⟩
        have HV := Lib.hid (And.intro hvn (And.intro hvf hs))
        clear hvn hvf hs HM2 HM hqc hqr
        go_wp2_with (at_lookup; refine wpList_cells_ok _ rfl _ _ rfl rfl (HMb.out _ (by repeat' (first | with_reducible exact Below.refl _ _ | with_reducible exact Nat.le_refl _ | with_reducible refine Below.alloc ?_ ?_ _))) HQ.out.1 HQ.out.2 rfl HV.out.1 HV.out.2.1 HV.out.2.2 ?_)
        go_roundw
        case rel => exact HF.out _ (by repeat' (first | with_reducible exact Below.refl _ _ | with_reducible exact Nat.le_refl _ | with_reducible refine Below.alloc ?_ ?_ _ | with_reducible refine Below.setCell ?_ ?_ _ | simp))
        case measure => simp [intOf]; omega
      | false =>
        obtain ⟨vn, hvn⟩ : ∃ vn, oN (cAt q.c q.r (l.take i)) = vn := ⟨_, rfl⟩
        obtain ⟨vf, hvf⟩ : ∃ vf, oF (cAt q.c q.r (l.take i)) = vf := ⟨_, rfl⟩
        have HMlt := Lib.hid HM.out.lt
        have HMb : Hid (∀ w', Below wr.heap.size wr w' → MapC w' w.heap.size (l.take i)) := Lib.hid fun w' h => HM.out.below h
        have HF : Hid (∀ w' w4, Below wr.heap.size wr w' → MapC w4 w.heap.size (l.take i ++ [q]) → w'.grownBy w4 (some w.heap.size) → ∃ i2 : Nat, i2 ≤ l.length ∧ Value.int .i64 ((i : Int) + 1) = .int .i64 (i2 : Int) ∧ Hid (MapC w4 w.heap.size (l.take i2)) ∧ Below w.heap.size w w4) := Lib.hid fun w' w4 h hm hg => ⟨i + 1, hlt, by go_num, Lib.hid (by rw [HT.out]; exact hm), (hbel.trans (h.mono zs)).grown hg (Nat.le_trans zs h.size) (fun k hk => by cases hk; exact Nat.le_refl _)⟩
        have HV := Lib.hid (And.intro hvn (And.intro hvf hs))
        have HS := Lib.hid hs
        clear hvn hvf hs HM hqc hqr
        go_wp2_with (at_lookup; refine wpList_cells_ok _ rfl _ _ rfl rfl (HMb.out _ (by repeat' (first | with_reducible exact Below.refl _ _ | with_reducible exact Nat.le_refl _ | with_reducible refine Below.alloc ?_ ?_ _))) HQ.out.1 HQ.out.2 rfl HV.out.1 HV.out.2.1 HV.out.2.2 ?_)
        have k0 : ((wr.alloc (.cells #[.int .i64 q.c, .int .i64 q.r, .int .i64 q.n, .int .i64 q.f] 44)).alloc (.cells #[.int .i64 vn, .int .i64 vf] 35)).cell? ⟨wr.heap.size, 0, none⟩ = some (.int .i64 q.c) := by simp [go_sem]
        have k1 : ((wr.alloc (.cells #[.int .i64 q.c, .int .i64 q.r, .int .i64 q.n, .int .i64 q.f] 44)).alloc (.cells #[.int .i64 vn, .int .i64 vf] 35)).cell? ⟨wr.heap.size, 1, none⟩ = some (.int .i64 q.r) := by simp [go_sem]
        have k2 : ((wr.alloc (.cells #[.int .i64 q.c, .int .i64 q.r, .int .i64 q.n, .int .i64 q.f] 44)).alloc (.cells #[.int .i64 vn, .int .i64 vf] 35)).cell? ⟨wr.heap.size, 2, none⟩ = some (.int .i64 q.n) := by simp [go_sem]
        have k3 : ((wr.alloc (.cells #[.int .i64 q.c, .int .i64 q.r, .int .i64 q.n, .int .i64 q.f] 44)).alloc (.cells #[.int .i64 vn, .int .i64 vf] 35)).cell? ⟨wr.heap.size, 3, none⟩ = some (.int .i64 q.f) := by simp [go_sem]
        have hB2 : Below wr.heap.size wr ((wr.alloc (.cells #[.int .i64 q.c, .int .i64 q.r, .int .i64 q.n, .int .i64 q.f] 44)).alloc (.cells #[.int .i64 vn, .int .i64 vf] 35)) := ((Below.refl _ _).alloc (Nat.le_refl _) _).alloc (by simp) _
        have hz2 : ((wr.alloc (.cells #[.int .i64 q.c, .int .i64 q.r, .int .i64 q.n, .int .i64 q.f] 44)).alloc (.cells #[.int .i64 vn, .int .i64 vf] 35)).heap.size = wr.heap.size + 1 + 1 := by simp
        generalize ((wr.alloc (.cells #[.int .i64 q.c, .int .i64 q.r, .int .i64 q.n, .int .i64 q.f] 44)).alloc (.cells #[.int .i64 vn, .int .i64 vf] 35)) = W2 at *
        have zB : wr.heap.size < W2.heap.size := by omega
        have zw : w.heap.size < wr.heap.size := HMlt.out
        go_region_held3 (fun w' => w'.cell? ⟨wr.heap.size, 0, none⟩ = some (.int .i64 q.c) ∧ w'.cell? ⟨wr.heap.size, 1, none⟩ = some (.int .i64 q.r) ∧ w'.cell? ⟨wr.heap.size, 2, none⟩ = some (.int .i64 q.n) ∧ w'.cell? ⟨wr.heap.size, 3, none⟩ = some (.int .i64 q.f))
          (first | (simp only [World.cell?_drew]; with_reducible exact ⟨k0, k1, k2, k3⟩) | (with_reducible exact ⟨m0, m1, m2, m3⟩) | (with_reducible exact ⟨n0, n1, n2, n3⟩) | go_keep | fail)
          (first
          | (go_at_call 29; refine Calls.mono (HA.out _) ?_; rintro e w3 ⟨rfl, b3⟩
             have B3 : Below W2.heap.size W2 w3 := (Below.refl _ W2).drew.trans b3
             have m0 := keep_cell B3 k0
             have m1 := keep_cell B3 k1
             have m2 := keep_cell B3 k2
             have m3 := keep_cell B3 k3
             have hB3 := hB2.trans (B3.mono (by omega))
             have zB3 : wr.heap.size < w3.heap.size := Nat.lt_of_lt_of_le zB B3.size
             obtain ⟨w4, hrun4, hM4, hg4⟩ := (HMb.out w3 hB3).put (by unfold maxLen; omega) HQ.out HS.out
             have HR := Lib.hid (HF.out w3 w4 hB3 hM4 hg4)
             have hne4 : some wr.heap.size ≠ some w.heap.size := fun e => by have := Option.some.inj e; omega
             have n0 := (hg4.cell_far ⟨wr.heap.size, 0, none⟩ zB3 hne4).trans m0
             have n1 := (hg4.cell_far ⟨wr.heap.size, 1, none⟩ zB3 hne4).trans m1
             have n2 := (hg4.cell_far ⟨wr.heap.size, 2, none⟩ zB3 hne4).trans m2
             have n3 := (hg4.cell_far ⟨wr.heap.size, 3, none⟩ zB3 hne4).trans m3
             clear b3 B3 k0 k1 k2 k3 hM4 hg4 hne4)
          | fail)
        go_wp2_with fail
        go_roundw
        case rel => exact HR.out
        case measure => simp [intOf]; omega
    · have hii : i = l.length := by omega
      subst hii
      have hz := HM.out
      rw [List.take_length] at hz
      have HZ := Lib.hid hz
      clear hz
      go_wp2_with fail
      go_ret
      exact ⟨_, rfl, HZ.out, hbel⟩
end Go.Proofs.YthaoalmhhgllmaaGreatDoor
namespace Go.Proofs.YthaoalmhhgllmaaGreatDoor
open Go.RowKit

theorem cells_b64 {a b c d : Int} {n : Nat} (hn : n ≤ 1024) : ∀ p ∈ cellsTo a b c d n, B64 p.1 ∧ B64 p.2 := by
  intro p hp
  unfold cellsTo at hp
  obtain ⟨j, hj, rfl⟩ := List.mem_map.1 hp
  have hj2 := List.mem_range.1 (List.mem_filter.1 hj).1
  unfold atC atR B64
  constructor <;> omega
theorem new3_at (w : World) (X Y : Obj) (a b : Int) (j : Nat) (u : Value) (h : [Value.int .i64 a, Value.int .i64 b][j]? = some u) : (((w.alloc X).alloc Y).alloc (.cells #[.int .i64 a, .int .i64 b] 35)).cell? ((⟨w.heap.size + 1 + 1, 0, none⟩ : Addr).add j) = some u := by
  match j, h with
  | 0, h => simp at h; subst h; simp [Addr.add, go_sem]
  | 1, h => simp at h; subst h; simp [Addr.add, go_sem]
set_option maxHeartbeats 4000000 in
set_option maxRecDepth 10000 in
theorem efilled_any (l : List Cel) (b : Nat) (p0 p1 p2 p3 : Int) (w : World) (hm : MapC w b l) :
    Calls Tryz.prog 97 #[.map (some b), .agg #[.int .i64 p0, .int .i64 p1, .int .i64 p2, .int .i64 p3]] w fun e w' => ∃ v, e = .returned v ∧ OwnV w.heap.size w' v (cIn l p0 p1 p2 p3) ∧ Below w.heap.size w w' := by
  obtain ⟨i0, hi0, hz0, hz1, hz2⟩ := info_parts value_info
  have HI0 := Lib.hid hi0
  have HZ0 := Lib.hid hz0
  have HZ1 := Lib.hid hz1
  have HZ2 := Lib.hid hz2
  clear hi0 hz0 hz1 hz2
  have HM := Lib.hid hm
  have HCl := Lib.hid (fun w => pcells_any p0 p1 p2 p3 w)
  have hcl := cellsTo_le p0 p1 p2 p3 1024
  have HB := Lib.hid (cells_b64 (a := p0) (b := p1) (c := p2) (d := p3) (n := 1024) (Nat.le_refl _))
  have HE : Hid (cIn l p0 p1 p2 p3 = fmT l (cellsTo p0 p1 p2 p3 1024) (cellsTo p0 p1 p2 p3 1024).length) := Lib.hid (by unfold fmT cIn; rw [List.take_length])
  generalize cIn l p0 p1 p2 p3 = R at *
  generalize cellsTo p0 p1 p2 p3 1024 = C at *
  clear hm
  go_enter Tryz.func97, Tryz.ntmps97
  go_wp2_with fail
  refine (HCl.out _).mono ?_; rintro e w1 ⟨v7, rfl, hown7, b1⟩
  obtain ⟨A7, cap7, rfl, hsh⟩ := own_shapeB hown7
  have HPA : Hid (PlA w1 (.slice none 0 0) A7 C) := Lib.hid fun j hj => by
    obtain ⟨g7, e, hb7, hl7, hat⟩ := hsh j hj
    exact ⟨g7, e, hl7, fun e2 => by simp [Value.ownBlock] at e2, hat⟩
  have hb1 : Below w.heap.size w w1 := ((Below.refl _ _).alloc (Nat.le_refl _) _).trans (b1.mono (by simp))
  clear hsh hown7 b1
  go_wp2_with fail
  go_loopw [5, 13] (fun v n wr => ∃ k : Nat, k ≤ C.length ∧ n = .int .i64 (k : Int) ∧ OwnV w.heap.size wr v (fmT l C k) ∧ Hid (PlA wr v A7 C) ∧ Below w.heap.size w wr) (fun _ n _ => C.length - (intOf n).toNat)
  case atStart => exact ⟨0, Nat.zero_le _, rfl, World.ownsRow_nil _ _ _ _, HPA, hb1⟩
  case round =>
    clear HPA hb1
    obtain ⟨k, hk2, rfl, hown2, HP2, hbel⟩ := hrel
    have HO := Lib.hid hown2
    have hfl := fm_le l C k
    have zs := hbel.size
    clear hown2
    by_cases hlt2 : k < C.length
    · obtain ⟨x, y, hxy⟩ : ∃ x y, C[k]? = some (x, y) := ⟨_, _, List.getElem?_eq_getElem hlt2⟩
      obtain ⟨g7, rfl, hg7, hn7, hat7⟩ := HP2.out k hlt2
      obtain ⟨a0, a1⟩ := hat7 k x y hxy
      clear hat7
      have HQ := Lib.hid (HB.out (x, y) (List.mem_of_getElem? hxy))
      have HMb : Hid (∀ w', Below wr.heap.size wr w' → MapC w' b l) := Lib.hid fun w' h => (HM.out.below hbel).below h
      have HY := Lib.hid (fun v => fm_yes (l := l) (v := v) hxy)
      have HN := Lib.hid (fm_no (l := l) hxy)
      clear hxy
      cases hv : cAt x y l with
      | none =>
        have HN2 := Lib.hid (HN.out hv)
        have HV : Hid (oN (cAt x y l) = 0 ∧ oF (cAt x y l) = 0 ∧ (cAt x y l).isSome = false) := Lib.hid (by rw [hv]; exact ⟨rfl, rfl, rfl⟩)
        have HF : Hid (∀ wf, Below wr.heap.size wr wf → ∃ k2 : Nat, k2 ≤ C.length ∧ Value.int .i64 ((k : Int) + 1) = .int .i64 (k2 : Int) ∧ OwnV w.heap.size wf u5 (fmT l C k2) ∧ Hid (PlA wf u5 (some ⟨g7, 0, none⟩) C) ∧ Below w.heap.size w wf) := Lib.hid fun wf bf => by
          refine ⟨k + 1, hlt2, by go_num, by rw [HN2.out]; exact own_below HO.out bf, Lib.hid fun j hj => ?_, hbel.trans (bf.mono zs)⟩
          obtain ⟨g', e, h1, h2, h3⟩ := HP2.out j hj
          exact ⟨g', e, Nat.lt_of_lt_of_le h1 bf.size, h2, at2_below h3 bf h1⟩
        clear HN HY hv HP2 HO
        go_wp2_with (at_lookup; refine wpList_cells_ok _ rfl _ _ rfl rfl (HMb.out _ (by repeat' (first | with_reducible exact Below.refl _ _ | with_reducible exact Nat.le_refl _ | with_reducible refine Below.alloc ?_ ?_ _))) HQ.out.1 HQ.out.2 rfl HV.out.1 HV.out.2.1 HV.out.2.2 ?_)
        go_roundw
        case rel => exact HF.out _ (by repeat' (first | with_reducible exact Below.refl _ _ | with_reducible exact Nat.le_refl _ | with_reducible refine Below.alloc ?_ ?_ _ | with_reducible refine Below.setCell ?_ ?_ _ | simp))
        case measure => simp [intOf]; omega
      | some p =>
        obtain ⟨pn, pf⟩ := p
        have HY2 := Lib.hid (HY.out (pn, pf) hv)
        have HV : Hid (oN (cAt x y l) = pn ∧ oF (cAt x y l) = pf ∧ (cAt x y l).isSome = true) := Lib.hid (by rw [hv]; exact ⟨rfl, rfl, rfl⟩)
        have HF : Hid (∀ w3 wf v', Below wr.heap.size wr w3 → wf.ownsRow w.heap.size 35 2 v' ((fmT l C k).length + 1) (cells2 (fmT l C k) ++ [.int .i64 pn, .int .i64 pf]) → w3.grownBy wf u5.ownBlock → (∀ q, v'.ownBlock = some q → u5.ownBlock = some q ∨ wr.heap.size ≤ q) → ∃ k2 : Nat, k2 ≤ C.length ∧ Value.int .i64 ((k : Int) + 1) = .int .i64 (k2 : Int) ∧ OwnV w.heap.size wf v' (fmT l C k2) ∧ Hid (PlA wf v' (some ⟨g7, 0, none⟩) C) ∧ Below w.heap.size w wf) := Lib.hid fun w3 wf v' b3 ho hg hq => by
          refine ⟨k + 1, hlt2, by go_num, ?_, Lib.hid fun j hj => ?_, (hbel.trans (b3.mono zs)).grown hg (Nat.le_trans zs b3.size) (fun q hk => (HO.out.lt q hk).1)⟩
          · unfold OwnV
            rw [HY2.out, List.length_append, cells2_app]
            exact ho
          · obtain ⟨g', e, h1, h2, h3⟩ := HP2.out j hj
            have hgl : g' < w3.heap.size := Nat.lt_of_lt_of_le h1 b3.size
            refine ⟨g', e, Nat.lt_of_lt_of_le hgl hg.size, fun e2 => ?_, ?_⟩
            · rcases hq g' e2 with h4 | h4
              · exact h2 h4
              · omega
            · have hat := at2_below h3 b3 h1
              intro a b c hi
              obtain ⟨s1, s2⟩ := hat a b c hi
              exact ⟨by rw [hg.cell_far _ hgl (fun e => h2 e.symm)]; exact s1, by rw [hg.cell_far _ hgl (fun e => h2 e.symm)]; exact s2⟩
        clear HN HY hv HP2
        go_wp2_with (first
          | (at_lookup; refine wpList_cells_ok _ rfl _ _ rfl rfl (HMb.out _ (by repeat' (first | with_reducible exact Below.refl _ _ | with_reducible exact Nat.le_refl _ | with_reducible refine Below.alloc ?_ ?_ _))) HQ.out.1 HQ.out.2 rfl HV.out.1 HV.out.2.1 HV.out.2.2 ?_)
          | (at_builtin; refine of_stop ?_))
        refine stop_of ?_
        have hO3 : ∀ wf, Below wr.heap.size wr wf → wf.ownsRow w.heap.size 35 2 u5 (fmT l C k).length (cells2 (fmT l C k)) := fun wf h => own_below HO.out h
        refine wpList_append_lies _ rfl _ _ 93 rfl w.heap.size 35 i0 (.agg #[.int .i64 0, .int .i64 0]) 2 16 Tryz.underlying93 HI0.out HZ0.out HZ1.out HZ2.out rfl (by decide) u5 _ _ rfl (hO3 _ (by repeat' (first | with_reducible exact Below.refl _ _ | with_reducible exact Nat.le_refl _ | with_reducible refine Below.alloc ?_ ?_ _ | (simp; omega) | simp)))
                       ⟨wr.heap.size + 1 + 1, 0, none⟩ 1 1 [.int .i64 pn, .int .i64 pf] rfl rfl (new3_at wr _ _ pn pf) (new2_one pn pf) (by decide) (by unfold maxLen; omega) (by omega) (by simp; omega) (wr.heap.size + 1 + 1 + 1) (by simp) ?_
        intro gq cq w4 hown4 hg4 hat4 _
        have hob : ∀ q, (Value.slice (some ⟨gq, 0, none⟩) ((fmT l C k).length + 1) cq).ownBlock = some q → u5.ownBlock = some q ∨ wr.heap.size ≤ q := fun q hq => by
          have e : gq = q := by simpa [Value.ownBlock] using hq
          subst e
          rcases hat4 with h | h
          · exact .inl h
          · right; omega
        have HR := Lib.hid (HF.out _ w4 _ (by repeat' (first | with_reducible exact Below.refl _ _ | with_reducible exact Nat.le_refl _ | with_reducible refine Below.alloc ?_ ?_ _ | (simp; omega) | simp)) hown4 hg4 hob)
        clear HF HO hown4 hg4 hat4 hob hO3
        go_wp2_with fail
        go_roundw
        case rel => exact HR.out
        case measure => simp [intOf]; omega
    · have hkk : k = C.length := by omega
      subst hkk
      have hown5 : OwnV w.heap.size wr u5 R := by
        rw [HE.out]; exact HO.out
      clear HO
      go_wp2_with fail
      go_ret
      exact ⟨_, rfl, hown5, hbel⟩
end Go.Proofs.YthaoalmhhgllmaaGreatDoor
namespace Go.Proofs.YthaoalmhhgllmaaGreatDoor
open Go.RowKit

theorem run_append_nil (w : World) (i : TypeInfo) (hi : Tryz.prog.info? 35 = some i) (ty : TypeId) {base : Nat} {v : Value} {X : List (Int × Int)} (hown : OwnV base w v X) :
    (Builtin.append_ #[93, 93] ty #[v, .slice none 0 0]).run Tryz.prog w = .ok v w := by
  rcases hown.2 with ⟨rfl, hl⟩ | ⟨g, cap, cur, rfl, _, hh, hn, _⟩
  · simp [Builtin.append_, run_underlying Tryz.underlying93, sizeOf, typeInfo, hi, Builtin.lenOf, Builtin.firstCells, loadCells, loadCellsFrom, storeCells]
  · simp [Builtin.append_, run_underlying Tryz.underlying93, sizeOf, typeInfo, hi, Builtin.lenOf, Builtin.firstCells, loadCells, loadCellsFrom, storeCells, hn]
theorem cells2_at' : ∀ (l : List (Int × Int)) (j : Nat) (u : Value), (cells2 l)[j]? = some u → ∃ i x y, l[i]? = some (x, y) ∧ ((j = i * 2 ∧ u = .int .i64 x) ∨ (j = i * 2 + 1 ∧ u = .int .i64 y))
  | [], j, u, h => by simp [cells2] at h
  | p :: t, 0, u, h => by
    have e : cells2 (p :: t) = .int .i64 p.1 :: .int .i64 p.2 :: cells2 t := rfl
    rw [e] at h; simp at h
    exact ⟨0, p.1, p.2, rfl, .inl ⟨rfl, h.symm⟩⟩
  | p :: t, 1, u, h => by
    have e : cells2 (p :: t) = .int .i64 p.1 :: .int .i64 p.2 :: cells2 t := rfl
    rw [e] at h; simp at h
    exact ⟨0, p.1, p.2, rfl, .inr ⟨rfl, h.symm⟩⟩
  | p :: t, j + 2, u, h => by
    have e : cells2 (p :: t) = .int .i64 p.1 :: .int .i64 p.2 :: cells2 t := rfl
    rw [e, List.getElem?_cons_succ, List.getElem?_cons_succ] at h
    obtain ⟨i, x, y, h1, h2⟩ := cells2_at' t j u h
    refine ⟨i + 1, x, y, h1, ?_⟩
    rcases h2 with ⟨rfl, rfl⟩ | ⟨rfl, rfl⟩
    · exact .inl ⟨by omega, rfl⟩
    · exact .inr ⟨by omega, rfl⟩
section
variable (w : World) {ops : Array Oper} {rest : List Oper} {o : Oper} {a : Act} {Q : Exit → Act → World → Prop}
theorem wpList_append_vals (hg : o.guard = none) (s x : Operand) (ho : o.op = .call { callee := .builtin .append, args := #[s, x], argTypes := #[93, 93] }) {base : Nat} {v : Value} {X : List (Int × Int)}
    (hs : a.eval s = v) (hown : OwnV base w v X) {A2 : Option Addr} {cap2 : Nat} {L2 : List (Int × Int)} (hx : a.eval x = .slice A2 L2.length cap2) (hL : ListV w A2 L2) (hnil : A2 = none → cap2 = 0) (hlen : X.length + L2.length ≤ 2000000000) (hbase : base ≤ w.heap.size)
    (h : ∀ v' w', OwnV base w' v' (X ++ L2) → w.grownBy w' v.ownBlock → wpList Tryz.prog ops Q rest (a.put o.dst v') w') : wpList Tryz.prog ops Q (o :: rest) a w := by
  obtain ⟨i0, hi0, hz0, hz1, hz2⟩ := info_parts value_info
  cases A2 with
  | none =>
    have hne : L2 = [] := by
      cases L2 with
      | nil => rfl
      | cons p t => obtain ⟨g, o, e, _⟩ := hL (by simp); cases e
    subst hne
    have hc := hnil rfl
    subst hc
    refine wpList_plain hg fun K' hK' => ?_
    have hr := run_append_nil w i0 hi0 o.type hown
    unfold Oper.wp execOp
    simp only [ho, resolve, invoke, builtin, Sem.run_bind, Sem.run_pure, Result.andThen_ok, List.map_toArray, List.map_cons, List.map_nil, hs, hx, List.length_nil, hr]
    exact hK' _ _ (h v w (by rw [List.append_nil]; exact hown) ⟨rfl, rfl, rfl, Nat.le_refl _, fun _ _ _ => rfl⟩)
  | some ad =>
    refine wpList_append_own w hg s x 93 ho base 35 i0 (.agg #[.int .i64 0, .int .i64 0]) 2 16 Tryz.underlying93 hi0 hz0 hz1 hz2 rfl (by decide) v X.length (cells2 X) hs hown ad L2.length cap2 (cells2 L2) hx (cells2_len L2) ?_ ?_ (by unfold maxLen; omega) (by omega) hbase fun v' w' hown' hg' _ => h v' w' (by unfold OwnV; rw [List.length_append, cells2_app]; exact hown') hg'
    · intro j u hj
      obtain ⟨i, p, q, hi, hpq⟩ := cells2_at' L2 j u hj
      obtain ⟨g, off, e, hat⟩ := hL (by rintro rfl; simp at hi)
      cases e
      obtain ⟨h1, h2⟩ := hat i p q hi
      rw [Go.WideShapes.add_plain]
      rcases hpq with ⟨rfl, rfl⟩ | ⟨rfl, rfl⟩
      · exact h1
      · rw [← Nat.add_assoc]; exact h2
    · intro u hu
      obtain ⟨j, hj⟩ := List.mem_iff_getElem?.1 hu
      obtain ⟨i, p, q, hi, hpq⟩ := cells2_at' L2 j u hj
      rcases hpq with ⟨_, rfl⟩ | ⟨_, rfl⟩ <;> rfl
end
theorem OwnV.shape2 {w : World} {base : Nat} {v : Value} {L : List (Int × Int)} (h : OwnV base w v L) :
    ∃ (A : Option Addr) (cap : Nat), v = .slice A L.length cap ∧ ListV w A L ∧ (A = none → cap = 0) := by
  rcases h.2 with ⟨rfl, hl⟩ | ⟨g, cap, cur, rfl, _, hh, _⟩
  · refine ⟨none, 0, by rw [hl], fun hne => ?_, fun _ => rfl⟩
    exact absurd (List.length_eq_zero_iff.1 hl) hne
  · refine ⟨_, cap, rfl, ?_, fun e => by cases e⟩
    obtain ⟨A', cap', e, hl⟩ := h.shape
    cases e
    exact hl
theorem one_list (w : World) (a b : Int) : ListV (w.alloc (.cells #[.int .i64 a, .int .i64 b] 35)) (some ⟨w.heap.size, 0, none⟩) [(a, b)] := fun _ => ⟨w.heap.size, 0, rfl, fun i x y hi => by
  match i, hi with
  | 0, hi => simp at hi; obtain ⟨rfl, rfl⟩ := hi; constructor <;> simp [go_sem]⟩
def RecC (l : List Cel) (t : Tr) : Prop := ∀ (w : World) (P : Nat → Prop) (A : Option Addr) (cap b : Nat), KV w P t A → MapC w b l →
  Calls Tryz.prog 18 #[.map (some b), .agg #[.int .i64 t.kind, .int .i64 t.num, .int .i64 t.c1, .int .i64 t.r1, .int .i64 t.c2, .int .i64 t.r2, .string ⟨t.word.toArray⟩, .slice A t.kids.length cap]] w fun e w' => e = .returned (.agg #[.int .i64 (cmT l t).1, .int .i64 (cmT l t).2]) ∧ Below w.heap.size w w'
def EItC (l : List Cel) (t : Tr) : Prop := ∀ (w : World) (P : Nat → Prop) (A : Option Addr) (cap b : Nat), KV w P t A → MapC w b l →
  Calls Tryz.prog 58 #[.map (some b), .slice A t.kids.length cap] w fun e w' => ∃ v, e = .returned v ∧ OwnV w.heap.size w' v (itL l t.kids) ∧ Below w.heap.size w w'
theorem itL_spn {l : List Cel} {ks : List Tr} {i : Nat} {u : Tr} (hu : ks[i]? = some u) (h6 : u.kind = 6) : itL l (ks.take (i + 1)) = itL l (ks.take i) ++ cIn l u.c1 u.r1 u.c2 u.r2 := by rw [itL_take hu, if_pos h6]
theorem keep8 {W w1 : World} {v0 v1 v2 v3 v4 v5 v6 v7 : Value} (b1 : Below (W.alloc (.cells #[v0, v1, v2, v3, v4, v5, v6, v7] 29)).heap.size (W.alloc (.cells #[v0, v1, v2, v3, v4, v5, v6, v7] 29)) w1) :
    Below W.heap.size W w1 ∧ W.heap.size < w1.heap.size := ⟨((Below.refl _ _).alloc (Nat.le_refl _) _).trans (b1.mono (by simp)), by have := b1.size; simp at this; omega⟩
set_option maxHeartbeats 4000000 in
set_option maxRecDepth 10000 in
theorem eitems_of {l : List Cel} (t : Tr) (hlen : t.kids.length ≤ 1000000) (ih : ∀ u ∈ t.kids, RecC l u) : EItC l t := by
  intro w P A cap b hk hm
  have HK := Lib.hid hk
  have HI := Lib.hid ih
  have HM := Lib.hid hm
  clear hk ih hm
  go_enter Tryz.func58, Tryz.ntmps58
  go_wp2_with fail
  go_loopw [5, 10] (fun v n wr => ∃ i : Nat, i ≤ t.kids.length ∧ n = .int .i64 (i : Int) ∧ OwnV w.heap.size wr v (itL l (t.kids.take i)) ∧ Below w.heap.size w wr) (fun _ n _ => t.kids.length - (intOf n).toNat)
  case atStart => exact ⟨0, Nat.zero_le _, rfl, by rw [List.take_zero, itL]; exact World.ownsRow_nil _ _ _ _, Below.refl _ _⟩
  case round =>
    obtain ⟨i, hi, rfl, hown, hbel⟩ := hrel
    have HO := Lib.hid hown
    have hle := itL_le l (t.kids.take i)
    have hlt1 : (t.kids.take i).length ≤ 1000000 := by rw [List.length_take]; omega
    have zs := hbel.size
    clear hown
    by_cases hlt : i < t.kids.length
    · have hu : t.kids[i]? = some (t.kids[i]'hlt) := List.getElem?_eq_getElem hlt
      obtain ⟨g, o, rfl⟩ := HK.out.addr hu
      obtain ⟨hg, A', cap', h8, hkv⟩ := HK.out.kidAt hbel hu
      have HT1 := Lib.hid (itL_tk (l := l) hu)
      have HT2 := Lib.hid (itL_spn (l := l) hu)
      have HCo := Lib.hid (fun w1 (hb : Below wr.heap.size wr w1) => HI.out _ (List.getElem_mem hlt) w1 _ A' cap' b (hkv.kept (Kept.of_below hb)) ((HM.out.below hbel).below hb))
      have HFl := Lib.hid (fun (w1 : World) (hb : Below wr.heap.size wr w1) p q r s => efilled_any l b p q r s w1 ((HM.out.below hbel).below hb))
      generalize t.kids[i]'hlt = u at *
      have hcl := cIn_le l u.c1 u.r1 u.c2 u.r2
      obtain ⟨q0, q1, q2, q3, q4, q5, q6, q7⟩ := h8
      clear hkv hu hg
      by_cases h6 : u.kind = 6
      · have d6 : (u.kind == 6) = true := by simpa using h6
        have HT := Lib.hid (HT2.out h6)
        have HF2 := Lib.hid (fun w1 hb => HFl.out w1 hb u.c1 u.r1 u.c2 u.r2)
        clear HT1 HT2 h6 HCo HFl
        generalize cIn l u.c1 u.r1 u.c2 u.r2 = L2 at *
        go_wp2_with fail
        refine (HF2.out _ ((Below.refl _ _).alloc (Nat.le_refl _) _)).mono ?_; rintro e w1 ⟨v2, rfl, hown2, b1⟩
        obtain ⟨hB1, zw⟩ := keep8 b1
        obtain ⟨A2, cap2, rfl, hL2, hnil⟩ := hown2.shape2
        have HO1 : Hid (OwnV w.heap.size w1 u5 (itL l (t.kids.take i))) := Lib.hid (own_below HO.out hB1)
        have hb1 := hbel.trans (hB1.mono zs)
        clear b1 hB1 hown2 q0 q1 q2 q3 q4 q5 q6 q7 HO HF2 d6
        go_wp2_with (at_builtin; refine of_stop ?_)
        refine stop_of ?_
        refine wpList_append_vals _ rfl _ _ rfl rfl HO1.out rfl hL2 hnil (by omega) (by omega) ?_
        intro v' w4 hown4 hg4
        have hb4 : Below w.heap.size w w4 := hb1.grown hg4 (by omega) (fun k hk => (HO1.out.lt k hk).1)
        rw [← HT.out] at hown4
        clear hg4 hL2 hnil HO1
        go_wp2_with fail
        go_roundw
        case rel => exact ⟨i + 1, by omega, by go_num, hown4, hb4⟩
        case measure => simp [intOf]; omega
      · have d6 : (u.kind == 6) = false := by simpa using h6
        have HT := Lib.hid (HT1.out h6)
        clear HT1 HT2 h6 HFl hcl
        generalize cmT l u = cu at *
        go_wp2_with fail
        refine Calls.mono (HCo.out _ ((Below.refl _ _).alloc (Nat.le_refl _) _)) ?_; rintro e w1 ⟨rfl, b1⟩
        obtain ⟨hB1, zw⟩ := keep8 b1
        have HO1 : Hid (OwnV w.heap.size w1 u5 (itL l (t.kids.take i))) := Lib.hid (own_below HO.out hB1)
        have hb1 := hbel.trans (hB1.mono zs)
        clear b1 hB1 q0 q1 q2 q3 q4 q5 q6 q7 HO HCo d6
        obtain ⟨cn, cf⟩ := cu
        go_wp2_with (at_builtin; refine of_stop ?_)
        refine stop_of ?_
        refine wpList_append_vals _ rfl _ _ rfl rfl (HO1.out.alloc _) (L2 := [(cn, cf)]) rfl (one_list w1 cn cf) (fun e => by cases e) (by simp; omega) (by simp; omega) ?_
        intro v' w4 hown4 hg4
        have hb4 : Below w.heap.size w w4 := (hb1.alloc hb1.size _).grown hg4 (by simp; omega) (fun k hk => (HO1.out.lt k hk).1)
        rw [← HT.out] at hown4
        clear hg4 HO1
        go_wp2_with fail
        go_roundw
        case rel => exact ⟨i + 1, by omega, by go_num, hown4, hb4⟩
        case measure => simp [intOf]; omega
    · have hii : i = t.kids.length := by omega
      subst hii
      go_wp2_with fail
      go_ret
      exact ⟨_, rfl, by have := HO.out; rwa [List.take_length] at this, hbel⟩
end Go.Proofs.YthaoalmhhgllmaaGreatDoor
namespace Go.Proofs.YthaoalmhhgllmaaGreatDoor
open Go.RowKit Go.Maps

theorem par2 {w w1 : World} (hb : Below (w.heap.size + 1) (w.alloc (.cells #[.int .i64 0, .int .i64 0] 35)) w1) :
    (w1.cell? ⟨w.heap.size, 0, none⟩ = some (.int .i64 0) ∧ w1.cell? ⟨w.heap.size, 1, none⟩ = some (.int .i64 0) ∧ w1.frozen? ⟨w.heap.size, 0, none⟩ = false ∧ w1.frozen? ⟨w.heap.size, 1, none⟩ = false) ∧ w.heap.size < w1.heap.size ∧ Below w.heap.size w w1 := by
  have hs := hb.size
  simp at hs
  refine ⟨⟨?_, ?_, ?_, ?_⟩, by omega, ((Below.refl _ _).alloc (Nat.le_refl _) _).trans (hb.mono (by omega))⟩
  all_goals first | (rw [hb.cell (by simp)]; simp [go_sem]; done) | (rw [hb.frozen (by simp)]; simp [go_sem])
def ChC (l : List Cel) (t : Tr) (f : FuncId) : Prop := ∀ (w : World) (P : Nat → Prop) (A : Option Addr) (cap b : Nat), KV w P t A → MapC w b l →
  Calls Tryz.prog f #[.map (some b), .slice A t.kids.length cap] w fun e w' => e = .returned (.agg #[.int .i64 (cmT l t).1, .int .i64 (cmT l t).2]) ∧ Below w.heap.size w w'
set_option maxHeartbeats 4000000 in
set_option maxRecDepth 100000 in
theorem choose_F {l : List Cel} (t a b c : Tr) (hlen : t.kids.length ≤ 1000000) (h5 : t.kind = 5) (hwd : t.word = [73, 70]) (h0 : t.kids[0]? = some a) (h1 : t.kids[1]? = some b) (h2 : t.kids[2]? = some c) (ih : ∀ u ∈ t.kids, RecC l u) (hf : (cmT l a).2 ≠ 0) : ChC l t 55 := by
  intro w P A cap B hk hm
  have HE : Hid (cmT l t = cmT l a) := Lib.hid (by rw [cm_if h5 hwd h0 h1 h2]; exact if_pos hf)
  obtain ⟨g, o, rfl⟩ := hk.addr h0
  have HA := Lib.hid (ih a (List.mem_of_getElem? h0))
  have HR := Lib.hid (ih a (List.mem_of_getElem? h0))
  have HK := Lib.hid hk
  have HM := Lib.hid hm
  have Ha := Lib.hid h0
  have Hz := Lib.hid h0
  have l2 : 2 < t.kids.length := (List.getElem?_eq_some_iff.1 h2).1
  have df : ((cmT l a).2 != 0) = true := by simpa using hf
  have hb0 : Below (w.heap.size + 1) (w.alloc (.cells #[.int .i64 0, .int .i64 0] 35)) (w.alloc (.cells #[.int .i64 0, .int .i64 0] 35)) := Below.refl _ _
  obtain ⟨⟨kr0, kr1, kf0, kf1⟩, kz0, kb⟩ := par2 hb0
  obtain ⟨hg, A0, c0, ⟨q0, q1, q2, q3, q4, q5, q6, q7⟩, hk0⟩ := HK.out.kidAt kb Ha.out
  simp only [Nat.zero_mul, Nat.add_zero] at q0 q1 q2 q3 q4 q5 q6 q7
  have HC0 := Lib.hid (HA.out _ _ A0 c0 B hk0 (HM.out.below kb))
  clear hk hm h0 h1 h2 ih h5 hwd hf hk0 hg HA kr0 kr1 kf0 kf1
  go_enter Tryz.func55, Tryz.ntmps55
  go_wp2_with fail
  refine Calls.mono HC0.out ?_; rintro e w1 ⟨rfl, b1⟩
  have hb1 := hb0.trans (b1.mono (by simp))
  obtain ⟨⟨mr0, mr1, mf0, mf1⟩, mz0, mb⟩ := par2 hb1
  clear b1 hb1 q0 q1 q2 q3 q4 q5 q6 q7 kb kz0
  go_wp2_with fail
  exact bodyPost_ret (v := .agg #[.int .i64 (cmT l a).1, .int .i64 (cmT l a).2]) (by simp [results, Tryz.results55, go_sem, mr0, mr1, mz0, mf0, mf1]) rfl ⟨by rw [HE.out], (by repeat' (first | with_reducible assumption | exact Nat.le_succ _ | with_reducible exact Nat.le_refl _ | with_reducible refine Below.setCell ?_ ?_ _ | with_reducible refine Below.alloc ?_ ?_ _ | (simp; omega)))⟩
set_option maxHeartbeats 4000000 in
set_option maxRecDepth 100000 in
theorem choose_Y {l : List Cel} (t a b c : Tr) (hlen : t.kids.length ≤ 1000000) (h5 : t.kind = 5) (hwd : t.word = [73, 70]) (h0 : t.kids[0]? = some a) (h1 : t.kids[1]? = some b) (h2 : t.kids[2]? = some c) (ih : ∀ u ∈ t.kids, RecC l u) (hf : (cmT l a).2 = 0) (hn : (cmT l a).1 ≠ 0) : ChC l t 55 := by
  intro w P A cap B hk hm
  have HE : Hid (cmT l t = cmT l b) := Lib.hid (by rw [cm_if h5 hwd h0 h1 h2]; rw [if_neg (fun h => h hf)]; exact if_pos hn)
  obtain ⟨g, o, rfl⟩ := hk.addr h0
  have HA := Lib.hid (ih a (List.mem_of_getElem? h0))
  have HR := Lib.hid (ih b (List.mem_of_getElem? h1))
  have HK := Lib.hid hk
  have HM := Lib.hid hm
  have Ha := Lib.hid h0
  have Hb := Lib.hid h1
  have l2 : 2 < t.kids.length := (List.getElem?_eq_some_iff.1 h2).1
  have df : ((cmT l a).2 != 0) = false := by simpa using hf
  have dn : ((cmT l a).1 != 0) = true := by simpa using hn
  have hb0 : Below (w.heap.size + 1) (w.alloc (.cells #[.int .i64 0, .int .i64 0] 35)) (w.alloc (.cells #[.int .i64 0, .int .i64 0] 35)) := Below.refl _ _
  obtain ⟨⟨kr0, kr1, kf0, kf1⟩, kz0, kb⟩ := par2 hb0
  obtain ⟨hg, A0, c0, ⟨q0, q1, q2, q3, q4, q5, q6, q7⟩, hk0⟩ := HK.out.kidAt kb Ha.out
  simp only [Nat.zero_mul, Nat.add_zero] at q0 q1 q2 q3 q4 q5 q6 q7
  have HC0 := Lib.hid (HA.out _ _ A0 c0 B hk0 (HM.out.below kb))
  clear hk hm h0 h1 h2 ih h5 hwd hf hn hk0 hg HA kr0 kr1 kf0 kf1
  go_enter Tryz.func55, Tryz.ntmps55
  go_wp2_with fail
  refine Calls.mono HC0.out ?_; rintro e w1 ⟨rfl, b1⟩
  have hb1 := hb0.trans (b1.mono (by simp))
  obtain ⟨⟨mr0, mr1, mf0, mf1⟩, mz0, mb⟩ := par2 hb1
  obtain ⟨hg2, A1, c1, ⟨p0, p1, p2, p3, p4, p5, p6, p7⟩, hk1⟩ := HK.out.kidAt mb Hb.out
  simp only [Nat.one_mul, Nat.reduceMul, Nat.add_assoc, Nat.reduceAdd] at p0 p1 p2 p3 p4 p5 p6 p7
  have HC1 := Lib.hid fun ob => HR.out (w1.alloc ob) _ A1 c1 B (hk1.kept (Kept.of_below ((Below.refl _ w1).alloc (Nat.le_refl _) ob))) ((HM.out.below mb).below ((Below.refl _ w1).alloc (Nat.le_refl _) ob))
  have zg : g < w1.heap.size := Lib.lt_of_cell p0
  clear b1 q0 q1 q2 q3 q4 q5 q6 q7 kb kz0 hk1 hg2
  go_wp2_with fail
  refine Calls.mono (HC1.out _) ?_; rintro e w2 ⟨rfl, b2⟩
  have hb2 := (hb1.alloc (by omega) _).trans (b2.mono (by simp; omega))
  obtain ⟨⟨nr0, nr1, nf0, nf1⟩, nz0, nb⟩ := par2 hb2
  clear b2 hb1 hb2 mr0 mr1 mf0 mf1 mz0 mb p0 p1 p2 p3 p4 p5 p6 p7
  go_wp2_with fail
  exact bodyPost_ret (v := .agg #[.int .i64 (cmT l b).1, .int .i64 (cmT l b).2]) (by simp [results, Tryz.results55, go_sem, nr0, nr1, nz0, nf0, nf1]) rfl ⟨by rw [HE.out], (by repeat' (first | with_reducible assumption | exact Nat.le_succ _ | with_reducible exact Nat.le_refl _ | with_reducible refine Below.setCell ?_ ?_ _ | with_reducible refine Below.alloc ?_ ?_ _ | (simp; omega)))⟩
set_option maxHeartbeats 4000000 in
set_option maxRecDepth 100000 in
theorem choose_N {l : List Cel} (t a b c : Tr) (hlen : t.kids.length ≤ 1000000) (h5 : t.kind = 5) (hwd : t.word = [73, 70]) (h0 : t.kids[0]? = some a) (h1 : t.kids[1]? = some b) (h2 : t.kids[2]? = some c) (ih : ∀ u ∈ t.kids, RecC l u) (hf : (cmT l a).2 = 0) (hn : (cmT l a).1 = 0) : ChC l t 55 := by
  intro w P A cap B hk hm
  have HE : Hid (cmT l t = cmT l c) := Lib.hid (by rw [cm_if h5 hwd h0 h1 h2]; rw [if_neg (fun h => h hf)]; exact if_neg (fun h => h hn))
  obtain ⟨g, o, rfl⟩ := hk.addr h0
  have HA := Lib.hid (ih a (List.mem_of_getElem? h0))
  have HR := Lib.hid (ih c (List.mem_of_getElem? h2))
  have HK := Lib.hid hk
  have HM := Lib.hid hm
  have Ha := Lib.hid h0
  have Hc := Lib.hid h2
  have l2 : 2 < t.kids.length := (List.getElem?_eq_some_iff.1 h2).1
  have df : ((cmT l a).2 != 0) = false := by simpa using hf
  have dn : ((cmT l a).1 != 0) = false := by simpa using hn
  have hb0 : Below (w.heap.size + 1) (w.alloc (.cells #[.int .i64 0, .int .i64 0] 35)) (w.alloc (.cells #[.int .i64 0, .int .i64 0] 35)) := Below.refl _ _
  obtain ⟨⟨kr0, kr1, kf0, kf1⟩, kz0, kb⟩ := par2 hb0
  obtain ⟨hg, A0, c0, ⟨q0, q1, q2, q3, q4, q5, q6, q7⟩, hk0⟩ := HK.out.kidAt kb Ha.out
  simp only [Nat.zero_mul, Nat.add_zero] at q0 q1 q2 q3 q4 q5 q6 q7
  have HC0 := Lib.hid (HA.out _ _ A0 c0 B hk0 (HM.out.below kb))
  clear hk hm h0 h1 h2 ih h5 hwd hf hn hk0 hg HA kr0 kr1 kf0 kf1
  go_enter Tryz.func55, Tryz.ntmps55
  go_wp2_with fail
  refine Calls.mono HC0.out ?_; rintro e w1 ⟨rfl, b1⟩
  have hb1 := hb0.trans (b1.mono (by simp))
  obtain ⟨⟨mr0, mr1, mf0, mf1⟩, mz0, mb⟩ := par2 hb1
  obtain ⟨hg2, A1, c1, ⟨p0, p1, p2, p3, p4, p5, p6, p7⟩, hk1⟩ := HK.out.kidAt mb Hc.out
  simp only [Nat.one_mul, Nat.reduceMul, Nat.add_assoc, Nat.reduceAdd] at p0 p1 p2 p3 p4 p5 p6 p7
  have HC1 := Lib.hid fun ob => HR.out (w1.alloc ob) _ A1 c1 B (hk1.kept (Kept.of_below ((Below.refl _ w1).alloc (Nat.le_refl _) ob))) ((HM.out.below mb).below ((Below.refl _ w1).alloc (Nat.le_refl _) ob))
  have zg : g < w1.heap.size := Lib.lt_of_cell p0
  clear b1 q0 q1 q2 q3 q4 q5 q6 q7 kb kz0 hk1 hg2
  go_wp2_with fail
  refine Calls.mono (HC1.out _) ?_; rintro e w2 ⟨rfl, b2⟩
  have hb2 := (hb1.alloc (by omega) _).trans (b2.mono (by simp; omega))
  obtain ⟨⟨nr0, nr1, nf0, nf1⟩, nz0, nb⟩ := par2 hb2
  clear b2 hb1 hb2 mr0 mr1 mf0 mf1 mz0 mb p0 p1 p2 p3 p4 p5 p6 p7
  go_wp2_with fail
  exact bodyPost_ret (v := .agg #[.int .i64 (cmT l c).1, .int .i64 (cmT l c).2]) (by simp [results, Tryz.results55, go_sem, nr0, nr1, nz0, nf0, nf1]) rfl ⟨by rw [HE.out], (by repeat' (first | with_reducible assumption | exact Nat.le_succ _ | with_reducible exact Nat.le_refl _ | with_reducible refine Below.setCell ?_ ?_ _ | with_reducible refine Below.alloc ?_ ?_ _ | (simp; omega)))⟩
set_option maxHeartbeats 4000000 in
set_option maxRecDepth 100000 in
theorem count_any {l : List Cel} (t : Tr) (hlen : t.kids.length ≤ 1000000) (h5 : t.kind = 5) (hwd : t.word = [67, 79, 85, 78, 84]) (hkd : ∀ u ∈ t.kids, u.kind = 6 ∨ u.kind = 2) (ih : ∀ u ∈ t.kids, RecC l u) : ChC l t 64 := by
  intro w P A cap B hk hm
  have HE1 : Hid ((t.kids.any fun u => u.kind == 2) = true → cmT l t = (0, 3)) := Lib.hid fun h => by rw [cm_count h5 hwd, if_pos h]
  have HE2 : Hid ((t.kids.any fun u => u.kind == 2) = false → cmT l t = (((itL l t.kids).length : Int), 0)) := Lib.hid fun h => by rw [cm_count h5 hwd, if_neg (by rw [h]; decide)]
  have HK := Lib.hid hk
  have HM := Lib.hid hm
  have HI := Lib.hid ih
  have HD := Lib.hid hkd
  clear hk hm ih h5 hwd hkd
  go_enter Tryz.func64, Tryz.ntmps64
  go_wp2_with fail
  go_loopw [5, 10] (fun nv vi wr => ∃ i : Nat, i ≤ t.kids.length ∧ vi = .int .i64 (i : Int) ∧ nv = .int .i64 ((itL l (t.kids.take i)).length : Int) ∧ Hid (((t.kids.take i).any fun u => u.kind == 2) = false) ∧ Below (w.heap.size + 1) (w.alloc (.cells #[.int .i64 0, .int .i64 0] 35)) wr) (fun _ vi _ => t.kids.length - (intOf vi).toNat)
  case atStart => exact ⟨0, Nat.zero_le _, rfl, by rw [List.take_zero, itL]; rfl, Lib.hid (by rw [List.take_zero]; rfl), Below.refl _ _⟩
  case round =>
    obtain ⟨i, hi, rfl, rfl, HT, hb0⟩ := hrel
    obtain ⟨⟨kr0, kr1, kf0, kf1⟩, kz0, kb⟩ := par2 hb0
    have hle := itL_le l (t.kids.take i)
    have hlt1 : (t.kids.take i).length ≤ 1000000 := by rw [List.length_take]; omega
    by_cases hlt2 : i < t.kids.length
    · have hu : t.kids[i]? = some (t.kids[i]'hlt2) := List.getElem?_eq_getElem hlt2
      obtain ⟨g, o, rfl⟩ := HK.out.addr hu
      obtain ⟨hg, A', cap', ⟨q0, q1, q2, q3, q4, q5, q6, q7⟩, hkv⟩ := HK.out.kidAt kb hu
      have HY := Lib.hid (any_yes hu)
      have HN := Lib.hid (any_no hu HT.out)
      have HSp := Lib.hid (itL_spn (l := l) hu)
      have hd := HD.out _ (List.getElem_mem hlt2)
      have HCo := Lib.hid (fun w1 (hb : Below wr.heap.size wr w1) => HI.out _ (List.getElem_mem hlt2) w1 _ A' cap' B (hkv.kept (Kept.of_below hb)) ((HM.out.below kb).below hb))
      have HFl := Lib.hid (fun (w1 : World) (hb : Below wr.heap.size wr w1) p q r s => efilled_any l B p q r s w1 ((HM.out.below kb).below hb))
      generalize t.kids[i]'hlt2 = u at *
      clear hkv hu hg
      by_cases h2 : u.kind = 2
      · have d2 : (u.kind == 2) = true := by simpa using h2
        have HE := Lib.hid (HE1.out (HY.out d2))
        have HB : Hid (cmT l u = (0, 3)) := Lib.hid (cm_bad (.inl h2))
        rw [HB.out] at HCo
        clear HY HN HE1 HE2 HSp HFl hd h2 HB
        go_wp2_with fail
        refine Calls.mono (HCo.out _ ((Below.refl _ _).alloc (Nat.le_refl _) _)) ?_; rintro e w1 ⟨rfl, b1⟩
        have hb1 := hb0.trans ((keep8 b1).1.mono (by omega))
        obtain ⟨⟨mr0, mr1, mf0, mf1⟩, mz0, mb⟩ := par2 hb1
        clear b1 hb1 q0 q1 q2 q3 q4 q5 q6 q7 HCo kr0 kr1 kf0 kf1 kz0 kb hb0
        go_wp2_with fail
        exact bodyPost_ret (v := .agg #[.int .i64 0, .int .i64 3]) (by simp [results, Tryz.results64, go_sem, mr0, mr1, mz0, mf0, mf1]) rfl ⟨by rw [HE.out], (by repeat' (first | with_reducible assumption | exact Nat.le_succ _ | with_reducible exact Nat.le_refl _ | with_reducible refine Below.setCell ?_ ?_ _ | with_reducible refine Below.alloc ?_ ?_ _ | (simp; omega)))⟩

      · have h6 : u.kind = 6 := hd.resolve_right h2
        have d2 : (u.kind == 2) = false := by simpa using h2
        have HT2 := Lib.hid (HN.out d2)
        have HL := Lib.hid (HSp.out h6)
        have hcl := cIn_le l u.c1 u.r1 u.c2 u.r2
        have HF2 := Lib.hid (fun w1 hb => HFl.out w1 hb u.c1 u.r1 u.c2 u.r2)
        clear HY HN HSp HFl hd h2 h6 HCo
        generalize cIn l u.c1 u.r1 u.c2 u.r2 = L2 at *
        generalize hX : itL l (t.kids.take i) = X at *
        have hXL : X.length + L2.length ≤ 2000000000 := by omega
        have hadd : IntKind.i64.wrap ((X.length : Int) + (L2.length : Int)) = (X.length : Int) + (L2.length : Int) := IntWalk.i64_in _ (by omega)
        go_wp2_with fail
        refine (HF2.out _ ((Below.refl _ _).alloc (Nat.le_refl _) _)).mono ?_; rintro e w1 ⟨v2, rfl, hown2, b1⟩
        obtain ⟨A2, cap2, rfl, _⟩ := hown2.shape
        have hB1 := (keep8 b1).1
        have hb1 := hb0.trans (hB1.mono (by omega))
        clear b1 hB1 hown2 q0 q1 q2 q3 q4 q5 q6 q7 HF2
        go_wp2_with fail
        go_roundw
        case rel => exact ⟨i + 1, by omega, by go_num, by rw [HL.out, List.length_append]; go_num, HT2, hb1⟩
        case measure => simp [intOf]; omega
    · have hii : i = t.kids.length := by omega
      subst hii
      have hz := HT.out
      rw [List.take_length] at hz hle
      have HE := Lib.hid (HE2.out hz)
      clear hz HE1 HE2
      generalize hX : itL l t.kids = X at *
      rw [List.take_length, hX]
      go_wp2_with fail
      exact bodyPost_ret (v := .agg #[.int .i64 X.length, .int .i64 0]) (by simp [results, Tryz.results64, go_sem, kr0, kr1, kz0, kf0, kf1]) rfl ⟨by rw [HE.out], (by repeat' (first | with_reducible assumption | exact Nat.le_succ _ | with_reducible exact Nat.le_refl _ | with_reducible refine Below.setCell ?_ ?_ _ | with_reducible refine Below.alloc ?_ ?_ _ | (simp; omega)))⟩
end Go.Proofs.YthaoalmhhgllmaaGreatDoor
