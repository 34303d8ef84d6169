/- The document's own cells of a range, in order. -/
import Derived.Test.YtmophlfpoehopaaDoorRefB
import Derived.OwnWalk
import Derived.Deep.Onto
namespace Go.Proofs.YtmophlfpoehopaaDoor
open Go.RowKit

theorem grown_of_below {w w' : World} (h : Below w.heap.size w w') (row : Option Nat) : w.grownBy w' row := ⟨h.os, h.tape, h.output, h.size, fun i hi _ => h.block i hi⟩
/-- A row of the call's own stays behind a call that only lays new blocks. -/
theorem own_below {w w' : World} {base : Nat} {e : TypeId} {size : Nat} {v : Value} {n : Nat} {xs : List Value} (h : w.ownsRow base e size v n xs) (hb : Below w.heap.size w w') : w'.ownsRow base e size v n xs :=
  h.kept (grown_of_below hb none) (by cases v.ownBlock <;> simp)
/-- places, as the cells of their list -/
def cells2 (l : List (Int × Int)) : List Value := l.flatMap fun p => [.int .i64 p.1, .int .i64 p.2]
theorem cells2_len (l : List (Int × Int)) : (cells2 l).length = l.length * 2 := by
  unfold cells2
  induction l with
  | nil => rfl
  | cons a t ih => rw [List.flatMap_cons, List.length_append, ih]; simp; omega
theorem cells2_snoc (l : List (Int × Int)) (x y : Int) : cells2 (l ++ [(x, y)]) = cells2 l ++ [.int .i64 x, .int .i64 y] := by
  unfold cells2; rw [List.flatMap_append]; rfl
/-- of the first i indexes, the places that a range has -/
def cellsTo (a b c d : Int) (i : Nat) : List (Int × Int) := ((List.range i).filter fun (j : Nat) => hasB a b c d (atC (j : Int)) (atR (j : Int))).map fun (j : Nat) => (atC (j : Int), atR (j : Int))
theorem cellsTo_zero (a b c d : Int) : cellsTo a b c d 0 = [] := rfl
theorem cellsTo_yes {a b c d : Int} {i : Nat} (h : hasB a b c d (atC i) (atR i) = true) : cellsTo a b c d (i + 1) = cellsTo a b c d i ++ [(atC i, atR i)] := by
  unfold cellsTo; rw [List.range_succ, List.filter_append, List.map_append]; simp [h]
theorem cellsTo_no {a b c d : Int} {i : Nat} (h : hasB a b c d (atC i) (atR i) = false) : cellsTo a b c d (i + 1) = cellsTo a b c d i := by
  unfold cellsTo; rw [List.range_succ, List.filter_append, List.map_append]; simp [h]
theorem cellsTo_le (a b c d : Int) (i : Nat) : (cellsTo a b c d i).length ≤ i := by
  unfold cellsTo; rw [List.length_map]; exact Nat.le_trans (List.length_filter_le _ _) (by simp)

theorem place_info : (Tryd.prog.info? 23).map (fun i => (i.zero, i.size, i.bytes)) = some (some (.agg #[.int .i64 0, .int .i64 0]), 2, 16) := by kernel_rfl

/-- how many indexes are left -/
def leftG (v : Value) : Nat := 1024 - (intOf v).toNat
set_option maxHeartbeats 2000000 in
set_option maxRecDepth 10000 in
theorem rcells_any (a b c d : Int) (w : World) :
    Calls Tryd.prog 27 #[.agg #[.int .i64 a, .int .i64 b, .int .i64 c, .int .i64 d]] w fun e w' => ∃ v, e = .returned v ∧
      w'.ownsRow w.heap.size 23 2 v (cellsTo a b c d 1024).length (cells2 (cellsTo a b c d 1024)) ∧ Below w.heap.size w w' := by
  obtain ⟨i0, hi0, hz0, hz1, hz2⟩ := info_parts place_info
  have HI := Lib.hid hi0
  have HZ0 := Lib.hid hz0
  have HZ1 := Lib.hid hz1
  have HZ2 := Lib.hid hz2
  clear hi0 hz0 hz1 hz2
  go_enter Tryd.func27, Tryd.ntmps27
  go_wp2_with fail
  go_loopw [3, 4] (fun v n wr => ∃ i : Nat, i ≤ 1024 ∧ n = .int .i64 i ∧ wr.ownsRow (w.heap.size + 1) 23 2 v (cellsTo a b c d i).length (cells2 (cellsTo a b c d i)) ∧
      Below (w.heap.size + 1) (w.alloc (.cells #[.int .i64 a, .int .i64 b, .int .i64 c, .int .i64 d] 37)) wr) (fun _ n _ => leftG n)
  case atStart => exact ⟨0, by omega, rfl, World.ownsRow_nil _ _ _ _, Below.refl _ _⟩
  case round =>
    obtain ⟨i, hi, rfl, hown, hb⟩ := hrel
    have HO := Lib.hid hown
    have hlen := cellsTo_le a b c d i
    have k0 : wr.cell? ⟨w.heap.size, 0, none⟩ = some (.int .i64 a) := by rw [hb.cell (by simp)]; simp
    have k1 : wr.cell? ⟨w.heap.size, 1, none⟩ = some (.int .i64 b) := by rw [hb.cell (by simp)]; simp
    have k2 : wr.cell? ⟨w.heap.size, 2, none⟩ = some (.int .i64 c) := by rw [hb.cell (by simp)]; simp
    have k3 : wr.cell? ⟨w.heap.size, 3, none⟩ = some (.int .i64 d) := by rw [hb.cell (by simp)]; simp
    have z0 : w.heap.size < wr.heap.size := by have := hb.size; simp at this; omega
    have b0 : Below w.heap.size w wr := ((Below.refl _ _).alloc (Nat.le_refl _) _).trans (hb.mono (by omega))
    clear hown
    by_cases hlt : i < 1024
    · have HH := Lib.hid (rhas_any a b c d (atC i) (atR i))
      go_wp2_with fail
      refine (rat_any _ _).mono ?_; rintro e w2 ⟨rfl, b2⟩
      have q0 := keep_cell b2 k0
      have q1 := keep_cell b2 k1
      have q2 := keep_cell b2 k2
      have q3 := keep_cell b2 k3
      have z2 : w.heap.size < w2.heap.size := by have := b2.size; omega
      have HO2 := Lib.hid (own_below HO.out b2)
      have hb2 := hb.trans (b2.mono (by omega))
      clear k0 k1 k2 k3
      cases hh : hasB a b c d (atC i) (atR i) with
      | true =>
        rw [hh] at HH
        have HS := Lib.hid (cellsTo_yes hh)
        clear hh
        go_wp2_with fail
        refine (HH.out _).mono ?_; rintro e w3 ⟨rfl, b3⟩
        have m0 := keep_fresh b3 0 (v := .int .i64 (atC i)) rfl
        have m1 := keep_fresh b3 1 (v := .int .i64 (atR i)) rfl
        have HO3 := Lib.hid (own_below (HO2.out.alloc _) b3)
        have hb3 := (hb2.alloc (by omega) _).trans (b3.mono (by simp; omega))
        have z3 : w.heap.size + 1 ≤ w3.heap.size := by have := b3.size; simp at this; omega
        have b3' := b0.trans (b2.mono (by omega))
        have b4 := (b3'.alloc (by omega) (.cells #[.int .i64 (atC i), .int .i64 (atR i)] 23)).trans (b3.mono (by simp; omega))
        clear b2 b3 q0 q1 q2 q3
        go_wp2_with (at_builtin
                     refine wpList_append_own _ rfl _ _ 42 rfl (w.heap.size + 1) 23 i0 (.agg #[.int .i64 0, .int .i64 0]) 2 16 Tryd.underlying42 HI.out HZ0.out HZ1.out HZ2.out rfl (by decide) _ _ _ rfl (HO3.out.alloc _)
                       ⟨w3.heap.size, 0, none⟩ 1 1 [.int .i64 (atC i), .int .i64 (atR i)] rfl rfl ?c1 ?c2 ?c3 ?c4 ?c5 ?_)
        case c1 =>
          intro j u hj
          match j, hj with
          | 0, hj => simp at hj; subst hj; simp [Addr.add]
          | 1, hj => simp at hj; subst hj; simp [Addr.add]
        case c2 => intro u hu; simp at hu; rcases hu with rfl | rfl <;> rfl
        case c3 => unfold maxLen; omega
        case c4 => omega
        case c5 => simp; omega
        intro v' w4 hown4 hg4 _
        rw [← cells2_snoc] at hown4
        have e5 : (cellsTo a b c d i).length + 1 = (cellsTo a b c d (i + 1)).length := by rw [HS.out]; simp
        rw [e5, ← HS.out] at hown4
        have HO4 := Lib.hid hown4
        clear hown4 e5
        have hb4 : Below (w.heap.size + 1) (w.alloc (.cells #[.int .i64 a, .int .i64 b, .int .i64 c, .int .i64 d] 37)) w4 := (hb3.alloc z3 _).grown hg4 (by simp; omega) (fun g hgg => (HO3.out.lt g hgg).1)
        clear hg4
        go_wp2_with fail
        go_roundw
        case rel => exact ⟨i + 1, by omega, by go_num, HO4.out, hb4⟩
        case measure => simp [leftG, intOf]; omega
      | false =>
        rw [hh] at HH
        have HS := Lib.hid (cellsTo_no hh)
        clear hh
        go_wp2_with fail
        refine (HH.out _).mono ?_; rintro e w3 ⟨rfl, b3⟩
        have HO3 := own_below (HO2.out.alloc _) b3
        have hb3 := (hb2.alloc (by omega) _).trans (b3.mono (by simp; omega))
        rw [← HS.out] at HO3
        have HO4 := Lib.hid HO3
        clear HO3 b2 b3 q0 q1 q2 q3
        go_wp2_with fail
        go_roundw
        case rel => exact ⟨i + 1, by omega, by go_num, HO4.out, hb3⟩
        case measure => simp [leftG, intOf]; omega
    · have hi2 : i = 1024 := by omega
      subst hi2
      go_wp2_with fail
      go_ret
      exact ⟨_, rfl, HO.out.mono (by omega), b0⟩
end Go.Proofs.YtmophlfpoehopaaDoor
