/- The contracts of num's arithmetic: what all and told answer, and Add, Sub, Mul, Div, Neg. -/
import Derived.Test.YtpnmefkbfonhpaaDoorProg
import Derived.Test.YtpnmefkbfonhpaaDoorPl
import Derived.Test.YtpnmefkbfonhpaaDoorRet
import Derived.WalkKit
import Derived.WalkSpells
import Derived.WalkLawsBesides
import Derived.Lib.Hide
import Derived.Deep.RegionWith
import Derived.WalkSmall
namespace Go.Proofs.YtpnmefkbfonhpaaDoor
open Go.RowKit


/-- the first k of the list are all true -/
def allUpTo (bs : List Bool) (k : Nat) : Bool := (bs.take k).all id
theorem allUpTo_zero (bs : List Bool) : allUpTo bs 0 = true := rfl
theorem allUpTo_succ (bs : List Bool) (k : Nat) (h : k < bs.length) (ha : allUpTo bs k = true) (hb : bs.getD k false = true) : allUpTo bs (k + 1) = true := by
  unfold allUpTo at *
  rw [List.take_succ_eq_append_getElem h, List.all_append, ha]
  simp [List.getD_eq_getElem?_getD, h] at hb
  simp [hb]
theorem all_false (bs : List Bool) (k : Nat) (h : k < bs.length) (hb : bs.getD k false = false) : bs.all id = false := by
  simp [List.getD_eq_getElem?_getD, h] at hb
  rw [List.all_eq_false]
  exact ⟨bs[k], List.getElem_mem h, by simp [hb]⟩
theorem all_true (bs : List Bool) (k : Nat) (h : bs.length ≤ k) (ha : allUpTo bs k = true) : bs.all id = true := by
  unfold allUpTo at ha
  rwa [List.take_of_length_le h] at ha

set_option maxHeartbeats 400000 in
theorem all_any (bs : List Bool) (b : Nat) (w : World) (hn : bs.length ≤ 1000) (hc : ∀ k, k < bs.length → w.cell? ⟨b, k, none⟩ = some (.bool (bs.getD k false))) :
    Calls Tryd.prog 40 #[.slice (some ⟨b, 0, none⟩) bs.length bs.length] w fun e w' => e = .returned (.bool (bs.all id)) ∧ w = w' := by
  have HC := Lib.hid hc
  clear hc
  go_enter Tryd.func40, Tryd.ntmps40
  go_wp2
  go_loop [7] (fun i => ∃ k : Nat, k ≤ bs.length ∧ i = .int .i64 k ∧ allUpTo bs k = true) (fun i => bs.length - (intOf i).toNat)
  case atStart => exact ⟨0, Nat.zero_le _, rfl, allUpTo_zero bs⟩
  case round =>
    obtain ⟨k, hk, rfl, ha⟩ := hrel
    have HA := Lib.hid ha
    clear ha
    by_cases hlt : k < bs.length
    · have hcell := HC.out k hlt
      cases hb : bs.getD k false
      · have hf := all_false bs k hlt hb
        rw [hb] at hcell
        have HF := Lib.hid hf
        clear hf hb
        go_wp2
        go_ret
        exact ⟨ret_bool HF.out.symm, rfl⟩
      · have hs := Lib.hid (allUpTo_succ bs k hlt HA.out hb)
        rw [hb] at hcell
        clear hb
        go_wp2
        go_round
        case rel => exact ⟨k + 1, by omega, by go_num, hs.out⟩
        case measure => simp [intOf]; omega
    · have hf := Lib.hid (all_true bs k (by omega) HA.out)
      go_wp2
      go_ret
      exact ⟨ret_bool hf.out.symm, rfl⟩
theorem all3 (x y z : Bool) (b : Nat) (w : World) (h0 : w.cell? ⟨b, 0, none⟩ = some (.bool x)) (h1 : w.cell? ⟨b, 1, none⟩ = some (.bool y)) (h2 : w.cell? ⟨b, 2, none⟩ = some (.bool z)) :
    Calls Tryd.prog 40 #[.slice (some ⟨b, 0, none⟩) 3 3] w fun e w' => e = .returned (.bool (x && y && z)) ∧ w = w' := by
  have h := all_any [x, y, z] b w (by simp) (fun k hk => by
    match k, hk with
    | 0, _ => exact h0
    | 1, _ => exact h1
    | 2, _ => exact h2)
  refine Calls.mono h fun e w' ⟨he, hw⟩ => ⟨he.trans (ret_bool (by simp [Bool.and_assoc])), hw⟩
theorem all2 (x y : Bool) (b : Nat) (w : World) (h0 : w.cell? ⟨b, 0, none⟩ = some (.bool x)) (h1 : w.cell? ⟨b, 1, none⟩ = some (.bool y)) :
    Calls Tryd.prog 40 #[.slice (some ⟨b, 0, none⟩) 2 2] w fun e w' => e = .returned (.bool (x && y)) ∧ w = w' := by
  have h := all_any [x, y] b w (by simp) (fun k hk => by
    match k, hk with
    | 0, _ => exact h0
    | 1, _ => exact h1)
  refine Calls.mono h fun e w' ⟨he, hw⟩ => ⟨he.trans (ret_bool (by simp)), hw⟩

theorem fresh_cell (W : World) (vs : Array Value) (t : TypeId) (b k : Nat) (hb : W.heap.size = b) : (W.alloc (.cells vs t)).cell? ⟨b, k, none⟩ = vs[k]? := by
  subst hb
  exact cell_of_row _ _ k vs t (0, 0) (heap_alloc_new W _)
theorem all3f (x y z : Bool) (b : Nat) (W : World) (hb : W.heap.size = b) :
    Calls Tryd.prog 40 #[.slice (some ⟨b, 0, none⟩) 3 3] (W.alloc (.cells #[.bool x, .bool y, .bool z] 4)) fun e w' => e = .returned (.bool (x && y && z)) ∧ W.alloc (.cells #[.bool x, .bool y, .bool z] 4) = w' :=
  all3 x y z b _ (fresh_cell W _ 4 b 0 hb) (fresh_cell W _ 4 b 1 hb) (fresh_cell W _ 4 b 2 hb)
theorem all2f (x y : Bool) (b : Nat) (W : World) (hb : W.heap.size = b) :
    Calls Tryd.prog 40 #[.slice (some ⟨b, 0, none⟩) 2 2] (W.alloc (.cells #[.bool x, .bool y] 4)) fun e w' => e = .returned (.bool (x && y)) ∧ W.alloc (.cells #[.bool x, .bool y] 4) = w' :=
  all2 x y b _ (fresh_cell W _ 4 b 0 hb) (fresh_cell W _ 4 b 1 hb)
theorem all2fd (x y : Bool) (b : Nat) (W : World) (hb : W.heap.size = b) :
    Calls Tryd.prog 40 #[.slice (some ⟨b, 0, none⟩) 2 2] (W.alloc (.cells #[.bool x, .bool y] 4)).drew fun e w' => e = .returned (.bool (x && y)) ∧ (W.alloc (.cells #[.bool x, .bool y] 4)).drew = w' :=
  all2 x y b _ (fresh_cell W _ 4 b 0 hb) (fresh_cell W _ 4 b 1 hb)

set_option maxHeartbeats 400000 in
theorem told_any (n : Int) (x : Bool) (w : World) :
    Calls Tryd.prog 39 #[.int .i64 n, .bool x] w fun e w' => e = .returned (.tuple #[.int .i64 (keep x n), .bool x]) ∧ w = w' := by
  cases x
  · go_enter Tryd.func39, Tryd.ntmps39
    go_wp2
    go_ret2
    exact ⟨rfl, rfl⟩
  · go_enter Tryd.func39, Tryd.ntmps39
    go_wp2
    go_ret2
    exact ⟨rfl, rfl⟩

set_option maxHeartbeats 400000 in
theorem add_any (a b : Int) (ha : B64 a) (hb : B64 b) (w : World) :
    Calls Tryd.prog 64 #[.int .i64 a, .int .i64 b] w fun e w' => e = .returned (.tuple #[.int .i64 (keep (inI (a + b)) (a + b)), .bool (inI (a + b))]) ∧ Below w.heap.size w w' := by
  have HF := Lib.hid (add_is a b ha hb)
  clear ha hb
  go_enter Tryd.func64, Tryd.ntmps64
  go_wp2_with fail
  refine (all3f _ _ _ _ _ rfl).mono ?_
  rintro e w1 ⟨rfl, rfl⟩
  go_wp2_with fail
  refine (all3f _ _ _ _ _ (by simp)).mono ?_
  rintro e w1 ⟨rfl, rfl⟩
  go_wp2_with fail
  refine (all2f _ _ _ _ (by simp)).mono ?_
  rintro e w1 ⟨rfl, rfl⟩
  go_wp2_with fail
  refine (told_any _ _ _).mono ?_
  rintro e w1 ⟨rfl, rfl⟩
  go_wp2_with fail
  go_ret2
  exact ⟨ret_pair (keep_eq HF.out wrap_of) HF.out, (((Below.refl _ _).alloc (Nat.le_refl _) _).alloc (by simp) _).alloc (by simp; omega) _⟩

set_option maxHeartbeats 400000 in
theorem sub_any (a b : Int) (ha : B64 a) (hb : B64 b) (w : World) :
    Calls Tryd.prog 43 #[.int .i64 a, .int .i64 b] w fun e w' => e = .returned (.tuple #[.int .i64 (keep (inI (a - b)) (a - b)), .bool (inI (a - b))]) ∧ Below w.heap.size w w' := by
  have HF := Lib.hid (sub_is a b ha hb)
  clear ha hb
  go_enter Tryd.func43, Tryd.ntmps43
  go_wp2_with fail
  refine (all3f _ _ _ _ _ rfl).mono ?_
  rintro e w1 ⟨rfl, rfl⟩
  go_wp2_with fail
  refine (all3f _ _ _ _ _ (by simp)).mono ?_
  rintro e w1 ⟨rfl, rfl⟩
  go_wp2_with fail
  refine (all2f _ _ _ _ (by simp)).mono ?_
  rintro e w1 ⟨rfl, rfl⟩
  go_wp2_with fail
  refine (told_any _ _ _).mono ?_
  rintro e w1 ⟨rfl, rfl⟩
  go_wp2_with fail
  go_ret2
  exact ⟨ret_pair (keep_eq HF.out wrap_of) HF.out, (((Below.refl _ _).alloc (Nat.le_refl _) _).alloc (by simp) _).alloc (by simp; omega) _⟩

set_option maxHeartbeats 400000 in
theorem neg_any (a : Int) (ha : B64 a) (w : World) :
    Calls Tryd.prog 32 #[.int .i64 a] w fun e w' => e = .returned (.tuple #[.int .i64 (keep (inI (-a)) (-a)), .bool (inI (-a))]) ∧ Below w.heap.size w w' := by
  have e0 : (0 : Int) - a = -a := by omega
  have H := Lib.hid (sub_any 0 a (by unfold B64; omega) ha)
  rw [e0] at H
  clear ha e0
  go_enter Tryd.func32, Tryd.ntmps32
  go_wp2_with fail
  refine (H.out _).mono ?_
  rintro e w1 ⟨rfl, hb⟩
  go_wp2_with fail
  go_ret2
  exact ⟨rfl, hb⟩

set_option maxHeartbeats 400000 in
theorem div_zero (a : Int) (w : World) :
    Calls Tryd.prog 47 #[.int .i64 a, .int .i64 0] w fun e w' => e = .returned (.tuple #[.int .i64 0, .bool false]) ∧ w = w' := by
  go_enter Tryd.func47, Tryd.ntmps47
  go_wp2
  go_ret2
  exact ⟨rfl, rfl⟩

set_option maxHeartbeats 400000 in
theorem div_any (a b : Int) (ha : B64 a) (hb : B64 b) (h0 : b ≠ 0) (w : World) :
    Calls Tryd.prog 47 #[.int .i64 a, .int .i64 b] w fun e w' => e = .returned (.tuple #[.int .i64 (keep (inI (a.tdiv b)) (a.tdiv b)), .bool (inI (a.tdiv b))]) ∧ Below w.heap.size w w' := by
  have HF := Lib.hid (tdiv_is a b ha hb h0)
  clear ha hb
  have hz : (b == 0) = false := by simpa using h0
  go_enter Tryd.func47, Tryd.ntmps47
  go_wp2_with fail
  go_region_with ((first | (go_at_call 40; refine (all2fd _ _ _ _ rfl).mono ?_; rintro e w1 ⟨rfl, rfl⟩) | (go_at_call 39; refine (told_any _ _ _).mono ?_; rintro e w1 ⟨rfl, rfl⟩)))
  all_goals
    go_wp2
    go_ret2
    exact ⟨ret_pair (keep_eq HF.out fun h => (IntWalk.i64_left _).trans (wrap_of h)) HF.out, below_drewN ((Below.refl _ _).alloc (Nat.le_refl _) _) 1⟩

set_option maxHeartbeats 400000 in
theorem mul_zero (a : Int) (w : World) :
    Calls Tryd.prog 45 #[.int .i64 a, .int .i64 0] w fun e w' => e = .returned (.tuple #[.int .i64 0, .bool true]) ∧ w = w' := by
  go_enter Tryd.func45, Tryd.ntmps45
  go_wp2
  go_ret2
  exact ⟨rfl, rfl⟩

set_option maxHeartbeats 400000 in
theorem mul_ne (a b : Int) (ha : B64 a) (hb : B64 b) (h0 : b ≠ 0) (w : World) :
    Calls Tryd.prog 45 #[.int .i64 a, .int .i64 b] w fun e w' => e = .returned (.tuple #[.int .i64 (keep (inI (a * b)) (a * b)), .bool (inI (a * b))]) ∧ Below w.heap.size w w' := by
  have HF := Lib.hid (mul_is a b ha hb h0)
  have HD := Lib.hid (div_any (wrap64 (a * b)) b (wrap_b64 _) hb h0)
  clear ha hb
  have hz : (b == 0) = false := by simpa using h0
  go_enter Tryd.func45, Tryd.ntmps45
  go_wp2_with fail
  refine (HD.out _).mono ?_
  rintro e w1 ⟨rfl, hb1⟩
  go_wp2_with fail
  refine (all2f _ _ _ _ rfl).mono ?_
  rintro e w2 ⟨rfl, rfl⟩
  go_wp2_with fail
  refine (told_any _ _ _).mono ?_
  rintro e w2 ⟨rfl, rfl⟩
  go_wp2_with fail
  go_ret2
  exact ⟨ret_pair (keep_eq HF.out wrap_of) HF.out, hb1.alloc hb1.size _⟩

/-- What a product comes to, whatever the numbers. -/
theorem mul_any (a b : Int) (ha : B64 a) (hb : B64 b) (w : World) :
    Calls Tryd.prog 45 #[.int .i64 a, .int .i64 b] w fun e w' => e = .returned (.tuple #[.int .i64 (keep (inI (a * b)) (a * b)), .bool (inI (a * b))]) ∧ Below w.heap.size w w' := by
  by_cases h0 : b = 0
  · subst h0
    refine (mul_zero a w).mono fun e w' ⟨he, hw⟩ => ⟨he.trans (ret_pair ?_ ?_), hw ▸ Below.refl _ _⟩
    · rw [Int.mul_zero]; rfl
    · rw [Int.mul_zero]; rfl
  · exact mul_ne a b ha hb h0 w
end Go.Proofs.YtpnmefkbfonhpaaDoor
