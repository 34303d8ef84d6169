/- The document's own answers on values: which may be; a number that is told, or Over; 1, or 0. -/
import Derived.Test.YtpnmefkbfonhpaaDoorMem
import Derived.Test.YtpnmefkbfonhpaaDoorPl
import Derived.WalkSpells
import Derived.WalkLawsBesides
namespace Go.Proofs.YtpnmefkbfonhpaaDoor
open Go.RowKit

/-- may a value be? -/
def vRight (n f : Int) : Bool := decide (f = 0 ∨ 1 ≤ f ∧ f ≤ 4 ∧ n = 0)
set_option maxHeartbeats 400000 in
theorem vright_at (n f : Int) (w : World) (b0 b1 b2 b3 b4 bn : Bool) (h0 : (f == 0) = b0) (h1 : (f == 1) = b1) (h2 : (f == 2) = b2) (h3 : (f == 3) = b3) (h4 : (f == 4) = b4) (hn : (n == 0) = bn) :
    Calls Tryd.prog 11 #[.agg #[.int .i64 n, .int .i64 f]] w fun e w' => e = .returned (.bool (b0 || (b1 || b2 || b3 || b4) && bn)) ∧ Below w.heap.size w w' := by
  cases b0 <;> cases b1 <;> cases b2 <;> cases b3 <;> cases b4 <;> cases bn
  all_goals
    go_enter Tryd.func11, Tryd.ntmps11
    go_wp2_with fail
    go_ret
    exact ⟨rfl, (Below.refl _ _).alloc (Nat.le_refl _) _⟩
theorem vright_any (n f : Int) (w : World) :
    Calls Tryd.prog 11 #[.agg #[.int .i64 n, .int .i64 f]] w fun e w' => e = .returned (.bool (vRight n f)) ∧ Below w.heap.size w w' :=
  (vright_at n f w _ _ _ _ _ _ rfl rfl rfl rfl rfl rfl).mono fun _ _ ⟨he, hb⟩ => ⟨he.trans (ret_bool (by
    unfold vRight
    rw [Bool.eq_iff_iff]
    simp only [Bool.or_eq_true, Bool.and_eq_true, beq_iff_eq, decide_eq_true_eq]
    omega)), hb⟩

/-- a number, if it is told; else 0 -/
def tNum (ok : Bool) (n : Int) : Int := if ok = true then n else 0
def tFault (ok : Bool) : Int := if ok = true then 0 else 1
set_option maxHeartbeats 400000 in
theorem vtold_any (n : Int) (ok : Bool) (w : World) :
    Calls Tryd.prog 55 #[.int .i64 n, .bool ok] w fun e w' => e = .returned (.agg #[.int .i64 (tNum ok n), .int .i64 (tFault ok)]) ∧ Below w.heap.size w w' := by
  cases ok
  · go_enter Tryd.func55, Tryd.ntmps55
    go_wp2_with fail
    exact bodyPost_ret (v := .agg #[.int .i64 0, .int .i64 1]) (by simp [results, Tryd.results55, go_sem]) rfl ⟨rfl, (Below.refl _ _).alloc (Nat.le_refl _) _⟩
  · go_enter Tryd.func55, Tryd.ntmps55
    go_wp2_with fail
    exact bodyPost_ret (v := .agg #[.int .i64 n, .int .i64 0]) (by simp [results, Tryd.results55, go_sem]) rfl ⟨rfl, (Below.refl _ _).alloc (Nat.le_refl _) _⟩
/-- 1, or 0 -/
def tru (b : Bool) : Int := if b = true then 1 else 0
set_option maxHeartbeats 400000 in
theorem vtruth_any (b : Bool) (w : World) :
    Calls Tryd.prog 60 #[.bool b] w fun e w' => e = .returned (.agg #[.int .i64 (tru b), .int .i64 0]) ∧ Below w.heap.size w w' := by
  cases b
  · go_enter Tryd.func60, Tryd.ntmps60
    go_wp2_with fail
    exact bodyPost_ret (v := .agg #[.int .i64 0, .int .i64 0]) (by simp [results, Tryd.results60, go_sem]) rfl ⟨rfl, (Below.refl _ _).alloc (Nat.le_refl _) _⟩
  · go_enter Tryd.func60, Tryd.ntmps60
    go_wp2_with fail
    exact bodyPost_ret (v := .agg #[.int .i64 1, .int .i64 0]) (by simp [results, Tryd.results60, go_sem]) rfl ⟨rfl, (Below.refl _ _).alloc (Nat.le_refl _) _⟩
end Go.Proofs.YtpnmefkbfonhpaaDoor
