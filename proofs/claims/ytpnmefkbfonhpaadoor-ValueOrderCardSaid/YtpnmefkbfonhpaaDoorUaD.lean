/- What package value makes of a list of values: Sum, Least, Greatest. -/
import Derived.Test.YtpnmefkbfonhpaaDoorUaC
namespace Go.Proofs.YtpnmefkbfonhpaaDoor
open Go.RowKit

/-- what Sum, Least, Greatest do with two numbers -/
def gAdd (a b : Int) : Int × Int := vTold (a + b)
def gLow (a b : Int) : Int × Int := (if b < a then b else a, 0)
def gTop (a b : Int) : Int × Int := (if a < b then b else a, 0)
theorem told_b64 (n : Int) : B64 (vTold n).1 := by
  unfold vTold tNum
  simp only
  split
  · rename_i h
    rw [h]
    have : B64 n := by unfold inI at h; unfold B64; simpa using h
    simpa [keep] using this
  · unfold B64; omega
theorem gAdd_stays : StaysV gAdd := fun a b _ _ => told_b64 (a + b)
theorem gLow_stays : StaysV gLow := fun a b ha hb => by unfold gLow; simp only; split <;> assumption
theorem gTop_stays : StaysV gTop := fun a b ha hb => by unfold gTop; simp only; split <;> assumption
/-- the first of a list, and what becomes of it -/
def mostV (G : Int → Int → Int × Int) (l : List (Int × Int)) : Int × Int := allV G (l.headD (0, 0)) l
/-- where an argument list of values stands -/
def ListV (w : World) (A : Option Addr) (l : List (Int × Int)) : Prop := l ≠ [] → ∃ g o, A = some ⟨g, o, none⟩ ∧ AtV w g o l
theorem ListV.below {w w' : World} {A : Option Addr} {l : List (Int × Int)} (h : ListV w A l) (hb : Below w.heap.size w w') : ListV w' A l := fun hl => by
  obtain ⟨g, o, e, ha⟩ := h hl
  exact ⟨g, o, e, ha.below hb⟩

set_option maxHeartbeats 1000000 in
theorem umost_any {F : Nat} {G : Int → Int → Int × Int} (hA : ActC F G) (hG : StaysV G) (l : List (Int × Int)) (hl : l.length ≤ maxLen) (hlb : ∀ q ∈ l, B64 q.1) (A : Option Addr) (cap : Nat) (w : World) (hc : ListV w A l) :
    Calls Tryd.prog 35 #[.slice A l.length cap, .func (.func F) #[] #[]] w fun e w' =>
      e = .returned (.agg #[.int .i64 (mostV G l).1, .int .i64 (mostV G l).2]) ∧ Below w.heap.size w w' := by
  cases l with
  | nil =>
    clear hc hlb hl hG hA
    go_enter Tryd.func35, Tryd.ntmps35
    go_wp2_with fail
    exact bodyPost_ret (v := .agg #[.int .i64 0, .int .i64 0]) (by simp [results, Tryd.results35, go_sem]) rfl ⟨rfl, (Below.refl _ _).alloc (Nat.le_refl _) _⟩
  | cons q r =>
    obtain ⟨x, y⟩ := q
    have HM := Lib.hid fun W hW => uall_any hA hG ((x, y) :: r) hl hlb x y (hlb (x, y) (by simp)) A cap W hW
    have HC := Lib.hid hc
    obtain ⟨g, o, rfl, ha⟩ := hc (by simp)
    obtain ⟨a0, a1⟩ := ha 0 x y rfl
    have e0 : o + 0 * 2 = o := by omega
    rw [e0] at a0 a1
    have zg : g < w.heap.size := Lib.lt_of_cell a0
    have hlen : (((x, y) :: r).length : Int) = (r.length : Int) + 1 := by simp
    have hne : ((((x, y) :: r).length : Int) == 0) = false := by rw [beq_eq_false_iff_ne]; omega
    have hpos : (0 : Int) < (((x, y) :: r).length : Int) := by omega
    have HX : Hid (mostV G ((x, y) :: r) = allV G (x, y) ((x, y) :: r)) := Lib.hid rfl
    rw [HX.out]
    clear HX ha hlb hl hG hA hlen e0 hc
    generalize allV G (x, y) ((x, y) :: r) = X at *
    generalize hL : ((x, y) :: r).length = L at *
    clear hL
    go_enter Tryd.func35, Tryd.ntmps35
    go_wp2_with fail
    refine (HM.out _ (HC.out.below ((Below.refl _ _).alloc (Nat.le_refl _) _))).mono ?_; rintro e w1 ⟨rfl, b1⟩
    have k0 := keep_cell b1 (p := ⟨w.heap.size, 0, none⟩) (v := .int .i64 0) (by simp [go_sem])
    have k1 := keep_cell b1 (p := ⟨w.heap.size, 1, none⟩) (v := .int .i64 0) (by simp [go_sem])
    have f0 := keep_frozen b1 (p := ⟨w.heap.size, 0, none⟩) (by simp) (by simp [go_sem])
    have f1 := keep_frozen b1 (p := ⟨w.heap.size, 1, none⟩) (by simp) (by simp [go_sem])
    have h1 : Below w.heap.size w w1 := ((Below.refl _ _).alloc (Nat.le_refl _) _).trans (b1.mono (by simp))
    clear b1
    go_wp2_with fail
    exact bodyPost_ret (v := .agg #[.int .i64 X.1, .int .i64 X.2]) (by simp [results, Tryd.results35, go_sem, k0, k1]) rfl ⟨rfl, (h1.setCell (by simp) _).setCell (by simp) _⟩

set_option maxHeartbeats 1000000 in
theorem usum_any (l : List (Int × Int)) (hl : l.length ≤ maxLen) (hlb : ∀ q ∈ l, B64 q.1) (A : Option Addr) (cap : Nat) (w : World) (hc : ListV w A l) :
    Calls Tryd.prog 17 #[.slice A l.length cap] w fun e w' => e = .returned (.agg #[.int .i64 (allV gAdd (0, 0) l).1, .int .i64 (allV gAdd (0, 0) l).2]) ∧ Below w.heap.size w w' := by
  have HM := Lib.hid (fun W hW => uall_any (G := gAdd) act_add gAdd_stays l hl hlb 0 0 (by unfold B64; omega) A cap W hW)
  have HC := Lib.hid hc
  clear hc hlb hl
  generalize allV gAdd (0, 0) l = X at *
  generalize hL : l.length = L at *
  clear hL
  have hmf : ∀ (fn : Fn) (first cap : Array Value) (w : World), (Instr.makeFunc fn first cap).run Tryd.prog w = .ok (.func fn first cap) w := fun _ _ _ _ => rfl
  go_enter Tryd.func17, Tryd.ntmps17
  go_wp2_with fail
  refine (HM.out _ (HC.out.below ((Below.refl _ _).alloc (Nat.le_refl _) _))).mono ?_; rintro e w1 ⟨rfl, b1⟩
  have k0 := keep_cell b1 (p := ⟨w.heap.size, 0, none⟩) (v := .int .i64 0) (by simp [go_sem])
  have k1 := keep_cell b1 (p := ⟨w.heap.size, 1, none⟩) (v := .int .i64 0) (by simp [go_sem])
  have f0 := keep_frozen b1 (p := ⟨w.heap.size, 0, none⟩) (by simp) (by simp [go_sem])
  have f1 := keep_frozen b1 (p := ⟨w.heap.size, 1, none⟩) (by simp) (by simp [go_sem])
  have h1 : Below w.heap.size w w1 := ((Below.refl _ _).alloc (Nat.le_refl _) _).trans (b1.mono (by simp))
  clear b1
  go_wp2_with fail
  exact bodyPost_ret (v := .agg #[.int .i64 X.1, .int .i64 X.2]) (by simp [results, Tryd.results17, go_sem, k0, k1]) rfl ⟨rfl, (h1.setCell (by simp) _).setCell (by simp) _⟩

set_option maxHeartbeats 1000000 in
theorem uleast_any (l : List (Int × Int)) (hl : l.length ≤ maxLen) (hlb : ∀ q ∈ l, B64 q.1) (A : Option Addr) (cap : Nat) (w : World) (hc : ListV w A l) :
    Calls Tryd.prog 19 #[.slice A l.length cap] w fun e w' => e = .returned (.agg #[.int .i64 (mostV gLow l).1, .int .i64 (mostV gLow l).2]) ∧ Below w.heap.size w w' := by
  have HM := Lib.hid (fun W hW => umost_any (G := gLow) act_least gLow_stays l hl hlb A cap W hW)
  have HC := Lib.hid hc
  clear hc hlb hl
  generalize mostV gLow l = X at *
  generalize hL : l.length = L at *
  clear hL
  have hmf : ∀ (fn : Fn) (first cap : Array Value) (w : World), (Instr.makeFunc fn first cap).run Tryd.prog w = .ok (.func fn first cap) w := fun _ _ _ _ => rfl
  go_enter Tryd.func19, Tryd.ntmps19
  go_wp2_with fail
  refine (HM.out _ (HC.out.below ((Below.refl _ _).alloc (Nat.le_refl _) _))).mono ?_; rintro e w1 ⟨rfl, b1⟩
  have k0 := keep_cell b1 (p := ⟨w.heap.size, 0, none⟩) (v := .int .i64 0) (by simp [go_sem])
  have k1 := keep_cell b1 (p := ⟨w.heap.size, 1, none⟩) (v := .int .i64 0) (by simp [go_sem])
  have f0 := keep_frozen b1 (p := ⟨w.heap.size, 0, none⟩) (by simp) (by simp [go_sem])
  have f1 := keep_frozen b1 (p := ⟨w.heap.size, 1, none⟩) (by simp) (by simp [go_sem])
  have h1 : Below w.heap.size w w1 := ((Below.refl _ _).alloc (Nat.le_refl _) _).trans (b1.mono (by simp))
  clear b1
  go_wp2_with fail
  exact bodyPost_ret (v := .agg #[.int .i64 X.1, .int .i64 X.2]) (by simp [results, Tryd.results19, go_sem, k0, k1]) rfl ⟨rfl, (h1.setCell (by simp) _).setCell (by simp) _⟩

set_option maxHeartbeats 1000000 in
theorem ugreatest_any (l : List (Int × Int)) (hl : l.length ≤ maxLen) (hlb : ∀ q ∈ l, B64 q.1) (A : Option Addr) (cap : Nat) (w : World) (hc : ListV w A l) :
    Calls Tryd.prog 21 #[.slice A l.length cap] w fun e w' => e = .returned (.agg #[.int .i64 (mostV gTop l).1, .int .i64 (mostV gTop l).2]) ∧ Below w.heap.size w w' := by
  have HM := Lib.hid (fun W hW => umost_any (G := gTop) act_most gTop_stays l hl hlb A cap W hW)
  have HC := Lib.hid hc
  clear hc hlb hl
  generalize mostV gTop l = X at *
  generalize hL : l.length = L at *
  clear hL
  have hmf : ∀ (fn : Fn) (first cap : Array Value) (w : World), (Instr.makeFunc fn first cap).run Tryd.prog w = .ok (.func fn first cap) w := fun _ _ _ _ => rfl
  go_enter Tryd.func21, Tryd.ntmps21
  go_wp2_with fail
  refine (HM.out _ (HC.out.below ((Below.refl _ _).alloc (Nat.le_refl _) _))).mono ?_; rintro e w1 ⟨rfl, b1⟩
  have k0 := keep_cell b1 (p := ⟨w.heap.size, 0, none⟩) (v := .int .i64 0) (by simp [go_sem])
  have k1 := keep_cell b1 (p := ⟨w.heap.size, 1, none⟩) (v := .int .i64 0) (by simp [go_sem])
  have f0 := keep_frozen b1 (p := ⟨w.heap.size, 0, none⟩) (by simp) (by simp [go_sem])
  have f1 := keep_frozen b1 (p := ⟨w.heap.size, 1, none⟩) (by simp) (by simp [go_sem])
  have h1 : Below w.heap.size w w1 := ((Below.refl _ _).alloc (Nat.le_refl _) _).trans (b1.mono (by simp))
  clear b1
  go_wp2_with fail
  exact bodyPost_ret (v := .agg #[.int .i64 X.1, .int .i64 X.2]) (by simp [results, Tryd.results21, go_sem, k0, k1]) rfl ⟨rfl, (h1.setCell (by simp) _).setCell (by simp) _⟩
end Go.Proofs.YtpnmefkbfonhpaaDoor
