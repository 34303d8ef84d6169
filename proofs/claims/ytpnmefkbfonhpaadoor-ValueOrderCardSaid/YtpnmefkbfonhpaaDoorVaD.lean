/- The document's own texts of values. -/
import Derived.Test.YtpnmefkbfonhpaaDoorVaC
import Derived.Test.YtpnmefkbfonhpaaDoorNumD
namespace Go.Proofs.YtpnmefkbfonhpaaDoor
open Go.RowKit

/-- a value's text -/
def vText (n f : Int) : List UInt8 :=
  if vRight n f = true then
    if f = 1 then [35, 79, 86, 69, 82] else if f = 2 then [35, 68, 73, 86] else if f = 3 then [35, 82, 69, 70] else if f = 4 then [35, 67, 89, 67, 76, 69] else Lib.itoa n
  else []
set_option maxHeartbeats 1000000 in
theorem vtext_any (n f : Int) (hn : B64 n) (w : World) :
    Calls Tryd.prog 14 #[.agg #[.int .i64 n, .int .i64 f]] w fun e w' => e = .returned (.string ⟨(vText n f).toArray⟩) ∧ Below w.heap.size w w' := by
  have HR := Lib.hid (vright_any n f)
  cases hr : vRight n f with
  | false =>
    have e1 := Lib.hid (show vText n f = [] from if_neg (by rw [hr]; decide))
    rw [hr] at HR
    clear hr hn
    go_enter Tryd.func14, Tryd.ntmps14
    go_wp2_with fail
    refine (HR.out _).mono ?_; rintro e w1 ⟨rfl, b1⟩
    have h1 : Below w.heap.size w w1 := ((Below.refl _ _).alloc (Nat.le_refl _) _).trans (b1.mono (by simp))
    go_wp2_with fail
    go_ret
    exact ⟨ret_str (by rw [e1.out]), h1⟩
  | true =>
    have ht : vText n f = if f = 1 then [35, 79, 86, 69, 82] else if f = 2 then [35, 68, 73, 86] else if f = 3 then [35, 82, 69, 70] else if f = 4 then [35, 67, 89, 67, 76, 69] else Lib.itoa n := if_pos hr
    have hq : f = 0 ∨ 1 ≤ f ∧ f ≤ 4 ∧ n = 0 := of_decide_eq_true hr
    have H := Lib.hid (rtext_any n hn)
    rw [hr] at HR
    clear hr hn
    by_cases h0 : f = 0
    · subst h0
      have e1 := Lib.hid (show vText n 0 = Lib.itoa n from ht)
      clear ht hq
      go_enter Tryd.func14, Tryd.ntmps14
      go_wp2_with fail
      refine (HR.out _).mono ?_; rintro e w1 ⟨rfl, b1⟩
      have k0 := keep_fresh b1 0 (v := .int .i64 n) rfl
      have k1 := keep_fresh b1 1 (v := .int .i64 0) rfl
      have h1 : Below w.heap.size w w1 := ((Below.refl _ _).alloc (Nat.le_refl _) _).trans (b1.mono (by simp))
      clear b1
      go_wp2_with fail
      refine (H.out _).mono ?_; rintro e w2 ⟨rfl, b2⟩
      go_wp2_with fail
      go_ret
      exact ⟨ret_str (by rw [e1.out]), h1.trans (b2.mono h1.size)⟩
    · have hq2 : f = 1 ∨ f = 2 ∨ f = 3 ∨ f = 4 := by omega
      have Ht := Lib.hid ht
      clear ht hq h0
      rcases hq2 with rfl | rfl | rfl | rfl
      all_goals
        go_enter Tryd.func14, Tryd.ntmps14
        go_wp2_with fail
        refine (HR.out _).mono ?_; rintro e w1 ⟨rfl, b1⟩
        have k1 := keep_cell b1 (p := ⟨w.heap.size, 1, none⟩) (by simp [go_sem]; rfl)
        have h1 : Below w.heap.size w w1 := ((Below.refl _ _).alloc (Nat.le_refl _) _).trans (b1.mono (by simp))
        clear b1
        go_wp2_with fail
        go_ret
        exact ⟨ret_str (by rw [Ht.out]; rfl), h1⟩
end Go.Proofs.YtpnmefkbfonhpaaDoor
