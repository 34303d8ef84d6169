/- The walk of the statement that holds sums, least and greatest values against the document's own answers. -/
import Derived.Test.YtpnmefkbfonhpaaDoorUaI
import Derived.Test.YtpnmefkbfonhpaaDoorVaG
namespace Go.Proofs.YtpnmefkbfonhpaaDoor
open Go.RowKit

set_option maxHeartbeats 400000 in
theorem vall_long (A : Option Addr) (n cap : Nat) (w : World) (hn : 200 < n) (hE : EnvV w) :
    Calls Tryd.prog 4 #[.slice A n cap] w fun e w' => e = .returned (.bool true) ∧ Below w.heap.size w w' := by
  have HE := Lib.hid hE
  have d0 : decide ((200 : Int) < (n : Int)) = true := decide_eq_true (by omega)
  clear hE hn
  go_enter Tryd.func4, Tryd.ntmps4
  go_wp2_with fail
  refine (valive_any _ HE.out).mono ?_; rintro e w1 ⟨rfl, b1⟩
  go_wp2_with fail
  go_ret
  exact ⟨rfl, b1⟩

set_option maxHeartbeats 2000000 in
theorem vall_short (l : List (Int × Int)) (hl : l.length ≤ 200) (hlb : ∀ q ∈ l, B64 q.1) (A : Option Addr) (cap : Nat) (w : World) (hc : ListV w A l) (hE : EnvV w) :
    Calls Tryd.prog 4 #[.slice A l.length cap] w fun e w' => e = .returned (.bool true) ∧ Below w.heap.size w w' := by
  have hm : l.length ≤ maxLen := by unfold maxLen; omega
  have HE := Lib.hid hE
  have HC := Lib.hid hc
  have H1 := Lib.hid fun W hW => usum_any l hm hlb A cap W hW
  have H2 := Lib.hid fun W hW => vsum_any l hm hlb A cap W hW
  have H3 := Lib.hid fun W hW => uleast_any l hm hlb A cap W hW
  have H4 := Lib.hid fun W hW => vlow_any l hm A cap W hW
  have H5 := Lib.hid fun W hW => ugreatest_any l hm hlb A cap W hW
  have H6 := Lib.hid fun W hW => vtop_any l hm A cap W hW
  generalize allV gAdd (0, 0) l = X at *
  generalize mostV gLow l = Y at *
  generalize mostV gTop l = Z at *
  have d0 : decide ((200 : Int) < (l.length : Int)) = false := decide_eq_false (by omega)
  generalize hL : l.length = L at *
  clear hE hc hl hlb hm hL
  have e1 := fun W => eql_vself X.1 X.2 W
  have e2 := fun W => eql_vself Y.1 Y.2 W
  have e3 := fun W => eql_vself Z.1 Z.2 W
  have q1 := fun op x y W => guard_val op x y #[.int .i64 X.1, .int .i64 X.2] #[.int .i64 X.1, .int .i64 X.2] W
  have q2 := fun op x y W => guard_val op x y #[.int .i64 Y.1, .int .i64 Y.2] #[.int .i64 Y.1, .int .i64 Y.2] W
  have q3 := fun op x y W => guard_val op x y #[.int .i64 Z.1, .int .i64 Z.2] #[.int .i64 Z.1, .int .i64 Z.2] W
  go_enter Tryd.func4, Tryd.ntmps4
  go_wp2_with fail
  refine (valive_any _ HE.out).mono ?_; rintro e w1 ⟨rfl, b1⟩
  go_wp2_with fail
  refine (H1.out _ (HC.out.below b1)).mono ?_; rintro e w2 ⟨rfl, b2⟩
  have h2 := b1.trans (b2.mono b1.size)
  go_wp2_with fail
  refine (H2.out _ (HC.out.below h2)).mono ?_; rintro e w3 ⟨rfl, b3⟩
  have h3 := h2.trans (b3.mono h2.size)
  go_wp2_with fail
  refine (H3.out _ (HC.out.below h3)).mono ?_; rintro e w4 ⟨rfl, b4⟩
  have h4 := h3.trans (b4.mono h3.size)
  go_wp2_with fail
  refine (H4.out _ (HC.out.below h4)).mono ?_; rintro e w5 ⟨rfl, b5⟩
  have h5 := h4.trans (b5.mono h4.size)
  go_wp2_with fail
  refine (H5.out _ (HC.out.below h5)).mono ?_; rintro e w6 ⟨rfl, b6⟩
  have h6 := h5.trans (b6.mono h5.size)
  go_wp2_with fail
  refine (H6.out _ (HC.out.below h6)).mono ?_; rintro e w7 ⟨rfl, b7⟩
  have h7 := h6.trans (b7.mono h6.size)
  go_wp2_with fail
  go_ret
  exact ⟨rfl, h7⟩
theorem vallaw_any (l : List (Int × Int)) (hlb : ∀ q ∈ l, B64 q.1) (A : Option Addr) (cap : Nat) (w : World) (hc : ListV w A l) (hE : EnvV w) :
    Calls Tryd.prog 4 #[.slice A l.length cap] w fun e w' => e = .returned (.bool true) ∧ Below w.heap.size w w' := by
  by_cases h : l.length ≤ 200
  · exact vall_short l h hlb A cap w hc hE
  · exact vall_long A l.length cap w (by omega) hE
end Go.Proofs.YtpnmefkbfonhpaaDoor
