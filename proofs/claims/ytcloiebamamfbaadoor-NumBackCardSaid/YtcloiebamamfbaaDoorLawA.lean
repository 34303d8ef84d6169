/- The walk of the statement that holds sums, differences, products, quotients and negations against the document's own answers. -/
import Derived.Test.YtcloiebamamfbaaDoorAlive
import Derived.Test.YtcloiebamamfbaaDoorNumC
namespace Go.Proofs.YtcloiebamamfbaaDoor
open Go.RowKit

/-- what a quotient comes to, and whether it is told -/
def dN (a b : Int) : Int := if b = 0 then 0 else keep (inI (a.tdiv b)) (a.tdiv b)
def dB (a b : Int) : Bool := if b = 0 then false else inI (a.tdiv b)
theorem div_all (a b : Int) (ha : B64 a) (hb : B64 b) (w : World) :
    Calls Tryd.prog 12 #[.int .i64 a, .int .i64 b] w fun e w' => e = .returned (.tuple #[.int .i64 (dN a b), .bool (dB a b)]) ∧ Below w.heap.size w w' := by
  by_cases h : b = 0
  · subst h
    exact (div_zero a w).mono fun _ _ ⟨he, hw⟩ => ⟨he.trans (ret_pair (by unfold dN; rw [if_pos rfl]) (by unfold dB; rw [if_pos rfl])), hw ▸ Below.refl _ _⟩
  · exact (div_any a b ha hb h w).mono fun _ _ ⟨he, hw⟩ => ⟨he.trans (ret_pair (by unfold dN; rw [if_neg h]) (by unfold dB; rw [if_neg h])), hw⟩
theorem rdiv_all (a b : Int) (ha : B64 a) (hb : B64 b) (w : World) :
    Calls Tryd.prog 13 #[.int .i64 a, .int .i64 b] w fun e w' => e = .returned (.tuple #[.int .i64 (dN a b), .bool (dB a b)]) ∧ w = w' := by
  by_cases h : b = 0
  · subst h
    exact (rdiv_zero a w).mono fun _ _ ⟨he, hw⟩ => ⟨he.trans (ret_pair (by unfold dN; rw [if_pos rfl]) (by unfold dB; rw [if_pos rfl])), hw⟩
  · exact (rdiv_any a b ha hb h w).mono fun _ _ ⟨he, hw⟩ => ⟨he.trans (ret_pair (by unfold dN; rw [if_neg h]) (by unfold dB; rw [if_neg h])), hw⟩

set_option maxHeartbeats 1000000 in
set_option maxRecDepth 100000 in
theorem tells_any (a b : Int) (ha : B64 a) (hb : B64 b) (w : World) (hE : Env w) :
    Calls Tryd.prog 3 #[.int .i64 a, .int .i64 b] w fun e w' => e = .returned (.bool true) ∧ Below w.heap.size w w' := by
  have HE := Lib.hid hE
  have H6 := Lib.hid (add_any a b ha hb)
  have H7 := Lib.hid (radd_any a b ha hb)
  have H8 := Lib.hid (sub_any a b ha hb)
  have H9 := Lib.hid (rsub_any a b ha hb)
  have H10 := Lib.hid (mul_any a b ha hb)
  have H11 := Lib.hid (rmul_any a b ha hb)
  have H12 := Lib.hid (div_all a b ha hb)
  have H13 := Lib.hid (rdiv_all a b ha hb)
  have H14 := Lib.hid (neg_any a ha)
  have H15 := Lib.hid (rneg_any a ha)
  clear hE ha hb
  go_enter Tryd.func3, Tryd.ntmps3
  go_wp2_with fail
  refine (H6.out _).mono ?_; rintro e w1 ⟨rfl, h1⟩
  go_wp2_with fail
  refine (H7.out _).mono ?_; rintro e w2 ⟨rfl, rfl⟩
  go_wp2_with fail
  refine (H8.out _).mono ?_; rintro e w2 ⟨rfl, h2⟩
  have b2 := h1.trans (h2.mono h1.size)
  clear h1 h2
  go_wp2_with fail
  refine (H9.out _).mono ?_; rintro e w3 ⟨rfl, rfl⟩
  go_wp2_with fail
  refine (H10.out _).mono ?_; rintro e w3 ⟨rfl, h3⟩
  have b3 := b2.trans (h3.mono b2.size)
  clear b2 h3
  go_wp2_with fail
  refine (H11.out _).mono ?_; rintro e w4 ⟨rfl, rfl⟩
  go_wp2_with fail
  refine (H12.out _).mono ?_; rintro e w4 ⟨rfl, h4⟩
  have b4 := b3.trans (h4.mono b3.size)
  clear b3 h4
  go_wp2_with fail
  refine (H13.out _).mono ?_; rintro e w5 ⟨rfl, rfl⟩
  go_wp2_with fail
  refine (H14.out _).mono ?_; rintro e w5 ⟨rfl, h5⟩
  have b5 := b4.trans (h5.mono b4.size)
  clear b4 h5
  go_wp2_with fail
  refine (H15.out _).mono ?_; rintro e w6 ⟨rfl, rfl⟩
  have HE5 := Lib.hid (HE.out.below b5)
  go_wp2_with fail
  refine (alive_any _ HE5.out).mono ?_; rintro e w6 ⟨rfl, h6⟩
  have b6 := b5.trans (h6.mono b5.size)
  clear b5 h6
  go_wp2_with fail
  go_ret
  exact ⟨rfl, b6⟩
end Go.Proofs.YtcloiebamamfbaaDoor
