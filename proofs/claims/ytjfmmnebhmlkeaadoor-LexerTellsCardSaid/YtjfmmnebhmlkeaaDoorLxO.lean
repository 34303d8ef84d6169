/- The walk of the statement on blanks: the short ways. -/
import Derived.Test.YtjfmmnebhmlkeaaDoorLxN
namespace Go.Proofs.YtjfmmnebhmlkeaaDoor
open Go.RowKit

set_option maxHeartbeats 400000 in
set_option maxRecDepth 100000 in
theorem lblanks_long (hA : AliveC) (s : ByteArray) (u : Int) (hl : 300 < s.size) (hs : s.size ≤ 9223372036854775807) (w : World) (hE : EnvL w) :
    Calls Tryd.prog 4 #[.string s, .int .u8 u] w fun e w' => e = .returned (.bool true) ∧ Below w.heap.size w w' := by
  have H := Lib.hid (hA w hE)
  have d0 : decide ((300 : Int) < (s.size : Int)) = true := decide_eq_true (by omega)
  clear hl hA hE
  go_enter Tryd.func4, Tryd.ntmps4
  go_wp2_with fail
  refine H.out.mono ?_; rintro e w1 ⟨rfl, b1⟩
  go_wp2_with fail
  go_ret
  exact ⟨rfl, b1⟩
set_option maxHeartbeats 2000000 in
set_option maxRecDepth 100000 in
theorem lblanks_err (hS : ScanC) (hA : AliveC) (s : ByteArray) (u : Int) (hu : 0 ≤ u ∧ u ≤ 255) (hl : s.size ≤ 300) (hx : ansE s.data.toList ≠ 0) (w : World) (hE : EnvL w) :
    Calls Tryd.prog 4 #[.string s, .int .u8 u] w fun e w' => e = .returned (.bool true) ∧ Below w.heap.size w w' := by
  have h1 := hS s hl
  rw [ans_err hx] at h1
  have H1 := Lib.hid h1
  have HE := Lib.hid hE
  have HA := Lib.hid hA
  have d0 : decide ((300 : Int) < (s.size : Int)) = false := decide_eq_false (by omega)
  generalize ansP s.data.toList = P at *
  generalize ansE s.data.toList = E at *
  have d1 : (E != 0) = true := by rw [bne_iff_ne]; exact hx
  obtain ⟨u0, u1⟩ := hu
  clear hl hA hE hS h1 hx
  go_enter Tryd.func4, Tryd.ntmps4
  go_wp2_with fail
  refine (H1.out _ HE.out).mono ?_; rintro e w1 ⟨v1, rfl, ho1, b1⟩
  obtain ⟨A, ca, rfl, _, _⟩ := tok_shape ho1
  have HE1 := Lib.hid (HE.out.below b1)
  clear ho1
  go_wp2_with fail
  refine (HA.out _ HE1.out).mono ?_; rintro e w2 ⟨rfl, b2⟩
  have h2 := b1.trans (b2.mono b1.size)
  go_wp2_with fail
  go_ret
  exact ⟨rfl, h2⟩
set_option maxHeartbeats 2000000 in
set_option maxRecDepth 100000 in
theorem lblanks_over (hS : ScanC) (hA : AliveC) (s : ByteArray) (u : Int) (hu : 0 ≤ u ∧ u ≤ 255) (hl : s.size ≤ 300) (hx : ansE s.data.toList = 0) (h9 : 90 < s.size) (w : World) (hE : EnvL w) :
    Calls Tryd.prog 4 #[.string s, .int .u8 u] w fun e w' => e = .returned (.bool true) ∧ Below w.heap.size w w' := by
  have h1 := hS s hl
  rw [hx] at h1
  have H1 := Lib.hid h1
  have HE := Lib.hid hE
  have HA := Lib.hid hA
  have d0 : decide ((300 : Int) < (s.size : Int)) = false := decide_eq_false (by omega)
  have d9 : decide ((90 : Int) < (s.size : Int)) = true := decide_eq_true (by omega)
  generalize ansP s.data.toList = P at *
  generalize ansL s.data.toList = L at *
  obtain ⟨u0, u1⟩ := hu
  clear hl hA hE hS h1 hx h9
  by_cases hn : L.length = 0
  · have dn : ((L.length : Int) == 0) = true := by rw [beq_iff_eq]; omega
    clear hn
    go_enter Tryd.func4, Tryd.ntmps4
    go_wp2_with fail
    refine (H1.out _ HE.out).mono ?_; rintro e w1 ⟨v1, rfl, ho1, b1⟩
    obtain ⟨A, ca, rfl, _, _⟩ := tok_shape ho1
    have HE1 := Lib.hid (HE.out.below b1)
    clear ho1
    go_wp2_with fail
    refine (HA.out _ HE1.out).mono ?_; rintro e w2 ⟨rfl, b2⟩
    have h2 := b1.trans (b2.mono b1.size)
    go_wp2_with fail
    go_ret
    exact ⟨rfl, h2⟩
  · have dn : ((L.length : Int) == 0) = false := by rw [beq_eq_false_iff_ne]; omega
    clear hn
    go_enter Tryd.func4, Tryd.ntmps4
    go_wp2_with fail
    refine (H1.out _ HE.out).mono ?_; rintro e w1 ⟨v1, rfl, ho1, b1⟩
    obtain ⟨A, ca, rfl, _, _⟩ := tok_shape ho1
    have HE1 := Lib.hid (HE.out.below b1)
    clear ho1
    go_wp2_with fail
    refine (HA.out _ HE1.out).mono ?_; rintro e w2 ⟨rfl, b2⟩
    have h2 := b1.trans (b2.mono b1.size)
    have HE2 := Lib.hid (HE.out.below h2)
    go_wp2_with fail
    refine (HA.out _ HE2.out).mono ?_; rintro e w3 ⟨rfl, b3⟩
    have h3 := h2.trans (b3.mono h2.size)
    go_wp2_with fail
    go_ret
    exact ⟨rfl, h3⟩
end Go.Proofs.YtjfmmnebhmlkeaaDoor
