/- The walk of the statement that holds tokens against the document's own. -/
import Derived.Test.YtjfmmnebhmlkeaaDoorLxJ
namespace Go.Proofs.YtjfmmnebhmlkeaaDoor
open Go.RowKit

theorem one_pos' {l : List UInt8} {p n : Nat} {t : Tok} (hp : p < l.length) (h : oneT l p = some (t, n)) : 0 < n ∧ p + n ≤ l.length := by
  have e1 : (⟨l.toArray⟩ : ByteArray).data.toList = l := by simp
  have e2 : (⟨l.toArray⟩ : ByteArray).size = l.length := by show l.toArray.size = l.length; simp
  have := one_pos ⟨l.toArray⟩ (p := p) (n := n) (t := t) (by rw [e2]; exact hp) (by rw [e1]; exact h)
  rwa [e2] at this
theorem scan_len {l : List UInt8} : ∀ (k p : Nat) (acc a : List Tok) (q : Nat), p ≤ l.length → scanF l k p acc = (some a, q) → a.length ≤ acc.length + (l.length - p)
  | 0, p, acc, a, q, _, h => by simp [scanF] at h
  | k + 1, p, acc, a, q, hp, h => by
    unfold scanF at h
    split at h
    · rename_i hlt
      split at h
      · have := scan_len k (p + 1) acc a q (by omega) h; omega
      · split at h
        · simp at h
        · rename_i t n ho
          obtain ⟨h0, h1⟩ := one_pos' hlt ho
          have := scan_len k (p + n) (acc ++ [t]) a q h1 h
          simp at this
          omega
    · simp at h
      rw [← h.1]; omega
theorem ans_len (l : List UInt8) : (ansL l).length ≤ 1000 := by
  unfold ansL
  split
  · simp
  · cases hs : scanT l with
    | mk o q =>
      cases o with
      | none => simp
      | some a =>
        have := scan_len (l.length + 1) 0 [] a q (Nat.zero_le _) hs
        simp at this ⊢
        omega
set_option maxHeartbeats 400000 in
theorem ltells_long (hA : AliveC) (s : ByteArray) (hl : 300 < s.size) (hs : s.size ≤ 9223372036854775807) (w : World) (hE : EnvL w) :
    Calls Tryd.prog 3 #[.string s] w fun e w' => e = .returned (.bool true) ∧ Below w.heap.size w w' := by
  have H := Lib.hid (hA w hE)
  have d0 : decide ((300 : Int) < (s.size : Int)) = true := decide_eq_true (by omega)
  clear hl hA hE
  go_enter Tryd.func3, Tryd.ntmps3
  go_wp2_with fail
  refine H.out.mono ?_; rintro e w1 ⟨rfl, b1⟩
  go_wp2_with fail
  go_ret
  exact ⟨rfl, b1⟩
set_option maxHeartbeats 2000000 in
theorem ltells_short (hS : ScanC) (hA : AliveC) (s : ByteArray) (hl : s.size ≤ 300) (w : World) (hE : EnvL w) :
    Calls Tryd.prog 3 #[.string s] w fun e w' => e = .returned (.bool true) ∧ Below w.heap.size w w' := by
  have H1 := Lib.hid (hS s hl)
  have H2 := Lib.hid (lscan_any s (by omega))
  have HL := Lib.hid (ans_len s.data.toList)
  have HE := Lib.hid hE
  have HA := Lib.hid hA
  have d0 : decide ((300 : Int) < (s.size : Int)) = false := decide_eq_false (by omega)
  clear hl hA hE hS
  generalize ansL s.data.toList = L at *
  generalize ansP s.data.toList = P at *
  generalize ansE s.data.toList = E at *
  go_enter Tryd.func3, Tryd.ntmps3
  go_wp2_with fail
  refine (H1.out _ HE.out).mono ?_; rintro e w1 ⟨v1, rfl, ho1, b1⟩
  have O1 := Lib.hid ho1
  clear ho1
  go_wp2_with fail
  refine (H2.out _).mono ?_; rintro e w2 ⟨v2, rfl, ho2, b2⟩
  have O2 := Lib.hid ho2
  have O1' := Lib.hid (own_below' O1.out b2)
  have h2 := b1.trans (b2.mono b1.size)
  clear ho2 O1
  go_wp2_with fail
  refine (lof_any L HL.out O1'.out).mono ?_; rintro e w3 ⟨v3, rfl, ho3, b3⟩
  have O3 := Lib.hid ho3
  have O2' := Lib.hid (own_below' O2.out b3)
  have h3 := h2.trans (b3.mono h2.size)
  clear ho3 O2
  go_wp2_with fail
  refine (lsame_self L O3.out O2'.out).mono ?_; rintro e w4 ⟨rfl, nd, rfl⟩
  have h4 := below_drewN h3 nd
  have HE4 := Lib.hid (HE.out.below h4)
  go_wp2_with fail
  refine (HA.out _ HE4.out).mono ?_; rintro e w5 ⟨rfl, b5⟩
  have h5 := h4.trans (b5.mono h4.size)
  go_wp2_with fail
  go_ret
  exact ⟨rfl, h5⟩
theorem ltells_any (hS : ScanC) (hA : AliveC) (s : ByteArray) (hs : s.size ≤ 9223372036854775807) (w : World) (hE : EnvL w) :
    Calls Tryd.prog 3 #[.string s] w fun e w' => e = .returned (.bool true) ∧ Below w.heap.size w w' := by
  by_cases hl : s.size ≤ 300
  · exact ltells_short hS hA s hl w hE
  · exact ltells_long hA s (by omega) hs w hE
end Go.Proofs.YtjfmmnebhmlkeaaDoor
