/- The document's own tokens: bytes, figures, words, marks. -/
import Derived.Test.YtjfmmnebhmlkeaaDoorMem
import Derived.Test.YtjfmmnebhmlkeaaDoorTx
import Derived.WalkSpells
import Derived.WalkLawsBesides
namespace Go.Proofs.YtjfmmnebhmlkeaaDoor
open Go.RowKit

/-- is a byte a figure; a letter, or a figure? -/
def isFig (c : UInt8) : Bool := decide (48 ≤ c.toNat ∧ c.toNat ≤ 57)
def isNam (c : UInt8) : Bool := decide (65 ≤ c.toNat ∧ c.toNat ≤ 90 ∨ 48 ≤ c.toNat ∧ c.toNat ≤ 57)
set_option maxHeartbeats 400000 in
theorem lfigure_at (c : Int) (w : World) (b0 b1 : Bool) (h0 : decide ((48 : Int) ≤ c) = b0) (h1 : decide (c ≤ 57) = b1) :
    Calls Tryd.prog 20 #[.int .u8 c] w fun e w' => e = .returned (.bool (b0 && b1)) ∧ w = w' := by
  cases b0 <;> cases b1
  all_goals
    go_enter Tryd.func20, Tryd.ntmps20
    go_wp2_with fail
    go_ret
    exact ⟨rfl, rfl⟩
theorem lfigure_any (c : UInt8) (w : World) :
    Calls Tryd.prog 20 #[.int .u8 (c.toNat : Int)] w fun e w' => e = .returned (.bool (isFig c)) ∧ w = w' :=
  (lfigure_at c.toNat w _ _ rfl rfl).mono fun _ _ ⟨he, hb⟩ => ⟨he.trans (ret_bool (by
    unfold isFig
    rw [Bool.eq_iff_iff]
    simp only [Bool.and_eq_true, decide_eq_true_eq]
    omega)), hb⟩
set_option maxHeartbeats 400000 in
theorem lnamed_at (c : Int) (w : World) (b0 b1 b2 b3 : Bool) (h0 : decide ((65 : Int) ≤ c) = b0) (h1 : decide (c ≤ 90) = b1) (h2 : decide ((48 : Int) ≤ c) = b2) (h3 : decide (c ≤ 57) = b3) :
    Calls Tryd.prog 22 #[.int .u8 c] w fun e w' => e = .returned (.bool (b0 && b1 || b2 && b3)) ∧ w = w' := by
  cases b0 <;> cases b1 <;> cases b2 <;> cases b3
  all_goals
    go_enter Tryd.func22, Tryd.ntmps22
    go_wp2_with fail
    go_ret
    exact ⟨rfl, rfl⟩
theorem lnamed_any (c : UInt8) (w : World) :
    Calls Tryd.prog 22 #[.int .u8 (c.toNat : Int)] w fun e w' => e = .returned (.bool (isNam c)) ∧ w = w' :=
  (lnamed_at c.toNat w _ _ _ _ rfl rfl rfl rfl).mono fun _ _ ⟨he, hb⟩ => ⟨he.trans (ret_bool (by
    unfold isNam
    rw [Bool.eq_iff_iff]
    simp only [Bool.or_eq_true, Bool.and_eq_true, decide_eq_true_eq]
    omega)), hb⟩

/-- is a name a word? -/
def wordB (l : List UInt8) : Bool := l == [73, 70] || l == [83, 85, 77] || l == [77, 73, 78] || l == [77, 65, 88] || l == [67, 79, 85, 78, 84]
set_option maxHeartbeats 400000 in
theorem lword_at (s : ByteArray) (w : World) (b0 b1 b2 b3 b4 : Bool) (h0 : (s.toList == [73, 70]) = b0) (h1 : (s.toList == [83, 85, 77]) = b1) (h2 : (s.toList == [77, 73, 78]) = b2) (h3 : (s.toList == [77, 65, 88]) = b3) (h4 : (s.toList == [67, 79, 85, 78, 84]) = b4) :
    Calls Tryd.prog 24 #[.string s] w fun e w' => e = .returned (.bool (b0 || b1 || b2 || b3 || b4)) ∧ w = w' := by
  cases b0 with
  | true =>
    go_enter Tryd.func24, Tryd.ntmps24
    go_wp2_with fail
    go_ret
    exact ⟨rfl, rfl⟩
  | false =>
    cases b1 with
    | true =>
      go_enter Tryd.func24, Tryd.ntmps24
      go_wp2_with fail
      go_ret
      exact ⟨rfl, rfl⟩
    | false =>
      cases b2 <;> cases b3 <;> cases b4
      all_goals
        go_enter Tryd.func24, Tryd.ntmps24
        go_wp2_with fail
        go_ret
        exact ⟨rfl, rfl⟩
theorem lword_any (s : ByteArray) (w : World) :
    Calls Tryd.prog 24 #[.string s] w fun e w' => e = .returned (.bool (wordB s.data.toList)) ∧ w = w' :=
  (lword_at s w _ _ _ _ _ rfl rfl rfl rfl rfl).mono fun _ _ ⟨he, hb⟩ => ⟨he.trans (ret_bool (by rw [ByteArray.toList_eq]; rfl)), hb⟩
end Go.Proofs.YtjfmmnebhmlkeaaDoor
