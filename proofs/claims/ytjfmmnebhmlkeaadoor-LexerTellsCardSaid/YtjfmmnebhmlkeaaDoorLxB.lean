/- The document's own tokens: the number of figures. -/
import Derived.Test.YtjfmmnebhmlkeaaDoorLxA
import Derived.Test.YtjfmmnebhmlkeaaDoorRefD
namespace Go.Proofs.YtjfmmnebhmlkeaaDoor
open Go.RowKit

/-- the number of figures, if it is one up to 2^63 less 1 -/
def numV (l : List UInt8) : Option Nat := match Lib.decFrom 0 l with | some u => if u ≤ 9223372036854775807 then some u else none | none => none
def numN (l : List UInt8) : Int := match numV l with | some u => (u : Int) | none => 0
theorem dec_snoc {l : List UInt8} {i n : Nat} {c : UInt8} (h : Lib.decFrom 0 (l.take i) = some n) (hc : l[i]? = some c) (hf : isFig c = true) : Lib.decFrom 0 (l.take (i + 1)) = some (n * 10 + (c.toNat - 48)) := by
  have hd : Lib.digitVal c = some (c.toNat - 48) := by
    have hq : 48 ≤ c.toNat ∧ c.toNat ≤ 57 := of_decide_eq_true hf
    have := digitVal_of (d := c.toNat - 48) (by omega)
    rwa [show 48 + (c.toNat - 48) = c.toNat from by omega, show UInt8.ofNat c.toNat = c from by simp] at this
  rw [List.take_add_one, hc]
  show Lib.decFrom 0 (l.take i ++ [c]) = _
  rw [decFrom_append, h]
  simp [hd]
theorem dec_split {l : List UInt8} {i n u : Nat} (h : Lib.decFrom 0 (l.take i) = some n) (hu : Lib.decFrom 0 l = some u) : n ≤ u := by
  have e : l = l.take i ++ l.drop i := (List.take_append_drop i l).symm
  have h2 : ∀ (a b : List UInt8) (x y : Nat), Lib.decFrom x a = some y → Lib.decFrom x (a ++ b) = Lib.decFrom y b := by
    intro a
    induction a with
    | nil => intro b x y h; simp [Lib.decFrom] at h; subst h; rfl
    | cons c r ih =>
      intro b x y h
      simp only [List.cons_append, Lib.decFrom] at h ⊢
      cases hd : Lib.digitVal c with
      | none => rw [hd] at h; cases h
      | some d => rw [hd] at h; exact ih b _ y h
  rw [e, h2 _ _ _ _ h] at hu
  exact decFrom_le _ _ _ hu

set_option maxHeartbeats 1000000 in
theorem lnumber_any (s : ByteArray) (hs : s.size ≤ 9223372036854775807) (hf : ∀ i (h : i < s.size), isFig (s[i]'h) = true) (w : World) :
    Calls Tryd.prog 21 #[.string s] w fun e w' => e = .returned (.tuple #[.int .i64 (numN s.data.toList), .bool (numV s.data.toList).isSome]) ∧ w = w' := by
  have HF := Lib.hid hf
  clear hf
  go_enter Tryd.func21, Tryd.ntmps21
  go_wp2_with fail
  go_loop [4, 5] (fun vn vi => ∃ i n : Nat, i ≤ s.size ∧ n ≤ 9223372036854775807 ∧ vi = .int .i64 i ∧ vn = .int .i64 n ∧ Hid (Lib.decFrom 0 (s.data.toList.take i) = some n)) (fun _ vi => s.size - (intOf vi).toNat)
  case atStart => exact ⟨0, 0, Nat.zero_le _, Nat.zero_le _, rfl, rfl, Lib.hid (by simp [Lib.decFrom])⟩
  case round =>
    obtain ⟨i, n, hi, hn, rfl, rfl, HU⟩ := hrel
    by_cases hlt : i < s.size
    · have hc := HF.out i hlt
      have hb : 48 ≤ (s[i]'hlt).toNat ∧ (s[i]'hlt).toNat ≤ 57 := of_decide_eq_true hc
      have HS := Lib.hid (dec_snoc HU.out (byte_at s i hlt) hc)
      obtain ⟨b1, b2⟩ := hb
      clear hc
      by_cases hq : (9223372036854775807 - (((s[i]'hlt).toNat : Int) - 48)) / 10 < (n : Int)
      · have hN : numV s.data.toList = none := by
          unfold numV
          cases hu : Lib.decFrom 0 s.data.toList with
          | none => rfl
          | some u =>
            have h1 := dec_split HS.out hu
            have h2 : 9223372036854775807 < u := by omega
            show (if u ≤ 9223372036854775807 then some u else none) = none
            rw [if_neg (by omega)]
        have HN := Lib.hid hN
        clear hN
        go_wp2_with fail
        go_ret2
        exact ⟨ret_pair (by unfold numN; rw [HN.out]) (by rw [HN.out]; rfl), rfl⟩
      · have hm : n * 10 + ((s[i]'hlt).toNat - 48) ≤ 9223372036854775807 := by omega
        go_wp2_with fail
        go_round
        case rel => exact ⟨i + 1, n * 10 + ((s[i]'hlt).toNat - 48), by omega, hm, by go_num, by first | go_num | (congr 1; omega), HS⟩
        case measure => simp [intOf]; omega
    · have hN : numV s.data.toList = some n := by
        have h1 := HU.out
        rw [List.take_of_length_le (by rw [len_of]; omega)] at h1
        unfold numV
        rw [h1]
        exact if_pos hn
      have HN := Lib.hid hN
      clear hN
      go_wp2_with fail
      go_ret2
      exact ⟨ret_pair (by unfold numN; rw [HN.out]) (by rw [HN.out]; rfl), rfl⟩
end Go.Proofs.YtjfmmnebhmlkeaaDoor
