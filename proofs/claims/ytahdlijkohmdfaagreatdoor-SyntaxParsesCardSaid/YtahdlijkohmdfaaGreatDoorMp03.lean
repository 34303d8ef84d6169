/- Texts joined: LxA, RefD, LxB, LxC. -/
import Derived.Test.YtahdlijkohmdfaaGreatDoorMp01
import Derived.Test.YtahdlijkohmdfaaGreatDoorMp02
import Derived.WalkSpells
import Derived.WalkLawsBesides
set_option linter.all false
set_option linter.unusedVariables false
set_option linter.unusedSimpArgs false
namespace Go.Proofs.YtahdlijkohmdfaaGreatDoor
open Go.RowKit

def isFig (c : UInt8) : Bool := decide (48 ≤ c.toNat ∧ c.toNat ≤ 57)
def isNam (c : UInt8) : Bool := decide (65 ≤ c.toNat ∧ c.toNat ≤ 90 ∨ 48 ≤ c.toNat ∧ c.toNat ≤ 57)
set_option maxHeartbeats 400000 in
theorem lfigure_at (c : Int) (w : World) (b0 b1 : Bool) (h0 : decide ((48 : Int) ≤ c) = b0) (h1 : decide (c ≤ 57) = b1) :
    Calls Tryz.prog 62 #[.int .u8 c] w fun e w' => e = .returned (.bool (b0 && b1)) ∧ w = w' := by
  cases b0 <;> cases b1
  all_goals
    go_enter Tryz.func62, Tryz.ntmps62
    go_wp2_with fail
    go_ret
    exact ⟨rfl, rfl⟩
theorem lfigure_any (c : UInt8) (w : World) :
    Calls Tryz.prog 62 #[.int .u8 (c.toNat : Int)] w fun e w' => e = .returned (.bool (isFig c)) ∧ w = w' :=
  (lfigure_at c.toNat w _ _ rfl rfl).mono fun _ _ ⟨he, hb⟩ => ⟨he.trans (ret_bool (by
    unfold isFig
    rw [Bool.eq_iff_iff]
    simp only [Bool.and_eq_true, decide_eq_true_eq]
    omega)), hb⟩
set_option maxHeartbeats 400000 in
theorem lnamed_at (c : Int) (w : World) (b0 b1 b2 b3 : Bool) (h0 : decide ((65 : Int) ≤ c) = b0) (h1 : decide (c ≤ 90) = b1) (h2 : decide ((48 : Int) ≤ c) = b2) (h3 : decide (c ≤ 57) = b3) :
    Calls Tryz.prog 64 #[.int .u8 c] w fun e w' => e = .returned (.bool (b0 && b1 || b2 && b3)) ∧ w = w' := by
  cases b0 <;> cases b1 <;> cases b2 <;> cases b3
  all_goals
    go_enter Tryz.func64, Tryz.ntmps64
    go_wp2_with fail
    go_ret
    exact ⟨rfl, rfl⟩
theorem lnamed_any (c : UInt8) (w : World) :
    Calls Tryz.prog 64 #[.int .u8 (c.toNat : Int)] w fun e w' => e = .returned (.bool (isNam c)) ∧ w = w' :=
  (lnamed_at c.toNat w _ _ _ _ rfl rfl rfl rfl).mono fun _ _ ⟨he, hb⟩ => ⟨he.trans (ret_bool (by
    unfold isNam
    rw [Bool.eq_iff_iff]
    simp only [Bool.or_eq_true, Bool.and_eq_true, decide_eq_true_eq]
    omega)), hb⟩

def wordB (l : List UInt8) : Bool := l == [73, 70] || l == [83, 85, 77] || l == [77, 73, 78] || l == [77, 65, 88] || l == [67, 79, 85, 78, 84]
set_option maxHeartbeats 400000 in
theorem lword_at (s : ByteArray) (w : World) (b0 b1 b2 b3 b4 : Bool) (h0 : (s.toList == [73, 70]) = b0) (h1 : (s.toList == [83, 85, 77]) = b1) (h2 : (s.toList == [77, 73, 78]) = b2) (h3 : (s.toList == [77, 65, 88]) = b3) (h4 : (s.toList == [67, 79, 85, 78, 84]) = b4) :
    Calls Tryz.prog 66 #[.string s] w fun e w' => e = .returned (.bool (b0 || b1 || b2 || b3 || b4)) ∧ w = w' := by
  cases b0 with
  | true =>
    go_enter Tryz.func66, Tryz.ntmps66
    go_wp2_with fail
    go_ret
    exact ⟨rfl, rfl⟩
  | false =>
    cases b1 with
    | true =>
      go_enter Tryz.func66, Tryz.ntmps66
      go_wp2_with fail
      go_ret
      exact ⟨rfl, rfl⟩
    | false =>
      cases b2 <;> cases b3 <;> cases b4
      all_goals
        go_enter Tryz.func66, Tryz.ntmps66
        go_wp2_with fail
        go_ret
        exact ⟨rfl, rfl⟩
theorem lword_any (s : ByteArray) (w : World) :
    Calls Tryz.prog 66 #[.string s] w fun e w' => e = .returned (.bool (wordB s.data.toList)) ∧ w = w' :=
  (lword_at s w _ _ _ _ _ rfl rfl rfl rfl rfl).mono fun _ _ ⟨he, hb⟩ => ⟨he.trans (ret_bool (by rw [ByteArray.toList_eq]; rfl)), hb⟩
end Go.Proofs.YtahdlijkohmdfaaGreatDoor
namespace Go.Proofs.YtahdlijkohmdfaaGreatDoor
open Go.RowKit

theorem byte_at (s : ByteArray) (i : Nat) (h : i < s.size) : s.data.toList[i]? = some (s[i]'h) := by
  have h1 : i < s.data.toList.length := by rw [Array.length_toList]; exact h
  rw [List.getElem?_eq_getElem h1]
  rfl
theorem byte_getD (s : ByteArray) (i : Nat) (h : i < s.size) : s.data.toList.getD i 0 = (s[i]'h) := by
  rw [List.getD_eq_getElem?_getD, byte_at s i h]; rfl
theorem len_of (s : ByteArray) : s.data.toList.length = s.size := Array.length_toList

def formedB (l : List UInt8) : Bool := decide (2 ≤ l.length ∧ l.length ≤ 4 ∧ 65 ≤ (l.getD 0 0).toNat ∧ (l.getD 0 0).toNat ≤ 90 ∧ (l.getD 1 0).toNat ≠ 48) &&
  decide (∀ i, i < l.length → 1 ≤ i → 48 ≤ (l.getD i 0).toNat ∧ (l.getD i 0).toNat ≤ 57)

set_option maxHeartbeats 1000000 in
theorem rformed_any (s : ByteArray) (hs : s.size ≤ 9223372036854775807) (w : World) :
    Calls Tryz.prog 86 #[.string s] w fun e w' => e = .returned (.bool (formedB s.data.toList)) ∧ w = w' := by
  by_cases h2 : s.size < 2
  · have e1 := Lib.hid (show formedB s.data.toList = false from by
      unfold formedB; rw [len_of, decide_eq_false (by omega)]; rfl)
    have d1 : decide ((s.size : Int) < 2) = true := decide_eq_true (by omega)
    clear h2
    go_enter Tryz.func86, Tryz.ntmps86
    go_wp2_with fail
    go_ret
    exact ⟨ret_bool e1.out.symm, rfl⟩
  · have d1 : decide ((s.size : Int) < 2) = false := decide_eq_false (by omega)
    by_cases h4 : 4 < s.size
    · have e1 := Lib.hid (show formedB s.data.toList = false from by
        unfold formedB; rw [len_of, decide_eq_false (by omega)]; rfl)
      have d2 : decide ((4 : Int) < (s.size : Int)) = true := decide_eq_true (by omega)
      clear h2 h4
      go_enter Tryz.func86, Tryz.ntmps86
      go_wp2_with fail
      go_ret
      exact ⟨ret_bool e1.out.symm, rfl⟩
    · have d2 : decide ((4 : Int) < (s.size : Int)) = false := decide_eq_false (by omega)
      have s0 : 0 < s.size := by omega
      have s1 : 1 < s.size := by omega
      have g0 := Lib.hid (byte_getD s 0 s0)
      have g1 := Lib.hid (byte_getD s 1 s1)
      by_cases ha : 65 ≤ (s[0]'s0).toNat ∧ (s[0]'s0).toNat ≤ 90 ∧ (s[1]'s1).toNat ≠ 48
      · obtain ⟨a1, a2, a3⟩ := ha
        have d3 : decide (((s[0]'s0).toNat : Int) < 65) = false := decide_eq_false (by omega)
        have d4 : decide ((90 : Int) < ((s[0]'s0).toNat : Int)) = false := decide_eq_false (by omega)
        have d5 : (((s[1]'s1).toNat : Int) == 48) = false := by rw [beq_eq_false_iff_ne]; omega
        have e0 := Lib.hid (show formedB s.data.toList = decide (∀ i, i < s.data.toList.length → 1 ≤ i → 48 ≤ (s.data.toList.getD i 0).toNat ∧ (s.data.toList.getD i 0).toNat ≤ 57) from by
          unfold formedB
          rw [g0.out, g1.out, len_of, decide_eq_true (p := 2 ≤ s.size ∧ _) (by omega), Bool.true_and])
        clear a1 a2 a3 h2
        go_enter Tryz.func86, Tryz.ntmps86
        go_wp2_with fail
        go_loop [3] (fun v => ∃ i : Nat, 1 ≤ i ∧ i ≤ s.size ∧ v = .int .i64 i ∧ Hid (∀ j, j < i → 1 ≤ j → 48 ≤ (s.data.toList.getD j 0).toNat ∧ (s.data.toList.getD j 0).toNat ≤ 57)) (fun v => s.size - (intOf v).toNat)
        case atStart => exact ⟨1, Nat.le_refl _, by omega, rfl, Lib.hid fun j hj hj1 => by omega⟩
        case round =>
          obtain ⟨i, hi1, hi, rfl, HU⟩ := hrel
          by_cases hlt : i < s.size
          · have gi := Lib.hid (byte_getD s i hlt)
            by_cases hdig : 48 ≤ (s[i]'hlt).toNat ∧ (s[i]'hlt).toNat ≤ 57
            · have HS : Hid (∀ j, j < i + 1 → 1 ≤ j → 48 ≤ (s.data.toList.getD j 0).toNat ∧ (s.data.toList.getD j 0).toNat ≤ 57) := Lib.hid fun j hj hj1 => by
                by_cases e : j = i
                · subst e; rw [gi.out]; exact hdig
                · exact HU.out j (by omega) hj1
              obtain ⟨q1, q2⟩ := hdig
              have t1 : decide (((s[i]'hlt).toNat : Int) < 48) = false := decide_eq_false (by omega)
              have t2 : decide ((57 : Int) < ((s[i]'hlt).toNat : Int)) = false := decide_eq_false (by omega)
              clear q1 q2
              go_wp2_with fail
              go_round
              case rel => exact ⟨i + 1, by omega, by omega, by go_num, HS⟩
              case measure => simp [intOf]; omega
            · have e1 := Lib.hid (show formedB s.data.toList = false from by
                rw [e0.out]
                refine decide_eq_false fun h => hdig ?_
                have := h i (by rw [len_of]; exact hlt) hi1
                rwa [gi.out] at this)
              by_cases q1 : (s[i]'hlt).toNat < 48
              · have t1 : decide (((s[i]'hlt).toNat : Int) < 48) = true := decide_eq_true (by omega)
                clear hdig q1
                go_wp2_with fail
                go_ret
                exact ⟨ret_bool e1.out.symm, rfl⟩
              · have t1 : decide (((s[i]'hlt).toNat : Int) < 48) = false := decide_eq_false (by omega)
                have t2 : decide ((57 : Int) < ((s[i]'hlt).toNat : Int)) = true := decide_eq_true (by omega)
                clear hdig q1
                go_wp2_with fail
                go_ret
                exact ⟨ret_bool e1.out.symm, rfl⟩
          · have e1 := Lib.hid (show formedB s.data.toList = true from by
              rw [e0.out]
              refine decide_eq_true fun j hj hj1 => HU.out j (by rw [len_of] at hj; omega) hj1)
            go_wp2_with fail
            go_ret
            exact ⟨ret_bool e1.out.symm, rfl⟩
      · have e1 := Lib.hid (show formedB s.data.toList = false from by
          unfold formedB
          rw [g0.out, g1.out, len_of, decide_eq_false (p := 2 ≤ s.size ∧ _) (by omega), Bool.false_and])
        by_cases a1 : (s[0]'s0).toNat < 65
        · have d3 : decide (((s[0]'s0).toNat : Int) < 65) = true := decide_eq_true (by omega)
          clear a1 ha h2 h4
          go_enter Tryz.func86, Tryz.ntmps86
          go_wp2_with fail
          go_ret
          exact ⟨ret_bool e1.out.symm, rfl⟩
        · have d3 : decide (((s[0]'s0).toNat : Int) < 65) = false := decide_eq_false (by omega)
          by_cases a2 : 90 < (s[0]'s0).toNat
          · have d4 : decide ((90 : Int) < ((s[0]'s0).toNat : Int)) = true := decide_eq_true (by omega)
            clear a1 a2 ha h2 h4
            go_enter Tryz.func86, Tryz.ntmps86
            go_wp2_with fail
            go_ret
            exact ⟨ret_bool e1.out.symm, rfl⟩
          · have d4 : decide ((90 : Int) < ((s[0]'s0).toNat : Int)) = false := decide_eq_false (by omega)
            have d5 : (((s[1]'s1).toNat : Int) == 48) = true := by rw [beq_iff_eq]; omega
            clear a1 a2 ha h2 h4
            go_enter Tryz.func86, Tryz.ntmps86
            go_wp2_with fail
            go_ret
            exact ⟨ret_bool e1.out.symm, rfl⟩
end Go.Proofs.YtahdlijkohmdfaaGreatDoor
namespace Go.Proofs.YtahdlijkohmdfaaGreatDoor
open Go.RowKit

def numV (l : List UInt8) : Option Nat := match Lib.decFrom 0 l with | some u => if u ≤ 9223372036854775807 then some u else none | none => none
def numN (l : List UInt8) : Int := match numV l with | some u => (u : Int) | none => 0
theorem dec_snoc {l : List UInt8} {i n : Nat} {c : UInt8} (h : Lib.decFrom 0 (l.take i) = some n) (hc : l[i]? = some c) (hf : isFig c = true) : Lib.decFrom 0 (l.take (i + 1)) = some (n * 10 + (c.toNat - 48)) := by
  have hd : Lib.digitVal c = some (c.toNat - 48) := by
    have hq : 48 ≤ c.toNat ∧ c.toNat ≤ 57 := of_decide_eq_true hf
    have := digitVal_of (d := c.toNat - 48) (by omega)
    rwa [show 48 + (c.toNat - 48) = c.toNat from by omega, show UInt8.ofNat c.toNat = c from by simp] at this
  rw [List.take_add_one, hc]
  show Lib.decFrom 0 (l.take i ++ [c]) = _
  rw [decFrom_append, h]
  simp [hd]
theorem dec_split {l : List UInt8} {i n u : Nat} (h : Lib.decFrom 0 (l.take i) = some n) (hu : Lib.decFrom 0 l = some u) : n ≤ u := by
  have e : l = l.take i ++ l.drop i := (List.take_append_drop i l).symm
  have h2 : ∀ (a b : List UInt8) (x y : Nat), Lib.decFrom x a = some y → Lib.decFrom x (a ++ b) = Lib.decFrom y b := by
    intro a
    induction a with
    | nil => intro b x y h; simp [Lib.decFrom] at h; subst h; rfl
    | cons c r ih =>
      intro b x y h
      simp only [List.cons_append, Lib.decFrom] at h ⊢
      cases hd : Lib.digitVal c with
      | none => rw [hd] at h; cases h
      | some d => rw [hd] at h; exact ih b _ y h
  rw [e, h2 _ _ _ _ h] at hu
  exact decFrom_le _ _ _ hu

set_option maxHeartbeats 1000000 in
theorem lnumber_any (s : ByteArray) (hs : s.size ≤ 9223372036854775807) (hf : ∀ i (h : i < s.size), isFig (s[i]'h) = true) (w : World) :
    Calls Tryz.prog 63 #[.string s] w fun e w' => e = .returned (.tuple #[.int .i64 (numN s.data.toList), .bool (numV s.data.toList).isSome]) ∧ w = w' := by
  have HF := Lib.hid hf
  clear hf
  go_enter Tryz.func63, Tryz.ntmps63
  go_wp2_with fail
  go_loop [4, 5] (fun vn vi => ∃ i n : Nat, i ≤ s.size ∧ n ≤ 9223372036854775807 ∧ vi = .int .i64 i ∧ vn = .int .i64 n ∧ Hid (Lib.decFrom 0 (s.data.toList.take i) = some n)) (fun _ vi => s.size - (intOf vi).toNat)
  case atStart => exact ⟨0, 0, Nat.zero_le _, Nat.zero_le _, rfl, rfl, Lib.hid (by simp [Lib.decFrom])⟩
  case round =>
    obtain ⟨i, n, hi, hn, rfl, rfl, HU⟩ := hrel
    by_cases hlt : i < s.size
    · have hc := HF.out i hlt
      have hb : 48 ≤ (s[i]'hlt).toNat ∧ (s[i]'hlt).toNat ≤ 57 := of_decide_eq_true hc
      have HS := Lib.hid (dec_snoc HU.out (byte_at s i hlt) hc)
      obtain ⟨b1, b2⟩ := hb
      clear hc
      by_cases hq : (9223372036854775807 - (((s[i]'hlt).toNat : Int) - 48)) / 10 < (n : Int)
      · have hN : numV s.data.toList = none := by
          unfold numV
          cases hu : Lib.decFrom 0 s.data.toList with
          | none => rfl
          | some u =>
            have h1 := dec_split HS.out hu
            have h2 : 9223372036854775807 < u := by omega
            show (if u ≤ 9223372036854775807 then some u else none) = none
            rw [if_neg (by omega)]
        have HN := Lib.hid hN
        clear hN
        go_wp2_with fail
        go_ret2
        exact ⟨ret_pair (by unfold numN; rw [HN.out]) (by rw [HN.out]; rfl), rfl⟩
      · have hm : n * 10 + ((s[i]'hlt).toNat - 48) ≤ 9223372036854775807 := by omega
        go_wp2_with fail
        go_round
        case rel => exact ⟨i + 1, n * 10 + ((s[i]'hlt).toNat - 48), by omega, hm, by go_num, by first | go_num | (congr 1; omega), HS⟩
        case measure => simp [intOf]; omega
    · have hN : numV s.data.toList = some n := by
        have h1 := HU.out
        rw [List.take_of_length_le (by rw [len_of]; omega)] at h1
        unfold numV
        rw [h1]
        exact if_pos hn
      have HN := Lib.hid hN
      clear hN
      go_wp2_with fail
      go_ret2
      exact ⟨ret_pair (by unfold numN; rw [HN.out]) (by rw [HN.out]; rfl), rfl⟩
end Go.Proofs.YtahdlijkohmdfaaGreatDoor
namespace Go.Proofs.YtahdlijkohmdfaaGreatDoor
open Go.RowKit

def markC (c d : UInt8) : Int :=
  if c = 60 ∧ (d = 61 ∨ d = 62) ∨ c = 62 ∧ d = 61 then 2
  else if c = 43 ∨ c = 45 ∨ c = 42 ∨ c = 47 ∨ c = 40 ∨ c = 41 ∨ c = 44 ∨ c = 58 ∨ c = 60 ∨ c = 61 ∨ c = 62 then 1 else 0
def markN (l : List UInt8) (p : Nat) : Int := markC (l.getD p 0) (l.getD (p + 1) 0)
theorem byte_ne {c k : UInt8} (h : ¬ c = k) : ((c.toNat : Int) == (k.toNat : Int)) = false := by
  rw [beq_eq_false_iff_ne]
  intro e
  exact h (UInt8.toNat_inj.1 (by omega))
theorem byte_eq {c k : UInt8} (h : c = k) : ((c.toNat : Int) == (k.toNat : Int)) = true := by rw [h]; simp
theorem byte_past (s : ByteArray) (i : Nat) (h : ¬ i < s.size) : s.data.toList.getD i 0 = 0 := by
  rw [List.getD_eq_getElem?_getD, List.getElem?_eq_none (by rw [len_of]; omega)]; rfl

set_option maxHeartbeats 2000000 in
theorem lmark_two (s : ByteArray) (hs : s.size ≤ 9223372036854775807) (p : Nat) (h : p < s.size) (hp : p + 1 < s.size) (w : World) :
    Calls Tryz.prog 67 #[.string s, .int .i64 (p : Int)] w fun e w' => e = .returned (.int .i64 (markN s.data.toList p)) ∧ w = w' := by
  have g0 := byte_getD s p h
  have g1 := byte_getD s (p + 1) hp
  by_cases q60 : (s[p]'h) = 60
  · by_cases d61 : (s[p + 1]'hp) = 61
    · have HR := Lib.hid (show markN s.data.toList p = 2 from by unfold markN; rw [g0, g1]; simp [markC, q60, d61])
      have t60 : (((s[p]'h).toNat : Int) == 60) = true := byte_eq (k := 60) q60
      have u61 : (((s[p + 1]'hp).toNat : Int) == 61) = true := byte_eq (k := 61) d61
      clear g0 g1 q60 d61
      go_enter Tryz.func67, Tryz.ntmps67
      go_wp2_with fail
      go_ret
      exact ⟨ret_int HR.out.symm, rfl⟩
    by_cases d62 : (s[p + 1]'hp) = 62
    · have HR := Lib.hid (show markN s.data.toList p = 2 from by unfold markN; rw [g0, g1]; simp [markC, q60, d62])
      have t60 : (((s[p]'h).toNat : Int) == 60) = true := byte_eq (k := 60) q60
      have u61 : (((s[p + 1]'hp).toNat : Int) == 61) = false := byte_ne (k := 61) d61
      have u62 : (((s[p + 1]'hp).toNat : Int) == 62) = true := byte_eq (k := 62) d62
      clear g0 g1 q60 d61 d62
      go_enter Tryz.func67, Tryz.ntmps67
      go_wp2_with fail
      go_ret
      exact ⟨ret_int HR.out.symm, rfl⟩
    have HR := Lib.hid (show markN s.data.toList p = 1 from by unfold markN; rw [g0, g1]; simp [markC, q60, d61, d62])
    have t60 : (((s[p]'h).toNat : Int) == 60) = true := byte_eq (k := 60) q60
    have t43 : (((s[p]'h).toNat : Int) == 43) = false := byte_ne (k := 43) (by rw [q60]; decide)
    have t45 : (((s[p]'h).toNat : Int) == 45) = false := byte_ne (k := 45) (by rw [q60]; decide)
    have t42 : (((s[p]'h).toNat : Int) == 42) = false := byte_ne (k := 42) (by rw [q60]; decide)
    have t47 : (((s[p]'h).toNat : Int) == 47) = false := byte_ne (k := 47) (by rw [q60]; decide)
    have t40 : (((s[p]'h).toNat : Int) == 40) = false := byte_ne (k := 40) (by rw [q60]; decide)
    have t41 : (((s[p]'h).toNat : Int) == 41) = false := byte_ne (k := 41) (by rw [q60]; decide)
    have t44 : (((s[p]'h).toNat : Int) == 44) = false := byte_ne (k := 44) (by rw [q60]; decide)
    have t58 : (((s[p]'h).toNat : Int) == 58) = false := byte_ne (k := 58) (by rw [q60]; decide)
    have t62 : (((s[p]'h).toNat : Int) == 62) = false := byte_ne (k := 62) (by rw [q60]; decide)
    have u61 : (((s[p + 1]'hp).toNat : Int) == 61) = false := byte_ne (k := 61) d61
    have u62 : (((s[p + 1]'hp).toNat : Int) == 62) = false := byte_ne (k := 62) d62
    clear g0 g1 q60 d61 d62
    go_enter Tryz.func67, Tryz.ntmps67
    go_wp2_with fail
    go_ret
    exact ⟨ret_int HR.out.symm, rfl⟩
  by_cases q62 : (s[p]'h) = 62
  · by_cases d61 : (s[p + 1]'hp) = 61
    · have HR := Lib.hid (show markN s.data.toList p = 2 from by unfold markN; rw [g0, g1]; simp [markC, q62, d61])
      have t60 : (((s[p]'h).toNat : Int) == 60) = false := byte_ne (k := 60) q60
      have t62 : (((s[p]'h).toNat : Int) == 62) = true := byte_eq (k := 62) q62
      have u61 : (((s[p + 1]'hp).toNat : Int) == 61) = true := byte_eq (k := 61) d61
      clear g0 g1 q60 q62 d61
      go_enter Tryz.func67, Tryz.ntmps67
      go_wp2_with fail
      go_ret
      exact ⟨ret_int HR.out.symm, rfl⟩
    have HR := Lib.hid (show markN s.data.toList p = 1 from by unfold markN; rw [g0, g1]; simp [markC, q62, d61])
    have t43 : (((s[p]'h).toNat : Int) == 43) = false := byte_ne (k := 43) (by rw [q62]; decide)
    have t45 : (((s[p]'h).toNat : Int) == 45) = false := byte_ne (k := 45) (by rw [q62]; decide)
    have t42 : (((s[p]'h).toNat : Int) == 42) = false := byte_ne (k := 42) (by rw [q62]; decide)
    have t47 : (((s[p]'h).toNat : Int) == 47) = false := byte_ne (k := 47) (by rw [q62]; decide)
    have t40 : (((s[p]'h).toNat : Int) == 40) = false := byte_ne (k := 40) (by rw [q62]; decide)
    have t41 : (((s[p]'h).toNat : Int) == 41) = false := byte_ne (k := 41) (by rw [q62]; decide)
    have t44 : (((s[p]'h).toNat : Int) == 44) = false := byte_ne (k := 44) (by rw [q62]; decide)
    have t58 : (((s[p]'h).toNat : Int) == 58) = false := byte_ne (k := 58) (by rw [q62]; decide)
    have t60 : (((s[p]'h).toNat : Int) == 60) = false := byte_ne (k := 60) q60
    have t61 : (((s[p]'h).toNat : Int) == 61) = false := byte_ne (k := 61) (by rw [q62]; decide)
    have t62 : (((s[p]'h).toNat : Int) == 62) = true := byte_eq (k := 62) q62
    have u61 : (((s[p + 1]'hp).toNat : Int) == 61) = false := byte_ne (k := 61) d61
    clear g0 g1 q60 q62 d61
    go_enter Tryz.func67, Tryz.ntmps67
    go_wp2_with fail
    go_ret
    exact ⟨ret_int HR.out.symm, rfl⟩
  by_cases q43 : (s[p]'h) = 43
  · have HR := Lib.hid (show markN s.data.toList p = 1 from by unfold markN; rw [g0, g1]; simp [markC, q43])
    have t60 : (((s[p]'h).toNat : Int) == 60) = false := byte_ne (k := 60) q60
    have t62 : (((s[p]'h).toNat : Int) == 62) = false := byte_ne (k := 62) q62
    have t43 : (((s[p]'h).toNat : Int) == 43) = true := byte_eq (k := 43) q43
    clear g0 g1 q60 q62 q43
    go_enter Tryz.func67, Tryz.ntmps67
    go_wp2_with fail
    go_ret
    exact ⟨ret_int HR.out.symm, rfl⟩
  by_cases q45 : (s[p]'h) = 45
  · have HR := Lib.hid (show markN s.data.toList p = 1 from by unfold markN; rw [g0, g1]; simp [markC, q45])
    have t60 : (((s[p]'h).toNat : Int) == 60) = false := byte_ne (k := 60) q60
    have t62 : (((s[p]'h).toNat : Int) == 62) = false := byte_ne (k := 62) q62
    have t43 : (((s[p]'h).toNat : Int) == 43) = false := byte_ne (k := 43) q43
    have t45 : (((s[p]'h).toNat : Int) == 45) = true := byte_eq (k := 45) q45
    clear g0 g1 q60 q62 q43 q45
    go_enter Tryz.func67, Tryz.ntmps67
    go_wp2_with fail
    go_ret
    exact ⟨ret_int HR.out.symm, rfl⟩
  by_cases q42 : (s[p]'h) = 42
  · have HR := Lib.hid (show markN s.data.toList p = 1 from by unfold markN; rw [g0, g1]; simp [markC, q42])
    have t60 : (((s[p]'h).toNat : Int) == 60) = false := byte_ne (k := 60) q60
    have t62 : (((s[p]'h).toNat : Int) == 62) = false := byte_ne (k := 62) q62
    have t43 : (((s[p]'h).toNat : Int) == 43) = false := byte_ne (k := 43) q43
    have t45 : (((s[p]'h).toNat : Int) == 45) = false := byte_ne (k := 45) q45
    have t42 : (((s[p]'h).toNat : Int) == 42) = true := byte_eq (k := 42) q42
    clear g0 g1 q60 q62 q43 q45 q42
    go_enter Tryz.func67, Tryz.ntmps67
    go_wp2_with fail
    go_ret
    exact ⟨ret_int HR.out.symm, rfl⟩
  by_cases q47 : (s[p]'h) = 47
  · have HR := Lib.hid (show markN s.data.toList p = 1 from by unfold markN; rw [g0, g1]; simp [markC, q47])
    have t60 : (((s[p]'h).toNat : Int) == 60) = false := byte_ne (k := 60) q60
    have t62 : (((s[p]'h).toNat : Int) == 62) = false := byte_ne (k := 62) q62
    have t43 : (((s[p]'h).toNat : Int) == 43) = false := byte_ne (k := 43) q43
    have t45 : (((s[p]'h).toNat : Int) == 45) = false := byte_ne (k := 45) q45
    have t42 : (((s[p]'h).toNat : Int) == 42) = false := byte_ne (k := 42) q42
    have t47 : (((s[p]'h).toNat : Int) == 47) = true := byte_eq (k := 47) q47
    clear g0 g1 q60 q62 q43 q45 q42 q47
    go_enter Tryz.func67, Tryz.ntmps67
    go_wp2_with fail
    go_ret
    exact ⟨ret_int HR.out.symm, rfl⟩
  by_cases q40 : (s[p]'h) = 40
  · have HR := Lib.hid (show markN s.data.toList p = 1 from by unfold markN; rw [g0, g1]; simp [markC, q40])
    have t60 : (((s[p]'h).toNat : Int) == 60) = false := byte_ne (k := 60) q60
    have t62 : (((s[p]'h).toNat : Int) == 62) = false := byte_ne (k := 62) q62
    have t43 : (((s[p]'h).toNat : Int) == 43) = false := byte_ne (k := 43) q43
    have t45 : (((s[p]'h).toNat : Int) == 45) = false := byte_ne (k := 45) q45
    have t42 : (((s[p]'h).toNat : Int) == 42) = false := byte_ne (k := 42) q42
    have t47 : (((s[p]'h).toNat : Int) == 47) = false := byte_ne (k := 47) q47
    have t40 : (((s[p]'h).toNat : Int) == 40) = true := byte_eq (k := 40) q40
    clear g0 g1 q60 q62 q43 q45 q42 q47 q40
    go_enter Tryz.func67, Tryz.ntmps67
    go_wp2_with fail
    go_ret
    exact ⟨ret_int HR.out.symm, rfl⟩
  by_cases q41 : (s[p]'h) = 41
  · have HR := Lib.hid (show markN s.data.toList p = 1 from by unfold markN; rw [g0, g1]; simp [markC, q41])
    have t60 : (((s[p]'h).toNat : Int) == 60) = false := byte_ne (k := 60) q60
    have t62 : (((s[p]'h).toNat : Int) == 62) = false := byte_ne (k := 62) q62
    have t43 : (((s[p]'h).toNat : Int) == 43) = false := byte_ne (k := 43) q43
    have t45 : (((s[p]'h).toNat : Int) == 45) = false := byte_ne (k := 45) q45
    have t42 : (((s[p]'h).toNat : Int) == 42) = false := byte_ne (k := 42) q42
    have t47 : (((s[p]'h).toNat : Int) == 47) = false := byte_ne (k := 47) q47
    have t40 : (((s[p]'h).toNat : Int) == 40) = false := byte_ne (k := 40) q40
    have t41 : (((s[p]'h).toNat : Int) == 41) = true := byte_eq (k := 41) q41
    clear g0 g1 q60 q62 q43 q45 q42 q47 q40 q41
    go_enter Tryz.func67, Tryz.ntmps67
    go_wp2_with fail
    go_ret
    exact ⟨ret_int HR.out.symm, rfl⟩
  by_cases q44 : (s[p]'h) = 44
  · have HR := Lib.hid (show markN s.data.toList p = 1 from by unfold markN; rw [g0, g1]; simp [markC, q44])
    have t60 : (((s[p]'h).toNat : Int) == 60) = false := byte_ne (k := 60) q60
    have t62 : (((s[p]'h).toNat : Int) == 62) = false := byte_ne (k := 62) q62
    have t43 : (((s[p]'h).toNat : Int) == 43) = false := byte_ne (k := 43) q43
    have t45 : (((s[p]'h).toNat : Int) == 45) = false := byte_ne (k := 45) q45
    have t42 : (((s[p]'h).toNat : Int) == 42) = false := byte_ne (k := 42) q42
    have t47 : (((s[p]'h).toNat : Int) == 47) = false := byte_ne (k := 47) q47
    have t40 : (((s[p]'h).toNat : Int) == 40) = false := byte_ne (k := 40) q40
    have t41 : (((s[p]'h).toNat : Int) == 41) = false := byte_ne (k := 41) q41
    have t44 : (((s[p]'h).toNat : Int) == 44) = true := byte_eq (k := 44) q44
    clear g0 g1 q60 q62 q43 q45 q42 q47 q40 q41 q44
    go_enter Tryz.func67, Tryz.ntmps67
    go_wp2_with fail
    go_ret
    exact ⟨ret_int HR.out.symm, rfl⟩
  by_cases q58 : (s[p]'h) = 58
  · have HR := Lib.hid (show markN s.data.toList p = 1 from by unfold markN; rw [g0, g1]; simp [markC, q58])
    have t60 : (((s[p]'h).toNat : Int) == 60) = false := byte_ne (k := 60) q60
    have t62 : (((s[p]'h).toNat : Int) == 62) = false := byte_ne (k := 62) q62
    have t43 : (((s[p]'h).toNat : Int) == 43) = false := byte_ne (k := 43) q43
    have t45 : (((s[p]'h).toNat : Int) == 45) = false := byte_ne (k := 45) q45
    have t42 : (((s[p]'h).toNat : Int) == 42) = false := byte_ne (k := 42) q42
    have t47 : (((s[p]'h).toNat : Int) == 47) = false := byte_ne (k := 47) q47
    have t40 : (((s[p]'h).toNat : Int) == 40) = false := byte_ne (k := 40) q40
    have t41 : (((s[p]'h).toNat : Int) == 41) = false := byte_ne (k := 41) q41
    have t44 : (((s[p]'h).toNat : Int) == 44) = false := byte_ne (k := 44) q44
    have t58 : (((s[p]'h).toNat : Int) == 58) = true := byte_eq (k := 58) q58
    clear g0 g1 q60 q62 q43 q45 q42 q47 q40 q41 q44 q58
    go_enter Tryz.func67, Tryz.ntmps67
    go_wp2_with fail
    go_ret
    exact ⟨ret_int HR.out.symm, rfl⟩
  by_cases q61 : (s[p]'h) = 61
  · have HR := Lib.hid (show markN s.data.toList p = 1 from by unfold markN; rw [g0, g1]; simp [markC, q61])
    have t60 : (((s[p]'h).toNat : Int) == 60) = false := byte_ne (k := 60) q60
    have t62 : (((s[p]'h).toNat : Int) == 62) = false := byte_ne (k := 62) q62
    have t43 : (((s[p]'h).toNat : Int) == 43) = false := byte_ne (k := 43) q43
    have t45 : (((s[p]'h).toNat : Int) == 45) = false := byte_ne (k := 45) q45
    have t42 : (((s[p]'h).toNat : Int) == 42) = false := byte_ne (k := 42) q42
    have t47 : (((s[p]'h).toNat : Int) == 47) = false := byte_ne (k := 47) q47
    have t40 : (((s[p]'h).toNat : Int) == 40) = false := byte_ne (k := 40) q40
    have t41 : (((s[p]'h).toNat : Int) == 41) = false := byte_ne (k := 41) q41
    have t44 : (((s[p]'h).toNat : Int) == 44) = false := byte_ne (k := 44) q44
    have t58 : (((s[p]'h).toNat : Int) == 58) = false := byte_ne (k := 58) q58
    have t61 : (((s[p]'h).toNat : Int) == 61) = true := byte_eq (k := 61) q61
    clear g0 g1 q60 q62 q43 q45 q42 q47 q40 q41 q44 q58 q61
    go_enter Tryz.func67, Tryz.ntmps67
    go_wp2_with fail
    go_ret
    exact ⟨ret_int HR.out.symm, rfl⟩
  have HR := Lib.hid (show markN s.data.toList p = 0 from by unfold markN; rw [g0, g1]; simp [markC, q60, q62, q43, q45, q42, q47, q40, q41, q44, q58, q61])
  have t60 : (((s[p]'h).toNat : Int) == 60) = false := byte_ne (k := 60) q60
  have t62 : (((s[p]'h).toNat : Int) == 62) = false := byte_ne (k := 62) q62
  have t43 : (((s[p]'h).toNat : Int) == 43) = false := byte_ne (k := 43) q43
  have t45 : (((s[p]'h).toNat : Int) == 45) = false := byte_ne (k := 45) q45
  have t42 : (((s[p]'h).toNat : Int) == 42) = false := byte_ne (k := 42) q42
  have t47 : (((s[p]'h).toNat : Int) == 47) = false := byte_ne (k := 47) q47
  have t40 : (((s[p]'h).toNat : Int) == 40) = false := byte_ne (k := 40) q40
  have t41 : (((s[p]'h).toNat : Int) == 41) = false := byte_ne (k := 41) q41
  have t44 : (((s[p]'h).toNat : Int) == 44) = false := byte_ne (k := 44) q44
  have t58 : (((s[p]'h).toNat : Int) == 58) = false := byte_ne (k := 58) q58
  have t61 : (((s[p]'h).toNat : Int) == 61) = false := byte_ne (k := 61) q61
  clear g0 g1 q60 q62 q43 q45 q42 q47 q40 q41 q44 q58 q61
  go_enter Tryz.func67, Tryz.ntmps67
  go_wp2_with fail
  go_ret
  exact ⟨ret_int HR.out.symm, rfl⟩

set_option maxHeartbeats 2000000 in
theorem lmark_last (s : ByteArray) (hs : s.size ≤ 9223372036854775807) (p : Nat) (h : p < s.size) (hp : ¬ p + 1 < s.size) (w : World) :
    Calls Tryz.prog 67 #[.string s, .int .i64 (p : Int)] w fun e w' => e = .returned (.int .i64 (markN s.data.toList p)) ∧ w = w' := by
  have g0 := byte_getD s p h
  have g1 := byte_past s (p + 1) hp
  have dp : decide ((p : Int) + 1 < (s.size : Int)) = false := decide_eq_false (by omega)
  by_cases q60 : (s[p]'h) = 60
  · have HR := Lib.hid (show markN s.data.toList p = 1 from by unfold markN; rw [g0, g1]; simp [markC, q60])
    have t60 : (((s[p]'h).toNat : Int) == 60) = true := byte_eq (k := 60) q60
    have t43 : (((s[p]'h).toNat : Int) == 43) = false := byte_ne (k := 43) (by rw [q60]; decide)
    have t45 : (((s[p]'h).toNat : Int) == 45) = false := byte_ne (k := 45) (by rw [q60]; decide)
    have t42 : (((s[p]'h).toNat : Int) == 42) = false := byte_ne (k := 42) (by rw [q60]; decide)
    have t47 : (((s[p]'h).toNat : Int) == 47) = false := byte_ne (k := 47) (by rw [q60]; decide)
    have t40 : (((s[p]'h).toNat : Int) == 40) = false := byte_ne (k := 40) (by rw [q60]; decide)
    have t41 : (((s[p]'h).toNat : Int) == 41) = false := byte_ne (k := 41) (by rw [q60]; decide)
    have t44 : (((s[p]'h).toNat : Int) == 44) = false := byte_ne (k := 44) (by rw [q60]; decide)
    have t58 : (((s[p]'h).toNat : Int) == 58) = false := byte_ne (k := 58) (by rw [q60]; decide)
    have t62 : (((s[p]'h).toNat : Int) == 62) = false := byte_ne (k := 62) (by rw [q60]; decide)
    clear g0 g1 q60
    go_enter Tryz.func67, Tryz.ntmps67
    go_wp2_with fail
    go_ret
    exact ⟨ret_int HR.out.symm, rfl⟩
  by_cases q62 : (s[p]'h) = 62
  · have HR := Lib.hid (show markN s.data.toList p = 1 from by unfold markN; rw [g0, g1]; simp [markC, q62])
    have t43 : (((s[p]'h).toNat : Int) == 43) = false := byte_ne (k := 43) (by rw [q62]; decide)
    have t45 : (((s[p]'h).toNat : Int) == 45) = false := byte_ne (k := 45) (by rw [q62]; decide)
    have t42 : (((s[p]'h).toNat : Int) == 42) = false := byte_ne (k := 42) (by rw [q62]; decide)
    have t47 : (((s[p]'h).toNat : Int) == 47) = false := byte_ne (k := 47) (by rw [q62]; decide)
    have t40 : (((s[p]'h).toNat : Int) == 40) = false := byte_ne (k := 40) (by rw [q62]; decide)
    have t41 : (((s[p]'h).toNat : Int) == 41) = false := byte_ne (k := 41) (by rw [q62]; decide)
    have t44 : (((s[p]'h).toNat : Int) == 44) = false := byte_ne (k := 44) (by rw [q62]; decide)
    have t58 : (((s[p]'h).toNat : Int) == 58) = false := byte_ne (k := 58) (by rw [q62]; decide)
    have t60 : (((s[p]'h).toNat : Int) == 60) = false := byte_ne (k := 60) q60
    have t61 : (((s[p]'h).toNat : Int) == 61) = false := byte_ne (k := 61) (by rw [q62]; decide)
    have t62 : (((s[p]'h).toNat : Int) == 62) = true := byte_eq (k := 62) q62
    clear g0 g1 q60 q62
    go_enter Tryz.func67, Tryz.ntmps67
    go_wp2_with fail
    go_ret
    exact ⟨ret_int HR.out.symm, rfl⟩
  by_cases q43 : (s[p]'h) = 43
  · have HR := Lib.hid (show markN s.data.toList p = 1 from by unfold markN; rw [g0, g1]; simp [markC, q43])
    have t60 : (((s[p]'h).toNat : Int) == 60) = false := byte_ne (k := 60) q60
    have t62 : (((s[p]'h).toNat : Int) == 62) = false := byte_ne (k := 62) q62
    have t43 : (((s[p]'h).toNat : Int) == 43) = true := byte_eq (k := 43) q43
    clear g0 g1 q60 q62 q43
    go_enter Tryz.func67, Tryz.ntmps67
    go_wp2_with fail
    go_ret
    exact ⟨ret_int HR.out.symm, rfl⟩
  by_cases q45 : (s[p]'h) = 45
  · have HR := Lib.hid (show markN s.data.toList p = 1 from by unfold markN; rw [g0, g1]; simp [markC, q45])
    have t60 : (((s[p]'h).toNat : Int) == 60) = false := byte_ne (k := 60) q60
    have t62 : (((s[p]'h).toNat : Int) == 62) = false := byte_ne (k := 62) q62
    have t43 : (((s[p]'h).toNat : Int) == 43) = false := byte_ne (k := 43) q43
    have t45 : (((s[p]'h).toNat : Int) == 45) = true := byte_eq (k := 45) q45
    clear g0 g1 q60 q62 q43 q45
    go_enter Tryz.func67, Tryz.ntmps67
    go_wp2_with fail
    go_ret
    exact ⟨ret_int HR.out.symm, rfl⟩
  by_cases q42 : (s[p]'h) = 42
  · have HR := Lib.hid (show markN s.data.toList p = 1 from by unfold markN; rw [g0, g1]; simp [markC, q42])
    have t60 : (((s[p]'h).toNat : Int) == 60) = false := byte_ne (k := 60) q60
    have t62 : (((s[p]'h).toNat : Int) == 62) = false := byte_ne (k := 62) q62
    have t43 : (((s[p]'h).toNat : Int) == 43) = false := byte_ne (k := 43) q43
    have t45 : (((s[p]'h).toNat : Int) == 45) = false := byte_ne (k := 45) q45
    have t42 : (((s[p]'h).toNat : Int) == 42) = true := byte_eq (k := 42) q42
    clear g0 g1 q60 q62 q43 q45 q42
    go_enter Tryz.func67, Tryz.ntmps67
    go_wp2_with fail
    go_ret
    exact ⟨ret_int HR.out.symm, rfl⟩
  by_cases q47 : (s[p]'h) = 47
  · have HR := Lib.hid (show markN s.data.toList p = 1 from by unfold markN; rw [g0, g1]; simp [markC, q47])
    have t60 : (((s[p]'h).toNat : Int) == 60) = false := byte_ne (k := 60) q60
    have t62 : (((s[p]'h).toNat : Int) == 62) = false := byte_ne (k := 62) q62
    have t43 : (((s[p]'h).toNat : Int) == 43) = false := byte_ne (k := 43) q43
    have t45 : (((s[p]'h).toNat : Int) == 45) = false := byte_ne (k := 45) q45
    have t42 : (((s[p]'h).toNat : Int) == 42) = false := byte_ne (k := 42) q42
    have t47 : (((s[p]'h).toNat : Int) == 47) = true := byte_eq (k := 47) q47
    clear g0 g1 q60 q62 q43 q45 q42 q47
    go_enter Tryz.func67, Tryz.ntmps67
    go_wp2_with fail
    go_ret
    exact ⟨ret_int HR.out.symm, rfl⟩
  by_cases q40 : (s[p]'h) = 40
  · have HR := Lib.hid (show markN s.data.toList p = 1 from by unfold markN; rw [g0, g1]; simp [markC, q40])
    have t60 : (((s[p]'h).toNat : Int) == 60) = false := byte_ne (k := 60) q60
    have t62 : (((s[p]'h).toNat : Int) == 62) = false := byte_ne (k := 62) q62
    have t43 : (((s[p]'h).toNat : Int) == 43) = false := byte_ne (k := 43) q43
    have t45 : (((s[p]'h).toNat : Int) == 45) = false := byte_ne (k := 45) q45
    have t42 : (((s[p]'h).toNat : Int) == 42) = false := byte_ne (k := 42) q42
    have t47 : (((s[p]'h).toNat : Int) == 47) = false := byte_ne (k := 47) q47
    have t40 : (((s[p]'h).toNat : Int) == 40) = true := byte_eq (k := 40) q40
    clear g0 g1 q60 q62 q43 q45 q42 q47 q40
    go_enter Tryz.func67, Tryz.ntmps67
    go_wp2_with fail
    go_ret
    exact ⟨ret_int HR.out.symm, rfl⟩
  by_cases q41 : (s[p]'h) = 41
  · have HR := Lib.hid (show markN s.data.toList p = 1 from by unfold markN; rw [g0, g1]; simp [markC, q41])
    have t60 : (((s[p]'h).toNat : Int) == 60) = false := byte_ne (k := 60) q60
    have t62 : (((s[p]'h).toNat : Int) == 62) = false := byte_ne (k := 62) q62
    have t43 : (((s[p]'h).toNat : Int) == 43) = false := byte_ne (k := 43) q43
    have t45 : (((s[p]'h).toNat : Int) == 45) = false := byte_ne (k := 45) q45
    have t42 : (((s[p]'h).toNat : Int) == 42) = false := byte_ne (k := 42) q42
    have t47 : (((s[p]'h).toNat : Int) == 47) = false := byte_ne (k := 47) q47
    have t40 : (((s[p]'h).toNat : Int) == 40) = false := byte_ne (k := 40) q40
    have t41 : (((s[p]'h).toNat : Int) == 41) = true := byte_eq (k := 41) q41
    clear g0 g1 q60 q62 q43 q45 q42 q47 q40 q41
    go_enter Tryz.func67, Tryz.ntmps67
    go_wp2_with fail
    go_ret
    exact ⟨ret_int HR.out.symm, rfl⟩
  by_cases q44 : (s[p]'h) = 44
  · have HR := Lib.hid (show markN s.data.toList p = 1 from by unfold markN; rw [g0, g1]; simp [markC, q44])
    have t60 : (((s[p]'h).toNat : Int) == 60) = false := byte_ne (k := 60) q60
    have t62 : (((s[p]'h).toNat : Int) == 62) = false := byte_ne (k := 62) q62
    have t43 : (((s[p]'h).toNat : Int) == 43) = false := byte_ne (k := 43) q43
    have t45 : (((s[p]'h).toNat : Int) == 45) = false := byte_ne (k := 45) q45
    have t42 : (((s[p]'h).toNat : Int) == 42) = false := byte_ne (k := 42) q42
    have t47 : (((s[p]'h).toNat : Int) == 47) = false := byte_ne (k := 47) q47
    have t40 : (((s[p]'h).toNat : Int) == 40) = false := byte_ne (k := 40) q40
    have t41 : (((s[p]'h).toNat : Int) == 41) = false := byte_ne (k := 41) q41
    have t44 : (((s[p]'h).toNat : Int) == 44) = true := byte_eq (k := 44) q44
    clear g0 g1 q60 q62 q43 q45 q42 q47 q40 q41 q44
    go_enter Tryz.func67, Tryz.ntmps67
    go_wp2_with fail
    go_ret
    exact ⟨ret_int HR.out.symm, rfl⟩
  by_cases q58 : (s[p]'h) = 58
  · have HR := Lib.hid (show markN s.data.toList p = 1 from by unfold markN; rw [g0, g1]; simp [markC, q58])
    have t60 : (((s[p]'h).toNat : Int) == 60) = false := byte_ne (k := 60) q60
    have t62 : (((s[p]'h).toNat : Int) == 62) = false := byte_ne (k := 62) q62
    have t43 : (((s[p]'h).toNat : Int) == 43) = false := byte_ne (k := 43) q43
    have t45 : (((s[p]'h).toNat : Int) == 45) = false := byte_ne (k := 45) q45
    have t42 : (((s[p]'h).toNat : Int) == 42) = false := byte_ne (k := 42) q42
    have t47 : (((s[p]'h).toNat : Int) == 47) = false := byte_ne (k := 47) q47
    have t40 : (((s[p]'h).toNat : Int) == 40) = false := byte_ne (k := 40) q40
    have t41 : (((s[p]'h).toNat : Int) == 41) = false := byte_ne (k := 41) q41
    have t44 : (((s[p]'h).toNat : Int) == 44) = false := byte_ne (k := 44) q44
    have t58 : (((s[p]'h).toNat : Int) == 58) = true := byte_eq (k := 58) q58
    clear g0 g1 q60 q62 q43 q45 q42 q47 q40 q41 q44 q58
    go_enter Tryz.func67, Tryz.ntmps67
    go_wp2_with fail
    go_ret
    exact ⟨ret_int HR.out.symm, rfl⟩
  by_cases q61 : (s[p]'h) = 61
  · have HR := Lib.hid (show markN s.data.toList p = 1 from by unfold markN; rw [g0, g1]; simp [markC, q61])
    have t60 : (((s[p]'h).toNat : Int) == 60) = false := byte_ne (k := 60) q60
    have t62 : (((s[p]'h).toNat : Int) == 62) = false := byte_ne (k := 62) q62
    have t43 : (((s[p]'h).toNat : Int) == 43) = false := byte_ne (k := 43) q43
    have t45 : (((s[p]'h).toNat : Int) == 45) = false := byte_ne (k := 45) q45
    have t42 : (((s[p]'h).toNat : Int) == 42) = false := byte_ne (k := 42) q42
    have t47 : (((s[p]'h).toNat : Int) == 47) = false := byte_ne (k := 47) q47
    have t40 : (((s[p]'h).toNat : Int) == 40) = false := byte_ne (k := 40) q40
    have t41 : (((s[p]'h).toNat : Int) == 41) = false := byte_ne (k := 41) q41
    have t44 : (((s[p]'h).toNat : Int) == 44) = false := byte_ne (k := 44) q44
    have t58 : (((s[p]'h).toNat : Int) == 58) = false := byte_ne (k := 58) q58
    have t61 : (((s[p]'h).toNat : Int) == 61) = true := byte_eq (k := 61) q61
    clear g0 g1 q60 q62 q43 q45 q42 q47 q40 q41 q44 q58 q61
    go_enter Tryz.func67, Tryz.ntmps67
    go_wp2_with fail
    go_ret
    exact ⟨ret_int HR.out.symm, rfl⟩
  have HR := Lib.hid (show markN s.data.toList p = 0 from by unfold markN; rw [g0, g1]; simp [markC, q60, q62, q43, q45, q42, q47, q40, q41, q44, q58, q61])
  have t60 : (((s[p]'h).toNat : Int) == 60) = false := byte_ne (k := 60) q60
  have t62 : (((s[p]'h).toNat : Int) == 62) = false := byte_ne (k := 62) q62
  have t43 : (((s[p]'h).toNat : Int) == 43) = false := byte_ne (k := 43) q43
  have t45 : (((s[p]'h).toNat : Int) == 45) = false := byte_ne (k := 45) q45
  have t42 : (((s[p]'h).toNat : Int) == 42) = false := byte_ne (k := 42) q42
  have t47 : (((s[p]'h).toNat : Int) == 47) = false := byte_ne (k := 47) q47
  have t40 : (((s[p]'h).toNat : Int) == 40) = false := byte_ne (k := 40) q40
  have t41 : (((s[p]'h).toNat : Int) == 41) = false := byte_ne (k := 41) q41
  have t44 : (((s[p]'h).toNat : Int) == 44) = false := byte_ne (k := 44) q44
  have t58 : (((s[p]'h).toNat : Int) == 58) = false := byte_ne (k := 58) q58
  have t61 : (((s[p]'h).toNat : Int) == 61) = false := byte_ne (k := 61) q61
  clear g0 g1 q60 q62 q43 q45 q42 q47 q40 q41 q44 q58 q61
  go_enter Tryz.func67, Tryz.ntmps67
  go_wp2_with fail
  go_ret
  exact ⟨ret_int HR.out.symm, rfl⟩

theorem lmark_any (s : ByteArray) (hs : s.size ≤ 9223372036854775807) (p : Nat) (h : p < s.size) (w : World) :
    Calls Tryz.prog 67 #[.string s, .int .i64 (p : Int)] w fun e w' => e = .returned (.int .i64 (markN s.data.toList p)) ∧ w = w' := by
  by_cases hp : p + 1 < s.size
  · exact lmark_two s hs p h hp w
  · exact lmark_last s hs p h hp w
end Go.Proofs.YtahdlijkohmdfaaGreatDoor
