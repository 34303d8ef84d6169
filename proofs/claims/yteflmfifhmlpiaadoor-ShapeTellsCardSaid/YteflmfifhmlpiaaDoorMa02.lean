/- Texts joined: RefA, RefC, RefD, LxB. -/
import Derived.Test.YteflmfifhmlpiaaDoorMa01
import Derived.Deep.CutRange
import Derived.WalkSmall
import Derived.Lib.AtoiErrMem
import Derived.Deep.RegionWith
import Derived.Deep.RegionHeld3
set_option linter.all false
set_option linter.unusedVariables false
set_option linter.unusedSimpArgs false
namespace Go.Proofs.YteflmfifhmlpiaaDoor
open Go.RowKit

def rightB (c r : Int) : Bool := decide (0 ≤ c ∧ c ≤ 15 ∧ 0 ≤ r ∧ r ≤ 63)
theorem rightB_iff (c r : Int) : rightB c r = true ↔ 0 ≤ c ∧ c ≤ 15 ∧ 0 ≤ r ∧ r ≤ 63 := by unfold rightB; simp
theorem rightB_not (c r : Int) : rightB c r = false ↔ ¬ (0 ≤ c ∧ c ≤ 15 ∧ 0 ≤ r ∧ r ≤ 63) := by unfold rightB; simp

set_option maxHeartbeats 400000 in
theorem rright_any (c r : Int) (w : World) :
    Calls Tryd.prog 39 #[.agg #[.int .i64 c, .int .i64 r]] w fun e w' => e = .returned (.bool (rightB c r)) ∧ Below w.heap.size w w' := by
  go_enter Tryd.func39, Tryd.ntmps39
  go_wp2_with fail
  all_goals go_ret
  · exact ⟨ret_bool (bool_iff (by rw [rightB_iff]; simp; omega)), (Below.refl _ _).alloc (Nat.le_refl _) _⟩
  · exact ⟨ret_bool ((rightB_not _ _).2 (by omega)).symm, (Below.refl _ _).alloc (Nat.le_refl _) _⟩
  · exact ⟨ret_bool ((rightB_not _ _).2 (by omega)).symm, (Below.refl _ _).alloc (Nat.le_refl _) _⟩
  · exact ⟨ret_bool ((rightB_not _ _).2 (by omega)).symm, (Below.refl _ _).alloc (Nat.le_refl _) _⟩

def idxB (i : Int) : Bool := decide (0 ≤ i ∧ i ≤ 1023)
def atC (i : Int) : Int := if 0 ≤ i ∧ i ≤ 1023 then i % 16 else 0
def atR (i : Int) : Int := if 0 ≤ i ∧ i ≤ 1023 then i / 16 else 0
set_option maxHeartbeats 400000 in
theorem rat_any (i : Int) (w : World) :
    Calls Tryd.prog 32 #[.int .i64 i] w fun e w' => e = .returned (.tuple #[.agg #[.int .i64 (atC i), .int .i64 (atR i)], .bool (idxB i)]) ∧ Below w.heap.size w w' := by
  by_cases h : 0 ≤ i ∧ i ≤ 1023
  · have e1 := Lib.hid (show atC i = i % 16 from if_pos h)
    have e2 := Lib.hid (show atR i = i / 16 from if_pos h)
    have e3 := Lib.hid (show idxB i = true from decide_eq_true h)
    obtain ⟨h1, h2⟩ := h
    go_enter Tryd.func32, Tryd.ntmps32
    go_wp2_with fail
    exact bodyPost_ret (v := .tuple #[.agg #[.int .i64 (i % 16), .int .i64 (i / 16)], .bool true]) (by simp [results, Tryd.results32, go_sem]) rfl
      ⟨by rw [e1.out, e2.out, e3.out], (Below.refl _ _).alloc (Nat.le_refl _) _⟩
  · have e1 := Lib.hid (show atC i = 0 from if_neg h)
    have e2 := Lib.hid (show atR i = 0 from if_neg h)
    have e3 := Lib.hid (show idxB i = false from decide_eq_false h)
    by_cases h1 : i < 0
    · clear h
      go_enter Tryd.func32, Tryd.ntmps32
      go_wp2_with fail
      exact bodyPost_ret (v := .tuple #[.agg #[.int .i64 0, .int .i64 0], .bool false]) (by simp [results, Tryd.results32, go_sem]) rfl
        ⟨by rw [e1.out, e2.out, e3.out], (Below.refl _ _).alloc (Nat.le_refl _) _⟩
    · have h2 : 1023 < i := by omega
      clear h
      go_enter Tryd.func32, Tryd.ntmps32
      go_wp2_with fail
      exact bodyPost_ret (v := .tuple #[.agg #[.int .i64 0, .int .i64 0], .bool false]) (by simp [results, Tryd.results32, go_sem]) rfl
        ⟨by rw [e1.out, e2.out, e3.out], (Below.refl _ _).alloc (Nat.le_refl _) _⟩

theorem atC_of (j : Nat) (h : j < 1024) : atC (j : Int) = (j : Int) % 16 := if_pos (by omega)
theorem atR_of (j : Nat) (h : j < 1024) : atR (j : Int) = (j : Int) / 16 := if_pos (by omega)
end Go.Proofs.YteflmfifhmlpiaaDoor
namespace Go.Proofs.YteflmfifhmlpiaaDoor
open Go.RowKit

def letter (c : Int) : UInt8 := UInt8.ofNat (65 + c.toNat)
def letters : ByteArray := ⟨#[65, 66, 67, 68, 69, 70, 71, 72, 73, 74, 75, 76, 77, 78, 79, 80]⟩
theorem letters_at : ∀ k : Fin 16, (letters.extract k.val (k.val + 1)).data.toList = [UInt8.ofNat (65 + k.val)] := by decide +kernel
theorem letter_is (c : Int) (c0 : 0 ≤ c) (c1 : c ≤ 15) : (⟨#[65, 66, 67, 68, 69, 70, 71, 72, 73, 74, 75, 76, 77, 78, 79, 80]⟩ : ByteArray).extract c.toNat (c + 1).toNat = ⟨#[letter c]⟩ := by
  have e := letters_at ⟨c.toNat, by omega⟩
  have e2 : (c + 1).toNat = c.toNat + 1 := by omega
  rw [e2]
  have e4 : ∀ (a : ByteArray) (x : UInt8), a.data.toList = [x] → a = ⟨#[x]⟩ := fun a x hx => by
    obtain ⟨d⟩ := a
    congr
    exact Array.toList_inj.1 hx
  exact e4 _ _ e

theorem itoa_len (n : Int) (h : B64 n) : (Lib.itoa n).length ≤ 31 := by
  have h1 := digits_len n.natAbs (by unfold B64 at h; omega)
  have h2 := digits_len n.toNat (by unfold B64 at h; omega)
  unfold Lib.itoa
  split
  · simp; omega
  · omega
def placeText (c r : Int) : List UInt8 := if rightB c r = true then letter c :: Lib.itoa (r + 1) else []
set_option maxHeartbeats 1000000 in
theorem rtext2_yes (c r : Int) (w : World) (hr : rightB c r = true) :
    Calls Tryd.prog 64 #[.agg #[.int .i64 c, .int .i64 r]] w fun e w' => e = .returned (.string ⟨(placeText c r).toArray⟩) ∧ Below w.heap.size w w' := by
  have HR := Lib.hid (rright_any c r)
  obtain ⟨c0, c1, r0, r1⟩ := (rightB_iff c r).1 hr
  rw [hr] at HR
  have e1 := Lib.hid (show placeText c r = letter c :: Lib.itoa (r + 1) from if_pos hr)
  clear hr
  have hl := letter_is c c0 c1
  have hw1 : IntKind.i64.wrap (c + 1) = c + 1 := IntWalk.i64_in _ (by omega)
  have hw2 : IntKind.i64.wrap (r + 1) = r + 1 := IntWalk.i64_in _ (by omega)
  have hc1 : 0 ≤ c + 1 := by omega
  have hc2 : c + 1 ≤ 16 := by omega
  have HT := Lib.hid (rtext_any (r + 1) (by unfold B64; omega))
  have hlen := itoa_len (r + 1) (by unfold B64; omega)
  obtain ⟨D, hD⟩ : ∃ D, D = Lib.itoa (r + 1) := ⟨_, rfl⟩
  rw [← hD] at HT hlen e1
  clear hD
  go_enter Tryd.func64, Tryd.ntmps64
  go_wp2_with fail
  refine (HR.out _).mono ?_; rintro e w1 ⟨rfl, b1⟩
  have k0 := keep_fresh b1 0 (v := .int .i64 c) rfl
  have k1 := keep_fresh b1 1 (v := .int .i64 r) rfl
  go_wp2_with fail
  go_region_with ((first
    | (go_at_call 63; refine (HT.out _).mono ?_; rintro e w2 ⟨rfl, b2⟩; have m0 := keep_cell (W := w1.drew) b2 k0; have m1 := keep_cell (W := w1.drew) b2 k1)))
  all_goals
    go_wp2
    go_ret
    have h1 : Below w.heap.size w w1 := ((Below.refl _ _).alloc (Nat.le_refl _) _).trans (b1.mono (by simp))
    exact ⟨ret_str (by rw [e1.out, ByteArray.mk_append_mk]; simp), h1.drew.trans (b2.mono h1.size)⟩
set_option maxHeartbeats 400000 in
theorem rtext2_no (c r : Int) (w : World) (hr : rightB c r = false) :
    Calls Tryd.prog 64 #[.agg #[.int .i64 c, .int .i64 r]] w fun e w' => e = .returned (.string ⟨(placeText c r).toArray⟩) ∧ Below w.heap.size w w' := by
  have HR := Lib.hid (rright_any c r)
  have e1 := Lib.hid (show placeText c r = [] from if_neg (by rw [hr]; decide))
  rw [hr] at HR
  clear hr
  go_enter Tryd.func64, Tryd.ntmps64
  go_wp2_with fail
  refine (HR.out _).mono ?_; rintro e w1 ⟨rfl, b1⟩
  have h1 : Below w.heap.size w w1 := ((Below.refl _ _).alloc (Nat.le_refl _) _).trans (b1.mono (by simp))
  go_wp2_with fail
  go_ret
  exact ⟨ret_str (by rw [e1.out]), h1⟩
theorem rtext2_any (c r : Int) (w : World) :
    Calls Tryd.prog 64 #[.agg #[.int .i64 c, .int .i64 r]] w fun e w' => e = .returned (.string ⟨(placeText c r).toArray⟩) ∧ Below w.heap.size w w' := by
  cases hr : rightB c r with
  | true => exact rtext2_yes c r w hr
  | false => exact rtext2_no c r w hr
end Go.Proofs.YteflmfifhmlpiaaDoor
namespace Go.Proofs.YteflmfifhmlpiaaDoor
open Go.RowKit

theorem byte_at (s : ByteArray) (i : Nat) (h : i < s.size) : s.data.toList[i]? = some (s[i]'h) := by
  have h1 : i < s.data.toList.length := by rw [Array.length_toList]; exact h
  rw [List.getElem?_eq_getElem h1]
  rfl
theorem byte_getD (s : ByteArray) (i : Nat) (h : i < s.size) : s.data.toList.getD i 0 = (s[i]'h) := by
  rw [List.getD_eq_getElem?_getD, byte_at s i h]; rfl
theorem len_of (s : ByteArray) : s.data.toList.length = s.size := Array.length_toList

def formedB (l : List UInt8) : Bool := decide (2 ≤ l.length ∧ l.length ≤ 4 ∧ 65 ≤ (l.getD 0 0).toNat ∧ (l.getD 0 0).toNat ≤ 90 ∧ (l.getD 1 0).toNat ≠ 48) &&
  decide (∀ i, i < l.length → 1 ≤ i → 48 ≤ (l.getD i 0).toNat ∧ (l.getD i 0).toNat ≤ 57)

set_option maxHeartbeats 1000000 in
theorem rformed_any (s : ByteArray) (hs : s.size ≤ 9223372036854775807) (w : World) :
    Calls Tryd.prog 85 #[.string s] w fun e w' => e = .returned (.bool (formedB s.data.toList)) ∧ w = w' := by
  by_cases h2 : s.size < 2
  · have e1 := Lib.hid (show formedB s.data.toList = false from by
      unfold formedB; rw [len_of, decide_eq_false (by omega)]; rfl)
    have d1 : decide ((s.size : Int) < 2) = true := decide_eq_true (by omega)
    clear h2
    go_enter Tryd.func85, Tryd.ntmps85
    go_wp2_with fail
    go_ret
    exact ⟨ret_bool e1.out.symm, rfl⟩
  · have d1 : decide ((s.size : Int) < 2) = false := decide_eq_false (by omega)
    by_cases h4 : 4 < s.size
    · have e1 := Lib.hid (show formedB s.data.toList = false from by
        unfold formedB; rw [len_of, decide_eq_false (by omega)]; rfl)
      have d2 : decide ((4 : Int) < (s.size : Int)) = true := decide_eq_true (by omega)
      clear h2 h4
      go_enter Tryd.func85, Tryd.ntmps85
      go_wp2_with fail
      go_ret
      exact ⟨ret_bool e1.out.symm, rfl⟩
    · have d2 : decide ((4 : Int) < (s.size : Int)) = false := decide_eq_false (by omega)
      have s0 : 0 < s.size := by omega
      have s1 : 1 < s.size := by omega
      have g0 := Lib.hid (byte_getD s 0 s0)
      have g1 := Lib.hid (byte_getD s 1 s1)
      by_cases ha : 65 ≤ (s[0]'s0).toNat ∧ (s[0]'s0).toNat ≤ 90 ∧ (s[1]'s1).toNat ≠ 48
      · obtain ⟨a1, a2, a3⟩ := ha
        have d3 : decide (((s[0]'s0).toNat : Int) < 65) = false := decide_eq_false (by omega)
        have d4 : decide ((90 : Int) < ((s[0]'s0).toNat : Int)) = false := decide_eq_false (by omega)
        have d5 : (((s[1]'s1).toNat : Int) == 48) = false := by rw [beq_eq_false_iff_ne]; omega
        have e0 := Lib.hid (show formedB s.data.toList = decide (∀ i, i < s.data.toList.length → 1 ≤ i → 48 ≤ (s.data.toList.getD i 0).toNat ∧ (s.data.toList.getD i 0).toNat ≤ 57) from by
          unfold formedB
          rw [g0.out, g1.out, len_of, decide_eq_true (p := 2 ≤ s.size ∧ _) (by omega), Bool.true_and])
        clear a1 a2 a3 h2
        go_enter Tryd.func85, Tryd.ntmps85
        go_wp2_with fail
        go_loop [3] (fun v => ∃ i : Nat, 1 ≤ i ∧ i ≤ s.size ∧ v = .int .i64 i ∧ Hid (∀ j, j < i → 1 ≤ j → 48 ≤ (s.data.toList.getD j 0).toNat ∧ (s.data.toList.getD j 0).toNat ≤ 57)) (fun v => s.size - (intOf v).toNat)
        case atStart => exact ⟨1, Nat.le_refl _, by omega, rfl, Lib.hid fun j hj hj1 => by omega⟩
        case round =>
          obtain ⟨i, hi1, hi, rfl, HU⟩ := hrel
          by_cases hlt : i < s.size
          · have gi := Lib.hid (byte_getD s i hlt)
            by_cases hdig : 48 ≤ (s[i]'hlt).toNat ∧ (s[i]'hlt).toNat ≤ 57
            · have HS : Hid (∀ j, j < i + 1 → 1 ≤ j → 48 ≤ (s.data.toList.getD j 0).toNat ∧ (s.data.toList.getD j 0).toNat ≤ 57) := Lib.hid fun j hj hj1 => by
                by_cases e : j = i
                · subst e; rw [gi.out]; exact hdig
                · exact HU.out j (by omega) hj1
              obtain ⟨q1, q2⟩ := hdig
              have t1 : decide (((s[i]'hlt).toNat : Int) < 48) = false := decide_eq_false (by omega)
              have t2 : decide ((57 : Int) < ((s[i]'hlt).toNat : Int)) = false := decide_eq_false (by omega)
              clear q1 q2
              go_wp2_with fail
              go_round
              case rel => exact ⟨i + 1, by omega, by omega, by go_num, HS⟩
              case measure => simp [intOf]; omega
            · have e1 := Lib.hid (show formedB s.data.toList = false from by
                rw [e0.out]
                refine decide_eq_false fun h => hdig ?_
                have := h i (by rw [len_of]; exact hlt) hi1
                rwa [gi.out] at this)
              by_cases q1 : (s[i]'hlt).toNat < 48
              · have t1 : decide (((s[i]'hlt).toNat : Int) < 48) = true := decide_eq_true (by omega)
                clear hdig q1
                go_wp2_with fail
                go_ret
                exact ⟨ret_bool e1.out.symm, rfl⟩
              · have t1 : decide (((s[i]'hlt).toNat : Int) < 48) = false := decide_eq_false (by omega)
                have t2 : decide ((57 : Int) < ((s[i]'hlt).toNat : Int)) = true := decide_eq_true (by omega)
                clear hdig q1
                go_wp2_with fail
                go_ret
                exact ⟨ret_bool e1.out.symm, rfl⟩
          · have e1 := Lib.hid (show formedB s.data.toList = true from by
              rw [e0.out]
              refine decide_eq_true fun j hj hj1 => HU.out j (by rw [len_of] at hj; omega) hj1)
            go_wp2_with fail
            go_ret
            exact ⟨ret_bool e1.out.symm, rfl⟩
      · have e1 := Lib.hid (show formedB s.data.toList = false from by
          unfold formedB
          rw [g0.out, g1.out, len_of, decide_eq_false (p := 2 ≤ s.size ∧ _) (by omega), Bool.false_and])
        by_cases a1 : (s[0]'s0).toNat < 65
        · have d3 : decide (((s[0]'s0).toNat : Int) < 65) = true := decide_eq_true (by omega)
          clear a1 ha h2 h4
          go_enter Tryd.func85, Tryd.ntmps85
          go_wp2_with fail
          go_ret
          exact ⟨ret_bool e1.out.symm, rfl⟩
        · have d3 : decide (((s[0]'s0).toNat : Int) < 65) = false := decide_eq_false (by omega)
          by_cases a2 : 90 < (s[0]'s0).toNat
          · have d4 : decide ((90 : Int) < ((s[0]'s0).toNat : Int)) = true := decide_eq_true (by omega)
            clear a1 a2 ha h2 h4
            go_enter Tryd.func85, Tryd.ntmps85
            go_wp2_with fail
            go_ret
            exact ⟨ret_bool e1.out.symm, rfl⟩
          · have d4 : decide ((90 : Int) < ((s[0]'s0).toNat : Int)) = false := decide_eq_false (by omega)
            have d5 : (((s[1]'s1).toNat : Int) == 48) = true := by rw [beq_iff_eq]; omega
            clear a1 a2 ha h2 h4
            go_enter Tryd.func85, Tryd.ntmps85
            go_wp2_with fail
            go_ret
            exact ⟨ret_bool e1.out.symm, rfl⟩
end Go.Proofs.YteflmfifhmlpiaaDoor
namespace Go.Proofs.YteflmfifhmlpiaaDoor
open Go.RowKit

def numV (l : List UInt8) : Option Nat := match Lib.decFrom 0 l with | some u => if u ≤ 9223372036854775807 then some u else none | none => none
def numN (l : List UInt8) : Int := match numV l with | some u => (u : Int) | none => 0
theorem dec_snoc {l : List UInt8} {i n : Nat} {c : UInt8} (h : Lib.decFrom 0 (l.take i) = some n) (hc : l[i]? = some c) (hf : isFig c = true) : Lib.decFrom 0 (l.take (i + 1)) = some (n * 10 + (c.toNat - 48)) := by
  have hd : Lib.digitVal c = some (c.toNat - 48) := by
    have hq : 48 ≤ c.toNat ∧ c.toNat ≤ 57 := of_decide_eq_true hf
    have := digitVal_of (d := c.toNat - 48) (by omega)
    rwa [show 48 + (c.toNat - 48) = c.toNat from by omega, show UInt8.ofNat c.toNat = c from by simp] at this
  rw [List.take_add_one, hc]
  show Lib.decFrom 0 (l.take i ++ [c]) = _
  rw [decFrom_append, h]
  simp [hd]
theorem dec_split {l : List UInt8} {i n u : Nat} (h : Lib.decFrom 0 (l.take i) = some n) (hu : Lib.decFrom 0 l = some u) : n ≤ u := by
  have e : l = l.take i ++ l.drop i := (List.take_append_drop i l).symm
  have h2 : ∀ (a b : List UInt8) (x y : Nat), Lib.decFrom x a = some y → Lib.decFrom x (a ++ b) = Lib.decFrom y b := by
    intro a
    induction a with
    | nil => intro b x y h; simp [Lib.decFrom] at h; subst h; rfl
    | cons c r ih =>
      intro b x y h
      simp only [List.cons_append, Lib.decFrom] at h ⊢
      cases hd : Lib.digitVal c with
      | none => rw [hd] at h; cases h
      | some d => rw [hd] at h; exact ih b _ y h
  rw [e, h2 _ _ _ _ h] at hu
  exact decFrom_le _ _ _ hu

set_option maxHeartbeats 1000000 in
theorem lnumber_any (s : ByteArray) (hs : s.size ≤ 9223372036854775807) (hf : ∀ i (h : i < s.size), isFig (s[i]'h) = true) (w : World) :
    Calls Tryd.prog 71 #[.string s] w fun e w' => e = .returned (.tuple #[.int .i64 (numN s.data.toList), .bool (numV s.data.toList).isSome]) ∧ w = w' := by
  have HF := Lib.hid hf
  clear hf
  go_enter Tryd.func71, Tryd.ntmps71
  go_wp2_with fail
  go_loop [4, 5] (fun vn vi => ∃ i n : Nat, i ≤ s.size ∧ n ≤ 9223372036854775807 ∧ vi = .int .i64 i ∧ vn = .int .i64 n ∧ Hid (Lib.decFrom 0 (s.data.toList.take i) = some n)) (fun _ vi => s.size - (intOf vi).toNat)
  case atStart => exact ⟨0, 0, Nat.zero_le _, Nat.zero_le _, rfl, rfl, Lib.hid (by simp [Lib.decFrom])⟩
  case round =>
    obtain ⟨i, n, hi, hn, rfl, rfl, HU⟩ := hrel
    by_cases hlt : i < s.size
    · have hc := HF.out i hlt
      have hb : 48 ≤ (s[i]'hlt).toNat ∧ (s[i]'hlt).toNat ≤ 57 := of_decide_eq_true hc
      have HS := Lib.hid (dec_snoc HU.out (byte_at s i hlt) hc)
      obtain ⟨b1, b2⟩ := hb
      clear hc
      by_cases hq : (9223372036854775807 - (((s[i]'hlt).toNat : Int) - 48)) / 10 < (n : Int)
      · have hN : numV s.data.toList = none := by
          unfold numV
          cases hu : Lib.decFrom 0 s.data.toList with
          | none => rfl
          | some u =>
            have h1 := dec_split HS.out hu
            have h2 : 9223372036854775807 < u := by omega
            show (if u ≤ 9223372036854775807 then some u else none) = none
            rw [if_neg (by omega)]
        have HN := Lib.hid hN
        clear hN
        go_wp2_with fail
        go_ret2
        exact ⟨ret_pair (by unfold numN; rw [HN.out]) (by rw [HN.out]; rfl), rfl⟩
      · have hm : n * 10 + ((s[i]'hlt).toNat - 48) ≤ 9223372036854775807 := by omega
        go_wp2_with fail
        go_round
        case rel => exact ⟨i + 1, n * 10 + ((s[i]'hlt).toNat - 48), by omega, hm, by go_num, by first | go_num | (congr 1; omega), HS⟩
        case measure => simp [intOf]; omega
    · have hN : numV s.data.toList = some n := by
        have h1 := HU.out
        rw [List.take_of_length_le (by rw [len_of]; omega)] at h1
        unfold numV
        rw [h1]
        exact if_pos hn
      have HN := Lib.hid hN
      clear hN
      go_wp2_with fail
      go_ret2
      exact ⟨ret_pair (by unfold numN; rw [HN.out]) (by rw [HN.out]; rfl), rfl⟩
end Go.Proofs.YteflmfifhmlpiaaDoor
