/- The document's own texts of places. -/
import Derived.Test.YtjfmmnebhmlkeaaDoorRefA
import Derived.Deep.RegionWith
import Derived.Deep.RegionHeld3
namespace Go.Proofs.YtjfmmnebhmlkeaaDoor
open Go.RowKit

/-- the letter of a column -/
def letter (c : Int) : UInt8 := UInt8.ofNat (65 + c.toNat)
def letters : ByteArray := ⟨#[65, 66, 67, 68, 69, 70, 71, 72, 73, 74, 75, 76, 77, 78, 79, 80]⟩
theorem letters_at : ∀ k : Fin 16, (letters.extract k.val (k.val + 1)).data.toList = [UInt8.ofNat (65 + k.val)] := by decide +kernel
theorem letter_is (c : Int) (c0 : 0 ≤ c) (c1 : c ≤ 15) : (⟨#[65, 66, 67, 68, 69, 70, 71, 72, 73, 74, 75, 76, 77, 78, 79, 80]⟩ : ByteArray).extract c.toNat (c + 1).toNat = ⟨#[letter c]⟩ := by
  have e := letters_at ⟨c.toNat, by omega⟩
  have e2 : (c + 1).toNat = c.toNat + 1 := by omega
  rw [e2]
  have e4 : ∀ (a : ByteArray) (x : UInt8), a.data.toList = [x] → a = ⟨#[x]⟩ := fun a x hx => by
    obtain ⟨d⟩ := a
    congr
    exact Array.toList_inj.1 hx
  exact e4 _ _ e

theorem itoa_len (n : Int) (h : B64 n) : (Lib.itoa n).length ≤ 31 := by
  have h1 := digits_len n.natAbs (by unfold B64 at h; omega)
  have h2 := digits_len n.toNat (by unfold B64 at h; omega)
  unfold Lib.itoa
  split
  · simp; omega
  · omega
/-- a place's text -/
def placeText (c r : Int) : List UInt8 := if rightB c r = true then letter c :: Lib.itoa (r + 1) else []
set_option maxHeartbeats 1000000 in
theorem rtext2_yes (c r : Int) (w : World) (hr : rightB c r = true) :
    Calls Tryd.prog 33 #[.agg #[.int .i64 c, .int .i64 r]] w fun e w' => e = .returned (.string ⟨(placeText c r).toArray⟩) ∧ Below w.heap.size w w' := by
  have HR := Lib.hid (rright_any c r)
  obtain ⟨c0, c1, r0, r1⟩ := (rightB_iff c r).1 hr
  rw [hr] at HR
  have e1 := Lib.hid (show placeText c r = letter c :: Lib.itoa (r + 1) from if_pos hr)
  clear hr
  have hl := letter_is c c0 c1
  have hw1 : IntKind.i64.wrap (c + 1) = c + 1 := IntWalk.i64_in _ (by omega)
  have hw2 : IntKind.i64.wrap (r + 1) = r + 1 := IntWalk.i64_in _ (by omega)
  have hc1 : 0 ≤ c + 1 := by omega
  have hc2 : c + 1 ≤ 16 := by omega
  have HT := Lib.hid (rtext_any (r + 1) (by unfold B64; omega))
  have hlen := itoa_len (r + 1) (by unfold B64; omega)
  obtain ⟨D, hD⟩ : ∃ D, D = Lib.itoa (r + 1) := ⟨_, rfl⟩
  rw [← hD] at HT hlen e1
  clear hD
  go_enter Tryd.func33, Tryd.ntmps33
  go_wp2_with fail
  refine (HR.out _).mono ?_; rintro e w1 ⟨rfl, b1⟩
  have k0 := keep_fresh b1 0 (v := .int .i64 c) rfl
  have k1 := keep_fresh b1 1 (v := .int .i64 r) rfl
  go_wp2_with fail
  go_region_with ((first
    | (go_at_call 43; refine (HT.out _).mono ?_; rintro e w2 ⟨rfl, b2⟩; have m0 := keep_cell (W := w1.drew) b2 k0; have m1 := keep_cell (W := w1.drew) b2 k1)))
  all_goals
    go_wp2
    go_ret
    have h1 : Below w.heap.size w w1 := ((Below.refl _ _).alloc (Nat.le_refl _) _).trans (b1.mono (by simp))
    exact ⟨ret_str (by rw [e1.out, ByteArray.mk_append_mk]; simp), h1.drew.trans (b2.mono h1.size)⟩
set_option maxHeartbeats 400000 in
theorem rtext2_no (c r : Int) (w : World) (hr : rightB c r = false) :
    Calls Tryd.prog 33 #[.agg #[.int .i64 c, .int .i64 r]] w fun e w' => e = .returned (.string ⟨(placeText c r).toArray⟩) ∧ Below w.heap.size w w' := by
  have HR := Lib.hid (rright_any c r)
  have e1 := Lib.hid (show placeText c r = [] from if_neg (by rw [hr]; decide))
  rw [hr] at HR
  clear hr
  go_enter Tryd.func33, Tryd.ntmps33
  go_wp2_with fail
  refine (HR.out _).mono ?_; rintro e w1 ⟨rfl, b1⟩
  have h1 : Below w.heap.size w w1 := ((Below.refl _ _).alloc (Nat.le_refl _) _).trans (b1.mono (by simp))
  go_wp2_with fail
  go_ret
  exact ⟨ret_str (by rw [e1.out]), h1⟩
theorem rtext2_any (c r : Int) (w : World) :
    Calls Tryd.prog 33 #[.agg #[.int .i64 c, .int .i64 r]] w fun e w' => e = .returned (.string ⟨(placeText c r).toArray⟩) ∧ Below w.heap.size w w' := by
  cases hr : rightB c r with
  | true => exact rtext2_yes c r w hr
  | false => exact rtext2_no c r w hr
end Go.Proofs.YtjfmmnebhmlkeaaDoor
