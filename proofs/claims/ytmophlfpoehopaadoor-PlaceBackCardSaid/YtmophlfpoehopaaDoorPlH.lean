/- place's own Text. -/
import Derived.Test.YtmophlfpoehopaaDoorEnvI
import Derived.Test.YtmophlfpoehopaaDoorPlA
import Derived.Laws.Runes
import Derived.Laws.Concat
import Derived.Deep.RegionHeld3
namespace Go.Proofs.YtmophlfpoehopaaDoor
open Go.RowKit

theorem encode_letters : ∀ k : Fin 16, (Utf8.encode (65 + (k.val : Int))).data.toList = [UInt8.ofNat (65 + k.val)] := by decide +kernel
theorem encode_letter (c : Int) (c0 : 0 ≤ c) (c1 : c ≤ 15) : Utf8.encode (65 + c) = ⟨#[letter c]⟩ := by
  have e := encode_letters ⟨c.toNat, by omega⟩
  have e1 : ((c.toNat : Nat) : Int) = c := by omega
  simp only [e1] at e
  have e4 : ∀ (a : ByteArray) (x : UInt8), a.data.toList = [x] → a = ⟨#[x]⟩ := fun a x hx => by
    obtain ⟨d⟩ := a
    congr
    exact Array.toList_inj.1 hx
  exact e4 _ _ e

set_option maxHeartbeats 1000000 in
theorem ptext_yes (c r : Int) (w : World) (hr : rightB c r = true) (hE : EnvI w) :
    Calls Tryd.prog 13 #[.agg #[.int .i64 c, .int .i64 r]] w fun e w' => e = .returned (.string ⟨(placeText c r).toArray⟩) ∧ Below w.heap.size w w' := by
  have HR := Lib.hid (pright_any c r)
  obtain ⟨c0, c1, r0, r1⟩ := (rightB_iff c r).1 hr
  rw [hr] at HR
  have e1 := Lib.hid (show placeText c r = letter c :: Lib.itoa (r + 1) from if_pos hr)
  clear hr
  have HEN := Lib.hid (encode_letter c c0 c1)
  have HT := Lib.hid (itoa_any (r + 1) (by unfold B64; omega))
  have hlen := itoa_len (r + 1) (by unfold B64; omega)
  have HE := Lib.hid hE
  clear hE
  obtain ⟨D, hD⟩ : ∃ D, D = Lib.itoa (r + 1) := ⟨_, rfl⟩
  rw [← hD] at HT hlen e1
  clear hD
  have hcat : ∀ w, (Op.stringOp .add ⟨#[letter c]⟩ ⟨D.toArray⟩).run Tryd.prog w = .ok (.string ⟨(letter c :: D).toArray⟩) w := fun w => run_string_add_lists w [letter c] D (by simp) (by omega)
  have hw1 : IntKind.i64.wrap (65 + c) = 65 + c := IntWalk.i64_in _ (by omega)
  have hw2 : IntKind.i64.wrap (r + 1) = r + 1 := IntWalk.i64_in _ (by omega)
  have hw3 : IntKind.i32.wrap (65 + c) = 65 + c := by simp only [IntKind.wrap_i32]; omega
  go_enter Tryd.func13, Tryd.ntmps13
  go_wp2_with fail
  refine (HR.out _).mono ?_; rintro e w1 ⟨rfl, b1⟩
  have k0 := keep_fresh b1 0 (v := .int .i64 c) rfl
  have k1 := keep_fresh b1 1 (v := .int .i64 r) rfl
  have h1 : Below w.heap.size w w1 := ((Below.refl _ _).alloc (Nat.le_refl _) _).trans (b1.mono (by simp))
  have HE1 := Lib.hid (HE.out.below h1)
  have HE2 : Hid (EnvI w1.drew) := Lib.hid ⟨HE1.out.tab⟩
  have hen := HEN.out
  go_wp2_with fail
  go_region_held3 (fun w' => w'.cell? ⟨w.heap.size, 0, none⟩ = some (.int .i64 c) ∧ w'.cell? ⟨w.heap.size, 1, none⟩ = some (.int .i64 r))
    (first | (simp only [World.cell?_drew]; with_reducible exact ⟨k0, k1⟩) | with_reducible exact ⟨m0, m1⟩ | fail)
    (first
    | (go_at_call 34; refine (HT.out _ HE2.out).mono ?_; rintro e w2 ⟨rfl, b2⟩
       have B2 : Below w1.heap.size w1 w2 := (Below.refl _ w1).drew.trans b2
       have m0 := keep_cell B2 k0
       have m1 := keep_cell B2 k1))
  all_goals
    go_wp2
    go_ret
    exact ⟨ret_str (by rw [e1.out]), h1.trans (B2.mono h1.size)⟩

set_option maxHeartbeats 400000 in
theorem ptext_no (c r : Int) (w : World) (hr : rightB c r = false) :
    Calls Tryd.prog 13 #[.agg #[.int .i64 c, .int .i64 r]] w fun e w' => e = .returned (.string ⟨(placeText c r).toArray⟩) ∧ Below w.heap.size w w' := by
  have HR := Lib.hid (pright_any c r)
  have e1 := Lib.hid (show placeText c r = [] from if_neg (by rw [hr]; decide))
  rw [hr] at HR
  clear hr
  go_enter Tryd.func13, Tryd.ntmps13
  go_wp2_with fail
  refine (HR.out _).mono ?_; rintro e w1 ⟨rfl, b1⟩
  have h1 : Below w.heap.size w w1 := ((Below.refl _ _).alloc (Nat.le_refl _) _).trans (b1.mono (by simp))
  go_wp2_with fail
  go_ret
  exact ⟨ret_str (by rw [e1.out]), h1⟩
theorem ptext_any (c r : Int) (w : World) (hE : EnvI w) :
    Calls Tryd.prog 13 #[.agg #[.int .i64 c, .int .i64 r]] w fun e w' => e = .returned (.string ⟨(placeText c r).toArray⟩) ∧ Below w.heap.size w w' := by
  cases hr : rightB c r with
  | true => exact ptext_yes c r w hr hE
  | false => exact ptext_no c r w hr
end Go.Proofs.YtmophlfpoehopaaDoor
