/- Package value's Text and Parse, where the listed variables hold what they are laid with. -/
import Derived.Test.YtpnmefkbfonhpaaDoorUaF
import Derived.Test.YtpnmefkbfonhpaaDoorVaE
import Derived.Test.YtpnmefkbfonhpaaDoorNumT
namespace Go.Proofs.YtpnmefkbfonhpaaDoor
open Go.RowKit

theorem gFlt : Tryd.prog.globalNamed "gridiron/value.faults" = some 0 := by kernel_rfl
/-- What value and strconv read of the listed variables. -/
structure EnvV (w : World) : Prop where
  env : Env w
  flt : w.var? Tryd.prog "gridiron/value.faults" = some #[.string ⟨#[]⟩, .string ⟨#[35, 79, 86, 69, 82]⟩, .string ⟨#[35, 68, 73, 86]⟩, .string ⟨#[35, 82, 69, 70]⟩, .string ⟨#[35, 67, 89, 67, 76, 69]⟩]
theorem EnvV.below {w w' : World} (h : EnvV w) (hb : Below w.heap.size w w') : EnvV w' :=
  ⟨h.env.below hb, var?_below hb gFlt (var_lt (r := [.string ⟨#[35, 79, 86, 69, 82]⟩, .string ⟨#[35, 68, 73, 86]⟩, .string ⟨#[35, 82, 69, 70]⟩, .string ⟨#[35, 67, 89, 67, 76, 69]⟩]) gFlt h.flt) h.flt⟩
theorem EnvV.cell {w : World} (h : EnvV w) (i : Nat) (h1 : 1 ≤ i) (h4 : i ≤ 4) : w.cell? ⟨0, i, none⟩ = some (.string ⟨(vText 0 (i : Int)).toArray⟩) := by
  have hc := World.var?_cell gFlt h.flt i
  have : i = 1 ∨ i = 2 ∨ i = 3 ∨ i = 4 := by omega
  rcases this with rfl | rfl | rfl | rfl <;> exact hc

set_option maxHeartbeats 1000000 in
theorem utext_any (n f : Int) (hn : B64 n) (w : World) (hE : EnvV w) :
    Calls Tryd.prog 13 #[.agg #[.int .i64 n, .int .i64 f]] w fun e w' => e = .returned (.string ⟨(vText n f).toArray⟩) ∧ Below w.heap.size w w' := by
  have HR := Lib.hid (uright_any n f)
  have HE := Lib.hid hE
  clear hE
  cases hr : vRight n f with
  | false =>
    have e1 := Lib.hid (show vText n f = [] from if_neg (by rw [hr]; decide))
    rw [hr] at HR
    clear hr hn
    go_enter Tryd.func13, Tryd.ntmps13
    go_wp2_with fail
    refine (HR.out _).mono ?_; rintro e w1 ⟨rfl, b1⟩
    have h1 : Below w.heap.size w w1 := ((Below.refl _ _).alloc (Nat.le_refl _) _).trans (b1.mono (by simp))
    go_wp2_with fail
    go_ret
    exact ⟨ret_str (by rw [e1.out]), h1⟩
  | true =>
    have hq : f = 0 ∨ 1 ≤ f ∧ f ≤ 4 ∧ n = 0 := of_decide_eq_true hr
    rw [hr] at HR
    by_cases h0 : f = 0
    · subst h0
      have e1 := Lib.hid (show vText n 0 = Lib.itoa n from if_pos hr)
      have H := Lib.hid (text_any n hn)
      clear hq hr hn
      go_enter Tryd.func13, Tryd.ntmps13
      go_wp2_with fail
      refine (HR.out _).mono ?_; rintro e w1 ⟨rfl, b1⟩
      have k0 := keep_fresh b1 0 (v := .int .i64 n) rfl
      have k1 := keep_fresh b1 1 (v := .int .i64 0) rfl
      have h1 : Below w.heap.size w w1 := ((Below.refl _ _).alloc (Nat.le_refl _) _).trans (b1.mono (by simp))
      have HE1 := Lib.hid (HE.out.below h1)
      clear b1
      go_wp2_with fail
      refine (H.out _ HE1.out.env).mono ?_; rintro e w2 ⟨rfl, b2⟩
      go_wp2_with fail
      go_ret
      exact ⟨ret_str (by rw [e1.out]), h1.trans (b2.mono h1.size)⟩
    · have hn0 : n = 0 := by omega
      have hq2 : ∃ i : Nat, 1 ≤ i ∧ i ≤ 4 ∧ f = (i : Int) := ⟨f.toNat, by omega, by omega, by omega⟩
      subst hn0
      obtain ⟨i, hi1, hi4, rfl⟩ := hq2
      have hj : i = 1 ∨ i = 2 ∨ i = 3 ∨ i = 4 := by omega
      clear hq hr hn h0
      rcases hj with rfl | rfl | rfl | rfl
      all_goals
        go_enter Tryd.func13, Tryd.ntmps13
        go_wp2_with fail
        refine (HR.out _).mono ?_; rintro e w1 ⟨rfl, b1⟩
        have k1 := keep_cell b1 (p := ⟨w.heap.size, 1, none⟩) (by simp [go_sem]; rfl)
        have h1 : Below w.heap.size w w1 := ((Below.refl _ _).alloc (Nat.le_refl _) _).trans (b1.mono (by simp))
        have c := (HE.out.below h1).cell _ hi1 hi4
        have z := Lib.lt_of_cell c
        clear b1
        go_wp2_with fail
        go_ret
        exact ⟨rfl, h1⟩

set_option maxHeartbeats 1000000 in
theorem uparse_any (s : ByteArray) (hs : s.size ≤ 300) (w : World) (hE : EnvV w) :
    Calls Tryd.prog 7 #[.string s] w fun e w' => e = .returned (.tuple #[.agg #[.int .i64 (vpN s.data.toList), .int .i64 (vpF s.data.toList)], .bool (vpB s.data.toList)]) ∧ Below w.heap.size w w' := by
  have HR := Lib.hid (parse_any s (by omega))
  have HE := Lib.hid hE
  clear hE
  go_enter Tryd.func7, Tryd.ntmps7
  go_wp2_with fail
  go_loopw [4] (fun v wr => ∃ i : Nat, 1 ≤ i ∧ i ≤ 5 ∧ v = .int .i64 i ∧ Hid (∀ j : Nat, 1 ≤ j → j < i → vText 0 (j : Int) ≠ s.data.toList) ∧ wr = w.alloc (.cells #[.int .i64 0, .int .i64 0] 24)) (fun v _ => leftV v)
  case atStart => exact ⟨1, by omega, by omega, rfl, Lib.hid fun j h1 h2 => by omega, rfl⟩
  case round =>
    obtain ⟨i, hi0, hi1, rfl, HU, rfl⟩ := hrel
    have b0 : Below w.heap.size w (w.alloc (.cells #[.int .i64 0, .int .i64 0] 24)) := (Below.refl _ _).alloc (Nat.le_refl _) _
    have HE1 := Lib.hid (HE.out.below b0)
    by_cases hlt : i ≤ 4
    · have c : w.cell? ⟨0, i, none⟩ = some (.string ⟨(vText 0 (i : Int)).toArray⟩) := HE.out.cell i hi0 hlt
      have z := Lib.lt_of_cell c
      by_cases he : vText 0 (i : Int) = s.data.toList
      · have hF := vpF_yes hi0 hlt he
        have e1 := Lib.hid (show vpN s.data.toList = 0 from if_neg (by rw [hF]; omega))
        have e3 := Lib.hid (show vpB s.data.toList = true from if_neg (by rw [hF]; omega))
        have e2 := Lib.hid hF
        have ht : (s.toList == vText 0 (i : Int)) = true := by rw [ByteArray.toList_eq]; simpa using he.symm
        clear he hF
        go_wp2_with fail
        exact bodyPost_ret (v := .tuple #[.agg #[.int .i64 0, .int .i64 i], .bool true]) (by simp [results, Tryd.results7, go_sem]) rfl
          ⟨by rw [e1.out, e2.out, e3.out], by first | exact b0 | exact (b0.setCell (by simp) _).setCell (by simp) _ | exact (Below.refl _ _).alloc (Nat.le_refl _) _⟩
      · have ht : (s.toList == vText 0 (i : Int)) = false := by rw [ByteArray.toList_eq]; simpa using fun h => he h.symm
        have HU' : Hid (∀ j : Nat, 1 ≤ j → j < i + 1 → vText 0 (j : Int) ≠ s.data.toList) := Lib.hid fun j h1 h2 => by
          by_cases e : j = i
          · subst e; exact he
          · exact HU.out j h1 (by omega)
        clear he
        go_wp2_with fail
        go_roundw
        case rel => exact ⟨i + 1, by omega, by omega, by go_num, HU', by first | rfl | trivial⟩
        case measure => simp [leftV, intOf]; omega
    · have hF := vpF_no fun j h1 h2 => HU.out j h1 (by omega)
      have e1 := Lib.hid (show vpN s.data.toList = pV s.data.toList from if_pos hF)
      have e3 := Lib.hid (show vpB s.data.toList = pB s.data.toList from if_pos hF)
      have e2 := Lib.hid hF
      clear hF
      go_wp2_with fail
      refine (HR.out _ HE1.out.env).mono ?_; rintro e w1 ⟨rfl, b1⟩
      have k0 := keep_fresh b1 0 (v := .int .i64 0) rfl
      have k1 := keep_fresh b1 1 (v := .int .i64 0) rfl
      have f0 := fresh_frozen b1 0
      have f1 := fresh_frozen b1 1
      have h1 := b0.trans (b1.mono b0.size)
      clear b1
      go_wp2_with fail
      exact bodyPost_ret (v := .tuple #[.agg #[.int .i64 (pV s.data.toList), .int .i64 0], .bool (pB s.data.toList)]) (by simp [results, Tryd.results7, go_sem, k0, k1]) rfl
        ⟨by rw [e1.out, e2.out, e3.out], (h1.setCell (by simp) _).setCell (by simp) _⟩
end Go.Proofs.YtpnmefkbfonhpaaDoor
