/- Texts joined: LsE, LxT, LsF. -/
import Derived.Test.YtahdlijkohmdfaaGreatDoorMp24
import Derived.Test.YtahdlijkohmdfaaGreatDoorMp05
import Derived.Test.YtahdlijkohmdfaaGreatDoorMp23
set_option linter.all false
set_option linter.unusedVariables false
set_option linter.unusedSimpArgs false
namespace Go.Proofs.YtahdlijkohmdfaaGreatDoor
open Go.RowKit

set_option maxHeartbeats 2000000 in
set_option maxRecDepth 10000 in
theorem utok_ref (s : ByteArray) (_hs : s.size ≤ 281474976710656) (h0 : 0 < s.size) (hf : isFig (s[0]'h0) = false) (hl : isLet (s[0]'h0) = false) (hr : subL s.data.toList 0 4 = [35, 82, 69, 70]) (w : World) :
    Calls Tryz.prog 30 #[.string s] w fun e w' => e = .returned (oneV (oneT s.data.toList 0)) ∧ Below w.heap.size w w' := by
  have hw : IntKind.i32.wrap ((s[0]'h0).toNat : Int) = ((s[0]'h0).toNat : Int) := by have := (s[0]'h0).toNat_lt; simp only [IntKind.wrap_i32]; omega
  have g0 := byte_getD s 0 h0
  have F1 := ufigure_low (s[0]'h0)
  have F2 := uletter_low (s[0]'h0)
  rw [hf] at F1
  rw [hl] at F2
  have H1 := Lib.hid F1
  have H3 := Lib.hid F2
  have P := uprefix_any s ⟨#[35, 82, 69, 70]⟩
  have pr := pre_ref s.data.toList
  have hf2 : isFig (s.data.toList.getD 0 0) = false := by rw [g0]; exact hf
  have hl2 : isLet (s.data.toList.getD 0 0) = false := by rw [g0]; exact hl
  rw [decide_eq_true hr] at pr
  have P1 : ∀ w, Calls Tryz.prog 59 #[.string s, .string ⟨#[35, 82, 69, 70]⟩] w fun e w' => e = .returned (.bool true) ∧ w = w' := fun w => by have := P w; rwa [show List.isPrefixOf (⟨#[35, 82, 69, 70]⟩ : ByteArray).data.toList s.data.toList = true from pr] at this
  have HP := Lib.hid P1
  have HO := Lib.hid (show oneV (oneT s.data.toList 0) = .tuple #[.agg #[.int .i64 3, .int .i64 0, .int .i64 0, .int .i64 0, .string ⟨#[]⟩, .int .i64 0], .int .i64 4] from by rw [uone_ref hf2 hl2 hr]; rfl)
  clear P P1 pr F1 F2 hf hl hf2 hl2 hr g0
  go_enter Tryz.func30, Tryz.ntmps30
  go_wp2_with fail
  refine (H1.out _).mono ?_; rintro e v1 ⟨rfl, rfl⟩
  go_wp2_with fail
  refine (H3.out _).mono ?_; rintro e v2 ⟨rfl, rfl⟩
  go_wp2_with fail
  refine (HP.out _).mono ?_; rintro e v3 ⟨rfl, rfl⟩
  go_wp2_with fail
  exact bodyPost_ret (v := .tuple #[.agg #[.int .i64 3, .int .i64 0, .int .i64 0, .int .i64 0, .string ⟨#[]⟩, .int .i64 0], .int .i64 4]) (by simp [results, Tryz.results30, go_sem]) rfl ⟨by rw [HO.out], by
    repeat' (first | (with_reducible exact Below.refl _ _) | (with_reducible refine Below.alloc ?_ ?_ _) | (with_reducible refine Below.setCell ?_ ?_ _))
    all_goals (simp; done)⟩
set_option maxHeartbeats 2000000 in
set_option maxRecDepth 10000 in
theorem utok_lg (s : ByteArray) (_hs : s.size ≤ 281474976710656) (h0 : 0 < s.size) (hf : isFig (s[0]'h0) = false) (hl : isLet (s[0]'h0) = false) (hr : ¬ subL s.data.toList 0 4 = [35, 82, 69, 70]) (hc : s[0]'h0 = 60) (hd : s.data.toList.getD 1 0 = 62) (w : World) :
    Calls Tryz.prog 30 #[.string s] w fun e w' => e = .returned (oneV (oneT s.data.toList 0)) ∧ Below w.heap.size w w' := by
  have hw : IntKind.i32.wrap ((s[0]'h0).toNat : Int) = ((s[0]'h0).toNat : Int) := by have := (s[0]'h0).toNat_lt; simp only [IntKind.wrap_i32]; omega
  have g0 := byte_getD s 0 h0
  have F1 := ufigure_low (s[0]'h0)
  have F2 := uletter_low (s[0]'h0)
  rw [hf] at F1
  rw [hl] at F2
  have H1 := Lib.hid F1
  have H3 := Lib.hid F2
  have P := uprefix_any s ⟨#[35, 82, 69, 70]⟩
  have pr := pre_ref s.data.toList
  have hf2 : isFig (s.data.toList.getD 0 0) = false := by rw [g0]; exact hf
  have hl2 : isLet (s.data.toList.getD 0 0) = false := by rw [g0]; exact hl
  rw [decide_eq_false hr] at pr
  have P1 : ∀ w, Calls Tryz.prog 59 #[.string s, .string ⟨#[35, 82, 69, 70]⟩] w fun e w' => e = .returned (.bool false) ∧ w = w' := fun w => by have := P w; rwa [show List.isPrefixOf (⟨#[35, 82, 69, 70]⟩ : ByteArray).data.toList s.data.toList = false from pr] at this
  have HP := Lib.hid P1
  have eM := uone_mark hf2 hl2 hr
  clear P P1 pr F1 F2 hf hl hf2 hl2 hr
  have c0 : s.data.toList.getD 0 0 = 60 := by rw [g0]; exact hc
  have h2 := size_two s (k := 62) (by decide) hd
  have t60 : (((s[0]'h0).toNat : Int) == 60) = true := by rw [hc]; rfl
  have Q1 : ∀ w, Calls Tryz.prog 59 #[.string s, .string ⟨#[60, 62]⟩] w fun e w' => e = .returned (.bool true) ∧ w = w' := fun w => by have := uprefix_any s ⟨#[60, 62]⟩ w; rwa [show List.isPrefixOf (⟨#[60, 62]⟩ : ByteArray).data.toList s.data.toList = true from (pre_lt s.data.toList c0 (by rw [len_of]; exact h0)).trans (decide_eq_true hd)] at this
  have Q2 : ∀ w, Calls Tryz.prog 59 #[.string (s.extract 1 s.size), .string ⟨#[61]⟩] w fun e w' => e = .returned (.bool false) ∧ w = w' := fun w => by have := uprefix_any (s.extract 1 s.size) ⟨#[61]⟩ w; rwa [show List.isPrefixOf (⟨#[61]⟩ : ByteArray).data.toList (s.extract 1 s.size).data.toList = false from (pre_eq s h0).trans (decide_eq_false (by rw [hd]; decide))] at this
  have HL := Lib.hid Q1
  have HQ := Lib.hid Q2
  have hm : markN s.data.toList 0 = 2 := by unfold markN markC; rw [c0]; rw [hd]; simp
  have HO := Lib.hid (show oneV (oneT s.data.toList 0) = .tuple #[.agg #[.int .i64 5, .int .i64 0, .int .i64 0, .int .i64 0, .string (s.extract 0 2), .int .i64 0], .int .i64 2] from by rw [eM, if_neg (by rw [hm]; decide), hm, extract_string s 0 2]; rfl)
  clear eM hm c0 g0 Q1 Q2 hc hd
  go_enter Tryz.func30, Tryz.ntmps30
  go_wp2_with fail
  refine (H1.out _).mono ?_; rintro e v1 ⟨rfl, rfl⟩
  go_wp2_with fail
  refine (H3.out _).mono ?_; rintro e v2 ⟨rfl, rfl⟩
  go_wp2_with fail
  refine (HP.out _).mono ?_; rintro e v3 ⟨rfl, rfl⟩
  go_wp2_with fail
  refine (HL.out _).mono ?_; rintro e v4 ⟨rfl, rfl⟩
  go_wp2_with fail
  refine (HQ.out _).mono ?_; rintro e v5 ⟨rfl, rfl⟩
  go_wp2_with fail
  exact bodyPost_ret (v := .tuple #[.agg #[.int .i64 5, .int .i64 0, .int .i64 0, .int .i64 0, .string (s.extract 0 2), .int .i64 0], .int .i64 2]) (by simp [results, Tryz.results30, go_sem]) rfl ⟨by rw [HO.out], by
    repeat' (first | (with_reducible exact Below.refl _ _) | (with_reducible refine Below.alloc ?_ ?_ _) | (with_reducible refine Below.setCell ?_ ?_ _))
    all_goals (simp; done)⟩
set_option maxHeartbeats 2000000 in
set_option maxRecDepth 10000 in
theorem utok_le (s : ByteArray) (_hs : s.size ≤ 281474976710656) (h0 : 0 < s.size) (hf : isFig (s[0]'h0) = false) (hl : isLet (s[0]'h0) = false) (hr : ¬ subL s.data.toList 0 4 = [35, 82, 69, 70]) (hc : s[0]'h0 = 60) (hd : s.data.toList.getD 1 0 = 61) (w : World) :
    Calls Tryz.prog 30 #[.string s] w fun e w' => e = .returned (oneV (oneT s.data.toList 0)) ∧ Below w.heap.size w w' := by
  have hw : IntKind.i32.wrap ((s[0]'h0).toNat : Int) = ((s[0]'h0).toNat : Int) := by have := (s[0]'h0).toNat_lt; simp only [IntKind.wrap_i32]; omega
  have g0 := byte_getD s 0 h0
  have F1 := ufigure_low (s[0]'h0)
  have F2 := uletter_low (s[0]'h0)
  rw [hf] at F1
  rw [hl] at F2
  have H1 := Lib.hid F1
  have H3 := Lib.hid F2
  have P := uprefix_any s ⟨#[35, 82, 69, 70]⟩
  have pr := pre_ref s.data.toList
  have hf2 : isFig (s.data.toList.getD 0 0) = false := by rw [g0]; exact hf
  have hl2 : isLet (s.data.toList.getD 0 0) = false := by rw [g0]; exact hl
  rw [decide_eq_false hr] at pr
  have P1 : ∀ w, Calls Tryz.prog 59 #[.string s, .string ⟨#[35, 82, 69, 70]⟩] w fun e w' => e = .returned (.bool false) ∧ w = w' := fun w => by have := P w; rwa [show List.isPrefixOf (⟨#[35, 82, 69, 70]⟩ : ByteArray).data.toList s.data.toList = false from pr] at this
  have HP := Lib.hid P1
  have eM := uone_mark hf2 hl2 hr
  clear P P1 pr F1 F2 hf hl hf2 hl2 hr
  have c0 : s.data.toList.getD 0 0 = 60 := by rw [g0]; exact hc
  have h2 := size_two s (k := 61) (by decide) hd
  have t60 : (((s[0]'h0).toNat : Int) == 60) = true := by rw [hc]; rfl
  have Q1 : ∀ w, Calls Tryz.prog 59 #[.string s, .string ⟨#[60, 62]⟩] w fun e w' => e = .returned (.bool false) ∧ w = w' := fun w => by have := uprefix_any s ⟨#[60, 62]⟩ w; rwa [show List.isPrefixOf (⟨#[60, 62]⟩ : ByteArray).data.toList s.data.toList = false from (pre_lt s.data.toList c0 (by rw [len_of]; exact h0)).trans (decide_eq_false (by rw [hd]; decide))] at this
  have Q2 : ∀ w, Calls Tryz.prog 59 #[.string (s.extract 1 s.size), .string ⟨#[61]⟩] w fun e w' => e = .returned (.bool true) ∧ w = w' := fun w => by have := uprefix_any (s.extract 1 s.size) ⟨#[61]⟩ w; rwa [show List.isPrefixOf (⟨#[61]⟩ : ByteArray).data.toList (s.extract 1 s.size).data.toList = true from (pre_eq s h0).trans (decide_eq_true hd)] at this
  have HL := Lib.hid Q1
  have HQ := Lib.hid Q2
  have hm : markN s.data.toList 0 = 2 := by unfold markN markC; rw [c0]; rw [hd]; simp
  have HO := Lib.hid (show oneV (oneT s.data.toList 0) = .tuple #[.agg #[.int .i64 5, .int .i64 0, .int .i64 0, .int .i64 0, .string (s.extract 0 2), .int .i64 0], .int .i64 2] from by rw [eM, if_neg (by rw [hm]; decide), hm, extract_string s 0 2]; rfl)
  clear eM hm c0 g0 Q1 Q2 hc hd
  go_enter Tryz.func30, Tryz.ntmps30
  go_wp2_with fail
  refine (H1.out _).mono ?_; rintro e v1 ⟨rfl, rfl⟩
  go_wp2_with fail
  refine (H3.out _).mono ?_; rintro e v2 ⟨rfl, rfl⟩
  go_wp2_with fail
  refine (HP.out _).mono ?_; rintro e v3 ⟨rfl, rfl⟩
  go_wp2_with fail
  refine (HL.out _).mono ?_; rintro e v4 ⟨rfl, rfl⟩
  go_wp2_with fail
  refine (HQ.out _).mono ?_; rintro e v5 ⟨rfl, rfl⟩
  go_wp2_with fail
  exact bodyPost_ret (v := .tuple #[.agg #[.int .i64 5, .int .i64 0, .int .i64 0, .int .i64 0, .string (s.extract 0 2), .int .i64 0], .int .i64 2]) (by simp [results, Tryz.results30, go_sem]) rfl ⟨by rw [HO.out], by
    repeat' (first | (with_reducible exact Below.refl _ _) | (with_reducible refine Below.alloc ?_ ?_ _) | (with_reducible refine Below.setCell ?_ ?_ _))
    all_goals (simp; done)⟩
set_option maxHeartbeats 2000000 in
set_option maxRecDepth 10000 in
theorem utok_l (s : ByteArray) (_hs : s.size ≤ 281474976710656) (h0 : 0 < s.size) (hf : isFig (s[0]'h0) = false) (hl : isLet (s[0]'h0) = false) (hr : ¬ subL s.data.toList 0 4 = [35, 82, 69, 70]) (hc : s[0]'h0 = 60) (hd : s.data.toList.getD 1 0 ≠ 61) (he : s.data.toList.getD 1 0 ≠ 62) (w : World) :
    Calls Tryz.prog 30 #[.string s] w fun e w' => e = .returned (oneV (oneT s.data.toList 0)) ∧ Below w.heap.size w w' := by
  have hw : IntKind.i32.wrap ((s[0]'h0).toNat : Int) = ((s[0]'h0).toNat : Int) := by have := (s[0]'h0).toNat_lt; simp only [IntKind.wrap_i32]; omega
  have g0 := byte_getD s 0 h0
  have F1 := ufigure_low (s[0]'h0)
  have F2 := uletter_low (s[0]'h0)
  rw [hf] at F1
  rw [hl] at F2
  have H1 := Lib.hid F1
  have H3 := Lib.hid F2
  have P := uprefix_any s ⟨#[35, 82, 69, 70]⟩
  have pr := pre_ref s.data.toList
  have hf2 : isFig (s.data.toList.getD 0 0) = false := by rw [g0]; exact hf
  have hl2 : isLet (s.data.toList.getD 0 0) = false := by rw [g0]; exact hl
  rw [decide_eq_false hr] at pr
  have P1 : ∀ w, Calls Tryz.prog 59 #[.string s, .string ⟨#[35, 82, 69, 70]⟩] w fun e w' => e = .returned (.bool false) ∧ w = w' := fun w => by have := P w; rwa [show List.isPrefixOf (⟨#[35, 82, 69, 70]⟩ : ByteArray).data.toList s.data.toList = false from pr] at this
  have HP := Lib.hid P1
  have eM := uone_mark hf2 hl2 hr
  clear P P1 pr F1 F2 hf hl hf2 hl2 hr
  have c0 : s.data.toList.getD 0 0 = 60 := by rw [g0]; exact hc
  have t60 : (((s[0]'h0).toNat : Int) == 60) = true := by rw [hc]; rfl
  have Q1 : ∀ w, Calls Tryz.prog 59 #[.string s, .string ⟨#[60, 62]⟩] w fun e w' => e = .returned (.bool false) ∧ w = w' := fun w => by have := uprefix_any s ⟨#[60, 62]⟩ w; rwa [show List.isPrefixOf (⟨#[60, 62]⟩ : ByteArray).data.toList s.data.toList = false from (pre_lt s.data.toList c0 (by rw [len_of]; exact h0)).trans (decide_eq_false he)] at this
  have Q2 : ∀ w, Calls Tryz.prog 59 #[.string (s.extract 1 s.size), .string ⟨#[61]⟩] w fun e w' => e = .returned (.bool false) ∧ w = w' := fun w => by have := uprefix_any (s.extract 1 s.size) ⟨#[61]⟩ w; rwa [show List.isPrefixOf (⟨#[61]⟩ : ByteArray).data.toList (s.extract 1 s.size).data.toList = false from (pre_eq s h0).trans (decide_eq_false hd)] at this
  have HL := Lib.hid Q1
  have HQ := Lib.hid Q2
  have hm : markN s.data.toList 0 = 1 := by unfold markN markC; rw [c0]; rw [if_neg (by rintro (⟨_, h | h⟩ | ⟨h, _⟩); exact hd h; exact he h; exact absurd h (by decide)), if_pos (by decide)]
  have HO := Lib.hid (show oneV (oneT s.data.toList 0) = .tuple #[.agg #[.int .i64 5, .int .i64 0, .int .i64 0, .int .i64 0, .string (s.extract 0 1), .int .i64 0], .int .i64 1] from by rw [eM, if_neg (by rw [hm]; decide), hm, extract_string s 0 1]; rfl)
  clear eM hm c0 g0 Q1 Q2 hc hd he
  go_enter Tryz.func30, Tryz.ntmps30
  go_wp2_with fail
  refine (H1.out _).mono ?_; rintro e v1 ⟨rfl, rfl⟩
  go_wp2_with fail
  refine (H3.out _).mono ?_; rintro e v2 ⟨rfl, rfl⟩
  go_wp2_with fail
  refine (HP.out _).mono ?_; rintro e v3 ⟨rfl, rfl⟩
  go_wp2_with fail
  refine (HL.out _).mono ?_; rintro e v4 ⟨rfl, rfl⟩
  go_wp2_with fail
  refine (HQ.out _).mono ?_; rintro e v5 ⟨rfl, rfl⟩
  go_wp2_with fail
  exact bodyPost_ret (v := .tuple #[.agg #[.int .i64 5, .int .i64 0, .int .i64 0, .int .i64 0, .string (s.extract 0 1), .int .i64 0], .int .i64 1]) (by simp [results, Tryz.results30, go_sem]) rfl ⟨by rw [HO.out], by
    repeat' (first | (with_reducible exact Below.refl _ _) | (with_reducible refine Below.alloc ?_ ?_ _) | (with_reducible refine Below.setCell ?_ ?_ _))
    all_goals (simp; done)⟩
set_option maxHeartbeats 2000000 in
set_option maxRecDepth 10000 in
theorem utok_ge (s : ByteArray) (_hs : s.size ≤ 281474976710656) (h0 : 0 < s.size) (hf : isFig (s[0]'h0) = false) (hl : isLet (s[0]'h0) = false) (hr : ¬ subL s.data.toList 0 4 = [35, 82, 69, 70]) (hc : s[0]'h0 = 62) (hd : s.data.toList.getD 1 0 = 61) (w : World) :
    Calls Tryz.prog 30 #[.string s] w fun e w' => e = .returned (oneV (oneT s.data.toList 0)) ∧ Below w.heap.size w w' := by
  have hw : IntKind.i32.wrap ((s[0]'h0).toNat : Int) = ((s[0]'h0).toNat : Int) := by have := (s[0]'h0).toNat_lt; simp only [IntKind.wrap_i32]; omega
  have g0 := byte_getD s 0 h0
  have F1 := ufigure_low (s[0]'h0)
  have F2 := uletter_low (s[0]'h0)
  rw [hf] at F1
  rw [hl] at F2
  have H1 := Lib.hid F1
  have H3 := Lib.hid F2
  have P := uprefix_any s ⟨#[35, 82, 69, 70]⟩
  have pr := pre_ref s.data.toList
  have hf2 : isFig (s.data.toList.getD 0 0) = false := by rw [g0]; exact hf
  have hl2 : isLet (s.data.toList.getD 0 0) = false := by rw [g0]; exact hl
  rw [decide_eq_false hr] at pr
  have P1 : ∀ w, Calls Tryz.prog 59 #[.string s, .string ⟨#[35, 82, 69, 70]⟩] w fun e w' => e = .returned (.bool false) ∧ w = w' := fun w => by have := P w; rwa [show List.isPrefixOf (⟨#[35, 82, 69, 70]⟩ : ByteArray).data.toList s.data.toList = false from pr] at this
  have HP := Lib.hid P1
  have eM := uone_mark hf2 hl2 hr
  clear P P1 pr F1 F2 hf hl hf2 hl2 hr
  have c0 : s.data.toList.getD 0 0 = 62 := by rw [g0]; exact hc
  have h2 := size_two s (k := 61) (by decide) hd
  have t60 : (((s[0]'h0).toNat : Int) == 60) = false := by rw [hc]; rfl
  have t62 : (((s[0]'h0).toNat : Int) == 62) = true := by rw [hc]; rfl
  have Q2 : ∀ w, Calls Tryz.prog 59 #[.string (s.extract 1 s.size), .string ⟨#[61]⟩] w fun e w' => e = .returned (.bool true) ∧ w = w' := fun w => by have := uprefix_any (s.extract 1 s.size) ⟨#[61]⟩ w; rwa [show List.isPrefixOf (⟨#[61]⟩ : ByteArray).data.toList (s.extract 1 s.size).data.toList = true from (pre_eq s h0).trans (decide_eq_true hd)] at this
  have HQ := Lib.hid Q2
  have hm : markN s.data.toList 0 = 2 := by unfold markN markC; rw [c0]; rw [hd]; simp
  have HO := Lib.hid (show oneV (oneT s.data.toList 0) = .tuple #[.agg #[.int .i64 5, .int .i64 0, .int .i64 0, .int .i64 0, .string (s.extract 0 2), .int .i64 0], .int .i64 2] from by rw [eM, if_neg (by rw [hm]; decide), hm, extract_string s 0 2]; rfl)
  clear eM hm c0 g0 Q2 hc hd
  go_enter Tryz.func30, Tryz.ntmps30
  go_wp2_with fail
  refine (H1.out _).mono ?_; rintro e v1 ⟨rfl, rfl⟩
  go_wp2_with fail
  refine (H3.out _).mono ?_; rintro e v2 ⟨rfl, rfl⟩
  go_wp2_with fail
  refine (HP.out _).mono ?_; rintro e v3 ⟨rfl, rfl⟩
  go_wp2_with fail
  refine (HQ.out _).mono ?_; rintro e v4 ⟨rfl, rfl⟩
  go_wp2_with fail
  exact bodyPost_ret (v := .tuple #[.agg #[.int .i64 5, .int .i64 0, .int .i64 0, .int .i64 0, .string (s.extract 0 2), .int .i64 0], .int .i64 2]) (by simp [results, Tryz.results30, go_sem]) rfl ⟨by rw [HO.out], by
    repeat' (first | (with_reducible exact Below.refl _ _) | (with_reducible refine Below.alloc ?_ ?_ _) | (with_reducible refine Below.setCell ?_ ?_ _))
    all_goals (simp; done)⟩
set_option maxHeartbeats 2000000 in
set_option maxRecDepth 10000 in
theorem utok_g (s : ByteArray) (_hs : s.size ≤ 281474976710656) (h0 : 0 < s.size) (hf : isFig (s[0]'h0) = false) (hl : isLet (s[0]'h0) = false) (hr : ¬ subL s.data.toList 0 4 = [35, 82, 69, 70]) (hc : s[0]'h0 = 62) (hd : s.data.toList.getD 1 0 ≠ 61) (w : World) :
    Calls Tryz.prog 30 #[.string s] w fun e w' => e = .returned (oneV (oneT s.data.toList 0)) ∧ Below w.heap.size w w' := by
  have hw : IntKind.i32.wrap ((s[0]'h0).toNat : Int) = ((s[0]'h0).toNat : Int) := by have := (s[0]'h0).toNat_lt; simp only [IntKind.wrap_i32]; omega
  have g0 := byte_getD s 0 h0
  have F1 := ufigure_low (s[0]'h0)
  have F2 := uletter_low (s[0]'h0)
  rw [hf] at F1
  rw [hl] at F2
  have H1 := Lib.hid F1
  have H3 := Lib.hid F2
  have P := uprefix_any s ⟨#[35, 82, 69, 70]⟩
  have pr := pre_ref s.data.toList
  have hf2 : isFig (s.data.toList.getD 0 0) = false := by rw [g0]; exact hf
  have hl2 : isLet (s.data.toList.getD 0 0) = false := by rw [g0]; exact hl
  rw [decide_eq_false hr] at pr
  have P1 : ∀ w, Calls Tryz.prog 59 #[.string s, .string ⟨#[35, 82, 69, 70]⟩] w fun e w' => e = .returned (.bool false) ∧ w = w' := fun w => by have := P w; rwa [show List.isPrefixOf (⟨#[35, 82, 69, 70]⟩ : ByteArray).data.toList s.data.toList = false from pr] at this
  have HP := Lib.hid P1
  have eM := uone_mark hf2 hl2 hr
  clear P P1 pr F1 F2 hf hl hf2 hl2 hr
  have c0 : s.data.toList.getD 0 0 = 62 := by rw [g0]; exact hc
  have t60 : (((s[0]'h0).toNat : Int) == 60) = false := by rw [hc]; rfl
  have t62 : (((s[0]'h0).toNat : Int) == 62) = true := by rw [hc]; rfl
  have Q2 : ∀ w, Calls Tryz.prog 59 #[.string (s.extract 1 s.size), .string ⟨#[61]⟩] w fun e w' => e = .returned (.bool false) ∧ w = w' := fun w => by have := uprefix_any (s.extract 1 s.size) ⟨#[61]⟩ w; rwa [show List.isPrefixOf (⟨#[61]⟩ : ByteArray).data.toList (s.extract 1 s.size).data.toList = false from (pre_eq s h0).trans (decide_eq_false hd)] at this
  have HQ := Lib.hid Q2
  have hm : markN s.data.toList 0 = 1 := by unfold markN markC; rw [c0]; rw [if_neg (by rintro (⟨h, _⟩ | ⟨_, h⟩); exact absurd h (by decide); exact hd h), if_pos (by decide)]
  have HO := Lib.hid (show oneV (oneT s.data.toList 0) = .tuple #[.agg #[.int .i64 5, .int .i64 0, .int .i64 0, .int .i64 0, .string (s.extract 0 1), .int .i64 0], .int .i64 1] from by rw [eM, if_neg (by rw [hm]; decide), hm, extract_string s 0 1]; rfl)
  clear eM hm c0 g0 Q2 hc hd
  go_enter Tryz.func30, Tryz.ntmps30
  go_wp2_with fail
  refine (H1.out _).mono ?_; rintro e v1 ⟨rfl, rfl⟩
  go_wp2_with fail
  refine (H3.out _).mono ?_; rintro e v2 ⟨rfl, rfl⟩
  go_wp2_with fail
  refine (HP.out _).mono ?_; rintro e v3 ⟨rfl, rfl⟩
  go_wp2_with fail
  refine (HQ.out _).mono ?_; rintro e v4 ⟨rfl, rfl⟩
  go_wp2_with fail
  exact bodyPost_ret (v := .tuple #[.agg #[.int .i64 5, .int .i64 0, .int .i64 0, .int .i64 0, .string (s.extract 0 1), .int .i64 0], .int .i64 1]) (by simp [results, Tryz.results30, go_sem]) rfl ⟨by rw [HO.out], by
    repeat' (first | (with_reducible exact Below.refl _ _) | (with_reducible refine Below.alloc ?_ ?_ _) | (with_reducible refine Below.setCell ?_ ?_ _))
    all_goals (simp; done)⟩
set_option maxHeartbeats 2000000 in
set_option maxRecDepth 10000 in
theorem utok_m (s : ByteArray) (_hs : s.size ≤ 281474976710656) (h0 : 0 < s.size) (hf : isFig (s[0]'h0) = false) (hl : isLet (s[0]'h0) = false) (hr : ¬ subL s.data.toList 0 4 = [35, 82, 69, 70]) (h60 : s[0]'h0 ≠ 60) (h62 : s[0]'h0 ≠ 62) (w : World) :
    Calls Tryz.prog 30 #[.string s] w fun e w' => e = .returned (oneV (oneT s.data.toList 0)) ∧ Below w.heap.size w w' := by
  have hw : IntKind.i32.wrap ((s[0]'h0).toNat : Int) = ((s[0]'h0).toNat : Int) := by have := (s[0]'h0).toNat_lt; simp only [IntKind.wrap_i32]; omega
  have g0 := byte_getD s 0 h0
  have F1 := ufigure_low (s[0]'h0)
  have F2 := uletter_low (s[0]'h0)
  rw [hf] at F1
  rw [hl] at F2
  have H1 := Lib.hid F1
  have H3 := Lib.hid F2
  have P := uprefix_any s ⟨#[35, 82, 69, 70]⟩
  have pr := pre_ref s.data.toList
  have hf2 : isFig (s.data.toList.getD 0 0) = false := by rw [g0]; exact hf
  have hl2 : isLet (s.data.toList.getD 0 0) = false := by rw [g0]; exact hl
  rw [decide_eq_false hr] at pr
  have P1 : ∀ w, Calls Tryz.prog 59 #[.string s, .string ⟨#[35, 82, 69, 70]⟩] w fun e w' => e = .returned (.bool false) ∧ w = w' := fun w => by have := P w; rwa [show List.isPrefixOf (⟨#[35, 82, 69, 70]⟩ : ByteArray).data.toList s.data.toList = false from pr] at this
  have HP := Lib.hid P1
  have eM := uone_mark hf2 hl2 hr
  clear P P1 pr F1 F2 hf hl hf2 hl2 hr
  have t60 : (((s[0]'h0).toNat : Int) == 60) = false := byte_ne (k := 60) h60
  have t62 : (((s[0]'h0).toNat : Int) == 62) = false := byte_ne (k := 62) h62
  have hm := mrk_mark s.data.toList (by rw [g0]; exact h60) (by rw [g0]; exact h62)
  rw [g0] at hm
  have C := ucontains_any (s[0]'h0)
  clear h60 h62 g0
  cases hk : isMrk (s[0]'h0) with
  | true =>
    rw [hk] at C
    rw [if_pos hk] at hm
    have HC := Lib.hid C
    have HO := Lib.hid (show oneV (oneT s.data.toList 0) = .tuple #[.agg #[.int .i64 5, .int .i64 0, .int .i64 0, .int .i64 0, .string (s.extract 0 1), .int .i64 0], .int .i64 1] from by rw [eM, if_neg (by rw [hm]; decide), hm, extract_string s 0 1]; rfl)
    clear eM hm hk C
    go_enter Tryz.func30, Tryz.ntmps30
    go_wp2_with fail
    refine (H1.out _).mono ?_; rintro e v1 ⟨rfl, rfl⟩
    go_wp2_with fail
    refine (H3.out _).mono ?_; rintro e v2 ⟨rfl, rfl⟩
    go_wp2_with fail
    refine (HP.out _).mono ?_; rintro e v3 ⟨rfl, rfl⟩
    go_wp2_with fail
    refine (HC.out _).mono ?_; rintro e w1 ⟨rfl, b1⟩
    have k10 := keep_fresh b1 0 (v := .int .i64 0) rfl
    have k11 := keep_fresh b1 1 (v := .int .i64 0) rfl
    have k12 := keep_fresh b1 2 (v := .int .i64 0) rfl
    have k13 := keep_fresh b1 3 (v := .int .i64 0) rfl
    have k14 := keep_fresh b1 4 (v := .string ⟨#[]⟩) rfl
    have k15 := keep_fresh b1 5 (v := .int .i64 0) rfl
    have f10 := fresh_frozen b1 0
    have f11 := fresh_frozen b1 1
    have f12 := fresh_frozen b1 2
    have f13 := fresh_frozen b1 3
    have f14 := fresh_frozen b1 4
    have f15 := fresh_frozen b1 5
    have h1 : Below w.heap.size w w1 := ((Below.refl _ _).alloc (Nat.le_refl _) _).trans (b1.mono (by simp))
    have z1 : w.heap.size < w1.heap.size := by have := b1.size; simp at this; omega
    clear b1
    go_wp2_with fail
    exact bodyPost_ret (v := .tuple #[.agg #[.int .i64 5, .int .i64 0, .int .i64 0, .int .i64 0, .string (s.extract 0 1), .int .i64 0], .int .i64 1]) (by simp [results, Tryz.results30, go_sem, k10, k11, k12, k13, k14, k15]) rfl ⟨by rw [HO.out], by
      repeat' (first | (with_reducible exact h1) | (with_reducible refine Below.alloc ?_ ?_ _) | (with_reducible refine Below.setCell ?_ ?_ _))
      all_goals (first | (simp; done) | (simpa using h1.size))⟩
  | false =>
    rw [hk] at C
    rw [if_neg (by rw [hk]; decide)] at hm
    have HC := Lib.hid C
    have HO := Lib.hid (show oneV (oneT s.data.toList 0) = .tuple #[.agg #[.int .i64 0, .int .i64 0, .int .i64 0, .int .i64 0, .string ⟨#[]⟩, .int .i64 0], .int .i64 0] from by rw [eM, if_pos hm]; rfl)
    clear eM hm hk C
    go_enter Tryz.func30, Tryz.ntmps30
    go_wp2_with fail
    refine (H1.out _).mono ?_; rintro e v1 ⟨rfl, rfl⟩
    go_wp2_with fail
    refine (H3.out _).mono ?_; rintro e v2 ⟨rfl, rfl⟩
    go_wp2_with fail
    refine (HP.out _).mono ?_; rintro e v3 ⟨rfl, rfl⟩
    go_wp2_with fail
    refine (HC.out _).mono ?_; rintro e w1 ⟨rfl, b1⟩
    have k10 := keep_fresh b1 0 (v := .int .i64 0) rfl
    have k11 := keep_fresh b1 1 (v := .int .i64 0) rfl
    have k12 := keep_fresh b1 2 (v := .int .i64 0) rfl
    have k13 := keep_fresh b1 3 (v := .int .i64 0) rfl
    have k14 := keep_fresh b1 4 (v := .string ⟨#[]⟩) rfl
    have k15 := keep_fresh b1 5 (v := .int .i64 0) rfl
    have f10 := fresh_frozen b1 0
    have f11 := fresh_frozen b1 1
    have f12 := fresh_frozen b1 2
    have f13 := fresh_frozen b1 3
    have f14 := fresh_frozen b1 4
    have f15 := fresh_frozen b1 5
    have h1 : Below w.heap.size w w1 := ((Below.refl _ _).alloc (Nat.le_refl _) _).trans (b1.mono (by simp))
    have z1 : w.heap.size < w1.heap.size := by have := b1.size; simp at this; omega
    clear b1
    go_wp2_with fail
    exact bodyPost_ret (v := .tuple #[.agg #[.int .i64 0, .int .i64 0, .int .i64 0, .int .i64 0, .string ⟨#[]⟩, .int .i64 0], .int .i64 0]) (by simp [results, Tryz.results30, go_sem, k10, k11, k12, k13, k14, k15]) rfl ⟨by rw [HO.out], by
      repeat' (first | (with_reducible exact h1) | (with_reducible refine Below.alloc ?_ ?_ _) | (with_reducible refine Below.setCell ?_ ?_ _))
      all_goals (first | (simp; done) | (simpa using h1.size))⟩
theorem utok_any (s : ByteArray) (hs : s.size ≤ 281474976710656) (h0 : 0 < s.size) (w : World) (hE : EnvL w) :
    Calls Tryz.prog 30 #[.string s] w fun e w' => e = .returned (oneV (oneT s.data.toList 0)) ∧ Below w.heap.size w w' := by
  cases hf : isFig (s[0]'h0) with
  | true => exact utok_fig s hs h0 hf w hE
  | false =>
    cases hl : isLet (s[0]'h0) with
    | true => exact utok_let s hs h0 hf hl w
    | false =>
      by_cases hr : subL s.data.toList 0 4 = [35, 82, 69, 70]
      · exact utok_ref s hs h0 hf hl hr w
      · by_cases h60 : s[0]'h0 = 60
        · by_cases hd : s.data.toList.getD 1 0 = 61
          · exact utok_le s hs h0 hf hl hr h60 hd w
          · by_cases he : s.data.toList.getD 1 0 = 62
            · exact utok_lg s hs h0 hf hl hr h60 he w
            · exact utok_l s hs h0 hf hl hr h60 hd he w
        · by_cases h62 : s[0]'h0 = 62
          · by_cases hd : s.data.toList.getD 1 0 = 61
            · exact utok_ge s hs h0 hf hl hr h62 hd w
            · exact utok_g s hs h0 hf hl hr h62 hd w
          · exact utok_m s hs h0 hf hl hr h60 h62 w
end Go.Proofs.YtahdlijkohmdfaaGreatDoor
namespace Go.Proofs.YtahdlijkohmdfaaGreatDoor
open Go.RowKit

def ScanC : Prop := ∀ (s : ByteArray), s.size ≤ 300 → ∀ w, EnvL w → Calls Tryz.prog 17 #[.string s] w fun e w' => ∃ v, e = .returned (.tuple #[v, .int .i64 (ansP s.data.toList), .int .i64 (ansE s.data.toList)]) ∧
  w'.ownsRow w.heap.size 61 6 v (ansL s.data.toList).length (toksC (ansL s.data.toList)) ∧ Below w.heap.size w w'
end Go.Proofs.YtahdlijkohmdfaaGreatDoor
namespace Go.Proofs.YtahdlijkohmdfaaGreatDoor
open Go.RowKit

theorem uone_rest (l : List UInt8) (p : Nat) : oneT l p = match oneT (l.drop p) 0 with | some (t, n) => some (⟨t.kind, t.num, t.col, t.row, t.text, p⟩, n) | none => none := by
  have e1 : (l.drop p).getD 0 0 = l.getD p 0 := by simp [List.getD_eq_getElem?_getD]
  have e2 : ∀ f, runLen f (l.drop p) 0 = runLen f l p := fun f => by unfold runLen; simp
  have e3 : ∀ n, subL (l.drop p) 0 n = subL l p n := fun n => by unfold subL; simp
  have e4 : markN (l.drop p) 0 = markN l p := by unfold markN; simp [List.getD_eq_getElem?_getD]
  unfold oneT
  simp only [e1, e2, e3, e4]
  by_cases h1 : isFig (l.getD p 0) = true
  · rw [if_pos h1, if_pos h1]
    cases numV (subL l p (runLen isFig l p)) <;> rfl
  · rw [if_neg h1, if_neg h1]
    by_cases h2 : 65 ≤ (l.getD p 0).toNat ∧ (l.getD p 0).toNat ≤ 90
    · rw [if_pos h2, if_pos h2]
      generalize subL l p (runLen isNam l p) = X
      by_cases h3 : wordB X = true
      · rw [if_pos h3, if_pos h3]
      · rw [if_neg h3, if_neg h3]
        by_cases h4 : prE X = 0
        · rw [if_pos h4, if_pos h4]
        · rw [if_neg h4, if_neg h4]
          by_cases h5 : prE X = 4
          · rw [if_pos h5, if_pos h5]
          · rw [if_neg h5, if_neg h5]
    · rw [if_neg h2, if_neg h2]
      by_cases h3 : subL l p 4 = [35, 82, 69, 70]
      · rw [if_pos h3, if_pos h3]
      · rw [if_neg h3, if_neg h3]
        by_cases h4 : markN l p = 0
        · rw [if_pos h4, if_pos h4]
        · rw [if_neg h4, if_neg h4]
theorem utail_size (s : ByteArray) (p : Nat) : (s.extract p s.size).size = s.size - p := by rw [ByteArray.size_extract]; omega
theorem utail_list (s : ByteArray) (p : Nat) (h : p ≤ s.size) : (s.extract p s.size).data.toList = s.data.toList.drop p := by
  have h2 : s.size = p + (s.size - p) := by omega
  have h3 := extract_sub s p (s.size - p)
  rw [← h2] at h3
  rw [h3]
  unfold subL
  exact List.take_of_length_le (by rw [List.length_drop, len_of]; omega)
theorem utok_info : (Tryz.prog.info? 61).map (fun i => (i.zero, i.size, i.bytes)) = some (some (.agg #[.int .i64 0, .int .i64 0, .int .i64 0, .int .i64 0, .string ⟨#[]⟩, .int .i64 0]), 6, 56) := by kernel_rfl

set_option maxHeartbeats 4000000 in
set_option maxRecDepth 100000 in
theorem uscan_short (s : ByteArray) (hs : s.size ≤ 200) (w : World) (hE : EnvL w) :
    Calls Tryz.prog 17 #[.string s] w fun e w' => ∃ v, e = .returned (.tuple #[v, .int .i64 (ansP s.data.toList), .int .i64 (ansE s.data.toList)]) ∧
      w'.ownsRow w.heap.size 61 6 v (ansL s.data.toList).length (toksC (ansL s.data.toList)) ∧ Below w.heap.size w w' := by
  obtain ⟨i0, hi0, hz0, hz1, hz2⟩ := info_parts utok_info
  have HI := Lib.hid hi0
  have HZ0 := Lib.hid hz0
  have HZ1 := Lib.hid hz1
  have HZ2 := Lib.hid hz2
  have HL := Lib.hid (len_of s)
  have HE := Lib.hid hE
  have HN : Hid (¬ 200 < s.data.toList.length) := Lib.hid (by rw [len_of]; omega)
  have d0 : decide ((200 : Int) < (s.size : Int)) = false := decide_eq_false (by omega)
  clear hi0 hz0 hz1 hz2 hE
  go_enter Tryz.func17, Tryz.ntmps17
  go_wp2_with fail
  go_loopw [5, 6] (fun v a wr => ∃ (p k : Nat) (acc : List Tok), p ≤ s.size ∧ a = .int .i64 p ∧ acc.length ≤ p ∧ Hid (scanT s.data.toList = scanF s.data.toList k p acc ∧ s.size < k + p) ∧ wr.ownsRow w.heap.size 61 6 v acc.length (toksC acc) ∧ Below w.heap.size w wr) (fun _ a _ => s.size - (intOf a).toNat)
  case atStart => exact ⟨0, s.data.toList.length + 1, [], Nat.zero_le _, rfl, Nat.zero_le _, Lib.hid ⟨rfl, by rw [len_of]; omega⟩, World.ownsRow_nil _ _ _ _, Below.refl _ _⟩
  case round =>
    obtain ⟨p, k, acc, hp, rfl, hacc, HS, hown, hb⟩ := hrel
    have HO := Lib.hid hown
    clear hown
    by_cases hlt : p < s.size
    · have hk : ∃ k', k = k' + 1 := by
        cases k with
        | zero => have := HS.out.2; omega
        | succ k' => exact ⟨k', rfl⟩
      obtain ⟨k', rfl⟩ := hk
      have g0 := byte_getD s p hlt
      have hk' : s.size < k' + 1 + p := HS.out.2
      have hS : scanT s.data.toList = (if s[p]'hlt = 32 then scanF s.data.toList k' (p + 1) acc else match oneT s.data.toList p with | none => (none, p) | some (t, n) => scanF s.data.toList k' (p + n) (acc ++ [t])) := by
        rw [HS.out.1, scanF, if_pos (by rw [len_of]; exact hlt), g0]; rfl
      clear HS
      by_cases hc : s[p]'hlt = 32
      · rw [if_pos hc] at hS
        have HS' : Hid (scanT s.data.toList = scanF s.data.toList k' (p + 1) acc ∧ s.size < k' + (p + 1)) := Lib.hid ⟨hS, by omega⟩
        have t32 : (((s[p]'hlt).toNat : Int) == 32) = true := byte_eq (k := 32) hc
        clear hS hc g0 hk'
        go_wp2_with fail
        go_roundw
        case rel => exact ⟨p + 1, k', acc, by omega, by go_num, by omega, HS', HO.out, hb⟩
        case measure => simp [intOf]; omega
      · rw [if_neg hc] at hS
        have t32 : (((s[p]'hlt).toNat : Int) == 32) = false := byte_ne (k := 32) hc
        have hx := utail_list s p (by omega)
        have h1 := fun w => utok_any (s.extract p s.size) (by rw [utail_size]; omega) (by rw [utail_size]; omega) w
        rw [hx] at h1
        rw [uone_rest] at hS
        have hnp : ∀ t n, oneT (s.data.toList.drop p) 0 = some (t, n) → 0 < n ∧ n ≤ s.size - p := fun t n h => by
          have := one_pos (s.extract p s.size) (p := 0) (n := n) (t := t) (by rw [utail_size]; omega) (by rw [hx]; exact h)
          rw [utail_size] at this
          omega
        clear hx
        clear hc g0
        cases ho : oneT (s.data.toList.drop p) 0 with
        | none =>
          clear hnp
          rw [ho] at h1 hS
          have HA := Lib.hid (ans_none HN.out hS)
          have H1 := Lib.hid h1
          unfold oneV at H1
          clear ho h1 hS hk'
          go_wp2_with fail
          refine (H1.out _ (HE.out.below hb)).mono ?_; rintro e w1 ⟨rfl, b1⟩
          go_wp2_with fail
          go_ret3
          exact ⟨.slice none 0 0, by rw [HA.out.2.1, HA.out.2.2]; rfl, by rw [HA.out.1]; exact World.ownsRow_nil _ _ _ _, (hb.trans (b1.mono hb.size)).alloc (Nat.le_trans hb.size b1.size) _⟩
        | some r =>
          obtain ⟨⟨kd, nu, co, ro, te, fr⟩, n⟩ := r
          obtain ⟨hn0, hn1⟩ := hnp _ _ ho
          clear hnp
          rw [ho] at h1 hS
          have HS' : Hid (scanT s.data.toList = scanF s.data.toList k' (p + n) (acc ++ [⟨kd, nu, co, ro, te, p⟩]) ∧ s.size < k' + (p + n)) := Lib.hid ⟨hS, by omega⟩
          have H1 := Lib.hid h1
          unfold oneV tokC at H1
          have tn : ((n : Int) == 0) = false := by rw [beq_eq_false_iff_ne]; omega
          clear ho h1 hS hk'
          go_wp2_with fail
          refine (H1.out _ (HE.out.below hb)).mono ?_; rintro e w1 ⟨rfl, b1⟩
          have HO1 := Lib.hid (own_below' HO.out b1)
          have hb1 := hb.trans (b1.mono hb.size)
          have hz := hb1.size
          clear b1
          go_wp2_with (at_builtin
                       refine wpList_append_own _ rfl _ _ 39 rfl w.heap.size 61 i0 (.agg #[.int .i64 0, .int .i64 0, .int .i64 0, .int .i64 0, .string ⟨#[]⟩, .int .i64 0]) 6 56 Tryz.underlying39 HI.out HZ0.out HZ1.out HZ2.out rfl (by decide) _ _ _ rfl ((HO1.out.alloc _).alloc _)
                         ⟨w1.heap.size + 1, 0, none⟩ 1 1 (tokL ⟨kd, nu, co, ro, te, p⟩) rfl rfl ?c1 ?c2 ?c3 ?c4 ?c5 ?_)
          case c1 =>
            intro j u hj
            match j, hj with
            | 0, hj => simp [tokL] at hj; subst hj; simp [Addr.add, go_sem]
            | 1, hj => simp [tokL] at hj; subst hj; simp [Addr.add, go_sem]
            | 2, hj => simp [tokL] at hj; subst hj; simp [Addr.add, go_sem]
            | 3, hj => simp [tokL] at hj; subst hj; simp [Addr.add, go_sem]
            | 4, hj => simp [tokL] at hj; subst hj; simp [Addr.add, go_sem]
            | 5, hj => simp [tokL] at hj; subst hj; simp [Addr.add, go_sem]
          case c2 => intro u hu; simp [tokL] at hu; rcases hu with rfl | rfl | rfl | rfl | rfl | rfl <;> rfl
          case c3 => unfold maxLen; omega
          case c4 => omega
          case c5 => simp; omega
          intro v' w4 hown4 hg4 _
          rw [← toksC_snoc] at hown4
          have e5 : acc.length + 1 = (acc ++ [(⟨kd, nu, co, ro, te, p⟩ : Tok)]).length := by simp
          rw [e5] at hown4
          have HO4 := Lib.hid hown4
          have hb4 : Below w.heap.size w w4 := ((hb1.alloc hz _).alloc (by simp; omega) _).grown hg4 (by simp; omega) (fun g hgg => (HO1.out.lt g hgg).1)
          clear hg4 hown4
          go_wp2_with fail
          go_roundw
          case rel => exact ⟨p + n, k', acc ++ [⟨kd, nu, co, ro, te, p⟩], by omega, by go_num, by simp; omega, HS', HO4.out, hb4⟩
          case measure => simp [intOf]; omega
    · have hpe : ¬ p < s.data.toList.length := by rw [len_of]; exact hlt
      have hS : scanT s.data.toList = (some acc, 0) := by
        cases k with
        | zero => have := HS.out.2; omega
        | succ k' => rw [HS.out.1, scanF, if_neg hpe]
      have HA := Lib.hid (ans_some HN.out hS)
      clear hS hpe HS
      go_wp2_with fail
      go_ret3
      exact ⟨_, by rw [HA.out.2.1, HA.out.2.2]; rfl, by rw [HA.out.1]; exact HO.out, hb⟩
set_option maxHeartbeats 400000 in
theorem uscan_long (s : ByteArray) (hs : 200 < s.size) (hm : s.size ≤ 9223372036854775807) (w : World) :
    Calls Tryz.prog 17 #[.string s] w fun e w' => e = .returned (.tuple #[.slice none 0 0, .int .i64 0, .int .i64 3]) ∧ w = w' := by
  have d0 : decide ((200 : Int) < (s.size : Int)) = true := decide_eq_true (by omega)
  clear hs
  go_enter Tryz.func17, Tryz.ntmps17
  go_wp2_with fail
  go_ret3
  exact ⟨rfl, rfl⟩
theorem scanC : ScanC := by
  intro s hs w hE
  by_cases h : s.size ≤ 200
  · exact uscan_short s h w hE
  · have hl : 200 < s.data.toList.length := by rw [len_of]; omega
    have e1 : ansL s.data.toList = [] := if_pos hl
    have e2 : ansP s.data.toList = 0 := if_pos hl
    have e3 : ansE s.data.toList = 3 := if_pos hl
    refine (uscan_long s (by omega) (by omega) w).mono fun e w' ⟨he, hw⟩ => ⟨.slice none 0 0, by rw [he, e2, e3], by rw [e1]; exact World.ownsRow_nil _ _ _ _, hw ▸ Below.refl _ _⟩
end Go.Proofs.YtahdlijkohmdfaaGreatDoor
