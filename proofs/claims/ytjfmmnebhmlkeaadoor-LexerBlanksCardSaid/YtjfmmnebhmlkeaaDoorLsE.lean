/- lexer's own token: marks, and what is none. -/
import Derived.Test.YtjfmmnebhmlkeaaDoorLsD
namespace Go.Proofs.YtjfmmnebhmlkeaaDoor
open Go.RowKit

set_option maxHeartbeats 2000000 in
set_option maxRecDepth 10000 in
theorem utok_ref (s : ByteArray) (_hs : s.size ≤ 281474976710656) (h0 : 0 < s.size) (hf : isFig (s[0]'h0) = false) (hl : isLet (s[0]'h0) = false) (hr : subL s.data.toList 0 4 = [35, 82, 69, 70]) (w : World) :
    Calls Tryd.prog 10 #[.string s] w fun e w' => e = .returned (oneV (oneT s.data.toList 0)) ∧ Below w.heap.size w w' := by
  have hw : IntKind.i32.wrap ((s[0]'h0).toNat : Int) = ((s[0]'h0).toNat : Int) := by have := (s[0]'h0).toNat_lt; simp only [IntKind.wrap_i32]; omega
  have g0 := byte_getD s 0 h0
  have F1 := ufigure_low (s[0]'h0)
  have F2 := uletter_low (s[0]'h0)
  rw [hf] at F1
  rw [hl] at F2
  have H1 := Lib.hid F1
  have H3 := Lib.hid F2
  have P := uprefix_any s ⟨#[35, 82, 69, 70]⟩
  have pr := pre_ref s.data.toList
  have hf2 : isFig (s.data.toList.getD 0 0) = false := by rw [g0]; exact hf
  have hl2 : isLet (s.data.toList.getD 0 0) = false := by rw [g0]; exact hl
  rw [decide_eq_true hr] at pr
  have P1 : ∀ w, Calls Tryd.prog 18 #[.string s, .string ⟨#[35, 82, 69, 70]⟩] w fun e w' => e = .returned (.bool true) ∧ w = w' := fun w => by have := P w; rwa [show List.isPrefixOf (⟨#[35, 82, 69, 70]⟩ : ByteArray).data.toList s.data.toList = true from pr] at this
  have HP := Lib.hid P1
  have HO := Lib.hid (show oneV (oneT s.data.toList 0) = .tuple #[.agg #[.int .i64 3, .int .i64 0, .int .i64 0, .int .i64 0, .string ⟨#[]⟩, .int .i64 0], .int .i64 4] from by rw [uone_ref hf2 hl2 hr]; rfl)
  clear P P1 pr F1 F2 hf hl hf2 hl2 hr g0
  go_enter Tryd.func10, Tryd.ntmps10
  go_wp2_with fail
  refine (H1.out _).mono ?_; rintro e v1 ⟨rfl, rfl⟩
  go_wp2_with fail
  refine (H3.out _).mono ?_; rintro e v2 ⟨rfl, rfl⟩
  go_wp2_with fail
  refine (HP.out _).mono ?_; rintro e v3 ⟨rfl, rfl⟩
  go_wp2_with fail
  exact bodyPost_ret (v := .tuple #[.agg #[.int .i64 3, .int .i64 0, .int .i64 0, .int .i64 0, .string ⟨#[]⟩, .int .i64 0], .int .i64 4]) (by simp [results, Tryd.results10, go_sem]) rfl ⟨by rw [HO.out], by
    repeat' (first | (with_reducible exact Below.refl _ _) | (with_reducible refine Below.alloc ?_ ?_ _) | (with_reducible refine Below.setCell ?_ ?_ _))
    all_goals (simp; done)⟩
set_option maxHeartbeats 2000000 in
set_option maxRecDepth 10000 in
theorem utok_lg (s : ByteArray) (_hs : s.size ≤ 281474976710656) (h0 : 0 < s.size) (hf : isFig (s[0]'h0) = false) (hl : isLet (s[0]'h0) = false) (hr : ¬ subL s.data.toList 0 4 = [35, 82, 69, 70]) (hc : s[0]'h0 = 60) (hd : s.data.toList.getD 1 0 = 62) (w : World) :
    Calls Tryd.prog 10 #[.string s] w fun e w' => e = .returned (oneV (oneT s.data.toList 0)) ∧ Below w.heap.size w w' := by
  have hw : IntKind.i32.wrap ((s[0]'h0).toNat : Int) = ((s[0]'h0).toNat : Int) := by have := (s[0]'h0).toNat_lt; simp only [IntKind.wrap_i32]; omega
  have g0 := byte_getD s 0 h0
  have F1 := ufigure_low (s[0]'h0)
  have F2 := uletter_low (s[0]'h0)
  rw [hf] at F1
  rw [hl] at F2
  have H1 := Lib.hid F1
  have H3 := Lib.hid F2
  have P := uprefix_any s ⟨#[35, 82, 69, 70]⟩
  have pr := pre_ref s.data.toList
  have hf2 : isFig (s.data.toList.getD 0 0) = false := by rw [g0]; exact hf
  have hl2 : isLet (s.data.toList.getD 0 0) = false := by rw [g0]; exact hl
  rw [decide_eq_false hr] at pr
  have P1 : ∀ w, Calls Tryd.prog 18 #[.string s, .string ⟨#[35, 82, 69, 70]⟩] w fun e w' => e = .returned (.bool false) ∧ w = w' := fun w => by have := P w; rwa [show List.isPrefixOf (⟨#[35, 82, 69, 70]⟩ : ByteArray).data.toList s.data.toList = false from pr] at this
  have HP := Lib.hid P1
  have eM := uone_mark hf2 hl2 hr
  clear P P1 pr F1 F2 hf hl hf2 hl2 hr
  have c0 : s.data.toList.getD 0 0 = 60 := by rw [g0]; exact hc
  have h2 := size_two s (k := 62) (by decide) hd
  have t60 : (((s[0]'h0).toNat : Int) == 60) = true := by rw [hc]; rfl
  have Q1 : ∀ w, Calls Tryd.prog 18 #[.string s, .string ⟨#[60, 62]⟩] w fun e w' => e = .returned (.bool true) ∧ w = w' := fun w => by have := uprefix_any s ⟨#[60, 62]⟩ w; rwa [show List.isPrefixOf (⟨#[60, 62]⟩ : ByteArray).data.toList s.data.toList = true from (pre_lt s.data.toList c0 (by rw [len_of]; exact h0)).trans (decide_eq_true hd)] at this
  have Q2 : ∀ w, Calls Tryd.prog 18 #[.string (s.extract 1 s.size), .string ⟨#[61]⟩] w fun e w' => e = .returned (.bool false) ∧ w = w' := fun w => by have := uprefix_any (s.extract 1 s.size) ⟨#[61]⟩ w; rwa [show List.isPrefixOf (⟨#[61]⟩ : ByteArray).data.toList (s.extract 1 s.size).data.toList = false from (pre_eq s h0).trans (decide_eq_false (by rw [hd]; decide))] at this
  have HL := Lib.hid Q1
  have HQ := Lib.hid Q2
  have hm : markN s.data.toList 0 = 2 := by unfold markN markC; rw [c0]; rw [hd]; simp
  have HO := Lib.hid (show oneV (oneT s.data.toList 0) = .tuple #[.agg #[.int .i64 5, .int .i64 0, .int .i64 0, .int .i64 0, .string (s.extract 0 2), .int .i64 0], .int .i64 2] from by rw [eM, if_neg (by rw [hm]; decide), hm, extract_string s 0 2]; rfl)
  clear eM hm c0 g0 Q1 Q2 hc hd
  go_enter Tryd.func10, Tryd.ntmps10
  go_wp2_with fail
  refine (H1.out _).mono ?_; rintro e v1 ⟨rfl, rfl⟩
  go_wp2_with fail
  refine (H3.out _).mono ?_; rintro e v2 ⟨rfl, rfl⟩
  go_wp2_with fail
  refine (HP.out _).mono ?_; rintro e v3 ⟨rfl, rfl⟩
  go_wp2_with fail
  refine (HL.out _).mono ?_; rintro e v4 ⟨rfl, rfl⟩
  go_wp2_with fail
  refine (HQ.out _).mono ?_; rintro e v5 ⟨rfl, rfl⟩
  go_wp2_with fail
  exact bodyPost_ret (v := .tuple #[.agg #[.int .i64 5, .int .i64 0, .int .i64 0, .int .i64 0, .string (s.extract 0 2), .int .i64 0], .int .i64 2]) (by simp [results, Tryd.results10, go_sem]) rfl ⟨by rw [HO.out], by
    repeat' (first | (with_reducible exact Below.refl _ _) | (with_reducible refine Below.alloc ?_ ?_ _) | (with_reducible refine Below.setCell ?_ ?_ _))
    all_goals (simp; done)⟩
set_option maxHeartbeats 2000000 in
set_option maxRecDepth 10000 in
theorem utok_le (s : ByteArray) (_hs : s.size ≤ 281474976710656) (h0 : 0 < s.size) (hf : isFig (s[0]'h0) = false) (hl : isLet (s[0]'h0) = false) (hr : ¬ subL s.data.toList 0 4 = [35, 82, 69, 70]) (hc : s[0]'h0 = 60) (hd : s.data.toList.getD 1 0 = 61) (w : World) :
    Calls Tryd.prog 10 #[.string s] w fun e w' => e = .returned (oneV (oneT s.data.toList 0)) ∧ Below w.heap.size w w' := by
  have hw : IntKind.i32.wrap ((s[0]'h0).toNat : Int) = ((s[0]'h0).toNat : Int) := by have := (s[0]'h0).toNat_lt; simp only [IntKind.wrap_i32]; omega
  have g0 := byte_getD s 0 h0
  have F1 := ufigure_low (s[0]'h0)
  have F2 := uletter_low (s[0]'h0)
  rw [hf] at F1
  rw [hl] at F2
  have H1 := Lib.hid F1
  have H3 := Lib.hid F2
  have P := uprefix_any s ⟨#[35, 82, 69, 70]⟩
  have pr := pre_ref s.data.toList
  have hf2 : isFig (s.data.toList.getD 0 0) = false := by rw [g0]; exact hf
  have hl2 : isLet (s.data.toList.getD 0 0) = false := by rw [g0]; exact hl
  rw [decide_eq_false hr] at pr
  have P1 : ∀ w, Calls Tryd.prog 18 #[.string s, .string ⟨#[35, 82, 69, 70]⟩] w fun e w' => e = .returned (.bool false) ∧ w = w' := fun w => by have := P w; rwa [show List.isPrefixOf (⟨#[35, 82, 69, 70]⟩ : ByteArray).data.toList s.data.toList = false from pr] at this
  have HP := Lib.hid P1
  have eM := uone_mark hf2 hl2 hr
  clear P P1 pr F1 F2 hf hl hf2 hl2 hr
  have c0 : s.data.toList.getD 0 0 = 60 := by rw [g0]; exact hc
  have h2 := size_two s (k := 61) (by decide) hd
  have t60 : (((s[0]'h0).toNat : Int) == 60) = true := by rw [hc]; rfl
  have Q1 : ∀ w, Calls Tryd.prog 18 #[.string s, .string ⟨#[60, 62]⟩] w fun e w' => e = .returned (.bool false) ∧ w = w' := fun w => by have := uprefix_any s ⟨#[60, 62]⟩ w; rwa [show List.isPrefixOf (⟨#[60, 62]⟩ : ByteArray).data.toList s.data.toList = false from (pre_lt s.data.toList c0 (by rw [len_of]; exact h0)).trans (decide_eq_false (by rw [hd]; decide))] at this
  have Q2 : ∀ w, Calls Tryd.prog 18 #[.string (s.extract 1 s.size), .string ⟨#[61]⟩] w fun e w' => e = .returned (.bool true) ∧ w = w' := fun w => by have := uprefix_any (s.extract 1 s.size) ⟨#[61]⟩ w; rwa [show List.isPrefixOf (⟨#[61]⟩ : ByteArray).data.toList (s.extract 1 s.size).data.toList = true from (pre_eq s h0).trans (decide_eq_true hd)] at this
  have HL := Lib.hid Q1
  have HQ := Lib.hid Q2
  have hm : markN s.data.toList 0 = 2 := by unfold markN markC; rw [c0]; rw [hd]; simp
  have HO := Lib.hid (show oneV (oneT s.data.toList 0) = .tuple #[.agg #[.int .i64 5, .int .i64 0, .int .i64 0, .int .i64 0, .string (s.extract 0 2), .int .i64 0], .int .i64 2] from by rw [eM, if_neg (by rw [hm]; decide), hm, extract_string s 0 2]; rfl)
  clear eM hm c0 g0 Q1 Q2 hc hd
  go_enter Tryd.func10, Tryd.ntmps10
  go_wp2_with fail
  refine (H1.out _).mono ?_; rintro e v1 ⟨rfl, rfl⟩
  go_wp2_with fail
  refine (H3.out _).mono ?_; rintro e v2 ⟨rfl, rfl⟩
  go_wp2_with fail
  refine (HP.out _).mono ?_; rintro e v3 ⟨rfl, rfl⟩
  go_wp2_with fail
  refine (HL.out _).mono ?_; rintro e v4 ⟨rfl, rfl⟩
  go_wp2_with fail
  refine (HQ.out _).mono ?_; rintro e v5 ⟨rfl, rfl⟩
  go_wp2_with fail
  exact bodyPost_ret (v := .tuple #[.agg #[.int .i64 5, .int .i64 0, .int .i64 0, .int .i64 0, .string (s.extract 0 2), .int .i64 0], .int .i64 2]) (by simp [results, Tryd.results10, go_sem]) rfl ⟨by rw [HO.out], by
    repeat' (first | (with_reducible exact Below.refl _ _) | (with_reducible refine Below.alloc ?_ ?_ _) | (with_reducible refine Below.setCell ?_ ?_ _))
    all_goals (simp; done)⟩
set_option maxHeartbeats 2000000 in
set_option maxRecDepth 10000 in
theorem utok_l (s : ByteArray) (_hs : s.size ≤ 281474976710656) (h0 : 0 < s.size) (hf : isFig (s[0]'h0) = false) (hl : isLet (s[0]'h0) = false) (hr : ¬ subL s.data.toList 0 4 = [35, 82, 69, 70]) (hc : s[0]'h0 = 60) (hd : s.data.toList.getD 1 0 ≠ 61) (he : s.data.toList.getD 1 0 ≠ 62) (w : World) :
    Calls Tryd.prog 10 #[.string s] w fun e w' => e = .returned (oneV (oneT s.data.toList 0)) ∧ Below w.heap.size w w' := by
  have hw : IntKind.i32.wrap ((s[0]'h0).toNat : Int) = ((s[0]'h0).toNat : Int) := by have := (s[0]'h0).toNat_lt; simp only [IntKind.wrap_i32]; omega
  have g0 := byte_getD s 0 h0
  have F1 := ufigure_low (s[0]'h0)
  have F2 := uletter_low (s[0]'h0)
  rw [hf] at F1
  rw [hl] at F2
  have H1 := Lib.hid F1
  have H3 := Lib.hid F2
  have P := uprefix_any s ⟨#[35, 82, 69, 70]⟩
  have pr := pre_ref s.data.toList
  have hf2 : isFig (s.data.toList.getD 0 0) = false := by rw [g0]; exact hf
  have hl2 : isLet (s.data.toList.getD 0 0) = false := by rw [g0]; exact hl
  rw [decide_eq_false hr] at pr
  have P1 : ∀ w, Calls Tryd.prog 18 #[.string s, .string ⟨#[35, 82, 69, 70]⟩] w fun e w' => e = .returned (.bool false) ∧ w = w' := fun w => by have := P w; rwa [show List.isPrefixOf (⟨#[35, 82, 69, 70]⟩ : ByteArray).data.toList s.data.toList = false from pr] at this
  have HP := Lib.hid P1
  have eM := uone_mark hf2 hl2 hr
  clear P P1 pr F1 F2 hf hl hf2 hl2 hr
  have c0 : s.data.toList.getD 0 0 = 60 := by rw [g0]; exact hc
  have t60 : (((s[0]'h0).toNat : Int) == 60) = true := by rw [hc]; rfl
  have Q1 : ∀ w, Calls Tryd.prog 18 #[.string s, .string ⟨#[60, 62]⟩] w fun e w' => e = .returned (.bool false) ∧ w = w' := fun w => by have := uprefix_any s ⟨#[60, 62]⟩ w; rwa [show List.isPrefixOf (⟨#[60, 62]⟩ : ByteArray).data.toList s.data.toList = false from (pre_lt s.data.toList c0 (by rw [len_of]; exact h0)).trans (decide_eq_false he)] at this
  have Q2 : ∀ w, Calls Tryd.prog 18 #[.string (s.extract 1 s.size), .string ⟨#[61]⟩] w fun e w' => e = .returned (.bool false) ∧ w = w' := fun w => by have := uprefix_any (s.extract 1 s.size) ⟨#[61]⟩ w; rwa [show List.isPrefixOf (⟨#[61]⟩ : ByteArray).data.toList (s.extract 1 s.size).data.toList = false from (pre_eq s h0).trans (decide_eq_false hd)] at this
  have HL := Lib.hid Q1
  have HQ := Lib.hid Q2
  have hm : markN s.data.toList 0 = 1 := by unfold markN markC; rw [c0]; rw [if_neg (by rintro (⟨_, h | h⟩ | ⟨h, _⟩); exact hd h; exact he h; exact absurd h (by decide)), if_pos (by decide)]
  have HO := Lib.hid (show oneV (oneT s.data.toList 0) = .tuple #[.agg #[.int .i64 5, .int .i64 0, .int .i64 0, .int .i64 0, .string (s.extract 0 1), .int .i64 0], .int .i64 1] from by rw [eM, if_neg (by rw [hm]; decide), hm, extract_string s 0 1]; rfl)
  clear eM hm c0 g0 Q1 Q2 hc hd he
  go_enter Tryd.func10, Tryd.ntmps10
  go_wp2_with fail
  refine (H1.out _).mono ?_; rintro e v1 ⟨rfl, rfl⟩
  go_wp2_with fail
  refine (H3.out _).mono ?_; rintro e v2 ⟨rfl, rfl⟩
  go_wp2_with fail
  refine (HP.out _).mono ?_; rintro e v3 ⟨rfl, rfl⟩
  go_wp2_with fail
  refine (HL.out _).mono ?_; rintro e v4 ⟨rfl, rfl⟩
  go_wp2_with fail
  refine (HQ.out _).mono ?_; rintro e v5 ⟨rfl, rfl⟩
  go_wp2_with fail
  exact bodyPost_ret (v := .tuple #[.agg #[.int .i64 5, .int .i64 0, .int .i64 0, .int .i64 0, .string (s.extract 0 1), .int .i64 0], .int .i64 1]) (by simp [results, Tryd.results10, go_sem]) rfl ⟨by rw [HO.out], by
    repeat' (first | (with_reducible exact Below.refl _ _) | (with_reducible refine Below.alloc ?_ ?_ _) | (with_reducible refine Below.setCell ?_ ?_ _))
    all_goals (simp; done)⟩
set_option maxHeartbeats 2000000 in
set_option maxRecDepth 10000 in
theorem utok_ge (s : ByteArray) (_hs : s.size ≤ 281474976710656) (h0 : 0 < s.size) (hf : isFig (s[0]'h0) = false) (hl : isLet (s[0]'h0) = false) (hr : ¬ subL s.data.toList 0 4 = [35, 82, 69, 70]) (hc : s[0]'h0 = 62) (hd : s.data.toList.getD 1 0 = 61) (w : World) :
    Calls Tryd.prog 10 #[.string s] w fun e w' => e = .returned (oneV (oneT s.data.toList 0)) ∧ Below w.heap.size w w' := by
  have hw : IntKind.i32.wrap ((s[0]'h0).toNat : Int) = ((s[0]'h0).toNat : Int) := by have := (s[0]'h0).toNat_lt; simp only [IntKind.wrap_i32]; omega
  have g0 := byte_getD s 0 h0
  have F1 := ufigure_low (s[0]'h0)
  have F2 := uletter_low (s[0]'h0)
  rw [hf] at F1
  rw [hl] at F2
  have H1 := Lib.hid F1
  have H3 := Lib.hid F2
  have P := uprefix_any s ⟨#[35, 82, 69, 70]⟩
  have pr := pre_ref s.data.toList
  have hf2 : isFig (s.data.toList.getD 0 0) = false := by rw [g0]; exact hf
  have hl2 : isLet (s.data.toList.getD 0 0) = false := by rw [g0]; exact hl
  rw [decide_eq_false hr] at pr
  have P1 : ∀ w, Calls Tryd.prog 18 #[.string s, .string ⟨#[35, 82, 69, 70]⟩] w fun e w' => e = .returned (.bool false) ∧ w = w' := fun w => by have := P w; rwa [show List.isPrefixOf (⟨#[35, 82, 69, 70]⟩ : ByteArray).data.toList s.data.toList = false from pr] at this
  have HP := Lib.hid P1
  have eM := uone_mark hf2 hl2 hr
  clear P P1 pr F1 F2 hf hl hf2 hl2 hr
  have c0 : s.data.toList.getD 0 0 = 62 := by rw [g0]; exact hc
  have h2 := size_two s (k := 61) (by decide) hd
  have t60 : (((s[0]'h0).toNat : Int) == 60) = false := by rw [hc]; rfl
  have t62 : (((s[0]'h0).toNat : Int) == 62) = true := by rw [hc]; rfl
  have Q2 : ∀ w, Calls Tryd.prog 18 #[.string (s.extract 1 s.size), .string ⟨#[61]⟩] w fun e w' => e = .returned (.bool true) ∧ w = w' := fun w => by have := uprefix_any (s.extract 1 s.size) ⟨#[61]⟩ w; rwa [show List.isPrefixOf (⟨#[61]⟩ : ByteArray).data.toList (s.extract 1 s.size).data.toList = true from (pre_eq s h0).trans (decide_eq_true hd)] at this
  have HQ := Lib.hid Q2
  have hm : markN s.data.toList 0 = 2 := by unfold markN markC; rw [c0]; rw [hd]; simp
  have HO := Lib.hid (show oneV (oneT s.data.toList 0) = .tuple #[.agg #[.int .i64 5, .int .i64 0, .int .i64 0, .int .i64 0, .string (s.extract 0 2), .int .i64 0], .int .i64 2] from by rw [eM, if_neg (by rw [hm]; decide), hm, extract_string s 0 2]; rfl)
  clear eM hm c0 g0 Q2 hc hd
  go_enter Tryd.func10, Tryd.ntmps10
  go_wp2_with fail
  refine (H1.out _).mono ?_; rintro e v1 ⟨rfl, rfl⟩
  go_wp2_with fail
  refine (H3.out _).mono ?_; rintro e v2 ⟨rfl, rfl⟩
  go_wp2_with fail
  refine (HP.out _).mono ?_; rintro e v3 ⟨rfl, rfl⟩
  go_wp2_with fail
  refine (HQ.out _).mono ?_; rintro e v4 ⟨rfl, rfl⟩
  go_wp2_with fail
  exact bodyPost_ret (v := .tuple #[.agg #[.int .i64 5, .int .i64 0, .int .i64 0, .int .i64 0, .string (s.extract 0 2), .int .i64 0], .int .i64 2]) (by simp [results, Tryd.results10, go_sem]) rfl ⟨by rw [HO.out], by
    repeat' (first | (with_reducible exact Below.refl _ _) | (with_reducible refine Below.alloc ?_ ?_ _) | (with_reducible refine Below.setCell ?_ ?_ _))
    all_goals (simp; done)⟩
set_option maxHeartbeats 2000000 in
set_option maxRecDepth 10000 in
theorem utok_g (s : ByteArray) (_hs : s.size ≤ 281474976710656) (h0 : 0 < s.size) (hf : isFig (s[0]'h0) = false) (hl : isLet (s[0]'h0) = false) (hr : ¬ subL s.data.toList 0 4 = [35, 82, 69, 70]) (hc : s[0]'h0 = 62) (hd : s.data.toList.getD 1 0 ≠ 61) (w : World) :
    Calls Tryd.prog 10 #[.string s] w fun e w' => e = .returned (oneV (oneT s.data.toList 0)) ∧ Below w.heap.size w w' := by
  have hw : IntKind.i32.wrap ((s[0]'h0).toNat : Int) = ((s[0]'h0).toNat : Int) := by have := (s[0]'h0).toNat_lt; simp only [IntKind.wrap_i32]; omega
  have g0 := byte_getD s 0 h0
  have F1 := ufigure_low (s[0]'h0)
  have F2 := uletter_low (s[0]'h0)
  rw [hf] at F1
  rw [hl] at F2
  have H1 := Lib.hid F1
  have H3 := Lib.hid F2
  have P := uprefix_any s ⟨#[35, 82, 69, 70]⟩
  have pr := pre_ref s.data.toList
  have hf2 : isFig (s.data.toList.getD 0 0) = false := by rw [g0]; exact hf
  have hl2 : isLet (s.data.toList.getD 0 0) = false := by rw [g0]; exact hl
  rw [decide_eq_false hr] at pr
  have P1 : ∀ w, Calls Tryd.prog 18 #[.string s, .string ⟨#[35, 82, 69, 70]⟩] w fun e w' => e = .returned (.bool false) ∧ w = w' := fun w => by have := P w; rwa [show List.isPrefixOf (⟨#[35, 82, 69, 70]⟩ : ByteArray).data.toList s.data.toList = false from pr] at this
  have HP := Lib.hid P1
  have eM := uone_mark hf2 hl2 hr
  clear P P1 pr F1 F2 hf hl hf2 hl2 hr
  have c0 : s.data.toList.getD 0 0 = 62 := by rw [g0]; exact hc
  have t60 : (((s[0]'h0).toNat : Int) == 60) = false := by rw [hc]; rfl
  have t62 : (((s[0]'h0).toNat : Int) == 62) = true := by rw [hc]; rfl
  have Q2 : ∀ w, Calls Tryd.prog 18 #[.string (s.extract 1 s.size), .string ⟨#[61]⟩] w fun e w' => e = .returned (.bool false) ∧ w = w' := fun w => by have := uprefix_any (s.extract 1 s.size) ⟨#[61]⟩ w; rwa [show List.isPrefixOf (⟨#[61]⟩ : ByteArray).data.toList (s.extract 1 s.size).data.toList = false from (pre_eq s h0).trans (decide_eq_false hd)] at this
  have HQ := Lib.hid Q2
  have hm : markN s.data.toList 0 = 1 := by unfold markN markC; rw [c0]; rw [if_neg (by rintro (⟨h, _⟩ | ⟨_, h⟩); exact absurd h (by decide); exact hd h), if_pos (by decide)]
  have HO := Lib.hid (show oneV (oneT s.data.toList 0) = .tuple #[.agg #[.int .i64 5, .int .i64 0, .int .i64 0, .int .i64 0, .string (s.extract 0 1), .int .i64 0], .int .i64 1] from by rw [eM, if_neg (by rw [hm]; decide), hm, extract_string s 0 1]; rfl)
  clear eM hm c0 g0 Q2 hc hd
  go_enter Tryd.func10, Tryd.ntmps10
  go_wp2_with fail
  refine (H1.out _).mono ?_; rintro e v1 ⟨rfl, rfl⟩
  go_wp2_with fail
  refine (H3.out _).mono ?_; rintro e v2 ⟨rfl, rfl⟩
  go_wp2_with fail
  refine (HP.out _).mono ?_; rintro e v3 ⟨rfl, rfl⟩
  go_wp2_with fail
  refine (HQ.out _).mono ?_; rintro e v4 ⟨rfl, rfl⟩
  go_wp2_with fail
  exact bodyPost_ret (v := .tuple #[.agg #[.int .i64 5, .int .i64 0, .int .i64 0, .int .i64 0, .string (s.extract 0 1), .int .i64 0], .int .i64 1]) (by simp [results, Tryd.results10, go_sem]) rfl ⟨by rw [HO.out], by
    repeat' (first | (with_reducible exact Below.refl _ _) | (with_reducible refine Below.alloc ?_ ?_ _) | (with_reducible refine Below.setCell ?_ ?_ _))
    all_goals (simp; done)⟩
set_option maxHeartbeats 2000000 in
set_option maxRecDepth 10000 in
theorem utok_m (s : ByteArray) (_hs : s.size ≤ 281474976710656) (h0 : 0 < s.size) (hf : isFig (s[0]'h0) = false) (hl : isLet (s[0]'h0) = false) (hr : ¬ subL s.data.toList 0 4 = [35, 82, 69, 70]) (h60 : s[0]'h0 ≠ 60) (h62 : s[0]'h0 ≠ 62) (w : World) :
    Calls Tryd.prog 10 #[.string s] w fun e w' => e = .returned (oneV (oneT s.data.toList 0)) ∧ Below w.heap.size w w' := by
  have hw : IntKind.i32.wrap ((s[0]'h0).toNat : Int) = ((s[0]'h0).toNat : Int) := by have := (s[0]'h0).toNat_lt; simp only [IntKind.wrap_i32]; omega
  have g0 := byte_getD s 0 h0
  have F1 := ufigure_low (s[0]'h0)
  have F2 := uletter_low (s[0]'h0)
  rw [hf] at F1
  rw [hl] at F2
  have H1 := Lib.hid F1
  have H3 := Lib.hid F2
  have P := uprefix_any s ⟨#[35, 82, 69, 70]⟩
  have pr := pre_ref s.data.toList
  have hf2 : isFig (s.data.toList.getD 0 0) = false := by rw [g0]; exact hf
  have hl2 : isLet (s.data.toList.getD 0 0) = false := by rw [g0]; exact hl
  rw [decide_eq_false hr] at pr
  have P1 : ∀ w, Calls Tryd.prog 18 #[.string s, .string ⟨#[35, 82, 69, 70]⟩] w fun e w' => e = .returned (.bool false) ∧ w = w' := fun w => by have := P w; rwa [show List.isPrefixOf (⟨#[35, 82, 69, 70]⟩ : ByteArray).data.toList s.data.toList = false from pr] at this
  have HP := Lib.hid P1
  have eM := uone_mark hf2 hl2 hr
  clear P P1 pr F1 F2 hf hl hf2 hl2 hr
  have t60 : (((s[0]'h0).toNat : Int) == 60) = false := byte_ne (k := 60) h60
  have t62 : (((s[0]'h0).toNat : Int) == 62) = false := byte_ne (k := 62) h62
  have hm := mrk_mark s.data.toList (by rw [g0]; exact h60) (by rw [g0]; exact h62)
  rw [g0] at hm
  have C := ucontains_any (s[0]'h0)
  clear h60 h62 g0
  cases hk : isMrk (s[0]'h0) with
  | true =>
    rw [hk] at C
    rw [if_pos hk] at hm
    have HC := Lib.hid C
    have HO := Lib.hid (show oneV (oneT s.data.toList 0) = .tuple #[.agg #[.int .i64 5, .int .i64 0, .int .i64 0, .int .i64 0, .string (s.extract 0 1), .int .i64 0], .int .i64 1] from by rw [eM, if_neg (by rw [hm]; decide), hm, extract_string s 0 1]; rfl)
    clear eM hm hk C
    go_enter Tryd.func10, Tryd.ntmps10
    go_wp2_with fail
    refine (H1.out _).mono ?_; rintro e v1 ⟨rfl, rfl⟩
    go_wp2_with fail
    refine (H3.out _).mono ?_; rintro e v2 ⟨rfl, rfl⟩
    go_wp2_with fail
    refine (HP.out _).mono ?_; rintro e v3 ⟨rfl, rfl⟩
    go_wp2_with fail
    refine (HC.out _).mono ?_; rintro e w1 ⟨rfl, b1⟩
    have k10 := keep_fresh b1 0 (v := .int .i64 0) rfl
    have k11 := keep_fresh b1 1 (v := .int .i64 0) rfl
    have k12 := keep_fresh b1 2 (v := .int .i64 0) rfl
    have k13 := keep_fresh b1 3 (v := .int .i64 0) rfl
    have k14 := keep_fresh b1 4 (v := .string ⟨#[]⟩) rfl
    have k15 := keep_fresh b1 5 (v := .int .i64 0) rfl
    have f10 := fresh_frozen b1 0
    have f11 := fresh_frozen b1 1
    have f12 := fresh_frozen b1 2
    have f13 := fresh_frozen b1 3
    have f14 := fresh_frozen b1 4
    have f15 := fresh_frozen b1 5
    have h1 : Below w.heap.size w w1 := ((Below.refl _ _).alloc (Nat.le_refl _) _).trans (b1.mono (by simp))
    have z1 : w.heap.size < w1.heap.size := by have := b1.size; simp at this; omega
    clear b1
    go_wp2_with fail
    exact bodyPost_ret (v := .tuple #[.agg #[.int .i64 5, .int .i64 0, .int .i64 0, .int .i64 0, .string (s.extract 0 1), .int .i64 0], .int .i64 1]) (by simp [results, Tryd.results10, go_sem, k10, k11, k12, k13, k14, k15]) rfl ⟨by rw [HO.out], by
      repeat' (first | (with_reducible exact h1) | (with_reducible refine Below.alloc ?_ ?_ _) | (with_reducible refine Below.setCell ?_ ?_ _))
      all_goals (first | (simp; done) | (simpa using h1.size))⟩
  | false =>
    rw [hk] at C
    rw [if_neg (by rw [hk]; decide)] at hm
    have HC := Lib.hid C
    have HO := Lib.hid (show oneV (oneT s.data.toList 0) = .tuple #[.agg #[.int .i64 0, .int .i64 0, .int .i64 0, .int .i64 0, .string ⟨#[]⟩, .int .i64 0], .int .i64 0] from by rw [eM, if_pos hm]; rfl)
    clear eM hm hk C
    go_enter Tryd.func10, Tryd.ntmps10
    go_wp2_with fail
    refine (H1.out _).mono ?_; rintro e v1 ⟨rfl, rfl⟩
    go_wp2_with fail
    refine (H3.out _).mono ?_; rintro e v2 ⟨rfl, rfl⟩
    go_wp2_with fail
    refine (HP.out _).mono ?_; rintro e v3 ⟨rfl, rfl⟩
    go_wp2_with fail
    refine (HC.out _).mono ?_; rintro e w1 ⟨rfl, b1⟩
    have k10 := keep_fresh b1 0 (v := .int .i64 0) rfl
    have k11 := keep_fresh b1 1 (v := .int .i64 0) rfl
    have k12 := keep_fresh b1 2 (v := .int .i64 0) rfl
    have k13 := keep_fresh b1 3 (v := .int .i64 0) rfl
    have k14 := keep_fresh b1 4 (v := .string ⟨#[]⟩) rfl
    have k15 := keep_fresh b1 5 (v := .int .i64 0) rfl
    have f10 := fresh_frozen b1 0
    have f11 := fresh_frozen b1 1
    have f12 := fresh_frozen b1 2
    have f13 := fresh_frozen b1 3
    have f14 := fresh_frozen b1 4
    have f15 := fresh_frozen b1 5
    have h1 : Below w.heap.size w w1 := ((Below.refl _ _).alloc (Nat.le_refl _) _).trans (b1.mono (by simp))
    have z1 : w.heap.size < w1.heap.size := by have := b1.size; simp at this; omega
    clear b1
    go_wp2_with fail
    exact bodyPost_ret (v := .tuple #[.agg #[.int .i64 0, .int .i64 0, .int .i64 0, .int .i64 0, .string ⟨#[]⟩, .int .i64 0], .int .i64 0]) (by simp [results, Tryd.results10, go_sem, k10, k11, k12, k13, k14, k15]) rfl ⟨by rw [HO.out], by
      repeat' (first | (with_reducible exact h1) | (with_reducible refine Below.alloc ?_ ?_ _) | (with_reducible refine Below.setCell ?_ ?_ _))
      all_goals (first | (simp; done) | (simpa using h1.size))⟩
/-- what token makes of any text that is not empty -/
theorem utok_any (s : ByteArray) (hs : s.size ≤ 281474976710656) (h0 : 0 < s.size) (w : World) (hE : EnvL w) :
    Calls Tryd.prog 10 #[.string s] w fun e w' => e = .returned (oneV (oneT s.data.toList 0)) ∧ Below w.heap.size w w' := by
  cases hf : isFig (s[0]'h0) with
  | true => exact utok_fig s hs h0 hf w hE
  | false =>
    cases hl : isLet (s[0]'h0) with
    | true => exact utok_let s hs h0 hf hl w
    | false =>
      by_cases hr : subL s.data.toList 0 4 = [35, 82, 69, 70]
      · exact utok_ref s hs h0 hf hl hr w
      · by_cases h60 : s[0]'h0 = 60
        · by_cases hd : s.data.toList.getD 1 0 = 61
          · exact utok_le s hs h0 hf hl hr h60 hd w
          · by_cases he : s.data.toList.getD 1 0 = 62
            · exact utok_lg s hs h0 hf hl hr h60 he w
            · exact utok_l s hs h0 hf hl hr h60 hd he w
        · by_cases h62 : s[0]'h0 = 62
          · by_cases hd : s.data.toList.getD 1 0 = 61
            · exact utok_ge s hs h0 hf hl hr h62 hd w
            · exact utok_g s hs h0 hf hl hr h62 hd w
          · exact utok_m s hs h0 hf hl hr h60 h62 w
end Go.Proofs.YtjfmmnebhmlkeaaDoor
