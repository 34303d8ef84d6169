/- Texts joined: LsD. -/
import Derived.Test.YtahdlijkohmdfaaGreatDoorMp23
import Derived.Test.YtahdlijkohmdfaaGreatDoorMp05
set_option linter.all false
set_option linter.unusedVariables false
set_option linter.unusedSimpArgs false
namespace Go.Proofs.YtahdlijkohmdfaaGreatDoor
open Go.RowKit

theorem sub_zero_len (l : List UInt8) (f : UInt8 → Bool) : (subL l 0 (runLen f l 0)).length = runLen f l 0 := by
  have h := (List.takeWhile_prefix f (l := l.drop 0)).length_le
  unfold subL runLen
  rw [List.length_take]
  omega
theorem uone_fig {l : List UInt8} (h : isFig (l.getD 0 0) = true) : oneV (oneT l 0) = figV (subL l 0 (runLen isFig l 0)) := by
  unfold oneT figV
  rw [if_pos h, sub_zero_len]
  cases numV (subL l 0 (runLen isFig l 0)) <;> rfl
theorem let_iff (c : UInt8) : isLet c = true ↔ 65 ≤ c.toNat ∧ c.toNat ≤ 90 := by unfold isLet; simp
theorem word_form {l : List UInt8} (h : wordB l = true) : prE l = 2 := by
  unfold wordB at h
  simp only [Bool.or_eq_true, beq_iff_eq] at h
  rcases h with (((h | h) | h) | h) | h <;> (subst h; decide)
theorem uone_let {l : List UInt8} (hf : isFig (l.getD 0 0) = false) (h : isLet (l.getD 0 0) = true) : oneV (oneT l 0) = namV (subL l 0 (runLen isNam l 0)) := by
  unfold oneT namV
  rw [if_neg (by rw [hf]; decide), if_pos ((let_iff _).1 h), sub_zero_len]
  generalize subL l 0 (runLen isNam l 0) = X
  by_cases hw : wordB X = true
  · have := word_form hw
    rw [if_pos hw, if_neg (by omega), if_neg (by omega), if_pos hw]
    rfl
  · rw [if_neg hw, if_neg hw]
    by_cases h0 : prE X = 0
    · rw [if_pos h0, if_pos h0]; rfl
    · rw [if_neg h0, if_neg h0]
      by_cases h4 : prE X = 4
      · rw [if_pos h4, if_pos h4]; rfl
      · rw [if_neg h4, if_neg h4]; rfl
theorem uone_ref {l : List UInt8} (hf : isFig (l.getD 0 0) = false) (hl : isLet (l.getD 0 0) = false) (hr : subL l 0 4 = [35, 82, 69, 70]) : oneT l 0 = some (⟨3, 0, 0, 0, [], 0⟩, 4) := by
  unfold oneT
  rw [if_neg (by rw [hf]; decide), if_neg (fun h => by rw [(let_iff _).2 h] at hl; cases hl), if_pos hr]
theorem uone_mark {l : List UInt8} (hf : isFig (l.getD 0 0) = false) (hl : isLet (l.getD 0 0) = false) (hr : ¬ subL l 0 4 = [35, 82, 69, 70]) :
    oneT l 0 = if markN l 0 = 0 then none else some (⟨5, 0, 0, 0, subL l 0 (markN l 0).toNat, 0⟩, (markN l 0).toNat) := by
  unfold oneT
  rw [if_neg (by rw [hf]; decide), if_neg (fun h => by rw [(let_iff _).2 h] at hl; cases hl), if_neg hr]
theorem pre_ref (l : List UInt8) : List.isPrefixOf [35, 82, 69, 70] l = decide (subL l 0 4 = [35, 82, 69, 70]) := by
  rw [Bool.eq_iff_iff, List.isPrefixOf_iff_prefix, decide_eq_true_iff, List.prefix_iff_eq_take]
  exact ⟨fun h => h.symm, fun h => h.symm⟩
theorem pre_lt (l : List UInt8) (h : l.getD 0 0 = 60) (hl : 0 < l.length) : List.isPrefixOf [60, 62] l = decide (l.getD 1 0 = 62) := by
  match l, hl with
  | [a], _ => simp [List.isPrefixOf]
  | a :: b :: r, _ =>
    have ha : a = 60 := h
    subst ha
    rw [Bool.eq_iff_iff]
    simp [List.isPrefixOf]
    exact eq_comm
theorem pre_eq (s : ByteArray) (h : 0 < s.size) : List.isPrefixOf [61] (s.extract 1 s.size).data.toList = decide (s.data.toList.getD 1 0 = 61) := by
  have e : (s.extract 1 s.size).data.toList = s.data.toList.drop 1 := by
    have h2 : s.size = 1 + (s.size - 1) := by omega
    have h3 : (s.extract 1 (1 + (s.size - 1))).data.toList = subL s.data.toList 1 (s.size - 1) := extract_sub s 1 (s.size - 1)
    rw [← h2] at h3
    rw [h3]
    unfold subL
    exact List.take_of_length_le (by rw [List.length_drop, len_of]; omega)
  rw [e]
  have hl : 0 < s.data.toList.length := by rw [len_of]; exact h
  generalize s.data.toList = l at hl
  match l, hl with
  | [a], _ => simp
  | a :: b :: r, _ =>
    rw [Bool.eq_iff_iff]
    simp [List.isPrefixOf]
    exact eq_comm
theorem size_two (s : ByteArray) {k : UInt8} (hk : k ≠ 0) (h : s.data.toList.getD 1 0 = k) : 2 ≤ s.size := by
  by_cases h2 : 1 < s.size
  · omega
  · rw [byte_past s 1 h2] at h
    exact absurd h.symm hk
theorem mrk_mark (l : List UInt8) (h60 : l.getD 0 0 ≠ 60) (h62 : l.getD 0 0 ≠ 62) : markN l 0 = if isMrk (l.getD 0 0) = true then 1 else 0 := by
  unfold markN markC
  rw [if_neg (by rintro (⟨h, _⟩ | ⟨h, _⟩); exact h60 h; exact h62 h)]
  have hm := mrk_iff (l.getD 0 0)
  generalize l.getD 0 0 = c at *
  by_cases hq : isMrk c = true
  · rw [if_pos hq, if_pos]
    rcases hm.1 hq with h | h | h | h | h | h | h | h | h <;> (subst h; decide)
  · rw [if_neg hq, if_neg]
    intro h
    refine hq (hm.2 ?_)
    rcases h with h | h | h | h | h | h | h | h | h | h | h
    all_goals first | exact absurd h h60 | exact absurd h h62 | (subst h; decide)

theorem takeWhile_all (f : UInt8 → Bool) (l : List UInt8) : ∀ c ∈ subL l 0 (runLen f l 0), f c = true := by
  intro c hc
  unfold subL runLen at hc
  rw [List.drop_zero] at hc
  have e : l.take (l.takeWhile f).length = l.takeWhile f := (List.prefix_iff_eq_take.1 (List.takeWhile_prefix f)).symm
  rw [e] at hc
  exact List.all_eq_true.1 List.all_takeWhile c hc
set_option maxHeartbeats 2000000 in
set_option maxRecDepth 10000 in
theorem utok_fig (s : ByteArray) (hs : s.size ≤ 281474976710656) (h0 : 0 < s.size) (hf : isFig (s[0]'h0) = true) (w : World) (hE : EnvL w) :
    Calls Tryz.prog 30 #[.string s] w fun e w' => e = .returned (oneV (oneT s.data.toList 0)) ∧ Below w.heap.size w w' := by
  have hw : IntKind.i32.wrap ((s[0]'h0).toNat : Int) = ((s[0]'h0).toNat : Int) := by have := (s[0]'h0).toNat_lt; simp only [IntKind.wrap_i32]; omega
  have g0 := byte_getD s 0 h0
  have F1 := ufigure_low (s[0]'h0)
  rw [hf] at F1
  have H1 := Lib.hid F1
  have hfl : isFig (s.data.toList.getD 0 0) = true := by rw [g0]; exact hf
  have e1 := uone_fig hfl
  have hle := run_le isFig s.data.toList 0 (Nat.zero_le _)
  have hrp := run_pos (f := isFig) (l := s.data.toList) (p := 0) (by rw [len_of]; exact h0) hfl
  have HR := Lib.hid (urun_any sort_figure s (by omega))
  have hall := takeWhile_all isFig s.data.toList
  rw [Nat.zero_add, len_of] at hle
  generalize hn : runLen isFig s.data.toList 0 = n at *
  have hex : (s.extract 0 n).data.toList = subL s.data.toList 0 n := by have := extract_sub s 0 n; rwa [Nat.zero_add] at this
  have hsz : (s.extract 0 n).size = n := by rw [ByteArray.size_extract]; omega
  have H2 := Lib.hid (unumber_any (s.extract 0 n) (by omega) (by omega) (by rw [hex]; exact hall))
  have HE := Lib.hid hE
  rw [hex] at H2
  clear hE hf hfl g0 F1 hall hrp hn hex hsz
  cases hv : numV (subL s.data.toList 0 n) with
  | some u =>
    have e2 : figV (subL s.data.toList 0 n) = .tuple #[.agg #[.int .i64 1, .int .i64 (u : Int), .int .i64 0, .int .i64 0, .string ⟨#[]⟩, .int .i64 0], .int .i64 (n : Int)] := by unfold figV; rw [hv]; rw [show (subL s.data.toList 0 n).length = n from sub_len (by rw [len_of]; omega)]
    have HO := Lib.hid (e1.trans e2)
    rw [e2] at H2
    clear e1 e2 hv
    go_enter Tryz.func30, Tryz.ntmps30
    go_wp2_with fail
    refine (H1.out _).mono ?_; rintro e v1 ⟨rfl, rfl⟩
    go_wp2_with fail
    refine (HR.out _).mono ?_; rintro e w1 ⟨rfl, b1⟩
    have k10 := keep_fresh b1 0 (v := .int .i64 0) rfl
    have k11 := keep_fresh b1 1 (v := .int .i64 0) rfl
    have k12 := keep_fresh b1 2 (v := .int .i64 0) rfl
    have k13 := keep_fresh b1 3 (v := .int .i64 0) rfl
    have k14 := keep_fresh b1 4 (v := .string ⟨#[]⟩) rfl
    have k15 := keep_fresh b1 5 (v := .int .i64 0) rfl
    have f10 := fresh_frozen b1 0
    have f11 := fresh_frozen b1 1
    have f12 := fresh_frozen b1 2
    have f13 := fresh_frozen b1 3
    have f14 := fresh_frozen b1 4
    have f15 := fresh_frozen b1 5
    have h1 : Below w.heap.size w w1 := ((Below.refl _ _).alloc (Nat.le_refl _) _).trans (b1.mono (by simp))
    have z1 : w.heap.size < w1.heap.size := by have := b1.size; simp at this; omega
    clear b1
    go_wp2_with fail
    refine (H2.out _ (HE.out.below h1)).mono ?_; rintro e w2 ⟨rfl, b2⟩
    have k20 := keep_cell b2 k10
    have k21 := keep_cell b2 k11
    have k22 := keep_cell b2 k12
    have k23 := keep_cell b2 k13
    have k24 := keep_cell b2 k14
    have k25 := keep_cell b2 k15
    have f20 := keep_frozen b2 z1 f10
    have f21 := keep_frozen b2 z1 f11
    have f22 := keep_frozen b2 z1 f12
    have f23 := keep_frozen b2 z1 f13
    have f24 := keep_frozen b2 z1 f14
    have f25 := keep_frozen b2 z1 f15
    have h2 := h1.trans (b2.mono h1.size)
    have z2 : w.heap.size < w2.heap.size := Lib.lt_of_cell k20
    clear b2 k10 f10 k11 f11 k12 f12 k13 f13 k14 f14 k15 f15 h1 z1
    go_wp2_with fail
    exact bodyPost_ret (v := .tuple #[.agg #[.int .i64 1, .int .i64 (u : Int), .int .i64 0, .int .i64 0, .string ⟨#[]⟩, .int .i64 0], .int .i64 (n : Int)]) (by simp [results, Tryz.results30, go_sem, k20, k21, k22, k23, k24, k25]) rfl ⟨by rw [HO.out], by
      repeat' (first | (with_reducible exact h2) | (with_reducible refine Below.alloc ?_ ?_ _) | (with_reducible refine Below.setCell ?_ ?_ _))
      all_goals (first | (simp; done) | (simpa using h2.size))⟩
  | none =>
    have e2 : figV (subL s.data.toList 0 n) = .tuple #[.agg #[.int .i64 0, .int .i64 0, .int .i64 0, .int .i64 0, .string ⟨#[]⟩, .int .i64 0], .int .i64 0] := by unfold figV; rw [hv]
    have HO := Lib.hid (e1.trans e2)
    rw [e2] at H2
    clear e1 e2 hv
    go_enter Tryz.func30, Tryz.ntmps30
    go_wp2_with fail
    refine (H1.out _).mono ?_; rintro e v1 ⟨rfl, rfl⟩
    go_wp2_with fail
    refine (HR.out _).mono ?_; rintro e w1 ⟨rfl, b1⟩
    have k10 := keep_fresh b1 0 (v := .int .i64 0) rfl
    have k11 := keep_fresh b1 1 (v := .int .i64 0) rfl
    have k12 := keep_fresh b1 2 (v := .int .i64 0) rfl
    have k13 := keep_fresh b1 3 (v := .int .i64 0) rfl
    have k14 := keep_fresh b1 4 (v := .string ⟨#[]⟩) rfl
    have k15 := keep_fresh b1 5 (v := .int .i64 0) rfl
    have f10 := fresh_frozen b1 0
    have f11 := fresh_frozen b1 1
    have f12 := fresh_frozen b1 2
    have f13 := fresh_frozen b1 3
    have f14 := fresh_frozen b1 4
    have f15 := fresh_frozen b1 5
    have h1 : Below w.heap.size w w1 := ((Below.refl _ _).alloc (Nat.le_refl _) _).trans (b1.mono (by simp))
    have z1 : w.heap.size < w1.heap.size := by have := b1.size; simp at this; omega
    clear b1
    go_wp2_with fail
    refine (H2.out _ (HE.out.below h1)).mono ?_; rintro e w2 ⟨rfl, b2⟩
    have k20 := keep_cell b2 k10
    have k21 := keep_cell b2 k11
    have k22 := keep_cell b2 k12
    have k23 := keep_cell b2 k13
    have k24 := keep_cell b2 k14
    have k25 := keep_cell b2 k15
    have f20 := keep_frozen b2 z1 f10
    have f21 := keep_frozen b2 z1 f11
    have f22 := keep_frozen b2 z1 f12
    have f23 := keep_frozen b2 z1 f13
    have f24 := keep_frozen b2 z1 f14
    have f25 := keep_frozen b2 z1 f15
    have h2 := h1.trans (b2.mono h1.size)
    have z2 : w.heap.size < w2.heap.size := Lib.lt_of_cell k20
    clear b2 k10 f10 k11 f11 k12 f12 k13 f13 k14 f14 k15 f15 h1 z1
    go_wp2_with fail
    exact bodyPost_ret (v := .tuple #[.agg #[.int .i64 0, .int .i64 0, .int .i64 0, .int .i64 0, .string ⟨#[]⟩, .int .i64 0], .int .i64 0]) (by simp [results, Tryz.results30, go_sem, k20, k21, k22, k23, k24, k25]) rfl ⟨by rw [HO.out], by
      repeat' (first | (with_reducible exact h2) | (with_reducible refine Below.alloc ?_ ?_ _) | (with_reducible refine Below.setCell ?_ ?_ _))
      all_goals (first | (simp; done) | (simpa using h2.size))⟩
set_option maxHeartbeats 2000000 in
set_option maxRecDepth 10000 in
theorem utok_let (s : ByteArray) (hs : s.size ≤ 281474976710656) (h0 : 0 < s.size) (hf : isFig (s[0]'h0) = false) (hl : isLet (s[0]'h0) = true) (w : World) :
    Calls Tryz.prog 30 #[.string s] w fun e w' => e = .returned (oneV (oneT s.data.toList 0)) ∧ Below w.heap.size w w' := by
  have hw : IntKind.i32.wrap ((s[0]'h0).toNat : Int) = ((s[0]'h0).toNat : Int) := by have := (s[0]'h0).toNat_lt; simp only [IntKind.wrap_i32]; omega
  have g0 := byte_getD s 0 h0
  have F1 := ufigure_low (s[0]'h0)
  have F2 := uletter_low (s[0]'h0)
  rw [hf] at F1
  rw [hl] at F2
  have H1 := Lib.hid F1
  have H3 := Lib.hid F2
  have e1 := uone_let (l := s.data.toList) (by rw [g0]; exact hf) (by rw [g0]; exact hl)
  have hle := run_le isNam s.data.toList 0 (Nat.zero_le _)
  have HR := Lib.hid (urun_any sort_named s (by omega))
  rw [Nat.zero_add, len_of] at hle
  generalize hn : runLen isNam s.data.toList 0 = n at *
  have hex : (s.extract 0 n).data.toList = subL s.data.toList 0 n := by have := extract_sub s 0 n; rwa [Nat.zero_add] at this
  have hxs : s.extract 0 n = ⟨(subL s.data.toList 0 n).toArray⟩ := by have := extract_string s 0 n; rwa [Nat.zero_add] at this
  have hsz : (s.extract 0 n).size = n := by rw [ByteArray.size_extract]; omega
  have hsl : (subL s.data.toList 0 n).length = n := sub_len (by rw [len_of]; omega)
  have H2 := Lib.hid (uname_any (s.extract 0 n) (by omega))
  rw [hex] at H2
  clear hf hl g0 F1 F2 hn hex hsz
  generalize hX : subL s.data.toList 0 n = X at *
  clear hX
  by_cases h0 : prE X = 0
  · skip
    have e2 : namV X = .tuple #[.agg #[.int .i64 2, .int .i64 0, .int .i64 (prC X), .int .i64 (prR X), .string ⟨#[]⟩, .int .i64 0], .int .i64 (n : Int)] := by unfold namV; rw [if_pos h0, hsl]
    have HO := Lib.hid (e1.trans e2)
    rw [e2] at H2
    clear e1 e2 hxs hsl
    go_enter Tryz.func30, Tryz.ntmps30
    go_wp2_with fail
    refine (H1.out _).mono ?_; rintro e v1 ⟨rfl, rfl⟩
    go_wp2_with fail
    refine (H3.out _).mono ?_; rintro e v2 ⟨rfl, rfl⟩
    go_wp2_with fail
    refine (HR.out _).mono ?_; rintro e w1 ⟨rfl, b1⟩
    have k10 := keep_fresh b1 0 (v := .int .i64 0) rfl
    have k11 := keep_fresh b1 1 (v := .int .i64 0) rfl
    have k12 := keep_fresh b1 2 (v := .int .i64 0) rfl
    have k13 := keep_fresh b1 3 (v := .int .i64 0) rfl
    have k14 := keep_fresh b1 4 (v := .string ⟨#[]⟩) rfl
    have k15 := keep_fresh b1 5 (v := .int .i64 0) rfl
    have f10 := fresh_frozen b1 0
    have f11 := fresh_frozen b1 1
    have f12 := fresh_frozen b1 2
    have f13 := fresh_frozen b1 3
    have f14 := fresh_frozen b1 4
    have f15 := fresh_frozen b1 5
    have h1 : Below w.heap.size w w1 := ((Below.refl _ _).alloc (Nat.le_refl _) _).trans (b1.mono (by simp))
    have z1 : w.heap.size < w1.heap.size := by have := b1.size; simp at this; omega
    clear b1
    go_wp2_with fail
    refine (H2.out _).mono ?_; rintro e w2 ⟨rfl, b2⟩
    have k20 := keep_cell b2 k10
    have k21 := keep_cell b2 k11
    have k22 := keep_cell b2 k12
    have k23 := keep_cell b2 k13
    have k24 := keep_cell b2 k14
    have k25 := keep_cell b2 k15
    have f20 := keep_frozen b2 z1 f10
    have f21 := keep_frozen b2 z1 f11
    have f22 := keep_frozen b2 z1 f12
    have f23 := keep_frozen b2 z1 f13
    have f24 := keep_frozen b2 z1 f14
    have f25 := keep_frozen b2 z1 f15
    have h2 := h1.trans (b2.mono h1.size)
    have z2 : w.heap.size < w2.heap.size := Lib.lt_of_cell k20
    clear b2 k10 f10 k11 f11 k12 f12 k13 f13 k14 f14 k15 f15 h1 z1
    go_wp2_with fail
    exact bodyPost_ret (v := .tuple #[.agg #[.int .i64 2, .int .i64 0, .int .i64 (prC X), .int .i64 (prR X), .string ⟨#[]⟩, .int .i64 0], .int .i64 (n : Int)]) (by simp [results, Tryz.results30, go_sem, k20, k21, k22, k23, k24, k25]) rfl ⟨by rw [HO.out], by
      repeat' (first | (with_reducible exact h2) | (with_reducible refine Below.alloc ?_ ?_ _) | (with_reducible refine Below.setCell ?_ ?_ _))
      all_goals (first | (simp; done) | (simpa using h2.size))⟩
  · by_cases h4 : prE X = 4
    · skip
      have e2 : namV X = .tuple #[.agg #[.int .i64 3, .int .i64 0, .int .i64 0, .int .i64 0, .string ⟨#[]⟩, .int .i64 0], .int .i64 (n : Int)] := by unfold namV; rw [if_neg h0, if_pos h4, hsl]
      have HO := Lib.hid (e1.trans e2)
      rw [e2] at H2
      clear e1 e2 hxs hsl
      go_enter Tryz.func30, Tryz.ntmps30
      go_wp2_with fail
      refine (H1.out _).mono ?_; rintro e v1 ⟨rfl, rfl⟩
      go_wp2_with fail
      refine (H3.out _).mono ?_; rintro e v2 ⟨rfl, rfl⟩
      go_wp2_with fail
      refine (HR.out _).mono ?_; rintro e w1 ⟨rfl, b1⟩
      have k10 := keep_fresh b1 0 (v := .int .i64 0) rfl
      have k11 := keep_fresh b1 1 (v := .int .i64 0) rfl
      have k12 := keep_fresh b1 2 (v := .int .i64 0) rfl
      have k13 := keep_fresh b1 3 (v := .int .i64 0) rfl
      have k14 := keep_fresh b1 4 (v := .string ⟨#[]⟩) rfl
      have k15 := keep_fresh b1 5 (v := .int .i64 0) rfl
      have f10 := fresh_frozen b1 0
      have f11 := fresh_frozen b1 1
      have f12 := fresh_frozen b1 2
      have f13 := fresh_frozen b1 3
      have f14 := fresh_frozen b1 4
      have f15 := fresh_frozen b1 5
      have h1 : Below w.heap.size w w1 := ((Below.refl _ _).alloc (Nat.le_refl _) _).trans (b1.mono (by simp))
      have z1 : w.heap.size < w1.heap.size := by have := b1.size; simp at this; omega
      clear b1
      go_wp2_with fail
      refine (H2.out _).mono ?_; rintro e w2 ⟨rfl, b2⟩
      have k20 := keep_cell b2 k10
      have k21 := keep_cell b2 k11
      have k22 := keep_cell b2 k12
      have k23 := keep_cell b2 k13
      have k24 := keep_cell b2 k14
      have k25 := keep_cell b2 k15
      have f20 := keep_frozen b2 z1 f10
      have f21 := keep_frozen b2 z1 f11
      have f22 := keep_frozen b2 z1 f12
      have f23 := keep_frozen b2 z1 f13
      have f24 := keep_frozen b2 z1 f14
      have f25 := keep_frozen b2 z1 f15
      have h2 := h1.trans (b2.mono h1.size)
      have z2 : w.heap.size < w2.heap.size := Lib.lt_of_cell k20
      clear b2 k10 f10 k11 f11 k12 f12 k13 f13 k14 f14 k15 f15 h1 z1
      go_wp2_with fail
      exact bodyPost_ret (v := .tuple #[.agg #[.int .i64 3, .int .i64 0, .int .i64 0, .int .i64 0, .string ⟨#[]⟩, .int .i64 0], .int .i64 (n : Int)]) (by simp [results, Tryz.results30, go_sem, k20, k21, k22, k23, k24, k25]) rfl ⟨by rw [HO.out], by
        repeat' (first | (with_reducible exact h2) | (with_reducible refine Below.alloc ?_ ?_ _) | (with_reducible refine Below.setCell ?_ ?_ _))
        all_goals (first | (simp; done) | (simpa using h2.size))⟩
    · cases hw : wordB X with
      | true =>
        have e2 : namV X = .tuple #[.agg #[.int .i64 4, .int .i64 0, .int .i64 0, .int .i64 0, .string (s.extract 0 n), .int .i64 0], .int .i64 (n : Int)] := by unfold namV; rw [if_neg h0, if_neg h4, if_pos hw, hsl, hxs]
        have HO := Lib.hid (e1.trans e2)
        rw [e2] at H2
        clear e1 e2 hxs hsl
        go_enter Tryz.func30, Tryz.ntmps30
        go_wp2_with fail
        refine (H1.out _).mono ?_; rintro e v1 ⟨rfl, rfl⟩
        go_wp2_with fail
        refine (H3.out _).mono ?_; rintro e v2 ⟨rfl, rfl⟩
        go_wp2_with fail
        refine (HR.out _).mono ?_; rintro e w1 ⟨rfl, b1⟩
        have k10 := keep_fresh b1 0 (v := .int .i64 0) rfl
        have k11 := keep_fresh b1 1 (v := .int .i64 0) rfl
        have k12 := keep_fresh b1 2 (v := .int .i64 0) rfl
        have k13 := keep_fresh b1 3 (v := .int .i64 0) rfl
        have k14 := keep_fresh b1 4 (v := .string ⟨#[]⟩) rfl
        have k15 := keep_fresh b1 5 (v := .int .i64 0) rfl
        have f10 := fresh_frozen b1 0
        have f11 := fresh_frozen b1 1
        have f12 := fresh_frozen b1 2
        have f13 := fresh_frozen b1 3
        have f14 := fresh_frozen b1 4
        have f15 := fresh_frozen b1 5
        have h1 : Below w.heap.size w w1 := ((Below.refl _ _).alloc (Nat.le_refl _) _).trans (b1.mono (by simp))
        have z1 : w.heap.size < w1.heap.size := by have := b1.size; simp at this; omega
        clear b1
        go_wp2_with fail
        refine (H2.out _).mono ?_; rintro e w2 ⟨rfl, b2⟩
        have k20 := keep_cell b2 k10
        have k21 := keep_cell b2 k11
        have k22 := keep_cell b2 k12
        have k23 := keep_cell b2 k13
        have k24 := keep_cell b2 k14
        have k25 := keep_cell b2 k15
        have f20 := keep_frozen b2 z1 f10
        have f21 := keep_frozen b2 z1 f11
        have f22 := keep_frozen b2 z1 f12
        have f23 := keep_frozen b2 z1 f13
        have f24 := keep_frozen b2 z1 f14
        have f25 := keep_frozen b2 z1 f15
        have h2 := h1.trans (b2.mono h1.size)
        have z2 : w.heap.size < w2.heap.size := Lib.lt_of_cell k20
        clear b2 k10 f10 k11 f11 k12 f12 k13 f13 k14 f14 k15 f15 h1 z1
        go_wp2_with fail
        exact bodyPost_ret (v := .tuple #[.agg #[.int .i64 4, .int .i64 0, .int .i64 0, .int .i64 0, .string (s.extract 0 n), .int .i64 0], .int .i64 (n : Int)]) (by simp [results, Tryz.results30, go_sem, k20, k21, k22, k23, k24, k25]) rfl ⟨by rw [HO.out], by
          repeat' (first | (with_reducible exact h2) | (with_reducible refine Below.alloc ?_ ?_ _) | (with_reducible refine Below.setCell ?_ ?_ _))
          all_goals (first | (simp; done) | (simpa using h2.size))⟩
      | false =>
        have e2 : namV X = .tuple #[.agg #[.int .i64 0, .int .i64 0, .int .i64 0, .int .i64 0, .string ⟨#[]⟩, .int .i64 0], .int .i64 0] := by unfold namV; rw [if_neg h0, if_neg h4, if_neg (by rw [hw]; decide)]
        have HO := Lib.hid (e1.trans e2)
        rw [e2] at H2
        clear e1 e2 hxs hsl
        go_enter Tryz.func30, Tryz.ntmps30
        go_wp2_with fail
        refine (H1.out _).mono ?_; rintro e v1 ⟨rfl, rfl⟩
        go_wp2_with fail
        refine (H3.out _).mono ?_; rintro e v2 ⟨rfl, rfl⟩
        go_wp2_with fail
        refine (HR.out _).mono ?_; rintro e w1 ⟨rfl, b1⟩
        have k10 := keep_fresh b1 0 (v := .int .i64 0) rfl
        have k11 := keep_fresh b1 1 (v := .int .i64 0) rfl
        have k12 := keep_fresh b1 2 (v := .int .i64 0) rfl
        have k13 := keep_fresh b1 3 (v := .int .i64 0) rfl
        have k14 := keep_fresh b1 4 (v := .string ⟨#[]⟩) rfl
        have k15 := keep_fresh b1 5 (v := .int .i64 0) rfl
        have f10 := fresh_frozen b1 0
        have f11 := fresh_frozen b1 1
        have f12 := fresh_frozen b1 2
        have f13 := fresh_frozen b1 3
        have f14 := fresh_frozen b1 4
        have f15 := fresh_frozen b1 5
        have h1 : Below w.heap.size w w1 := ((Below.refl _ _).alloc (Nat.le_refl _) _).trans (b1.mono (by simp))
        have z1 : w.heap.size < w1.heap.size := by have := b1.size; simp at this; omega
        clear b1
        go_wp2_with fail
        refine (H2.out _).mono ?_; rintro e w2 ⟨rfl, b2⟩
        have k20 := keep_cell b2 k10
        have k21 := keep_cell b2 k11
        have k22 := keep_cell b2 k12
        have k23 := keep_cell b2 k13
        have k24 := keep_cell b2 k14
        have k25 := keep_cell b2 k15
        have f20 := keep_frozen b2 z1 f10
        have f21 := keep_frozen b2 z1 f11
        have f22 := keep_frozen b2 z1 f12
        have f23 := keep_frozen b2 z1 f13
        have f24 := keep_frozen b2 z1 f14
        have f25 := keep_frozen b2 z1 f15
        have h2 := h1.trans (b2.mono h1.size)
        have z2 : w.heap.size < w2.heap.size := Lib.lt_of_cell k20
        clear b2 k10 f10 k11 f11 k12 f12 k13 f13 k14 f14 k15 f15 h1 z1
        go_wp2_with fail
        exact bodyPost_ret (v := .tuple #[.agg #[.int .i64 0, .int .i64 0, .int .i64 0, .int .i64 0, .string ⟨#[]⟩, .int .i64 0], .int .i64 0]) (by simp [results, Tryz.results30, go_sem, k20, k21, k22, k23, k24, k25]) rfl ⟨by rw [HO.out], by
          repeat' (first | (with_reducible exact h2) | (with_reducible refine Below.alloc ?_ ?_ _) | (with_reducible refine Below.setCell ?_ ?_ _))
          all_goals (first | (simp; done) | (simpa using h2.size))⟩
end Go.Proofs.YtahdlijkohmdfaaGreatDoor
