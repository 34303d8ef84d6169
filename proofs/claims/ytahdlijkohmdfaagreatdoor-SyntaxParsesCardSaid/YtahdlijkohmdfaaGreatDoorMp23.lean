/- Texts joined: EnvS, LsB, LsC, LsM. -/
import Derived.Test.YtahdlijkohmdfaaGreatDoorMp01
import Derived.Lib.AtoiErrMem
import Derived.Test.YtahdlijkohmdfaaGreatDoorMp22
import Derived.Test.YtahdlijkohmdfaaGreatDoorShelfL
import Derived.Shelf.Strings.Runes
import Derived.Shelf.Strings.Prefix
import Derived.Laws.Runes
import Derived.Lib.Bytealg
import Derived.WalkMore
import Derived.Deep.QuietTactic
import Derived.BigQuiet
import Derived.Deep.RegionWith
import Derived.Lib.IndexAny
set_option linter.all false
set_option linter.unusedVariables false
set_option linter.unusedSimpArgs false
namespace Go.Proofs.YtahdlijkohmdfaaGreatDoor
open Go.RowKit

theorem gRng : Tryz.prog.globalNamed "strconv.ErrRange" = some 3 := by kernel_rfl
theorem gSyn : Tryz.prog.globalNamed "strconv.ErrSyntax" = some 2 := by kernel_rfl
structure EnvL (w : World) : Prop where
  rng : ∃ tp p, w.var? Tryz.prog "strconv.ErrRange" = some #[.iface tp p]
  syn : ∃ tp p, w.var? Tryz.prog "strconv.ErrSyntax" = some #[.iface tp p]
theorem var_lt {w : World} {name : String} {g : Nat} {v : Value} {r : List Value} (hg : Tryz.prog.globalNamed name = some g) (hv : w.var? Tryz.prog name = some (v :: r).toArray) : g < w.heap.size := by
  have h0 := World.var?_cell hg hv 0
  exact Lib.lt_of_cell (a := ⟨g, 0, none⟩) (v := v) (by simpa using h0)
theorem EnvL.below {w w' : World} (h : EnvL w) (hb : Below w.heap.size w w') : EnvL w' := by
  obtain ⟨⟨t1, p1, h1⟩, ⟨t2, p2, h2⟩⟩ := h
  exact ⟨⟨t1, p1, var?_below hb gRng (var_lt (r := []) gRng h1) h1⟩, ⟨t2, p2, var?_below hb gSyn (var_lt (r := []) gSyn h2) h2⟩⟩
end Go.Proofs.YtahdlijkohmdfaaGreatDoor
namespace Go.Proofs.YtahdlijkohmdfaaGreatDoor
open Go.RowKit

theorem dec_of_parse : ∀ (l : List UInt8) (acc u : Nat), Lib.parseUint10 acc l = .ok u → Lib.decFrom acc l = some u
  | [], acc, u, h => by simp only [Lib.parseUint10] at h; injection h with h; subst h; rfl
  | c :: r, acc, u, h => by
    simp only [Lib.parseUint10] at h
    split at h
    · rename_i hc
      split at h
      · cases h
      · split at h
        · cases h
        · simp only [Lib.decFrom, Lib.digitVal]
          rw [if_pos hc]
          exact dec_of_parse r _ u h
    · cases h
theorem dec_all : ∀ (l : List UInt8) (acc : Nat), (∀ c ∈ l, isFig c = true) → ∃ u, Lib.decFrom acc l = some u
  | [], acc, _ => ⟨acc, rfl⟩
  | c :: r, acc, h => by
    have hc : 48 ≤ c.toNat ∧ c.toNat ≤ 57 := of_decide_eq_true (h c (by simp))
    simp only [Lib.decFrom, Lib.digitVal]
    rw [if_pos hc]
    exact dec_all r _ fun x hx => h x (by simp [hx])
theorem atoi_plain {l : List UInt8} (hne : l ≠ []) (hf : ∀ c ∈ l, isFig c = true) : Lib.atoiAll l = Lib.signless (Lib.parseUint10 0 l) := by
  cases l with
  | nil => exact absurd rfl hne
  | cons c r =>
    have hc : 48 ≤ c.toNat ∧ c.toNat ≤ 57 := of_decide_eq_true (hf c (by simp))
    rw [Lib.atoiAll_plain c r (by omega) (by omega)]
    unfold Lib.parseMag
    rw [if_neg (by simp)]
theorem atoi_num {l : List UInt8} (hne : l ≠ []) (hf : ∀ c ∈ l, isFig c = true) {u : Nat} (h : numV l = some u) : Lib.atoiAll l = .ok (u : Int) := by
  unfold numV at h
  split at h
  · rename_i v hv
    split at h
    · rename_i hle
      have e := Option.some.inj h
      subst e
      rw [atoi_plain hne hf, parse_of_dec l 0 v hv (by omega)]
      simp only [Lib.signless]
      rw [if_neg (by omega)]
    · cases h
  · cases h
theorem atoi_none {l : List UInt8} (hne : l ≠ []) (hf : ∀ c ∈ l, isFig c = true) (h : numV l = none) : ∀ v, Lib.atoiAll l ≠ .ok v := by
  intro v hv
  rw [atoi_plain hne hf] at hv
  cases hp : Lib.parseUint10 0 l
  · rename_i u
    rw [hp] at hv
    have hd := dec_of_parse l 0 u hp
    unfold numV at h
    rw [hd] at h
    simp only [Lib.signless] at hv
    split at hv
    · cases hv
    · rename_i hlt
      have : (if u ≤ 9223372036854775807 then some u else none) = none := h
      rw [if_pos (by omega)] at this
      cases this
  · rw [hp] at hv; cases hv
  · rw [hp] at hv; cases hv

theorem atoi_ok (s : ByteArray) (hs : s.size ≤ 281474976710656) (v : Int) (h : Lib.atoiAll s.data.toList = .ok v) (w : World) :
    Calls Tryz.prog 79 #[.string s] w fun e w' => e = .returned (.tuple #[.int .i64 v, .nilIface]) ∧ Below w.heap.size w w' :=
  (Any.strconv_Atoi_ok Tryz.laysC172 s (by omega) v h w).mono fun _ _ ⟨he, hw⟩ => ⟨he, by
    rcases hw with hw | ⟨t, hw⟩
    · exact hw ▸ Below.refl _ _
    · exact hw ▸ Lib.bytesWorld_below _ _ _⟩
theorem atoi_bad (s : ByteArray) (hs : s.size ≤ 281474976710656) (h : ∀ v, Lib.atoiAll s.data.toList ≠ .ok v) (w : World) (hE : EnvL w) :
    Calls Tryz.prog 79 #[.string s] w fun e w' => ∃ (n : Int) (N : Nat), B64 n ∧ e = .returned (.tuple #[.int .i64 n, .iface 129 (.pointer (some ⟨N, 0, none⟩))]) ∧ Below w.heap.size w w' := by
  obtain ⟨⟨t1, p1, h1⟩, ⟨t2, p2, h2⟩⟩ := hE
  cases ha : Lib.atoiAll s.data.toList
  · exact absurd ha (h _)
  · exact (Any.strconv_Atoi_syntax_var Tryz.laysC172 s hs ha t2 p2 w h2).mono fun _ _ ⟨N, he, _, _, hb⟩ => ⟨0, N, by unfold B64; omega, he, hb⟩
  · refine (Any.strconv_Atoi_range_var Tryz.laysC172 s hs ha t1 p1 w h1).mono fun _ _ ⟨N, he, _, _, hb⟩ => ⟨_, N, ?_, he, hb⟩
    unfold B64 Lib.atoiSat
    split <;> (try split) <;> omega

def figV (l : List UInt8) : Value := match numV l with
  | some u => .tuple #[.agg #[.int .i64 1, .int .i64 (u : Int), .int .i64 0, .int .i64 0, .string ⟨#[]⟩, .int .i64 0], .int .i64 (l.length : Int)]
  | none => .tuple #[.agg #[.int .i64 0, .int .i64 0, .int .i64 0, .int .i64 0, .string ⟨#[]⟩, .int .i64 0], .int .i64 0]
set_option maxHeartbeats 1000000 in
set_option maxRecDepth 10000 in
theorem unumber_any (s : ByteArray) (hs : s.size ≤ 281474976710656) (h0 : 0 < s.size) (hf : ∀ c ∈ s.data.toList, isFig c = true) (w : World) (hE : EnvL w) :
    Calls Tryz.prog 54 #[.string s] w fun e w' => e = .returned (figV s.data.toList) ∧ Below w.heap.size w w' := by
  have hne : s.data.toList ≠ [] := by
    intro e
    have := len_of s
    rw [e] at this
    simp at this
    omega
  cases hn : numV s.data.toList with
  | some u =>
    have HV := Lib.hid (show figV s.data.toList = .tuple #[.agg #[.int .i64 1, .int .i64 (u : Int), .int .i64 0, .int .i64 0, .string ⟨#[]⟩, .int .i64 0], .int .i64 (s.size : Int)] from by unfold figV; rw [hn, len_of])
    have H1 := Lib.hid (atoi_ok s hs u (atoi_num hne hf hn))
    clear hn hf hne hE h0
    go_enter Tryz.func54, Tryz.ntmps54
    go_wp2_with fail
    refine (H1.out _).mono ?_; rintro e w1 ⟨rfl, b1⟩
    have k10 := keep_fresh b1 0 (v := .int .i64 0) rfl
    have k11 := keep_fresh b1 1 (v := .int .i64 0) rfl
    have k12 := keep_fresh b1 2 (v := .int .i64 0) rfl
    have k13 := keep_fresh b1 3 (v := .int .i64 0) rfl
    have k14 := keep_fresh b1 4 (v := .string ⟨#[]⟩) rfl
    have k15 := keep_fresh b1 5 (v := .int .i64 0) rfl
    have f10 := fresh_frozen b1 0
    have f11 := fresh_frozen b1 1
    have f12 := fresh_frozen b1 2
    have f13 := fresh_frozen b1 3
    have f14 := fresh_frozen b1 4
    have f15 := fresh_frozen b1 5
    have h1 : Below w.heap.size w w1 := ((Below.refl _ _).alloc (Nat.le_refl _) _).trans (b1.mono (by simp))
    have z1 : w.heap.size < w1.heap.size := by have := b1.size; simp at this; omega
    clear b1
    go_wp2_with fail
    exact bodyPost_ret (v := .tuple #[.agg #[.int .i64 1, .int .i64 (u : Int), .int .i64 0, .int .i64 0, .string ⟨#[]⟩, .int .i64 0], .int .i64 (s.size : Int)]) (by simp [results, Tryz.results54, go_sem, k10, k11, k12, k13, k14, k15]) rfl ⟨by rw [HV.out], by
      repeat' (first | (with_reducible exact h1) | (with_reducible refine Below.alloc ?_ ?_ _) | (with_reducible refine Below.setCell ?_ ?_ _))
      all_goals (first | (simp; done) | (simpa using h1.size))⟩
  | none =>
    have HV := Lib.hid (show figV s.data.toList = .tuple #[.agg #[.int .i64 0, .int .i64 0, .int .i64 0, .int .i64 0, .string ⟨#[]⟩, .int .i64 0], .int .i64 0] from by unfold figV; rw [hn])
    have H1 := Lib.hid (atoi_bad s hs (atoi_none hne hf hn))
    have HE := Lib.hid hE
    clear hn hf hne hE h0
    go_enter Tryz.func54, Tryz.ntmps54
    go_wp2_with fail
    refine (H1.out _ (HE.out.below ((Below.refl _ _).alloc (Nat.le_refl _) _))).mono ?_; rintro e w1 ⟨n, N, hn, rfl, b1⟩
    have k10 := keep_fresh b1 0 (v := .int .i64 0) rfl
    have k11 := keep_fresh b1 1 (v := .int .i64 0) rfl
    have k12 := keep_fresh b1 2 (v := .int .i64 0) rfl
    have k13 := keep_fresh b1 3 (v := .int .i64 0) rfl
    have k14 := keep_fresh b1 4 (v := .string ⟨#[]⟩) rfl
    have k15 := keep_fresh b1 5 (v := .int .i64 0) rfl
    have f10 := fresh_frozen b1 0
    have f11 := fresh_frozen b1 1
    have f12 := fresh_frozen b1 2
    have f13 := fresh_frozen b1 3
    have f14 := fresh_frozen b1 4
    have f15 := fresh_frozen b1 5
    have h1 : Below w.heap.size w w1 := ((Below.refl _ _).alloc (Nat.le_refl _) _).trans (b1.mono (by simp))
    have z1 : w.heap.size < w1.heap.size := by have := b1.size; simp at this; omega
    clear b1
    go_wp2_with fail
    exact bodyPost_ret (v := .tuple #[.agg #[.int .i64 0, .int .i64 0, .int .i64 0, .int .i64 0, .string ⟨#[]⟩, .int .i64 0], .int .i64 0]) (by simp [results, Tryz.results54, go_sem, k10, k11, k12, k13, k14, k15]) rfl ⟨by rw [HV.out], by
      repeat' (first | (with_reducible exact h1) | (with_reducible refine Below.alloc ?_ ?_ _) | (with_reducible refine Below.setCell ?_ ?_ _))
      all_goals (first | (simp; done) | (simpa using h1.size))⟩
end Go.Proofs.YtahdlijkohmdfaaGreatDoor
namespace Go.Proofs.YtahdlijkohmdfaaGreatDoor
open Go.RowKit

set_option maxHeartbeats 400000 in
theorem uword_at (s : ByteArray) (w : World) (b0 b1 b2 b3 b4 : Bool) (h0 : (s.toList == [73, 70]) = b0) (h1 : (s.toList == [83, 85, 77]) = b1) (h2 : (s.toList == [77, 73, 78]) = b2) (h3 : (s.toList == [77, 65, 88]) = b3) (h4 : (s.toList == [67, 79, 85, 78, 84]) = b4) :
    Calls Tryz.prog 81 #[.string s] w fun e w' => e = .returned (.bool (b0 || b1 || b2 || b3 || b4)) ∧ w = w' := by
  cases b0 with
  | true =>
    go_enter Tryz.func81, Tryz.ntmps81
    go_wp2_with fail
    go_ret
    exact ⟨rfl, rfl⟩
  | false =>
    cases b1 with
    | true =>
      go_enter Tryz.func81, Tryz.ntmps81
      go_wp2_with fail
      go_ret
      exact ⟨rfl, rfl⟩
    | false =>
      cases b2 <;> cases b3 <;> cases b4
      all_goals
        go_enter Tryz.func81, Tryz.ntmps81
        go_wp2_with fail
        go_ret
        exact ⟨rfl, rfl⟩
theorem uword_any (s : ByteArray) (w : World) :
    Calls Tryz.prog 81 #[.string s] w fun e w' => e = .returned (.bool (wordB s.data.toList)) ∧ w = w' :=
  (uword_at s w _ _ _ _ _ rfl rfl rfl rfl rfl).mono fun _ _ ⟨he, hb⟩ => ⟨he.trans (ret_bool (by rw [ByteArray.toList_eq]; rfl)), hb⟩

def namV (l : List UInt8) : Value :=
  if prE l = 0 then .tuple #[.agg #[.int .i64 2, .int .i64 0, .int .i64 (prC l), .int .i64 (prR l), .string ⟨#[]⟩, .int .i64 0], .int .i64 (l.length : Int)]
  else if prE l = 4 then .tuple #[.agg #[.int .i64 3, .int .i64 0, .int .i64 0, .int .i64 0, .string ⟨#[]⟩, .int .i64 0], .int .i64 (l.length : Int)]
  else if wordB l = true then .tuple #[.agg #[.int .i64 4, .int .i64 0, .int .i64 0, .int .i64 0, .string ⟨l.toArray⟩, .int .i64 0], .int .i64 (l.length : Int)]
  else .tuple #[.agg #[.int .i64 0, .int .i64 0, .int .i64 0, .int .i64 0, .string ⟨#[]⟩, .int .i64 0], .int .i64 0]
theorem string_list (s : ByteArray) : (⟨s.data.toList.toArray⟩ : ByteArray) = s := rfl
set_option maxHeartbeats 1000000 in
set_option maxRecDepth 10000 in
theorem uname_any (s : ByteArray) (hs : s.size ≤ 9223372036854775807) (w : World) :
    Calls Tryz.prog 57 #[.string s] w fun e w' => e = .returned (namV s.data.toList) ∧ Below w.heap.size w w' := by
  have H1 := Lib.hid (pparse_any s hs)
  have HW := Lib.hid (uword_any s)
  have hl := len_of s
  by_cases h0 : prE s.data.toList = 0
  · skip
    have HV := Lib.hid (show namV s.data.toList = .tuple #[.agg #[.int .i64 2, .int .i64 0, .int .i64 (prC s.data.toList), .int .i64 (prR s.data.toList), .string ⟨#[]⟩, .int .i64 0], .int .i64 (s.size : Int)] from by unfold namV; rw [if_pos h0, hl])
    clear hl
    generalize prC s.data.toList = C at *
    generalize prR s.data.toList = R at *
    generalize prE s.data.toList = E at *
    have d0 : (E == 0) = true := by rw [beq_iff_eq]; exact h0
    clear h0
    go_enter Tryz.func57, Tryz.ntmps57
    go_wp2_with fail
    refine (H1.out _).mono ?_; rintro e w1 ⟨rfl, b1⟩
    have k10 := keep_fresh b1 0 (v := .int .i64 0) rfl
    have k11 := keep_fresh b1 1 (v := .int .i64 0) rfl
    have k12 := keep_fresh b1 2 (v := .int .i64 0) rfl
    have k13 := keep_fresh b1 3 (v := .int .i64 0) rfl
    have k14 := keep_fresh b1 4 (v := .string ⟨#[]⟩) rfl
    have k15 := keep_fresh b1 5 (v := .int .i64 0) rfl
    have f10 := fresh_frozen b1 0
    have f11 := fresh_frozen b1 1
    have f12 := fresh_frozen b1 2
    have f13 := fresh_frozen b1 3
    have f14 := fresh_frozen b1 4
    have f15 := fresh_frozen b1 5
    have h1 : Below w.heap.size w w1 := ((Below.refl _ _).alloc (Nat.le_refl _) _).trans (b1.mono (by simp))
    have z1 : w.heap.size < w1.heap.size := by have := b1.size; simp at this; omega
    clear b1
    go_wp2_with fail
    exact bodyPost_ret (v := .tuple #[.agg #[.int .i64 2, .int .i64 0, .int .i64 C, .int .i64 R, .string ⟨#[]⟩, .int .i64 0], .int .i64 (s.size : Int)]) (by simp [results, Tryz.results57, go_sem, k10, k11, k12, k13, k14, k15, z1]) rfl ⟨by rw [HV.out], by
      repeat' (first | (with_reducible exact h1) | (with_reducible refine Below.alloc ?_ ?_ _) | (with_reducible refine Below.setCell ?_ ?_ _))
      all_goals (first | (simp; done) | (simpa using h1.size))⟩
  · by_cases h4 : prE s.data.toList = 4
    · skip
      have HV := Lib.hid (show namV s.data.toList = .tuple #[.agg #[.int .i64 3, .int .i64 0, .int .i64 0, .int .i64 0, .string ⟨#[]⟩, .int .i64 0], .int .i64 (s.size : Int)] from by unfold namV; rw [if_neg h0, if_pos h4, hl])
      clear hl
      generalize prC s.data.toList = C at *
      generalize prR s.data.toList = R at *
      generalize prE s.data.toList = E at *
      have d0 : (E == 0) = false := by rw [beq_eq_false_iff_ne]; exact h0
      have d4 : (E == 4) = true := by rw [beq_iff_eq]; exact h4
      clear h0 h4
      go_enter Tryz.func57, Tryz.ntmps57
      go_wp2_with fail
      refine (H1.out _).mono ?_; rintro e w1 ⟨rfl, b1⟩
      have k10 := keep_fresh b1 0 (v := .int .i64 0) rfl
      have k11 := keep_fresh b1 1 (v := .int .i64 0) rfl
      have k12 := keep_fresh b1 2 (v := .int .i64 0) rfl
      have k13 := keep_fresh b1 3 (v := .int .i64 0) rfl
      have k14 := keep_fresh b1 4 (v := .string ⟨#[]⟩) rfl
      have k15 := keep_fresh b1 5 (v := .int .i64 0) rfl
      have f10 := fresh_frozen b1 0
      have f11 := fresh_frozen b1 1
      have f12 := fresh_frozen b1 2
      have f13 := fresh_frozen b1 3
      have f14 := fresh_frozen b1 4
      have f15 := fresh_frozen b1 5
      have h1 : Below w.heap.size w w1 := ((Below.refl _ _).alloc (Nat.le_refl _) _).trans (b1.mono (by simp))
      have z1 : w.heap.size < w1.heap.size := by have := b1.size; simp at this; omega
      clear b1
      go_wp2_with fail
      exact bodyPost_ret (v := .tuple #[.agg #[.int .i64 3, .int .i64 0, .int .i64 0, .int .i64 0, .string ⟨#[]⟩, .int .i64 0], .int .i64 (s.size : Int)]) (by simp [results, Tryz.results57, go_sem, k10, k11, k12, k13, k14, k15, z1]) rfl ⟨by rw [HV.out], by
        repeat' (first | (with_reducible exact h1) | (with_reducible refine Below.alloc ?_ ?_ _) | (with_reducible refine Below.setCell ?_ ?_ _))
        all_goals (first | (simp; done) | (simpa using h1.size))⟩
    · cases hw : wordB s.data.toList with
      | true =>
        have HV := Lib.hid (show namV s.data.toList = .tuple #[.agg #[.int .i64 4, .int .i64 0, .int .i64 0, .int .i64 0, .string s, .int .i64 0], .int .i64 (s.size : Int)] from by unfold namV; rw [if_neg h0, if_neg h4, if_pos hw, hl, string_list])
        clear hl
        rw [hw] at HW
        generalize prC s.data.toList = C at *
        generalize prR s.data.toList = R at *
        generalize prE s.data.toList = E at *
        have d0 : (E == 0) = false := by rw [beq_eq_false_iff_ne]; exact h0
        have d4 : (E == 4) = false := by rw [beq_eq_false_iff_ne]; exact h4
        clear h0 h4 hw
        go_enter Tryz.func57, Tryz.ntmps57
        go_wp2_with fail
        refine (H1.out _).mono ?_; rintro e w1 ⟨rfl, b1⟩
        have k10 := keep_fresh b1 0 (v := .int .i64 0) rfl
        have k11 := keep_fresh b1 1 (v := .int .i64 0) rfl
        have k12 := keep_fresh b1 2 (v := .int .i64 0) rfl
        have k13 := keep_fresh b1 3 (v := .int .i64 0) rfl
        have k14 := keep_fresh b1 4 (v := .string ⟨#[]⟩) rfl
        have k15 := keep_fresh b1 5 (v := .int .i64 0) rfl
        have f10 := fresh_frozen b1 0
        have f11 := fresh_frozen b1 1
        have f12 := fresh_frozen b1 2
        have f13 := fresh_frozen b1 3
        have f14 := fresh_frozen b1 4
        have f15 := fresh_frozen b1 5
        have h1 : Below w.heap.size w w1 := ((Below.refl _ _).alloc (Nat.le_refl _) _).trans (b1.mono (by simp))
        have z1 : w.heap.size < w1.heap.size := by have := b1.size; simp at this; omega
        clear b1
        go_wp2_with fail
        refine (HW.out _).mono ?_; rintro e v1 ⟨rfl, rfl⟩
        go_wp2_with fail
        exact bodyPost_ret (v := .tuple #[.agg #[.int .i64 4, .int .i64 0, .int .i64 0, .int .i64 0, .string s, .int .i64 0], .int .i64 (s.size : Int)]) (by simp [results, Tryz.results57, go_sem, k10, k11, k12, k13, k14, k15, z1]) rfl ⟨by rw [HV.out], by
          repeat' (first | (with_reducible exact h1) | (with_reducible refine Below.alloc ?_ ?_ _) | (with_reducible refine Below.setCell ?_ ?_ _))
          all_goals (first | (simp; done) | (simpa using h1.size))⟩
      | false =>
        have HV := Lib.hid (show namV s.data.toList = .tuple #[.agg #[.int .i64 0, .int .i64 0, .int .i64 0, .int .i64 0, .string ⟨#[]⟩, .int .i64 0], .int .i64 0] from by unfold namV; rw [if_neg h0, if_neg h4, if_neg (by rw [hw]; decide)])
        clear hl
        rw [hw] at HW
        generalize prC s.data.toList = C at *
        generalize prR s.data.toList = R at *
        generalize prE s.data.toList = E at *
        have d0 : (E == 0) = false := by rw [beq_eq_false_iff_ne]; exact h0
        have d4 : (E == 4) = false := by rw [beq_eq_false_iff_ne]; exact h4
        clear h0 h4 hw
        go_enter Tryz.func57, Tryz.ntmps57
        go_wp2_with fail
        refine (H1.out _).mono ?_; rintro e w1 ⟨rfl, b1⟩
        have k10 := keep_fresh b1 0 (v := .int .i64 0) rfl
        have k11 := keep_fresh b1 1 (v := .int .i64 0) rfl
        have k12 := keep_fresh b1 2 (v := .int .i64 0) rfl
        have k13 := keep_fresh b1 3 (v := .int .i64 0) rfl
        have k14 := keep_fresh b1 4 (v := .string ⟨#[]⟩) rfl
        have k15 := keep_fresh b1 5 (v := .int .i64 0) rfl
        have f10 := fresh_frozen b1 0
        have f11 := fresh_frozen b1 1
        have f12 := fresh_frozen b1 2
        have f13 := fresh_frozen b1 3
        have f14 := fresh_frozen b1 4
        have f15 := fresh_frozen b1 5
        have h1 : Below w.heap.size w w1 := ((Below.refl _ _).alloc (Nat.le_refl _) _).trans (b1.mono (by simp))
        have z1 : w.heap.size < w1.heap.size := by have := b1.size; simp at this; omega
        clear b1
        go_wp2_with fail
        refine (HW.out _).mono ?_; rintro e v1 ⟨rfl, rfl⟩
        go_wp2_with fail
        exact bodyPost_ret (v := .tuple #[.agg #[.int .i64 0, .int .i64 0, .int .i64 0, .int .i64 0, .string ⟨#[]⟩, .int .i64 0], .int .i64 0]) (by simp [results, Tryz.results57, go_sem, k10, k11, k12, k13, k14, k15, z1]) rfl ⟨by rw [HV.out], by
          repeat' (first | (with_reducible exact h1) | (with_reducible refine Below.alloc ?_ ?_ _) | (with_reducible refine Below.setCell ?_ ?_ _))
          all_goals (first | (simp; done) | (simpa using h1.size))⟩
end Go.Proofs.YtahdlijkohmdfaaGreatDoor
namespace Go.Proofs.YtahdlijkohmdfaaGreatDoor
open Go.RowKit

def markS : ByteArray := ⟨#[43, 45, 42, 47, 40, 41, 44, 58, 61]⟩
theorem markS_low : ∀ b ∈ markS.data.toList, b.toNat < 128 := by decide
theorem encode_size (r : Int) (hv : Utf8.valid r = true) (h1 : 128 ≤ r) (h2 : r < 2048) : (Utf8.encode r).size = 2 := by
  have a1 : ¬ r.toNat < 128 := by omega
  have a2 : r.toNat < 2048 := by omega
  unfold Utf8.encode
  simp only [hv, if_true, a1, a2, if_false]
  rfl
theorem encode_two (r : Int) (h1 : 128 ≤ r) (h2 : r < 256) : (Utf8.encode r).size = 2 ∧ ∀ h : 1 < (Utf8.encode r).size, 128 ≤ ((Utf8.encode r)[1]'h).toNat := by
  have hv : Utf8.valid r = true := by rw [validRune_eq]; exact decide_eq_true (.inl ⟨by omega, by omega⟩)
  have hs := encode_size r hv h1 (by omega)
  refine ⟨hs, fun h => ?_⟩
  have E3 := (encode_facts r hv h1).2.2 (by omega)
  have e : (Utf8.encode r).size - 1 = 1 := by omega
  simpa only [e] using E3
set_option maxRecDepth 100000 in
theorem index_none (c : UInt8) (h : 128 ≤ c.toNat) (a e : Nat) : Lib.indexByte (markS.extract a e).data.toList c = -1 := by
  rw [← Lib.firstIdx_eq]
  exact firstIdx_ascii markS a e c markS_low h
set_option maxHeartbeats 400000 in
theorem uvalid_any (c : Nat) (h2 : c < 55296) (w : World) :
    Calls Tryz.prog 100 #[.int .i32 (c : Int)] w fun e w' => e = .returned (.bool true) ∧ w = w' := by
  have d0 : decide ((0 : Int) ≤ (c : Int)) = true := decide_eq_true (by omega)
  have d1 : decide ((c : Int) < 55296) = true := decide_eq_true (by omega)
  clear h2
  go_enter Tryz.func100, Tryz.ntmps100
  go_wp2_with fail
  go_ret
  exact ⟨rfl, rfl⟩
theorem uindexbyte (s : ByteArray) (c : Int) (w : World) :
    Calls Tryz.prog 99 #[.string s, .int .u8 c] w fun e w' => e = .returned (.int .i64 (Lib.indexByte s.data.toList c.toNat.toUInt8)) ∧ w' = w :=
  Any.strings_IndexByte { Tryz.lays151 with } s c w
theorem uindexbyte_none (b : UInt8) (h : 128 ≤ b.toNat) (a e : Nat) (w : World) :
    Calls Tryz.prog 99 #[.string (ByteArray.extract ⟨#[43, 45, 42, 47, 40, 41, 44, 58, 61]⟩ a e), .int .u8 (b.toNat : Int)] w fun en w' => en = .returned (.int .i64 (-1)) ∧ w = w' :=
  (uindexbyte _ _ w).mono fun _ _ ⟨he, hw⟩ => ⟨he.trans (ret_int (by
    have e1 : ((b.toNat : Int)).toNat.toUInt8 = b := by simp
    rw [e1]
    exact index_none b h a e)), hw.symm⟩
set_option maxHeartbeats 1000000 in
set_option maxRecDepth 1000000 in
theorem uindex_high (c : Nat) (h1 : 128 ≤ c) (h2 : c < 256) (w : World) :
    Calls Tryz.prog 83 #[.string ⟨#[43, 45, 42, 47, 40, 41, 44, 58, 61]⟩, .int .i32 (c : Int)] w fun e w' => e = .returned (.int .i64 (-1)) ∧ Below w.heap.size w w' := by
  obtain ⟨E1, E2⟩ := encode_two c (by omega) (by omega)
  have HV := Lib.hid (uvalid_any c (by omega))
  have d0 : decide ((0 : Int) ≤ (c : Int)) = true := decide_eq_true (by omega)
  have d1 : decide ((c : Int) < 128) = false := decide_eq_false (by omega)
  have d2 : ((c : Int) == 65533) = false := by rw [beq_eq_false_iff_ne]; omega
  clear h1 h2
  have hcv : ∀ w, (convert 21 9 (.int .i32 (c : Int))).run Tryz.prog w = .ok (.string (Utf8.encode (c : Int))) w := fun w => run_convert_int_string w _ _ _ _ (by kernel_rfl) (by kernel_rfl)
  generalize Utf8.encode (c : Int) = RS at *
  have g1 : 1 < RS.size := by omega
  have n1 : (((((⟨#[43, 45, 42, 47, 40, 41, 44, 58, 61]⟩ : ByteArray)[1]'(by decide)).toNat : Int)) != ((RS[1]'g1).toNat : Int)) = true := by
    have := E2 g1
    rw [bne_iff_ne]
    show (45 : Int) ≠ _
    omega
  have HN := Lib.hid (uindexbyte_none (RS[1]'g1) (E2 g1))
  clear E2
  go_enter Tryz.func83, Tryz.ntmps83
  go_wp2_with fail
  refine (HV.out _).mono ?_; rintro e w1 ⟨rfl, rfl⟩
  go_wp2_with fail
  go_step3
  go_wp2_with fail
  go_loopw [9, 10] (fun vi vf wr => vi = .int .i64 1 ∧ vf = .int .i64 0 ∧ wr = w) (fun _ _ _ => 0)
  case atStart => exact ⟨rfl, rfl, rfl⟩
  case round =>
    obtain ⟨rfl, rfl, rfl⟩ := hrel
    go_wp2_with fail
    go_step3
    go_wp2_with fail
    go_quiet (fail)
    go_wp2_with fail
    go_region_with ((go_at_call 99; refine (HN.out _ _ _).mono ?_; rintro e w1 ⟨rfl, rfl⟩))
    all_goals
      go_wp2_with fail
      simp (zetaDelta := true) only [Exit.inBlock, Exit.noGoto_ret, Exit.then]
      go_ret
      exact ⟨rfl, below_drewN (Below.refl _ _) _⟩

def isMrk (c : UInt8) : Bool := decide (0 ≤ Lib.indexByte [43, 45, 42, 47, 40, 41, 44, 58, 61] c)
set_option maxHeartbeats 400000 in
theorem ucontains_high (c : Nat) (h1 : 128 ≤ c) (h2 : c < 256) (w : World) :
    Calls Tryz.prog 60 #[.string ⟨#[43, 45, 42, 47, 40, 41, 44, 58, 61]⟩, .int .i32 (c : Int)] w fun e w' => e = .returned (.bool false) ∧ Below w.heap.size w w' := by
  have H := Lib.hid (uindex_high c h1 h2)
  clear h1 h2
  go_enter Tryz.func60, Tryz.ntmps60
  go_wp2_with fail
  refine (H.out _).mono ?_; rintro e w1 ⟨rfl, b1⟩
  go_wp2_with fail
  go_ret
  exact ⟨rfl, b1⟩
theorem ucontains_any (c : UInt8) (w : World) :
    Calls Tryz.prog 60 #[.string ⟨#[43, 45, 42, 47, 40, 41, 44, 58, 61]⟩, .int .i32 (c.toNat : Int)] w fun e w' => e = .returned (.bool (isMrk c)) ∧ Below w.heap.size w w' := by
  by_cases h : c.toNat < 128
  · refine (Any.strings_ContainsRune_ascii Tryz.lays151 _ (c.toNat : Int) w (by omega) (by omega)).mono fun e w' ⟨he, hw⟩ => ⟨he.trans (ret_bool ?_), hw ▸ Below.refl _ _⟩
    have e1 : ((c.toNat : Int)).toNat.toUInt8 = c := by simp
    rw [e1]
    rfl
  · refine (ucontains_high c.toNat (by omega) c.toNat_lt w).mono fun e w' ⟨he, hw⟩ => ⟨he.trans (ret_bool ?_), hw⟩
    have h9 := index_none c (by omega) 0 9
    have e0 : (markS.extract 0 9).data.toList = [43, 45, 42, 47, 40, 41, 44, 58, 61] := by decide
    rw [e0] at h9
    unfold isMrk
    rw [h9]
    rfl
theorem mrk_iff (c : UInt8) : isMrk c = true ↔ c = 43 ∨ c = 45 ∨ c = 42 ∨ c = 47 ∨ c = 40 ∨ c = 41 ∨ c = 44 ∨ c = 58 ∨ c = 61 := by
  unfold isMrk
  rw [← Lib.contains_iff_indexByte]
  simp
theorem uprefix_any (s p : ByteArray) (w : World) :
    Calls Tryz.prog 59 #[.string s, .string p] w fun e w' => e = .returned (.bool (p.data.toList.isPrefixOf s.data.toList)) ∧ w = w' :=
  (Any.strings_HasPrefix Tryz.lays99 s p w).mono fun _ _ ⟨he, hw⟩ => ⟨he, hw.symm⟩
end Go.Proofs.YtahdlijkohmdfaaGreatDoor
