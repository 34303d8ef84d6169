/- lexer's own calls: the token that figures are, the one that a name is. -/
import Derived.Test.YtjfmmnebhmlkeaaDoorLsA
import Derived.Test.YtjfmmnebhmlkeaaDoorPlJ
import Derived.Test.YtjfmmnebhmlkeaaDoorShelfL
import Derived.Test.YtjfmmnebhmlkeaaDoorEnvS
import Derived.Lib.AtoiErrMem
namespace Go.Proofs.YtjfmmnebhmlkeaaDoor
open Go.RowKit

/-- what is parsed is what its figures say -/
theorem dec_of_parse : ∀ (l : List UInt8) (acc u : Nat), Lib.parseUint10 acc l = .ok u → Lib.decFrom acc l = some u
  | [], acc, u, h => by simp only [Lib.parseUint10] at h; injection h with h; subst h; rfl
  | c :: r, acc, u, h => by
    simp only [Lib.parseUint10] at h
    split at h
    · rename_i hc
      split at h
      · cases h
      · split at h
        · cases h
        · simp only [Lib.decFrom, Lib.digitVal]
          rw [if_pos hc]
          exact dec_of_parse r _ u h
    · cases h
theorem dec_all : ∀ (l : List UInt8) (acc : Nat), (∀ c ∈ l, isFig c = true) → ∃ u, Lib.decFrom acc l = some u
  | [], acc, _ => ⟨acc, rfl⟩
  | c :: r, acc, h => by
    have hc : 48 ≤ c.toNat ∧ c.toNat ≤ 57 := of_decide_eq_true (h c (by simp))
    simp only [Lib.decFrom, Lib.digitVal]
    rw [if_pos hc]
    exact dec_all r _ fun x hx => h x (by simp [hx])
theorem atoi_plain {l : List UInt8} (hne : l ≠ []) (hf : ∀ c ∈ l, isFig c = true) : Lib.atoiAll l = Lib.signless (Lib.parseUint10 0 l) := by
  cases l with
  | nil => exact absurd rfl hne
  | cons c r =>
    have hc : 48 ≤ c.toNat ∧ c.toNat ≤ 57 := of_decide_eq_true (hf c (by simp))
    rw [Lib.atoiAll_plain c r (by omega) (by omega)]
    unfold Lib.parseMag
    rw [if_neg (by simp)]
theorem atoi_num {l : List UInt8} (hne : l ≠ []) (hf : ∀ c ∈ l, isFig c = true) {u : Nat} (h : numV l = some u) : Lib.atoiAll l = .ok (u : Int) := by
  unfold numV at h
  split at h
  · rename_i v hv
    split at h
    · rename_i hle
      have e := Option.some.inj h
      subst e
      rw [atoi_plain hne hf, parse_of_dec l 0 v hv (by omega)]
      simp only [Lib.signless]
      rw [if_neg (by omega)]
    · cases h
  · cases h
theorem atoi_none {l : List UInt8} (hne : l ≠ []) (hf : ∀ c ∈ l, isFig c = true) (h : numV l = none) : ∀ v, Lib.atoiAll l ≠ .ok v := by
  intro v hv
  rw [atoi_plain hne hf] at hv
  cases hp : Lib.parseUint10 0 l
  · rename_i u
    rw [hp] at hv
    have hd := dec_of_parse l 0 u hp
    unfold numV at h
    rw [hd] at h
    simp only [Lib.signless] at hv
    split at hv
    · cases hv
    · rename_i hlt
      have : (if u ≤ 9223372036854775807 then some u else none) = none := h
      rw [if_pos (by omega)] at this
      cases this
  · rw [hp] at hv; cases hv
  · rw [hp] at hv; cases hv

theorem atoi_ok (s : ByteArray) (hs : s.size ≤ 281474976710656) (v : Int) (h : Lib.atoiAll s.data.toList = .ok v) (w : World) :
    Calls Tryd.prog 26 #[.string s] w fun e w' => e = .returned (.tuple #[.int .i64 v, .nilIface]) ∧ Below w.heap.size w w' :=
  (Any.strconv_Atoi_ok Tryd.laysC172 s (by omega) v h w).mono fun _ _ ⟨he, hw⟩ => ⟨he, by
    rcases hw with hw | ⟨t, hw⟩
    · exact hw ▸ Below.refl _ _
    · exact hw ▸ Lib.bytesWorld_below _ _ _⟩
theorem atoi_bad (s : ByteArray) (hs : s.size ≤ 281474976710656) (h : ∀ v, Lib.atoiAll s.data.toList ≠ .ok v) (w : World) (hE : EnvL w) :
    Calls Tryd.prog 26 #[.string s] w fun e w' => ∃ (n : Int) (N : Nat), B64 n ∧ e = .returned (.tuple #[.int .i64 n, .iface 74 (.pointer (some ⟨N, 0, none⟩))]) ∧ Below w.heap.size w w' := by
  obtain ⟨⟨t1, p1, h1⟩, ⟨t2, p2, h2⟩⟩ := hE
  cases ha : Lib.atoiAll s.data.toList
  · exact absurd ha (h _)
  · exact (Any.strconv_Atoi_syntax_var Tryd.laysC172 s hs ha t2 p2 w h2).mono fun _ _ ⟨N, he, _, _, hb⟩ => ⟨0, N, by unfold B64; omega, he, hb⟩
  · refine (Any.strconv_Atoi_range_var Tryd.laysC172 s hs ha t1 p1 w h1).mono fun _ _ ⟨N, he, _, _, hb⟩ => ⟨_, N, ?_, he, hb⟩
    unfold B64 Lib.atoiSat
    split <;> (try split) <;> omega

/-- a token at no place, and its length -/
def figV (l : List UInt8) : Value := match numV l with
  | some u => .tuple #[.agg #[.int .i64 1, .int .i64 (u : Int), .int .i64 0, .int .i64 0, .string ⟨#[]⟩, .int .i64 0], .int .i64 (l.length : Int)]
  | none => .tuple #[.agg #[.int .i64 0, .int .i64 0, .int .i64 0, .int .i64 0, .string ⟨#[]⟩, .int .i64 0], .int .i64 0]
set_option maxHeartbeats 1000000 in
set_option maxRecDepth 10000 in
theorem unumber_any (s : ByteArray) (hs : s.size ≤ 281474976710656) (h0 : 0 < s.size) (hf : ∀ c ∈ s.data.toList, isFig c = true) (w : World) (hE : EnvL w) :
    Calls Tryd.prog 13 #[.string s] w fun e w' => e = .returned (figV s.data.toList) ∧ Below w.heap.size w w' := by
  have hne : s.data.toList ≠ [] := by
    intro e
    have := len_of s
    rw [e] at this
    simp at this
    omega
  cases hn : numV s.data.toList with
  | some u =>
    have HV := Lib.hid (show figV s.data.toList = .tuple #[.agg #[.int .i64 1, .int .i64 (u : Int), .int .i64 0, .int .i64 0, .string ⟨#[]⟩, .int .i64 0], .int .i64 (s.size : Int)] from by unfold figV; rw [hn, len_of])
    have H1 := Lib.hid (atoi_ok s hs u (atoi_num hne hf hn))
    clear hn hf hne hE h0
    go_enter Tryd.func13, Tryd.ntmps13
    go_wp2_with fail
    refine (H1.out _).mono ?_; rintro e w1 ⟨rfl, b1⟩
    have k10 := keep_fresh b1 0 (v := .int .i64 0) rfl
    have k11 := keep_fresh b1 1 (v := .int .i64 0) rfl
    have k12 := keep_fresh b1 2 (v := .int .i64 0) rfl
    have k13 := keep_fresh b1 3 (v := .int .i64 0) rfl
    have k14 := keep_fresh b1 4 (v := .string ⟨#[]⟩) rfl
    have k15 := keep_fresh b1 5 (v := .int .i64 0) rfl
    have f10 := fresh_frozen b1 0
    have f11 := fresh_frozen b1 1
    have f12 := fresh_frozen b1 2
    have f13 := fresh_frozen b1 3
    have f14 := fresh_frozen b1 4
    have f15 := fresh_frozen b1 5
    have h1 : Below w.heap.size w w1 := ((Below.refl _ _).alloc (Nat.le_refl _) _).trans (b1.mono (by simp))
    have z1 : w.heap.size < w1.heap.size := by have := b1.size; simp at this; omega
    clear b1
    go_wp2_with fail
    exact bodyPost_ret (v := .tuple #[.agg #[.int .i64 1, .int .i64 (u : Int), .int .i64 0, .int .i64 0, .string ⟨#[]⟩, .int .i64 0], .int .i64 (s.size : Int)]) (by simp [results, Tryd.results13, go_sem, k10, k11, k12, k13, k14, k15]) rfl ⟨by rw [HV.out], by
      repeat' (first | (with_reducible exact h1) | (with_reducible refine Below.alloc ?_ ?_ _) | (with_reducible refine Below.setCell ?_ ?_ _))
      all_goals (first | (simp; done) | (simpa using h1.size))⟩
  | none =>
    have HV := Lib.hid (show figV s.data.toList = .tuple #[.agg #[.int .i64 0, .int .i64 0, .int .i64 0, .int .i64 0, .string ⟨#[]⟩, .int .i64 0], .int .i64 0] from by unfold figV; rw [hn])
    have H1 := Lib.hid (atoi_bad s hs (atoi_none hne hf hn))
    have HE := Lib.hid hE
    clear hn hf hne hE h0
    go_enter Tryd.func13, Tryd.ntmps13
    go_wp2_with fail
    refine (H1.out _ (HE.out.below ((Below.refl _ _).alloc (Nat.le_refl _) _))).mono ?_; rintro e w1 ⟨n, N, hn, rfl, b1⟩
    have k10 := keep_fresh b1 0 (v := .int .i64 0) rfl
    have k11 := keep_fresh b1 1 (v := .int .i64 0) rfl
    have k12 := keep_fresh b1 2 (v := .int .i64 0) rfl
    have k13 := keep_fresh b1 3 (v := .int .i64 0) rfl
    have k14 := keep_fresh b1 4 (v := .string ⟨#[]⟩) rfl
    have k15 := keep_fresh b1 5 (v := .int .i64 0) rfl
    have f10 := fresh_frozen b1 0
    have f11 := fresh_frozen b1 1
    have f12 := fresh_frozen b1 2
    have f13 := fresh_frozen b1 3
    have f14 := fresh_frozen b1 4
    have f15 := fresh_frozen b1 5
    have h1 : Below w.heap.size w w1 := ((Below.refl _ _).alloc (Nat.le_refl _) _).trans (b1.mono (by simp))
    have z1 : w.heap.size < w1.heap.size := by have := b1.size; simp at this; omega
    clear b1
    go_wp2_with fail
    exact bodyPost_ret (v := .tuple #[.agg #[.int .i64 0, .int .i64 0, .int .i64 0, .int .i64 0, .string ⟨#[]⟩, .int .i64 0], .int .i64 0]) (by simp [results, Tryd.results13, go_sem, k10, k11, k12, k13, k14, k15]) rfl ⟨by rw [HV.out], by
      repeat' (first | (with_reducible exact h1) | (with_reducible refine Below.alloc ?_ ?_ _) | (with_reducible refine Below.setCell ?_ ?_ _))
      all_goals (first | (simp; done) | (simpa using h1.size))⟩
end Go.Proofs.YtjfmmnebhmlkeaaDoor
