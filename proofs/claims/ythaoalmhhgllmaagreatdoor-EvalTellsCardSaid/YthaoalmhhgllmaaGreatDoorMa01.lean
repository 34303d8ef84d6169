/- Texts joined: Ret, Mem, StA, Pl, VaAa, NumS, NumB, NumC, VaB. -/
import Derived.WalkKit
import Derived.Test.YthaoalmhhgllmaaGreatDoorProg
import Derived.WalkSmall
import Derived.Lib.Hide
import Derived.Lib.AtoiErrMem
import Derived.Deep.CutRange
import Derived.OwnWalk
import Derived.RowKit
import Derived.IntWalk
import Derived.WalkSpells
import Derived.WalkLawsBesides
import Derived.Deep.RegionWith
set_option linter.all false
set_option linter.unusedVariables false
set_option linter.unusedSimpArgs false
namespace Go.Proofs.YthaoalmhhgllmaaGreatDoor
theorem ret_bool {a b : Bool} (h : a = b) : Ending.returned (.bool a) = .returned (.bool b) := by rw [h]
theorem ret_int {a b : Int} (h : a = b) : Ending.returned (.int .i64 a) = .returned (.int .i64 b) := by rw [h]
theorem ret_u64 {a b : Int} (h : a = b) : Ending.returned (.int .u64 a) = .returned (.int .u64 b) := by rw [h]
theorem ret_str {a b : ByteArray} (h : a = b) : Ending.returned (.string a) = .returned (.string b) := by rw [h]
theorem ret_val {a b : Value} (h : a = b) : Ending.returned a = .returned b := by rw [h]
theorem ret_pair {a b : Int} {c d : Bool} (h : a = b) (k : c = d) : Ending.returned (.tuple #[.int .i64 a, .bool c]) = .returned (.tuple #[.int .i64 b, .bool d]) := by rw [h, k]
theorem ret_pair' {a b : Int} {c d : Bool} (h : a = b ∧ c = d) : Ending.returned (.tuple #[.int .i64 a, .bool c]) = .returned (.tuple #[.int .i64 b, .bool d]) := by rw [h.1, h.2]
theorem ret_two {a b c d : Value} (h : a = b) (k : c = d) : Ending.returned (.tuple #[a, c]) = .returned (.tuple #[b, d]) := by rw [h, k]
end Go.Proofs.YthaoalmhhgllmaaGreatDoor
namespace Go.Proofs.YthaoalmhhgllmaaGreatDoor
open Go.RowKit

theorem keep_cell {W w1 : World} (hb : Below W.heap.size W w1) {p : Addr} {v : Value} (h : W.cell? p = some v) : w1.cell? p = some v := by
  rw [hb.cell (Lib.lt_of_cell h)]; exact h
theorem keep_frozen {W w1 : World} (hb : Below W.heap.size W w1) {p : Addr} (hp : p.block < W.heap.size) (h : W.frozen? p = false) : w1.frozen? p = false := by
  rw [hb.frozen hp]; exact h

theorem keep_fresh {W w1 : World} {cs : Array Value} {T : TypeId} (hb : Below (W.alloc (.cells cs T)).heap.size (W.alloc (.cells cs T)) w1) (i : Nat) {v : Value} (h : cs[i]? = some v) : w1.cell? ⟨W.heap.size, i, none⟩ = some v :=
  keep_cell hb (by rw [cell_of_row _ _ i cs T (0, 0) (heap_alloc_new W _)]; exact h)

theorem fresh_frozen {W w1 : World} {cs : Array Value} {T : TypeId} (hb : Below (W.alloc (.cells cs T)).heap.size (W.alloc (.cells cs T)) w1) (i : Nat) : w1.frozen? ⟨W.heap.size, i, none⟩ = false :=
  keep_frozen hb (by simp) (by simp [go_sem])
theorem below_up {W0 W w1 : World} (B : Below W0.heap.size W0 W) (b : Below W.heap.size W w1) : Below W0.heap.size W0 w1 := B.trans (b.mono B.size)
theorem below_alloc {W0 W w1 : World} {o : Obj} (B : Below W0.heap.size W0 W) (b : Below (W.alloc o).heap.size (W.alloc o) w1) : Below W0.heap.size W0 w1 :=
  (B.alloc B.size o).trans (b.mono (by have := B.size; simp; omega))
end Go.Proofs.YthaoalmhhgllmaaGreatDoor
namespace Go.Proofs.YthaoalmhhgllmaaGreatDoor
open Go.RowKit

def SAt (w : World) (g o : Nat) (l : List ByteArray) : Prop := ∀ (i : Nat) (s : ByteArray), l[i]? = some s → w.cell? ⟨g, o + i, none⟩ = some (.string s)
def findS (s : ByteArray) : List ByteArray → Option Nat
  | [] => none
  | t :: r => if s = t then some 0 else (findS s r).map (· + 1)
def idxS (s : ByteArray) (l : List ByteArray) : Int := match findS s l with | some i => (i : Int) | none => -1
theorem find_hit {s : ByteArray} : ∀ {l : List ByteArray} {i : Nat}, (∀ (j : Nat) (t : ByteArray), j < i → l[j]? = some t → s ≠ t) → l[i]? = some s → findS s l = some i
  | [], i, _, h => by simp at h
  | t :: r, 0, _, h => by simp at h; subst h; simp [findS]
  | t :: r, i + 1, hn, h => by
    have h0 := hn 0 t (by omega) rfl
    have := find_hit (l := r) (i := i) (fun j u hj hu => hn (j + 1) u (by omega) (by simpa using hu)) (by simpa using h)
    simp [findS, h0, this]
theorem find_miss {s : ByteArray} : ∀ {l : List ByteArray}, (∀ (j : Nat) (t : ByteArray), j < l.length → l[j]? = some t → s ≠ t) → findS s l = none
  | [], _ => rfl
  | t :: r, hn => by
    have h0 := hn 0 t (by simp) rfl
    have := find_miss (l := r) (fun j u hj hu => hn (j + 1) u (by simp; omega) (by simpa using hu))
    simp [findS, h0, this]
theorem idx_hit {s : ByteArray} {l : List ByteArray} {i : Nat} (hn : ∀ (j : Nat) (t : ByteArray), j < i → l[j]? = some t → s ≠ t) (h : l[i]? = some s) : idxS s l = (i : Int) := by
  unfold idxS; rw [find_hit hn h]
theorem idx_miss {s : ByteArray} {l : List ByteArray} (hn : ∀ (j : Nat) (t : ByteArray), j < l.length → l[j]? = some t → s ≠ t) : idxS s l = -1 := by
  unfold idxS; rw [find_miss hn]
set_option maxHeartbeats 1000000 in
set_option maxRecDepth 10000 in
theorem sindex_any (w : World) (g o cap : Nat) (l : List ByteArray) (s : ByteArray) (hl : l.length ≤ 1000) (h : SAt w g o l) :
    Calls Tryz.prog 127 #[.slice (some ⟨g, o, none⟩) l.length cap, .string s] w fun e w' => e = .returned (.int .i64 (idxS s l)) ∧ w = w' := by
  have H := Lib.hid h
  clear h
  go_enter Tryz.func127, Tryz.ntmps127
  go_wp2_with fail
  go_loopw [8] (fun vi wr => ∃ i : Nat, i ≤ l.length ∧ vi = .int .i64 (i : Int) ∧ wr = w ∧ Hid (∀ (j : Nat) (t : ByteArray), j < i → l[j]? = some t → s ≠ t)) (fun vi _ => l.length - (intOf vi).toNat)
  case atStart => exact ⟨0, Nat.zero_le _, rfl, rfl, Lib.hid fun j t hj => by omega⟩
  case round =>
    obtain ⟨i, hi, rfl, rfl, HN⟩ := hrel
    by_cases hlt : i < l.length
    · have ht : l[i]? = some (l[i]'hlt) := List.getElem?_eq_getElem hlt
      have q := H.out i _ ht
      have HT := Lib.hid ht
      generalize l[i]'hlt = t at *
      clear ht
      by_cases he : s = t
      · subst he
        have he2 : (s.toList == s.toList) = true := by simp
        go_wp2_with fail
        go_ret
        exact ⟨ret_int (idx_hit HN.out HT.out).symm, by first | rfl | trivial⟩
      · have he2 : (s.toList == t.toList) = false := by
          rw [beq_eq_false_iff_ne, ByteArray.toList_eq, ByteArray.toList_eq]
          intro h
          apply he
          obtain ⟨⟨a⟩⟩ := s
          obtain ⟨⟨b⟩⟩ := t
          simp at h
          rw [h]
        go_wp2_with fail
        go_roundw
        case rel => exact ⟨i + 1, by omega, by go_num, by first | rfl | trivial, Lib.hid fun j u hj hu => by
          by_cases hji : j < i
          · exact HN.out j u hji hu
          · obtain rfl : j = i := by omega
            rw [HT.out] at hu; obtain rfl := Option.some.inj hu; exact he⟩
        case measure => simp [intOf]; omega
    · obtain rfl : i = l.length := by omega
      go_wp2_with fail
      go_ret
      exact ⟨ret_int (idx_miss HN.out).symm, by first | rfl | trivial⟩
set_option maxHeartbeats 1000000 in
set_option maxRecDepth 10000 in
theorem scontains_any (w : World) (g o cap : Nat) (l : List ByteArray) (s : ByteArray) (hl : l.length ≤ 1000) (h : SAt w g o l) :
    Calls Tryz.prog 114 #[.slice (some ⟨g, o, none⟩) l.length cap, .string s] w fun e w' => e = .returned (.bool (findS s l).isSome) ∧ w = w' := by
  have H := Lib.hid h
  clear h
  have hB : ∀ b, decide (0 ≤ idxS s l) = b → (findS s l).isSome = b := by
    intro b hb
    subst hb
    unfold idxS
    cases findS s l with
    | none => rfl
    | some i => simp
  have HB := Lib.hid (hB _ rfl)
  clear hB
  go_enter Tryz.func114, Tryz.ntmps114
  go_wp2_with fail
  refine (sindex_any w g o cap l s hl H.out).mono ?_; rintro e w1 ⟨rfl, rfl⟩
  go_wp2_with fail
  go_ret
  exact ⟨ret_bool HB.out.symm, by first | rfl | trivial⟩
def strL : Nat → List ByteArray
  | 0 => [⟨#[60]⟩, ⟨#[60, 61]⟩, ⟨#[61]⟩, ⟨#[60, 62]⟩, ⟨#[62, 61]⟩, ⟨#[62]⟩]
  | 1 => [⟨#[43]⟩, ⟨#[45]⟩]
  | 2 => [⟨#[42]⟩, ⟨#[47]⟩]
  | _ => []
def Strs (R B : Nat) (w : World) : Prop := (R ≠ 0 ∧ 0 < B) ∧ ∀ i : Nat, i < 3 → ∃ g o cap, (g ≠ R ∧ g < B) ∧ w.cell? ⟨0, i, none⟩ = some (.slice (some ⟨g, o, none⟩) (strL i).length cap) ∧ SAt w g o (strL i)
theorem Strs.keep {R B : Nat} {w w' : World} (h : Strs R B w) (hk : ∀ (p : Addr) (v : Value), p.block ≠ R → p.block < B → w.cell? p = some v → w'.cell? p = some v) : Strs R B w' := by
  refine ⟨h.1, fun i hi => ?_⟩
  obtain ⟨g, o, cap, hg, hc, hs⟩ := h.2 i hi
  exact ⟨g, o, cap, hg, hk _ _ (Ne.symm h.1.1) h.1.2 hc, fun j s hj => hk _ _ hg.1 hg.2 (hs j s hj)⟩
def strV (s : ByteArray) : Int := if (findS s (strL 0)).isSome = true then 0 else if (findS s (strL 1)).isSome = true then 1 else if (findS s (strL 2)).isSome = true then 2 else -1
set_option maxHeartbeats 1000000 in
set_option maxRecDepth 10000 in
theorem strength_any (R B : Nat) (w : World) (s : ByteArray) (h : Strs R B w) :
    Calls Tryz.prog 79 #[.string s] w fun e w' => e = .returned (.int .i64 (strV s)) ∧ w = w' := by
  obtain ⟨_, h⟩ := h
  have H := Lib.hid h
  clear h
  go_enter Tryz.func79, Tryz.ntmps79
  go_wp2_with fail
  go_loopw [4] (fun vi wr => ∃ i : Nat, i ≤ 3 ∧ vi = .int .i64 (i : Int) ∧ wr = w ∧ Hid (∀ j : Nat, j < i → (findS s (strL j)).isSome = false)) (fun vi _ => 3 - (intOf vi).toNat)
  case atStart => exact ⟨0, by omega, rfl, rfl, Lib.hid fun j hj => by omega⟩
  case round =>
    obtain ⟨i, hi, rfl, rfl, HN⟩ := hrel
    by_cases hlt : i < 3
    · obtain ⟨g, o, cap, _, hc, hs⟩ := H.out i hlt
      have hll : (strL i).length ≤ 1000 := by
        match i, hlt with
        | 0, _ => decide
        | 1, _ => decide
        | 2, _ => decide
      have HC := Lib.hid (scontains_any wr g o cap (strL i) s hll hs)
      have hV : Hid ((findS s (strL i)).isSome = true → strV s = (i : Int)) := Lib.hid fun h => by
        unfold strV
        match i, hlt, h with
        | 0, _, h => rw [if_pos h]; rfl
        | 1, _, h => rw [if_neg (by rw [HN.out 0 (by omega)]; decide), if_pos h]; rfl
        | 2, _, h => rw [if_neg (by rw [HN.out 0 (by omega)]; decide), if_neg (by rw [HN.out 1 (by omega)]; decide), if_pos h]; rfl
      generalize hb : (findS s (strL i)).isSome = b at *
      have HB := Lib.hid hb
      clear hb hll hs
      cases b with
      | true =>
        go_wp2_with fail
        refine HC.out.mono ?_; rintro e w1 ⟨rfl, rfl⟩
        go_wp2_with fail
        go_ret
        exact ⟨ret_int (hV.out (by first | rfl | trivial)).symm, by first | rfl | trivial⟩
      | false =>
        go_wp2_with fail
        refine HC.out.mono ?_; rintro e w1 ⟨rfl, rfl⟩
        go_wp2_with fail
        go_roundw
        case rel => exact ⟨i + 1, by omega, by go_num, by first | rfl | trivial, Lib.hid fun j hj => by
          by_cases hji : j < i
          · exact HN.out j hji
          · obtain rfl : j = i := by omega
            exact HB.out⟩
        case measure => simp [intOf]; omega
    · obtain rfl : i = 3 := by omega
      have hV : strV s = -1 := by
        unfold strV
        rw [HN.out 0 (by omega), HN.out 1 (by omega), HN.out 2 (by omega)]; rfl
      go_wp2_with fail
      go_ret
      exact ⟨ret_int hV.symm, by first | rfl | trivial⟩
end Go.Proofs.YthaoalmhhgllmaaGreatDoor
namespace Go.Proofs.YthaoalmhhgllmaaGreatDoor
open Go.RowKit

def B64 (n : Int) : Prop := -9223372036854775808 ≤ n ∧ n ≤ 9223372036854775807
def inI (n : Int) : Bool := decide (-9223372036854775808 ≤ n ∧ n ≤ 9223372036854775807)
def keep (x : Bool) (n : Int) : Int := if x = true then n else 0

theorem inI_iff (n : Int) : inI n = true ↔ B64 n := by unfold inI B64; simp
theorem inI_not (n : Int) : inI n = false ↔ ¬ B64 n := by unfold inI B64; simp
theorem bool_iff {x y : Bool} (h : x = true ↔ y = true) : x = y := by cases x <;> cases y <;> simp_all
theorem keep_eq {x y : Bool} {n m : Int} (hx : x = y) (h : y = true → n = m) : keep x n = keep y m := by
  subst hx; unfold keep; split
  · exact h ‹_›
  · rfl
theorem keep_b64 (x : Bool) (n : Int) (h : x = true → B64 n) : B64 (keep x n) := by
  unfold keep; split
  · exact h ‹_›
  · unfold B64; omega
theorem wrap_b64 (n : Int) : B64 (wrap64 n) := by unfold B64 wrap64; omega
theorem wrap_in {n : Int} (h : B64 n) : wrap64 n = n := by unfold B64 at h; unfold wrap64; omega
theorem wrap_of {n : Int} (h : inI n = true) : wrap64 n = n := wrap_in ((inI_iff n).1 h)

theorem add_is (a b : Int) (ha : B64 a) (hb : B64 b) :
    ((!decide (0 < a) || !decide (0 < b) || !decide (wrap64 (a + b) < 0)) && (!decide (a < 0) || !decide (b < 0) || !decide (0 ≤ wrap64 (a + b)))) = inI (a + b) := by
  apply bool_iff
  rw [inI_iff]
  unfold B64 wrap64 at *
  simp only [Bool.and_eq_true, Bool.or_eq_true, Bool.not_eq_true', decide_eq_false_iff_not]
  omega
theorem sub_is (a b : Int) (ha : B64 a) (hb : B64 b) :
    ((!decide (0 ≤ a) || !decide (b < 0) || !decide (wrap64 (a - b) < 0)) && (!decide (a < 0) || !decide (0 < b) || !decide (0 ≤ wrap64 (a - b)))) = inI (a - b) := by
  apply bool_iff
  rw [inI_iff]
  unfold B64 wrap64 at *
  simp only [Bool.and_eq_true, Bool.or_eq_true, Bool.not_eq_true', decide_eq_false_iff_not]
  omega

theorem tdiv_facts (c b : Int) : c = b * (c.tdiv b) + c.tmod b ∧ (0 ≤ c → 0 ≤ c.tmod b) ∧ (c ≤ 0 → c.tmod b ≤ 0) ∧ (0 < b → -b < c.tmod b ∧ c.tmod b < b) ∧ (b < 0 → b < c.tmod b ∧ c.tmod b < -b) := by
  have h1 := Int.mul_tdiv_add_tmod c b
  refine ⟨h1.symm, fun h => Int.tmod_nonneg b h, fun h => ?_, fun h => ?_, fun h => ?_⟩
  · have := Int.tmod_nonneg (a := -c) b (by omega)
    rw [Int.neg_tmod] at this
    omega
  · rcases Int.le_total 0 c with hc | hc
    · have h2 := Int.tmod_nonneg b hc
      have h3 := Int.tmod_lt_of_pos c h
      omega
    · have h2 := Int.tmod_nonneg (a := -c) b (by omega)
      have h3 := Int.tmod_lt_of_pos (-c) h
      rw [Int.neg_tmod] at h2 h3
      omega
  · have hb' : 0 < -b := by omega
    rw [← Int.tmod_neg c b]
    rcases Int.le_total 0 c with hc | hc
    · have h2 := Int.tmod_nonneg (-b) hc
      have h3 := Int.tmod_lt_of_pos c hb'
      omega
    · have h2 := Int.tmod_nonneg (a := -c) (-b) (by omega)
      have h3 := Int.tmod_lt_of_pos (-c) hb'
      rw [Int.neg_tmod] at h2 h3
      omega
theorem tdiv_is (a b : Int) (ha : B64 a) (hb : B64 b) (h0 : b ≠ 0) : (!(a == -9223372036854775808) || !(b == -1)) = inI (a.tdiv b) := by
  obtain ⟨h1, h2, h3, h4, h5⟩ := tdiv_facts a b
  apply bool_iff
  rw [inI_iff]
  simp only [Bool.not_eq_true', Bool.or_eq_true, beq_eq_false_iff_ne]
  generalize a.tdiv b = q at *
  generalize a.tmod b = r at *
  unfold B64 at *
  refine ⟨fun h => ?_, fun h => ?_⟩
  rotate_left
  · revert h
    intro hq
    by_cases h : b = -1
    · subst h; omega
    · omega
  · revert h
    intro hn
    by_cases h : b = -1
    · subst h; omega
    · by_cases h' : b = 1
      · subst h'; omega
      · rcases Int.lt_or_lt_of_ne h0 with hb0 | hb0
        · have : b ≤ -2 := by omega
          constructor
          · apply Int.not_lt.1
            intro hc
            have := Int.mul_le_mul_of_nonpos_right (a := -2) (b := b) (c := q) this (by omega)
            omega
          · apply Int.not_lt.1
            intro hc
            have := Int.mul_le_mul_of_nonneg_right (a := b) (b := -2) (c := q) this (by omega)
            omega
        · have : 2 ≤ b := by omega
          constructor
          · apply Int.not_lt.1
            intro hc
            have := Int.mul_le_mul_of_nonpos_right (a := b) (b := 2) (c := q) this (by omega)
            omega
          · apply Int.not_lt.1
            intro hc
            have := Int.mul_le_mul_of_nonneg_right (a := 2) (b := b) (c := q) this (by omega)
            omega
theorem mul_is (a b : Int) (ha : B64 a) (hb : B64 b) (h0 : b ≠ 0) : (inI ((wrap64 (a * b)).tdiv b) && (keep (inI ((wrap64 (a * b)).tdiv b)) ((wrap64 (a * b)).tdiv b) == a)) = inI (a * b) := by
  apply bool_iff
  rw [Bool.and_eq_true, inI_iff (a * b), beq_iff_eq]
  constructor
  · rintro ⟨h1, h2⟩
    rw [h1] at h2
    have h2' : (wrap64 (a * b)).tdiv b = a := h2
    obtain ⟨g1, g2, g3, g4, g5⟩ := tdiv_facts (wrap64 (a * b)) b
    rw [h2'] at g1
    rw [Int.mul_comm b a] at g1
    have hw := wrap_b64 (a * b)
    have hm : ∃ k : Int, wrap64 (a * b) = a * b + 18446744073709551616 * k := by
      refine ⟨-((a * b + 9223372036854775808) / 18446744073709551616), ?_⟩
      unfold wrap64
      have := Int.emod_add_mul_ediv (a * b + 9223372036854775808) 18446744073709551616
      omega
    obtain ⟨k, hk⟩ := hm
    generalize a * b = p at *
    generalize wrap64 p = c at *
    generalize c.tmod b = r at *
    unfold B64 at *
    omega
  · intro h
    rw [wrap_in h]
    have : (a * b).tdiv b = a := Int.mul_tdiv_cancel a h0
    rw [this]
    have hi := (inI_iff a).2 ha
    exact ⟨hi, by rw [hi]; rfl⟩

def absI (a : Int) : Int := if a < 0 then -a else a
def sgn (m : Bool) (u : Int) : Int := if m = true then -u else u
theorem absI_neg {a : Int} (h : a < 0) : absI a = -a := by unfold absI; rw [if_pos h]
theorem absI_pos {a : Int} (h : ¬ a < 0) : absI a = a := by unfold absI; rw [if_neg h]
theorem absI_bd {a : Int} (ha : B64 a) : 0 ≤ absI a ∧ absI a ≤ 9223372036854775808 := by
  unfold absI B64 at *; split <;> omega
theorem sgn_pos (u : Int) : sgn false u = u := rfl
theorem sgn_neg (u : Int) : sgn true u = -u := rfl
theorem none_is {n : Int} (h : ¬ B64 n) : (0 : Int) = keep (inI n) n ∧ false = inI n := by
  have := (inI_not n).2 h
  rw [this]; exact ⟨rfl, rfl⟩
theorem some_is {n : Int} (h : B64 n) : n = keep (inI n) n ∧ true = inI n := by
  have := (inI_iff n).2 h
  rw [this]; exact ⟨rfl, rfl⟩
theorem tdiv_sgn (a b : Int) : sgn (decide (a < 0) != decide (b < 0)) (absI a / absI b) = a.tdiv b := by
  by_cases h1 : a < 0 <;> by_cases h2 : b < 0
  · rw [absI_neg h1, absI_neg h2, decide_eq_true h1, decide_eq_true h2]
    rw [← Int.tdiv_eq_ediv_of_nonneg (by omega), Int.neg_tdiv, Int.tdiv_neg]; simp [sgn]
  · rw [absI_neg h1, absI_pos h2, decide_eq_true h1, decide_eq_false h2]
    rw [← Int.tdiv_eq_ediv_of_nonneg (by omega), Int.neg_tdiv]; simp [sgn]
  · rw [absI_pos h1, absI_neg h2, decide_eq_false h1, decide_eq_true h2]
    rw [← Int.tdiv_eq_ediv_of_nonneg (by omega), Int.tdiv_neg]; simp [sgn]
  · rw [absI_pos h1, absI_pos h2, decide_eq_false h1, decide_eq_false h2]
    rw [← Int.tdiv_eq_ediv_of_nonneg (by omega)]; simp [sgn]
theorem mul_sgn (a b : Int) : sgn (decide (a < 0) != decide (b < 0)) (absI a * absI b) = a * b := by
  by_cases h1 : a < 0 <;> by_cases h2 : b < 0
  · rw [absI_neg h1, absI_neg h2, decide_eq_true h1, decide_eq_true h2, Int.neg_mul_neg]; simp [sgn]
  · rw [absI_neg h1, absI_pos h2, decide_eq_true h1, decide_eq_false h2, Int.neg_mul]; simp [sgn]
  · rw [absI_pos h1, absI_neg h2, decide_eq_false h1, decide_eq_true h2, Int.mul_neg]; simp [sgn]
  · rw [absI_pos h1, absI_pos h2, decide_eq_false h1, decide_eq_false h2]; simp [sgn]
end Go.Proofs.YthaoalmhhgllmaaGreatDoor
namespace Go.Proofs.YthaoalmhhgllmaaGreatDoor
open Go.RowKit

def tNum (ok : Bool) (n : Int) : Int := if ok = true then n else 0
def tFault (ok : Bool) : Int := if ok = true then 0 else 1
set_option maxHeartbeats 400000 in
theorem vtold_any (n : Int) (ok : Bool) (w : World) :
    Calls Tryz.prog 101 #[.int .i64 n, .bool ok] w fun e w' => e = .returned (.agg #[.int .i64 (tNum ok n), .int .i64 (tFault ok)]) ∧ Below w.heap.size w w' := by
  cases ok
  · go_enter Tryz.func101, Tryz.ntmps101
    go_wp2_with fail
    exact bodyPost_ret (v := .agg #[.int .i64 0, .int .i64 1]) (by simp [results, Tryz.results101, go_sem]) rfl ⟨rfl, (Below.refl _ _).alloc (Nat.le_refl _) _⟩
  · go_enter Tryz.func101, Tryz.ntmps101
    go_wp2_with fail
    exact bodyPost_ret (v := .agg #[.int .i64 n, .int .i64 0]) (by simp [results, Tryz.results101, go_sem]) rfl ⟨rfl, (Below.refl _ _).alloc (Nat.le_refl _) _⟩
def tru (b : Bool) : Int := if b = true then 1 else 0
set_option maxHeartbeats 400000 in
theorem vtruth_any (b : Bool) (w : World) :
    Calls Tryz.prog 106 #[.bool b] w fun e w' => e = .returned (.agg #[.int .i64 (tru b), .int .i64 0]) ∧ Below w.heap.size w w' := by
  cases b
  · go_enter Tryz.func106, Tryz.ntmps106
    go_wp2_with fail
    exact bodyPost_ret (v := .agg #[.int .i64 0, .int .i64 0]) (by simp [results, Tryz.results106, go_sem]) rfl ⟨rfl, (Below.refl _ _).alloc (Nat.le_refl _) _⟩
  · go_enter Tryz.func106, Tryz.ntmps106
    go_wp2_with fail
    exact bodyPost_ret (v := .agg #[.int .i64 1, .int .i64 0]) (by simp [results, Tryz.results106, go_sem]) rfl ⟨rfl, (Below.refl _ _).alloc (Nat.le_refl _) _⟩
end Go.Proofs.YthaoalmhhgllmaaGreatDoor
namespace Go.Proofs.YthaoalmhhgllmaaGreatDoor
open Go.RowKit



set_option maxHeartbeats 400000 in
theorem size_any (a : Int) (ha : B64 a) (w : World) :
    Calls Tryz.prog 120 #[.int .i64 a] w fun e w' => e = .returned (.int .u64 (absI a)) ∧ w = w' := by
  by_cases h : a < 0
  · go_enter Tryz.func120, Tryz.ntmps120
    go_wp2
    go_ret
    exact ⟨ret_u64 (by rw [absI_neg h]; unfold B64 at ha; simp only [IntKind.wrap_u64, wrap64]; omega), rfl⟩
  · go_enter Tryz.func120, Tryz.ntmps120
    go_wp2
    go_ret
    exact ⟨ret_u64 (by rw [absI_pos (by omega)]; unfold B64 at ha; simp only [IntKind.wrap_u64]; omega), rfl⟩
end Go.Proofs.YthaoalmhhgllmaaGreatDoor
namespace Go.Proofs.YthaoalmhhgllmaaGreatDoor
open Go.RowKit

set_option maxHeartbeats 400000 in
theorem signed_any (u : Int) (m : Bool) (h0 : 0 ≤ u) (w : World) :
    Calls Tryz.prog 122 #[.int .u64 u, .bool m] w fun e w' => e = .returned (.tuple #[.int .i64 (keep (inI (sgn m u)) (sgn m u)), .bool (inI (sgn m u))]) ∧ w = w' := by
  cases m
  · rw [sgn_pos]
    go_enter Tryz.func122, Tryz.ntmps122
    go_wp2
    · go_ret2
      exact ⟨ret_pair' (none_is (by unfold B64; omega)), rfl⟩
    · go_ret2
      exact ⟨ret_pair' (some_is (by unfold B64; omega)), rfl⟩
  · rw [sgn_neg]
    go_enter Tryz.func122, Tryz.ntmps122
    go_wp2
    · go_ret2
      have h : u = 9223372036854775808 := by simpa using ‹(u == 9223372036854775808) = true›
      subst h
      exact ⟨ret_pair' (some_is (by unfold B64; omega)), rfl⟩
    · go_ret2
      have h : u ≠ 9223372036854775808 := by simpa using ‹(u == 9223372036854775808) = false›
      exact ⟨ret_pair' (none_is (by unfold B64; omega)), rfl⟩
    · go_ret2
      exact ⟨ret_pair' (some_is (by unfold B64; omega)), rfl⟩
set_option maxHeartbeats 400000 in
theorem both_any (x y : Int) (m : Bool) (hx : 0 ≤ x) (hx' : x ≤ 9223372036854775808) (hy : 0 ≤ y) (hy' : y ≤ 9223372036854775808) (w : World) :
    Calls Tryz.prog 121 #[.int .u64 x, .int .u64 y, .bool m] w fun e w' => e = .returned (.tuple #[.int .i64 (keep (inI (sgn m (x + y))) (sgn m (x + y))), .bool (inI (sgn m (x + y)))]) ∧ w = w' := by
  by_cases h : 9223372036854775808 - y < x
  · go_enter Tryz.func121, Tryz.ntmps121
    go_wp2_with fail
    go_ret2
    exact ⟨ret_pair' (none_is (by unfold sgn B64; split <;> omega)), rfl⟩
  · go_enter Tryz.func121, Tryz.ntmps121
    go_wp2_with fail
    refine (signed_any _ _ (by omega) _).mono ?_
    rintro e w1 ⟨rfl, rfl⟩
    go_wp2_with fail
    go_ret2
    exact ⟨rfl, rfl⟩


set_option maxHeartbeats 2000000 in
theorem radd_any (a b : Int) (ha : B64 a) (hb : B64 b) (w : World) :
    Calls Tryz.prog 102 #[.int .i64 a, .int .i64 b] w fun e w' => e = .returned (.tuple #[.int .i64 (keep (inI (a + b)) (a + b)), .bool (inI (a + b))]) ∧ w = w' := by
  obtain ⟨a0, a1⟩ := absI_bd ha
  obtain ⟨b0, b1⟩ := absI_bd hb
  have HA := Lib.hid (size_any a ha)
  have HB := Lib.hid (size_any b hb)
  clear ha hb
  by_cases h1 : a < 0 <;> by_cases h2 : b < 0
  · have hs : sgn true (absI a + absI b) = a + b := by rw [sgn_neg, absI_neg h1, absI_neg h2]; omega
    rw [← hs]
    have HC := Lib.hid (both_any (absI a) (absI b) true a0 a1 b0 b1)
    have d1 : decide (a < 0) = true := decide_eq_true h1
    have d2 : decide (b < 0) = true := decide_eq_true h2
    clear hs h1 h2
    go_enter Tryz.func102, Tryz.ntmps102
    go_wp2_with fail
    refine (HA.out _).mono ?_; rintro e w1 ⟨rfl, rfl⟩
    go_wp2_with fail
    refine (HB.out _).mono ?_; rintro e w1 ⟨rfl, rfl⟩
    go_wp2_with fail
    refine (HC.out _).mono ?_; rintro e w1 ⟨rfl, rfl⟩
    go_wp2_with fail
    go_ret2
    exact ⟨rfl, rfl⟩
  · by_cases h3 : absI b ≤ absI a
    · have hs : sgn true (absI a - absI b) = a + b := by rw [sgn_neg, absI_neg h1, absI_pos h2]; omega
      rw [← hs]
      have HC := Lib.hid (signed_any (absI a - absI b) true (by omega))
      have d1 : decide (a < 0) = true := decide_eq_true h1
      have d2 : decide (b < 0) = false := decide_eq_false h2
      clear hs h1 h2
      go_enter Tryz.func102, Tryz.ntmps102
      go_wp2_with fail
      refine (HA.out _).mono ?_; rintro e w1 ⟨rfl, rfl⟩
      go_wp2_with fail
      refine (HB.out _).mono ?_; rintro e w1 ⟨rfl, rfl⟩
      go_wp2_with fail
      refine (HC.out _).mono ?_; rintro e w1 ⟨rfl, rfl⟩
      go_wp2_with fail
      go_ret2
      exact ⟨rfl, rfl⟩
    · have hs : sgn false (absI b - absI a) = a + b := by rw [sgn_pos, absI_neg h1, absI_pos h2]; omega
      rw [← hs]
      have HC := Lib.hid (signed_any (absI b - absI a) false (by omega))
      have d1 : decide (a < 0) = true := decide_eq_true h1
      have d2 : decide (b < 0) = false := decide_eq_false h2
      clear hs h1 h2
      go_enter Tryz.func102, Tryz.ntmps102
      go_wp2_with fail
      refine (HA.out _).mono ?_; rintro e w1 ⟨rfl, rfl⟩
      go_wp2_with fail
      refine (HB.out _).mono ?_; rintro e w1 ⟨rfl, rfl⟩
      go_wp2_with fail
      refine (HC.out _).mono ?_; rintro e w1 ⟨rfl, rfl⟩
      go_wp2_with fail
      go_ret2
      exact ⟨rfl, rfl⟩
  · by_cases h3 : absI b ≤ absI a
    · have hs : sgn false (absI a - absI b) = a + b := by rw [sgn_pos, absI_pos h1, absI_neg h2]; omega
      rw [← hs]
      have HC := Lib.hid (signed_any (absI a - absI b) false (by omega))
      have d1 : decide (a < 0) = false := decide_eq_false h1
      have d2 : decide (b < 0) = true := decide_eq_true h2
      clear hs h1 h2
      go_enter Tryz.func102, Tryz.ntmps102
      go_wp2_with fail
      refine (HA.out _).mono ?_; rintro e w1 ⟨rfl, rfl⟩
      go_wp2_with fail
      refine (HB.out _).mono ?_; rintro e w1 ⟨rfl, rfl⟩
      go_wp2_with fail
      refine (HC.out _).mono ?_; rintro e w1 ⟨rfl, rfl⟩
      go_wp2_with fail
      go_ret2
      exact ⟨rfl, rfl⟩
    · have hs : sgn true (absI b - absI a) = a + b := by rw [sgn_neg, absI_pos h1, absI_neg h2]; omega
      rw [← hs]
      have HC := Lib.hid (signed_any (absI b - absI a) true (by omega))
      have d1 : decide (a < 0) = false := decide_eq_false h1
      have d2 : decide (b < 0) = true := decide_eq_true h2
      clear hs h1 h2
      go_enter Tryz.func102, Tryz.ntmps102
      go_wp2_with fail
      refine (HA.out _).mono ?_; rintro e w1 ⟨rfl, rfl⟩
      go_wp2_with fail
      refine (HB.out _).mono ?_; rintro e w1 ⟨rfl, rfl⟩
      go_wp2_with fail
      refine (HC.out _).mono ?_; rintro e w1 ⟨rfl, rfl⟩
      go_wp2_with fail
      go_ret2
      exact ⟨rfl, rfl⟩
  · have hs : sgn false (absI a + absI b) = a + b := by rw [sgn_pos, absI_pos h1, absI_pos h2]
    rw [← hs]
    have HC := Lib.hid (both_any (absI a) (absI b) false a0 a1 b0 b1)
    have d1 : decide (a < 0) = false := decide_eq_false h1
    have d2 : decide (b < 0) = false := decide_eq_false h2
    clear hs h1 h2
    go_enter Tryz.func102, Tryz.ntmps102
    go_wp2_with fail
    refine (HA.out _).mono ?_; rintro e w1 ⟨rfl, rfl⟩
    go_wp2_with fail
    refine (HB.out _).mono ?_; rintro e w1 ⟨rfl, rfl⟩
    go_wp2_with fail
    refine (HC.out _).mono ?_; rintro e w1 ⟨rfl, rfl⟩
    go_wp2_with fail
    go_ret2
    exact ⟨rfl, rfl⟩

set_option maxHeartbeats 2000000 in
theorem rsub_any (a b : Int) (ha : B64 a) (hb : B64 b) (w : World) :
    Calls Tryz.prog 103 #[.int .i64 a, .int .i64 b] w fun e w' => e = .returned (.tuple #[.int .i64 (keep (inI (a - b)) (a - b)), .bool (inI (a - b))]) ∧ w = w' := by
  obtain ⟨a0, a1⟩ := absI_bd ha
  obtain ⟨b0, b1⟩ := absI_bd hb
  have HA := Lib.hid (size_any a ha)
  have HB := Lib.hid (size_any b hb)
  clear ha hb
  by_cases h1 : a < 0 <;> by_cases h2 : b < 0
  · by_cases h3 : absI b ≤ absI a
    · have hs : sgn true (absI a - absI b) = a - b := by rw [sgn_neg, absI_neg h1, absI_neg h2]; omega
      rw [← hs]
      have HC := Lib.hid (signed_any (absI a - absI b) true (by omega))
      have d1 : decide (a < 0) = true := decide_eq_true h1
      have d3 : decide (0 ≤ a) = false := decide_eq_false (by omega)
      have d2 : decide (b < 0) = true := decide_eq_true h2
      clear hs h1 h2
      go_enter Tryz.func103, Tryz.ntmps103
      go_wp2_with fail
      refine (HA.out _).mono ?_; rintro e w1 ⟨rfl, rfl⟩
      go_wp2_with fail
      refine (HB.out _).mono ?_; rintro e w1 ⟨rfl, rfl⟩
      go_wp2_with fail
      refine (HC.out _).mono ?_; rintro e w1 ⟨rfl, rfl⟩
      go_wp2_with fail
      go_ret2
      exact ⟨rfl, rfl⟩
    · have hs : sgn false (absI b - absI a) = a - b := by rw [sgn_pos, absI_neg h1, absI_neg h2]; omega
      rw [← hs]
      have HC := Lib.hid (signed_any (absI b - absI a) false (by omega))
      have d1 : decide (a < 0) = true := decide_eq_true h1
      have d3 : decide (0 ≤ a) = false := decide_eq_false (by omega)
      have d2 : decide (b < 0) = true := decide_eq_true h2
      clear hs h1 h2
      go_enter Tryz.func103, Tryz.ntmps103
      go_wp2_with fail
      refine (HA.out _).mono ?_; rintro e w1 ⟨rfl, rfl⟩
      go_wp2_with fail
      refine (HB.out _).mono ?_; rintro e w1 ⟨rfl, rfl⟩
      go_wp2_with fail
      refine (HC.out _).mono ?_; rintro e w1 ⟨rfl, rfl⟩
      go_wp2_with fail
      go_ret2
      exact ⟨rfl, rfl⟩
  · have hs : sgn true (absI a + absI b) = a - b := by rw [sgn_neg, absI_neg h1, absI_pos h2]; omega
    rw [← hs]
    have HC := Lib.hid (both_any (absI a) (absI b) true a0 a1 b0 b1)
    have d1 : decide (a < 0) = true := decide_eq_true h1
    have d3 : decide (0 ≤ a) = false := decide_eq_false (by omega)
    have d2 : decide (b < 0) = false := decide_eq_false h2
    clear hs h1 h2
    go_enter Tryz.func103, Tryz.ntmps103
    go_wp2_with fail
    refine (HA.out _).mono ?_; rintro e w1 ⟨rfl, rfl⟩
    go_wp2_with fail
    refine (HB.out _).mono ?_; rintro e w1 ⟨rfl, rfl⟩
    go_wp2_with fail
    refine (HC.out _).mono ?_; rintro e w1 ⟨rfl, rfl⟩
    go_wp2_with fail
    go_ret2
    exact ⟨rfl, rfl⟩
  · have hs : sgn false (absI a + absI b) = a - b := by rw [sgn_pos, absI_pos h1, absI_neg h2]; omega
    rw [← hs]
    have HC := Lib.hid (both_any (absI a) (absI b) false a0 a1 b0 b1)
    have d1 : decide (a < 0) = false := decide_eq_false h1
    have d3 : decide (0 ≤ a) = true := decide_eq_true (by omega)
    have d2 : decide (b < 0) = true := decide_eq_true h2
    clear hs h1 h2
    go_enter Tryz.func103, Tryz.ntmps103
    go_wp2_with fail
    refine (HA.out _).mono ?_; rintro e w1 ⟨rfl, rfl⟩
    go_wp2_with fail
    refine (HB.out _).mono ?_; rintro e w1 ⟨rfl, rfl⟩
    go_wp2_with fail
    refine (HC.out _).mono ?_; rintro e w1 ⟨rfl, rfl⟩
    go_wp2_with fail
    go_ret2
    exact ⟨rfl, rfl⟩
  · by_cases h3 : absI b ≤ absI a
    · have hs : sgn false (absI a - absI b) = a - b := by rw [sgn_pos, absI_pos h1, absI_pos h2]
      rw [← hs]
      have HC := Lib.hid (signed_any (absI a - absI b) false (by omega))
      have d1 : decide (a < 0) = false := decide_eq_false h1
      have d3 : decide (0 ≤ a) = true := decide_eq_true (by omega)
      have d2 : decide (b < 0) = false := decide_eq_false h2
      clear hs h1 h2
      go_enter Tryz.func103, Tryz.ntmps103
      go_wp2_with fail
      refine (HA.out _).mono ?_; rintro e w1 ⟨rfl, rfl⟩
      go_wp2_with fail
      refine (HB.out _).mono ?_; rintro e w1 ⟨rfl, rfl⟩
      go_wp2_with fail
      refine (HC.out _).mono ?_; rintro e w1 ⟨rfl, rfl⟩
      go_wp2_with fail
      go_ret2
      exact ⟨rfl, rfl⟩
    · have hs : sgn true (absI b - absI a) = a - b := by rw [sgn_neg, absI_pos h1, absI_pos h2]; omega
      rw [← hs]
      have HC := Lib.hid (signed_any (absI b - absI a) true (by omega))
      have d1 : decide (a < 0) = false := decide_eq_false h1
      have d3 : decide (0 ≤ a) = true := decide_eq_true (by omega)
      have d2 : decide (b < 0) = false := decide_eq_false h2
      clear hs h1 h2
      go_enter Tryz.func103, Tryz.ntmps103
      go_wp2_with fail
      refine (HA.out _).mono ?_; rintro e w1 ⟨rfl, rfl⟩
      go_wp2_with fail
      refine (HB.out _).mono ?_; rintro e w1 ⟨rfl, rfl⟩
      go_wp2_with fail
      refine (HC.out _).mono ?_; rintro e w1 ⟨rfl, rfl⟩
      go_wp2_with fail
      go_ret2
      exact ⟨rfl, rfl⟩
end Go.Proofs.YthaoalmhhgllmaaGreatDoor
namespace Go.Proofs.YthaoalmhhgllmaaGreatDoor
open Go.RowKit

set_option maxHeartbeats 400000 in
theorem rdiv_zero (a : Int) (w : World) :
    Calls Tryz.prog 105 #[.int .i64 a, .int .i64 0] w fun e w' => e = .returned (.tuple #[.int .i64 0, .bool false]) ∧ w = w' := by
  go_enter Tryz.func105, Tryz.ntmps105
  go_wp2
  go_ret2
  exact ⟨rfl, rfl⟩
set_option maxHeartbeats 400000 in
theorem rdiv_any (a b : Int) (ha : B64 a) (hb : B64 b) (h0 : b ≠ 0) (w : World) :
    Calls Tryz.prog 105 #[.int .i64 a, .int .i64 b] w fun e w' => e = .returned (.tuple #[.int .i64 (keep (inI (a.tdiv b)) (a.tdiv b)), .bool (inI (a.tdiv b))]) ∧ w = w' := by
  obtain ⟨a0, a1⟩ := absI_bd ha
  obtain ⟨b0, b1⟩ := absI_bd hb
  have b2 : 0 < absI b := by unfold absI; split <;> omega
  have HA := Lib.hid (size_any a ha)
  have HB := Lib.hid (size_any b hb)
  have hz : (b == 0) = false := by simpa using h0
  rw [← tdiv_sgn a b]
  have HC := Lib.hid (signed_any (absI a / absI b) (decide (a < 0) != decide (b < 0)) (Int.ediv_nonneg a0 b0))
  clear ha hb
  go_enter Tryz.func105, Tryz.ntmps105
  go_wp2_with fail
  refine (HA.out _).mono ?_; rintro e w1 ⟨rfl, rfl⟩
  go_wp2_with fail
  refine (HB.out _).mono ?_; rintro e w1 ⟨rfl, rfl⟩
  go_wp2_with fail
  refine (HC.out _).mono ?_; rintro e w1 ⟨rfl, rfl⟩
  go_wp2_with fail
  go_ret2
  exact ⟨rfl, rfl⟩

set_option maxHeartbeats 1000000 in
theorem rmul_any (a b : Int) (ha : B64 a) (hb : B64 b) (w : World) :
    Calls Tryz.prog 104 #[.int .i64 a, .int .i64 b] w fun e w' => e = .returned (.tuple #[.int .i64 (keep (inI (a * b)) (a * b)), .bool (inI (a * b))]) ∧ w = w' := by
  obtain ⟨a0, a1⟩ := absI_bd ha
  obtain ⟨b0, b1⟩ := absI_bd hb
  have HA := Lib.hid (size_any a ha)
  have HB := Lib.hid (size_any b hb)
  by_cases h : absI a ≠ 0 ∧ 9223372036854775808 / absI a < absI b
  · have hn : ¬ B64 (a * b) := by
      rw [← mul_sgn a b]
      obtain ⟨h1, h2⟩ := h
      have := (Int.ediv_lt_iff_lt_mul (by omega)).1 h2
      rw [Int.mul_comm] at this
      generalize absI a * absI b = p at this
      unfold B64 sgn; split <;> omega
    have HN := Lib.hid (none_is hn)
    obtain ⟨h1, h2⟩ := h
    have h3 : 0 < absI a := by omega
    clear ha hb hn
    go_enter Tryz.func104, Tryz.ntmps104
    go_wp2_with fail
    refine (HA.out _).mono ?_; rintro e w1 ⟨rfl, rfl⟩
    go_wp2_with fail
    refine (HB.out _).mono ?_; rintro e w1 ⟨rfl, rfl⟩
    go_wp2_with fail
    go_ret2
    exact ⟨ret_pair' HN.out, rfl⟩
  · have p0 : 0 ≤ absI a * absI b := Int.mul_nonneg a0 b0
    have p1 : absI a * absI b ≤ 9223372036854775808 := by
      by_cases hx : absI a = 0
      · rw [hx]; omega
      · have hy : absI b ≤ 9223372036854775808 / absI a := by omega
        have := (Int.le_ediv_iff_mul_le (by omega)).1 hy
        rwa [Int.mul_comm] at this
    have HC := Lib.hid (signed_any (absI a * absI b) (decide (a < 0) != decide (b < 0)) p0)
    rw [← mul_sgn a b]
    clear ha hb
    by_cases hx : absI a = 0
    · have h3 : (absI a != 0) = false := by simpa using hx
      clear h hx
      go_enter Tryz.func104, Tryz.ntmps104
      go_wp2_with fail
      refine (HA.out _).mono ?_; rintro e w1 ⟨rfl, rfl⟩
      go_wp2_with fail
      refine (HB.out _).mono ?_; rintro e w1 ⟨rfl, rfl⟩
      go_wp2_with fail
      refine (HC.out _).mono ?_; rintro e w1 ⟨rfl, rfl⟩
      go_wp2_with fail
      go_ret2
      exact ⟨rfl, rfl⟩
    · have h3 : (absI a != 0) = true := by simpa using hx
      have h4 : ¬ 9223372036854775808 / absI a < absI b := fun h5 => h ⟨hx, h5⟩
      have h5 : 0 < absI a := by omega
      clear h hx
      go_enter Tryz.func104, Tryz.ntmps104
      go_wp2_with fail
      refine (HA.out _).mono ?_; rintro e w1 ⟨rfl, rfl⟩
      go_wp2_with fail
      refine (HB.out _).mono ?_; rintro e w1 ⟨rfl, rfl⟩
      go_wp2_with fail
      refine (HC.out _).mono ?_; rintro e w1 ⟨rfl, rfl⟩
      go_wp2_with fail
      go_ret2
      exact ⟨rfl, rfl⟩
end Go.Proofs.YthaoalmhhgllmaaGreatDoor
namespace Go.Proofs.YthaoalmhhgllmaaGreatDoor
open Go.RowKit

def vTold (n : Int) : Int × Int := (tNum (inI n) (keep (inI n) n), tFault (inI n))
def vOp (l : List UInt8) (a b : Int) : Option (Int × Int) :=
  if l = [43] then some (vTold (a + b)) else if l = [45] then some (vTold (a - b)) else if l = [42] then some (vTold (a * b))
  else if l = [47] then some (if b = 0 then (0, 2) else vTold (a.tdiv b))
  else if l = [60] then some (tru (decide (a < b)), 0) else if l = [60, 61] then some (tru (decide (a ≤ b)), 0) else if l = [61] then some (tru (a == b), 0)
  else if l = [60, 62] then some (tru (a != b), 0) else if l = [62, 61] then some (tru (decide (b ≤ a)), 0) else if l = [62] then some (tru (decide (b < a)), 0) else none
def oNum (o : Option (Int × Int)) : Int := match o with | some p => p.1 | none => 0
def oFault (o : Option (Int × Int)) : Int := match o with | some p => p.2 | none => 0
def NumbersC (s : ByteArray) (a b : Int) : Prop := ∀ w, Calls Tryz.prog 65 #[.string s, .int .i64 a, .int .i64 b] w fun e w' =>
  e = .returned (.tuple #[.agg #[.int .i64 (oNum (vOp s.data.toList a b)), .int .i64 (oFault (vOp s.data.toList a b))], .bool (vOp s.data.toList a b).isSome]) ∧ Below w.heap.size w w'

set_option maxHeartbeats 1000000 in
theorem num_add (a b : Int) (ha : B64 a) (hb : B64 b) : NumbersC ⟨#[43]⟩ a b := by
  intro w
  have H := Lib.hid (radd_any a b ha hb)
  have ho : vOp [43] a b = some (vTold (a + b)) := rfl
  rw [show (⟨#[43]⟩ : ByteArray).data.toList = [43] from rfl, ho]
  clear ho ha hb
  have hz1 : True := trivial

  go_enter Tryz.func65, Tryz.ntmps65
  go_wp2_with fail
  refine (H.out _).mono ?_; rintro e w1 ⟨rfl, rfl⟩
  go_wp2_with fail
  refine (vtold_any _ _ _).mono ?_; rintro e w1 ⟨rfl, B⟩
  have k0 := keep_cell B (p := ⟨w.heap.size, 0, none⟩) (v := .int .i64 0) (by simp [go_sem])
  have k1 := keep_cell B (p := ⟨w.heap.size, 1, none⟩) (v := .int .i64 0) (by simp [go_sem])
  have f0 := keep_frozen B (p := ⟨w.heap.size, 0, none⟩) (by simp) (by simp [go_sem])
  have f1 := keep_frozen B (p := ⟨w.heap.size, 1, none⟩) (by simp) (by simp [go_sem])
  have h1 : Below w.heap.size w w1 := ((Below.refl _ _).alloc (Nat.le_refl _) _).trans (B.mono (by simp))
  clear B
  go_wp2_with fail
  exact bodyPost_ret (v := .tuple #[.agg #[.int .i64 (tNum (inI (a + b)) (keep (inI (a + b)) (a + b))), .int .i64 (tFault (inI (a + b)))], .bool true]) (by simp [results, Tryz.results65, go_sem, k0, k1]) rfl
    ⟨rfl, (h1.setCell (by simp) _).setCell (by simp) _⟩

set_option maxHeartbeats 1000000 in
theorem num_sub (a b : Int) (ha : B64 a) (hb : B64 b) : NumbersC ⟨#[45]⟩ a b := by
  intro w
  have H := Lib.hid (rsub_any a b ha hb)
  have ho : vOp [45] a b = some (vTold (a - b)) := rfl
  rw [show (⟨#[45]⟩ : ByteArray).data.toList = [45] from rfl, ho]
  clear ho ha hb
  have hz1 : True := trivial

  go_enter Tryz.func65, Tryz.ntmps65
  go_wp2_with fail
  refine (H.out _).mono ?_; rintro e w1 ⟨rfl, rfl⟩
  go_wp2_with fail
  refine (vtold_any _ _ _).mono ?_; rintro e w1 ⟨rfl, B⟩
  have k0 := keep_cell B (p := ⟨w.heap.size, 0, none⟩) (v := .int .i64 0) (by simp [go_sem])
  have k1 := keep_cell B (p := ⟨w.heap.size, 1, none⟩) (v := .int .i64 0) (by simp [go_sem])
  have f0 := keep_frozen B (p := ⟨w.heap.size, 0, none⟩) (by simp) (by simp [go_sem])
  have f1 := keep_frozen B (p := ⟨w.heap.size, 1, none⟩) (by simp) (by simp [go_sem])
  have h1 : Below w.heap.size w w1 := ((Below.refl _ _).alloc (Nat.le_refl _) _).trans (B.mono (by simp))
  clear B
  go_wp2_with fail
  exact bodyPost_ret (v := .tuple #[.agg #[.int .i64 (tNum (inI (a - b)) (keep (inI (a - b)) (a - b))), .int .i64 (tFault (inI (a - b)))], .bool true]) (by simp [results, Tryz.results65, go_sem, k0, k1]) rfl
    ⟨rfl, (h1.setCell (by simp) _).setCell (by simp) _⟩

set_option maxHeartbeats 1000000 in
theorem num_mul (a b : Int) (ha : B64 a) (hb : B64 b) : NumbersC ⟨#[42]⟩ a b := by
  intro w
  have H := Lib.hid (rmul_any a b ha hb)
  have ho : vOp [42] a b = some (vTold (a * b)) := rfl
  rw [show (⟨#[42]⟩ : ByteArray).data.toList = [42] from rfl, ho]
  clear ho ha hb
  have hz1 : True := trivial

  go_enter Tryz.func65, Tryz.ntmps65
  go_wp2_with fail
  refine (H.out _).mono ?_; rintro e w1 ⟨rfl, rfl⟩
  go_wp2_with fail
  refine (vtold_any _ _ _).mono ?_; rintro e w1 ⟨rfl, B⟩
  have k0 := keep_cell B (p := ⟨w.heap.size, 0, none⟩) (v := .int .i64 0) (by simp [go_sem])
  have k1 := keep_cell B (p := ⟨w.heap.size, 1, none⟩) (v := .int .i64 0) (by simp [go_sem])
  have f0 := keep_frozen B (p := ⟨w.heap.size, 0, none⟩) (by simp) (by simp [go_sem])
  have f1 := keep_frozen B (p := ⟨w.heap.size, 1, none⟩) (by simp) (by simp [go_sem])
  have h1 : Below w.heap.size w w1 := ((Below.refl _ _).alloc (Nat.le_refl _) _).trans (B.mono (by simp))
  clear B
  go_wp2_with fail
  exact bodyPost_ret (v := .tuple #[.agg #[.int .i64 (tNum (inI (a * b)) (keep (inI (a * b)) (a * b))), .int .i64 (tFault (inI (a * b)))], .bool true]) (by simp [results, Tryz.results65, go_sem, k0, k1]) rfl
    ⟨rfl, (h1.setCell (by simp) _).setCell (by simp) _⟩

set_option maxHeartbeats 1000000 in
theorem num_div (a b : Int) (ha : B64 a) (hb : B64 b) (hz : b ≠ 0) : NumbersC ⟨#[47]⟩ a b := by
  intro w
  have H := Lib.hid (rdiv_any a b ha hb hz)
  have ho : vOp [47] a b = some (vTold (a.tdiv b)) := by show some (if b = 0 then _ else _) = _; rw [if_neg hz]
  rw [show (⟨#[47]⟩ : ByteArray).data.toList = [47] from rfl, ho]
  clear ho ha hb
  have hz1 : (b == 0) = false := by rw [beq_eq_false_iff_ne]; exact hz
  clear hz
  go_enter Tryz.func65, Tryz.ntmps65
  go_wp2_with fail
  refine (H.out _).mono ?_; rintro e w1 ⟨rfl, rfl⟩
  go_wp2_with fail
  refine (vtold_any _ _ _).mono ?_; rintro e w1 ⟨rfl, B⟩
  have k0 := keep_cell B (p := ⟨w.heap.size, 0, none⟩) (v := .int .i64 0) (by simp [go_sem])
  have k1 := keep_cell B (p := ⟨w.heap.size, 1, none⟩) (v := .int .i64 0) (by simp [go_sem])
  have f0 := keep_frozen B (p := ⟨w.heap.size, 0, none⟩) (by simp) (by simp [go_sem])
  have f1 := keep_frozen B (p := ⟨w.heap.size, 1, none⟩) (by simp) (by simp [go_sem])
  have h1 : Below w.heap.size w w1 := ((Below.refl _ _).alloc (Nat.le_refl _) _).trans (B.mono (by simp))
  clear B
  go_wp2_with fail
  exact bodyPost_ret (v := .tuple #[.agg #[.int .i64 (tNum (inI (a.tdiv b)) (keep (inI (a.tdiv b)) (a.tdiv b))), .int .i64 (tFault (inI (a.tdiv b)))], .bool true]) (by simp [results, Tryz.results65, go_sem, k0, k1]) rfl
    ⟨rfl, (h1.setCell (by simp) _).setCell (by simp) _⟩

set_option maxHeartbeats 1000000 in
theorem num_div0 (a : Int) : NumbersC ⟨#[47]⟩ a 0 := by
  intro w
  go_enter Tryz.func65, Tryz.ntmps65
  go_wp2_with fail
  exact bodyPost_ret (v := .tuple #[.agg #[.int .i64 0, .int .i64 2], .bool true]) (by simp [results, Tryz.results65, go_sem]) rfl
    ⟨rfl, (Below.refl _ _).alloc (Nat.le_refl _) _⟩
set_option maxHeartbeats 1000000 in
theorem num_lt (a b : Int) : NumbersC ⟨#[60]⟩ a b := by
  intro w
  go_enter Tryz.func65, Tryz.ntmps65
  go_wp2_with fail
  refine (vtruth_any (decide (a < b)) _).mono ?_; rintro e w1 ⟨rfl, B⟩
  have k0 := keep_cell B (p := ⟨w.heap.size, 0, none⟩) (v := .int .i64 0) (by simp [go_sem])
  have k1 := keep_cell B (p := ⟨w.heap.size, 1, none⟩) (v := .int .i64 0) (by simp [go_sem])
  have f0 := keep_frozen B (p := ⟨w.heap.size, 0, none⟩) (by simp) (by simp [go_sem])
  have f1 := keep_frozen B (p := ⟨w.heap.size, 1, none⟩) (by simp) (by simp [go_sem])
  have h1 : Below w.heap.size w w1 := ((Below.refl _ _).alloc (Nat.le_refl _) _).trans (B.mono (by simp))
  clear B
  go_wp2_with fail
  exact bodyPost_ret (v := .tuple #[.agg #[.int .i64 (tru (decide (a < b))), .int .i64 (0)], .bool true]) (by simp [results, Tryz.results65, go_sem, k0, k1]) rfl
    ⟨rfl, (h1.setCell (by simp) _).setCell (by simp) _⟩

set_option maxHeartbeats 1000000 in
theorem num_le (a b : Int) : NumbersC ⟨#[60, 61]⟩ a b := by
  intro w
  go_enter Tryz.func65, Tryz.ntmps65
  go_wp2_with fail
  refine (vtruth_any (decide (a ≤ b)) _).mono ?_; rintro e w1 ⟨rfl, B⟩
  have k0 := keep_cell B (p := ⟨w.heap.size, 0, none⟩) (v := .int .i64 0) (by simp [go_sem])
  have k1 := keep_cell B (p := ⟨w.heap.size, 1, none⟩) (v := .int .i64 0) (by simp [go_sem])
  have f0 := keep_frozen B (p := ⟨w.heap.size, 0, none⟩) (by simp) (by simp [go_sem])
  have f1 := keep_frozen B (p := ⟨w.heap.size, 1, none⟩) (by simp) (by simp [go_sem])
  have h1 : Below w.heap.size w w1 := ((Below.refl _ _).alloc (Nat.le_refl _) _).trans (B.mono (by simp))
  clear B
  go_wp2_with fail
  exact bodyPost_ret (v := .tuple #[.agg #[.int .i64 (tru (decide (a ≤ b))), .int .i64 (0)], .bool true]) (by simp [results, Tryz.results65, go_sem, k0, k1]) rfl
    ⟨rfl, (h1.setCell (by simp) _).setCell (by simp) _⟩

set_option maxHeartbeats 1000000 in
theorem num_eq (a b : Int) : NumbersC ⟨#[61]⟩ a b := by
  intro w
  go_enter Tryz.func65, Tryz.ntmps65
  go_wp2_with fail
  refine (vtruth_any (a == b) _).mono ?_; rintro e w1 ⟨rfl, B⟩
  have k0 := keep_cell B (p := ⟨w.heap.size, 0, none⟩) (v := .int .i64 0) (by simp [go_sem])
  have k1 := keep_cell B (p := ⟨w.heap.size, 1, none⟩) (v := .int .i64 0) (by simp [go_sem])
  have f0 := keep_frozen B (p := ⟨w.heap.size, 0, none⟩) (by simp) (by simp [go_sem])
  have f1 := keep_frozen B (p := ⟨w.heap.size, 1, none⟩) (by simp) (by simp [go_sem])
  have h1 : Below w.heap.size w w1 := ((Below.refl _ _).alloc (Nat.le_refl _) _).trans (B.mono (by simp))
  clear B
  go_wp2_with fail
  exact bodyPost_ret (v := .tuple #[.agg #[.int .i64 (tru (a == b)), .int .i64 (0)], .bool true]) (by simp [results, Tryz.results65, go_sem, k0, k1]) rfl
    ⟨rfl, (h1.setCell (by simp) _).setCell (by simp) _⟩

set_option maxHeartbeats 1000000 in
theorem num_ne (a b : Int) : NumbersC ⟨#[60, 62]⟩ a b := by
  intro w
  go_enter Tryz.func65, Tryz.ntmps65
  go_wp2_with fail
  refine (vtruth_any (a != b) _).mono ?_; rintro e w1 ⟨rfl, B⟩
  have k0 := keep_cell B (p := ⟨w.heap.size, 0, none⟩) (v := .int .i64 0) (by simp [go_sem])
  have k1 := keep_cell B (p := ⟨w.heap.size, 1, none⟩) (v := .int .i64 0) (by simp [go_sem])
  have f0 := keep_frozen B (p := ⟨w.heap.size, 0, none⟩) (by simp) (by simp [go_sem])
  have f1 := keep_frozen B (p := ⟨w.heap.size, 1, none⟩) (by simp) (by simp [go_sem])
  have h1 : Below w.heap.size w w1 := ((Below.refl _ _).alloc (Nat.le_refl _) _).trans (B.mono (by simp))
  clear B
  go_wp2_with fail
  exact bodyPost_ret (v := .tuple #[.agg #[.int .i64 (tru (a != b)), .int .i64 (0)], .bool true]) (by simp [results, Tryz.results65, go_sem, k0, k1]) rfl
    ⟨rfl, (h1.setCell (by simp) _).setCell (by simp) _⟩

set_option maxHeartbeats 1000000 in
theorem num_ge (a b : Int) : NumbersC ⟨#[62, 61]⟩ a b := by
  intro w
  go_enter Tryz.func65, Tryz.ntmps65
  go_wp2_with fail
  refine (vtruth_any (decide (b ≤ a)) _).mono ?_; rintro e w1 ⟨rfl, B⟩
  have k0 := keep_cell B (p := ⟨w.heap.size, 0, none⟩) (v := .int .i64 0) (by simp [go_sem])
  have k1 := keep_cell B (p := ⟨w.heap.size, 1, none⟩) (v := .int .i64 0) (by simp [go_sem])
  have f0 := keep_frozen B (p := ⟨w.heap.size, 0, none⟩) (by simp) (by simp [go_sem])
  have f1 := keep_frozen B (p := ⟨w.heap.size, 1, none⟩) (by simp) (by simp [go_sem])
  have h1 : Below w.heap.size w w1 := ((Below.refl _ _).alloc (Nat.le_refl _) _).trans (B.mono (by simp))
  clear B
  go_wp2_with fail
  exact bodyPost_ret (v := .tuple #[.agg #[.int .i64 (tru (decide (b ≤ a))), .int .i64 (0)], .bool true]) (by simp [results, Tryz.results65, go_sem, k0, k1]) rfl
    ⟨rfl, (h1.setCell (by simp) _).setCell (by simp) _⟩

set_option maxHeartbeats 1000000 in
theorem num_gt (a b : Int) : NumbersC ⟨#[62]⟩ a b := by
  intro w
  go_enter Tryz.func65, Tryz.ntmps65
  go_wp2_with fail
  refine (vtruth_any (decide (b < a)) _).mono ?_; rintro e w1 ⟨rfl, B⟩
  have k0 := keep_cell B (p := ⟨w.heap.size, 0, none⟩) (v := .int .i64 0) (by simp [go_sem])
  have k1 := keep_cell B (p := ⟨w.heap.size, 1, none⟩) (v := .int .i64 0) (by simp [go_sem])
  have f0 := keep_frozen B (p := ⟨w.heap.size, 0, none⟩) (by simp) (by simp [go_sem])
  have f1 := keep_frozen B (p := ⟨w.heap.size, 1, none⟩) (by simp) (by simp [go_sem])
  have h1 : Below w.heap.size w w1 := ((Below.refl _ _).alloc (Nat.le_refl _) _).trans (B.mono (by simp))
  clear B
  go_wp2_with fail
  exact bodyPost_ret (v := .tuple #[.agg #[.int .i64 (tru (decide (b < a))), .int .i64 (0)], .bool true]) (by simp [results, Tryz.results65, go_sem, k0, k1]) rfl
    ⟨rfl, (h1.setCell (by simp) _).setCell (by simp) _⟩

set_option maxHeartbeats 1000000 in
theorem num_none (s : ByteArray) (a b : Int) (h0 : s.data.toList ≠ [43]) (h1 : s.data.toList ≠ [45]) (h2 : s.data.toList ≠ [42]) (h3 : s.data.toList ≠ [47]) (h4 : s.data.toList ≠ [60]) (h5 : s.data.toList ≠ [60, 61]) (h6 : s.data.toList ≠ [61]) (h7 : s.data.toList ≠ [60, 62]) (h8 : s.data.toList ≠ [62, 61]) (h9 : s.data.toList ≠ [62]) : NumbersC s a b := by
  intro w
  have ho : vOp s.data.toList a b = none := by unfold vOp; simp only [h0, h1, h2, h3, h4, h5, h6, h7, h8, h9, if_false]
  rw [ho]
  clear ho
  have d0 : (s.toList == [43]) = false := by rw [ByteArray.toList_eq, beq_eq_false_iff_ne]; exact h0
  have d1 : (s.toList == [45]) = false := by rw [ByteArray.toList_eq, beq_eq_false_iff_ne]; exact h1
  have d2 : (s.toList == [42]) = false := by rw [ByteArray.toList_eq, beq_eq_false_iff_ne]; exact h2
  have d3 : (s.toList == [47]) = false := by rw [ByteArray.toList_eq, beq_eq_false_iff_ne]; exact h3
  have d4 : (s.toList == [60]) = false := by rw [ByteArray.toList_eq, beq_eq_false_iff_ne]; exact h4
  have d5 : (s.toList == [60, 61]) = false := by rw [ByteArray.toList_eq, beq_eq_false_iff_ne]; exact h5
  have d6 : (s.toList == [61]) = false := by rw [ByteArray.toList_eq, beq_eq_false_iff_ne]; exact h6
  have d7 : (s.toList == [60, 62]) = false := by rw [ByteArray.toList_eq, beq_eq_false_iff_ne]; exact h7
  have d8 : (s.toList == [62, 61]) = false := by rw [ByteArray.toList_eq, beq_eq_false_iff_ne]; exact h8
  have d9 : (s.toList == [62]) = false := by rw [ByteArray.toList_eq, beq_eq_false_iff_ne]; exact h9
  clear h0 h1 h2 h3 h4 h5 h6 h7 h8 h9
  go_enter Tryz.func65, Tryz.ntmps65
  go_wp2_with fail
  exact bodyPost_ret (v := .tuple #[.agg #[.int .i64 0, .int .i64 0], .bool false]) (by simp [results, Tryz.results65, go_sem]) rfl
    ⟨rfl, (Below.refl _ _).alloc (Nat.le_refl _) _⟩
theorem numbers_any (s : ByteArray) (a b : Int) (ha : B64 a) (hb : B64 b) : NumbersC s a b := by
  have eqs : ∀ l : List UInt8, s.data.toList = l → s = ⟨l.toArray⟩ := fun l h => by
    obtain ⟨d⟩ := s
    simp only at h
    rw [← h]
  by_cases h0 : s.data.toList = [43]
  · rw [eqs _ h0]; exact num_add a b ha hb
  by_cases h1 : s.data.toList = [45]
  · rw [eqs _ h1]; exact num_sub a b ha hb
  by_cases h2 : s.data.toList = [42]
  · rw [eqs _ h2]; exact num_mul a b ha hb
  by_cases h3 : s.data.toList = [47]
  · rw [eqs _ h3]
    by_cases hz : b = 0
    · subst hz; exact num_div0 a
    · exact num_div a b ha hb hz
  by_cases h4 : s.data.toList = [60]
  · rw [eqs _ h4]; exact num_lt a b
  by_cases h5 : s.data.toList = [60, 61]
  · rw [eqs _ h5]; exact num_le a b
  by_cases h6 : s.data.toList = [61]
  · rw [eqs _ h6]; exact num_eq a b
  by_cases h7 : s.data.toList = [60, 62]
  · rw [eqs _ h7]; exact num_ne a b
  by_cases h8 : s.data.toList = [62, 61]
  · rw [eqs _ h8]; exact num_ge a b
  by_cases h9 : s.data.toList = [62]
  · rw [eqs _ h9]; exact num_gt a b
  exact num_none s a b h0 h1 h2 h3 h4 h5 h6 h7 h8 h9
end Go.Proofs.YthaoalmhhgllmaaGreatDoor
