/- Texts joined: Ret, Mem, StA, Pl, Tx, LxA, NumS, NumD. -/
import Derived.WalkKit
import Derived.Test.YteflmfifhmlpiaaDoorProg
import Derived.WalkSmall
import Derived.Lib.Hide
import Derived.Lib.AtoiErrMem
import Derived.Deep.CutRange
import Derived.OwnWalk
import Derived.RowKit
import Derived.IntWalk
import Derived.Lib.Atoi
import Derived.Lib.AtoiAll
import Derived.Lib.AtoiAllCases
import Derived.Lib.ItoaNum
import Derived.Lib.ItoaMem
import Derived.Laws.Strings
import Derived.WalkSpells
import Derived.WalkLawsBesides
import Derived.Lib.ConvBytes
set_option linter.all false
set_option linter.unusedVariables false
set_option linter.unusedSimpArgs false
namespace Go.Proofs.YteflmfifhmlpiaaDoor
theorem ret_bool {a b : Bool} (h : a = b) : Ending.returned (.bool a) = .returned (.bool b) := by rw [h]
theorem ret_int {a b : Int} (h : a = b) : Ending.returned (.int .i64 a) = .returned (.int .i64 b) := by rw [h]
theorem ret_u64 {a b : Int} (h : a = b) : Ending.returned (.int .u64 a) = .returned (.int .u64 b) := by rw [h]
theorem ret_str {a b : ByteArray} (h : a = b) : Ending.returned (.string a) = .returned (.string b) := by rw [h]
theorem ret_val {a b : Value} (h : a = b) : Ending.returned a = .returned b := by rw [h]
theorem ret_pair {a b : Int} {c d : Bool} (h : a = b) (k : c = d) : Ending.returned (.tuple #[.int .i64 a, .bool c]) = .returned (.tuple #[.int .i64 b, .bool d]) := by rw [h, k]
theorem ret_pair' {a b : Int} {c d : Bool} (h : a = b ∧ c = d) : Ending.returned (.tuple #[.int .i64 a, .bool c]) = .returned (.tuple #[.int .i64 b, .bool d]) := by rw [h.1, h.2]
theorem ret_two {a b c d : Value} (h : a = b) (k : c = d) : Ending.returned (.tuple #[a, c]) = .returned (.tuple #[b, d]) := by rw [h, k]
end Go.Proofs.YteflmfifhmlpiaaDoor
namespace Go.Proofs.YteflmfifhmlpiaaDoor
open Go.RowKit

theorem keep_cell {W w1 : World} (hb : Below W.heap.size W w1) {p : Addr} {v : Value} (h : W.cell? p = some v) : w1.cell? p = some v := by
  rw [hb.cell (Lib.lt_of_cell h)]; exact h
theorem keep_frozen {W w1 : World} (hb : Below W.heap.size W w1) {p : Addr} (hp : p.block < W.heap.size) (h : W.frozen? p = false) : w1.frozen? p = false := by
  rw [hb.frozen hp]; exact h

theorem keep_fresh {W w1 : World} {cs : Array Value} {T : TypeId} (hb : Below (W.alloc (.cells cs T)).heap.size (W.alloc (.cells cs T)) w1) (i : Nat) {v : Value} (h : cs[i]? = some v) : w1.cell? ⟨W.heap.size, i, none⟩ = some v :=
  keep_cell hb (by rw [cell_of_row _ _ i cs T (0, 0) (heap_alloc_new W _)]; exact h)

theorem fresh_frozen {W w1 : World} {cs : Array Value} {T : TypeId} (hb : Below (W.alloc (.cells cs T)).heap.size (W.alloc (.cells cs T)) w1) (i : Nat) : w1.frozen? ⟨W.heap.size, i, none⟩ = false :=
  keep_frozen hb (by simp) (by simp [go_sem])
theorem below_up {W0 W w1 : World} (B : Below W0.heap.size W0 W) (b : Below W.heap.size W w1) : Below W0.heap.size W0 w1 := B.trans (b.mono B.size)
theorem below_alloc {W0 W w1 : World} {o : Obj} (B : Below W0.heap.size W0 W) (b : Below (W.alloc o).heap.size (W.alloc o) w1) : Below W0.heap.size W0 w1 :=
  (B.alloc B.size o).trans (b.mono (by have := B.size; simp; omega))
end Go.Proofs.YteflmfifhmlpiaaDoor
namespace Go.Proofs.YteflmfifhmlpiaaDoor
open Go.RowKit

def SAt (w : World) (g o : Nat) (l : List ByteArray) : Prop := ∀ (i : Nat) (s : ByteArray), l[i]? = some s → w.cell? ⟨g, o + i, none⟩ = some (.string s)
def findS (s : ByteArray) : List ByteArray → Option Nat
  | [] => none
  | t :: r => if s = t then some 0 else (findS s r).map (· + 1)
def idxS (s : ByteArray) (l : List ByteArray) : Int := match findS s l with | some i => (i : Int) | none => -1
theorem find_hit {s : ByteArray} : ∀ {l : List ByteArray} {i : Nat}, (∀ (j : Nat) (t : ByteArray), j < i → l[j]? = some t → s ≠ t) → l[i]? = some s → findS s l = some i
  | [], i, _, h => by simp at h
  | t :: r, 0, _, h => by simp at h; subst h; simp [findS]
  | t :: r, i + 1, hn, h => by
    have h0 := hn 0 t (by omega) rfl
    have := find_hit (l := r) (i := i) (fun j u hj hu => hn (j + 1) u (by omega) (by simpa using hu)) (by simpa using h)
    simp [findS, h0, this]
theorem find_miss {s : ByteArray} : ∀ {l : List ByteArray}, (∀ (j : Nat) (t : ByteArray), j < l.length → l[j]? = some t → s ≠ t) → findS s l = none
  | [], _ => rfl
  | t :: r, hn => by
    have h0 := hn 0 t (by simp) rfl
    have := find_miss (l := r) (fun j u hj hu => hn (j + 1) u (by simp; omega) (by simpa using hu))
    simp [findS, h0, this]
theorem idx_hit {s : ByteArray} {l : List ByteArray} {i : Nat} (hn : ∀ (j : Nat) (t : ByteArray), j < i → l[j]? = some t → s ≠ t) (h : l[i]? = some s) : idxS s l = (i : Int) := by
  unfold idxS; rw [find_hit hn h]
theorem idx_miss {s : ByteArray} {l : List ByteArray} (hn : ∀ (j : Nat) (t : ByteArray), j < l.length → l[j]? = some t → s ≠ t) : idxS s l = -1 := by
  unfold idxS; rw [find_miss hn]
set_option maxHeartbeats 1000000 in
set_option maxRecDepth 10000 in
theorem sindex_any (w : World) (g o cap : Nat) (l : List ByteArray) (s : ByteArray) (hl : l.length ≤ 1000) (h : SAt w g o l) :
    Calls Tryd.prog 96 #[.slice (some ⟨g, o, none⟩) l.length cap, .string s] w fun e w' => e = .returned (.int .i64 (idxS s l)) ∧ w = w' := by
  have H := Lib.hid h
  clear h
  go_enter Tryd.func96, Tryd.ntmps96
  go_wp2_with fail
  go_loopw [8] (fun vi wr => ∃ i : Nat, i ≤ l.length ∧ vi = .int .i64 (i : Int) ∧ wr = w ∧ Hid (∀ (j : Nat) (t : ByteArray), j < i → l[j]? = some t → s ≠ t)) (fun vi _ => l.length - (intOf vi).toNat)
  case atStart => exact ⟨0, Nat.zero_le _, rfl, rfl, Lib.hid fun j t hj => by omega⟩
  case round =>
    obtain ⟨i, hi, rfl, rfl, HN⟩ := hrel
    by_cases hlt : i < l.length
    · have ht : l[i]? = some (l[i]'hlt) := List.getElem?_eq_getElem hlt
      have q := H.out i _ ht
      have HT := Lib.hid ht
      generalize l[i]'hlt = t at *
      clear ht
      by_cases he : s = t
      · subst he
        have he2 : (s.toList == s.toList) = true := by simp
        go_wp2_with fail
        go_ret
        exact ⟨ret_int (idx_hit HN.out HT.out).symm, by first | rfl | trivial⟩
      · have he2 : (s.toList == t.toList) = false := by
          rw [beq_eq_false_iff_ne, ByteArray.toList_eq, ByteArray.toList_eq]
          intro h
          apply he
          obtain ⟨⟨a⟩⟩ := s
          obtain ⟨⟨b⟩⟩ := t
          simp at h
          rw [h]
        go_wp2_with fail
        go_roundw
        case rel => exact ⟨i + 1, by omega, by go_num, by first | rfl | trivial, Lib.hid fun j u hj hu => by
          by_cases hji : j < i
          · exact HN.out j u hji hu
          · obtain rfl : j = i := by omega
            rw [HT.out] at hu; obtain rfl := Option.some.inj hu; exact he⟩
        case measure => simp [intOf]; omega
    · obtain rfl : i = l.length := by omega
      go_wp2_with fail
      go_ret
      exact ⟨ret_int (idx_miss HN.out).symm, by first | rfl | trivial⟩
set_option maxHeartbeats 1000000 in
set_option maxRecDepth 10000 in
theorem scontains_any (w : World) (g o cap : Nat) (l : List ByteArray) (s : ByteArray) (hl : l.length ≤ 1000) (h : SAt w g o l) :
    Calls Tryd.prog 90 #[.slice (some ⟨g, o, none⟩) l.length cap, .string s] w fun e w' => e = .returned (.bool (findS s l).isSome) ∧ w = w' := by
  have H := Lib.hid h
  clear h
  have hB : ∀ b, decide (0 ≤ idxS s l) = b → (findS s l).isSome = b := by
    intro b hb
    subst hb
    unfold idxS
    cases findS s l with
    | none => rfl
    | some i => simp
  have HB := Lib.hid (hB _ rfl)
  clear hB
  go_enter Tryd.func90, Tryd.ntmps90
  go_wp2_with fail
  refine (sindex_any w g o cap l s hl H.out).mono ?_; rintro e w1 ⟨rfl, rfl⟩
  go_wp2_with fail
  go_ret
  exact ⟨ret_bool HB.out.symm, by first | rfl | trivial⟩
def strL : Nat → List ByteArray
  | 0 => [⟨#[60]⟩, ⟨#[60, 61]⟩, ⟨#[61]⟩, ⟨#[60, 62]⟩, ⟨#[62, 61]⟩, ⟨#[62]⟩]
  | 1 => [⟨#[43]⟩, ⟨#[45]⟩]
  | 2 => [⟨#[42]⟩, ⟨#[47]⟩]
  | _ => []
def Strs (R B : Nat) (w : World) : Prop := (R ≠ 0 ∧ 0 < B) ∧ ∀ i : Nat, i < 3 → ∃ g o cap, (g ≠ R ∧ g < B) ∧ w.cell? ⟨0, i, none⟩ = some (.slice (some ⟨g, o, none⟩) (strL i).length cap) ∧ SAt w g o (strL i)
theorem Strs.keep {R B : Nat} {w w' : World} (h : Strs R B w) (hk : ∀ (p : Addr) (v : Value), p.block ≠ R → p.block < B → w.cell? p = some v → w'.cell? p = some v) : Strs R B w' := by
  refine ⟨h.1, fun i hi => ?_⟩
  obtain ⟨g, o, cap, hg, hc, hs⟩ := h.2 i hi
  exact ⟨g, o, cap, hg, hk _ _ (Ne.symm h.1.1) h.1.2 hc, fun j s hj => hk _ _ hg.1 hg.2 (hs j s hj)⟩
def strV (s : ByteArray) : Int := if (findS s (strL 0)).isSome = true then 0 else if (findS s (strL 1)).isSome = true then 1 else if (findS s (strL 2)).isSome = true then 2 else -1
set_option maxHeartbeats 1000000 in
set_option maxRecDepth 10000 in
theorem strength_any (R B : Nat) (w : World) (s : ByteArray) (h : Strs R B w) :
    Calls Tryd.prog 81 #[.string s] w fun e w' => e = .returned (.int .i64 (strV s)) ∧ w = w' := by
  obtain ⟨_, h⟩ := h
  have H := Lib.hid h
  clear h
  go_enter Tryd.func81, Tryd.ntmps81
  go_wp2_with fail
  go_loopw [4] (fun vi wr => ∃ i : Nat, i ≤ 3 ∧ vi = .int .i64 (i : Int) ∧ wr = w ∧ Hid (∀ j : Nat, j < i → (findS s (strL j)).isSome = false)) (fun vi _ => 3 - (intOf vi).toNat)
  case atStart => exact ⟨0, by omega, rfl, rfl, Lib.hid fun j hj => by omega⟩
  case round =>
    obtain ⟨i, hi, rfl, rfl, HN⟩ := hrel
    by_cases hlt : i < 3
    · obtain ⟨g, o, cap, _, hc, hs⟩ := H.out i hlt
      have hll : (strL i).length ≤ 1000 := by
        match i, hlt with
        | 0, _ => decide
        | 1, _ => decide
        | 2, _ => decide
      have HC := Lib.hid (scontains_any wr g o cap (strL i) s hll hs)
      have hV : Hid ((findS s (strL i)).isSome = true → strV s = (i : Int)) := Lib.hid fun h => by
        unfold strV
        match i, hlt, h with
        | 0, _, h => rw [if_pos h]; rfl
        | 1, _, h => rw [if_neg (by rw [HN.out 0 (by omega)]; decide), if_pos h]; rfl
        | 2, _, h => rw [if_neg (by rw [HN.out 0 (by omega)]; decide), if_neg (by rw [HN.out 1 (by omega)]; decide), if_pos h]; rfl
      generalize hb : (findS s (strL i)).isSome = b at *
      have HB := Lib.hid hb
      clear hb hll hs
      cases b with
      | true =>
        go_wp2_with fail
        refine HC.out.mono ?_; rintro e w1 ⟨rfl, rfl⟩
        go_wp2_with fail
        go_ret
        exact ⟨ret_int (hV.out (by first | rfl | trivial)).symm, by first | rfl | trivial⟩
      | false =>
        go_wp2_with fail
        refine HC.out.mono ?_; rintro e w1 ⟨rfl, rfl⟩
        go_wp2_with fail
        go_roundw
        case rel => exact ⟨i + 1, by omega, by go_num, by first | rfl | trivial, Lib.hid fun j hj => by
          by_cases hji : j < i
          · exact HN.out j hji
          · obtain rfl : j = i := by omega
            exact HB.out⟩
        case measure => simp [intOf]; omega
    · obtain rfl : i = 3 := by omega
      have hV : strV s = -1 := by
        unfold strV
        rw [HN.out 0 (by omega), HN.out 1 (by omega), HN.out 2 (by omega)]; rfl
      go_wp2_with fail
      go_ret
      exact ⟨ret_int hV.symm, by first | rfl | trivial⟩
end Go.Proofs.YteflmfifhmlpiaaDoor
namespace Go.Proofs.YteflmfifhmlpiaaDoor
open Go.RowKit

def B64 (n : Int) : Prop := -9223372036854775808 ≤ n ∧ n ≤ 9223372036854775807
def inI (n : Int) : Bool := decide (-9223372036854775808 ≤ n ∧ n ≤ 9223372036854775807)
def keep (x : Bool) (n : Int) : Int := if x = true then n else 0

theorem inI_iff (n : Int) : inI n = true ↔ B64 n := by unfold inI B64; simp
theorem inI_not (n : Int) : inI n = false ↔ ¬ B64 n := by unfold inI B64; simp
theorem bool_iff {x y : Bool} (h : x = true ↔ y = true) : x = y := by cases x <;> cases y <;> simp_all
theorem keep_eq {x y : Bool} {n m : Int} (hx : x = y) (h : y = true → n = m) : keep x n = keep y m := by
  subst hx; unfold keep; split
  · exact h ‹_›
  · rfl
theorem keep_b64 (x : Bool) (n : Int) (h : x = true → B64 n) : B64 (keep x n) := by
  unfold keep; split
  · exact h ‹_›
  · unfold B64; omega
theorem wrap_b64 (n : Int) : B64 (wrap64 n) := by unfold B64 wrap64; omega
theorem wrap_in {n : Int} (h : B64 n) : wrap64 n = n := by unfold B64 at h; unfold wrap64; omega
theorem wrap_of {n : Int} (h : inI n = true) : wrap64 n = n := wrap_in ((inI_iff n).1 h)

theorem add_is (a b : Int) (ha : B64 a) (hb : B64 b) :
    ((!decide (0 < a) || !decide (0 < b) || !decide (wrap64 (a + b) < 0)) && (!decide (a < 0) || !decide (b < 0) || !decide (0 ≤ wrap64 (a + b)))) = inI (a + b) := by
  apply bool_iff
  rw [inI_iff]
  unfold B64 wrap64 at *
  simp only [Bool.and_eq_true, Bool.or_eq_true, Bool.not_eq_true', decide_eq_false_iff_not]
  omega
theorem sub_is (a b : Int) (ha : B64 a) (hb : B64 b) :
    ((!decide (0 ≤ a) || !decide (b < 0) || !decide (wrap64 (a - b) < 0)) && (!decide (a < 0) || !decide (0 < b) || !decide (0 ≤ wrap64 (a - b)))) = inI (a - b) := by
  apply bool_iff
  rw [inI_iff]
  unfold B64 wrap64 at *
  simp only [Bool.and_eq_true, Bool.or_eq_true, Bool.not_eq_true', decide_eq_false_iff_not]
  omega

theorem tdiv_facts (c b : Int) : c = b * (c.tdiv b) + c.tmod b ∧ (0 ≤ c → 0 ≤ c.tmod b) ∧ (c ≤ 0 → c.tmod b ≤ 0) ∧ (0 < b → -b < c.tmod b ∧ c.tmod b < b) ∧ (b < 0 → b < c.tmod b ∧ c.tmod b < -b) := by
  have h1 := Int.mul_tdiv_add_tmod c b
  refine ⟨h1.symm, fun h => Int.tmod_nonneg b h, fun h => ?_, fun h => ?_, fun h => ?_⟩
  · have := Int.tmod_nonneg (a := -c) b (by omega)
    rw [Int.neg_tmod] at this
    omega
  · rcases Int.le_total 0 c with hc | hc
    · have h2 := Int.tmod_nonneg b hc
      have h3 := Int.tmod_lt_of_pos c h
      omega
    · have h2 := Int.tmod_nonneg (a := -c) b (by omega)
      have h3 := Int.tmod_lt_of_pos (-c) h
      rw [Int.neg_tmod] at h2 h3
      omega
  · have hb' : 0 < -b := by omega
    rw [← Int.tmod_neg c b]
    rcases Int.le_total 0 c with hc | hc
    · have h2 := Int.tmod_nonneg (-b) hc
      have h3 := Int.tmod_lt_of_pos c hb'
      omega
    · have h2 := Int.tmod_nonneg (a := -c) (-b) (by omega)
      have h3 := Int.tmod_lt_of_pos (-c) hb'
      rw [Int.neg_tmod] at h2 h3
      omega
theorem tdiv_is (a b : Int) (ha : B64 a) (hb : B64 b) (h0 : b ≠ 0) : (!(a == -9223372036854775808) || !(b == -1)) = inI (a.tdiv b) := by
  obtain ⟨h1, h2, h3, h4, h5⟩ := tdiv_facts a b
  apply bool_iff
  rw [inI_iff]
  simp only [Bool.not_eq_true', Bool.or_eq_true, beq_eq_false_iff_ne]
  generalize a.tdiv b = q at *
  generalize a.tmod b = r at *
  unfold B64 at *
  refine ⟨fun h => ?_, fun h => ?_⟩
  rotate_left
  · revert h
    intro hq
    by_cases h : b = -1
    · subst h; omega
    · omega
  · revert h
    intro hn
    by_cases h : b = -1
    · subst h; omega
    · by_cases h' : b = 1
      · subst h'; omega
      · rcases Int.lt_or_lt_of_ne h0 with hb0 | hb0
        · have : b ≤ -2 := by omega
          constructor
          · apply Int.not_lt.1
            intro hc
            have := Int.mul_le_mul_of_nonpos_right (a := -2) (b := b) (c := q) this (by omega)
            omega
          · apply Int.not_lt.1
            intro hc
            have := Int.mul_le_mul_of_nonneg_right (a := b) (b := -2) (c := q) this (by omega)
            omega
        · have : 2 ≤ b := by omega
          constructor
          · apply Int.not_lt.1
            intro hc
            have := Int.mul_le_mul_of_nonpos_right (a := b) (b := 2) (c := q) this (by omega)
            omega
          · apply Int.not_lt.1
            intro hc
            have := Int.mul_le_mul_of_nonneg_right (a := 2) (b := b) (c := q) this (by omega)
            omega
theorem mul_is (a b : Int) (ha : B64 a) (hb : B64 b) (h0 : b ≠ 0) : (inI ((wrap64 (a * b)).tdiv b) && (keep (inI ((wrap64 (a * b)).tdiv b)) ((wrap64 (a * b)).tdiv b) == a)) = inI (a * b) := by
  apply bool_iff
  rw [Bool.and_eq_true, inI_iff (a * b), beq_iff_eq]
  constructor
  · rintro ⟨h1, h2⟩
    rw [h1] at h2
    have h2' : (wrap64 (a * b)).tdiv b = a := h2
    obtain ⟨g1, g2, g3, g4, g5⟩ := tdiv_facts (wrap64 (a * b)) b
    rw [h2'] at g1
    rw [Int.mul_comm b a] at g1
    have hw := wrap_b64 (a * b)
    have hm : ∃ k : Int, wrap64 (a * b) = a * b + 18446744073709551616 * k := by
      refine ⟨-((a * b + 9223372036854775808) / 18446744073709551616), ?_⟩
      unfold wrap64
      have := Int.emod_add_mul_ediv (a * b + 9223372036854775808) 18446744073709551616
      omega
    obtain ⟨k, hk⟩ := hm
    generalize a * b = p at *
    generalize wrap64 p = c at *
    generalize c.tmod b = r at *
    unfold B64 at *
    omega
  · intro h
    rw [wrap_in h]
    have : (a * b).tdiv b = a := Int.mul_tdiv_cancel a h0
    rw [this]
    have hi := (inI_iff a).2 ha
    exact ⟨hi, by rw [hi]; rfl⟩

def absI (a : Int) : Int := if a < 0 then -a else a
def sgn (m : Bool) (u : Int) : Int := if m = true then -u else u
theorem absI_neg {a : Int} (h : a < 0) : absI a = -a := by unfold absI; rw [if_pos h]
theorem absI_pos {a : Int} (h : ¬ a < 0) : absI a = a := by unfold absI; rw [if_neg h]
theorem absI_bd {a : Int} (ha : B64 a) : 0 ≤ absI a ∧ absI a ≤ 9223372036854775808 := by
  unfold absI B64 at *; split <;> omega
theorem sgn_pos (u : Int) : sgn false u = u := rfl
theorem sgn_neg (u : Int) : sgn true u = -u := rfl
theorem none_is {n : Int} (h : ¬ B64 n) : (0 : Int) = keep (inI n) n ∧ false = inI n := by
  have := (inI_not n).2 h
  rw [this]; exact ⟨rfl, rfl⟩
theorem some_is {n : Int} (h : B64 n) : n = keep (inI n) n ∧ true = inI n := by
  have := (inI_iff n).2 h
  rw [this]; exact ⟨rfl, rfl⟩
theorem tdiv_sgn (a b : Int) : sgn (decide (a < 0) != decide (b < 0)) (absI a / absI b) = a.tdiv b := by
  by_cases h1 : a < 0 <;> by_cases h2 : b < 0
  · rw [absI_neg h1, absI_neg h2, decide_eq_true h1, decide_eq_true h2]
    rw [← Int.tdiv_eq_ediv_of_nonneg (by omega), Int.neg_tdiv, Int.tdiv_neg]; simp [sgn]
  · rw [absI_neg h1, absI_pos h2, decide_eq_true h1, decide_eq_false h2]
    rw [← Int.tdiv_eq_ediv_of_nonneg (by omega), Int.neg_tdiv]; simp [sgn]
  · rw [absI_pos h1, absI_neg h2, decide_eq_false h1, decide_eq_true h2]
    rw [← Int.tdiv_eq_ediv_of_nonneg (by omega), Int.tdiv_neg]; simp [sgn]
  · rw [absI_pos h1, absI_pos h2, decide_eq_false h1, decide_eq_false h2]
    rw [← Int.tdiv_eq_ediv_of_nonneg (by omega)]; simp [sgn]
theorem mul_sgn (a b : Int) : sgn (decide (a < 0) != decide (b < 0)) (absI a * absI b) = a * b := by
  by_cases h1 : a < 0 <;> by_cases h2 : b < 0
  · rw [absI_neg h1, absI_neg h2, decide_eq_true h1, decide_eq_true h2, Int.neg_mul_neg]; simp [sgn]
  · rw [absI_neg h1, absI_pos h2, decide_eq_true h1, decide_eq_false h2, Int.neg_mul]; simp [sgn]
  · rw [absI_pos h1, absI_neg h2, decide_eq_false h1, decide_eq_true h2, Int.mul_neg]; simp [sgn]
  · rw [absI_pos h1, absI_pos h2, decide_eq_false h1, decide_eq_false h2]; simp [sgn]
end Go.Proofs.YteflmfifhmlpiaaDoor
namespace Go.Proofs.YteflmfifhmlpiaaDoor
open Go.Lib

theorem digitVal_eq {b : UInt8} {d : Nat} (h : digitVal b = some d) : d < 10 ∧ b = UInt8.ofNat (48 + d) ∧ b.toNat = 48 + d := by
  unfold digitVal at h
  split at h
  · injection h with h
    refine ⟨by omega, ?_, by omega⟩
    apply UInt8.toNat_inj.1
    rw [UInt8.toNat_ofNat']
    omega
  · cases h
theorem digitVal_of {d : Nat} (h : d < 10) : digitVal (UInt8.ofNat (48 + d)) = some d := by
  have e : (UInt8.ofNat (48 + d)).toNat = 48 + d := by rw [UInt8.toNat_ofNat']; omega
  unfold digitVal
  rw [e, if_pos (by omega)]
  congr 1
  omega
theorem decFrom_append (l : List UInt8) (b : UInt8) : ∀ acc, decFrom acc (l ++ [b]) = (decFrom acc l).bind fun n => (digitVal b).map fun d => n * 10 + d := by
  induction l with
  | nil => intro acc; simp only [List.nil_append, decFrom, Option.bind_some]; cases digitVal b <;> rfl
  | cons a t ih =>
    intro acc
    simp only [List.cons_append, decFrom]
    cases digitVal a with
    | none => rfl
    | some d => exact ih _
theorem decFrom_le : ∀ (l : List UInt8) (acc u : Nat), decFrom acc l = some u → acc ≤ u
  | [], acc, u, h => by simp only [decFrom, Option.some.injEq] at h; omega
  | c :: r, acc, u, h => by
    simp only [decFrom] at h
    split at h
    · have := decFrom_le r _ u h; omega
    · cases h
theorem parse_of_dec : ∀ (l : List UInt8) (acc u : Nat), decFrom acc l = some u → u < 18446744073709551616 → parseUint10 acc l = .ok u
  | [], acc, u, h, _ => by simp only [decFrom, Option.some.injEq] at h; subst h; rfl
  | c :: r, acc, u, h, hu => by
    simp only [decFrom] at h
    split at h
    · rename_i d hd
      have hle := decFrom_le r _ u h
      obtain ⟨h1, _, h3⟩ := digitVal_eq hd
      simp only [parseUint10]
      have e : c.toNat - 48 = d := by omega
      rw [if_pos (by omega), if_neg (by omega), if_neg (by omega), e]
      exact parse_of_dec r _ u h hu
    · cases h

theorem dec_digits (u : Nat) : decFrom 0 (decDigits u) = some u := by
  induction u using Nat.strongRecOn with
  | _ u ih =>
    by_cases h : u < 10
    · rw [decDigits, dif_pos h]
      simp only [decFrom, digitVal_of h]
      simp
    · rw [decDigits, dif_neg h, decFrom_append, ih (u / 10) (by omega), digitVal_of (by omega)]
      simp
      omega
theorem head_append {α : Type} {l : List α} (r : List α) (h : l ≠ []) : (l ++ r).head? = l.head? := by
  cases l with
  | nil => exact absurd rfl h
  | cons a t => rfl
theorem digits_ne (u : Nat) : decDigits u ≠ [] := by
  intro h
  have := decDigits_length u
  have := nDigits_pos u
  rw [h] at *
  simp at *
  omega
theorem digits_head (u : Nat) (hu : u ≠ 0) : (decDigits u).head? ≠ some 48 := by
  induction u using Nat.strongRecOn with
  | _ u ih =>
    by_cases h : u < 10
    · rw [decDigits, dif_pos h]
      simp only [List.head?_cons, ne_eq, Option.some.injEq]
      intro e
      have := congrArg UInt8.toNat e
      rw [UInt8.toNat_ofNat'] at this
      have e2 : (48 : UInt8).toNat = 48 := rfl
      omega
    · rw [decDigits, dif_neg h, head_append _ (digits_ne _)]
      exact ih (u / 10) (by omega) (by omega)
theorem digits_zero : decDigits 0 = [48] := by rw [decDigits_one (by omega)]; rfl

theorem snoc_cases {α : Type} (l : List α) (h : l ≠ []) : ∃ t b, l = t ++ [b] := ⟨l.dropLast, l.getLast h, (List.dropLast_concat_getLast h).symm⟩
theorem digits_of_dec (n : Nat) : ∀ (l : List UInt8) (u : Nat), l.length = n → decFrom 0 l = some u → l ≠ [] → (l.head? ≠ some 48 ∨ l.length = 1) → decDigits u = l := by
  induction n using Nat.strongRecOn with
  | _ n ih =>
    intro l u hn hd hne hh
    obtain ⟨t, b, rfl⟩ := snoc_cases l hne
    rw [decFrom_append] at hd
    cases ht : decFrom 0 t with
    | none => rw [ht] at hd; cases hd
    | some m =>
      rw [ht, Option.bind_some] at hd
      cases hb : digitVal b with
      | none => rw [hb] at hd; cases hd
      | some d =>
        rw [hb] at hd
        simp only [Option.map_some, Option.some.injEq] at hd
        obtain ⟨h1, h2, _⟩ := digitVal_eq hb
        by_cases hte : t = []
        · subst hte
          simp only [decFrom, Option.some.injEq] at ht
          subst ht
          have : u = d := by omega
          subst this
          rw [decDigits_one h1, h2]; rfl
        · have hl : (t ++ [b]).length ≠ 1 := by
            have : 0 < t.length := List.length_pos_iff.2 hte
            simp; omega
          have hh' : t.head? ≠ some 48 := by
            rcases hh with hh | hh
            · rwa [head_append _ hte] at hh
            · exact absurd hh hl
          have hlen : t.length + 1 = n := by simpa using hn
          have it := ih t.length (by omega) t m rfl ht hte (.inl hh')
          have hm : m ≠ 0 := by
            rintro rfl
            rw [digits_zero] at it
            rw [← it] at hh'
            simp at hh'
          rw [decDigits, dif_neg (by omega), show u / 10 = m by omega, show u % 10 = d by omega, it, h2]
theorem nDigits_le (u : Nat) (h : u ≤ 9223372036854775808) : nDigits u ≤ 19 := by
  by_cases h1 : u < 10 ^ 18
  · have := lt_pow_nDigits u
    rcases Nat.lt_or_ge (nDigits u) 20 with h2 | h2
    · omega
    · exfalso
      have h3 : 10 ^ 19 ≤ u := by
        by_cases h0 : u < 10
        · rw [nDigits_small h0] at h2; omega
        · obtain ⟨k, hk⟩ : ∃ k, nDigits u = k + 20 := ⟨nDigits u - 20, by omega⟩
          exfalso
          have hu : nDigits u ≤ 18 := by
            clear hk h2 this
            have aux : ∀ k v, v < 10 ^ k → 1 ≤ k → nDigits v ≤ k := by
              intro k
              induction k with
              | zero => intro v _ h; omega
              | succ k ih =>
                intro v hv _
                by_cases hv0 : v < 10
                · rw [nDigits_small hv0]; omega
                · rw [nDigits_big hv0]
                  rcases Nat.eq_zero_or_pos k with hk | hk
                  · subst hk; omega
                  · have := ih (v / 10) (by rw [Nat.pow_succ] at hv; omega) hk
                    omega
            exact aux 18 u h1 (by omega)
          omega
      omega
  · have := nDigits_unique 18 u (by omega) (by omega)
    omega

theorem itoa_parse (n : Int) (hn : B64 n) : atoiAll (itoa n) = .ok n := by
  unfold B64 at hn
  unfold itoa
  have key : ∀ u : Nat, u < 18446744073709551616 → parseMag (decDigits u) = .ok u := fun u hu => by
    unfold parseMag
    rw [if_neg (digits_ne u)]
    exact parse_of_dec _ 0 u (dec_digits u) hu
  split
  · rw [atoiAll_minus, key n.natAbs (by omega)]
    simp only [signed]
    rw [if_neg (by omega)]
    congr 1
    omega
  · have hk := key n.toNat (by omega)
    cases hd : decDigits n.toNat with
    | nil => exact absurd hd (digits_ne _)
    | cons c r =>
      obtain ⟨d, hc⟩ := digit_of_decFrom _ 0 _ (dec_digits n.toNat) 0 c (by rw [hd]; rfl)
      obtain ⟨h1, _, h3⟩ := digitVal_eq hc
      rw [atoiAll_plain c r (by omega) (by omega), ← hd, hk]
      simp only [signless]
      rw [if_neg (by omega)]
      congr 1
      omega

def pB (l : List UInt8) : Bool := match atoiAll l with
  | .ok v => decide (itoa v = l)
  | _ => false
def pV (l : List UInt8) : Int := match atoiAll l with
  | .ok v => keep (decide (itoa v = l)) v
  | _ => 0
theorem p_some {l : List UInt8} {n : Int} (hn : B64 n) (h : itoa n = l) : pV l = n ∧ pB l = true := by
  subst h
  unfold pV pB
  rw [itoa_parse n hn]
  simp [keep]
theorem p_none {l : List UInt8} (h : ∀ n, B64 n → itoa n ≠ l) : pV l = 0 ∧ pB l = false := by
  unfold pV pB
  cases ha : atoiAll l
  · have hb := atoiAll_bounds ha
    have := h _ hb
    simp [keep, this]
  · exact ⟨rfl, rfl⟩
  · exact ⟨rfl, rfl⟩

theorem p_fail {l : List UInt8} (h : ∀ v, atoiAll l ≠ .ok v) : pV l = 0 ∧ pB l = false := by
  unfold pV pB
  cases ha : atoiAll l
  · exact absurd ha (h _)
  · exact ⟨rfl, rfl⟩
  · exact ⟨rfl, rfl⟩
theorem p_test {s : ByteArray} {v : Int} (h : atoiAll s.data.toList = .ok v) : (itoa v == s.toList) = pB s.data.toList := by
  unfold pB
  rw [h, ByteArray.toList_eq]
  exact bool_iff (by simp)
theorem p_keep {s : ByteArray} {v : Int} (h : atoiAll s.data.toList = .ok v) : keep (itoa v == s.toList) v = pV s.data.toList := by
  rw [p_test h]
  unfold pV pB
  rw [h]

def minusB (l : List UInt8) : Bool := decide (l.head? = some 45)
def rest (l : List UInt8) : List UInt8 := if minusB l = true then l.tail else l
theorem p_form {l : List UInt8} {u : Nat} (hne : rest l ≠ []) (hh : (rest l).head? ≠ some 48 ∨ ((rest l).length = 1 ∧ minusB l = false)) (hd : decFrom 0 (rest l) = some u) :
    pV l = keep (inI (sgn (minusB l) u)) (sgn (minusB l) u) ∧ pB l = inI (sgn (minusB l) u) := by
  have hdig : decDigits u = rest l := digits_of_dec _ (rest l) u rfl hd hne (hh.imp id fun h => h.1)
  have htext : itoa (sgn (minusB l) u) = l := by
    cases hm : minusB l with
    | true =>
      have h0 : u ≠ 0 := by
        rintro rfl
        rw [digits_zero] at hdig
        rw [← hdig, hm] at hh
        simp at hh
      have hr : l = 45 :: rest l := by
        unfold rest; rw [if_pos hm]
        unfold minusB at hm
        cases l with
        | nil => simp at hm
        | cons c r => simp at hm; subst hm; rfl
      rw [sgn_neg]
      rw [itoa_neg u (by omega), hdig]
      exact hr.symm
    | false =>
      rw [sgn_pos, itoa_nonneg, hdig]
      unfold rest; rw [if_neg (by rw [hm]; decide)]
  by_cases hb : B64 (sgn (minusB l) u)
  · obtain ⟨h1, h2⟩ := p_some hb htext
    obtain ⟨h3, h4⟩ := some_is hb
    exact ⟨h1.trans h3, h2.trans h4⟩
  · have hn : ∀ n, B64 n → itoa n ≠ l := by
      intro n hn he
      apply hb
      have h1 := itoa_parse n hn
      have : itoa n = itoa (sgn (minusB l) u) := he.trans htext.symm
      have e : n = sgn (minusB l) u := by
        have hdn : ∀ k : Int, (rest (itoa k), minusB (itoa k)) = (decDigits k.natAbs, decide (k < 0)) := by
          intro k
          unfold itoa
          split
          · rename_i hk
            have hm : minusB (45 :: decDigits k.natAbs) = true := by simp [minusB]
            unfold rest
            rw [hm, if_pos rfl]
            simp [hk]
          · rename_i hk
            have e : k.toNat = k.natAbs := by omega
            rw [e]
            have hm : minusB (decDigits k.natAbs) = false := by
              unfold minusB
              apply decide_eq_false
              intro hh
              cases hc : decDigits k.natAbs with
              | nil => exact absurd hc (digits_ne _)
              | cons c r =>
                rw [hc] at hh
                simp at hh
                subst hh
                obtain ⟨d, hd⟩ := digit_of_decFrom _ 0 _ (dec_digits k.natAbs) 0 45 (by rw [hc]; rfl)
                obtain ⟨_, _, h3⟩ := digitVal_eq hd
                have e2 : (45 : UInt8).toNat = 45 := rfl
                omega
            unfold rest
            rw [hm, if_neg (by decide)]
            simp [hk]
        have h2 := (hdn n).symm.trans (this ▸ hdn (sgn (minusB l) u))
        have h3 := (Prod.mk.inj h2).1
        have h4 := (Prod.mk.inj h2).2
        have h5 : n.natAbs = (sgn (minusB l) u).natAbs := by
          have a := dec_digits n.natAbs
          rw [h3, dec_digits] at a
          exact (Option.some.inj a).symm
        simp only [decide_eq_decide] at h4
        omega
      rw [← e]; exact hn
    obtain ⟨h1, h2⟩ := p_none hn
    obtain ⟨h3, h4⟩ := none_is hb
    exact ⟨h1.trans h3, h2.trans h4⟩
theorem p_bad {l : List UInt8} (h : rest l = [] ∨ 19 < (rest l).length ∨ ((rest l).head? = some 48 ∧ (minusB l = true ∨ (rest l).length ≠ 1)) ∨ decFrom 0 (rest l) = none) : pV l = 0 ∧ pB l = false := by
  apply p_none
  intro n hn he
  have hx : (rest l = decDigits n.natAbs ∧ minusB l = decide (n < 0)) := by
    subst he
    unfold itoa
    split
    · rename_i hk
      have hm : minusB (45 :: decDigits n.natAbs) = true := by simp [minusB]
      unfold rest
      rw [hm, if_pos rfl]
      simp [hk]
    · rename_i hk
      have e : n.toNat = n.natAbs := by omega
      rw [e]
      have hm : minusB (decDigits n.natAbs) = false := by
        unfold minusB
        apply decide_eq_false
        intro hh
        cases hc : decDigits n.natAbs with
        | nil => exact absurd hc (digits_ne _)
        | cons c r =>
          rw [hc] at hh
          simp at hh
          subst hh
          obtain ⟨d, hd⟩ := digit_of_decFrom _ 0 _ (dec_digits n.natAbs) 0 45 (by rw [hc]; rfl)
          obtain ⟨_, _, h3⟩ := digitVal_eq hd
          have e2 : (45 : UInt8).toNat = 45 := rfl
          omega
      unfold rest
      rw [hm, if_neg (by decide)]
      simp [hk]
  obtain ⟨h1, h2⟩ := hx
  rw [h1, h2] at h
  unfold B64 at hn
  rcases h with h | h | ⟨h, h'⟩ | h
  · exact digits_ne _ h
  · rw [decDigits_length] at h
    have := nDigits_le n.natAbs (by omega)
    omega
  · by_cases h0 : n.natAbs = 0
    · have : n = 0 := by omega
      subst this
      rw [show (0 : Int).natAbs = 0 from rfl, digits_zero] at h'
      simp at h'
    · exact digits_head _ h0 h
  · rw [dec_digits] at h; cases h
end Go.Proofs.YteflmfifhmlpiaaDoor
namespace Go.Proofs.YteflmfifhmlpiaaDoor
open Go.RowKit

def isFig (c : UInt8) : Bool := decide (48 ≤ c.toNat ∧ c.toNat ≤ 57)
def isNam (c : UInt8) : Bool := decide (65 ≤ c.toNat ∧ c.toNat ≤ 90 ∨ 48 ≤ c.toNat ∧ c.toNat ≤ 57)
set_option maxHeartbeats 400000 in
theorem lfigure_at (c : Int) (w : World) (b0 b1 : Bool) (h0 : decide ((48 : Int) ≤ c) = b0) (h1 : decide (c ≤ 57) = b1) :
    Calls Tryd.prog 70 #[.int .u8 c] w fun e w' => e = .returned (.bool (b0 && b1)) ∧ w = w' := by
  cases b0 <;> cases b1
  all_goals
    go_enter Tryd.func70, Tryd.ntmps70
    go_wp2_with fail
    go_ret
    exact ⟨rfl, rfl⟩
theorem lfigure_any (c : UInt8) (w : World) :
    Calls Tryd.prog 70 #[.int .u8 (c.toNat : Int)] w fun e w' => e = .returned (.bool (isFig c)) ∧ w = w' :=
  (lfigure_at c.toNat w _ _ rfl rfl).mono fun _ _ ⟨he, hb⟩ => ⟨he.trans (ret_bool (by
    unfold isFig
    rw [Bool.eq_iff_iff]
    simp only [Bool.and_eq_true, decide_eq_true_eq]
    omega)), hb⟩
set_option maxHeartbeats 400000 in
theorem lnamed_at (c : Int) (w : World) (b0 b1 b2 b3 : Bool) (h0 : decide ((65 : Int) ≤ c) = b0) (h1 : decide (c ≤ 90) = b1) (h2 : decide ((48 : Int) ≤ c) = b2) (h3 : decide (c ≤ 57) = b3) :
    Calls Tryd.prog 72 #[.int .u8 c] w fun e w' => e = .returned (.bool (b0 && b1 || b2 && b3)) ∧ w = w' := by
  cases b0 <;> cases b1 <;> cases b2 <;> cases b3
  all_goals
    go_enter Tryd.func72, Tryd.ntmps72
    go_wp2_with fail
    go_ret
    exact ⟨rfl, rfl⟩
theorem lnamed_any (c : UInt8) (w : World) :
    Calls Tryd.prog 72 #[.int .u8 (c.toNat : Int)] w fun e w' => e = .returned (.bool (isNam c)) ∧ w = w' :=
  (lnamed_at c.toNat w _ _ _ _ rfl rfl rfl rfl).mono fun _ _ ⟨he, hb⟩ => ⟨he.trans (ret_bool (by
    unfold isNam
    rw [Bool.eq_iff_iff]
    simp only [Bool.or_eq_true, Bool.and_eq_true, decide_eq_true_eq]
    omega)), hb⟩

def wordB (l : List UInt8) : Bool := l == [73, 70] || l == [83, 85, 77] || l == [77, 73, 78] || l == [77, 65, 88] || l == [67, 79, 85, 78, 84]
set_option maxHeartbeats 400000 in
theorem lword_at (s : ByteArray) (w : World) (b0 b1 b2 b3 b4 : Bool) (h0 : (s.toList == [73, 70]) = b0) (h1 : (s.toList == [83, 85, 77]) = b1) (h2 : (s.toList == [77, 73, 78]) = b2) (h3 : (s.toList == [77, 65, 88]) = b3) (h4 : (s.toList == [67, 79, 85, 78, 84]) = b4) :
    Calls Tryd.prog 74 #[.string s] w fun e w' => e = .returned (.bool (b0 || b1 || b2 || b3 || b4)) ∧ w = w' := by
  cases b0 with
  | true =>
    go_enter Tryd.func74, Tryd.ntmps74
    go_wp2_with fail
    go_ret
    exact ⟨rfl, rfl⟩
  | false =>
    cases b1 with
    | true =>
      go_enter Tryd.func74, Tryd.ntmps74
      go_wp2_with fail
      go_ret
      exact ⟨rfl, rfl⟩
    | false =>
      cases b2 <;> cases b3 <;> cases b4
      all_goals
        go_enter Tryd.func74, Tryd.ntmps74
        go_wp2_with fail
        go_ret
        exact ⟨rfl, rfl⟩
theorem lword_any (s : ByteArray) (w : World) :
    Calls Tryd.prog 74 #[.string s] w fun e w' => e = .returned (.bool (wordB s.data.toList)) ∧ w = w' :=
  (lword_at s w _ _ _ _ _ rfl rfl rfl rfl rfl).mono fun _ _ ⟨he, hb⟩ => ⟨he.trans (ret_bool (by rw [ByteArray.toList_eq]; rfl)), hb⟩
end Go.Proofs.YteflmfifhmlpiaaDoor
namespace Go.Proofs.YteflmfifhmlpiaaDoor
open Go.RowKit



set_option maxHeartbeats 400000 in
theorem size_any (a : Int) (ha : B64 a) (w : World) :
    Calls Tryd.prog 79 #[.int .i64 a] w fun e w' => e = .returned (.int .u64 (absI a)) ∧ w = w' := by
  by_cases h : a < 0
  · go_enter Tryd.func79, Tryd.ntmps79
    go_wp2
    go_ret
    exact ⟨ret_u64 (by rw [absI_neg h]; unfold B64 at ha; simp only [IntKind.wrap_u64, wrap64]; omega), rfl⟩
  · go_enter Tryd.func79, Tryd.ntmps79
    go_wp2
    go_ret
    exact ⟨ret_u64 (by rw [absI_pos (by omega)]; unfold B64 at ha; simp only [IntKind.wrap_u64]; omega), rfl⟩
end Go.Proofs.YteflmfifhmlpiaaDoor
namespace Go.Proofs.YteflmfifhmlpiaaDoor
open Go.RowKit

def dig (d : Nat) : UInt8 := UInt8.ofNat (48 + d)
theorem conv_one (W : World) (d : Nat) (hd : d < 10) (b : Nat) (hb : W.heap.size = b) :
    Sem.run Tryd.prog (convert 105 9 (.slice (some ⟨b, 0, none⟩) 1 1)) (W.alloc (.cells #[.int .u8 (48 + (d : Int))] 5)) =
      .ok (.string ⟨#[dig d]⟩) (W.alloc (.cells #[.int .u8 (48 + (d : Int))] 5)) := by
  refine run_convert_bytes_back (W.alloc (.cells #[.int .u8 (48 + (d : Int))] 5)) 105 9 5 ⟨b, 0, none⟩ 1 [dig d] Tryd.underlying105 Tryd.underlying5 Tryd.underlying9 ?_
  intro j hj
  have hj0 : j = 0 := by simpa using hj
  subst hj0
  subst hb
  have e : (dig d).toNat = 48 + d := by unfold dig; rw [UInt8.toNat_ofNat']; omega
  simp only [List.getElem_cons_zero, e]
  have h := cell_of_row (W.alloc (.cells #[.int .u8 (48 + (d : Int))] 5)) W.heap.size 0 #[.int .u8 (48 + (d : Int))] 5 (0, 0) (heap_alloc_new W _)
  rw [show ((48 + d : Nat) : Int) = 48 + (d : Int) from by omega]
  exact h

theorem digits_len (u : Nat) (h : u < 18446744073709551616) : (Lib.decDigits u).length ≤ 30 := by
  rw [Lib.decDigits_length]
  by_cases h1 : u ≤ 9223372036854775808
  · have := nDigits_le u h1; omega
  · have : Lib.nDigits u = Lib.nDigits (u / 10) + 1 := Lib.nDigits_big (by omega)
    have := nDigits_le (u / 10) (by omega)
    omega
set_option maxHeartbeats 400000 in
set_option maxRecDepth 10000 in
theorem figures_any (u : Nat) : u < 18446744073709551616 → ∀ w : World,
    Calls Tryd.prog 78 #[.int .u64 u] w fun e w' => e = .returned (.string ⟨(Lib.decDigits u).toArray⟩) ∧ Below w.heap.size w w' := by
  induction u using Nat.strongRecOn with
  | _ u ih =>
    intro hu w
    have hc := conv_one w (u % 10) (by omega) w.heap.size rfl
    rw [show ((u % 10 : Nat) : Int) = (u : Int) % 10 from by omega] at hc
    by_cases h : u < 10
    · have HR : Hid (Lib.decDigits u = [dig u]) := Lib.hid (Lib.decDigits_one h)
      have hm : u % 10 = u := by omega
      rw [hm] at hc
      clear hm ih
      go_enter Tryd.func78, Tryd.ntmps78
      go_wp2_with fail
      go_ret
      exact ⟨ret_str (by rw [HR.out]), (Below.refl _ _).alloc (Nat.le_refl _) _⟩
    · have IH := Lib.hid (ih (u / 10) (by omega) (by omega))
      have HR : Hid (Lib.decDigits u = Lib.decDigits (u / 10) ++ [dig (u % 10)]) := Lib.hid (by rw [Lib.decDigits, dif_neg h]; rfl)
      have hlen := digits_len (u / 10) (by omega)
      rw [show ((u / 10 : Nat) : Int) = (u : Int) / 10 from by omega] at IH
      clear ih
      go_enter Tryd.func78, Tryd.ntmps78
      go_wp2_with fail
      refine (IH.out _).mono ?_
      rintro e w1 ⟨rfl, h1⟩
      go_wp2_with fail
      go_ret
      exact ⟨ret_str (by rw [HR.out, ByteArray.mk_append_mk]), ((Below.refl _ _).alloc (Nat.le_refl _) _).trans (h1.mono (by simp))⟩
set_option maxHeartbeats 400000 in
set_option maxRecDepth 10000 in
theorem rtext_any (a : Int) (ha : B64 a) (w : World) :
    Calls Tryd.prog 63 #[.int .i64 a] w fun e w' => e = .returned (.string ⟨(Lib.itoa a).toArray⟩) ∧ Below w.heap.size w w' := by
  have hn : absI a = (a.natAbs : Int) := by unfold absI; split <;> omega
  have HS := Lib.hid (size_any a ha)
  have HF := Lib.hid (figures_any a.natAbs (by unfold B64 at ha; omega))
  have hlen := digits_len a.natAbs (by unfold B64 at ha; omega)
  rw [hn] at HS
  clear hn ha
  obtain ⟨D, hD⟩ : ∃ D, D = Lib.decDigits a.natAbs := ⟨_, rfl⟩
  rw [← hD] at HF hlen
  by_cases h : a < 0
  · have HR : Hid (Lib.itoa a = 45 :: D) := Lib.hid (by unfold Lib.itoa; rw [if_pos h, hD])
    clear hD
    go_enter Tryd.func63, Tryd.ntmps63
    go_wp2_with fail
    refine (HS.out _).mono ?_; rintro e w1 ⟨rfl, rfl⟩
    go_wp2_with fail
    refine (HF.out _).mono ?_; rintro e w1 ⟨rfl, h1⟩
    go_wp2_with fail
    go_ret
    exact ⟨ret_str (by rw [HR.out, ByteArray.mk_append_mk]; simp), h1⟩
  · have HR : Hid (Lib.itoa a = D) := Lib.hid (by unfold Lib.itoa; rw [if_neg h, hD]; congr 1; omega)
    clear hD
    go_enter Tryd.func63, Tryd.ntmps63
    go_wp2_with fail
    refine (HS.out _).mono ?_; rintro e w1 ⟨rfl, rfl⟩
    go_wp2_with fail
    refine (HF.out _).mono ?_; rintro e w1 ⟨rfl, h1⟩
    go_wp2_with fail
    go_ret
    exact ⟨ret_str (by rw [HR.out]), h1⟩
end Go.Proofs.YteflmfifhmlpiaaDoor
