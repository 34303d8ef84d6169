/- Texts joined: Ret, Mem, StA, Pl, VaAa, NumS, VaB, VaC, NumA, UaA, UaB. -/
import Derived.WalkKit
import Derived.Test.YthaoalmhhgllmaaGreatDoorProg
import Derived.WalkSmall
import Derived.Lib.Hide
import Derived.Lib.AtoiErrMem
import Derived.Deep.CutRange
import Derived.OwnWalk
import Derived.RowKit
import Derived.IntWalk
import Derived.WalkSpells
import Derived.WalkLawsBesides
import Derived.Deep.RegionWith
import Derived.Shelf.Abstract
set_option linter.all false
namespace Go.Proofs.YthaoalmhhgllmaaGreatDoor
theorem ret_bool {a b : Bool} (h : a = b) : Ending.returned (.bool a) = .returned (.bool b) := by rw [h]
theorem ret_int {a b : Int} (h : a = b) : Ending.returned (.int .i64 a) = .returned (.int .i64 b) := by rw [h]
theorem ret_u64 {a b : Int} (h : a = b) : Ending.returned (.int .u64 a) = .returned (.int .u64 b) := by rw [h]
theorem ret_str {a b : ByteArray} (h : a = b) : Ending.returned (.string a) = .returned (.string b) := by rw [h]
theorem ret_pair {a b : Int} {c d : Bool} (h : a = b) (k : c = d) : Ending.returned (.tuple #[.int .i64 a, .bool c]) = .returned (.tuple #[.int .i64 b, .bool d]) := by rw [h, k]
end Go.Proofs.YthaoalmhhgllmaaGreatDoor
namespace Go.Proofs.YthaoalmhhgllmaaGreatDoor
open Go.RowKit
theorem keep_cell {W w1 : World} (hb : Below W.heap.size W w1) {p : Addr} {v : Value} (h : W.cell? p = some v) : w1.cell? p = some v := by
  rw [hb.cell (Lib.lt_of_cell h)]; exact h
theorem keep_frozen {W w1 : World} (hb : Below W.heap.size W w1) {p : Addr} (hp : p.block < W.heap.size) (h : W.frozen? p = false) : w1.frozen? p = false := by
  rw [hb.frozen hp]; exact h

theorem keep_fresh {W w1 : World} {cs : Array Value} {T : TypeId} (hb : Below (W.alloc (.cells cs T)).heap.size (W.alloc (.cells cs T)) w1) (i : Nat) {v : Value} (h : cs[i]? = some v) : w1.cell? ⟨W.heap.size, i, none⟩ = some v :=
  keep_cell hb (by rw [cell_of_row _ _ i cs T (0, 0) (heap_alloc_new W _)]; exact h)

theorem fresh_frozen {W w1 : World} {cs : Array Value} {T : TypeId} (hb : Below (W.alloc (.cells cs T)).heap.size (W.alloc (.cells cs T)) w1) (i : Nat) : w1.frozen? ⟨W.heap.size, i, none⟩ = false :=
  keep_frozen hb (by simp) (by simp [go_sem])
theorem below_up {W0 W w1 : World} (B : Below W0.heap.size W0 W) (b : Below W.heap.size W w1) : Below W0.heap.size W0 w1 := B.trans (b.mono B.size)
end Go.Proofs.YthaoalmhhgllmaaGreatDoor
namespace Go.Proofs.YthaoalmhhgllmaaGreatDoor
open Go.RowKit
def SAt (w : World) (g o : Nat) (l : List ByteArray) : Prop := ∀ (i : Nat) (s : ByteArray), l[i]? = some s → w.cell? ⟨g, o + i, none⟩ = some (.string s)
def findS (s : ByteArray) : List ByteArray → Option Nat
  | [] => none
  | t :: r => if s = t then some 0 else (findS s r).map (· + 1)
def idxS (s : ByteArray) (l : List ByteArray) : Int := match findS s l with | some i => (i : Int) | none => -1
theorem find_hit {s : ByteArray} : ∀ {l : List ByteArray} {i : Nat}, (∀ (j : Nat) (t : ByteArray), j < i → l[j]? = some t → s ≠ t) → l[i]? = some s → findS s l = some i
  | [], i, _, h => by simp at h
  | t :: r, 0, _, h => by simp at h; subst h; simp [findS]
  | t :: r, i + 1, hn, h => by
    have h0 := hn 0 t (by omega) rfl
    have := find_hit (l := r) (i := i) (fun j u hj hu => hn (j + 1) u (by omega) (by simpa using hu)) (by simpa using h)
    simp [findS, h0, this]
theorem find_miss {s : ByteArray} : ∀ {l : List ByteArray}, (∀ (j : Nat) (t : ByteArray), j < l.length → l[j]? = some t → s ≠ t) → findS s l = none
  | [], _ => rfl
  | t :: r, hn => by
    have h0 := hn 0 t (by simp) rfl
    have := find_miss (l := r) (fun j u hj hu => hn (j + 1) u (by simp; omega) (by simpa using hu))
    simp [findS, h0, this]
theorem idx_hit {s : ByteArray} {l : List ByteArray} {i : Nat} (hn : ∀ (j : Nat) (t : ByteArray), j < i → l[j]? = some t → s ≠ t) (h : l[i]? = some s) : idxS s l = (i : Int) := by
  unfold idxS; rw [find_hit hn h]
theorem idx_miss {s : ByteArray} {l : List ByteArray} (hn : ∀ (j : Nat) (t : ByteArray), j < l.length → l[j]? = some t → s ≠ t) : idxS s l = -1 := by
  unfold idxS; rw [find_miss hn]
set_option maxHeartbeats 1000000 in
set_option maxRecDepth 10000 in
theorem sindex_any (w : World) (g o cap : Nat) (l : List ByteArray) (s : ByteArray) (hl : l.length ≤ 1000) (h : SAt w g o l) :
    Calls Tryz.prog 127 #[.slice (some ⟨g, o, none⟩) l.length cap, .string s] w fun e w' => e = .returned (.int .i64 (idxS s l)) ∧ w = w' := by
  have H := Lib.hid h
  clear h
  go_enter Tryz.func127, Tryz.ntmps127
  go_wp2_with fail
  go_loopw [8] (fun vi wr => ∃ i : Nat, i ≤ l.length ∧ vi = .int .i64 (i : Int) ∧ wr = w ∧ Hid (∀ (j : Nat) (t : ByteArray), j < i → l[j]? = some t → s ≠ t)) (fun vi _ => l.length - (intOf vi).toNat)
  case atStart => exact ⟨0, Nat.zero_le _, rfl, rfl, Lib.hid fun j t hj => by omega⟩
  case round =>
    obtain ⟨i, hi, rfl, rfl, HN⟩ := hrel
    by_cases hlt : i < l.length
    · have ht : l[i]? = some (l[i]'hlt) := List.getElem?_eq_getElem hlt
      have q := H.out i _ ht
      have HT := Lib.hid ht
      generalize l[i]'hlt = t at *
      clear ht
      by_cases he : s = t
      · subst he
        have he2 : (s.toList == s.toList) = true := by simp
        go_wp2_with fail
        go_ret
        exact ⟨ret_int (idx_hit HN.out HT.out).symm, by first | rfl | trivial⟩
      · have he2 : (s.toList == t.toList) = false := by
          rw [beq_eq_false_iff_ne, ByteArray.toList_eq, ByteArray.toList_eq]
          intro h
          apply he
          obtain ⟨⟨a⟩⟩ := s
          obtain ⟨⟨b⟩⟩ := t
          simp at h
          rw [h]
        go_wp2_with fail
        go_roundw
        case rel => exact ⟨i + 1, by omega, by go_num, by first | rfl | trivial, Lib.hid fun j u hj hu => by
          by_cases hji : j < i
          · exact HN.out j u hji hu
          · obtain rfl : j = i := by omega
            rw [HT.out] at hu; obtain rfl := Option.some.inj hu; exact he⟩
        case measure => simp [intOf]; omega
    · obtain rfl : i = l.length := by omega
      go_wp2_with fail
      go_ret
      exact ⟨ret_int (idx_miss HN.out).symm, by first | rfl | trivial⟩
set_option maxHeartbeats 1000000 in
set_option maxRecDepth 10000 in
theorem scontains_any (w : World) (g o cap : Nat) (l : List ByteArray) (s : ByteArray) (hl : l.length ≤ 1000) (h : SAt w g o l) :
    Calls Tryz.prog 114 #[.slice (some ⟨g, o, none⟩) l.length cap, .string s] w fun e w' => e = .returned (.bool (findS s l).isSome) ∧ w = w' := by
  have H := Lib.hid h
  clear h
  have hB : ∀ b, decide (0 ≤ idxS s l) = b → (findS s l).isSome = b := by
    intro b hb
    subst hb
    unfold idxS
    cases findS s l with
    | none => rfl
    | some i => simp
  have HB := Lib.hid (hB _ rfl)
  clear hB
  go_enter Tryz.func114, Tryz.ntmps114
  go_wp2_with fail
  refine (sindex_any w g o cap l s hl H.out).mono ?_; rintro e w1 ⟨rfl, rfl⟩
  go_wp2_with fail
  go_ret
  exact ⟨ret_bool HB.out.symm, by first | rfl | trivial⟩
def strL : Nat → List ByteArray
  | 0 => [⟨#[60]⟩, ⟨#[60, 61]⟩, ⟨#[61]⟩, ⟨#[60, 62]⟩, ⟨#[62, 61]⟩, ⟨#[62]⟩]
  | 1 => [⟨#[43]⟩, ⟨#[45]⟩]
  | 2 => [⟨#[42]⟩, ⟨#[47]⟩]
  | _ => []
def Strs (R B : Nat) (w : World) : Prop := (R ≠ 0 ∧ 0 < B) ∧ ∀ i : Nat, i < 3 → ∃ g o cap, (g ≠ R ∧ g < B) ∧ w.cell? ⟨0, i, none⟩ = some (.slice (some ⟨g, o, none⟩) (strL i).length cap) ∧ SAt w g o (strL i)
theorem Strs.keep {R B : Nat} {w w' : World} (h : Strs R B w) (hk : ∀ (p : Addr) (v : Value), p.block ≠ R → p.block < B → w.cell? p = some v → w'.cell? p = some v) : Strs R B w' := by
  refine ⟨h.1, fun i hi => ?_⟩
  obtain ⟨g, o, cap, hg, hc, hs⟩ := h.2 i hi
  exact ⟨g, o, cap, hg, hk _ _ (Ne.symm h.1.1) h.1.2 hc, fun j s hj => hk _ _ hg.1 hg.2 (hs j s hj)⟩
def strV (s : ByteArray) : Int := if (findS s (strL 0)).isSome = true then 0 else if (findS s (strL 1)).isSome = true then 1 else if (findS s (strL 2)).isSome = true then 2 else -1
set_option maxHeartbeats 1000000 in
set_option maxRecDepth 10000 in
theorem strength_any (R B : Nat) (w : World) (s : ByteArray) (h : Strs R B w) :
    Calls Tryz.prog 79 #[.string s] w fun e w' => e = .returned (.int .i64 (strV s)) ∧ w = w' := by
  obtain ⟨_, h⟩ := h
  have H := Lib.hid h
  clear h
  go_enter Tryz.func79, Tryz.ntmps79
  go_wp2_with fail
  go_loopw [4] (fun vi wr => ∃ i : Nat, i ≤ 3 ∧ vi = .int .i64 (i : Int) ∧ wr = w ∧ Hid (∀ j : Nat, j < i → (findS s (strL j)).isSome = false)) (fun vi _ => 3 - (intOf vi).toNat)
  case atStart => exact ⟨0, by omega, rfl, rfl, Lib.hid fun j hj => by omega⟩
  case round =>
    obtain ⟨i, hi, rfl, rfl, HN⟩ := hrel
    by_cases hlt : i < 3
    · obtain ⟨g, o, cap, _, hc, hs⟩ := H.out i hlt
      have hll : (strL i).length ≤ 1000 := by
        match i, hlt with
        | 0, _ => decide
        | 1, _ => decide
        | 2, _ => decide
      have HC := Lib.hid (scontains_any wr g o cap (strL i) s hll hs)
      have hV : Hid ((findS s (strL i)).isSome = true → strV s = (i : Int)) := Lib.hid fun h => by
        unfold strV
        match i, hlt, h with
        | 0, _, h => rw [if_pos h]; rfl
        | 1, _, h => rw [if_neg (by rw [HN.out 0 (by omega)]; decide), if_pos h]; rfl
        | 2, _, h => rw [if_neg (by rw [HN.out 0 (by omega)]; decide), if_neg (by rw [HN.out 1 (by omega)]; decide), if_pos h]; rfl
      generalize hb : (findS s (strL i)).isSome = b at *
      have HB := Lib.hid hb
      clear hb hll hs
      cases b with
      | true =>
        go_wp2_with fail
        refine HC.out.mono ?_; rintro e w1 ⟨rfl, rfl⟩
        go_wp2_with fail
        go_ret
        exact ⟨ret_int (hV.out (by first | rfl | trivial)).symm, by first | rfl | trivial⟩
      | false =>
        go_wp2_with fail
        refine HC.out.mono ?_; rintro e w1 ⟨rfl, rfl⟩
        go_wp2_with fail
        go_roundw
        case rel => exact ⟨i + 1, by omega, by go_num, by first | rfl | trivial, Lib.hid fun j hj => by
          by_cases hji : j < i
          · exact HN.out j hji
          · obtain rfl : j = i := by omega
            exact HB.out⟩
        case measure => simp [intOf]; omega
    · obtain rfl : i = 3 := by omega
      have hV : strV s = -1 := by
        unfold strV
        rw [HN.out 0 (by omega), HN.out 1 (by omega), HN.out 2 (by omega)]; rfl
      go_wp2_with fail
      go_ret
      exact ⟨ret_int hV.symm, by first | rfl | trivial⟩
end Go.Proofs.YthaoalmhhgllmaaGreatDoor
namespace Go.Proofs.YthaoalmhhgllmaaGreatDoor
open Go.RowKit
def B64 (n : Int) : Prop := -9223372036854775808 ≤ n ∧ n ≤ 9223372036854775807
def inI (n : Int) : Bool := decide (-9223372036854775808 ≤ n ∧ n ≤ 9223372036854775807)
def keep (x : Bool) (n : Int) : Int := if x = true then n else 0

theorem inI_iff (n : Int) : inI n = true ↔ B64 n := by unfold inI B64; simp
theorem bool_iff {x y : Bool} (h : x = true ↔ y = true) : x = y := by cases x <;> cases y <;> simp_all
theorem keep_eq {x y : Bool} {n m : Int} (hx : x = y) (h : y = true → n = m) : keep x n = keep y m := by
  subst hx; unfold keep; split
  · exact h ‹_›
  · rfl
theorem wrap_b64 (n : Int) : B64 (wrap64 n) := by unfold B64 wrap64; omega
theorem wrap_in {n : Int} (h : B64 n) : wrap64 n = n := by unfold B64 at h; unfold wrap64; omega
theorem wrap_of {n : Int} (h : inI n = true) : wrap64 n = n := wrap_in ((inI_iff n).1 h)

theorem add_is (a b : Int) (ha : B64 a) (hb : B64 b) :
    ((!decide (0 < a) || !decide (0 < b) || !decide (wrap64 (a + b) < 0)) && (!decide (a < 0) || !decide (b < 0) || !decide (0 ≤ wrap64 (a + b)))) = inI (a + b) := by
  apply bool_iff
  rw [inI_iff]
  unfold B64 wrap64 at *
  simp only [Bool.and_eq_true, Bool.or_eq_true, Bool.not_eq_true', decide_eq_false_iff_not]
  omega
theorem sub_is (a b : Int) (ha : B64 a) (hb : B64 b) :
    ((!decide (0 ≤ a) || !decide (b < 0) || !decide (wrap64 (a - b) < 0)) && (!decide (a < 0) || !decide (0 < b) || !decide (0 ≤ wrap64 (a - b)))) = inI (a - b) := by
  apply bool_iff
  rw [inI_iff]
  unfold B64 wrap64 at *
  simp only [Bool.and_eq_true, Bool.or_eq_true, Bool.not_eq_true', decide_eq_false_iff_not]
  omega

theorem tdiv_facts (c b : Int) : c = b * (c.tdiv b) + c.tmod b ∧ (0 ≤ c → 0 ≤ c.tmod b) ∧ (c ≤ 0 → c.tmod b ≤ 0) ∧ (0 < b → -b < c.tmod b ∧ c.tmod b < b) ∧ (b < 0 → b < c.tmod b ∧ c.tmod b < -b) := by
  have h1 := Int.mul_tdiv_add_tmod c b
  refine ⟨h1.symm, fun h => Int.tmod_nonneg b h, fun h => ?_, fun h => ?_, fun h => ?_⟩
  · have := Int.tmod_nonneg (a := -c) b (by omega)
    rw [Int.neg_tmod] at this
    omega
  · rcases Int.le_total 0 c with hc | hc
    · have h2 := Int.tmod_nonneg b hc
      have h3 := Int.tmod_lt_of_pos c h
      omega
    · have h2 := Int.tmod_nonneg (a := -c) b (by omega)
      have h3 := Int.tmod_lt_of_pos (-c) h
      rw [Int.neg_tmod] at h2 h3
      omega
  · have hb' : 0 < -b := by omega
    rw [← Int.tmod_neg c b]
    rcases Int.le_total 0 c with hc | hc
    · have h2 := Int.tmod_nonneg (-b) hc
      have h3 := Int.tmod_lt_of_pos c hb'
      omega
    · have h2 := Int.tmod_nonneg (a := -c) (-b) (by omega)
      have h3 := Int.tmod_lt_of_pos (-c) hb'
      rw [Int.neg_tmod] at h2 h3
      omega
theorem tdiv_is (a b : Int) (ha : B64 a) (hb : B64 b) (h0 : b ≠ 0) : (!(a == -9223372036854775808) || !(b == -1)) = inI (a.tdiv b) := by
  obtain ⟨h1, h2, h3, h4, h5⟩ := tdiv_facts a b
  apply bool_iff
  rw [inI_iff]
  simp only [Bool.not_eq_true', Bool.or_eq_true, beq_eq_false_iff_ne]
  generalize a.tdiv b = q at *
  generalize a.tmod b = r at *
  unfold B64 at *
  refine ⟨fun h => ?_, fun h => ?_⟩
  rotate_left
  · revert h
    intro hq
    by_cases h : b = -1
    · subst h; omega
    · omega
  · revert h
    intro hn
    by_cases h : b = -1
    · subst h; omega
    · by_cases h' : b = 1
      · subst h'; omega
      · rcases Int.lt_or_lt_of_ne h0 with hb0 | hb0
        · have : b ≤ -2 := by omega
          constructor
          · apply Int.not_lt.1
            intro hc
            have := Int.mul_le_mul_of_nonpos_right (a := -2) (b := b) (c := q) this (by omega)
            omega
          · apply Int.not_lt.1
            intro hc
            have := Int.mul_le_mul_of_nonneg_right (a := b) (b := -2) (c := q) this (by omega)
            omega
        · have : 2 ≤ b := by omega
          constructor
          · apply Int.not_lt.1
            intro hc
            have := Int.mul_le_mul_of_nonpos_right (a := b) (b := 2) (c := q) this (by omega)
            omega
          · apply Int.not_lt.1
            intro hc
            have := Int.mul_le_mul_of_nonneg_right (a := 2) (b := b) (c := q) this (by omega)
            omega
theorem mul_is (a b : Int) (ha : B64 a) (hb : B64 b) (h0 : b ≠ 0) : (inI ((wrap64 (a * b)).tdiv b) && (keep (inI ((wrap64 (a * b)).tdiv b)) ((wrap64 (a * b)).tdiv b) == a)) = inI (a * b) := by
  apply bool_iff
  rw [Bool.and_eq_true, inI_iff (a * b), beq_iff_eq]
  constructor
  · rintro ⟨h1, h2⟩
    rw [h1] at h2
    have h2' : (wrap64 (a * b)).tdiv b = a := h2
    obtain ⟨g1, g2, g3, g4, g5⟩ := tdiv_facts (wrap64 (a * b)) b
    rw [h2'] at g1
    rw [Int.mul_comm b a] at g1
    have hw := wrap_b64 (a * b)
    have hm : ∃ k : Int, wrap64 (a * b) = a * b + 18446744073709551616 * k := by
      refine ⟨-((a * b + 9223372036854775808) / 18446744073709551616), ?_⟩
      unfold wrap64
      have := Int.emod_add_mul_ediv (a * b + 9223372036854775808) 18446744073709551616
      omega
    obtain ⟨k, hk⟩ := hm
    generalize a * b = p at *
    generalize wrap64 p = c at *
    generalize c.tmod b = r at *
    unfold B64 at *
    omega
  · intro h
    rw [wrap_in h]
    have : (a * b).tdiv b = a := Int.mul_tdiv_cancel a h0
    rw [this]
    have hi := (inI_iff a).2 ha
    exact ⟨hi, by rw [hi]; rfl⟩

def absI (a : Int) : Int := if a < 0 then -a else a
theorem absI_neg {a : Int} (h : a < 0) : absI a = -a := by unfold absI; rw [if_pos h]
theorem absI_pos {a : Int} (h : ¬ a < 0) : absI a = a := by unfold absI; rw [if_neg h]
end Go.Proofs.YthaoalmhhgllmaaGreatDoor
namespace Go.Proofs.YthaoalmhhgllmaaGreatDoor
open Go.RowKit
def tNum (ok : Bool) (n : Int) : Int := if ok = true then n else 0
def tFault (ok : Bool) : Int := if ok = true then 0 else 1
def tru (b : Bool) : Int := if b = true then 1 else 0
end Go.Proofs.YthaoalmhhgllmaaGreatDoor
namespace Go.Proofs.YthaoalmhhgllmaaGreatDoor
open Go.RowKit
set_option maxHeartbeats 400000 in
theorem size_any (a : Int) (ha : B64 a) (w : World) :
    Calls Tryz.prog 120 #[.int .i64 a] w fun e w' => e = .returned (.int .u64 (absI a)) ∧ w = w' := by
  by_cases h : a < 0
  · go_enter Tryz.func120, Tryz.ntmps120
    go_wp2
    go_ret
    exact ⟨ret_u64 (by rw [absI_neg h]; unfold B64 at ha; simp only [IntKind.wrap_u64, wrap64]; omega), rfl⟩
  · go_enter Tryz.func120, Tryz.ntmps120
    go_wp2
    go_ret
    exact ⟨ret_u64 (by rw [absI_pos (by omega)]; unfold B64 at ha; simp only [IntKind.wrap_u64]; omega), rfl⟩
end Go.Proofs.YthaoalmhhgllmaaGreatDoor
namespace Go.Proofs.YthaoalmhhgllmaaGreatDoor
open Go.RowKit
def vTold (n : Int) : Int × Int := (tNum (inI n) (keep (inI n) n), tFault (inI n))
def vOp (l : List UInt8) (a b : Int) : Option (Int × Int) :=
  if l = [43] then some (vTold (a + b)) else if l = [45] then some (vTold (a - b)) else if l = [42] then some (vTold (a * b))
  else if l = [47] then some (if b = 0 then (0, 2) else vTold (a.tdiv b))
  else if l = [60] then some (tru (decide (a < b)), 0) else if l = [60, 61] then some (tru (decide (a ≤ b)), 0) else if l = [61] then some (tru (a == b), 0)
  else if l = [60, 62] then some (tru (a != b), 0) else if l = [62, 61] then some (tru (decide (b ≤ a)), 0) else if l = [62] then some (tru (decide (b < a)), 0) else none
def oNum (o : Option (Int × Int)) : Int := match o with | some p => p.1 | none => 0
def oFault (o : Option (Int × Int)) : Int := match o with | some p => p.2 | none => 0
end Go.Proofs.YthaoalmhhgllmaaGreatDoor
namespace Go.Proofs.YthaoalmhhgllmaaGreatDoor
open Go.RowKit
def doNum (l : List UInt8) (n f m g : Int) : Int := if f = 0 ∧ g = 0 then oNum (vOp l n m) else 0
def doFault (l : List UInt8) (n f m g : Int) : Int := if (vOp l n m).isSome = true then (if f = 0 then (if g = 0 then oFault (vOp l n m) else g) else f) else 0

end Go.Proofs.YthaoalmhhgllmaaGreatDoor
namespace Go.Proofs.YthaoalmhhgllmaaGreatDoor
open Go.RowKit
def allUpTo (bs : List Bool) (k : Nat) : Bool := (bs.take k).all id
theorem allUpTo_zero (bs : List Bool) : allUpTo bs 0 = true := rfl
theorem allUpTo_succ (bs : List Bool) (k : Nat) (h : k < bs.length) (ha : allUpTo bs k = true) (hb : bs.getD k false = true) : allUpTo bs (k + 1) = true := by
  unfold allUpTo at *
  rw [List.take_succ_eq_append_getElem h, List.all_append, ha]
  simp [List.getD_eq_getElem?_getD, h] at hb
  simp [hb]
theorem all_false (bs : List Bool) (k : Nat) (h : k < bs.length) (hb : bs.getD k false = false) : bs.all id = false := by
  simp [List.getD_eq_getElem?_getD, h] at hb
  rw [List.all_eq_false]
  exact ⟨bs[k], List.getElem_mem h, by simp [hb]⟩
theorem all_true (bs : List Bool) (k : Nat) (h : bs.length ≤ k) (ha : allUpTo bs k = true) : bs.all id = true := by
  unfold allUpTo at ha
  rwa [List.take_of_length_le h] at ha

set_option maxHeartbeats 400000 in
theorem all_any (bs : List Bool) (b : Nat) (w : World) (hn : bs.length ≤ 1000) (hc : ∀ k, k < bs.length → w.cell? ⟨b, k, none⟩ = some (.bool (bs.getD k false))) :
    Calls Tryz.prog 116 #[.slice (some ⟨b, 0, none⟩) bs.length bs.length] w fun e w' => e = .returned (.bool (bs.all id)) ∧ w = w' := by
  have HC := Lib.hid hc
  clear hc
  go_enter Tryz.func116, Tryz.ntmps116
  go_wp2
  go_loop [7] (fun i => ∃ k : Nat, k ≤ bs.length ∧ i = .int .i64 k ∧ allUpTo bs k = true) (fun i => bs.length - (intOf i).toNat)
  case atStart => exact ⟨0, Nat.zero_le _, rfl, allUpTo_zero bs⟩
  case round =>
    obtain ⟨k, hk, rfl, ha⟩ := hrel
    have HA := Lib.hid ha
    clear ha
    by_cases hlt : k < bs.length
    · have hcell := HC.out k hlt
      cases hb : bs.getD k false
      · have hf := all_false bs k hlt hb
        rw [hb] at hcell
        have HF := Lib.hid hf
        clear hf hb
        go_wp2
        go_ret
        exact ⟨ret_bool HF.out.symm, rfl⟩
      · have hs := Lib.hid (allUpTo_succ bs k hlt HA.out hb)
        rw [hb] at hcell
        clear hb
        go_wp2
        go_round
        case rel => exact ⟨k + 1, by omega, by go_num, hs.out⟩
        case measure => simp [intOf]; omega
    · have hf := Lib.hid (all_true bs k (by omega) HA.out)
      go_wp2
      go_ret
      exact ⟨ret_bool hf.out.symm, rfl⟩
theorem all3 (x y z : Bool) (b : Nat) (w : World) (h0 : w.cell? ⟨b, 0, none⟩ = some (.bool x)) (h1 : w.cell? ⟨b, 1, none⟩ = some (.bool y)) (h2 : w.cell? ⟨b, 2, none⟩ = some (.bool z)) :
    Calls Tryz.prog 116 #[.slice (some ⟨b, 0, none⟩) 3 3] w fun e w' => e = .returned (.bool (x && y && z)) ∧ w = w' := by
  have h := all_any [x, y, z] b w (by simp) (fun k hk => by
    match k, hk with
    | 0, _ => exact h0
    | 1, _ => exact h1
    | 2, _ => exact h2)
  refine Calls.mono h fun e w' ⟨he, hw⟩ => ⟨he.trans (ret_bool (by simp [Bool.and_assoc])), hw⟩
theorem all2 (x y : Bool) (b : Nat) (w : World) (h0 : w.cell? ⟨b, 0, none⟩ = some (.bool x)) (h1 : w.cell? ⟨b, 1, none⟩ = some (.bool y)) :
    Calls Tryz.prog 116 #[.slice (some ⟨b, 0, none⟩) 2 2] w fun e w' => e = .returned (.bool (x && y)) ∧ w = w' := by
  have h := all_any [x, y] b w (by simp) (fun k hk => by
    match k, hk with
    | 0, _ => exact h0
    | 1, _ => exact h1)
  refine Calls.mono h fun e w' ⟨he, hw⟩ => ⟨he.trans (ret_bool (by simp)), hw⟩

theorem fresh_cell (W : World) (vs : Array Value) (t : TypeId) (b k : Nat) (hb : W.heap.size = b) : (W.alloc (.cells vs t)).cell? ⟨b, k, none⟩ = vs[k]? := by
  subst hb
  exact cell_of_row _ _ k vs t (0, 0) (heap_alloc_new W _)
theorem all3f (x y z : Bool) (b : Nat) (W : World) (hb : W.heap.size = b) :
    Calls Tryz.prog 116 #[.slice (some ⟨b, 0, none⟩) 3 3] (W.alloc (.cells #[.bool x, .bool y, .bool z] 4)) fun e w' => e = .returned (.bool (x && y && z)) ∧ W.alloc (.cells #[.bool x, .bool y, .bool z] 4) = w' :=
  all3 x y z b _ (fresh_cell W _ 4 b 0 hb) (fresh_cell W _ 4 b 1 hb) (fresh_cell W _ 4 b 2 hb)
theorem all2f (x y : Bool) (b : Nat) (W : World) (hb : W.heap.size = b) :
    Calls Tryz.prog 116 #[.slice (some ⟨b, 0, none⟩) 2 2] (W.alloc (.cells #[.bool x, .bool y] 4)) fun e w' => e = .returned (.bool (x && y)) ∧ W.alloc (.cells #[.bool x, .bool y] 4) = w' :=
  all2 x y b _ (fresh_cell W _ 4 b 0 hb) (fresh_cell W _ 4 b 1 hb)
theorem all2fd (x y : Bool) (b : Nat) (W : World) (hb : W.heap.size = b) :
    Calls Tryz.prog 116 #[.slice (some ⟨b, 0, none⟩) 2 2] (W.alloc (.cells #[.bool x, .bool y] 4)).drew fun e w' => e = .returned (.bool (x && y)) ∧ (W.alloc (.cells #[.bool x, .bool y] 4)).drew = w' :=
  all2 x y b _ (fresh_cell W _ 4 b 0 hb) (fresh_cell W _ 4 b 1 hb)

set_option maxHeartbeats 400000 in
theorem told_any (n : Int) (x : Bool) (w : World) :
    Calls Tryz.prog 117 #[.int .i64 n, .bool x] w fun e w' => e = .returned (.tuple #[.int .i64 (keep x n), .bool x]) ∧ w = w' := by
  cases x
  · go_enter Tryz.func117, Tryz.ntmps117
    go_wp2
    go_ret2
    exact ⟨rfl, rfl⟩
  · go_enter Tryz.func117, Tryz.ntmps117
    go_wp2
    go_ret2
    exact ⟨rfl, rfl⟩

set_option maxHeartbeats 400000 in
theorem add_any (a b : Int) (ha : B64 a) (hb : B64 b) (w : World) :
    Calls Tryz.prog 118 #[.int .i64 a, .int .i64 b] w fun e w' => e = .returned (.tuple #[.int .i64 (keep (inI (a + b)) (a + b)), .bool (inI (a + b))]) ∧ Below w.heap.size w w' := by
  have HF := Lib.hid (add_is a b ha hb)
  clear ha hb
  go_enter Tryz.func118, Tryz.ntmps118
  go_wp2_with fail
  refine (all3f _ _ _ _ _ rfl).mono ?_
  rintro e w1 ⟨rfl, rfl⟩
  go_wp2_with fail
  refine (all3f _ _ _ _ _ (by simp)).mono ?_
  rintro e w1 ⟨rfl, rfl⟩
  go_wp2_with fail
  refine (all2f _ _ _ _ (by simp)).mono ?_
  rintro e w1 ⟨rfl, rfl⟩
  go_wp2_with fail
  refine (told_any _ _ _).mono ?_
  rintro e w1 ⟨rfl, rfl⟩
  go_wp2_with fail
  go_ret2
  exact ⟨ret_pair (keep_eq HF.out wrap_of) HF.out, (((Below.refl _ _).alloc (Nat.le_refl _) _).alloc (by simp) _).alloc (by simp; omega) _⟩

set_option maxHeartbeats 400000 in
theorem sub_any (a b : Int) (ha : B64 a) (hb : B64 b) (w : World) :
    Calls Tryz.prog 82 #[.int .i64 a, .int .i64 b] w fun e w' => e = .returned (.tuple #[.int .i64 (keep (inI (a - b)) (a - b)), .bool (inI (a - b))]) ∧ Below w.heap.size w w' := by
  have HF := Lib.hid (sub_is a b ha hb)
  clear ha hb
  go_enter Tryz.func82, Tryz.ntmps82
  go_wp2_with fail
  refine (all3f _ _ _ _ _ rfl).mono ?_
  rintro e w1 ⟨rfl, rfl⟩
  go_wp2_with fail
  refine (all3f _ _ _ _ _ (by simp)).mono ?_
  rintro e w1 ⟨rfl, rfl⟩
  go_wp2_with fail
  refine (all2f _ _ _ _ (by simp)).mono ?_
  rintro e w1 ⟨rfl, rfl⟩
  go_wp2_with fail
  refine (told_any _ _ _).mono ?_
  rintro e w1 ⟨rfl, rfl⟩
  go_wp2_with fail
  go_ret2
  exact ⟨ret_pair (keep_eq HF.out wrap_of) HF.out, (((Below.refl _ _).alloc (Nat.le_refl _) _).alloc (by simp) _).alloc (by simp; omega) _⟩

set_option maxHeartbeats 400000 in
theorem neg_any (a : Int) (ha : B64 a) (w : World) :
    Calls Tryz.prog 51 #[.int .i64 a] w fun e w' => e = .returned (.tuple #[.int .i64 (keep (inI (-a)) (-a)), .bool (inI (-a))]) ∧ Below w.heap.size w w' := by
  have e0 : (0 : Int) - a = -a := by omega
  have H := Lib.hid (sub_any 0 a (by unfold B64; omega) ha)
  rw [e0] at H
  clear ha e0
  go_enter Tryz.func51, Tryz.ntmps51
  go_wp2_with fail
  refine (H.out _).mono ?_
  rintro e w1 ⟨rfl, hb⟩
  go_wp2_with fail
  go_ret2
  exact ⟨rfl, hb⟩

set_option maxHeartbeats 400000 in
theorem div_any (a b : Int) (ha : B64 a) (hb : B64 b) (h0 : b ≠ 0) (w : World) :
    Calls Tryz.prog 88 #[.int .i64 a, .int .i64 b] w fun e w' => e = .returned (.tuple #[.int .i64 (keep (inI (a.tdiv b)) (a.tdiv b)), .bool (inI (a.tdiv b))]) ∧ Below w.heap.size w w' := by
  have HF := Lib.hid (tdiv_is a b ha hb h0)
  clear ha hb
  have hz : (b == 0) = false := by simpa using h0
  go_enter Tryz.func88, Tryz.ntmps88
  go_wp2_with fail
  go_region_with ((first | (go_at_call 116; refine (all2fd _ _ _ _ rfl).mono ?_; rintro e w1 ⟨rfl, rfl⟩) | (go_at_call 117; refine (told_any _ _ _).mono ?_; rintro e w1 ⟨rfl, rfl⟩)))
  all_goals
    go_wp2
    go_ret2
    exact ⟨ret_pair (keep_eq HF.out fun h => (IntWalk.i64_left _).trans (wrap_of h)) HF.out, below_drewN ((Below.refl _ _).alloc (Nat.le_refl _) _) 1⟩

set_option maxHeartbeats 400000 in
theorem mul_zero (a : Int) (w : World) :
    Calls Tryz.prog 86 #[.int .i64 a, .int .i64 0] w fun e w' => e = .returned (.tuple #[.int .i64 0, .bool true]) ∧ w = w' := by
  go_enter Tryz.func86, Tryz.ntmps86
  go_wp2
  go_ret2
  exact ⟨rfl, rfl⟩

set_option maxHeartbeats 400000 in
theorem mul_ne (a b : Int) (ha : B64 a) (hb : B64 b) (h0 : b ≠ 0) (w : World) :
    Calls Tryz.prog 86 #[.int .i64 a, .int .i64 b] w fun e w' => e = .returned (.tuple #[.int .i64 (keep (inI (a * b)) (a * b)), .bool (inI (a * b))]) ∧ Below w.heap.size w w' := by
  have HF := Lib.hid (mul_is a b ha hb h0)
  have HD := Lib.hid (div_any (wrap64 (a * b)) b (wrap_b64 _) hb h0)
  clear ha hb
  have hz : (b == 0) = false := by simpa using h0
  go_enter Tryz.func86, Tryz.ntmps86
  go_wp2_with fail
  refine (HD.out _).mono ?_
  rintro e w1 ⟨rfl, hb1⟩
  go_wp2_with fail
  refine (all2f _ _ _ _ rfl).mono ?_
  rintro e w2 ⟨rfl, rfl⟩
  go_wp2_with fail
  refine (told_any _ _ _).mono ?_
  rintro e w2 ⟨rfl, rfl⟩
  go_wp2_with fail
  go_ret2
  exact ⟨ret_pair (keep_eq HF.out wrap_of) HF.out, hb1.alloc hb1.size _⟩

theorem mul_any (a b : Int) (ha : B64 a) (hb : B64 b) (w : World) :
    Calls Tryz.prog 86 #[.int .i64 a, .int .i64 b] w fun e w' => e = .returned (.tuple #[.int .i64 (keep (inI (a * b)) (a * b)), .bool (inI (a * b))]) ∧ Below w.heap.size w w' := by
  by_cases h0 : b = 0
  · subst h0
    refine (mul_zero a w).mono fun e w' ⟨he, hw⟩ => ⟨he.trans (ret_pair ?_ ?_), hw ▸ Below.refl _ _⟩
    · rw [Int.mul_zero]; rfl
    · rw [Int.mul_zero]; rfl
  · exact mul_ne a b ha hb h0 w
end Go.Proofs.YthaoalmhhgllmaaGreatDoor
namespace Go.Proofs.YthaoalmhhgllmaaGreatDoor
open Go.RowKit
structure ActC (f : Nat) (g : Int → Int → Int × Int) : Prop where
  enters : ∀ (args : Array Value) (w : World), (callFunc f args).run Tryz.prog w = .ok (.enter f args) w
  runs : ∀ a b : Int, B64 a → B64 b → ∀ w, Calls Tryz.prog f #[.int .i64 a, .int .i64 b] w fun e w' => e = .returned (.agg #[.int .i64 (g a b).1, .int .i64 (g a b).2]) ∧ Below w.heap.size w w'

set_option maxHeartbeats 400000 in
theorem utold_any (n : Int) (ok : Bool) (w : World) :
    Calls Tryz.prog 50 #[.int .i64 n, .bool ok] w fun e w' => e = .returned (.agg #[.int .i64 (tNum ok n), .int .i64 (tFault ok)]) ∧ Below w.heap.size w w' := by
  cases ok
  · go_enter Tryz.func50, Tryz.ntmps50
    go_wp2_with fail
    exact bodyPost_ret (v := .agg #[.int .i64 0, .int .i64 1]) (by simp [results, Tryz.results50, go_sem]) rfl ⟨rfl, (Below.refl _ _).alloc (Nat.le_refl _) _⟩
  · go_enter Tryz.func50, Tryz.ntmps50
    go_wp2_with fail
    exact bodyPost_ret (v := .agg #[.int .i64 n, .int .i64 0]) (by simp [results, Tryz.results50, go_sem]) rfl ⟨rfl, (Below.refl _ _).alloc (Nat.le_refl _) _⟩
set_option maxHeartbeats 400000 in
theorem utruth_any (b : Bool) (w : World) :
    Calls Tryz.prog 90 #[.bool b] w fun e w' => e = .returned (.agg #[.int .i64 (tru b), .int .i64 0]) ∧ Below w.heap.size w w' := by
  cases b
  · go_enter Tryz.func90, Tryz.ntmps90
    go_wp2_with fail
    exact bodyPost_ret (v := .agg #[.int .i64 0, .int .i64 0]) (by simp [results, Tryz.results90, go_sem]) rfl ⟨rfl, (Below.refl _ _).alloc (Nat.le_refl _) _⟩
  · go_enter Tryz.func90, Tryz.ntmps90
    go_wp2_with fail
    exact bodyPost_ret (v := .agg #[.int .i64 1, .int .i64 0]) (by simp [results, Tryz.results90, go_sem]) rfl ⟨rfl, (Below.refl _ _).alloc (Nat.le_refl _) _⟩

set_option maxHeartbeats 400000 in
theorem act_add : ActC 83 fun a b => vTold (a + b) where
  enters := fun args w => enters_of Tryz.func83 (by kernel_rfl) rfl args w
  runs := fun a b ha hb w => by
    have H := Lib.hid (add_any a b ha hb)
    clear ha hb
    go_enter Tryz.func83, Tryz.ntmps83
    go_wp2_with fail
    refine (H.out _).mono ?_; rintro e w1 ⟨rfl, b1⟩
    have k10 := keep_cell b1 (p := ⟨w.heap.size, 0, none⟩) (v := .int .i64 0) (by simp [go_sem])
    have k11 := keep_cell b1 (p := ⟨w.heap.size, 1, none⟩) (v := .int .i64 0) (by simp [go_sem])
    have f10 := keep_frozen b1 (p := ⟨w.heap.size, 0, none⟩) (by simp) (by simp [go_sem])
    have f11 := keep_frozen b1 (p := ⟨w.heap.size, 1, none⟩) (by simp) (by simp [go_sem])
    have h1 : Below w.heap.size w w1 := ((Below.refl _ _).alloc (Nat.le_refl _) _).trans (b1.mono (by simp))
    have z1 : w.heap.size < w1.heap.size := Lib.lt_of_cell k10
    clear b1
    go_wp2_with fail
    refine (utold_any _ _ _).mono ?_; rintro e w2 ⟨rfl, b2⟩
    have k20 := keep_cell b2 k10
    have k21 := keep_cell b2 k11
    have f20 := keep_frozen b2 z1 f10
    have f21 := keep_frozen b2 z1 f11
    have h2 := h1.trans (b2.mono h1.size)
    have z2 : w.heap.size < w2.heap.size := Lib.lt_of_cell k20
    clear b2 k10 k11 f10 f11 h1 z1
    go_wp2_with fail
    exact bodyPost_ret (v := .agg #[.int .i64 (tNum (inI (a + b)) (keep (inI (a + b)) (a + b))), .int .i64 (tFault (inI (a + b)))]) (by simp [results, Tryz.results83, go_sem, k20, k21]) rfl ⟨rfl, (h2.setCell (by simp) _).setCell (by simp) _⟩
set_option maxHeartbeats 400000 in
theorem act_sub : ActC 84 fun a b => vTold (a - b) where
  enters := fun args w => enters_of Tryz.func84 (by kernel_rfl) rfl args w
  runs := fun a b ha hb w => by
    have H := Lib.hid (sub_any a b ha hb)
    clear ha hb
    go_enter Tryz.func84, Tryz.ntmps84
    go_wp2_with fail
    refine (H.out _).mono ?_; rintro e w1 ⟨rfl, b1⟩
    have k10 := keep_cell b1 (p := ⟨w.heap.size, 0, none⟩) (v := .int .i64 0) (by simp [go_sem])
    have k11 := keep_cell b1 (p := ⟨w.heap.size, 1, none⟩) (v := .int .i64 0) (by simp [go_sem])
    have f10 := keep_frozen b1 (p := ⟨w.heap.size, 0, none⟩) (by simp) (by simp [go_sem])
    have f11 := keep_frozen b1 (p := ⟨w.heap.size, 1, none⟩) (by simp) (by simp [go_sem])
    have h1 : Below w.heap.size w w1 := ((Below.refl _ _).alloc (Nat.le_refl _) _).trans (b1.mono (by simp))
    have z1 : w.heap.size < w1.heap.size := Lib.lt_of_cell k10
    clear b1
    go_wp2_with fail
    refine (utold_any _ _ _).mono ?_; rintro e w2 ⟨rfl, b2⟩
    have k20 := keep_cell b2 k10
    have k21 := keep_cell b2 k11
    have f20 := keep_frozen b2 z1 f10
    have f21 := keep_frozen b2 z1 f11
    have h2 := h1.trans (b2.mono h1.size)
    have z2 : w.heap.size < w2.heap.size := Lib.lt_of_cell k20
    clear b2 k10 k11 f10 f11 h1 z1
    go_wp2_with fail
    exact bodyPost_ret (v := .agg #[.int .i64 (tNum (inI (a - b)) (keep (inI (a - b)) (a - b))), .int .i64 (tFault (inI (a - b)))]) (by simp [results, Tryz.results84, go_sem, k20, k21]) rfl ⟨rfl, (h2.setCell (by simp) _).setCell (by simp) _⟩
set_option maxHeartbeats 400000 in
theorem act_mul : ActC 85 fun a b => vTold (a * b) where
  enters := fun args w => enters_of Tryz.func85 (by kernel_rfl) rfl args w
  runs := fun a b ha hb w => by
    have H := Lib.hid (mul_any a b ha hb)
    clear ha hb
    go_enter Tryz.func85, Tryz.ntmps85
    go_wp2_with fail
    refine (H.out _).mono ?_; rintro e w1 ⟨rfl, b1⟩
    have k10 := keep_cell b1 (p := ⟨w.heap.size, 0, none⟩) (v := .int .i64 0) (by simp [go_sem])
    have k11 := keep_cell b1 (p := ⟨w.heap.size, 1, none⟩) (v := .int .i64 0) (by simp [go_sem])
    have f10 := keep_frozen b1 (p := ⟨w.heap.size, 0, none⟩) (by simp) (by simp [go_sem])
    have f11 := keep_frozen b1 (p := ⟨w.heap.size, 1, none⟩) (by simp) (by simp [go_sem])
    have h1 : Below w.heap.size w w1 := ((Below.refl _ _).alloc (Nat.le_refl _) _).trans (b1.mono (by simp))
    have z1 : w.heap.size < w1.heap.size := Lib.lt_of_cell k10
    clear b1
    go_wp2_with fail
    refine (utold_any _ _ _).mono ?_; rintro e w2 ⟨rfl, b2⟩
    have k20 := keep_cell b2 k10
    have k21 := keep_cell b2 k11
    have f20 := keep_frozen b2 z1 f10
    have f21 := keep_frozen b2 z1 f11
    have h2 := h1.trans (b2.mono h1.size)
    have z2 : w.heap.size < w2.heap.size := Lib.lt_of_cell k20
    clear b2 k10 k11 f10 f11 h1 z1
    go_wp2_with fail
    exact bodyPost_ret (v := .agg #[.int .i64 (tNum (inI (a * b)) (keep (inI (a * b)) (a * b))), .int .i64 (tFault (inI (a * b)))]) (by simp [results, Tryz.results85, go_sem, k20, k21]) rfl ⟨rfl, (h2.setCell (by simp) _).setCell (by simp) _⟩
set_option maxHeartbeats 400000 in
theorem act_div : ActC 87 fun a b => if b = 0 then (0, 2) else vTold (a.tdiv b) where
  enters := fun args w => enters_of Tryz.func87 (by kernel_rfl) rfl args w
  runs := fun a b ha hb w => by
    by_cases hz : b = 0
    · subst hz
      go_enter Tryz.func87, Tryz.ntmps87
      go_wp2_with fail
      exact bodyPost_ret (v := .agg #[.int .i64 0, .int .i64 2]) (by simp [results, Tryz.results87, go_sem]) rfl ⟨rfl, (Below.refl _ _).alloc (Nat.le_refl _) _⟩
    · have H := Lib.hid (div_any a b ha hb hz)
      rw [if_neg hz]
      have hz1 : (b == 0) = false := by rw [beq_eq_false_iff_ne]; exact hz
      clear ha hb hz
      go_enter Tryz.func87, Tryz.ntmps87
      go_wp2_with fail
      refine (H.out _).mono ?_; rintro e w1 ⟨rfl, b1⟩
      have k10 := keep_cell b1 (p := ⟨w.heap.size, 0, none⟩) (v := .int .i64 0) (by simp [go_sem])
      have k11 := keep_cell b1 (p := ⟨w.heap.size, 1, none⟩) (v := .int .i64 0) (by simp [go_sem])
      have f10 := keep_frozen b1 (p := ⟨w.heap.size, 0, none⟩) (by simp) (by simp [go_sem])
      have f11 := keep_frozen b1 (p := ⟨w.heap.size, 1, none⟩) (by simp) (by simp [go_sem])
      have h1 : Below w.heap.size w w1 := ((Below.refl _ _).alloc (Nat.le_refl _) _).trans (b1.mono (by simp))
      have z1 : w.heap.size < w1.heap.size := Lib.lt_of_cell k10
      clear b1
      go_wp2_with fail
      refine (utold_any _ _ _).mono ?_; rintro e w2 ⟨rfl, b2⟩
      have k20 := keep_cell b2 k10
      have k21 := keep_cell b2 k11
      have f20 := keep_frozen b2 z1 f10
      have f21 := keep_frozen b2 z1 f11
      have h2 := h1.trans (b2.mono h1.size)
      have z2 : w.heap.size < w2.heap.size := Lib.lt_of_cell k20
      clear b2 k10 k11 f10 f11 h1 z1
      go_wp2_with fail
      exact bodyPost_ret (v := .agg #[.int .i64 (tNum (inI (a.tdiv b)) (keep (inI (a.tdiv b)) (a.tdiv b))), .int .i64 (tFault (inI (a.tdiv b)))]) (by simp [results, Tryz.results87, go_sem, k20, k21]) rfl ⟨rfl, (h2.setCell (by simp) _).setCell (by simp) _⟩
set_option maxHeartbeats 400000 in
theorem act_neg : ActC 49 fun _ b => vTold (-b) where
  enters := fun args w => enters_of Tryz.func49 (by kernel_rfl) rfl args w
  runs := fun a b _ hb w => by
    have H := Lib.hid (neg_any b hb)
    clear hb
    go_enter Tryz.func49, Tryz.ntmps49
    go_wp2_with fail
    refine (H.out _).mono ?_; rintro e w1 ⟨rfl, b1⟩
    have k10 := keep_cell b1 (p := ⟨w.heap.size, 0, none⟩) (v := .int .i64 0) (by simp [go_sem])
    have k11 := keep_cell b1 (p := ⟨w.heap.size, 1, none⟩) (v := .int .i64 0) (by simp [go_sem])
    have f10 := keep_frozen b1 (p := ⟨w.heap.size, 0, none⟩) (by simp) (by simp [go_sem])
    have f11 := keep_frozen b1 (p := ⟨w.heap.size, 1, none⟩) (by simp) (by simp [go_sem])
    have h1 : Below w.heap.size w w1 := ((Below.refl _ _).alloc (Nat.le_refl _) _).trans (b1.mono (by simp))
    have z1 : w.heap.size < w1.heap.size := Lib.lt_of_cell k10
    clear b1
    go_wp2_with fail
    refine (utold_any _ _ _).mono ?_; rintro e w2 ⟨rfl, b2⟩
    have k20 := keep_cell b2 k10
    have k21 := keep_cell b2 k11
    have f20 := keep_frozen b2 z1 f10
    have f21 := keep_frozen b2 z1 f11
    have h2 := h1.trans (b2.mono h1.size)
    have z2 : w.heap.size < w2.heap.size := Lib.lt_of_cell k20
    clear b2 k10 k11 f10 f11 h1 z1
    go_wp2_with fail
    exact bodyPost_ret (v := .agg #[.int .i64 (tNum (inI (-b)) (keep (inI (-b)) (-b))), .int .i64 (tFault (inI (-b)))]) (by simp [results, Tryz.results49, go_sem, k20, k21]) rfl ⟨rfl, (h2.setCell (by simp) _).setCell (by simp) _⟩
set_option maxHeartbeats 400000 in
theorem act_lt : ActC 89 fun a b => (tru (decide (a < b)), 0) where
  enters := fun args w => enters_of Tryz.func89 (by kernel_rfl) rfl args w
  runs := fun a b _ _ w => by
    go_enter Tryz.func89, Tryz.ntmps89
    go_wp2_with fail
    refine (utruth_any (decide (a < b)) _).mono ?_; rintro e w1 ⟨rfl, b1⟩
    have k10 := keep_cell b1 (p := ⟨w.heap.size, 0, none⟩) (v := .int .i64 0) (by simp [go_sem])
    have k11 := keep_cell b1 (p := ⟨w.heap.size, 1, none⟩) (v := .int .i64 0) (by simp [go_sem])
    have f10 := keep_frozen b1 (p := ⟨w.heap.size, 0, none⟩) (by simp) (by simp [go_sem])
    have f11 := keep_frozen b1 (p := ⟨w.heap.size, 1, none⟩) (by simp) (by simp [go_sem])
    have h1 : Below w.heap.size w w1 := ((Below.refl _ _).alloc (Nat.le_refl _) _).trans (b1.mono (by simp))
    have z1 : w.heap.size < w1.heap.size := Lib.lt_of_cell k10
    clear b1
    go_wp2_with fail
    exact bodyPost_ret (v := .agg #[.int .i64 (tru (decide (a < b))), .int .i64 0]) (by simp [results, Tryz.results89, go_sem, k10, k11]) rfl ⟨rfl, (h1.setCell (by simp) _).setCell (by simp) _⟩
set_option maxHeartbeats 400000 in
theorem act_le : ActC 91 fun a b => (tru (decide (a ≤ b)), 0) where
  enters := fun args w => enters_of Tryz.func91 (by kernel_rfl) rfl args w
  runs := fun a b _ _ w => by
    go_enter Tryz.func91, Tryz.ntmps91
    go_wp2_with fail
    refine (utruth_any (decide (a ≤ b)) _).mono ?_; rintro e w1 ⟨rfl, b1⟩
    have k10 := keep_cell b1 (p := ⟨w.heap.size, 0, none⟩) (v := .int .i64 0) (by simp [go_sem])
    have k11 := keep_cell b1 (p := ⟨w.heap.size, 1, none⟩) (v := .int .i64 0) (by simp [go_sem])
    have f10 := keep_frozen b1 (p := ⟨w.heap.size, 0, none⟩) (by simp) (by simp [go_sem])
    have f11 := keep_frozen b1 (p := ⟨w.heap.size, 1, none⟩) (by simp) (by simp [go_sem])
    have h1 : Below w.heap.size w w1 := ((Below.refl _ _).alloc (Nat.le_refl _) _).trans (b1.mono (by simp))
    have z1 : w.heap.size < w1.heap.size := Lib.lt_of_cell k10
    clear b1
    go_wp2_with fail
    exact bodyPost_ret (v := .agg #[.int .i64 (tru (decide (a ≤ b))), .int .i64 0]) (by simp [results, Tryz.results91, go_sem, k10, k11]) rfl ⟨rfl, (h1.setCell (by simp) _).setCell (by simp) _⟩
set_option maxHeartbeats 400000 in
theorem act_eq : ActC 92 fun a b => (tru (a == b), 0) where
  enters := fun args w => enters_of Tryz.func92 (by kernel_rfl) rfl args w
  runs := fun a b _ _ w => by
    go_enter Tryz.func92, Tryz.ntmps92
    go_wp2_with fail
    refine (utruth_any (a == b) _).mono ?_; rintro e w1 ⟨rfl, b1⟩
    have k10 := keep_cell b1 (p := ⟨w.heap.size, 0, none⟩) (v := .int .i64 0) (by simp [go_sem])
    have k11 := keep_cell b1 (p := ⟨w.heap.size, 1, none⟩) (v := .int .i64 0) (by simp [go_sem])
    have f10 := keep_frozen b1 (p := ⟨w.heap.size, 0, none⟩) (by simp) (by simp [go_sem])
    have f11 := keep_frozen b1 (p := ⟨w.heap.size, 1, none⟩) (by simp) (by simp [go_sem])
    have h1 : Below w.heap.size w w1 := ((Below.refl _ _).alloc (Nat.le_refl _) _).trans (b1.mono (by simp))
    have z1 : w.heap.size < w1.heap.size := Lib.lt_of_cell k10
    clear b1
    go_wp2_with fail
    exact bodyPost_ret (v := .agg #[.int .i64 (tru (a == b)), .int .i64 0]) (by simp [results, Tryz.results92, go_sem, k10, k11]) rfl ⟨rfl, (h1.setCell (by simp) _).setCell (by simp) _⟩
set_option maxHeartbeats 400000 in
theorem act_ne : ActC 93 fun a b => (tru (a != b), 0) where
  enters := fun args w => enters_of Tryz.func93 (by kernel_rfl) rfl args w
  runs := fun a b _ _ w => by
    go_enter Tryz.func93, Tryz.ntmps93
    go_wp2_with fail
    refine (utruth_any (a != b) _).mono ?_; rintro e w1 ⟨rfl, b1⟩
    have k10 := keep_cell b1 (p := ⟨w.heap.size, 0, none⟩) (v := .int .i64 0) (by simp [go_sem])
    have k11 := keep_cell b1 (p := ⟨w.heap.size, 1, none⟩) (v := .int .i64 0) (by simp [go_sem])
    have f10 := keep_frozen b1 (p := ⟨w.heap.size, 0, none⟩) (by simp) (by simp [go_sem])
    have f11 := keep_frozen b1 (p := ⟨w.heap.size, 1, none⟩) (by simp) (by simp [go_sem])
    have h1 : Below w.heap.size w w1 := ((Below.refl _ _).alloc (Nat.le_refl _) _).trans (b1.mono (by simp))
    have z1 : w.heap.size < w1.heap.size := Lib.lt_of_cell k10
    clear b1
    go_wp2_with fail
    exact bodyPost_ret (v := .agg #[.int .i64 (tru (a != b)), .int .i64 0]) (by simp [results, Tryz.results93, go_sem, k10, k11]) rfl ⟨rfl, (h1.setCell (by simp) _).setCell (by simp) _⟩
set_option maxHeartbeats 400000 in
theorem act_ge : ActC 94 fun a b => (tru (decide (b ≤ a)), 0) where
  enters := fun args w => enters_of Tryz.func94 (by kernel_rfl) rfl args w
  runs := fun a b _ _ w => by
    go_enter Tryz.func94, Tryz.ntmps94
    go_wp2_with fail
    refine (utruth_any (decide (b ≤ a)) _).mono ?_; rintro e w1 ⟨rfl, b1⟩
    have k10 := keep_cell b1 (p := ⟨w.heap.size, 0, none⟩) (v := .int .i64 0) (by simp [go_sem])
    have k11 := keep_cell b1 (p := ⟨w.heap.size, 1, none⟩) (v := .int .i64 0) (by simp [go_sem])
    have f10 := keep_frozen b1 (p := ⟨w.heap.size, 0, none⟩) (by simp) (by simp [go_sem])
    have f11 := keep_frozen b1 (p := ⟨w.heap.size, 1, none⟩) (by simp) (by simp [go_sem])
    have h1 : Below w.heap.size w w1 := ((Below.refl _ _).alloc (Nat.le_refl _) _).trans (b1.mono (by simp))
    have z1 : w.heap.size < w1.heap.size := Lib.lt_of_cell k10
    clear b1
    go_wp2_with fail
    exact bodyPost_ret (v := .agg #[.int .i64 (tru (decide (b ≤ a))), .int .i64 0]) (by simp [results, Tryz.results94, go_sem, k10, k11]) rfl ⟨rfl, (h1.setCell (by simp) _).setCell (by simp) _⟩
set_option maxHeartbeats 400000 in
theorem act_gt : ActC 95 fun a b => (tru (decide (b < a)), 0) where
  enters := fun args w => enters_of Tryz.func95 (by kernel_rfl) rfl args w
  runs := fun a b _ _ w => by
    go_enter Tryz.func95, Tryz.ntmps95
    go_wp2_with fail
    refine (utruth_any (decide (b < a)) _).mono ?_; rintro e w1 ⟨rfl, b1⟩
    have k10 := keep_cell b1 (p := ⟨w.heap.size, 0, none⟩) (v := .int .i64 0) (by simp [go_sem])
    have k11 := keep_cell b1 (p := ⟨w.heap.size, 1, none⟩) (v := .int .i64 0) (by simp [go_sem])
    have f10 := keep_frozen b1 (p := ⟨w.heap.size, 0, none⟩) (by simp) (by simp [go_sem])
    have f11 := keep_frozen b1 (p := ⟨w.heap.size, 1, none⟩) (by simp) (by simp [go_sem])
    have h1 : Below w.heap.size w w1 := ((Below.refl _ _).alloc (Nat.le_refl _) _).trans (b1.mono (by simp))
    have z1 : w.heap.size < w1.heap.size := Lib.lt_of_cell k10
    clear b1
    go_wp2_with fail
    exact bodyPost_ret (v := .agg #[.int .i64 (tru (decide (b < a))), .int .i64 0]) (by simp [results, Tryz.results95, go_sem, k10, k11]) rfl ⟨rfl, (h1.setCell (by simp) _).setCell (by simp) _⟩
set_option maxHeartbeats 400000 in
theorem act_least : ActC 99 fun a b => (if b < a then b else a, 0) where
  enters := fun args w => enters_of Tryz.func99 (by kernel_rfl) rfl args w
  runs := fun a b _ _ w => by
    by_cases h : b < a
    · rw [if_pos h]
      go_enter Tryz.func99, Tryz.ntmps99
      go_wp2_with fail
      exact bodyPost_ret (v := .agg #[.int .i64 b, .int .i64 0]) (by simp [results, Tryz.results99, go_sem]) rfl ⟨rfl, (Below.refl _ _).alloc (Nat.le_refl _) _⟩
    · rw [if_neg h]
      go_enter Tryz.func99, Tryz.ntmps99
      go_wp2_with fail
      exact bodyPost_ret (v := .agg #[.int .i64 a, .int .i64 0]) (by simp [results, Tryz.results99, go_sem]) rfl ⟨rfl, (Below.refl _ _).alloc (Nat.le_refl _) _⟩
set_option maxHeartbeats 400000 in
theorem act_most : ActC 100 fun a b => (if a < b then b else a, 0) where
  enters := fun args w => enters_of Tryz.func100 (by kernel_rfl) rfl args w
  runs := fun a b _ _ w => by
    by_cases h : a < b
    · rw [if_pos h]
      go_enter Tryz.func100, Tryz.ntmps100
      go_wp2_with fail
      exact bodyPost_ret (v := .agg #[.int .i64 b, .int .i64 0]) (by simp [results, Tryz.results100, go_sem]) rfl ⟨rfl, (Below.refl _ _).alloc (Nat.le_refl _) _⟩
    · rw [if_neg h]
      go_enter Tryz.func100, Tryz.ntmps100
      go_wp2_with fail
      exact bodyPost_ret (v := .agg #[.int .i64 a, .int .i64 0]) (by simp [results, Tryz.results100, go_sem]) rfl ⟨rfl, (Below.refl _ _).alloc (Nat.le_refl _) _⟩
end Go.Proofs.YthaoalmhhgllmaaGreatDoor
namespace Go.Proofs.YthaoalmhhgllmaaGreatDoor
open Go.RowKit
def bothN (p : Int × Int) (f g : Int) : Int := if f = 0 ∧ g = 0 then p.1 else 0
def bothF (p : Int × Int) (f g : Int) : Int := if f = 0 then (if g = 0 then p.2 else g) else f
def leftU (v : Value) : Nat := 2 - (intOf v).toNat

set_option maxHeartbeats 1000000 in
set_option maxRecDepth 10000 in
theorem uboth_any {F : Nat} {G : Int → Int → Int × Int} (hA : ActC F G) (n f m g : Int) (hn : B64 n) (hm : B64 m) (w : World) :
    Calls Tryz.prog 48 #[.agg #[.int .i64 n, .int .i64 f], .agg #[.int .i64 m, .int .i64 g], .func (.func F) #[] #[]] w fun e w' =>
      e = .returned (.agg #[.int .i64 (bothN (G n m) f g), .int .i64 (bothF (G n m) f g)]) ∧ Below w.heap.size w w' := by
  have H := Lib.hid (hA.runs n m hn hm)
  have hE := hA.enters
  clear hn hm
  generalize G n m = X at *
  have x0 : ∀ w : World, (Instr.index 109 (.agg #[.int .i64 n, .int .i64 f, .int .i64 m, .int .i64 g]) (.int .i64 0)).run Tryz.prog w = .ok (.agg #[.int .i64 n, .int .i64 f]) w := fun _ => by kernel_rfl
  have x1 : ∀ w : World, (Instr.index 109 (.agg #[.int .i64 n, .int .i64 f, .int .i64 m, .int .i64 g]) (.int .i64 1)).run Tryz.prog w = .ok (.agg #[.int .i64 m, .int .i64 g]) w := fun _ => by kernel_rfl
  go_enter Tryz.func48, Tryz.ntmps48
  go_wp2_with fail
  go_loopw [12] (fun v wr => ∃ i : Nat, i ≤ 2 ∧ v = .int .i64 i ∧ Hid ((1 ≤ i → f = 0) ∧ (2 ≤ i → g = 0)) ∧ Below (w.heap.size + 1 + 1 + 1) (((w.alloc (.cells #[.int .i64 n, .int .i64 f] 35)).alloc (.cells #[.int .i64 m, .int .i64 g] 35)).alloc (.cells #[.int .i64 0, .int .i64 0] 35)) wr) (fun v _ => leftU v)
  case atStart => exact ⟨0, by omega, rfl, Lib.hid ⟨fun h => by omega, fun h => by omega⟩, Below.refl _ _⟩
  case round =>
    obtain ⟨i, hi, rfl, HU, hb⟩ := hrel
    have a0 : wr.cell? ⟨w.heap.size, 0, none⟩ = some (.int .i64 n) := by rw [hb.cell (by simp; omega)]; simp [go_sem]
    have a1 : wr.cell? ⟨w.heap.size, 1, none⟩ = some (.int .i64 f) := by rw [hb.cell (by simp; omega)]; simp [go_sem]
    have c0 : wr.cell? ⟨w.heap.size + 1, 0, none⟩ = some (.int .i64 m) := by rw [hb.cell (by simp)]; simp [go_sem]
    have c1 : wr.cell? ⟨w.heap.size + 1, 1, none⟩ = some (.int .i64 g) := by rw [hb.cell (by simp)]; simp [go_sem]
    have k0 : wr.cell? ⟨w.heap.size + 1 + 1, 0, none⟩ = some (.int .i64 0) := by rw [hb.cell (by simp)]; simp [go_sem]
    have k1 : wr.cell? ⟨w.heap.size + 1 + 1, 1, none⟩ = some (.int .i64 0) := by rw [hb.cell (by simp)]; simp [go_sem]
    have f0 : wr.frozen? ⟨w.heap.size + 1 + 1, 0, none⟩ = false := by rw [hb.frozen (by simp)]; simp [go_sem]
    have f1 : wr.frozen? ⟨w.heap.size + 1 + 1, 1, none⟩ = false := by rw [hb.frozen (by simp)]; simp [go_sem]
    have z0 : w.heap.size + 1 + 1 < wr.heap.size := by have := hb.size; simp at this; omega
    have z1 : w.heap.size + 1 < wr.heap.size := by omega
    have z2 : w.heap.size < wr.heap.size := by omega
    have b0 : Below w.heap.size w wr := ((((Below.refl _ _).alloc (Nat.le_refl _) _).alloc (by simp) _).alloc (by simp; omega) _).trans (hb.mono (by omega))
    have hq : i = 0 ∨ i = 1 ∨ i = 2 := by omega
    clear hi
    rcases hq with rfl | rfl | rfl
    · by_cases hf : f = 0
      · have HU' : Hid ((1 ≤ 0 + 1 → f = 0) ∧ (2 ≤ 0 + 1 → g = 0)) := Lib.hid ⟨fun _ => hf, fun h => by omega⟩
        have d1 : (f != 0) = false := by simpa using hf
        clear hf HU
        go_wp2_with fail
        go_roundw
        case rel => exact ⟨0 + 1, by omega, by go_num, HU', hb.alloc (by omega) _⟩
        case measure => simp [leftU, intOf]
      · have d1 : (f != 0) = true := by simpa using hf
        have e1 : bothN X f g = 0 := if_neg (by omega)
        have e2 : bothF X f g = f := if_neg hf
        have E := Lib.hid (And.intro e1 e2)
        clear hf HU e1 e2
        go_wp2_with fail
        exact bodyPost_ret (v := .agg #[.int .i64 0, .int .i64 f]) (by simp [results, Tryz.results48, go_sem, k0, k1, z0]) rfl
          ⟨by rw [E.out.1, E.out.2], ((b0.setCell (by simp; omega) _).setCell (by simp; omega) _).alloc (by simpa using b0.size) _⟩
    · have hf : f = 0 := HU.out.1 (by omega)
      by_cases hg : g = 0
      · have HU' : Hid ((1 ≤ 1 + 1 → f = 0) ∧ (2 ≤ 1 + 1 → g = 0)) := Lib.hid ⟨fun _ => hf, fun h => hg⟩
        have d1 : (g != 0) = false := by simpa using hg
        clear hf hg HU
        go_wp2_with fail
        go_roundw
        case rel => exact ⟨1 + 1, by omega, by go_num, HU', hb.alloc (by omega) _⟩
        case measure => simp [leftU, intOf]
      · have d1 : (g != 0) = true := by simpa using hg
        have e1 : bothN X f g = 0 := if_neg (by omega)
        have e2 : bothF X f g = g := by unfold bothF; rw [if_pos hf, if_neg hg]
        have E := Lib.hid (And.intro e1 e2)
        clear hf hg HU e1 e2
        go_wp2_with fail
        exact bodyPost_ret (v := .agg #[.int .i64 0, .int .i64 g]) (by simp [results, Tryz.results48, go_sem, k0, k1, z0]) rfl
          ⟨by rw [E.out.1, E.out.2], ((b0.setCell (by simp; omega) _).setCell (by simp; omega) _).alloc (by simpa using b0.size) _⟩
    · have hf : f = 0 := HU.out.1 (by omega)
      have hg : g = 0 := HU.out.2 (by omega)
      subst hf hg
      clear HU hb
      go_wp2_with fail
      refine (H.out _).mono ?_; rintro e w1 ⟨rfl, b1⟩
      have q0 := keep_cell b1 k0
      have q1 := keep_cell b1 k1
      have p0 := keep_frozen b1 (by simpa using z0) f0
      have p1 := keep_frozen b1 (by simpa using z0) f1
      have h2 := b0.trans (b1.mono b0.size)
      clear a0 a1 c0 c1 k0 k1 f0 f1 b1
      go_wp2_with fail
      exact bodyPost_ret (v := .agg #[.int .i64 X.1, .int .i64 X.2]) (by simp [results, Tryz.results48, go_sem, q0, q1]) rfl
        ⟨rfl, (h2.setCell (by simp; omega) _).setCell (by simp; omega) _⟩
end Go.Proofs.YthaoalmhhgllmaaGreatDoor
