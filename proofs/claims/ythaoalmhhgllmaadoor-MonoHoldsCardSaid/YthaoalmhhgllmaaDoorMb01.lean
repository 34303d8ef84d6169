/- Texts joined: Ret, Mem, StA, Pl, VaAa, NumS, NumB, NumC, VaB, VaC, UaBp, UaCp, UaDp. -/
import Derived.WalkKit
import Derived.Test.YthaoalmhhgllmaaDoorProg
import Derived.WalkSmall
import Derived.Lib.Hide
import Derived.Lib.AtoiErrMem
import Derived.Deep.CutRange
import Derived.OwnWalk
import Derived.RowKit
import Derived.IntWalk
import Derived.WalkSpells
import Derived.WalkLawsBesides
import Derived.Deep.RegionWith
set_option linter.all false
namespace Go.Proofs.YthaoalmhhgllmaaDoor
theorem ret_bool {a b : Bool} (h : a = b) : Ending.returned (.bool a) = .returned (.bool b) := by rw [h]
theorem ret_int {a b : Int} (h : a = b) : Ending.returned (.int .i64 a) = .returned (.int .i64 b) := by rw [h]
theorem ret_u64 {a b : Int} (h : a = b) : Ending.returned (.int .u64 a) = .returned (.int .u64 b) := by rw [h]
theorem ret_str {a b : ByteArray} (h : a = b) : Ending.returned (.string a) = .returned (.string b) := by rw [h]
theorem ret_pair {a b : Int} {c d : Bool} (h : a = b) (k : c = d) : Ending.returned (.tuple #[.int .i64 a, .bool c]) = .returned (.tuple #[.int .i64 b, .bool d]) := by rw [h, k]
theorem ret_pair' {a b : Int} {c d : Bool} (h : a = b ∧ c = d) : Ending.returned (.tuple #[.int .i64 a, .bool c]) = .returned (.tuple #[.int .i64 b, .bool d]) := by rw [h.1, h.2]
end Go.Proofs.YthaoalmhhgllmaaDoor
namespace Go.Proofs.YthaoalmhhgllmaaDoor
open Go.RowKit
theorem keep_cell {W w1 : World} (hb : Below W.heap.size W w1) {p : Addr} {v : Value} (h : W.cell? p = some v) : w1.cell? p = some v := by
  rw [hb.cell (Lib.lt_of_cell h)]; exact h
theorem keep_frozen {W w1 : World} (hb : Below W.heap.size W w1) {p : Addr} (hp : p.block < W.heap.size) (h : W.frozen? p = false) : w1.frozen? p = false := by
  rw [hb.frozen hp]; exact h

theorem keep_fresh {W w1 : World} {cs : Array Value} {T : TypeId} (hb : Below (W.alloc (.cells cs T)).heap.size (W.alloc (.cells cs T)) w1) (i : Nat) {v : Value} (h : cs[i]? = some v) : w1.cell? ⟨W.heap.size, i, none⟩ = some v :=
  keep_cell hb (by rw [cell_of_row _ _ i cs T (0, 0) (heap_alloc_new W _)]; exact h)

theorem fresh_frozen {W w1 : World} {cs : Array Value} {T : TypeId} (hb : Below (W.alloc (.cells cs T)).heap.size (W.alloc (.cells cs T)) w1) (i : Nat) : w1.frozen? ⟨W.heap.size, i, none⟩ = false :=
  keep_frozen hb (by simp) (by simp [go_sem])
theorem below_up {W0 W w1 : World} (B : Below W0.heap.size W0 W) (b : Below W.heap.size W w1) : Below W0.heap.size W0 w1 := B.trans (b.mono B.size)
theorem below_alloc {W0 W w1 : World} {o : Obj} (B : Below W0.heap.size W0 W) (b : Below (W.alloc o).heap.size (W.alloc o) w1) : Below W0.heap.size W0 w1 :=
  (B.alloc B.size o).trans (b.mono (by have := B.size; simp; omega))
end Go.Proofs.YthaoalmhhgllmaaDoor
namespace Go.Proofs.YthaoalmhhgllmaaDoor
open Go.RowKit
def SAt (w : World) (g o : Nat) (l : List ByteArray) : Prop := ∀ (i : Nat) (s : ByteArray), l[i]? = some s → w.cell? ⟨g, o + i, none⟩ = some (.string s)
def findS (s : ByteArray) : List ByteArray → Option Nat
  | [] => none
  | t :: r => if s = t then some 0 else (findS s r).map (· + 1)
def idxS (s : ByteArray) (l : List ByteArray) : Int := match findS s l with | some i => (i : Int) | none => -1
theorem find_hit {s : ByteArray} : ∀ {l : List ByteArray} {i : Nat}, (∀ (j : Nat) (t : ByteArray), j < i → l[j]? = some t → s ≠ t) → l[i]? = some s → findS s l = some i
  | [], i, _, h => by simp at h
  | t :: r, 0, _, h => by simp at h; subst h; simp [findS]
  | t :: r, i + 1, hn, h => by
    have h0 := hn 0 t (by omega) rfl
    have := find_hit (l := r) (i := i) (fun j u hj hu => hn (j + 1) u (by omega) (by simpa using hu)) (by simpa using h)
    simp [findS, h0, this]
theorem find_miss {s : ByteArray} : ∀ {l : List ByteArray}, (∀ (j : Nat) (t : ByteArray), j < l.length → l[j]? = some t → s ≠ t) → findS s l = none
  | [], _ => rfl
  | t :: r, hn => by
    have h0 := hn 0 t (by simp) rfl
    have := find_miss (l := r) (fun j u hj hu => hn (j + 1) u (by simp; omega) (by simpa using hu))
    simp [findS, h0, this]
theorem idx_hit {s : ByteArray} {l : List ByteArray} {i : Nat} (hn : ∀ (j : Nat) (t : ByteArray), j < i → l[j]? = some t → s ≠ t) (h : l[i]? = some s) : idxS s l = (i : Int) := by
  unfold idxS; rw [find_hit hn h]
theorem idx_miss {s : ByteArray} {l : List ByteArray} (hn : ∀ (j : Nat) (t : ByteArray), j < l.length → l[j]? = some t → s ≠ t) : idxS s l = -1 := by
  unfold idxS; rw [find_miss hn]
set_option maxHeartbeats 1000000 in
set_option maxRecDepth 10000 in
theorem sindex_any (w : World) (g o cap : Nat) (l : List ByteArray) (s : ByteArray) (hl : l.length ≤ 1000) (h : SAt w g o l) :
    Calls Tryd.prog 102 #[.slice (some ⟨g, o, none⟩) l.length cap, .string s] w fun e w' => e = .returned (.int .i64 (idxS s l)) ∧ w = w' := by
  have H := Lib.hid h
  clear h
  go_enter Tryd.func102, Tryd.ntmps102
  go_wp2_with fail
  go_loopw [8] (fun vi wr => ∃ i : Nat, i ≤ l.length ∧ vi = .int .i64 (i : Int) ∧ wr = w ∧ Hid (∀ (j : Nat) (t : ByteArray), j < i → l[j]? = some t → s ≠ t)) (fun vi _ => l.length - (intOf vi).toNat)
  case atStart => exact ⟨0, Nat.zero_le _, rfl, rfl, Lib.hid fun j t hj => by omega⟩
  case round =>
    obtain ⟨i, hi, rfl, rfl, HN⟩ := hrel
    by_cases hlt : i < l.length
    · have ht : l[i]? = some (l[i]'hlt) := List.getElem?_eq_getElem hlt
      have q := H.out i _ ht
      have HT := Lib.hid ht
      generalize l[i]'hlt = t at *
      clear ht
      by_cases he : s = t
      · subst he
        have he2 : (s.toList == s.toList) = true := by simp
        go_wp2_with fail
        go_ret
        exact ⟨ret_int (idx_hit HN.out HT.out).symm, by first | rfl | trivial⟩
      · have he2 : (s.toList == t.toList) = false := by
          rw [beq_eq_false_iff_ne, ByteArray.toList_eq, ByteArray.toList_eq]
          intro h
          apply he
          obtain ⟨⟨a⟩⟩ := s
          obtain ⟨⟨b⟩⟩ := t
          simp at h
          rw [h]
        go_wp2_with fail
        go_roundw
        case rel => exact ⟨i + 1, by omega, by go_num, by first | rfl | trivial, Lib.hid fun j u hj hu => by
          by_cases hji : j < i
          · exact HN.out j u hji hu
          · obtain rfl : j = i := by omega
            rw [HT.out] at hu; obtain rfl := Option.some.inj hu; exact he⟩
        case measure => simp [intOf]; omega
    · obtain rfl : i = l.length := by omega
      go_wp2_with fail
      go_ret
      exact ⟨ret_int (idx_miss HN.out).symm, by first | rfl | trivial⟩
set_option maxHeartbeats 1000000 in
set_option maxRecDepth 10000 in
theorem scontains_any (w : World) (g o cap : Nat) (l : List ByteArray) (s : ByteArray) (hl : l.length ≤ 1000) (h : SAt w g o l) :
    Calls Tryd.prog 93 #[.slice (some ⟨g, o, none⟩) l.length cap, .string s] w fun e w' => e = .returned (.bool (findS s l).isSome) ∧ w = w' := by
  have H := Lib.hid h
  clear h
  have hB : ∀ b, decide (0 ≤ idxS s l) = b → (findS s l).isSome = b := by
    intro b hb
    subst hb
    unfold idxS
    cases findS s l with
    | none => rfl
    | some i => simp
  have HB := Lib.hid (hB _ rfl)
  clear hB
  go_enter Tryd.func93, Tryd.ntmps93
  go_wp2_with fail
  refine (sindex_any w g o cap l s hl H.out).mono ?_; rintro e w1 ⟨rfl, rfl⟩
  go_wp2_with fail
  go_ret
  exact ⟨ret_bool HB.out.symm, by first | rfl | trivial⟩
def strL : Nat → List ByteArray
  | 0 => [⟨#[60]⟩, ⟨#[60, 61]⟩, ⟨#[61]⟩, ⟨#[60, 62]⟩, ⟨#[62, 61]⟩, ⟨#[62]⟩]
  | 1 => [⟨#[43]⟩, ⟨#[45]⟩]
  | 2 => [⟨#[42]⟩, ⟨#[47]⟩]
  | _ => []
def Strs (R B : Nat) (w : World) : Prop := (R ≠ 0 ∧ 0 < B) ∧ ∀ i : Nat, i < 3 → ∃ g o cap, (g ≠ R ∧ g < B) ∧ w.cell? ⟨0, i, none⟩ = some (.slice (some ⟨g, o, none⟩) (strL i).length cap) ∧ SAt w g o (strL i)
theorem Strs.keep {R B : Nat} {w w' : World} (h : Strs R B w) (hk : ∀ (p : Addr) (v : Value), p.block ≠ R → p.block < B → w.cell? p = some v → w'.cell? p = some v) : Strs R B w' := by
  refine ⟨h.1, fun i hi => ?_⟩
  obtain ⟨g, o, cap, hg, hc, hs⟩ := h.2 i hi
  exact ⟨g, o, cap, hg, hk _ _ (Ne.symm h.1.1) h.1.2 hc, fun j s hj => hk _ _ hg.1 hg.2 (hs j s hj)⟩
def strV (s : ByteArray) : Int := if (findS s (strL 0)).isSome = true then 0 else if (findS s (strL 1)).isSome = true then 1 else if (findS s (strL 2)).isSome = true then 2 else -1
set_option maxHeartbeats 1000000 in
set_option maxRecDepth 10000 in
theorem strength_any (R B : Nat) (w : World) (s : ByteArray) (h : Strs R B w) :
    Calls Tryd.prog 78 #[.string s] w fun e w' => e = .returned (.int .i64 (strV s)) ∧ w = w' := by
  obtain ⟨_, h⟩ := h
  have H := Lib.hid h
  clear h
  go_enter Tryd.func78, Tryd.ntmps78
  go_wp2_with fail
  go_loopw [4] (fun vi wr => ∃ i : Nat, i ≤ 3 ∧ vi = .int .i64 (i : Int) ∧ wr = w ∧ Hid (∀ j : Nat, j < i → (findS s (strL j)).isSome = false)) (fun vi _ => 3 - (intOf vi).toNat)
  case atStart => exact ⟨0, by omega, rfl, rfl, Lib.hid fun j hj => by omega⟩
  case round =>
    obtain ⟨i, hi, rfl, rfl, HN⟩ := hrel
    by_cases hlt : i < 3
    · obtain ⟨g, o, cap, _, hc, hs⟩ := H.out i hlt
      have hll : (strL i).length ≤ 1000 := by
        match i, hlt with
        | 0, _ => decide
        | 1, _ => decide
        | 2, _ => decide
      have HC := Lib.hid (scontains_any wr g o cap (strL i) s hll hs)
      have hV : Hid ((findS s (strL i)).isSome = true → strV s = (i : Int)) := Lib.hid fun h => by
        unfold strV
        match i, hlt, h with
        | 0, _, h => rw [if_pos h]; rfl
        | 1, _, h => rw [if_neg (by rw [HN.out 0 (by omega)]; decide), if_pos h]; rfl
        | 2, _, h => rw [if_neg (by rw [HN.out 0 (by omega)]; decide), if_neg (by rw [HN.out 1 (by omega)]; decide), if_pos h]; rfl
      generalize hb : (findS s (strL i)).isSome = b at *
      have HB := Lib.hid hb
      clear hb hll hs
      cases b with
      | true =>
        go_wp2_with fail
        refine HC.out.mono ?_; rintro e w1 ⟨rfl, rfl⟩
        go_wp2_with fail
        go_ret
        exact ⟨ret_int (hV.out (by first | rfl | trivial)).symm, by first | rfl | trivial⟩
      | false =>
        go_wp2_with fail
        refine HC.out.mono ?_; rintro e w1 ⟨rfl, rfl⟩
        go_wp2_with fail
        go_roundw
        case rel => exact ⟨i + 1, by omega, by go_num, by first | rfl | trivial, Lib.hid fun j hj => by
          by_cases hji : j < i
          · exact HN.out j hji
          · obtain rfl : j = i := by omega
            exact HB.out⟩
        case measure => simp [intOf]; omega
    · obtain rfl : i = 3 := by omega
      have hV : strV s = -1 := by
        unfold strV
        rw [HN.out 0 (by omega), HN.out 1 (by omega), HN.out 2 (by omega)]; rfl
      go_wp2_with fail
      go_ret
      exact ⟨ret_int hV.symm, by first | rfl | trivial⟩
end Go.Proofs.YthaoalmhhgllmaaDoor
namespace Go.Proofs.YthaoalmhhgllmaaDoor
open Go.RowKit
def B64 (n : Int) : Prop := -9223372036854775808 ≤ n ∧ n ≤ 9223372036854775807
def inI (n : Int) : Bool := decide (-9223372036854775808 ≤ n ∧ n ≤ 9223372036854775807)
def keep (x : Bool) (n : Int) : Int := if x = true then n else 0

theorem inI_iff (n : Int) : inI n = true ↔ B64 n := by unfold inI B64; simp
theorem inI_not (n : Int) : inI n = false ↔ ¬ B64 n := by unfold inI B64; simp
theorem bool_iff {x y : Bool} (h : x = true ↔ y = true) : x = y := by cases x <;> cases y <;> simp_all
def absI (a : Int) : Int := if a < 0 then -a else a
def sgn (m : Bool) (u : Int) : Int := if m = true then -u else u
theorem absI_neg {a : Int} (h : a < 0) : absI a = -a := by unfold absI; rw [if_pos h]
theorem absI_pos {a : Int} (h : ¬ a < 0) : absI a = a := by unfold absI; rw [if_neg h]
theorem absI_bd {a : Int} (ha : B64 a) : 0 ≤ absI a ∧ absI a ≤ 9223372036854775808 := by
  unfold absI B64 at *; split <;> omega
theorem sgn_pos (u : Int) : sgn false u = u := rfl
theorem sgn_neg (u : Int) : sgn true u = -u := rfl
theorem none_is {n : Int} (h : ¬ B64 n) : (0 : Int) = keep (inI n) n ∧ false = inI n := by
  have := (inI_not n).2 h
  rw [this]; exact ⟨rfl, rfl⟩
theorem some_is {n : Int} (h : B64 n) : n = keep (inI n) n ∧ true = inI n := by
  have := (inI_iff n).2 h
  rw [this]; exact ⟨rfl, rfl⟩
theorem tdiv_sgn (a b : Int) : sgn (decide (a < 0) != decide (b < 0)) (absI a / absI b) = a.tdiv b := by
  by_cases h1 : a < 0 <;> by_cases h2 : b < 0
  · rw [absI_neg h1, absI_neg h2, decide_eq_true h1, decide_eq_true h2]
    rw [← Int.tdiv_eq_ediv_of_nonneg (by omega), Int.neg_tdiv, Int.tdiv_neg]; simp [sgn]
  · rw [absI_neg h1, absI_pos h2, decide_eq_true h1, decide_eq_false h2]
    rw [← Int.tdiv_eq_ediv_of_nonneg (by omega), Int.neg_tdiv]; simp [sgn]
  · rw [absI_pos h1, absI_neg h2, decide_eq_false h1, decide_eq_true h2]
    rw [← Int.tdiv_eq_ediv_of_nonneg (by omega), Int.tdiv_neg]; simp [sgn]
  · rw [absI_pos h1, absI_pos h2, decide_eq_false h1, decide_eq_false h2]
    rw [← Int.tdiv_eq_ediv_of_nonneg (by omega)]; simp [sgn]
theorem mul_sgn (a b : Int) : sgn (decide (a < 0) != decide (b < 0)) (absI a * absI b) = a * b := by
  by_cases h1 : a < 0 <;> by_cases h2 : b < 0
  · rw [absI_neg h1, absI_neg h2, decide_eq_true h1, decide_eq_true h2, Int.neg_mul_neg]; simp [sgn]
  · rw [absI_neg h1, absI_pos h2, decide_eq_true h1, decide_eq_false h2, Int.neg_mul]; simp [sgn]
  · rw [absI_pos h1, absI_neg h2, decide_eq_false h1, decide_eq_true h2, Int.mul_neg]; simp [sgn]
  · rw [absI_pos h1, absI_pos h2, decide_eq_false h1, decide_eq_false h2]; simp [sgn]
end Go.Proofs.YthaoalmhhgllmaaDoor
namespace Go.Proofs.YthaoalmhhgllmaaDoor
open Go.RowKit
def tNum (ok : Bool) (n : Int) : Int := if ok = true then n else 0
def tFault (ok : Bool) : Int := if ok = true then 0 else 1
set_option maxHeartbeats 400000 in
theorem vtold_any (n : Int) (ok : Bool) (w : World) :
    Calls Tryd.prog 81 #[.int .i64 n, .bool ok] w fun e w' => e = .returned (.agg #[.int .i64 (tNum ok n), .int .i64 (tFault ok)]) ∧ Below w.heap.size w w' := by
  cases ok
  · go_enter Tryd.func81, Tryd.ntmps81
    go_wp2_with fail
    exact bodyPost_ret (v := .agg #[.int .i64 0, .int .i64 1]) (by simp [results, Tryd.results81, go_sem]) rfl ⟨rfl, (Below.refl _ _).alloc (Nat.le_refl _) _⟩
  · go_enter Tryd.func81, Tryd.ntmps81
    go_wp2_with fail
    exact bodyPost_ret (v := .agg #[.int .i64 n, .int .i64 0]) (by simp [results, Tryd.results81, go_sem]) rfl ⟨rfl, (Below.refl _ _).alloc (Nat.le_refl _) _⟩
def tru (b : Bool) : Int := if b = true then 1 else 0
set_option maxHeartbeats 400000 in
theorem vtruth_any (b : Bool) (w : World) :
    Calls Tryd.prog 86 #[.bool b] w fun e w' => e = .returned (.agg #[.int .i64 (tru b), .int .i64 0]) ∧ Below w.heap.size w w' := by
  cases b
  · go_enter Tryd.func86, Tryd.ntmps86
    go_wp2_with fail
    exact bodyPost_ret (v := .agg #[.int .i64 0, .int .i64 0]) (by simp [results, Tryd.results86, go_sem]) rfl ⟨rfl, (Below.refl _ _).alloc (Nat.le_refl _) _⟩
  · go_enter Tryd.func86, Tryd.ntmps86
    go_wp2_with fail
    exact bodyPost_ret (v := .agg #[.int .i64 1, .int .i64 0]) (by simp [results, Tryd.results86, go_sem]) rfl ⟨rfl, (Below.refl _ _).alloc (Nat.le_refl _) _⟩
end Go.Proofs.YthaoalmhhgllmaaDoor
namespace Go.Proofs.YthaoalmhhgllmaaDoor
open Go.RowKit
set_option maxHeartbeats 400000 in
theorem size_any (a : Int) (ha : B64 a) (w : World) :
    Calls Tryd.prog 95 #[.int .i64 a] w fun e w' => e = .returned (.int .u64 (absI a)) ∧ w = w' := by
  by_cases h : a < 0
  · go_enter Tryd.func95, Tryd.ntmps95
    go_wp2
    go_ret
    exact ⟨ret_u64 (by rw [absI_neg h]; unfold B64 at ha; simp only [IntKind.wrap_u64, wrap64]; omega), rfl⟩
  · go_enter Tryd.func95, Tryd.ntmps95
    go_wp2
    go_ret
    exact ⟨ret_u64 (by rw [absI_pos (by omega)]; unfold B64 at ha; simp only [IntKind.wrap_u64]; omega), rfl⟩
end Go.Proofs.YthaoalmhhgllmaaDoor
namespace Go.Proofs.YthaoalmhhgllmaaDoor
open Go.RowKit
set_option maxHeartbeats 400000 in
theorem signed_any (u : Int) (m : Bool) (h0 : 0 ≤ u) (w : World) :
    Calls Tryd.prog 97 #[.int .u64 u, .bool m] w fun e w' => e = .returned (.tuple #[.int .i64 (keep (inI (sgn m u)) (sgn m u)), .bool (inI (sgn m u))]) ∧ w = w' := by
  cases m
  · rw [sgn_pos]
    go_enter Tryd.func97, Tryd.ntmps97
    go_wp2
    · go_ret2
      exact ⟨ret_pair' (none_is (by unfold B64; omega)), rfl⟩
    · go_ret2
      exact ⟨ret_pair' (some_is (by unfold B64; omega)), rfl⟩
  · rw [sgn_neg]
    go_enter Tryd.func97, Tryd.ntmps97
    go_wp2
    · go_ret2
      have h : u = 9223372036854775808 := by simpa using ‹(u == 9223372036854775808) = true›
      subst h
      exact ⟨ret_pair' (some_is (by unfold B64; omega)), rfl⟩
    · go_ret2
      have h : u ≠ 9223372036854775808 := by simpa using ‹(u == 9223372036854775808) = false›
      exact ⟨ret_pair' (none_is (by unfold B64; omega)), rfl⟩
    · go_ret2
      exact ⟨ret_pair' (some_is (by unfold B64; omega)), rfl⟩
set_option maxHeartbeats 400000 in
theorem both_any (x y : Int) (m : Bool) (hx : 0 ≤ x) (hx' : x ≤ 9223372036854775808) (hy : 0 ≤ y) (hy' : y ≤ 9223372036854775808) (w : World) :
    Calls Tryd.prog 96 #[.int .u64 x, .int .u64 y, .bool m] w fun e w' => e = .returned (.tuple #[.int .i64 (keep (inI (sgn m (x + y))) (sgn m (x + y))), .bool (inI (sgn m (x + y)))]) ∧ w = w' := by
  by_cases h : 9223372036854775808 - y < x
  · go_enter Tryd.func96, Tryd.ntmps96
    go_wp2_with fail
    go_ret2
    exact ⟨ret_pair' (none_is (by unfold sgn B64; split <;> omega)), rfl⟩
  · go_enter Tryd.func96, Tryd.ntmps96
    go_wp2_with fail
    refine (signed_any _ _ (by omega) _).mono ?_
    rintro e w1 ⟨rfl, rfl⟩
    go_wp2_with fail
    go_ret2
    exact ⟨rfl, rfl⟩


set_option maxHeartbeats 2000000 in
theorem radd_any (a b : Int) (ha : B64 a) (hb : B64 b) (w : World) :
    Calls Tryd.prog 82 #[.int .i64 a, .int .i64 b] w fun e w' => e = .returned (.tuple #[.int .i64 (keep (inI (a + b)) (a + b)), .bool (inI (a + b))]) ∧ w = w' := by
  obtain ⟨a0, a1⟩ := absI_bd ha
  obtain ⟨b0, b1⟩ := absI_bd hb
  have HA := Lib.hid (size_any a ha)
  have HB := Lib.hid (size_any b hb)
  clear ha hb
  by_cases h1 : a < 0 <;> by_cases h2 : b < 0
  · have hs : sgn true (absI a + absI b) = a + b := by rw [sgn_neg, absI_neg h1, absI_neg h2]; omega
    rw [← hs]
    have HC := Lib.hid (both_any (absI a) (absI b) true a0 a1 b0 b1)
    have d1 : decide (a < 0) = true := decide_eq_true h1
    have d2 : decide (b < 0) = true := decide_eq_true h2
    clear hs h1 h2
    go_enter Tryd.func82, Tryd.ntmps82
    go_wp2_with fail
    refine (HA.out _).mono ?_; rintro e w1 ⟨rfl, rfl⟩
    go_wp2_with fail
    refine (HB.out _).mono ?_; rintro e w1 ⟨rfl, rfl⟩
    go_wp2_with fail
    refine (HC.out _).mono ?_; rintro e w1 ⟨rfl, rfl⟩
    go_wp2_with fail
    go_ret2
    exact ⟨rfl, rfl⟩
  · by_cases h3 : absI b ≤ absI a
    · have hs : sgn true (absI a - absI b) = a + b := by rw [sgn_neg, absI_neg h1, absI_pos h2]; omega
      rw [← hs]
      have HC := Lib.hid (signed_any (absI a - absI b) true (by omega))
      have d1 : decide (a < 0) = true := decide_eq_true h1
      have d2 : decide (b < 0) = false := decide_eq_false h2
      clear hs h1 h2
      go_enter Tryd.func82, Tryd.ntmps82
      go_wp2_with fail
      refine (HA.out _).mono ?_; rintro e w1 ⟨rfl, rfl⟩
      go_wp2_with fail
      refine (HB.out _).mono ?_; rintro e w1 ⟨rfl, rfl⟩
      go_wp2_with fail
      refine (HC.out _).mono ?_; rintro e w1 ⟨rfl, rfl⟩
      go_wp2_with fail
      go_ret2
      exact ⟨rfl, rfl⟩
    · have hs : sgn false (absI b - absI a) = a + b := by rw [sgn_pos, absI_neg h1, absI_pos h2]; omega
      rw [← hs]
      have HC := Lib.hid (signed_any (absI b - absI a) false (by omega))
      have d1 : decide (a < 0) = true := decide_eq_true h1
      have d2 : decide (b < 0) = false := decide_eq_false h2
      clear hs h1 h2
      go_enter Tryd.func82, Tryd.ntmps82
      go_wp2_with fail
      refine (HA.out _).mono ?_; rintro e w1 ⟨rfl, rfl⟩
      go_wp2_with fail
      refine (HB.out _).mono ?_; rintro e w1 ⟨rfl, rfl⟩
      go_wp2_with fail
      refine (HC.out _).mono ?_; rintro e w1 ⟨rfl, rfl⟩
      go_wp2_with fail
      go_ret2
      exact ⟨rfl, rfl⟩
  · by_cases h3 : absI b ≤ absI a
    · have hs : sgn false (absI a - absI b) = a + b := by rw [sgn_pos, absI_pos h1, absI_neg h2]; omega
      rw [← hs]
      have HC := Lib.hid (signed_any (absI a - absI b) false (by omega))
      have d1 : decide (a < 0) = false := decide_eq_false h1
      have d2 : decide (b < 0) = true := decide_eq_true h2
      clear hs h1 h2
      go_enter Tryd.func82, Tryd.ntmps82
      go_wp2_with fail
      refine (HA.out _).mono ?_; rintro e w1 ⟨rfl, rfl⟩
      go_wp2_with fail
      refine (HB.out _).mono ?_; rintro e w1 ⟨rfl, rfl⟩
      go_wp2_with fail
      refine (HC.out _).mono ?_; rintro e w1 ⟨rfl, rfl⟩
      go_wp2_with fail
      go_ret2
      exact ⟨rfl, rfl⟩
    · have hs : sgn true (absI b - absI a) = a + b := by rw [sgn_neg, absI_pos h1, absI_neg h2]; omega
      rw [← hs]
      have HC := Lib.hid (signed_any (absI b - absI a) true (by omega))
      have d1 : decide (a < 0) = false := decide_eq_false h1
      have d2 : decide (b < 0) = true := decide_eq_true h2
      clear hs h1 h2
      go_enter Tryd.func82, Tryd.ntmps82
      go_wp2_with fail
      refine (HA.out _).mono ?_; rintro e w1 ⟨rfl, rfl⟩
      go_wp2_with fail
      refine (HB.out _).mono ?_; rintro e w1 ⟨rfl, rfl⟩
      go_wp2_with fail
      refine (HC.out _).mono ?_; rintro e w1 ⟨rfl, rfl⟩
      go_wp2_with fail
      go_ret2
      exact ⟨rfl, rfl⟩
  · have hs : sgn false (absI a + absI b) = a + b := by rw [sgn_pos, absI_pos h1, absI_pos h2]
    rw [← hs]
    have HC := Lib.hid (both_any (absI a) (absI b) false a0 a1 b0 b1)
    have d1 : decide (a < 0) = false := decide_eq_false h1
    have d2 : decide (b < 0) = false := decide_eq_false h2
    clear hs h1 h2
    go_enter Tryd.func82, Tryd.ntmps82
    go_wp2_with fail
    refine (HA.out _).mono ?_; rintro e w1 ⟨rfl, rfl⟩
    go_wp2_with fail
    refine (HB.out _).mono ?_; rintro e w1 ⟨rfl, rfl⟩
    go_wp2_with fail
    refine (HC.out _).mono ?_; rintro e w1 ⟨rfl, rfl⟩
    go_wp2_with fail
    go_ret2
    exact ⟨rfl, rfl⟩

set_option maxHeartbeats 2000000 in
theorem rsub_any (a b : Int) (ha : B64 a) (hb : B64 b) (w : World) :
    Calls Tryd.prog 83 #[.int .i64 a, .int .i64 b] w fun e w' => e = .returned (.tuple #[.int .i64 (keep (inI (a - b)) (a - b)), .bool (inI (a - b))]) ∧ w = w' := by
  obtain ⟨a0, a1⟩ := absI_bd ha
  obtain ⟨b0, b1⟩ := absI_bd hb
  have HA := Lib.hid (size_any a ha)
  have HB := Lib.hid (size_any b hb)
  clear ha hb
  by_cases h1 : a < 0 <;> by_cases h2 : b < 0
  · by_cases h3 : absI b ≤ absI a
    · have hs : sgn true (absI a - absI b) = a - b := by rw [sgn_neg, absI_neg h1, absI_neg h2]; omega
      rw [← hs]
      have HC := Lib.hid (signed_any (absI a - absI b) true (by omega))
      have d1 : decide (a < 0) = true := decide_eq_true h1
      have d3 : decide (0 ≤ a) = false := decide_eq_false (by omega)
      have d2 : decide (b < 0) = true := decide_eq_true h2
      clear hs h1 h2
      go_enter Tryd.func83, Tryd.ntmps83
      go_wp2_with fail
      refine (HA.out _).mono ?_; rintro e w1 ⟨rfl, rfl⟩
      go_wp2_with fail
      refine (HB.out _).mono ?_; rintro e w1 ⟨rfl, rfl⟩
      go_wp2_with fail
      refine (HC.out _).mono ?_; rintro e w1 ⟨rfl, rfl⟩
      go_wp2_with fail
      go_ret2
      exact ⟨rfl, rfl⟩
    · have hs : sgn false (absI b - absI a) = a - b := by rw [sgn_pos, absI_neg h1, absI_neg h2]; omega
      rw [← hs]
      have HC := Lib.hid (signed_any (absI b - absI a) false (by omega))
      have d1 : decide (a < 0) = true := decide_eq_true h1
      have d3 : decide (0 ≤ a) = false := decide_eq_false (by omega)
      have d2 : decide (b < 0) = true := decide_eq_true h2
      clear hs h1 h2
      go_enter Tryd.func83, Tryd.ntmps83
      go_wp2_with fail
      refine (HA.out _).mono ?_; rintro e w1 ⟨rfl, rfl⟩
      go_wp2_with fail
      refine (HB.out _).mono ?_; rintro e w1 ⟨rfl, rfl⟩
      go_wp2_with fail
      refine (HC.out _).mono ?_; rintro e w1 ⟨rfl, rfl⟩
      go_wp2_with fail
      go_ret2
      exact ⟨rfl, rfl⟩
  · have hs : sgn true (absI a + absI b) = a - b := by rw [sgn_neg, absI_neg h1, absI_pos h2]; omega
    rw [← hs]
    have HC := Lib.hid (both_any (absI a) (absI b) true a0 a1 b0 b1)
    have d1 : decide (a < 0) = true := decide_eq_true h1
    have d3 : decide (0 ≤ a) = false := decide_eq_false (by omega)
    have d2 : decide (b < 0) = false := decide_eq_false h2
    clear hs h1 h2
    go_enter Tryd.func83, Tryd.ntmps83
    go_wp2_with fail
    refine (HA.out _).mono ?_; rintro e w1 ⟨rfl, rfl⟩
    go_wp2_with fail
    refine (HB.out _).mono ?_; rintro e w1 ⟨rfl, rfl⟩
    go_wp2_with fail
    refine (HC.out _).mono ?_; rintro e w1 ⟨rfl, rfl⟩
    go_wp2_with fail
    go_ret2
    exact ⟨rfl, rfl⟩
  · have hs : sgn false (absI a + absI b) = a - b := by rw [sgn_pos, absI_pos h1, absI_neg h2]; omega
    rw [← hs]
    have HC := Lib.hid (both_any (absI a) (absI b) false a0 a1 b0 b1)
    have d1 : decide (a < 0) = false := decide_eq_false h1
    have d3 : decide (0 ≤ a) = true := decide_eq_true (by omega)
    have d2 : decide (b < 0) = true := decide_eq_true h2
    clear hs h1 h2
    go_enter Tryd.func83, Tryd.ntmps83
    go_wp2_with fail
    refine (HA.out _).mono ?_; rintro e w1 ⟨rfl, rfl⟩
    go_wp2_with fail
    refine (HB.out _).mono ?_; rintro e w1 ⟨rfl, rfl⟩
    go_wp2_with fail
    refine (HC.out _).mono ?_; rintro e w1 ⟨rfl, rfl⟩
    go_wp2_with fail
    go_ret2
    exact ⟨rfl, rfl⟩
  · by_cases h3 : absI b ≤ absI a
    · have hs : sgn false (absI a - absI b) = a - b := by rw [sgn_pos, absI_pos h1, absI_pos h2]
      rw [← hs]
      have HC := Lib.hid (signed_any (absI a - absI b) false (by omega))
      have d1 : decide (a < 0) = false := decide_eq_false h1
      have d3 : decide (0 ≤ a) = true := decide_eq_true (by omega)
      have d2 : decide (b < 0) = false := decide_eq_false h2
      clear hs h1 h2
      go_enter Tryd.func83, Tryd.ntmps83
      go_wp2_with fail
      refine (HA.out _).mono ?_; rintro e w1 ⟨rfl, rfl⟩
      go_wp2_with fail
      refine (HB.out _).mono ?_; rintro e w1 ⟨rfl, rfl⟩
      go_wp2_with fail
      refine (HC.out _).mono ?_; rintro e w1 ⟨rfl, rfl⟩
      go_wp2_with fail
      go_ret2
      exact ⟨rfl, rfl⟩
    · have hs : sgn true (absI b - absI a) = a - b := by rw [sgn_neg, absI_pos h1, absI_pos h2]; omega
      rw [← hs]
      have HC := Lib.hid (signed_any (absI b - absI a) true (by omega))
      have d1 : decide (a < 0) = false := decide_eq_false h1
      have d3 : decide (0 ≤ a) = true := decide_eq_true (by omega)
      have d2 : decide (b < 0) = false := decide_eq_false h2
      clear hs h1 h2
      go_enter Tryd.func83, Tryd.ntmps83
      go_wp2_with fail
      refine (HA.out _).mono ?_; rintro e w1 ⟨rfl, rfl⟩
      go_wp2_with fail
      refine (HB.out _).mono ?_; rintro e w1 ⟨rfl, rfl⟩
      go_wp2_with fail
      refine (HC.out _).mono ?_; rintro e w1 ⟨rfl, rfl⟩
      go_wp2_with fail
      go_ret2
      exact ⟨rfl, rfl⟩
end Go.Proofs.YthaoalmhhgllmaaDoor
namespace Go.Proofs.YthaoalmhhgllmaaDoor
open Go.RowKit
set_option maxHeartbeats 400000 in
theorem rdiv_any (a b : Int) (ha : B64 a) (hb : B64 b) (h0 : b ≠ 0) (w : World) :
    Calls Tryd.prog 85 #[.int .i64 a, .int .i64 b] w fun e w' => e = .returned (.tuple #[.int .i64 (keep (inI (a.tdiv b)) (a.tdiv b)), .bool (inI (a.tdiv b))]) ∧ w = w' := by
  obtain ⟨a0, a1⟩ := absI_bd ha
  obtain ⟨b0, b1⟩ := absI_bd hb
  have b2 : 0 < absI b := by unfold absI; split <;> omega
  have HA := Lib.hid (size_any a ha)
  have HB := Lib.hid (size_any b hb)
  have hz : (b == 0) = false := by simpa using h0
  rw [← tdiv_sgn a b]
  have HC := Lib.hid (signed_any (absI a / absI b) (decide (a < 0) != decide (b < 0)) (Int.ediv_nonneg a0 b0))
  clear ha hb
  go_enter Tryd.func85, Tryd.ntmps85
  go_wp2_with fail
  refine (HA.out _).mono ?_; rintro e w1 ⟨rfl, rfl⟩
  go_wp2_with fail
  refine (HB.out _).mono ?_; rintro e w1 ⟨rfl, rfl⟩
  go_wp2_with fail
  refine (HC.out _).mono ?_; rintro e w1 ⟨rfl, rfl⟩
  go_wp2_with fail
  go_ret2
  exact ⟨rfl, rfl⟩

set_option maxHeartbeats 1000000 in
theorem rmul_any (a b : Int) (ha : B64 a) (hb : B64 b) (w : World) :
    Calls Tryd.prog 84 #[.int .i64 a, .int .i64 b] w fun e w' => e = .returned (.tuple #[.int .i64 (keep (inI (a * b)) (a * b)), .bool (inI (a * b))]) ∧ w = w' := by
  obtain ⟨a0, a1⟩ := absI_bd ha
  obtain ⟨b0, b1⟩ := absI_bd hb
  have HA := Lib.hid (size_any a ha)
  have HB := Lib.hid (size_any b hb)
  by_cases h : absI a ≠ 0 ∧ 9223372036854775808 / absI a < absI b
  · have hn : ¬ B64 (a * b) := by
      rw [← mul_sgn a b]
      obtain ⟨h1, h2⟩ := h
      have := (Int.ediv_lt_iff_lt_mul (by omega)).1 h2
      rw [Int.mul_comm] at this
      generalize absI a * absI b = p at this
      unfold B64 sgn; split <;> omega
    have HN := Lib.hid (none_is hn)
    obtain ⟨h1, h2⟩ := h
    have h3 : 0 < absI a := by omega
    clear ha hb hn
    go_enter Tryd.func84, Tryd.ntmps84
    go_wp2_with fail
    refine (HA.out _).mono ?_; rintro e w1 ⟨rfl, rfl⟩
    go_wp2_with fail
    refine (HB.out _).mono ?_; rintro e w1 ⟨rfl, rfl⟩
    go_wp2_with fail
    go_ret2
    exact ⟨ret_pair' HN.out, rfl⟩
  · have p0 : 0 ≤ absI a * absI b := Int.mul_nonneg a0 b0
    have p1 : absI a * absI b ≤ 9223372036854775808 := by
      by_cases hx : absI a = 0
      · rw [hx]; omega
      · have hy : absI b ≤ 9223372036854775808 / absI a := by omega
        have := (Int.le_ediv_iff_mul_le (by omega)).1 hy
        rwa [Int.mul_comm] at this
    have HC := Lib.hid (signed_any (absI a * absI b) (decide (a < 0) != decide (b < 0)) p0)
    rw [← mul_sgn a b]
    clear ha hb
    by_cases hx : absI a = 0
    · have h3 : (absI a != 0) = false := by simpa using hx
      clear h hx
      go_enter Tryd.func84, Tryd.ntmps84
      go_wp2_with fail
      refine (HA.out _).mono ?_; rintro e w1 ⟨rfl, rfl⟩
      go_wp2_with fail
      refine (HB.out _).mono ?_; rintro e w1 ⟨rfl, rfl⟩
      go_wp2_with fail
      refine (HC.out _).mono ?_; rintro e w1 ⟨rfl, rfl⟩
      go_wp2_with fail
      go_ret2
      exact ⟨rfl, rfl⟩
    · have h3 : (absI a != 0) = true := by simpa using hx
      have h4 : ¬ 9223372036854775808 / absI a < absI b := fun h5 => h ⟨hx, h5⟩
      have h5 : 0 < absI a := by omega
      clear h hx
      go_enter Tryd.func84, Tryd.ntmps84
      go_wp2_with fail
      refine (HA.out _).mono ?_; rintro e w1 ⟨rfl, rfl⟩
      go_wp2_with fail
      refine (HB.out _).mono ?_; rintro e w1 ⟨rfl, rfl⟩
      go_wp2_with fail
      refine (HC.out _).mono ?_; rintro e w1 ⟨rfl, rfl⟩
      go_wp2_with fail
      go_ret2
      exact ⟨rfl, rfl⟩
end Go.Proofs.YthaoalmhhgllmaaDoor
namespace Go.Proofs.YthaoalmhhgllmaaDoor
open Go.RowKit
def vTold (n : Int) : Int × Int := (tNum (inI n) (keep (inI n) n), tFault (inI n))
def vOp (l : List UInt8) (a b : Int) : Option (Int × Int) :=
  if l = [43] then some (vTold (a + b)) else if l = [45] then some (vTold (a - b)) else if l = [42] then some (vTold (a * b))
  else if l = [47] then some (if b = 0 then (0, 2) else vTold (a.tdiv b))
  else if l = [60] then some (tru (decide (a < b)), 0) else if l = [60, 61] then some (tru (decide (a ≤ b)), 0) else if l = [61] then some (tru (a == b), 0)
  else if l = [60, 62] then some (tru (a != b), 0) else if l = [62, 61] then some (tru (decide (b ≤ a)), 0) else if l = [62] then some (tru (decide (b < a)), 0) else none
def oNum (o : Option (Int × Int)) : Int := match o with | some p => p.1 | none => 0
def oFault (o : Option (Int × Int)) : Int := match o with | some p => p.2 | none => 0
def NumbersC (s : ByteArray) (a b : Int) : Prop := ∀ w, Calls Tryd.prog 64 #[.string s, .int .i64 a, .int .i64 b] w fun e w' =>
  e = .returned (.tuple #[.agg #[.int .i64 (oNum (vOp s.data.toList a b)), .int .i64 (oFault (vOp s.data.toList a b))], .bool (vOp s.data.toList a b).isSome]) ∧ Below w.heap.size w w'

set_option maxHeartbeats 1000000 in
theorem num_add (a b : Int) (ha : B64 a) (hb : B64 b) : NumbersC ⟨#[43]⟩ a b := by
  intro w
  have H := Lib.hid (radd_any a b ha hb)
  have ho : vOp [43] a b = some (vTold (a + b)) := rfl
  rw [show (⟨#[43]⟩ : ByteArray).data.toList = [43] from rfl, ho]
  clear ho ha hb
  have hz1 : True := trivial

  go_enter Tryd.func64, Tryd.ntmps64
  go_wp2_with fail
  refine (H.out _).mono ?_; rintro e w1 ⟨rfl, rfl⟩
  go_wp2_with fail
  refine (vtold_any _ _ _).mono ?_; rintro e w1 ⟨rfl, B⟩
  have k0 := keep_cell B (p := ⟨w.heap.size, 0, none⟩) (v := .int .i64 0) (by simp [go_sem])
  have k1 := keep_cell B (p := ⟨w.heap.size, 1, none⟩) (v := .int .i64 0) (by simp [go_sem])
  have f0 := keep_frozen B (p := ⟨w.heap.size, 0, none⟩) (by simp) (by simp [go_sem])
  have f1 := keep_frozen B (p := ⟨w.heap.size, 1, none⟩) (by simp) (by simp [go_sem])
  have h1 : Below w.heap.size w w1 := ((Below.refl _ _).alloc (Nat.le_refl _) _).trans (B.mono (by simp))
  clear B
  go_wp2_with fail
  exact bodyPost_ret (v := .tuple #[.agg #[.int .i64 (tNum (inI (a + b)) (keep (inI (a + b)) (a + b))), .int .i64 (tFault (inI (a + b)))], .bool true]) (by simp [results, Tryd.results64, go_sem, k0, k1]) rfl
    ⟨rfl, (h1.setCell (by simp) _).setCell (by simp) _⟩

set_option maxHeartbeats 1000000 in
theorem num_sub (a b : Int) (ha : B64 a) (hb : B64 b) : NumbersC ⟨#[45]⟩ a b := by
  intro w
  have H := Lib.hid (rsub_any a b ha hb)
  have ho : vOp [45] a b = some (vTold (a - b)) := rfl
  rw [show (⟨#[45]⟩ : ByteArray).data.toList = [45] from rfl, ho]
  clear ho ha hb
  have hz1 : True := trivial

  go_enter Tryd.func64, Tryd.ntmps64
  go_wp2_with fail
  refine (H.out _).mono ?_; rintro e w1 ⟨rfl, rfl⟩
  go_wp2_with fail
  refine (vtold_any _ _ _).mono ?_; rintro e w1 ⟨rfl, B⟩
  have k0 := keep_cell B (p := ⟨w.heap.size, 0, none⟩) (v := .int .i64 0) (by simp [go_sem])
  have k1 := keep_cell B (p := ⟨w.heap.size, 1, none⟩) (v := .int .i64 0) (by simp [go_sem])
  have f0 := keep_frozen B (p := ⟨w.heap.size, 0, none⟩) (by simp) (by simp [go_sem])
  have f1 := keep_frozen B (p := ⟨w.heap.size, 1, none⟩) (by simp) (by simp [go_sem])
  have h1 : Below w.heap.size w w1 := ((Below.refl _ _).alloc (Nat.le_refl _) _).trans (B.mono (by simp))
  clear B
  go_wp2_with fail
  exact bodyPost_ret (v := .tuple #[.agg #[.int .i64 (tNum (inI (a - b)) (keep (inI (a - b)) (a - b))), .int .i64 (tFault (inI (a - b)))], .bool true]) (by simp [results, Tryd.results64, go_sem, k0, k1]) rfl
    ⟨rfl, (h1.setCell (by simp) _).setCell (by simp) _⟩

set_option maxHeartbeats 1000000 in
theorem num_mul (a b : Int) (ha : B64 a) (hb : B64 b) : NumbersC ⟨#[42]⟩ a b := by
  intro w
  have H := Lib.hid (rmul_any a b ha hb)
  have ho : vOp [42] a b = some (vTold (a * b)) := rfl
  rw [show (⟨#[42]⟩ : ByteArray).data.toList = [42] from rfl, ho]
  clear ho ha hb
  have hz1 : True := trivial

  go_enter Tryd.func64, Tryd.ntmps64
  go_wp2_with fail
  refine (H.out _).mono ?_; rintro e w1 ⟨rfl, rfl⟩
  go_wp2_with fail
  refine (vtold_any _ _ _).mono ?_; rintro e w1 ⟨rfl, B⟩
  have k0 := keep_cell B (p := ⟨w.heap.size, 0, none⟩) (v := .int .i64 0) (by simp [go_sem])
  have k1 := keep_cell B (p := ⟨w.heap.size, 1, none⟩) (v := .int .i64 0) (by simp [go_sem])
  have f0 := keep_frozen B (p := ⟨w.heap.size, 0, none⟩) (by simp) (by simp [go_sem])
  have f1 := keep_frozen B (p := ⟨w.heap.size, 1, none⟩) (by simp) (by simp [go_sem])
  have h1 : Below w.heap.size w w1 := ((Below.refl _ _).alloc (Nat.le_refl _) _).trans (B.mono (by simp))
  clear B
  go_wp2_with fail
  exact bodyPost_ret (v := .tuple #[.agg #[.int .i64 (tNum (inI (a * b)) (keep (inI (a * b)) (a * b))), .int .i64 (tFault (inI (a * b)))], .bool true]) (by simp [results, Tryd.results64, go_sem, k0, k1]) rfl
    ⟨rfl, (h1.setCell (by simp) _).setCell (by simp) _⟩

set_option maxHeartbeats 1000000 in
theorem num_div (a b : Int) (ha : B64 a) (hb : B64 b) (hz : b ≠ 0) : NumbersC ⟨#[47]⟩ a b := by
  intro w
  have H := Lib.hid (rdiv_any a b ha hb hz)
  have ho : vOp [47] a b = some (vTold (a.tdiv b)) := by show some (if b = 0 then _ else _) = _; rw [if_neg hz]
  rw [show (⟨#[47]⟩ : ByteArray).data.toList = [47] from rfl, ho]
  clear ho ha hb
  have hz1 : (b == 0) = false := by rw [beq_eq_false_iff_ne]; exact hz
  clear hz
  go_enter Tryd.func64, Tryd.ntmps64
  go_wp2_with fail
  refine (H.out _).mono ?_; rintro e w1 ⟨rfl, rfl⟩
  go_wp2_with fail
  refine (vtold_any _ _ _).mono ?_; rintro e w1 ⟨rfl, B⟩
  have k0 := keep_cell B (p := ⟨w.heap.size, 0, none⟩) (v := .int .i64 0) (by simp [go_sem])
  have k1 := keep_cell B (p := ⟨w.heap.size, 1, none⟩) (v := .int .i64 0) (by simp [go_sem])
  have f0 := keep_frozen B (p := ⟨w.heap.size, 0, none⟩) (by simp) (by simp [go_sem])
  have f1 := keep_frozen B (p := ⟨w.heap.size, 1, none⟩) (by simp) (by simp [go_sem])
  have h1 : Below w.heap.size w w1 := ((Below.refl _ _).alloc (Nat.le_refl _) _).trans (B.mono (by simp))
  clear B
  go_wp2_with fail
  exact bodyPost_ret (v := .tuple #[.agg #[.int .i64 (tNum (inI (a.tdiv b)) (keep (inI (a.tdiv b)) (a.tdiv b))), .int .i64 (tFault (inI (a.tdiv b)))], .bool true]) (by simp [results, Tryd.results64, go_sem, k0, k1]) rfl
    ⟨rfl, (h1.setCell (by simp) _).setCell (by simp) _⟩

set_option maxHeartbeats 1000000 in
theorem num_div0 (a : Int) : NumbersC ⟨#[47]⟩ a 0 := by
  intro w
  go_enter Tryd.func64, Tryd.ntmps64
  go_wp2_with fail
  exact bodyPost_ret (v := .tuple #[.agg #[.int .i64 0, .int .i64 2], .bool true]) (by simp [results, Tryd.results64, go_sem]) rfl
    ⟨rfl, (Below.refl _ _).alloc (Nat.le_refl _) _⟩
set_option maxHeartbeats 1000000 in
theorem num_lt (a b : Int) : NumbersC ⟨#[60]⟩ a b := by
  intro w
  go_enter Tryd.func64, Tryd.ntmps64
  go_wp2_with fail
  refine (vtruth_any (decide (a < b)) _).mono ?_; rintro e w1 ⟨rfl, B⟩
  have k0 := keep_cell B (p := ⟨w.heap.size, 0, none⟩) (v := .int .i64 0) (by simp [go_sem])
  have k1 := keep_cell B (p := ⟨w.heap.size, 1, none⟩) (v := .int .i64 0) (by simp [go_sem])
  have f0 := keep_frozen B (p := ⟨w.heap.size, 0, none⟩) (by simp) (by simp [go_sem])
  have f1 := keep_frozen B (p := ⟨w.heap.size, 1, none⟩) (by simp) (by simp [go_sem])
  have h1 : Below w.heap.size w w1 := ((Below.refl _ _).alloc (Nat.le_refl _) _).trans (B.mono (by simp))
  clear B
  go_wp2_with fail
  exact bodyPost_ret (v := .tuple #[.agg #[.int .i64 (tru (decide (a < b))), .int .i64 (0)], .bool true]) (by simp [results, Tryd.results64, go_sem, k0, k1]) rfl
    ⟨rfl, (h1.setCell (by simp) _).setCell (by simp) _⟩

set_option maxHeartbeats 1000000 in
theorem num_le (a b : Int) : NumbersC ⟨#[60, 61]⟩ a b := by
  intro w
  go_enter Tryd.func64, Tryd.ntmps64
  go_wp2_with fail
  refine (vtruth_any (decide (a ≤ b)) _).mono ?_; rintro e w1 ⟨rfl, B⟩
  have k0 := keep_cell B (p := ⟨w.heap.size, 0, none⟩) (v := .int .i64 0) (by simp [go_sem])
  have k1 := keep_cell B (p := ⟨w.heap.size, 1, none⟩) (v := .int .i64 0) (by simp [go_sem])
  have f0 := keep_frozen B (p := ⟨w.heap.size, 0, none⟩) (by simp) (by simp [go_sem])
  have f1 := keep_frozen B (p := ⟨w.heap.size, 1, none⟩) (by simp) (by simp [go_sem])
  have h1 : Below w.heap.size w w1 := ((Below.refl _ _).alloc (Nat.le_refl _) _).trans (B.mono (by simp))
  clear B
  go_wp2_with fail
  exact bodyPost_ret (v := .tuple #[.agg #[.int .i64 (tru (decide (a ≤ b))), .int .i64 (0)], .bool true]) (by simp [results, Tryd.results64, go_sem, k0, k1]) rfl
    ⟨rfl, (h1.setCell (by simp) _).setCell (by simp) _⟩

set_option maxHeartbeats 1000000 in
theorem num_eq (a b : Int) : NumbersC ⟨#[61]⟩ a b := by
  intro w
  go_enter Tryd.func64, Tryd.ntmps64
  go_wp2_with fail
  refine (vtruth_any (a == b) _).mono ?_; rintro e w1 ⟨rfl, B⟩
  have k0 := keep_cell B (p := ⟨w.heap.size, 0, none⟩) (v := .int .i64 0) (by simp [go_sem])
  have k1 := keep_cell B (p := ⟨w.heap.size, 1, none⟩) (v := .int .i64 0) (by simp [go_sem])
  have f0 := keep_frozen B (p := ⟨w.heap.size, 0, none⟩) (by simp) (by simp [go_sem])
  have f1 := keep_frozen B (p := ⟨w.heap.size, 1, none⟩) (by simp) (by simp [go_sem])
  have h1 : Below w.heap.size w w1 := ((Below.refl _ _).alloc (Nat.le_refl _) _).trans (B.mono (by simp))
  clear B
  go_wp2_with fail
  exact bodyPost_ret (v := .tuple #[.agg #[.int .i64 (tru (a == b)), .int .i64 (0)], .bool true]) (by simp [results, Tryd.results64, go_sem, k0, k1]) rfl
    ⟨rfl, (h1.setCell (by simp) _).setCell (by simp) _⟩

set_option maxHeartbeats 1000000 in
theorem num_ne (a b : Int) : NumbersC ⟨#[60, 62]⟩ a b := by
  intro w
  go_enter Tryd.func64, Tryd.ntmps64
  go_wp2_with fail
  refine (vtruth_any (a != b) _).mono ?_; rintro e w1 ⟨rfl, B⟩
  have k0 := keep_cell B (p := ⟨w.heap.size, 0, none⟩) (v := .int .i64 0) (by simp [go_sem])
  have k1 := keep_cell B (p := ⟨w.heap.size, 1, none⟩) (v := .int .i64 0) (by simp [go_sem])
  have f0 := keep_frozen B (p := ⟨w.heap.size, 0, none⟩) (by simp) (by simp [go_sem])
  have f1 := keep_frozen B (p := ⟨w.heap.size, 1, none⟩) (by simp) (by simp [go_sem])
  have h1 : Below w.heap.size w w1 := ((Below.refl _ _).alloc (Nat.le_refl _) _).trans (B.mono (by simp))
  clear B
  go_wp2_with fail
  exact bodyPost_ret (v := .tuple #[.agg #[.int .i64 (tru (a != b)), .int .i64 (0)], .bool true]) (by simp [results, Tryd.results64, go_sem, k0, k1]) rfl
    ⟨rfl, (h1.setCell (by simp) _).setCell (by simp) _⟩

set_option maxHeartbeats 1000000 in
theorem num_ge (a b : Int) : NumbersC ⟨#[62, 61]⟩ a b := by
  intro w
  go_enter Tryd.func64, Tryd.ntmps64
  go_wp2_with fail
  refine (vtruth_any (decide (b ≤ a)) _).mono ?_; rintro e w1 ⟨rfl, B⟩
  have k0 := keep_cell B (p := ⟨w.heap.size, 0, none⟩) (v := .int .i64 0) (by simp [go_sem])
  have k1 := keep_cell B (p := ⟨w.heap.size, 1, none⟩) (v := .int .i64 0) (by simp [go_sem])
  have f0 := keep_frozen B (p := ⟨w.heap.size, 0, none⟩) (by simp) (by simp [go_sem])
  have f1 := keep_frozen B (p := ⟨w.heap.size, 1, none⟩) (by simp) (by simp [go_sem])
  have h1 : Below w.heap.size w w1 := ((Below.refl _ _).alloc (Nat.le_refl _) _).trans (B.mono (by simp))
  clear B
  go_wp2_with fail
  exact bodyPost_ret (v := .tuple #[.agg #[.int .i64 (tru (decide (b ≤ a))), .int .i64 (0)], .bool true]) (by simp [results, Tryd.results64, go_sem, k0, k1]) rfl
    ⟨rfl, (h1.setCell (by simp) _).setCell (by simp) _⟩

set_option maxHeartbeats 1000000 in
theorem num_gt (a b : Int) : NumbersC ⟨#[62]⟩ a b := by
  intro w
  go_enter Tryd.func64, Tryd.ntmps64
  go_wp2_with fail
  refine (vtruth_any (decide (b < a)) _).mono ?_; rintro e w1 ⟨rfl, B⟩
  have k0 := keep_cell B (p := ⟨w.heap.size, 0, none⟩) (v := .int .i64 0) (by simp [go_sem])
  have k1 := keep_cell B (p := ⟨w.heap.size, 1, none⟩) (v := .int .i64 0) (by simp [go_sem])
  have f0 := keep_frozen B (p := ⟨w.heap.size, 0, none⟩) (by simp) (by simp [go_sem])
  have f1 := keep_frozen B (p := ⟨w.heap.size, 1, none⟩) (by simp) (by simp [go_sem])
  have h1 : Below w.heap.size w w1 := ((Below.refl _ _).alloc (Nat.le_refl _) _).trans (B.mono (by simp))
  clear B
  go_wp2_with fail
  exact bodyPost_ret (v := .tuple #[.agg #[.int .i64 (tru (decide (b < a))), .int .i64 (0)], .bool true]) (by simp [results, Tryd.results64, go_sem, k0, k1]) rfl
    ⟨rfl, (h1.setCell (by simp) _).setCell (by simp) _⟩

set_option maxHeartbeats 1000000 in
theorem num_none (s : ByteArray) (a b : Int) (h0 : s.data.toList ≠ [43]) (h1 : s.data.toList ≠ [45]) (h2 : s.data.toList ≠ [42]) (h3 : s.data.toList ≠ [47]) (h4 : s.data.toList ≠ [60]) (h5 : s.data.toList ≠ [60, 61]) (h6 : s.data.toList ≠ [61]) (h7 : s.data.toList ≠ [60, 62]) (h8 : s.data.toList ≠ [62, 61]) (h9 : s.data.toList ≠ [62]) : NumbersC s a b := by
  intro w
  have ho : vOp s.data.toList a b = none := by unfold vOp; simp only [h0, h1, h2, h3, h4, h5, h6, h7, h8, h9, if_false]
  rw [ho]
  clear ho
  have d0 : (s.toList == [43]) = false := by rw [ByteArray.toList_eq, beq_eq_false_iff_ne]; exact h0
  have d1 : (s.toList == [45]) = false := by rw [ByteArray.toList_eq, beq_eq_false_iff_ne]; exact h1
  have d2 : (s.toList == [42]) = false := by rw [ByteArray.toList_eq, beq_eq_false_iff_ne]; exact h2
  have d3 : (s.toList == [47]) = false := by rw [ByteArray.toList_eq, beq_eq_false_iff_ne]; exact h3
  have d4 : (s.toList == [60]) = false := by rw [ByteArray.toList_eq, beq_eq_false_iff_ne]; exact h4
  have d5 : (s.toList == [60, 61]) = false := by rw [ByteArray.toList_eq, beq_eq_false_iff_ne]; exact h5
  have d6 : (s.toList == [61]) = false := by rw [ByteArray.toList_eq, beq_eq_false_iff_ne]; exact h6
  have d7 : (s.toList == [60, 62]) = false := by rw [ByteArray.toList_eq, beq_eq_false_iff_ne]; exact h7
  have d8 : (s.toList == [62, 61]) = false := by rw [ByteArray.toList_eq, beq_eq_false_iff_ne]; exact h8
  have d9 : (s.toList == [62]) = false := by rw [ByteArray.toList_eq, beq_eq_false_iff_ne]; exact h9
  clear h0 h1 h2 h3 h4 h5 h6 h7 h8 h9
  go_enter Tryd.func64, Tryd.ntmps64
  go_wp2_with fail
  exact bodyPost_ret (v := .tuple #[.agg #[.int .i64 0, .int .i64 0], .bool false]) (by simp [results, Tryd.results64, go_sem]) rfl
    ⟨rfl, (Below.refl _ _).alloc (Nat.le_refl _) _⟩
theorem numbers_any (s : ByteArray) (a b : Int) (ha : B64 a) (hb : B64 b) : NumbersC s a b := by
  have eqs : ∀ l : List UInt8, s.data.toList = l → s = ⟨l.toArray⟩ := fun l h => by
    obtain ⟨d⟩ := s
    simp only at h
    rw [← h]
  by_cases h0 : s.data.toList = [43]
  · rw [eqs _ h0]; exact num_add a b ha hb
  by_cases h1 : s.data.toList = [45]
  · rw [eqs _ h1]; exact num_sub a b ha hb
  by_cases h2 : s.data.toList = [42]
  · rw [eqs _ h2]; exact num_mul a b ha hb
  by_cases h3 : s.data.toList = [47]
  · rw [eqs _ h3]
    by_cases hz : b = 0
    · subst hz; exact num_div0 a
    · exact num_div a b ha hb hz
  by_cases h4 : s.data.toList = [60]
  · rw [eqs _ h4]; exact num_lt a b
  by_cases h5 : s.data.toList = [60, 61]
  · rw [eqs _ h5]; exact num_le a b
  by_cases h6 : s.data.toList = [61]
  · rw [eqs _ h6]; exact num_eq a b
  by_cases h7 : s.data.toList = [60, 62]
  · rw [eqs _ h7]; exact num_ne a b
  by_cases h8 : s.data.toList = [62, 61]
  · rw [eqs _ h8]; exact num_ge a b
  by_cases h9 : s.data.toList = [62]
  · rw [eqs _ h9]; exact num_gt a b
  exact num_none s a b h0 h1 h2 h3 h4 h5 h6 h7 h8 h9
end Go.Proofs.YthaoalmhhgllmaaDoor
namespace Go.Proofs.YthaoalmhhgllmaaDoor
open Go.RowKit
def doNum (l : List UInt8) (n f m g : Int) : Int := if f = 0 ∧ g = 0 then oNum (vOp l n m) else 0
def doFault (l : List UInt8) (n f m g : Int) : Int := if (vOp l n m).isSome = true then (if f = 0 then (if g = 0 then oFault (vOp l n m) else g) else f) else 0

set_option maxHeartbeats 1000000 in
theorem vdo_any (s : ByteArray) (n f m g : Int) (hn : B64 n) (hm : B64 m) (w : World) :
    Calls Tryd.prog 43 #[.string s, .agg #[.int .i64 n, .int .i64 f], .agg #[.int .i64 m, .int .i64 g]] w fun e w' =>
      e = .returned (.tuple #[.agg #[.int .i64 (doNum s.data.toList n f m g), .int .i64 (doFault s.data.toList n f m g)], .bool (vOp s.data.toList n m).isSome]) ∧ Below w.heap.size w w' := by
  have H := Lib.hid (numbers_any s n m hn hm)
  unfold NumbersC at H
  have hX : vOp s.data.toList n m = none → oNum (vOp s.data.toList n m) = 0 := fun h => by rw [h]; rfl
  unfold doNum doFault
  have hZ : (vOp s.data.toList n m).isSome = false → oNum (vOp s.data.toList n m) = 0 := fun h => hX (by cases ho : vOp s.data.toList n m with | none => rfl | some p => rw [ho] at h; cases h)
  clear hX hn hm
  generalize oNum (vOp s.data.toList n m) = X at *
  generalize oFault (vOp s.data.toList n m) = Y at *
  generalize (vOp s.data.toList n m).isSome = Z at *
  have HZ := Lib.hid hZ
  clear hZ
  cases Z with
  | false =>
    have hx0 := HZ.out rfl
    subst hx0
    have e1 : (if f = 0 ∧ g = 0 then (0 : Int) else 0) = 0 := by split <;> rfl
    rw [e1]
    clear e1
    go_enter Tryd.func43, Tryd.ntmps43
    go_wp2_with fail
    refine (H.out _).mono ?_; rintro e w1 ⟨rfl, b1⟩
    have k0 := keep_cell b1 (p := ⟨w.heap.size + 1 + 1, 0, none⟩) (v := .int .i64 0) (by simp [go_sem])
    have k1 := keep_cell b1 (p := ⟨w.heap.size + 1 + 1, 1, none⟩) (v := .int .i64 0) (by simp [go_sem])
    have f0 := keep_frozen b1 (p := ⟨w.heap.size + 1 + 1, 0, none⟩) (by simp) (by simp [go_sem])
    have f1 := keep_frozen b1 (p := ⟨w.heap.size + 1 + 1, 1, none⟩) (by simp) (by simp [go_sem])
    have z1 : w.heap.size + 1 + 1 < w1.heap.size := by have := b1.size; simp at this; omega
    have h1 : Below w.heap.size w w1 := ((((Below.refl _ _).alloc (Nat.le_refl _) _).alloc (by simp) _).alloc (by simp; omega) _).trans (b1.mono (by simp; omega))
    clear b1
    go_wp2_with fail
    exact bodyPost_ret (v := .tuple #[.agg #[.int .i64 0, .int .i64 0], .bool false]) (by simp [results, Tryd.results43, go_sem, k0, k1, z1]) rfl
      ⟨rfl, ((h1.setCell (by simp; omega) _).setCell (by simp; omega) _).alloc (by simpa using h1.size) _⟩
  | true =>
    have HR : Hid ((if f = 0 ∧ g = 0 then X else 0) = (if f = 0 then (if g = 0 then X else 0) else 0)) := Lib.hid (by by_cases a : f = 0 <;> by_cases b : g = 0 <;> simp [a, b])
    rw [HR.out]
    clear HR HZ
    by_cases hf : f = 0
    · subst hf
      by_cases hg : g = 0
      · subst hg
        go_enter Tryd.func43, Tryd.ntmps43
        go_wp2_with fail
        refine (H.out _).mono ?_; rintro e w1 ⟨rfl, b1⟩
        have k0 := keep_cell b1 (p := ⟨w.heap.size + 1 + 1, 0, none⟩) (v := .int .i64 0) (by simp [go_sem])
        have k1 := keep_cell b1 (p := ⟨w.heap.size + 1 + 1, 1, none⟩) (v := .int .i64 0) (by simp [go_sem])
        have k2 := keep_cell b1 (p := ⟨w.heap.size, 1, none⟩) (v := .int .i64 0) (by simp [go_sem])
        have k3 := keep_cell b1 (p := ⟨w.heap.size + 1, 1, none⟩) (v := .int .i64 0) (by simp [go_sem])
        have f0 := keep_frozen b1 (p := ⟨w.heap.size + 1 + 1, 0, none⟩) (by simp) (by simp [go_sem])
        have f1 := keep_frozen b1 (p := ⟨w.heap.size + 1 + 1, 1, none⟩) (by simp) (by simp [go_sem])
        have z1 : w.heap.size + 1 + 1 < w1.heap.size := by have := b1.size; simp at this; omega
        have z2 : w.heap.size + 1 < w1.heap.size := by omega
        have z3 : w.heap.size < w1.heap.size := by omega
        have h1 : Below w.heap.size w w1 := ((((Below.refl _ _).alloc (Nat.le_refl _) _).alloc (by simp) _).alloc (by simp; omega) _).trans (b1.mono (by simp; omega))
        clear b1
        go_wp2_with fail
        exact bodyPost_ret (v := .tuple #[.agg #[.int .i64 X, .int .i64 Y], .bool true]) (by simp [results, Tryd.results43, go_sem, k0, k1, z1]) rfl
          ⟨rfl, ((h1.setCell (by simp; omega) _).setCell (by simp; omega) _).alloc (by simpa using h1.size) _⟩
      · have d2 : (g != 0) = true := by rw [bne_iff_ne]; exact hg
        rw [if_pos rfl, if_neg hg, if_pos rfl, if_pos rfl, if_neg hg]
        clear hg
        go_enter Tryd.func43, Tryd.ntmps43
        go_wp2_with fail
        refine (H.out _).mono ?_; rintro e w1 ⟨rfl, b1⟩
        have k0 := keep_cell b1 (p := ⟨w.heap.size + 1 + 1, 0, none⟩) (v := .int .i64 0) (by simp [go_sem])
        have k1 := keep_cell b1 (p := ⟨w.heap.size + 1 + 1, 1, none⟩) (v := .int .i64 0) (by simp [go_sem])
        have k2 := keep_cell b1 (p := ⟨w.heap.size, 1, none⟩) (v := .int .i64 0) (by simp [go_sem])
        have k3 := keep_cell b1 (p := ⟨w.heap.size + 1, 1, none⟩) (v := .int .i64 g) (by simp [go_sem])
        have f0 := keep_frozen b1 (p := ⟨w.heap.size + 1 + 1, 0, none⟩) (by simp) (by simp [go_sem])
        have f1 := keep_frozen b1 (p := ⟨w.heap.size + 1 + 1, 1, none⟩) (by simp) (by simp [go_sem])
        have z1 : w.heap.size + 1 + 1 < w1.heap.size := by have := b1.size; simp at this; omega
        have z2 : w.heap.size + 1 < w1.heap.size := by omega
        have z3 : w.heap.size < w1.heap.size := by omega
        have h1 : Below w.heap.size w w1 := ((((Below.refl _ _).alloc (Nat.le_refl _) _).alloc (by simp) _).alloc (by simp; omega) _).trans (b1.mono (by simp; omega))
        clear b1
        go_wp2_with fail
        exact bodyPost_ret (v := .tuple #[.agg #[.int .i64 0, .int .i64 g], .bool true]) (by simp [results, Tryd.results43, go_sem, k0, k1, z1]) rfl
          ⟨rfl, ((h1.setCell (by simp; omega) _).setCell (by simp; omega) _).alloc (by simpa using h1.size) _⟩
    · have d2 : (f != 0) = true := by rw [bne_iff_ne]; exact hf
      rw [if_neg hf, if_pos rfl, if_neg hf]
      clear hf
      go_enter Tryd.func43, Tryd.ntmps43
      go_wp2_with fail
      refine (H.out _).mono ?_; rintro e w1 ⟨rfl, b1⟩
      have k0 := keep_cell b1 (p := ⟨w.heap.size + 1 + 1, 0, none⟩) (v := .int .i64 0) (by simp [go_sem])
      have k1 := keep_cell b1 (p := ⟨w.heap.size + 1 + 1, 1, none⟩) (v := .int .i64 0) (by simp [go_sem])
      have k2 := keep_cell b1 (p := ⟨w.heap.size, 1, none⟩) (v := .int .i64 f) (by simp [go_sem])
      have f0 := keep_frozen b1 (p := ⟨w.heap.size + 1 + 1, 0, none⟩) (by simp) (by simp [go_sem])
      have f1 := keep_frozen b1 (p := ⟨w.heap.size + 1 + 1, 1, none⟩) (by simp) (by simp [go_sem])
      have z1 : w.heap.size + 1 + 1 < w1.heap.size := by have := b1.size; simp at this; omega
      have z3 : w.heap.size < w1.heap.size := by omega
      have h1 : Below w.heap.size w w1 := ((((Below.refl _ _).alloc (Nat.le_refl _) _).alloc (by simp) _).alloc (by simp; omega) _).trans (b1.mono (by simp; omega))
      clear b1
      go_wp2_with fail
      exact bodyPost_ret (v := .tuple #[.agg #[.int .i64 0, .int .i64 f], .bool true]) (by simp [results, Tryd.results43, go_sem, k0, k1, z1]) rfl
        ⟨rfl, ((h1.setCell (by simp; omega) _).setCell (by simp; omega) _).alloc (by simpa using h1.size) _⟩

set_option maxHeartbeats 400000 in
theorem vneg_any (n f : Int) (hn : B64 n) (w : World) :
    Calls Tryd.prog 42 #[.agg #[.int .i64 n, .int .i64 f]] w fun e w' => e = .returned (.agg #[.int .i64 (doNum [45] 0 0 n f), .int .i64 (doFault [45] 0 0 n f)]) ∧ Below w.heap.size w w' := by
  have H := Lib.hid (vdo_any ⟨#[45]⟩ 0 0 n f (by unfold B64; omega) hn)
  clear hn
  rw [show (⟨#[45]⟩ : ByteArray).data.toList = [45] from rfl] at H
  generalize doNum [45] 0 0 n f = X at *
  generalize doFault [45] 0 0 n f = Y at *
  go_enter Tryd.func42, Tryd.ntmps42
  go_wp2_with fail
  refine (H.out _).mono ?_; rintro e w1 ⟨rfl, b1⟩
  have k0 := keep_cell b1 (p := ⟨w.heap.size + 1, 0, none⟩) (v := .int .i64 0) (by simp [go_sem])
  have k1 := keep_cell b1 (p := ⟨w.heap.size + 1, 1, none⟩) (v := .int .i64 0) (by simp [go_sem])
  have f0 := keep_frozen b1 (p := ⟨w.heap.size + 1, 0, none⟩) (by simp) (by simp [go_sem])
  have f1 := keep_frozen b1 (p := ⟨w.heap.size + 1, 1, none⟩) (by simp) (by simp [go_sem])
  have z1 : w.heap.size + 1 < w1.heap.size := by have := b1.size; simp at this; omega
  have h1 : Below w.heap.size w w1 := (((Below.refl _ _).alloc (Nat.le_refl _) _).alloc (by simp) _).trans (b1.mono (by simp; omega))
  clear b1
  go_wp2_with fail
  exact bodyPost_ret (v := .agg #[.int .i64 X, .int .i64 Y]) (by simp [results, Tryd.results42, go_sem, k0, k1, z1]) rfl
    ⟨rfl, ((h1.setCell (by simp) _).setCell (by simp) _).alloc (by simpa using h1.size) _⟩
end Go.Proofs.YthaoalmhhgllmaaDoor
namespace Go.Proofs.YthaoalmhhgllmaaDoor
open Go.RowKit
def bothN (p : Int × Int) (f g : Int) : Int := if f = 0 ∧ g = 0 then p.1 else 0
def bothF (p : Int × Int) (f g : Int) : Int := if f = 0 then (if g = 0 then p.2 else g) else f
end Go.Proofs.YthaoalmhhgllmaaDoor
namespace Go.Proofs.YthaoalmhhgllmaaDoor
open Go.RowKit
def AtV (w : World) (g o : Nat) (l : List (Int × Int)) : Prop := ∀ (i : Nat) (x y : Int), l[i]? = some (x, y) → w.cell? ⟨g, o + i * 2, none⟩ = some (.int .i64 x) ∧ w.cell? ⟨g, o + i * 2 + 1, none⟩ = some (.int .i64 y)
theorem AtV.below {w w' : World} {g o : Nat} {l : List (Int × Int)} (h : AtV w g o l) (hb : Below w.heap.size w w') : AtV w' g o l := fun i x y hi => ⟨keep_cell hb (h i x y hi).1, keep_cell hb (h i x y hi).2⟩
def stepV (G : Int → Int → Int × Int) (p q : Int × Int) : Int × Int := (bothN (G p.1 q.1) p.2 q.2, bothF (G p.1 q.1) p.2 q.2)
def allV (G : Int → Int → Int × Int) (p : Int × Int) (l : List (Int × Int)) : Int × Int := l.foldl (stepV G) p
def StaysV (G : Int → Int → Int × Int) : Prop := ∀ a b, B64 a → B64 b → B64 (G a b).1
theorem step_b64 {G : Int → Int → Int × Int} (hG : StaysV G) {p q : Int × Int} (hp : B64 p.1) (hq : B64 q.1) : B64 (stepV G p q).1 := by
  unfold stepV bothN
  simp only
  split
  · exact hG _ _ hp hq
  · unfold B64; omega
theorem all_b64 {G : Int → Int → Int × Int} (hG : StaysV G) : ∀ (l : List (Int × Int)) (p : Int × Int), B64 p.1 → (∀ q ∈ l, B64 q.1) → B64 (allV G p l).1
  | [], _, hp, _ => hp
  | q :: r, p, hp, hl => all_b64 hG r (stepV G p q) (step_b64 hG hp (hl q (by simp))) (fun x hx => hl x (by simp [hx]))
theorem vall_snoc {G : Int → Int → Int × Int} {p : Int × Int} {l : List (Int × Int)} {i : Nat} {x y : Int} (h : l[i]? = some (x, y)) : allV G p (l.take (i + 1)) = stepV G (allV G p (l.take i)) (x, y) := by
  unfold allV
  rw [List.take_add_one, h]
  simp
def leftC (n : Nat) (v : Value) : Nat := n - (intOf v).toNat
end Go.Proofs.YthaoalmhhgllmaaDoor
namespace Go.Proofs.YthaoalmhhgllmaaDoor
open Go.RowKit
def gAdd (a b : Int) : Int × Int := vTold (a + b)
def gLow (a b : Int) : Int × Int := (if b < a then b else a, 0)
def gTop (a b : Int) : Int × Int := (if a < b then b else a, 0)
theorem told_b64 (n : Int) : B64 (vTold n).1 := by
  unfold vTold tNum
  simp only
  split
  · rename_i h
    rw [h]
    have : B64 n := by unfold inI at h; unfold B64; simpa using h
    simpa [keep] using this
  · unfold B64; omega
theorem gAdd_stays : StaysV gAdd := fun a b _ _ => told_b64 (a + b)
theorem gLow_stays : StaysV gLow := fun a b ha hb => by unfold gLow; simp only; split <;> assumption
theorem gTop_stays : StaysV gTop := fun a b ha hb => by unfold gTop; simp only; split <;> assumption
def mostV (G : Int → Int → Int × Int) (l : List (Int × Int)) : Int × Int := allV G (l.headD (0, 0)) l
def ListV (w : World) (A : Option Addr) (l : List (Int × Int)) : Prop := l ≠ [] → ∃ g o, A = some ⟨g, o, none⟩ ∧ AtV w g o l
theorem ListV.below {w w' : World} {A : Option Addr} {l : List (Int × Int)} (h : ListV w A l) (hb : Below w.heap.size w w') : ListV w' A l := fun hl => by
  obtain ⟨g, o, e, ha⟩ := h hl
  exact ⟨g, o, e, ha.below hb⟩
end Go.Proofs.YthaoalmhhgllmaaDoor
