/- Texts joined: TvB, TvC, SyP, SrA, SrB, PlAr, PlDw, RdJa, SrC, SrD. -/
import Derived.Test.YthaoalmhhgllmaaDoorMb05
import Derived.Deep.QuietTactic
import Derived.BigQuiet
import Derived.Deep.RegionHeld3
import Derived.Deep.RegionWith
import Derived.Shelf.Abstract
import Derived.Test.YthaoalmhhgllmaaDoorMb02
import Derived.WalkLawsBesides
import Derived.Test.YthaoalmhhgllmaaDoorMb01
set_option linter.all false
namespace Go.Proofs.YthaoalmhhgllmaaDoor
open Go.RowKit
theorem deep_kid : ∀ {ks : List Tr} {i : Nat} {u : Tr}, ks[i]? = some u → deepT u ≤ deepL ks
  | [], i, u, h => by simp at h
  | t :: ts, i, u, h => by
    rw [deepL]
    match i, h with
    | 0, h => simp at h; subst h; exact Nat.le_max_left _ _
    | i + 1, h => have := deep_kid (ks := ts) (i := i) (by simpa using h); exact Nat.le_trans this (Nat.le_max_right _ _)
theorem deep_snoc : ∀ (ks : List Tr) (u : Tr), deepL (ks ++ [u]) = max (deepL ks) (deepT u)
  | [], u => by simp only [List.nil_append, deepL]; omega
  | t :: ts, u => by simp only [List.cons_append]; rw [deepL, deepL, deep_snoc ts u]; omega
theorem deep_take {ks : List Tr} {i : Nat} {u : Tr} (h : ks[i]? = some u) : deepL (ks.take (i + 1)) = max (deepL (ks.take i)) (deepT u) := by
  rw [List.take_add_one, h]; exact deep_snoc _ _
theorem deep_take_le : ∀ (ks : List Tr) (i : Nat), deepL (ks.take i) ≤ deepL ks
  | [], i => by simp
  | t :: ts, 0 => by rw [List.take_zero, deepL]; exact Nat.zero_le _
  | t :: ts, i + 1 => by
    rw [List.take_succ_cons, deepL, deepL]
    have := deep_take_le ts i
    omega
inductive Wid : Tr → Prop
  | mk {k n c r d s : Int} {w : List UInt8} {ks : List Tr} : ks.length ≤ maxLen → (∀ t ∈ ks, Wid t) → Wid (.mk k n c r d s w ks)
theorem Wid.len {t : Tr} (h : Wid t) : t.kids.length ≤ maxLen := by cases h with | mk h _ => exact h
theorem Wid.kid {t u : Tr} (h : Wid t) {i : Nat} (hi : t.kids[i]? = some u) : Wid u := by cases h with | mk _ h => exact h u (List.mem_of_getElem? hi)
theorem deep_eq (t : Tr) : deepT t = deepL t.kids + 1 := by cases t; rw [deepT]; rfl
theorem KV.kidAt {w wr : World} {P : Nat → Prop} {t u : Tr} {g o : Nat} (h : KV w P t (some ⟨g, o, none⟩)) (hb : Below w.heap.size w wr) {i : Nat} (hi : t.kids[i]? = some u) :
    g < w.heap.size ∧ ∃ A cap, At8 wr g (o + i * 8) u A cap ∧ KV wr (fun _ => True) u A := by
  obtain ⟨_, hg, A, cap, h8, hk⟩ := h.kid hi
  rw [Nat.mul_comm] at h8
  exact ⟨hg, A, cap, h8.kept (P := fun _ => True) (Kept.of_below hb) trivial, (hk.kept (Kept.of_below hb)).imp fun _ _ => trivial⟩
end Go.Proofs.YthaoalmhhgllmaaDoor
namespace Go.Proofs.YthaoalmhhgllmaaDoor
open Go.RowKit
theorem rangeGuard : Tryd.prog.eqGuardType Tryd.prog.depth 26 = false := by kernel_rfl
theorem rangeStood : Tryd.prog.stoodInHeld 26 = false := by kernel_rfl
theorem rangeStruct : Tryd.prog.underlying 26 = some (.struct (Tryd.prog.fieldsOf 26)) := by kernel_rfl
theorem guard_range (op : BinOp) (X Y : Operand) (xs ys : Array Value) (W : World) : (eqGuard op 26 X Y (.agg xs) (.agg ys)).run Tryd.prog W = .ok () W := run_eqGuard_agg W op 26 X Y xs ys rangeGuard
set_option maxHeartbeats 2000000 in
theorem eql_range (a b c d a' b' c' d' : Int) (W : World) : (binOp .eql 26 (.agg #[.int .i64 a, .int .i64 b, .int .i64 c, .int .i64 d]) (.agg #[.int .i64 a', .int .i64 b', .int .i64 c', .int .i64 d'])).run Tryd.prog W
    = .ok (.bool (a == a' && b == b' && (c == c' && d == d'))) W := by
  rw [run_eql_struct, run_equalIn_agg W 9999 26 _ _ rangeStruct rangeStood]
  by_cases h1 : a = a' <;> by_cases h2 : b = b' <;> by_cases h3 : c = c' <;> by_cases h4 : d = d' <;> simp [go_sem, h1, h2, h3, h4]
set_option maxHeartbeats 2000000 in
theorem neq_range (a b c d a' b' c' d' : Int) (W : World) : (binOp .neq 26 (.agg #[.int .i64 a, .int .i64 b, .int .i64 c, .int .i64 d]) (.agg #[.int .i64 a', .int .i64 b', .int .i64 c', .int .i64 d'])).run Tryd.prog W
    = .ok (.bool (!(a == a' && b == b' && (c == c' && d == d')))) W := by
  rw [run_neq_struct, run_equalIn_agg W 9999 26 _ _ rangeStruct rangeStood]
  by_cases h1 : a = a' <;> by_cases h2 : b = b' <;> by_cases h3 : c = c' <;> by_cases h4 : d = d' <;> simp [go_sem, h1, h2, h3, h4]
end Go.Proofs.YthaoalmhhgllmaaDoor
namespace Go.Proofs.YthaoalmhhgllmaaDoor
open Go.Lib
def onlyB (t : Tr) (n : Nat) : Bool := match t with
  | .mk k num c r d s w ks => (k == 0 || num == 0) && ((k == 1 || k == 6 || (c == 0 && r == 0 && d == 0 && s == 0)) && ((k == 4 || k == 5 || w == []) && ks.length == n))
mutual
def mayB : Tr → Bool
  | .mk k n c r d s w ks =>
    if k = 0 then onlyB (.mk k n c r d s w ks) 0 && decide (0 ≤ n)
    else if k = 1 then onlyB (.mk k n c r d s w ks) 0 && (rightB c r && (c == d && r == s))
    else if k = 2 then onlyB (.mk k n c r d s w ks) 0
    else if k = 6 then onlyB (.mk k n c r d s w ks) 0 && (rightB c r && rightB d s && decide (c ≤ d) && decide (r ≤ s))
    else if k = 3 then onlyB (.mk k n c r d s w ks) 1 && allB ks false false
    else if k = 4 then onlyB (.mk k n c r d s w ks) 2 && (allB ks false false && decide (1 ≤ lvl w))
    else if k = 5 then onlyB (.mk k n c r d s w ks) ks.length && (allB ks (w != [73, 70]) (w == [67, 79, 85, 78, 84]) && (if w = [73, 70] then ks.length == 3 else if w = [83, 85, 77] ∨ w = [77, 73, 78] ∨ w = [77, 65, 88] ∨ w = [67, 79, 85, 78, 84] then decide (0 < ks.length) else false))
    else false
def allB : List Tr → Bool → Bool → Bool
  | [], _, _ => true
  | t :: ts, spans, corners => (mayB t && ((spans || t.kind != 6) && (!corners || t.kind == 6 || t.kind == 2))) && allB ts spans corners
end
inductive Fit : Tr → Prop
  | mk {k n c r d s : Int} {w : List UInt8} {ks : List Tr} : n ≤ 9223372036854775807 → (∀ t ∈ ks, Fit t) → Fit (.mk k n c r d s w ks)
theorem all_mem {ks : List Tr} {a b : Bool} (h : allB ks a b = true) : ∀ t ∈ ks, mayB t = true ∧ (a = true ∨ t.kind ≠ 6) ∧ (b = false ∨ t.kind = 6 ∨ t.kind = 2) := by
  induction ks with
  | nil => intro t ht; cases ht
  | cons u r ih =>
    rw [allB] at h
    simp only [Bool.and_eq_true, Bool.or_eq_true, Bool.not_eq_true', bne_iff_ne, beq_iff_eq] at h
    obtain ⟨⟨h1, h2, h3⟩, h4⟩ := h
    intro t ht
    rcases List.mem_cons.1 ht with rfl | ht
    · exact ⟨h1, h2, by rcases h3 with (h3 | h3) | h3; exact .inl h3; exact .inr (.inl h3); exact .inr (.inr h3)⟩
    · exact ih h4 t ht
end Go.Proofs.YthaoalmhhgllmaaDoor
namespace Go.Proofs.YthaoalmhhgllmaaDoor
open Go.RowKit
set_option maxHeartbeats 4000000 in
set_option maxRecDepth 10000 in
theorem pspare_at (k num a b c d : Int) (wd : List UInt8) (A : Option Addr) (n cap : Nat) (w : World) (N0 B0 AT B1 B6 W0 B4 B5 LN B3 : Bool) (hn : (num != 0) = N0) (h0 : (k != 0) = B0)
    (hA : ∀ W, (binOp .neq 26 (.agg #[.int .i64 a, .int .i64 b, .int .i64 c, .int .i64 d]) (.agg #[.int .i64 0, .int .i64 0, .int .i64 0, .int .i64 0])).run Tryd.prog W = .ok (.bool AT) W)
    (h1 : (k != 1) = B1) (h6 : (k != 6) = B6) (hw : (wd == []) = W0) (h4 : (k != 4) = B4) (h5 : (k != 5) = B5) (hl : decide ((0 : Int) < (n : Int)) = LN) (h3 : (k != 3) = B3) :
    Calls Tryd.prog 48 #[.agg #[.int .i64 k, .int .i64 num, .int .i64 a, .int .i64 b, .int .i64 c, .int .i64 d, .string ⟨wd.toArray⟩, .slice A n cap]] w fun e w' => e = .returned (.bool ((N0 && B0) || ((AT && (B1 && B6)) || ((!W0 && (B4 && B5)) || (LN && (B3 && (B4 && B5))))))) ∧ Below w.heap.size w w' := by
  have hG := fun op X Y W => guard_range op X Y #[.int .i64 a, .int .i64 b, .int .i64 c, .int .i64 d] #[.int .i64 0, .int .i64 0, .int .i64 0, .int .i64 0] W
  cases N0 with
  | true =>
   cases B0 with
   | true =>
    go_enter Tryd.func48, Tryd.ntmps48
    go_wp2_with fail
    go_ret
    exact ⟨rfl, (Below.refl _ _).alloc (Nat.le_refl _) _⟩
   | false =>
    cases AT with
    | true =>
     cases B1 with
     | true =>
      cases B6 with
      | true =>
       go_enter Tryd.func48, Tryd.ntmps48
       go_wp2_with fail
       go_ret
       exact ⟨rfl, (Below.refl _ _).alloc (Nat.le_refl _) _⟩
      | false =>
       have ea : k = 0 := by simpa using h0
       have eb : k = 6 := by simpa using h6
       omega
     | false =>
      have ea : k = 0 := by simpa using h0
      have eb : k = 1 := by simpa using h1
      omega
    | false =>
     cases W0 with
     | true =>
      cases LN with
      | true =>
       have hz : 0 < n := by simpa using hl
       cases B3 with
       | true =>
        cases B4 with
        | true =>
         cases B5 with
         | true =>
          go_enter Tryd.func48, Tryd.ntmps48
          go_wp2_with fail
          go_ret
          exact ⟨rfl, (Below.refl _ _).alloc (Nat.le_refl _) _⟩
         | false =>
          have ea : k = 0 := by simpa using h0
          have eb : k = 5 := by simpa using h5
          omega
        | false =>
         have ea : k = 0 := by simpa using h0
         have eb : k = 4 := by simpa using h4
         omega
       | false =>
        have ea : k = 0 := by simpa using h0
        have eb : k = 3 := by simpa using h3
        omega
      | false =>
       have hz : ¬ 0 < n := by simpa using hl
       go_enter Tryd.func48, Tryd.ntmps48
       go_wp2_with fail
       go_ret
       exact ⟨rfl, (Below.refl _ _).alloc (Nat.le_refl _) _⟩
     | false =>
      cases B4 with
      | true =>
       cases B5 with
       | true =>
        go_enter Tryd.func48, Tryd.ntmps48
        go_wp2_with fail
        go_ret
        exact ⟨rfl, (Below.refl _ _).alloc (Nat.le_refl _) _⟩
       | false =>
        have ea : k = 0 := by simpa using h0
        have eb : k = 5 := by simpa using h5
        omega
      | false =>
       have ea : k = 0 := by simpa using h0
       have eb : k = 4 := by simpa using h4
       omega
  | false =>
   cases AT with
   | true =>
    cases B1 with
    | true =>
     cases B6 with
     | true =>
      go_enter Tryd.func48, Tryd.ntmps48
      go_wp2_with fail
      go_ret
      exact ⟨rfl, (Below.refl _ _).alloc (Nat.le_refl _) _⟩
     | false =>
      cases W0 with
      | true =>
       cases LN with
       | true =>
        have hz : 0 < n := by simpa using hl
        cases B3 with
        | true =>
         cases B4 with
         | true =>
          cases B5 with
          | true =>
           go_enter Tryd.func48, Tryd.ntmps48
           go_wp2_with fail
           go_ret
           exact ⟨rfl, (Below.refl _ _).alloc (Nat.le_refl _) _⟩
          | false =>
           have ea : k = 6 := by simpa using h6
           have eb : k = 5 := by simpa using h5
           omega
         | false =>
          have ea : k = 6 := by simpa using h6
          have eb : k = 4 := by simpa using h4
          omega
        | false =>
         have ea : k = 6 := by simpa using h6
         have eb : k = 3 := by simpa using h3
         omega
       | false =>
        have hz : ¬ 0 < n := by simpa using hl
        go_enter Tryd.func48, Tryd.ntmps48
        go_wp2_with fail
        go_ret
        exact ⟨rfl, (Below.refl _ _).alloc (Nat.le_refl _) _⟩
      | false =>
       cases B4 with
       | true =>
        cases B5 with
        | true =>
         go_enter Tryd.func48, Tryd.ntmps48
         go_wp2_with fail
         go_ret
         exact ⟨rfl, (Below.refl _ _).alloc (Nat.le_refl _) _⟩
        | false =>
         have ea : k = 6 := by simpa using h6
         have eb : k = 5 := by simpa using h5
         omega
       | false =>
        have ea : k = 6 := by simpa using h6
        have eb : k = 4 := by simpa using h4
        omega
    | false =>
     cases W0 with
     | true =>
      cases LN with
      | true =>
       have hz : 0 < n := by simpa using hl
       cases B3 with
       | true =>
        cases B4 with
        | true =>
         cases B5 with
         | true =>
          go_enter Tryd.func48, Tryd.ntmps48
          go_wp2_with fail
          go_ret
          exact ⟨rfl, (Below.refl _ _).alloc (Nat.le_refl _) _⟩
         | false =>
          have ea : k = 1 := by simpa using h1
          have eb : k = 5 := by simpa using h5
          omega
        | false =>
         have ea : k = 1 := by simpa using h1
         have eb : k = 4 := by simpa using h4
         omega
       | false =>
        have ea : k = 1 := by simpa using h1
        have eb : k = 3 := by simpa using h3
        omega
      | false =>
       have hz : ¬ 0 < n := by simpa using hl
       go_enter Tryd.func48, Tryd.ntmps48
       go_wp2_with fail
       go_ret
       exact ⟨rfl, (Below.refl _ _).alloc (Nat.le_refl _) _⟩
     | false =>
      cases B4 with
      | true =>
       cases B5 with
       | true =>
        go_enter Tryd.func48, Tryd.ntmps48
        go_wp2_with fail
        go_ret
        exact ⟨rfl, (Below.refl _ _).alloc (Nat.le_refl _) _⟩
       | false =>
        have ea : k = 1 := by simpa using h1
        have eb : k = 5 := by simpa using h5
        omega
      | false =>
       have ea : k = 1 := by simpa using h1
       have eb : k = 4 := by simpa using h4
       omega
   | false =>
    cases W0 with
    | true =>
     cases LN with
     | true =>
      have hz : 0 < n := by simpa using hl
      cases B3 with
      | true =>
       cases B4 with
       | true =>
        cases B5 with
        | true =>
         go_enter Tryd.func48, Tryd.ntmps48
         go_wp2_with fail
         go_ret
         exact ⟨rfl, (Below.refl _ _).alloc (Nat.le_refl _) _⟩
        | false =>
         go_enter Tryd.func48, Tryd.ntmps48
         go_wp2_with fail
         go_ret
         exact ⟨rfl, (Below.refl _ _).alloc (Nat.le_refl _) _⟩
       | false =>
        go_enter Tryd.func48, Tryd.ntmps48
        go_wp2_with fail
        go_ret
        exact ⟨rfl, (Below.refl _ _).alloc (Nat.le_refl _) _⟩
      | false =>
       go_enter Tryd.func48, Tryd.ntmps48
       go_wp2_with fail
       go_ret
       exact ⟨rfl, (Below.refl _ _).alloc (Nat.le_refl _) _⟩
     | false =>
      have hz : ¬ 0 < n := by simpa using hl
      go_enter Tryd.func48, Tryd.ntmps48
      go_wp2_with fail
      go_ret
      exact ⟨rfl, (Below.refl _ _).alloc (Nat.le_refl _) _⟩
    | false =>
     cases B4 with
     | true =>
      cases B5 with
      | true =>
       go_enter Tryd.func48, Tryd.ntmps48
       go_wp2_with fail
       go_ret
       exact ⟨rfl, (Below.refl _ _).alloc (Nat.le_refl _) _⟩
      | false =>
       cases LN with
       | true =>
        have hz : 0 < n := by simpa using hl
        cases B3 with
        | true =>
         go_enter Tryd.func48, Tryd.ntmps48
         go_wp2_with fail
         go_ret
         exact ⟨rfl, (Below.refl _ _).alloc (Nat.le_refl _) _⟩
        | false =>
         have ea : k = 5 := by simpa using h5
         have eb : k = 3 := by simpa using h3
         omega
       | false =>
        have hz : ¬ 0 < n := by simpa using hl
        go_enter Tryd.func48, Tryd.ntmps48
        go_wp2_with fail
        go_ret
        exact ⟨rfl, (Below.refl _ _).alloc (Nat.le_refl _) _⟩
     | false =>
      cases LN with
      | true =>
       have hz : 0 < n := by simpa using hl
       cases B3 with
       | true =>
        go_enter Tryd.func48, Tryd.ntmps48
        go_wp2_with fail
        go_ret
        exact ⟨rfl, (Below.refl _ _).alloc (Nat.le_refl _) _⟩
       | false =>
        have ea : k = 4 := by simpa using h4
        have eb : k = 3 := by simpa using h3
        omega
      | false =>
       have hz : ¬ 0 < n := by simpa using hl
       go_enter Tryd.func48, Tryd.ntmps48
       go_wp2_with fail
       go_ret
       exact ⟨rfl, (Below.refl _ _).alloc (Nat.le_refl _) _⟩
def spareB (t : Tr) : Bool := ((t.num != 0) && (t.kind != 0)) || (((!(t.c1 == 0 && t.r1 == 0 && (t.c2 == 0 && t.r2 == 0))) && ((t.kind != 1) && (t.kind != 6))) || ((!(t.word == []) && ((t.kind != 4) && (t.kind != 5))) || (decide ((0 : Int) < (t.kids.length : Int)) && ((t.kind != 3) && ((t.kind != 4) && (t.kind != 5))))))
theorem pspare_any (t : Tr) (A : Option Addr) (cap : Nat) (w : World) :
    Calls Tryd.prog 48 #[tv t A cap] w fun e w' => e = .returned (.bool (spareB t)) ∧ Below w.heap.size w w' :=
  pspare_at t.kind t.num t.c1 t.r1 t.c2 t.r2 t.word A t.kids.length cap w _ _ _ _ _ _ _ _ _ _ rfl rfl (fun W => neq_range _ _ _ _ _ _ _ _ W) rfl rfl rfl rfl rfl rfl rfl
end Go.Proofs.YthaoalmhhgllmaaDoor
namespace Go.Proofs.YthaoalmhhgllmaaDoor
open Go.RowKit Go.Shelf
structure TestC (F : Nat) (p : Tr → Bool) : Prop where
  enters : ∀ (args : Array Value) (w : World), (callFunc F args).run Tryd.prog w = .ok (.enter F args) w
  runs : ∀ (t : Tr) (A : Option Addr) (cap : Nat) (w : World), Calls Tryd.prog F #[tv t A cap] w fun e w' => e = .returned (.bool (p t)) ∧ Below w.heap.size w w'
set_option maxHeartbeats 1000000 in
set_option maxRecDepth 10000 in
theorem spanC : TestC 92 (fun t => t.kind == 6) := by
  refine ⟨fun args w => enters_of Tryd.func92 (by kernel_rfl) rfl args w, fun t A cap w => ?_⟩
  unfold tv
  go_enter Tryd.func92, Tryd.ntmps92
  go_wp2_with fail
  go_ret
  exact ⟨rfl, (Below.refl _ _).alloc (Nat.le_refl _) _⟩
set_option maxHeartbeats 1000000 in
set_option maxRecDepth 10000 in
theorem uncountedC : TestC 94 (fun t => (t.kind != 6) && (t.kind != 2)) := by
  refine ⟨fun args w => enters_of Tryd.func94 (by kernel_rfl) rfl args w, fun t A cap w => ?_⟩
  unfold tv
  cases h6 : (t.kind != 6) with
  | true =>
    go_enter Tryd.func94, Tryd.ntmps94
    go_wp2_with fail
    go_ret
    exact ⟨rfl, (Below.refl _ _).alloc (Nat.le_refl _) _⟩
  | false =>
    go_enter Tryd.func94, Tryd.ntmps94
    go_wp2_with fail
    go_ret
    exact ⟨rfl, (Below.refl _ _).alloc (Nat.le_refl _) _⟩
theorem any_hit {p : Tr → Bool} {ks : List Tr} {i : Nat} {u : Tr} (h : ks[i]? = some u) (hp : p u = true) : ks.any p = true := List.any_eq_true.2 ⟨u, List.mem_of_getElem? h, hp⟩
theorem any_miss {p : Tr → Bool} {ks : List Tr} (h : ∀ (j : Nat) (u : Tr), j < ks.length → ks[j]? = some u → p u = false) : ks.any p = false := by
  rw [Bool.eq_false_iff]
  intro ha
  obtain ⟨u, hu, hp⟩ := List.any_eq_true.1 ha
  obtain ⟨j, hj⟩ := List.getElem?_of_mem hu
  have := h j u (List.getElem?_eq_some_iff.1 hj).1 hj
  rw [hp] at this; cases this
set_option maxHeartbeats 1000000 in
set_option maxRecDepth 10000 in
theorem sindexs_any {F : Nat} {p : Tr → Bool} (hF : TestC F p) (t : Tr) (ht : Wid t) (w : World) (P : Nat → Prop) (A : Option Addr) (ca : Nat) (hA : KV w P t A) :
    Calls Tryd.prog 101 #[.slice A t.kids.length ca, .func (.func F) #[] #[]] w fun e w' => (∃ i : Int, e = .returned (.int .i64 i) ∧ decide (0 ≤ i) = t.kids.any p) ∧ Below w.heap.size w w' := by
  have hlen := ht.len
  unfold maxLen at hlen
  have hE := hF.enters
  have HF := Lib.hid hF.runs
  have HA := Lib.hid hA
  clear hF hA
  go_enter Tryd.func101, Tryd.ntmps101
  go_wp2_with fail
  go_loopw [8] (fun vi wr => ∃ i : Nat, i ≤ t.kids.length ∧ vi = .int .i64 (i : Int) ∧ Hid (∀ (j : Nat) (u : Tr), j < i → t.kids[j]? = some u → p u = false) ∧ Below w.heap.size w wr) (fun vi _ => t.kids.length - (intOf vi).toNat)
  case atStart => exact ⟨0, Nat.zero_le _, rfl, Lib.hid fun j u hj => by omega, Below.refl _ _⟩
  case round =>
    obtain ⟨i, hi, rfl, HN, hbel⟩ := hrel
    by_cases hlt : i < t.kids.length
    · have ha : t.kids[i]? = some (t.kids[i]'hlt) := List.getElem?_eq_getElem hlt
      obtain ⟨g, o, rfl⟩ := HA.out.addr ha
      obtain ⟨hg, A', ca', h8, hkv⟩ := HA.out.kidAt hbel ha
      have HM := Lib.hid ha
      have HC := Lib.hid (HF.out (t.kids[i]'hlt) A' ca' wr)
      generalize t.kids[i]'hlt = x at *
      unfold At8 at h8
      unfold tv at HC
      obtain ⟨q0, q1, q2, q3, q4, q5, q6, q7⟩ := h8
      clear hkv ha
      cases hp : p x with
      | true =>
        rw [hp] at HC
        have HH := Lib.hid (any_hit HM.out hp)
        clear hp
        go_wp2_with fail
        refine HC.out.mono ?_; rintro e w1 ⟨rfl, b1⟩
        have hb1 := hbel.trans (b1.mono hbel.size)
        clear b1 q0 q1 q2 q3 q4 q5 q6 q7
        go_wp2_with fail
        go_ret
        exact ⟨⟨_, rfl, by rw [HH.out]; exact decide_eq_true (by omega)⟩, hb1⟩
      | false =>
        rw [hp] at HC
        have HH := Lib.hid hp
        clear hp
        go_wp2_with fail
        refine HC.out.mono ?_; rintro e w1 ⟨rfl, b1⟩
        have hb1 := hbel.trans (b1.mono hbel.size)
        clear b1 q0 q1 q2 q3 q4 q5 q6 q7
        go_wp2_with fail
        go_roundw
        case rel => exact ⟨i + 1, by omega, by go_num, Lib.hid fun j u hj hu => by
          by_cases hji : j < i
          · exact HN.out j u hji hu
          · obtain rfl : j = i := by omega
            rw [HM.out] at hu; obtain rfl := Option.some.inj hu; exact HH.out, hb1⟩
        case measure => simp [intOf]; omega
    · have hii : i = t.kids.length := by omega
      subst hii
      have HH := Lib.hid (any_miss HN.out)
      go_wp2_with fail
      go_ret
      exact ⟨⟨_, rfl, by rw [HH.out]; rfl⟩, hbel⟩
set_option maxHeartbeats 1000000 in
set_option maxRecDepth 10000 in
theorem pcontains_any {F : Nat} {p : Tr → Bool} (hF : TestC F p) (t : Tr) (ht : Wid t) (w : World) (P : Nat → Prop) (A : Option Addr) (ca : Nat) (hA : KV w P t A) :
    Calls Tryd.prog 91 #[.slice A t.kids.length ca, .func (.func F) #[] #[]] w fun e w' => e = .returned (.bool (t.kids.any p)) ∧ Below w.heap.size w w' := by
  have H := Lib.hid (sindexs_any hF t ht w P A ca hA)
  clear hF hA
  go_enter Tryd.func91, Tryd.ntmps91
  go_wp2_with fail
  refine H.out.mono ?_; rintro e w1 ⟨⟨i, rfl, hi⟩, b1⟩
  have HI := Lib.hid hi
  clear hi
  go_wp2_with fail
  go_ret
  exact ⟨ret_bool HI.out, b1⟩
def exprsB (ks : List Tr) (n : Nat) : Bool := (ks.length == n) && !ks.any (fun t => t.kind == 6)
set_option maxHeartbeats 1000000 in
set_option maxRecDepth 10000 in
theorem pexprs_any (n : Nat) (t : Tr) (ht : Wid t) (w : World) (P : Nat → Prop) (A : Option Addr) (ca : Nat) (hA : KV w P t A) :
    Calls Tryd.prog 77 #[.slice A t.kids.length ca, .int .i64 (n : Int)] w fun e w' => e = .returned (.bool (exprsB t.kids n)) ∧ Below w.heap.size w w' := by
  have hlen := ht.len
  unfold maxLen at hlen
  have H := Lib.hid (pcontains_any spanC t ht w P A ca hA)
  unfold exprsB
  clear hA
  cases hl : (t.kids.length == n) with
  | true =>
    have d1 : ((t.kids.length : Int) == (n : Int)) = true := by rw [beq_iff_eq] at hl ⊢; omega
    go_enter Tryd.func77, Tryd.ntmps77
    go_wp2_with fail
    refine H.out.mono ?_; rintro e w1 ⟨rfl, b1⟩
    go_wp2_with fail
    go_ret
    exact ⟨ret_bool (Bool.true_and _).symm, b1⟩
  | false =>
    have d1 : ((t.kids.length : Int) == (n : Int)) = false := by rw [beq_eq_false_iff_ne] at hl ⊢; omega
    go_enter Tryd.func77, Tryd.ntmps77
    go_wp2_with fail
    go_ret
    exact ⟨rfl, Below.refl _ _⟩
def calledB (wd : List UInt8) (ks : List Tr) : Bool :=
  if wd = [73, 70] then exprsB ks 3 else if wd = [83, 85, 77] ∨ wd = [77, 73, 78] ∨ wd = [77, 65, 88] then decide ((0 : Int) < (ks.length : Int)) else if wd = [67, 79, 85, 78, 84] then decide ((0 : Int) < (ks.length : Int)) && !ks.any (fun t => (t.kind != 6) && (t.kind != 2)) else false
set_option maxHeartbeats 1000000 in
set_option maxRecDepth 10000 in
theorem pcalled_any (wd : List UInt8) (t : Tr) (ht : Wid t) (w : World) (P : Nat → Prop) (A : Option Addr) (ca : Nat) (hA : KV w P t A) :
    Calls Tryd.prog 79 #[.string ⟨wd.toArray⟩, .slice A t.kids.length ca] w fun e w' => e = .returned (.bool (calledB wd t.kids)) ∧ Below w.heap.size w w' := by
  have hlen := ht.len
  unfold maxLen at hlen
  have HX := Lib.hid (pexprs_any 3 t ht w P A ca hA)
  have HC := Lib.hid (pcontains_any uncountedC t ht w P A ca hA)
  clear hA
  unfold calledB
  have HD : ∀ b, decide ((0 : Int) < (t.kids.length : Int)) = b → decide ((0 : Int) < (t.kids.length : Int)) = b := fun _ h => h
  generalize hn : t.kids.length = n at *
  have HNN := Lib.hid hn
  clear hn HD
  by_cases hi : wd = [73, 70]
  · subst hi
    rw [if_pos rfl]
    go_enter Tryd.func79, Tryd.ntmps79
    go_wp2_with fail
    refine HX.out.mono ?_; rintro e w1 ⟨rfl, b1⟩
    go_wp2_with fail
    go_ret
    exact ⟨rfl, b1⟩
  · rw [if_neg hi]
    by_cases h3 : wd = [83, 85, 77] ∨ wd = [77, 73, 78] ∨ wd = [77, 65, 88]
    · rw [if_pos h3]
      rcases h3 with rfl | rfl | rfl
      · by_cases hz : 0 < n
        · have d1 : decide ((0 : Int) < (n : Int)) = true := decide_eq_true (by omega)
          have d2 := Lib.hid d1
          go_enter Tryd.func79, Tryd.ntmps79
          go_wp2_with fail
          go_ret
          exact ⟨ret_bool (by rw [d2.out]), Below.refl _ _⟩
        · have d1 : decide ((0 : Int) < (n : Int)) = false := decide_eq_false (by omega)
          have d2 := Lib.hid d1
          go_enter Tryd.func79, Tryd.ntmps79
          go_wp2_with fail
          go_ret
          exact ⟨ret_bool (by rw [d2.out]), Below.refl _ _⟩
      · by_cases hz : 0 < n
        · have d1 : decide ((0 : Int) < (n : Int)) = true := decide_eq_true (by omega)
          have d2 := Lib.hid d1
          go_enter Tryd.func79, Tryd.ntmps79
          go_wp2_with fail
          go_ret
          exact ⟨ret_bool (by rw [d2.out]), Below.refl _ _⟩
        · have d1 : decide ((0 : Int) < (n : Int)) = false := decide_eq_false (by omega)
          have d2 := Lib.hid d1
          go_enter Tryd.func79, Tryd.ntmps79
          go_wp2_with fail
          go_ret
          exact ⟨ret_bool (by rw [d2.out]), Below.refl _ _⟩
      · by_cases hz : 0 < n
        · have d1 : decide ((0 : Int) < (n : Int)) = true := decide_eq_true (by omega)
          have d2 := Lib.hid d1
          go_enter Tryd.func79, Tryd.ntmps79
          go_wp2_with fail
          go_ret
          exact ⟨ret_bool (by rw [d2.out]), Below.refl _ _⟩
        · have d1 : decide ((0 : Int) < (n : Int)) = false := decide_eq_false (by omega)
          have d2 := Lib.hid d1
          go_enter Tryd.func79, Tryd.ntmps79
          go_wp2_with fail
          go_ret
          exact ⟨ret_bool (by rw [d2.out]), Below.refl _ _⟩
    · rw [if_neg h3]
      by_cases hc : wd = [67, 79, 85, 78, 84]
      · subst hc
        rw [if_pos rfl]
        by_cases hz : 0 < n
        · have d1 : decide ((0 : Int) < (n : Int)) = true := decide_eq_true (by omega)
          have d2 := Lib.hid d1
          go_enter Tryd.func79, Tryd.ntmps79
          go_wp2_with fail
          refine HC.out.mono ?_; rintro e w1 ⟨rfl, b1⟩
          go_wp2_with fail
          go_ret
          exact ⟨ret_bool (by rw [d2.out, Bool.true_and]), b1⟩
        · have d1 : decide ((0 : Int) < (n : Int)) = false := decide_eq_false (by omega)
          have d2 := Lib.hid d1
          go_enter Tryd.func79, Tryd.ntmps79
          go_wp2_with fail
          go_ret
          exact ⟨ret_bool (by rw [d2.out, Bool.false_and]), Below.refl _ _⟩
      · rw [if_neg hc]
        have e0 : (wd == [73, 70]) = false := by rw [beq_eq_false_iff_ne]; exact hi
        have e1 : (wd == [83, 85, 77]) = false := by rw [beq_eq_false_iff_ne]; exact fun e => h3 (.inl e)
        have e2 : (wd == [77, 73, 78]) = false := by rw [beq_eq_false_iff_ne]; exact fun e => h3 (.inr (.inl e))
        have e3 : (wd == [77, 65, 88]) = false := by rw [beq_eq_false_iff_ne]; exact fun e => h3 (.inr (.inr e))
        have e4 : (wd == [67, 79, 85, 78, 84]) = false := by rw [beq_eq_false_iff_ne]; exact hc
        clear hi h3 hc
        go_enter Tryd.func79, Tryd.ntmps79
        go_wp2_with fail
        go_ret
        exact ⟨rfl, Below.refl _ _⟩
end Go.Proofs.YthaoalmhhgllmaaDoor
namespace Go.Proofs.YthaoalmhhgllmaaDoor
open Go.RowKit
set_option maxHeartbeats 400000 in
theorem pright_any (c r : Int) (w : World) :
    Calls Tryd.prog 76 #[.agg #[.int .i64 c, .int .i64 r]] w fun e w' => e = .returned (.bool (rightB c r)) ∧ Below w.heap.size w w' := by
  go_enter Tryd.func76, Tryd.ntmps76
  go_wp2_with fail
  all_goals go_ret
  · exact ⟨ret_bool (bool_iff (by rw [rightB_iff]; simp; omega)), (Below.refl _ _).alloc (Nat.le_refl _) _⟩
  · exact ⟨ret_bool ((rightB_not _ _).2 (by omega)).symm, (Below.refl _ _).alloc (Nat.le_refl _) _⟩
  · exact ⟨ret_bool ((rightB_not _ _).2 (by omega)).symm, (Below.refl _ _).alloc (Nat.le_refl _) _⟩
  · exact ⟨ret_bool ((rightB_not _ _).2 (by omega)).symm, (Below.refl _ _).alloc (Nat.le_refl _) _⟩
end Go.Proofs.YthaoalmhhgllmaaDoor
namespace Go.Proofs.YthaoalmhhgllmaaDoor
open Go.RowKit
set_option maxHeartbeats 1000000 in
theorem pwhole_any (a b c d : Int) (w : World) :
    Calls Tryd.prog 80 #[.agg #[.int .i64 a, .int .i64 b, .int .i64 c, .int .i64 d]] w fun e w' => e = .returned (.bool (wholeB a b c d)) ∧ Below w.heap.size w w' := by
  have HF := Lib.hid (pright_any a b)
  have HT := Lib.hid (pright_any c d)
  cases hf : rightB a b with
  | false =>
    have e1 := Lib.hid (show wholeB a b c d = false from by unfold wholeB; rw [hf]; rfl)
    rw [hf] at HF
    clear hf
    go_enter Tryd.func80, Tryd.ntmps80
    go_wp2_with fail
    refine (HF.out _).mono ?_; rintro e w1 ⟨rfl, b1⟩
    have h1 : Below w.heap.size w w1 := ((Below.refl _ _).alloc (Nat.le_refl _) _).trans (b1.mono (by simp))
    clear b1
    go_wp2_with fail
    go_ret
    exact ⟨ret_bool e1.out.symm, h1⟩
  | true =>
    rw [hf] at HF
    cases ht : rightB c d with
    | false =>
      have e1 := Lib.hid (show wholeB a b c d = false from by unfold wholeB; rw [hf, ht]; rfl)
      rw [ht] at HT
      clear hf ht
      go_enter Tryd.func80, Tryd.ntmps80
      go_wp2_with fail
      refine (HF.out _).mono ?_; rintro e w1 ⟨rfl, b1⟩
      have k2 := keep_fresh b1 2 (v := .int .i64 c) rfl
      have k3 := keep_fresh b1 3 (v := .int .i64 d) rfl
      go_wp2_with fail
      refine (HT.out _).mono ?_; rintro e w2 ⟨rfl, b2⟩
      have h1 : Below w.heap.size w w1 := ((Below.refl _ _).alloc (Nat.le_refl _) _).trans (b1.mono (by simp))
      have h2 := h1.trans (b2.mono h1.size)
      clear k2 k3 b1 b2
      go_wp2_with fail
      go_ret
      exact ⟨ret_bool e1.out.symm, h2⟩
    | true =>
      have e1 := Lib.hid (show wholeB a b c d = (decide (a ≤ c) && decide (b ≤ d)) from by unfold wholeB; rw [hf, ht]; rfl)
      rw [ht] at HT
      clear hf ht
      go_enter Tryd.func80, Tryd.ntmps80
      go_wp2_with fail
      refine (HF.out _).mono ?_; rintro e w1 ⟨rfl, b1⟩
      have j0 := keep_fresh b1 0 (v := .int .i64 a) rfl
      have j1 := keep_fresh b1 1 (v := .int .i64 b) rfl
      have j2 := keep_fresh b1 2 (v := .int .i64 c) rfl
      have j3 := keep_fresh b1 3 (v := .int .i64 d) rfl
      go_wp2_with fail
      refine (HT.out _).mono ?_; rintro e w2 ⟨rfl, b2⟩
      have k0 := keep_cell b2 j0
      have k1 := keep_cell b2 j1
      have k2 := keep_cell b2 j2
      have k3 := keep_cell b2 j3
      have h1 : Below w.heap.size w w1 := ((Below.refl _ _).alloc (Nat.le_refl _) _).trans (b1.mono (by simp))
      have h2 := h1.trans (b2.mono h1.size)
      clear j0 j1 j2 j3 b1 b2
      by_cases hac : a ≤ c
      · have d1 : decide (a ≤ c) = true := decide_eq_true hac
        rw [d1, Bool.true_and] at e1
        clear hac
        go_wp2_with fail
        go_ret
        exact ⟨ret_bool e1.out.symm, h2⟩
      · have d1 : decide (a ≤ c) = false := decide_eq_false hac
        rw [d1, Bool.false_and] at e1
        clear hac
        go_wp2_with fail
        go_ret
        exact ⟨ret_bool e1.out.symm, h2⟩
end Go.Proofs.YthaoalmhhgllmaaDoor
namespace Go.Proofs.YthaoalmhhgllmaaDoor
open Go.RowKit
theorem ba_eq (l : List UInt8) (m : List UInt8) : ((⟨l.toArray⟩ : ByteArray) = ⟨m.toArray⟩) ↔ l = m := by
  constructor
  · intro h; have := congrArg ByteArray.data h; simpa using this
  · rintro rfl; rfl
theorem strV_lvl (l : List UInt8) : strV ⟨l.toArray⟩ = (lvl l : Int) - 1 := by
  have h0 : ∀ (m : List UInt8) (r : List ByteArray), (findS ⟨l.toArray⟩ ((⟨m.toArray⟩ : ByteArray) :: r)).isSome = (decide (l = m) || (findS ⟨l.toArray⟩ r).isSome) := fun m r => by
    rw [findS]
    by_cases h : l = m
    · rw [if_pos ((ba_eq l m).2 h)]; simp [h]
    · rw [if_neg (fun e => h ((ba_eq l m).1 e))]; simp [h]
  have hn : (findS ⟨l.toArray⟩ []).isSome = false := rfl
  have e0 : (findS ⟨l.toArray⟩ (strL 0)).isSome = (decide (l = [60]) || (decide (l = [60, 61]) || (decide (l = [61]) || (decide (l = [60, 62]) || (decide (l = [62, 61]) || (decide (l = [62]) || false)))))) := by
    show (findS ⟨l.toArray⟩ [⟨[60].toArray⟩, ⟨[60, 61].toArray⟩, ⟨[61].toArray⟩, ⟨[60, 62].toArray⟩, ⟨[62, 61].toArray⟩, ⟨[62].toArray⟩]).isSome = _
    rw [h0, h0, h0, h0, h0, h0, hn]
  have e1 : (findS ⟨l.toArray⟩ (strL 1)).isSome = (decide (l = [43]) || (decide (l = [45]) || false)) := by
    show (findS ⟨l.toArray⟩ [⟨[43].toArray⟩, ⟨[45].toArray⟩]).isSome = _
    rw [h0, h0, hn]
  have e2 : (findS ⟨l.toArray⟩ (strL 2)).isSome = (decide (l = [42]) || (decide (l = [47]) || false)) := by
    show (findS ⟨l.toArray⟩ [⟨[42].toArray⟩, ⟨[47].toArray⟩]).isSome = _
    rw [h0, h0, hn]
  unfold strV lvl
  rw [e0, e1, e2]
  by_cases c0 : l = [60] ∨ l = [60, 61] ∨ l = [61] ∨ l = [60, 62] ∨ l = [62, 61] ∨ l = [62]
  · rw [if_pos c0, if_pos (by simpa [or_assoc] using c0)]; rfl
  · rw [if_neg c0, if_neg (by simpa [or_assoc] using c0)]
    by_cases c1 : l = [43] ∨ l = [45]
    · rw [if_pos c1, if_pos (by simpa using c1)]; rfl
    · rw [if_neg c1, if_neg (by simpa using c1)]
      by_cases c2 : l = [42] ∨ l = [47]
      · rw [if_pos c2, if_pos (by simpa using c2)]; rfl
      · rw [if_neg c2, if_neg (by simpa using c2)]; rfl
end Go.Proofs.YthaoalmhhgllmaaDoor
namespace Go.Proofs.YthaoalmhhgllmaaDoor
open Go.RowKit
theorem splaceGuard : Tryd.prog.eqGuardType Tryd.prog.depth 24 = false := by kernel_rfl
theorem splaceStood : Tryd.prog.stoodInHeld 24 = false := by kernel_rfl
theorem splaceStruct : Tryd.prog.underlying 24 = some (.struct (Tryd.prog.fieldsOf 24)) := by kernel_rfl
theorem sguard_place (op : BinOp) (X Y : Operand) (xs ys : Array Value) (W : World) : (eqGuard op 24 X Y (.agg xs) (.agg ys)).run Tryd.prog W = .ok () W := run_eqGuard_agg W op 24 X Y xs ys splaceGuard
theorem seql_place (a b c d : Int) (W : World) : (binOp .eql 24 (.agg #[.int .i64 a, .int .i64 b]) (.agg #[.int .i64 c, .int .i64 d])).run Tryd.prog W = .ok (.bool (a == c && b == d)) W := by
  rw [run_eql_struct, run_equalIn_agg W 9999 24 _ _ splaceStruct splaceStood]
  by_cases h1 : a = c <;> by_cases h2 : b = d <;> simp [go_sem, h1, h2]
def soundB (t : Tr) : Bool :=
  if t.kind = 0 then decide (0 ≤ t.num) else if t.kind = 1 then rightB t.c1 t.r1 && (t.c1 == t.c2 && t.r1 == t.r2) else if t.kind = 2 then true
  else if t.kind = 3 then exprsB t.kids 1 else if t.kind = 4 then decide (0 ≤ (lvl t.word : Int) - 1) && exprsB t.kids 2 else if t.kind = 5 then calledB t.word t.kids
  else if t.kind = 6 then wholeB t.c1 t.r1 t.c2 t.r2 else false
set_option maxHeartbeats 2000000 in
set_option maxRecDepth 10000 in
theorem psound_num (t : Tr) (ht : Wid t) (w : World) (P : Nat → Prop) (A : Option Addr) (ca : Nat) (hA : KV w P t A) {R B : Nat} (hS : Strs R B w)  (y : (t.kind == 0) = true) :
    Calls Tryd.prog 49 #[.agg #[.int .i64 t.kind, .int .i64 t.num, .int .i64 t.c1, .int .i64 t.r1, .int .i64 t.c2, .int .i64 t.r2, .string ⟨t.word.toArray⟩, .slice A t.kids.length ca]] w fun e w' => e = .returned (.bool (decide (0 ≤ t.num))) ∧ Below w.heap.size w w' := by
  have hlen := ht.len
  unfold maxLen at hlen
  have HS := Lib.hid hS
  have HA := Lib.hid hA
  have HT := Lib.hid ht
  clear hA hS ht
  go_enter Tryd.func49, Tryd.ntmps49
  go_wp2_with fail
  go_ret
  exact ⟨by first | rfl | trivial, (Below.refl _ _).alloc (Nat.le_refl _) _⟩
set_option maxHeartbeats 2000000 in
set_option maxRecDepth 10000 in
theorem psound_read1 (t : Tr) (ht : Wid t) (w : World) (P : Nat → Prop) (A : Option Addr) (ca : Nat) (hA : KV w P t A) {R B : Nat} (hS : Strs R B w) (n0 : (t.kind == 0) = false) (y : (t.kind == 1) = true) (hr : rightB t.c1 t.r1 = true) :
    Calls Tryd.prog 49 #[.agg #[.int .i64 t.kind, .int .i64 t.num, .int .i64 t.c1, .int .i64 t.r1, .int .i64 t.c2, .int .i64 t.r2, .string ⟨t.word.toArray⟩, .slice A t.kids.length ca]] w fun e w' => e = .returned (.bool (t.c1 == t.c2 && t.r1 == t.r2)) ∧ Below w.heap.size w w' := by
  have hlen := ht.len
  unfold maxLen at hlen
  have HS := Lib.hid hS
  have HA := Lib.hid hA
  have HT := Lib.hid ht
  clear hA hS ht
  have HR := Lib.hid (fun w => pright_any t.c1 t.r1 w)
  rw [hr] at HR
  clear hr
  have hG := fun op X Y W => sguard_place op X Y #[.int .i64 t.c1, .int .i64 t.r1] #[.int .i64 t.c2, .int .i64 t.r2] W
  have hN := seql_place t.c1 t.r1 t.c2 t.r2
  go_enter Tryd.func49, Tryd.ntmps49
  go_wp2_with fail
  refine (HR.out _).mono ?_; rintro e w1 ⟨rfl, b1⟩
  have k10 := keep_fresh b1 0 (v := .int .i64 t.kind) rfl
  have k11 := keep_fresh b1 1 (v := .int .i64 t.num) rfl
  have k12 := keep_fresh b1 2 (v := .int .i64 t.c1) rfl
  have k13 := keep_fresh b1 3 (v := .int .i64 t.r1) rfl
  have k14 := keep_fresh b1 4 (v := .int .i64 t.c2) rfl
  have k15 := keep_fresh b1 5 (v := .int .i64 t.r2) rfl
  have k16 := keep_fresh b1 6 (v := .string ⟨t.word.toArray⟩) rfl
  have k17 := keep_fresh b1 7 (v := .slice A t.kids.length ca) rfl
  have h1 : Below w.heap.size w w1 := ((Below.refl _ _).alloc (Nat.le_refl _) _).trans (b1.mono (by simp))
  have z1 : w.heap.size < w1.heap.size := by have := b1.size; simp at this; omega
  clear b1
  go_wp2_with fail
  go_ret
  exact ⟨rfl, h1⟩
set_option maxHeartbeats 2000000 in
set_option maxRecDepth 10000 in
theorem psound_read0 (t : Tr) (ht : Wid t) (w : World) (P : Nat → Prop) (A : Option Addr) (ca : Nat) (hA : KV w P t A) {R B : Nat} (hS : Strs R B w) (n0 : (t.kind == 0) = false) (y : (t.kind == 1) = true) (hr : rightB t.c1 t.r1 = false) :
    Calls Tryd.prog 49 #[.agg #[.int .i64 t.kind, .int .i64 t.num, .int .i64 t.c1, .int .i64 t.r1, .int .i64 t.c2, .int .i64 t.r2, .string ⟨t.word.toArray⟩, .slice A t.kids.length ca]] w fun e w' => e = .returned (.bool (false)) ∧ Below w.heap.size w w' := by
  have hlen := ht.len
  unfold maxLen at hlen
  have HS := Lib.hid hS
  have HA := Lib.hid hA
  have HT := Lib.hid ht
  clear hA hS ht
  have HR := Lib.hid (fun w => pright_any t.c1 t.r1 w)
  rw [hr] at HR
  clear hr
  go_enter Tryd.func49, Tryd.ntmps49
  go_wp2_with fail
  refine (HR.out _).mono ?_; rintro e w1 ⟨rfl, b1⟩
  have h1 : Below w.heap.size w w1 := ((Below.refl _ _).alloc (Nat.le_refl _) _).trans (b1.mono (by simp))
  have z1 : w.heap.size < w1.heap.size := by have := b1.size; simp at this; omega
  clear b1
  go_wp2_with fail
  go_ret
  exact ⟨rfl, h1⟩
set_option maxHeartbeats 2000000 in
set_option maxRecDepth 10000 in
theorem psound_bad (t : Tr) (ht : Wid t) (w : World) (P : Nat → Prop) (A : Option Addr) (ca : Nat) (hA : KV w P t A) {R B : Nat} (hS : Strs R B w) (n0 : (t.kind == 0) = false) (n1 : (t.kind == 1) = false) (y : (t.kind == 2) = true) :
    Calls Tryd.prog 49 #[.agg #[.int .i64 t.kind, .int .i64 t.num, .int .i64 t.c1, .int .i64 t.r1, .int .i64 t.c2, .int .i64 t.r2, .string ⟨t.word.toArray⟩, .slice A t.kids.length ca]] w fun e w' => e = .returned (.bool (true)) ∧ Below w.heap.size w w' := by
  have hlen := ht.len
  unfold maxLen at hlen
  have HS := Lib.hid hS
  have HA := Lib.hid hA
  have HT := Lib.hid ht
  clear hA hS ht
  go_enter Tryd.func49, Tryd.ntmps49
  go_wp2_with fail
  go_ret
  exact ⟨by first | rfl | trivial, (Below.refl _ _).alloc (Nat.le_refl _) _⟩
set_option maxHeartbeats 2000000 in
set_option maxRecDepth 10000 in
theorem psound_neg (t : Tr) (ht : Wid t) (w : World) (P : Nat → Prop) (A : Option Addr) (ca : Nat) (hA : KV w P t A) {R B : Nat} (hS : Strs R B w) (n0 : (t.kind == 0) = false) (n1 : (t.kind == 1) = false) (n2 : (t.kind == 2) = false) (y : (t.kind == 3) = true) :
    Calls Tryd.prog 49 #[.agg #[.int .i64 t.kind, .int .i64 t.num, .int .i64 t.c1, .int .i64 t.r1, .int .i64 t.c2, .int .i64 t.r2, .string ⟨t.word.toArray⟩, .slice A t.kids.length ca]] w fun e w' => e = .returned (.bool (exprsB t.kids 1)) ∧ Below w.heap.size w w' := by
  have hlen := ht.len
  unfold maxLen at hlen
  have HS := Lib.hid hS
  have HA := Lib.hid hA
  have HT := Lib.hid ht
  clear hA hS ht
  have HE := Lib.hid (fun ob => pexprs_any 1 t HT.out (w.alloc ob) P A ca (HA.out.kept (Kept.of_below ((Below.refl _ _).alloc (Nat.le_refl _) ob))))
  go_enter Tryd.func49, Tryd.ntmps49
  go_wp2_with fail
  refine (HE.out _).mono ?_; rintro e w1 ⟨rfl, b1⟩
  have h1 : Below w.heap.size w w1 := ((Below.refl _ _).alloc (Nat.le_refl _) _).trans (b1.mono (by simp))
  have z1 : w.heap.size < w1.heap.size := by have := b1.size; simp at this; omega
  clear b1
  go_wp2_with fail
  go_ret
  exact ⟨rfl, h1⟩
set_option maxHeartbeats 2000000 in
set_option maxRecDepth 10000 in
theorem psound_opt (t : Tr) (ht : Wid t) (w : World) (P : Nat → Prop) (A : Option Addr) (ca : Nat) (hA : KV w P t A) {R B : Nat} (hS : Strs R B w) (n0 : (t.kind == 0) = false) (n1 : (t.kind == 1) = false) (n2 : (t.kind == 2) = false) (n3 : (t.kind == 3) = false) (y : (t.kind == 4) = true) (hl : decide (0 ≤ (lvl t.word : Int) - 1) = true) :
    Calls Tryd.prog 49 #[.agg #[.int .i64 t.kind, .int .i64 t.num, .int .i64 t.c1, .int .i64 t.r1, .int .i64 t.c2, .int .i64 t.r2, .string ⟨t.word.toArray⟩, .slice A t.kids.length ca]] w fun e w' => e = .returned (.bool (exprsB t.kids 2)) ∧ Below w.heap.size w w' := by
  have hlen := ht.len
  unfold maxLen at hlen
  have HS := Lib.hid hS
  have HA := Lib.hid hA
  have HT := Lib.hid ht
  clear hA hS ht
  have HE := Lib.hid (fun ob => pexprs_any 2 t HT.out (w.alloc ob) P A ca (HA.out.kept (Kept.of_below ((Below.refl _ _).alloc (Nat.le_refl _) ob))))
  have hV := strV_lvl t.word
  have HX := Lib.hid (fun ob => strength_any R B (w.alloc ob) ⟨t.word.toArray⟩ (HS.out.keep fun _ _ _ _ hv => kc_alloc' hv))
  rw [hV] at HX
  clear hV
  have HL := Lib.hid hl
  generalize (lvl t.word : Int) - 1 = lv at *
  go_enter Tryd.func49, Tryd.ntmps49
  go_wp2_with fail
  refine (HX.out _).mono ?_; rintro e w9 ⟨rfl, rfl⟩
  go_wp2_with fail
  refine (HE.out _).mono ?_; rintro e w1 ⟨rfl, b1⟩
  have h1 : Below w.heap.size w w1 := ((Below.refl _ _).alloc (Nat.le_refl _) _).trans (b1.mono (by simp))
  have z1 : w.heap.size < w1.heap.size := by have := b1.size; simp at this; omega
  clear b1
  go_wp2_with fail
  go_ret
  exact ⟨rfl, h1⟩
set_option maxHeartbeats 2000000 in
set_option maxRecDepth 10000 in
theorem psound_opf (t : Tr) (ht : Wid t) (w : World) (P : Nat → Prop) (A : Option Addr) (ca : Nat) (hA : KV w P t A) {R B : Nat} (hS : Strs R B w) (n0 : (t.kind == 0) = false) (n1 : (t.kind == 1) = false) (n2 : (t.kind == 2) = false) (n3 : (t.kind == 3) = false) (y : (t.kind == 4) = true) (hl : decide (0 ≤ (lvl t.word : Int) - 1) = false) :
    Calls Tryd.prog 49 #[.agg #[.int .i64 t.kind, .int .i64 t.num, .int .i64 t.c1, .int .i64 t.r1, .int .i64 t.c2, .int .i64 t.r2, .string ⟨t.word.toArray⟩, .slice A t.kids.length ca]] w fun e w' => e = .returned (.bool (false)) ∧ Below w.heap.size w w' := by
  have hlen := ht.len
  unfold maxLen at hlen
  have HS := Lib.hid hS
  have HA := Lib.hid hA
  have HT := Lib.hid ht
  clear hA hS ht
  have HE := Lib.hid (fun ob => pexprs_any 2 t HT.out (w.alloc ob) P A ca (HA.out.kept (Kept.of_below ((Below.refl _ _).alloc (Nat.le_refl _) ob))))
  have hV := strV_lvl t.word
  have HX := Lib.hid (fun ob => strength_any R B (w.alloc ob) ⟨t.word.toArray⟩ (HS.out.keep fun _ _ _ _ hv => kc_alloc' hv))
  rw [hV] at HX
  clear hV
  have HL := Lib.hid hl
  generalize (lvl t.word : Int) - 1 = lv at *
  go_enter Tryd.func49, Tryd.ntmps49
  go_wp2_with fail
  refine (HX.out _).mono ?_; rintro e w9 ⟨rfl, rfl⟩
  go_wp2_with fail
  go_ret
  exact ⟨by first | rfl | trivial, (Below.refl _ _).alloc (Nat.le_refl _) _⟩
set_option maxHeartbeats 2000000 in
set_option maxRecDepth 10000 in
theorem psound_call (t : Tr) (ht : Wid t) (w : World) (P : Nat → Prop) (A : Option Addr) (ca : Nat) (hA : KV w P t A) {R B : Nat} (hS : Strs R B w) (n0 : (t.kind == 0) = false) (n1 : (t.kind == 1) = false) (n2 : (t.kind == 2) = false) (n3 : (t.kind == 3) = false) (n4 : (t.kind == 4) = false) (y : (t.kind == 5) = true) :
    Calls Tryd.prog 49 #[.agg #[.int .i64 t.kind, .int .i64 t.num, .int .i64 t.c1, .int .i64 t.r1, .int .i64 t.c2, .int .i64 t.r2, .string ⟨t.word.toArray⟩, .slice A t.kids.length ca]] w fun e w' => e = .returned (.bool (calledB t.word t.kids)) ∧ Below w.heap.size w w' := by
  have hlen := ht.len
  unfold maxLen at hlen
  have HS := Lib.hid hS
  have HA := Lib.hid hA
  have HT := Lib.hid ht
  clear hA hS ht
  have HE := Lib.hid (fun ob => pcalled_any t.word t HT.out (w.alloc ob) P A ca (HA.out.kept (Kept.of_below ((Below.refl _ _).alloc (Nat.le_refl _) ob))))
  go_enter Tryd.func49, Tryd.ntmps49
  go_wp2_with fail
  refine (HE.out _).mono ?_; rintro e w1 ⟨rfl, b1⟩
  have h1 : Below w.heap.size w w1 := ((Below.refl _ _).alloc (Nat.le_refl _) _).trans (b1.mono (by simp))
  have z1 : w.heap.size < w1.heap.size := by have := b1.size; simp at this; omega
  clear b1
  go_wp2_with fail
  go_ret
  exact ⟨rfl, h1⟩
set_option maxHeartbeats 2000000 in
set_option maxRecDepth 10000 in
theorem psound_span (t : Tr) (ht : Wid t) (w : World) (P : Nat → Prop) (A : Option Addr) (ca : Nat) (hA : KV w P t A) {R B : Nat} (hS : Strs R B w) (n0 : (t.kind == 0) = false) (n1 : (t.kind == 1) = false) (n2 : (t.kind == 2) = false) (n3 : (t.kind == 3) = false) (n4 : (t.kind == 4) = false) (n5 : (t.kind == 5) = false) (y : (t.kind == 6) = true) :
    Calls Tryd.prog 49 #[.agg #[.int .i64 t.kind, .int .i64 t.num, .int .i64 t.c1, .int .i64 t.r1, .int .i64 t.c2, .int .i64 t.r2, .string ⟨t.word.toArray⟩, .slice A t.kids.length ca]] w fun e w' => e = .returned (.bool (wholeB t.c1 t.r1 t.c2 t.r2)) ∧ Below w.heap.size w w' := by
  have hlen := ht.len
  unfold maxLen at hlen
  have HS := Lib.hid hS
  have HA := Lib.hid hA
  have HT := Lib.hid ht
  clear hA hS ht
  have HE := Lib.hid (fun w => pwhole_any t.c1 t.r1 t.c2 t.r2 w)
  go_enter Tryd.func49, Tryd.ntmps49
  go_wp2_with fail
  refine (HE.out _).mono ?_; rintro e w1 ⟨rfl, b1⟩
  have h1 : Below w.heap.size w w1 := ((Below.refl _ _).alloc (Nat.le_refl _) _).trans (b1.mono (by simp))
  have z1 : w.heap.size < w1.heap.size := by have := b1.size; simp at this; omega
  clear b1
  go_wp2_with fail
  go_ret
  exact ⟨rfl, h1⟩
set_option maxHeartbeats 2000000 in
set_option maxRecDepth 10000 in
theorem psound_none (t : Tr) (ht : Wid t) (w : World) (P : Nat → Prop) (A : Option Addr) (ca : Nat) (hA : KV w P t A) {R B : Nat} (hS : Strs R B w) (n0 : (t.kind == 0) = false) (n1 : (t.kind == 1) = false) (n2 : (t.kind == 2) = false) (n3 : (t.kind == 3) = false) (n4 : (t.kind == 4) = false) (n5 : (t.kind == 5) = false) (n6 : (t.kind == 6) = false) :
    Calls Tryd.prog 49 #[.agg #[.int .i64 t.kind, .int .i64 t.num, .int .i64 t.c1, .int .i64 t.r1, .int .i64 t.c2, .int .i64 t.r2, .string ⟨t.word.toArray⟩, .slice A t.kids.length ca]] w fun e w' => e = .returned (.bool (false)) ∧ Below w.heap.size w w' := by
  have hlen := ht.len
  unfold maxLen at hlen
  have HS := Lib.hid hS
  have HA := Lib.hid hA
  have HT := Lib.hid ht
  clear hA hS ht
  go_enter Tryd.func49, Tryd.ntmps49
  go_wp2_with fail
  go_ret
  exact ⟨by first | rfl | trivial, (Below.refl _ _).alloc (Nat.le_refl _) _⟩
theorem psound_any (t : Tr) (ht : Wid t) (w : World) (P : Nat → Prop) (A : Option Addr) (ca : Nat) (hA : KV w P t A) {R B : Nat} (hS : Strs R B w) :
    Calls Tryd.prog 49 #[tv t A ca] w fun e w' => e = .returned (.bool (soundB t)) ∧ Below w.heap.size w w' := by
  have NE : ∀ i : Int, t.kind ≠ i → (t.kind == i) = false := fun i h => by rw [beq_eq_false_iff_ne]; exact h
  have EQ : ∀ i : Int, t.kind = i → (t.kind == i) = true := fun i h => by rw [beq_iff_eq]; exact h
  unfold soundB
  by_cases h0 : t.kind = 0
  · rw [if_pos h0]; exact psound_num t ht w P A ca hA hS (EQ 0 h0)
  · rw [if_neg h0]
    by_cases h1 : t.kind = 1
    · rw [if_pos h1]
      cases hr : rightB t.c1 t.r1 with
      | true => rw [Bool.true_and]; exact psound_read1 t ht w P A ca hA hS (NE 0 h0) (EQ 1 h1) hr
      | false => rw [Bool.false_and]; exact psound_read0 t ht w P A ca hA hS (NE 0 h0) (EQ 1 h1) hr
    · rw [if_neg h1]
      by_cases h2 : t.kind = 2
      · rw [if_pos h2]; exact psound_bad t ht w P A ca hA hS (NE 0 h0) (NE 1 h1) (EQ 2 h2)
      · rw [if_neg h2]
        by_cases h3 : t.kind = 3
        · rw [if_pos h3]; exact psound_neg t ht w P A ca hA hS (NE 0 h0) (NE 1 h1) (NE 2 h2) (EQ 3 h3)
        · rw [if_neg h3]
          by_cases h4 : t.kind = 4
          · rw [if_pos h4]
            cases hl : decide (0 ≤ (lvl t.word : Int) - 1) with
            | true => rw [Bool.true_and]; exact psound_opt t ht w P A ca hA hS (NE 0 h0) (NE 1 h1) (NE 2 h2) (NE 3 h3) (EQ 4 h4) hl
            | false => rw [Bool.false_and]; exact psound_opf t ht w P A ca hA hS (NE 0 h0) (NE 1 h1) (NE 2 h2) (NE 3 h3) (EQ 4 h4) hl
          · rw [if_neg h4]
            by_cases h5 : t.kind = 5
            · rw [if_pos h5]; exact psound_call t ht w P A ca hA hS (NE 0 h0) (NE 1 h1) (NE 2 h2) (NE 3 h3) (NE 4 h4) (EQ 5 h5)
            · rw [if_neg h5]
              by_cases h6 : t.kind = 6
              · rw [if_pos h6]; exact psound_span t ht w P A ca hA hS (NE 0 h0) (NE 1 h1) (NE 2 h2) (NE 3 h3) (NE 4 h4) (NE 5 h5) (EQ 6 h6)
              · rw [if_neg h6]; exact psound_none t ht w P A ca hA hS (NE 0 h0) (NE 1 h1) (NE 2 h2) (NE 3 h3) (NE 4 h4) (NE 5 h5) (NE 6 h6)
end Go.Proofs.YthaoalmhhgllmaaDoor
namespace Go.Proofs.YthaoalmhhgllmaaDoor
open Go.RowKit
def fitB : Nat → Tr → Bool
  | 0, _ => false
  | d + 1, t => (!spareB t) && (soundB t && t.kids.all (fitB d))
theorem Strs.later {B : Nat} {w w' : World} (h : Strs B B w) (hB : B ≤ w.heap.size) (hb : Below w.heap.size w w') : Strs B B w' := h.keep fun _ _ _ hl hv => by rw [hb.cell (by omega)]; exact hv
def FitsC (d : Nat) : Prop := ∀ (q : Int), q = (d : Int) → ∀ (t : Tr), Wid t → ∀ (w : World) (P : Nat → Prop) (A : Option Addr) (ca : Nat), KV w P t A → ∀ (B : Nat), B ≤ w.heap.size → Strs B B w →
    Calls Tryd.prog 33 #[tv t A ca, .int .i64 q] w fun e w' => e = .returned (.bool (fitB d t)) ∧ Below w.heap.size w w'
theorem all_hit {p : Tr → Bool} {ks : List Tr} {i : Nat} {u : Tr} (h : ks[i]? = some u) (hp : p u = false) : ks.all p = false := by
  rw [Bool.eq_false_iff]
  intro ha
  have := List.all_eq_true.1 ha u (List.mem_of_getElem? h)
  rw [hp] at this; cases this
theorem all_miss {p : Tr → Bool} {ks : List Tr} (h : ∀ (j : Nat) (u : Tr), j < ks.length → ks[j]? = some u → p u = true) : ks.all p = true :=
  List.all_eq_true.2 fun u hu => by
    obtain ⟨j, hj⟩ := List.getElem?_of_mem hu
    exact h j u (List.getElem?_eq_some_iff.1 hj).1 hj
set_option maxHeartbeats 1000000 in
set_option maxRecDepth 10000 in
theorem pfits_zero : FitsC 0 := by
  intro q hq t ht w P A ca hA B hB hS
  obtain rfl : q = 0 := by omega
  have hlen := ht.len
  unfold maxLen at hlen
  unfold tv
  clear hA hS ht hB hq
  go_enter Tryd.func33, Tryd.ntmps33
  go_wp2_with fail
  go_ret
  exact ⟨rfl, (Below.refl _ _).alloc (Nat.le_refl _) _⟩
set_option maxHeartbeats 2000000 in
set_option maxRecDepth 10000 in
theorem pfits_succ {d : Nat} (hd : d ≤ 1000) (ih : FitsC d) : FitsC (d + 1) := by
  intro q hq t ht w P A ca hA B hB hS
  have hlen := ht.len
  unfold maxLen at hlen
  have b0 : Below w.heap.size w (w.alloc (.cells #[.int .i64 t.kind, .int .i64 t.num, .int .i64 t.c1, .int .i64 t.r1, .int .i64 t.c2, .int .i64 t.r2, .string ⟨t.word.toArray⟩, .slice A t.kids.length ca] 29)) := (Below.refl _ _).alloc (Nat.le_refl _) _
  have HP := Lib.hid (pspare_any t A ca)
  have HQ := Lib.hid (fun w' (hb : Below w.heap.size w w') => psound_any t ht w' P A ca (hA.kept (Kept.of_below hb)) (hS.later hB hb))
  have HA := Lib.hid hA
  have HS := Lib.hid hS
  have HT := Lib.hid ht
  have HI := Lib.hid ih
  have hq0 : (q == 0) = false := by rw [beq_eq_false_iff_ne]; omega
  have hqb : q ≤ 1001 := by omega
  have hqa : 1 ≤ q := by omega
  have HQD := Lib.hid hq
  unfold tv at *
  unfold fitB
  clear hA hS ht ih b0 hq
  cases hsp : spareB t with
  | true =>
    rw [hsp] at HP
    clear hsp
    go_enter Tryd.func33, Tryd.ntmps33
    go_wp2_with fail
    refine (HP.out _).mono ?_; rintro e w1 ⟨rfl, b1⟩
    have h1 : Below w.heap.size w w1 := ((Below.refl _ _).alloc (Nat.le_refl _) _).trans (b1.mono (by simp))
    clear b1
    go_wp2_with fail
    go_ret
    exact ⟨rfl, h1⟩
  | false =>
    rw [hsp] at HP
    clear hsp
    cases hso : soundB t with
    | false =>
      rw [hso] at HQ
      clear hso
      go_enter Tryd.func33, Tryd.ntmps33
      go_wp2_with fail
      refine (HP.out _).mono ?_; rintro e w1 ⟨rfl, b1⟩
      have k10 := keep_fresh b1 0 (v := .int .i64 t.kind) rfl
      have k11 := keep_fresh b1 1 (v := .int .i64 t.num) rfl
      have k12 := keep_fresh b1 2 (v := .int .i64 t.c1) rfl
      have k13 := keep_fresh b1 3 (v := .int .i64 t.r1) rfl
      have k14 := keep_fresh b1 4 (v := .int .i64 t.c2) rfl
      have k15 := keep_fresh b1 5 (v := .int .i64 t.r2) rfl
      have k16 := keep_fresh b1 6 (v := .string ⟨t.word.toArray⟩) rfl
      have k17 := keep_fresh b1 7 (v := .slice A t.kids.length ca) rfl
      have h1 : Below w.heap.size w w1 := ((Below.refl _ _).alloc (Nat.le_refl _) _).trans (b1.mono (by simp))
      clear b1
      go_wp2_with fail
      refine (HQ.out _ h1).mono ?_; rintro e w2 ⟨rfl, b2⟩
      have h2 := h1.trans (b2.mono h1.size)
      clear b2
      go_wp2_with fail
      go_ret
      exact ⟨rfl, h2⟩
    | true =>
      rw [hso] at HQ
      clear hso
      go_enter Tryd.func33, Tryd.ntmps33
      go_wp2_with fail
      refine (HP.out _).mono ?_; rintro e w1 ⟨rfl, b1⟩
      have k10 := keep_fresh b1 0 (v := .int .i64 t.kind) rfl
      have k11 := keep_fresh b1 1 (v := .int .i64 t.num) rfl
      have k12 := keep_fresh b1 2 (v := .int .i64 t.c1) rfl
      have k13 := keep_fresh b1 3 (v := .int .i64 t.r1) rfl
      have k14 := keep_fresh b1 4 (v := .int .i64 t.c2) rfl
      have k15 := keep_fresh b1 5 (v := .int .i64 t.r2) rfl
      have k16 := keep_fresh b1 6 (v := .string ⟨t.word.toArray⟩) rfl
      have k17 := keep_fresh b1 7 (v := .slice A t.kids.length ca) rfl
      have h1 : Below w.heap.size w w1 := ((Below.refl _ _).alloc (Nat.le_refl _) _).trans (b1.mono (by simp))
      clear b1
      go_wp2_with fail
      refine (HQ.out _ h1).mono ?_; rintro e w2 ⟨rfl, b2⟩
      have k20 := keep_cell b2 k10
      have k21 := keep_cell b2 k11
      have k22 := keep_cell b2 k12
      have k23 := keep_cell b2 k13
      have k24 := keep_cell b2 k14
      have k25 := keep_cell b2 k15
      have k26 := keep_cell b2 k16
      have k27 := keep_cell b2 k17
      have h2 := h1.trans (b2.mono h1.size)
      clear b2
      go_wp2_with fail
      go_loopw [21] (fun vi wr => ∃ i : Nat, i ≤ t.kids.length ∧ vi = .int .i64 (i : Int) ∧ Hid (∀ (j : Nat) (u : Tr), j < i → t.kids[j]? = some u → fitB d u = true) ∧ Below w.heap.size w wr) (fun vi _ => t.kids.length - (intOf vi).toNat)
      case atStart => exact ⟨0, Nat.zero_le _, rfl, Lib.hid fun j u hj => by omega, h2⟩
      case round =>
        obtain ⟨i, hi, rfl, HN, hbel⟩ := hrel
        by_cases hlt : i < t.kids.length
        · have ha : t.kids[i]? = some (t.kids[i]'hlt) := List.getElem?_eq_getElem hlt
          obtain ⟨g, o, rfl⟩ := HA.out.addr ha
          obtain ⟨hg, A', ca', h8, hkv⟩ := HA.out.kidAt hbel ha
          have HM := Lib.hid ha
          have hwq : wrap64 (q - 1) = q - 1 := IntWalk.wrap64_in _ (by omega)
          have HC := Lib.hid (fun ob => HI.out (q - 1) (by have := HQD.out; omega) (t.kids[i]'hlt) (HT.out.kid ha) (wr.alloc ob) (fun _ => True) A' ca' (hkv.kept (Kept.of_below ((Below.refl _ _).alloc (Nat.le_refl _) ob))) B (by have := hbel.size; simp; omega) (HS.out.later hB (hbel.alloc hbel.size ob)))
          generalize t.kids[i]'hlt = x at *
          unfold At8 at h8
          unfold tv at HC
          obtain ⟨q0, q1, q2, q3, q4, q5, q6, q7⟩ := h8
          clear hkv ha
          cases hp : fitB d x with
          | true =>
            rw [hp] at HC
            have HH := Lib.hid hp
            clear hp
            go_wp2_with fail
            refine (HC.out _).mono ?_; rintro e w3 ⟨rfl, b3⟩
            have hb1 : Below w.heap.size w w3 := (hbel.alloc hbel.size _).trans (b3.mono (by have := hbel.size; simp; omega))
            clear b3 q0 q1 q2 q3 q4 q5 q6 q7
            go_wp2_with fail
            go_roundw
            case rel => exact ⟨i + 1, by omega, by go_num, Lib.hid fun j u hj hu => by
              by_cases hji : j < i
              · exact HN.out j u hji hu
              · obtain rfl : j = i := by omega
                rw [HM.out] at hu; obtain rfl := Option.some.inj hu; exact HH.out, hb1⟩
            case measure => simp [intOf]; omega
          | false =>
            rw [hp] at HC
            have HH := Lib.hid (all_hit HM.out hp)
            clear hp
            go_wp2_with fail
            refine (HC.out _).mono ?_; rintro e w3 ⟨rfl, b3⟩
            have hb1 : Below w.heap.size w w3 := (hbel.alloc hbel.size _).trans (b3.mono (by have := hbel.size; simp; omega))
            clear b3 q0 q1 q2 q3 q4 q5 q6 q7
            go_wp2_with fail
            go_ret
            exact ⟨ret_bool (by rw [HH.out]; rfl), hb1⟩
        · have hii : i = t.kids.length := by omega
          subst hii
          have HH := Lib.hid (all_miss HN.out)
          go_wp2_with fail
          go_ret
          exact ⟨ret_bool (by rw [HH.out]; rfl), hbel⟩
theorem pfits_any : ∀ d, d ≤ 1000 → FitsC d
  | 0, _ => pfits_zero
  | d + 1, h => pfits_succ (by omega) (pfits_any d (by omega))
def rightP (t : Tr) : Bool := (t.kind != 6) && fitB 16 t
set_option maxHeartbeats 1000000 in
set_option maxRecDepth 10000 in
theorem sright_any (t : Tr) (ht : Wid t) (w : World) (P : Nat → Prop) (A : Option Addr) (ca : Nat) (hA : KV w P t A) (B : Nat) (hB : B ≤ w.heap.size) (hS : Strs B B w) :
    Calls Tryd.prog 19 #[tv t A ca] w fun e w' => e = .returned (.bool (rightP t)) ∧ Below w.heap.size w w' := by
  have H := Lib.hid (fun ob => pfits_any 16 (by decide) 16 rfl t ht (w.alloc ob) P A ca (hA.kept (Kept.of_below ((Below.refl _ _).alloc (Nat.le_refl _) ob))) B (by simp; omega) (hS.later hB ((Below.refl _ _).alloc (Nat.le_refl _) ob)))
  have hlen := ht.len
  unfold maxLen at hlen
  unfold tv at *
  unfold rightP
  clear hA hS
  cases h6 : (t.kind != 6) with
  | true =>
    go_enter Tryd.func19, Tryd.ntmps19
    go_wp2_with fail
    refine (H.out _).mono ?_; rintro e w1 ⟨rfl, b1⟩
    have h1 : Below w.heap.size w w1 := ((Below.refl _ _).alloc (Nat.le_refl _) _).trans (b1.mono (by simp))
    clear b1
    go_wp2_with fail
    go_ret
    exact ⟨ret_bool (Bool.true_and _).symm, h1⟩
  | false =>
    go_enter Tryd.func19, Tryd.ntmps19
    go_wp2_with fail
    go_ret
    exact ⟨rfl, (Below.refl _ _).alloc (Nat.le_refl _) _⟩
end Go.Proofs.YthaoalmhhgllmaaDoor
