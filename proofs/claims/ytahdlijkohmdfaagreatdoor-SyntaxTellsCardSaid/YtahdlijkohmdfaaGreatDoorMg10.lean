/- Texts joined: SrB, RefBw, RefFs, PlDs, StA. -/
import Derived.Test.YtahdlijkohmdfaaGreatDoorMg09
import Derived.Shelf.Abstract
import Derived.Test.YtahdlijkohmdfaaGreatDoorMg02
import Derived.Deep.RegionWith
import Derived.Deep.RegionHeld3
import Derived.Test.YtahdlijkohmdfaaGreatDoorMg01
import Derived.OwnWalk
import Derived.Lib.AtoiErrMem
set_option linter.all false
set_option linter.unusedVariables false
set_option linter.unusedSimpArgs false
/- The program's own tests over a tree's kids. -/
namespace Go.Proofs.YtahdlijkohmdfaaGreatDoor
open Go.RowKit Go.Shelf

/-- a function that tells something of a tree -/
structure TestC (F : Nat) (p : Tr → Bool) : Prop where
  enters : ∀ (args : Array Value) (w : World), (callFunc F args).run Tryz.prog w = .ok (.enter F args) w
  runs : ∀ (t : Tr) (A : Option Addr) (cap : Nat) (w : World), Calls Tryz.prog F #[tv t A cap] w fun e w' => e = .returned (.bool (p t)) ∧ Below w.heap.size w w'
set_option maxHeartbeats 1000000 in
set_option maxRecDepth 10000 in
theorem spanC : TestC 94 (fun t => t.kind == 6) := by
  refine ⟨fun args w => enters_of Tryz.func94 (by kernel_rfl) rfl args w, fun t A cap w => ?_⟩
  unfold tv
  go_enter Tryz.func94, Tryz.ntmps94
  go_wp2_with fail
  go_ret
  exact ⟨rfl, (Below.refl _ _).alloc (Nat.le_refl _) _⟩
set_option maxHeartbeats 1000000 in
set_option maxRecDepth 10000 in
theorem uncountedC : TestC 95 (fun t => (t.kind != 6) && (t.kind != 2)) := by
  refine ⟨fun args w => enters_of Tryz.func95 (by kernel_rfl) rfl args w, fun t A cap w => ?_⟩
  unfold tv
  cases h6 : (t.kind != 6) with
  | true =>
    go_enter Tryz.func95, Tryz.ntmps95
    go_wp2_with fail
    go_ret
    exact ⟨rfl, (Below.refl _ _).alloc (Nat.le_refl _) _⟩
  | false =>
    go_enter Tryz.func95, Tryz.ntmps95
    go_wp2_with fail
    go_ret
    exact ⟨rfl, (Below.refl _ _).alloc (Nat.le_refl _) _⟩
theorem any_hit {p : Tr → Bool} {ks : List Tr} {i : Nat} {u : Tr} (h : ks[i]? = some u) (hp : p u = true) : ks.any p = true := List.any_eq_true.2 ⟨u, List.mem_of_getElem? h, hp⟩
theorem any_miss {p : Tr → Bool} {ks : List Tr} (h : ∀ (j : Nat) (u : Tr), j < ks.length → ks[j]? = some u → p u = false) : ks.any p = false := by
  rw [Bool.eq_false_iff]
  intro ha
  obtain ⟨u, hu, hp⟩ := List.any_eq_true.1 ha
  obtain ⟨j, hj⟩ := List.getElem?_of_mem hu
  have := h j u (List.getElem?_eq_some_iff.1 hj).1 hj
  rw [hp] at this; cases this
set_option maxHeartbeats 1000000 in
set_option maxRecDepth 10000 in
theorem pindex_any {F : Nat} {p : Tr → Bool} (hF : TestC F p) (t : Tr) (ht : Wid t) (w : World) (P : Nat → Prop) (A : Option Addr) (ca : Nat) (hA : KV w P t A) :
    Calls Tryz.prog 108 #[.slice A t.kids.length ca, .func (.func F) #[] #[]] w fun e w' => (∃ i : Int, e = .returned (.int .i64 i) ∧ decide (0 ≤ i) = t.kids.any p) ∧ Below w.heap.size w w' := by
  have hlen := ht.len
  unfold maxLen at hlen
  have hE := hF.enters
  have HF := Lib.hid hF.runs
  have HA := Lib.hid hA
  clear hF hA
  go_enter Tryz.func108, Tryz.ntmps108
  go_wp2_with fail
  go_loopw [8] (fun vi wr => ∃ i : Nat, i ≤ t.kids.length ∧ vi = .int .i64 (i : Int) ∧ Hid (∀ (j : Nat) (u : Tr), j < i → t.kids[j]? = some u → p u = false) ∧ Below w.heap.size w wr) (fun vi _ => t.kids.length - (intOf vi).toNat)
  case atStart => exact ⟨0, Nat.zero_le _, rfl, Lib.hid fun j u hj => by omega, Below.refl _ _⟩
  case round =>
    obtain ⟨i, hi, rfl, HN, hbel⟩ := hrel
    by_cases hlt : i < t.kids.length
    · have ha : t.kids[i]? = some (t.kids[i]'hlt) := List.getElem?_eq_getElem hlt
      obtain ⟨g, o, rfl⟩ := HA.out.addr ha
      obtain ⟨hg, A', ca', h8, hkv⟩ := HA.out.kidAt hbel ha
      have HM := Lib.hid ha
      have HC := Lib.hid (HF.out (t.kids[i]'hlt) A' ca' wr)
      generalize t.kids[i]'hlt = x at *
      unfold At8 at h8
      unfold tv at HC
      obtain ⟨q0, q1, q2, q3, q4, q5, q6, q7⟩ := h8
      clear hkv ha
      cases hp : p x with
      | true =>
        rw [hp] at HC
        have HH := Lib.hid (any_hit HM.out hp)
        clear hp
        go_wp2_with fail
        refine HC.out.mono ?_; rintro e w1 ⟨rfl, b1⟩
        have hb1 := hbel.trans (b1.mono hbel.size)
        clear b1 q0 q1 q2 q3 q4 q5 q6 q7
        go_wp2_with fail
        go_ret
        exact ⟨⟨_, rfl, by rw [HH.out]; exact decide_eq_true (by omega)⟩, hb1⟩
      | false =>
        rw [hp] at HC
        have HH := Lib.hid hp
        clear hp
        go_wp2_with fail
        refine HC.out.mono ?_; rintro e w1 ⟨rfl, b1⟩
        have hb1 := hbel.trans (b1.mono hbel.size)
        clear b1 q0 q1 q2 q3 q4 q5 q6 q7
        go_wp2_with fail
        go_roundw
        case rel => exact ⟨i + 1, by omega, by go_num, Lib.hid fun j u hj hu => by
          by_cases hji : j < i
          · exact HN.out j u hji hu
          · obtain rfl : j = i := by omega
            rw [HM.out] at hu; obtain rfl := Option.some.inj hu; exact HH.out, hb1⟩
        case measure => simp [intOf]; omega
    · have hii : i = t.kids.length := by omega
      subst hii
      have HH := Lib.hid (any_miss HN.out)
      go_wp2_with fail
      go_ret
      exact ⟨⟨_, rfl, by rw [HH.out]; rfl⟩, hbel⟩
set_option maxHeartbeats 1000000 in
set_option maxRecDepth 10000 in
theorem pcontains_any {F : Nat} {p : Tr → Bool} (hF : TestC F p) (t : Tr) (ht : Wid t) (w : World) (P : Nat → Prop) (A : Option Addr) (ca : Nat) (hA : KV w P t A) :
    Calls Tryz.prog 93 #[.slice A t.kids.length ca, .func (.func F) #[] #[]] w fun e w' => e = .returned (.bool (t.kids.any p)) ∧ Below w.heap.size w w' := by
  have H := Lib.hid (pindex_any hF t ht w P A ca hA)
  clear hF hA
  go_enter Tryz.func93, Tryz.ntmps93
  go_wp2_with fail
  refine H.out.mono ?_; rintro e w1 ⟨⟨i, rfl, hi⟩, b1⟩
  have HI := Lib.hid hi
  clear hi
  go_wp2_with fail
  go_ret
  exact ⟨ret_bool HI.out, b1⟩
/-- so many trees, none of them a Span -/
def exprsB (ks : List Tr) (n : Nat) : Bool := (ks.length == n) && !ks.any (fun t => t.kind == 6)
set_option maxHeartbeats 1000000 in
set_option maxRecDepth 10000 in
theorem pexprs_any (n : Nat) (t : Tr) (ht : Wid t) (w : World) (P : Nat → Prop) (A : Option Addr) (ca : Nat) (hA : KV w P t A) :
    Calls Tryz.prog 74 #[.slice A t.kids.length ca, .int .i64 (n : Int)] w fun e w' => e = .returned (.bool (exprsB t.kids n)) ∧ Below w.heap.size w w' := by
  have hlen := ht.len
  unfold maxLen at hlen
  have H := Lib.hid (pcontains_any spanC t ht w P A ca hA)
  unfold exprsB
  clear hA
  cases hl : (t.kids.length == n) with
  | true =>
    have d1 : ((t.kids.length : Int) == (n : Int)) = true := by rw [beq_iff_eq] at hl ⊢; omega
    go_enter Tryz.func74, Tryz.ntmps74
    go_wp2_with fail
    refine H.out.mono ?_; rintro e w1 ⟨rfl, b1⟩
    go_wp2_with fail
    go_ret
    exact ⟨ret_bool (Bool.true_and _).symm, b1⟩
  | false =>
    have d1 : ((t.kids.length : Int) == (n : Int)) = false := by rw [beq_eq_false_iff_ne] at hl ⊢; omega
    go_enter Tryz.func74, Tryz.ntmps74
    go_wp2_with fail
    go_ret
    exact ⟨rfl, Below.refl _ _⟩
/-- may a word be called with such parts? -/
def calledB (wd : List UInt8) (ks : List Tr) : Bool :=
  if wd = [73, 70] then exprsB ks 3 else if wd = [83, 85, 77] ∨ wd = [77, 73, 78] ∨ wd = [77, 65, 88] then decide ((0 : Int) < (ks.length : Int)) else if wd = [67, 79, 85, 78, 84] then decide ((0 : Int) < (ks.length : Int)) && !ks.any (fun t => (t.kind != 6) && (t.kind != 2)) else false
set_option maxHeartbeats 1000000 in
set_option maxRecDepth 10000 in
theorem pcalled_any (wd : List UInt8) (t : Tr) (ht : Wid t) (w : World) (P : Nat → Prop) (A : Option Addr) (ca : Nat) (hA : KV w P t A) :
    Calls Tryz.prog 75 #[.string ⟨wd.toArray⟩, .slice A t.kids.length ca] w fun e w' => e = .returned (.bool (calledB wd t.kids)) ∧ Below w.heap.size w w' := by
  have hlen := ht.len
  unfold maxLen at hlen
  have HX := Lib.hid (pexprs_any 3 t ht w P A ca hA)
  have HC := Lib.hid (pcontains_any uncountedC t ht w P A ca hA)
  clear hA
  unfold calledB
  have HD : ∀ b, decide ((0 : Int) < (t.kids.length : Int)) = b → decide ((0 : Int) < (t.kids.length : Int)) = b := fun _ h => h
  generalize hn : t.kids.length = n at *
  have HNN := Lib.hid hn
  clear hn HD
  by_cases hi : wd = [73, 70]
  · subst hi
    rw [if_pos rfl]
    go_enter Tryz.func75, Tryz.ntmps75
    go_wp2_with fail
    refine HX.out.mono ?_; rintro e w1 ⟨rfl, b1⟩
    go_wp2_with fail
    go_ret
    exact ⟨rfl, b1⟩
  · rw [if_neg hi]
    by_cases h3 : wd = [83, 85, 77] ∨ wd = [77, 73, 78] ∨ wd = [77, 65, 88]
    · rw [if_pos h3]
      rcases h3 with rfl | rfl | rfl
      · by_cases hz : 0 < n
        · have d1 : decide ((0 : Int) < (n : Int)) = true := decide_eq_true (by omega)
          have d2 := Lib.hid d1
          go_enter Tryz.func75, Tryz.ntmps75
          go_wp2_with fail
          go_ret
          exact ⟨ret_bool (by rw [d2.out]), Below.refl _ _⟩
        · have d1 : decide ((0 : Int) < (n : Int)) = false := decide_eq_false (by omega)
          have d2 := Lib.hid d1
          go_enter Tryz.func75, Tryz.ntmps75
          go_wp2_with fail
          go_ret
          exact ⟨ret_bool (by rw [d2.out]), Below.refl _ _⟩
      · by_cases hz : 0 < n
        · have d1 : decide ((0 : Int) < (n : Int)) = true := decide_eq_true (by omega)
          have d2 := Lib.hid d1
          go_enter Tryz.func75, Tryz.ntmps75
          go_wp2_with fail
          go_ret
          exact ⟨ret_bool (by rw [d2.out]), Below.refl _ _⟩
        · have d1 : decide ((0 : Int) < (n : Int)) = false := decide_eq_false (by omega)
          have d2 := Lib.hid d1
          go_enter Tryz.func75, Tryz.ntmps75
          go_wp2_with fail
          go_ret
          exact ⟨ret_bool (by rw [d2.out]), Below.refl _ _⟩
      · by_cases hz : 0 < n
        · have d1 : decide ((0 : Int) < (n : Int)) = true := decide_eq_true (by omega)
          have d2 := Lib.hid d1
          go_enter Tryz.func75, Tryz.ntmps75
          go_wp2_with fail
          go_ret
          exact ⟨ret_bool (by rw [d2.out]), Below.refl _ _⟩
        · have d1 : decide ((0 : Int) < (n : Int)) = false := decide_eq_false (by omega)
          have d2 := Lib.hid d1
          go_enter Tryz.func75, Tryz.ntmps75
          go_wp2_with fail
          go_ret
          exact ⟨ret_bool (by rw [d2.out]), Below.refl _ _⟩
    · rw [if_neg h3]
      by_cases hc : wd = [67, 79, 85, 78, 84]
      · subst hc
        rw [if_pos rfl]
        by_cases hz : 0 < n
        · have d1 : decide ((0 : Int) < (n : Int)) = true := decide_eq_true (by omega)
          have d2 := Lib.hid d1
          go_enter Tryz.func75, Tryz.ntmps75
          go_wp2_with fail
          refine HC.out.mono ?_; rintro e w1 ⟨rfl, b1⟩
          go_wp2_with fail
          go_ret
          exact ⟨ret_bool (by rw [d2.out, Bool.true_and]), b1⟩
        · have d1 : decide ((0 : Int) < (n : Int)) = false := decide_eq_false (by omega)
          have d2 := Lib.hid d1
          go_enter Tryz.func75, Tryz.ntmps75
          go_wp2_with fail
          go_ret
          exact ⟨ret_bool (by rw [d2.out, Bool.false_and]), Below.refl _ _⟩
      · rw [if_neg hc]
        have e0 : (wd == [73, 70]) = false := by rw [beq_eq_false_iff_ne]; exact hi
        have e1 : (wd == [83, 85, 77]) = false := by rw [beq_eq_false_iff_ne]; exact fun e => h3 (.inl e)
        have e2 : (wd == [77, 73, 78]) = false := by rw [beq_eq_false_iff_ne]; exact fun e => h3 (.inr (.inl e))
        have e3 : (wd == [77, 65, 88]) = false := by rw [beq_eq_false_iff_ne]; exact fun e => h3 (.inr (.inr e))
        have e4 : (wd == [67, 79, 85, 78, 84]) = false := by rw [beq_eq_false_iff_ne]; exact hc
        clear hi h3 hc
        go_enter Tryz.func75, Tryz.ntmps75
        go_wp2_with fail
        go_ret
        exact ⟨rfl, Below.refl _ _⟩
end Go.Proofs.YtahdlijkohmdfaaGreatDoor
/- The document's own answer whether a range may be. -/
namespace Go.Proofs.YtahdlijkohmdfaaGreatDoor
open Go.RowKit

/-- may a range be? -/
def wholeB (a b c d : Int) : Bool := rightB a b && rightB c d && (decide (a ≤ c) && decide (b ≤ d))
theorem wholeB_iff (a b c d : Int) : wholeB a b c d = true ↔ (0 ≤ a ∧ a ≤ 15 ∧ 0 ≤ b ∧ b ≤ 63) ∧ (0 ≤ c ∧ c ≤ 15 ∧ 0 ≤ d ∧ d ≤ 63) ∧ a ≤ c ∧ b ≤ d := by
  unfold wholeB rightB; simp [and_assoc]
set_option maxHeartbeats 1000000 in
theorem rwhole_any (a b c d : Int) (w : World) :
    Calls Tryz.prog 47 #[.agg #[.int .i64 a, .int .i64 b, .int .i64 c, .int .i64 d]] w fun e w' => e = .returned (.bool (wholeB a b c d)) ∧ Below w.heap.size w w' := by
  have HF := Lib.hid (rright_any a b)
  have HT := Lib.hid (rright_any c d)
  cases hf : rightB a b with
  | false =>
    have e1 := Lib.hid (show wholeB a b c d = false from by unfold wholeB; rw [hf]; rfl)
    rw [hf] at HF
    clear hf
    go_enter Tryz.func47, Tryz.ntmps47
    go_wp2_with fail
    refine (HF.out _).mono ?_; rintro e w1 ⟨rfl, b1⟩
    have k2 := keep_fresh b1 2 (v := .int .i64 c) rfl
    have k3 := keep_fresh b1 3 (v := .int .i64 d) rfl
    go_wp2_with fail
    refine (HT.out _).mono ?_; rintro e w2 ⟨rfl, b2⟩
    have h1 : Below w.heap.size w w1 := ((Below.refl _ _).alloc (Nat.le_refl _) _).trans (b1.mono (by simp))
    have h2 := h1.trans (b2.mono h1.size)
    clear k2 k3 b1 b2
    go_wp2_with fail
    go_ret
    exact ⟨ret_bool e1.out.symm, h2⟩
  | true =>
    rw [hf] at HF
    cases ht : rightB c d with
    | false =>
      have e1 := Lib.hid (show wholeB a b c d = false from by unfold wholeB; rw [hf, ht]; rfl)
      rw [ht] at HT
      clear hf ht
      go_enter Tryz.func47, Tryz.ntmps47
      go_wp2_with fail
      refine (HF.out _).mono ?_; rintro e w1 ⟨rfl, b1⟩
      have k2 := keep_fresh b1 2 (v := .int .i64 c) rfl
      have k3 := keep_fresh b1 3 (v := .int .i64 d) rfl
      go_wp2_with fail
      refine (HT.out _).mono ?_; rintro e w2 ⟨rfl, b2⟩
      have h1 : Below w.heap.size w w1 := ((Below.refl _ _).alloc (Nat.le_refl _) _).trans (b1.mono (by simp))
      have h2 := h1.trans (b2.mono h1.size)
      clear k2 k3 b1 b2
      go_wp2_with fail
      go_ret
      exact ⟨ret_bool e1.out.symm, h2⟩
    | true =>
      have e1 := Lib.hid (show wholeB a b c d = (decide (a ≤ c) && decide (b ≤ d)) from by unfold wholeB; rw [hf, ht]; rfl)
      rw [ht] at HT
      clear hf ht
      go_enter Tryz.func47, Tryz.ntmps47
      go_wp2_with fail
      refine (HF.out _).mono ?_; rintro e w1 ⟨rfl, b1⟩
      have j0 := keep_fresh b1 0 (v := .int .i64 a) rfl
      have j1 := keep_fresh b1 1 (v := .int .i64 b) rfl
      have j2 := keep_fresh b1 2 (v := .int .i64 c) rfl
      have j3 := keep_fresh b1 3 (v := .int .i64 d) rfl
      go_wp2_with fail
      refine (HT.out _).mono ?_; rintro e w2 ⟨rfl, b2⟩
      have k0 := keep_cell b2 j0
      have k1 := keep_cell b2 j1
      have k2 := keep_cell b2 j2
      have k3 := keep_cell b2 j3
      have h1 : Below w.heap.size w w1 := ((Below.refl _ _).alloc (Nat.le_refl _) _).trans (b1.mono (by simp))
      have h2 := h1.trans (b2.mono h1.size)
      clear j0 j1 j2 j3 b1 b2
      by_cases hac : a ≤ c
      · have d1 : decide (a ≤ c) = true := decide_eq_true hac
        rw [d1, Bool.true_and] at e1
        clear hac
        go_wp2_with fail
        go_ret
        exact ⟨ret_bool e1.out.symm, h2⟩
      · have d1 : decide (a ≤ c) = false := decide_eq_false hac
        rw [d1, Bool.false_and] at e1
        clear hac
        go_wp2_with fail
        go_ret
        exact ⟨ret_bool e1.out.symm, h2⟩
end Go.Proofs.YtahdlijkohmdfaaGreatDoor
/- The document's own least range that has two places. -/
namespace Go.Proofs.YtahdlijkohmdfaaGreatDoor
open Go.RowKit

/-- the least range that has two places -/
def spB (a b c d : Int) : Bool := rightB a b && rightB c d
def spN (x : Bool) (n : Int) : Int := if x = true then n else 0
set_option maxHeartbeats 1000000 in
theorem rspan_any (a b c d : Int) (w : World) :
    Calls Tryz.prog 106 #[.agg #[.int .i64 a, .int .i64 b], .agg #[.int .i64 c, .int .i64 d]] w fun e w' => e = .returned (.tuple #[.agg #[.int .i64 (spN (spB a b c d) (min a c)), .int .i64 (spN (spB a b c d) (min b d)), .int .i64 (spN (spB a b c d) (max a c)), .int .i64 (spN (spB a b c d) (max b d))], .bool (spB a b c d)]) ∧ Below w.heap.size w w' := by
  have HP := Lib.hid (rright_any a b)
  have HQ := Lib.hid (rright_any c d)
  cases hp : rightB a b <;> cases hq : rightB c d
  all_goals
    rw [hp] at HP
    rw [hq] at HQ
    have e0 : spB a b c d = (rightB a b && rightB c d) := rfl
    rw [hp, hq] at e0
    simp only [Bool.and_self, Bool.and_true, Bool.and_false] at e0
    rw [e0]
    clear hp hq e0
    go_enter Tryz.func106, Tryz.ntmps106
    go_wp2_with fail
    refine (HP.out _).mono ?_; rintro e w1 ⟨rfl, b1⟩
    have k0 := keep_cell b1 (p := ⟨w.heap.size + 1 + 1, 0, none⟩) (v := .int .i64 0) (by simp [go_sem])
    have k1 := keep_cell b1 (p := ⟨w.heap.size + 1 + 1, 1, none⟩) (v := .int .i64 0) (by simp [go_sem])
    have k2 := keep_cell b1 (p := ⟨w.heap.size + 1 + 1, 2, none⟩) (v := .int .i64 0) (by simp [go_sem])
    have k3 := keep_cell b1 (p := ⟨w.heap.size + 1 + 1, 3, none⟩) (v := .int .i64 0) (by simp [go_sem])
    have k4 := keep_cell b1 (p := ⟨w.heap.size, 0, none⟩) (v := .int .i64 a) (by simp [go_sem])
    have k5 := keep_cell b1 (p := ⟨w.heap.size, 1, none⟩) (v := .int .i64 b) (by simp [go_sem])
    have k6 := keep_cell b1 (p := ⟨w.heap.size + 1, 0, none⟩) (v := .int .i64 c) (by simp [go_sem])
    have k7 := keep_cell b1 (p := ⟨w.heap.size + 1, 1, none⟩) (v := .int .i64 d) (by simp [go_sem])
    have f0 := keep_frozen b1 (p := ⟨w.heap.size + 1 + 1, 0, none⟩) (by simp) (by simp [go_sem])
    have f1 := keep_frozen b1 (p := ⟨w.heap.size + 1 + 1, 1, none⟩) (by simp) (by simp [go_sem])
    have f2 := keep_frozen b1 (p := ⟨w.heap.size + 1 + 1, 2, none⟩) (by simp) (by simp [go_sem])
    have f3 := keep_frozen b1 (p := ⟨w.heap.size + 1 + 1, 3, none⟩) (by simp) (by simp [go_sem])
    have z1 : w.heap.size + 1 + 1 < w1.heap.size := by have := b1.size; simp at this; omega
    have h1 : Below w.heap.size w w1 := ((((Below.refl _ _).alloc (Nat.le_refl _) _).alloc (by simp) _).alloc (by simp; omega) _).trans (b1.mono (by simp; omega))
    clear b1
    go_wp2_with fail
    refine (HQ.out _).mono ?_; rintro e w2 ⟨rfl, b2⟩
    have m0 := keep_cell b2 k0
    have m1 := keep_cell b2 k1
    have m2 := keep_cell b2 k2
    have m3 := keep_cell b2 k3
    have m4 := keep_cell b2 k4
    have m5 := keep_cell b2 k5
    have m6 := keep_cell b2 k6
    have m7 := keep_cell b2 k7
    have g0 := keep_frozen b2 z1 f0
    have g1 := keep_frozen b2 z1 f1
    have g2 := keep_frozen b2 z1 f2
    have g3 := keep_frozen b2 z1 f3
    have h2 := h1.trans (b2.mono h1.size)
    clear k0 k1 k2 k3 k4 k5 k6 k7 f0 f1 f2 f3 b2
    go_wp2_with fail
    all_goals first
      | exact bodyPost_ret (v := .tuple #[.agg #[.int .i64 0, .int .i64 0, .int .i64 0, .int .i64 0], .bool false]) (by simp [results, Tryz.results106, go_sem, m0, m1, m2, m3]) rfl
          ⟨rfl, (((h2.setCell (by simp; omega) _).setCell (by simp; omega) _).setCell (by simp; omega) _).setCell (by simp; omega) _⟩
      | exact bodyPost_ret (v := .tuple #[.agg #[.int .i64 (min a c), .int .i64 (min b d), .int .i64 (max a c), .int .i64 (max b d)], .bool true]) (by simp [results, Tryz.results106, go_sem, m0, m1, m2, m3] <;> omega) rfl
          ⟨rfl, (((h2.setCell (by simp; omega) _).setCell (by simp; omega) _).setCell (by simp; omega) _).setCell (by simp; omega) _⟩
end Go.Proofs.YtahdlijkohmdfaaGreatDoor
/- place's own ranges: the lesser and the greater of two places, the range of both, whether a range may be. -/
namespace Go.Proofs.YtahdlijkohmdfaaGreatDoor
open Go.RowKit

set_option maxHeartbeats 400000 in
theorem plower_any (a b c d : Int) (w : World) :
    Calls Tryz.prog 137 #[.agg #[.int .i64 a, .int .i64 b], .agg #[.int .i64 c, .int .i64 d]] w fun e w' => e = .returned (.agg #[.int .i64 (min a c), .int .i64 (min b d)]) ∧ Below w.heap.size w w' := by
  go_enter Tryz.func137, Tryz.ntmps137
  go_wp2_with fail
  all_goals
    exact bodyPost_ret (v := .agg #[.int .i64 (min a c), .int .i64 (min b d)]) (by simp [results, Tryz.results137, go_sem] <;> omega) rfl
      ⟨rfl, ((((Below.refl _ _).alloc (Nat.le_refl _) _).alloc (by simp) _).alloc (by simp; omega) _)⟩
set_option maxHeartbeats 400000 in
theorem pupper_any (a b c d : Int) (w : World) :
    Calls Tryz.prog 138 #[.agg #[.int .i64 a, .int .i64 b], .agg #[.int .i64 c, .int .i64 d]] w fun e w' => e = .returned (.agg #[.int .i64 (max a c), .int .i64 (max b d)]) ∧ Below w.heap.size w w' := by
  go_enter Tryz.func138, Tryz.ntmps138
  go_wp2_with fail
  all_goals
    exact bodyPost_ret (v := .agg #[.int .i64 (max a c), .int .i64 (max b d)]) (by simp [results, Tryz.results138, go_sem] <;> omega) rfl
      ⟨rfl, ((((Below.refl _ _).alloc (Nat.le_refl _) _).alloc (by simp) _).alloc (by simp; omega) _)⟩

set_option maxHeartbeats 1000000 in
theorem pspan_no (a b c d : Int) (w : World) (h : spB a b c d = false) :
    Calls Tryz.prog 128 #[.agg #[.int .i64 a, .int .i64 b], .agg #[.int .i64 c, .int .i64 d]] w fun e w' => e = .returned (.tuple #[.agg #[.int .i64 0, .int .i64 0, .int .i64 0, .int .i64 0], .bool false]) ∧ Below w.heap.size w w' := by
  have HP := Lib.hid (pright_any a b)
  have HQ := Lib.hid (pright_any c d)
  unfold spB at h
  cases hp : rightB a b with
  | false =>
    rw [hp] at HP
    clear hp h
    go_enter Tryz.func128, Tryz.ntmps128
    go_wp2_with fail
    refine (HP.out _).mono ?_; rintro e w1 ⟨rfl, b1⟩
    have k0 := keep_cell b1 (p := ⟨w.heap.size + 1 + 1, 0, none⟩) (v := .int .i64 0) (by simp [go_sem])
    have k1 := keep_cell b1 (p := ⟨w.heap.size + 1 + 1, 1, none⟩) (v := .int .i64 0) (by simp [go_sem])
    have k2 := keep_cell b1 (p := ⟨w.heap.size + 1 + 1, 2, none⟩) (v := .int .i64 0) (by simp [go_sem])
    have k3 := keep_cell b1 (p := ⟨w.heap.size + 1 + 1, 3, none⟩) (v := .int .i64 0) (by simp [go_sem])
    have f0 := keep_frozen b1 (p := ⟨w.heap.size + 1 + 1, 0, none⟩) (by simp) (by simp [go_sem])
    have f1 := keep_frozen b1 (p := ⟨w.heap.size + 1 + 1, 1, none⟩) (by simp) (by simp [go_sem])
    have f2 := keep_frozen b1 (p := ⟨w.heap.size + 1 + 1, 2, none⟩) (by simp) (by simp [go_sem])
    have f3 := keep_frozen b1 (p := ⟨w.heap.size + 1 + 1, 3, none⟩) (by simp) (by simp [go_sem])
    have h1 : Below w.heap.size w w1 := ((((Below.refl _ _).alloc (Nat.le_refl _) _).alloc (by simp) _).alloc (by simp; omega) _).trans (b1.mono (by simp; omega))
    clear b1
    go_wp2_with fail
    exact bodyPost_ret (v := .tuple #[.agg #[.int .i64 0, .int .i64 0, .int .i64 0, .int .i64 0], .bool false]) (by simp [results, Tryz.results128, go_sem, k0, k1, k2, k3]) rfl
      ⟨rfl, (((h1.setCell (by simp; omega) _).setCell (by simp; omega) _).setCell (by simp; omega) _).setCell (by simp; omega) _⟩
  | true =>
    have hq : rightB c d = false := by rw [hp, Bool.true_and] at h; exact h
    rw [hp] at HP
    rw [hq] at HQ
    clear hp hq h
    go_enter Tryz.func128, Tryz.ntmps128
    go_wp2_with fail
    refine (HP.out _).mono ?_; rintro e w1 ⟨rfl, b1⟩
    have k0 := keep_cell b1 (p := ⟨w.heap.size + 1 + 1, 0, none⟩) (v := .int .i64 0) (by simp [go_sem])
    have k1 := keep_cell b1 (p := ⟨w.heap.size + 1 + 1, 1, none⟩) (v := .int .i64 0) (by simp [go_sem])
    have k2 := keep_cell b1 (p := ⟨w.heap.size + 1 + 1, 2, none⟩) (v := .int .i64 0) (by simp [go_sem])
    have k3 := keep_cell b1 (p := ⟨w.heap.size + 1 + 1, 3, none⟩) (v := .int .i64 0) (by simp [go_sem])
    have k6 := keep_cell b1 (p := ⟨w.heap.size + 1, 0, none⟩) (v := .int .i64 c) (by simp [go_sem])
    have k7 := keep_cell b1 (p := ⟨w.heap.size + 1, 1, none⟩) (v := .int .i64 d) (by simp [go_sem])
    have f0 := keep_frozen b1 (p := ⟨w.heap.size + 1 + 1, 0, none⟩) (by simp) (by simp [go_sem])
    have f1 := keep_frozen b1 (p := ⟨w.heap.size + 1 + 1, 1, none⟩) (by simp) (by simp [go_sem])
    have f2 := keep_frozen b1 (p := ⟨w.heap.size + 1 + 1, 2, none⟩) (by simp) (by simp [go_sem])
    have f3 := keep_frozen b1 (p := ⟨w.heap.size + 1 + 1, 3, none⟩) (by simp) (by simp [go_sem])
    have z1 : w.heap.size + 1 + 1 < w1.heap.size := by have := b1.size; simp at this; omega
    have h1 : Below w.heap.size w w1 := ((((Below.refl _ _).alloc (Nat.le_refl _) _).alloc (by simp) _).alloc (by simp; omega) _).trans (b1.mono (by simp; omega))
    clear b1
    go_wp2_with fail
    refine (HQ.out _).mono ?_; rintro e w2 ⟨rfl, b2⟩
    have m0 := keep_cell b2 k0
    have m1 := keep_cell b2 k1
    have m2 := keep_cell b2 k2
    have m3 := keep_cell b2 k3
    have g0 := keep_frozen b2 z1 f0
    have g1 := keep_frozen b2 z1 f1
    have g2 := keep_frozen b2 z1 f2
    have g3 := keep_frozen b2 z1 f3
    have h2 := h1.trans (b2.mono h1.size)
    clear k0 k1 k2 k3 k6 k7 f0 f1 f2 f3 b2
    go_wp2_with fail
    exact bodyPost_ret (v := .tuple #[.agg #[.int .i64 0, .int .i64 0, .int .i64 0, .int .i64 0], .bool false]) (by simp [results, Tryz.results128, go_sem, m0, m1, m2, m3]) rfl
      ⟨rfl, (((h2.setCell (by simp; omega) _).setCell (by simp; omega) _).setCell (by simp; omega) _).setCell (by simp; omega) _⟩

set_option maxHeartbeats 2000000 in
theorem pspan_yes (a b c d : Int) (w : World) (hp : rightB a b = true) (hq : rightB c d = true) :
    Calls Tryz.prog 128 #[.agg #[.int .i64 a, .int .i64 b], .agg #[.int .i64 c, .int .i64 d]] w fun e w' => e = .returned (.tuple #[.agg #[.int .i64 (min a c), .int .i64 (min b d), .int .i64 (max a c), .int .i64 (max b d)], .bool true]) ∧ Below w.heap.size w w' := by
  have HP := Lib.hid (pright_any a b)
  have HQ := Lib.hid (pright_any c d)
  have HL := Lib.hid (plower_any a b c d)
  have HU := Lib.hid (pupper_any a b c d)
  rw [hp] at HP
  rw [hq] at HQ
  clear hp hq
  generalize min a c = X0 at *
  generalize min b d = X1 at *
  generalize max a c = X2 at *
  generalize max b d = X3 at *
  go_enter Tryz.func128, Tryz.ntmps128
  go_wp2_with fail
  refine (HP.out _).mono ?_; rintro e w1 ⟨rfl, b1⟩
  have k0 := keep_cell b1 (p := ⟨w.heap.size + 1 + 1, 0, none⟩) (v := .int .i64 0) (by simp [go_sem])
  have k1 := keep_cell b1 (p := ⟨w.heap.size + 1 + 1, 1, none⟩) (v := .int .i64 0) (by simp [go_sem])
  have k2 := keep_cell b1 (p := ⟨w.heap.size + 1 + 1, 2, none⟩) (v := .int .i64 0) (by simp [go_sem])
  have k3 := keep_cell b1 (p := ⟨w.heap.size + 1 + 1, 3, none⟩) (v := .int .i64 0) (by simp [go_sem])
  have k4 := keep_cell b1 (p := ⟨w.heap.size, 0, none⟩) (v := .int .i64 a) (by simp [go_sem])
  have k5 := keep_cell b1 (p := ⟨w.heap.size, 1, none⟩) (v := .int .i64 b) (by simp [go_sem])
  have k6 := keep_cell b1 (p := ⟨w.heap.size + 1, 0, none⟩) (v := .int .i64 c) (by simp [go_sem])
  have k7 := keep_cell b1 (p := ⟨w.heap.size + 1, 1, none⟩) (v := .int .i64 d) (by simp [go_sem])
  have f0 := keep_frozen b1 (p := ⟨w.heap.size + 1 + 1, 0, none⟩) (by simp) (by simp [go_sem])
  have f1 := keep_frozen b1 (p := ⟨w.heap.size + 1 + 1, 1, none⟩) (by simp) (by simp [go_sem])
  have f2 := keep_frozen b1 (p := ⟨w.heap.size + 1 + 1, 2, none⟩) (by simp) (by simp [go_sem])
  have f3 := keep_frozen b1 (p := ⟨w.heap.size + 1 + 1, 3, none⟩) (by simp) (by simp [go_sem])
  have z1 : w.heap.size + 1 + 1 < w1.heap.size := by have := b1.size; simp at this; omega
  have h1 : Below w.heap.size w w1 := ((((Below.refl _ _).alloc (Nat.le_refl _) _).alloc (by simp) _).alloc (by simp; omega) _).trans (b1.mono (by simp; omega))
  clear b1
  go_wp2_with fail
  refine (HQ.out _).mono ?_; rintro e w2 ⟨rfl, b2⟩
  have m0 := keep_cell b2 k0
  have m1 := keep_cell b2 k1
  have m2 := keep_cell b2 k2
  have m3 := keep_cell b2 k3
  have m4 := keep_cell b2 k4
  have m5 := keep_cell b2 k5
  have m6 := keep_cell b2 k6
  have m7 := keep_cell b2 k7
  have g0 := keep_frozen b2 z1 f0
  have g1 := keep_frozen b2 z1 f1
  have g2 := keep_frozen b2 z1 f2
  have g3 := keep_frozen b2 z1 f3
  have z2 : w.heap.size + 1 + 1 < w2.heap.size := by have := b2.size; omega
  have h2 := h1.trans (b2.mono h1.size)
  clear k0 k1 k2 k3 k4 k5 k6 k7 f0 f1 f2 f3 b2
  have hne : w.heap.size + 1 + 1 ≠ w.heap.size := by omega
  go_wp2_with fail
  go_region_held3 (fun w' => w'.cell? ⟨w.heap.size, 0, none⟩ = some (.int .i64 a) ∧ w'.cell? ⟨w.heap.size, 1, none⟩ = some (.int .i64 b) ∧ w'.cell? ⟨w.heap.size + 1, 0, none⟩ = some (.int .i64 c) ∧ w'.cell? ⟨w.heap.size + 1, 1, none⟩ = some (.int .i64 d))
    (first | with_reducible exact ⟨m4, m5, m6, m7⟩ | with_reducible exact ⟨o4, o5, o6, o7⟩ | with_reducible exact ⟨q4, q5, q6, q7⟩ | go_keep)
    (first
    | (go_at_call 137; refine (HL.out _).mono ?_; rintro e w3 ⟨rfl, b3⟩
       have B3 : Below w2.heap.size w2 w3 := (Below.refl _ w2).drew.trans b3
       have o0 := keep_cell B3 m0
       have o1 := keep_cell B3 m1
       have o2 := keep_cell B3 m2
       have o3 := keep_cell B3 m3
       have o4 := keep_cell B3 m4
       have o5 := keep_cell B3 m5
       have o6 := keep_cell B3 m6
       have o7 := keep_cell B3 m7
       have p0 := keep_frozen B3 z2 g0
       have p1 := keep_frozen B3 z2 g1
       have p2 := keep_frozen B3 z2 g2
       have p3 := keep_frozen B3 z2 g3
       have h3 := h2.trans (B3.mono h2.size))
    | (go_at_call 138; refine (HU.out _).mono ?_; rintro e w4 ⟨rfl, b4⟩
       have B4 : Below w2.heap.size w2 w4 := B3.trans (b4.mono B3.size)
       have q0 := keep_cell B4 m0
       have q1 := keep_cell B4 m1
       have q2 := keep_cell B4 m2
       have q3 := keep_cell B4 m3
       have q4 := keep_cell B4 m4
       have q5 := keep_cell B4 m5
       have q6 := keep_cell B4 m6
       have q7 := keep_cell B4 m7
       have r0 := keep_frozen B4 z2 g0
       have r1 := keep_frozen B4 z2 g1
       have r2 := keep_frozen B4 z2 g2
       have r3 := keep_frozen B4 z2 g3
       have h4 := h2.trans (B4.mono h2.size)))
  all_goals
    go_wp2
    exact bodyPost_ret (v := .tuple #[.agg #[.int .i64 X0, .int .i64 X1, .int .i64 X2, .int .i64 X3], .bool true]) (by simp [results, Tryz.results128, go_sem, q0, q1, q2, q3]) rfl
      ⟨rfl, (((h4.setCell (by simp; omega) _).setCell (by simp; omega) _).setCell (by simp; omega) _).setCell (by simp; omega) _⟩

theorem pspan_any (a b c d : Int) (w : World) :
    Calls Tryz.prog 128 #[.agg #[.int .i64 a, .int .i64 b], .agg #[.int .i64 c, .int .i64 d]] w fun e w' => e = .returned (.tuple #[.agg #[.int .i64 (spN (spB a b c d) (min a c)), .int .i64 (spN (spB a b c d) (min b d)), .int .i64 (spN (spB a b c d) (max a c)), .int .i64 (spN (spB a b c d) (max b d))], .bool (spB a b c d)]) ∧ Below w.heap.size w w' := by
  cases h : spB a b c d with
  | false => exact pspan_no a b c d w h
  | true =>
    have h' := h
    unfold spB at h'
    rw [Bool.and_eq_true] at h'
    exact pspan_yes a b c d w h'.1 h'.2

set_option maxHeartbeats 1000000 in
theorem pwhole_any (a b c d : Int) (w : World) :
    Calls Tryz.prog 76 #[.agg #[.int .i64 a, .int .i64 b, .int .i64 c, .int .i64 d]] w fun e w' => e = .returned (.bool (wholeB a b c d)) ∧ Below w.heap.size w w' := by
  have HF := Lib.hid (pright_any a b)
  have HT := Lib.hid (pright_any c d)
  cases hf : rightB a b with
  | false =>
    have e1 := Lib.hid (show wholeB a b c d = false from by unfold wholeB; rw [hf]; rfl)
    rw [hf] at HF
    clear hf
    go_enter Tryz.func76, Tryz.ntmps76
    go_wp2_with fail
    refine (HF.out _).mono ?_; rintro e w1 ⟨rfl, b1⟩
    have h1 : Below w.heap.size w w1 := ((Below.refl _ _).alloc (Nat.le_refl _) _).trans (b1.mono (by simp))
    clear b1
    go_wp2_with fail
    go_ret
    exact ⟨ret_bool e1.out.symm, h1⟩
  | true =>
    rw [hf] at HF
    cases ht : rightB c d with
    | false =>
      have e1 := Lib.hid (show wholeB a b c d = false from by unfold wholeB; rw [hf, ht]; rfl)
      rw [ht] at HT
      clear hf ht
      go_enter Tryz.func76, Tryz.ntmps76
      go_wp2_with fail
      refine (HF.out _).mono ?_; rintro e w1 ⟨rfl, b1⟩
      have k2 := keep_fresh b1 2 (v := .int .i64 c) rfl
      have k3 := keep_fresh b1 3 (v := .int .i64 d) rfl
      go_wp2_with fail
      refine (HT.out _).mono ?_; rintro e w2 ⟨rfl, b2⟩
      have h1 : Below w.heap.size w w1 := ((Below.refl _ _).alloc (Nat.le_refl _) _).trans (b1.mono (by simp))
      have h2 := h1.trans (b2.mono h1.size)
      clear k2 k3 b1 b2
      go_wp2_with fail
      go_ret
      exact ⟨ret_bool e1.out.symm, h2⟩
    | true =>
      have e1 := Lib.hid (show wholeB a b c d = (decide (a ≤ c) && decide (b ≤ d)) from by unfold wholeB; rw [hf, ht]; rfl)
      rw [ht] at HT
      clear hf ht
      go_enter Tryz.func76, Tryz.ntmps76
      go_wp2_with fail
      refine (HF.out _).mono ?_; rintro e w1 ⟨rfl, b1⟩
      have j0 := keep_fresh b1 0 (v := .int .i64 a) rfl
      have j1 := keep_fresh b1 1 (v := .int .i64 b) rfl
      have j2 := keep_fresh b1 2 (v := .int .i64 c) rfl
      have j3 := keep_fresh b1 3 (v := .int .i64 d) rfl
      go_wp2_with fail
      refine (HT.out _).mono ?_; rintro e w2 ⟨rfl, b2⟩
      have k0 := keep_cell b2 j0
      have k1 := keep_cell b2 j1
      have k2 := keep_cell b2 j2
      have k3 := keep_cell b2 j3
      have h1 : Below w.heap.size w w1 := ((Below.refl _ _).alloc (Nat.le_refl _) _).trans (b1.mono (by simp))
      have h2 := h1.trans (b2.mono h1.size)
      clear j0 j1 j2 j3 b1 b2
      by_cases hac : a ≤ c
      · have d1 : decide (a ≤ c) = true := decide_eq_true hac
        rw [d1, Bool.true_and] at e1
        clear hac
        go_wp2_with fail
        go_ret
        exact ⟨ret_bool e1.out.symm, h2⟩
      · have d1 : decide (a ≤ c) = false := decide_eq_false hac
        rw [d1, Bool.false_and] at e1
        clear hac
        go_wp2_with fail
        go_ret
        exact ⟨ret_bool e1.out.symm, h2⟩
end Go.Proofs.YtahdlijkohmdfaaGreatDoor
/- A mark's strength, by the program's own table. -/
namespace Go.Proofs.YtahdlijkohmdfaaGreatDoor
open Go.RowKit

/-- a list of strings stands from a cell on -/
def SAt (w : World) (g o : Nat) (l : List ByteArray) : Prop := ∀ (i : Nat) (s : ByteArray), l[i]? = some s → w.cell? ⟨g, o + i, none⟩ = some (.string s)
/-- the first one that is s -/
def findS (s : ByteArray) : List ByteArray → Option Nat
  | [] => none
  | t :: r => if s = t then some 0 else (findS s r).map (· + 1)
def idxS (s : ByteArray) (l : List ByteArray) : Int := match findS s l with | some i => (i : Int) | none => -1
theorem find_hit {s : ByteArray} : ∀ {l : List ByteArray} {i : Nat}, (∀ (j : Nat) (t : ByteArray), j < i → l[j]? = some t → s ≠ t) → l[i]? = some s → findS s l = some i
  | [], i, _, h => by simp at h
  | t :: r, 0, _, h => by simp at h; subst h; simp [findS]
  | t :: r, i + 1, hn, h => by
    have h0 := hn 0 t (by omega) rfl
    have := find_hit (l := r) (i := i) (fun j u hj hu => hn (j + 1) u (by omega) (by simpa using hu)) (by simpa using h)
    simp [findS, h0, this]
theorem find_miss {s : ByteArray} : ∀ {l : List ByteArray}, (∀ (j : Nat) (t : ByteArray), j < l.length → l[j]? = some t → s ≠ t) → findS s l = none
  | [], _ => rfl
  | t :: r, hn => by
    have h0 := hn 0 t (by simp) rfl
    have := find_miss (l := r) (fun j u hj hu => hn (j + 1) u (by simp; omega) (by simpa using hu))
    simp [findS, h0, this]
theorem idx_hit {s : ByteArray} {l : List ByteArray} {i : Nat} (hn : ∀ (j : Nat) (t : ByteArray), j < i → l[j]? = some t → s ≠ t) (h : l[i]? = some s) : idxS s l = (i : Int) := by
  unfold idxS; rw [find_hit hn h]
theorem idx_miss {s : ByteArray} {l : List ByteArray} (hn : ∀ (j : Nat) (t : ByteArray), j < l.length → l[j]? = some t → s ≠ t) : idxS s l = -1 := by
  unfold idxS; rw [find_miss hn]
set_option maxHeartbeats 1000000 in
set_option maxRecDepth 10000 in
theorem sindex_any (w : World) (g o cap : Nat) (l : List ByteArray) (s : ByteArray) (hl : l.length ≤ 1000) (h : SAt w g o l) :
    Calls Tryz.prog 92 #[.slice (some ⟨g, o, none⟩) l.length cap, .string s] w fun e w' => e = .returned (.int .i64 (idxS s l)) ∧ w = w' := by
  have H := Lib.hid h
  clear h
  go_enter Tryz.func92, Tryz.ntmps92
  go_wp2_with fail
  go_loopw [8] (fun vi wr => ∃ i : Nat, i ≤ l.length ∧ vi = .int .i64 (i : Int) ∧ wr = w ∧ Hid (∀ (j : Nat) (t : ByteArray), j < i → l[j]? = some t → s ≠ t)) (fun vi _ => l.length - (intOf vi).toNat)
  case atStart => exact ⟨0, Nat.zero_le _, rfl, rfl, Lib.hid fun j t hj => by omega⟩
  case round =>
    obtain ⟨i, hi, rfl, rfl, HN⟩ := hrel
    by_cases hlt : i < l.length
    · have ht : l[i]? = some (l[i]'hlt) := List.getElem?_eq_getElem hlt
      have q := H.out i _ ht
      have HT := Lib.hid ht
      generalize l[i]'hlt = t at *
      clear ht
      by_cases he : s = t
      · subst he
        have he2 : (s.toList == s.toList) = true := by simp
        go_wp2_with fail
        go_ret
        exact ⟨ret_int (idx_hit HN.out HT.out).symm, by first | rfl | trivial⟩
      · have he2 : (s.toList == t.toList) = false := by
          rw [beq_eq_false_iff_ne, ByteArray.toList_eq, ByteArray.toList_eq]
          intro h
          apply he
          obtain ⟨⟨a⟩⟩ := s
          obtain ⟨⟨b⟩⟩ := t
          simp at h
          rw [h]
        go_wp2_with fail
        go_roundw
        case rel => exact ⟨i + 1, by omega, by go_num, by first | rfl | trivial, Lib.hid fun j u hj hu => by
          by_cases hji : j < i
          · exact HN.out j u hji hu
          · obtain rfl : j = i := by omega
            rw [HT.out] at hu; obtain rfl := Option.some.inj hu; exact he⟩
        case measure => simp [intOf]; omega
    · obtain rfl : i = l.length := by omega
      go_wp2_with fail
      go_ret
      exact ⟨ret_int (idx_miss HN.out).symm, by first | rfl | trivial⟩
set_option maxHeartbeats 1000000 in
set_option maxRecDepth 10000 in
theorem scontains_any (w : World) (g o cap : Nat) (l : List ByteArray) (s : ByteArray) (hl : l.length ≤ 1000) (h : SAt w g o l) :
    Calls Tryz.prog 73 #[.slice (some ⟨g, o, none⟩) l.length cap, .string s] w fun e w' => e = .returned (.bool (findS s l).isSome) ∧ w = w' := by
  have H := Lib.hid h
  clear h
  have hB : ∀ b, decide (0 ≤ idxS s l) = b → (findS s l).isSome = b := by
    intro b hb
    subst hb
    unfold idxS
    cases findS s l with
    | none => rfl
    | some i => simp
  have HB := Lib.hid (hB _ rfl)
  clear hB
  go_enter Tryz.func73, Tryz.ntmps73
  go_wp2_with fail
  refine (sindex_any w g o cap l s hl H.out).mono ?_; rintro e w1 ⟨rfl, rfl⟩
  go_wp2_with fail
  go_ret
  exact ⟨ret_bool HB.out.symm, by first | rfl | trivial⟩
/-- the table's three rows -/
def strL : Nat → List ByteArray
  | 0 => [⟨#[60]⟩, ⟨#[60, 61]⟩, ⟨#[61]⟩, ⟨#[60, 62]⟩, ⟨#[62, 61]⟩, ⟨#[62]⟩]
  | 1 => [⟨#[43]⟩, ⟨#[45]⟩]
  | 2 => [⟨#[42]⟩, ⟨#[47]⟩]
  | _ => []
/-- the table stands, in blocks below B, none of which is R -/
def Strs (R B : Nat) (w : World) : Prop := (R ≠ 0 ∧ 0 < B) ∧ ∀ i : Nat, i < 3 → ∃ g o cap, (g ≠ R ∧ g < B) ∧ w.cell? ⟨0, i, none⟩ = some (.slice (some ⟨g, o, none⟩) (strL i).length cap) ∧ SAt w g o (strL i)
theorem Strs.keep {R B : Nat} {w w' : World} (h : Strs R B w) (hk : ∀ (p : Addr) (v : Value), p.block ≠ R → p.block < B → w.cell? p = some v → w'.cell? p = some v) : Strs R B w' := by
  refine ⟨h.1, fun i hi => ?_⟩
  obtain ⟨g, o, cap, hg, hc, hs⟩ := h.2 i hi
  exact ⟨g, o, cap, hg, hk _ _ (Ne.symm h.1.1) h.1.2 hc, fun j s hj => hk _ _ hg.1 hg.2 (hs j s hj)⟩
/-- how strong a mark is, as the program has it -/
def strV (s : ByteArray) : Int := if (findS s (strL 0)).isSome = true then 0 else if (findS s (strL 1)).isSome = true then 1 else if (findS s (strL 2)).isSome = true then 2 else -1
set_option maxHeartbeats 1000000 in
set_option maxRecDepth 10000 in
theorem strength_any (R B : Nat) (w : World) (s : ByteArray) (h : Strs R B w) :
    Calls Tryz.prog 41 #[.string s] w fun e w' => e = .returned (.int .i64 (strV s)) ∧ w = w' := by
  obtain ⟨_, h⟩ := h
  have H := Lib.hid h
  clear h
  go_enter Tryz.func41, Tryz.ntmps41
  go_wp2_with fail
  go_loopw [4] (fun vi wr => ∃ i : Nat, i ≤ 3 ∧ vi = .int .i64 (i : Int) ∧ wr = w ∧ Hid (∀ j : Nat, j < i → (findS s (strL j)).isSome = false)) (fun vi _ => 3 - (intOf vi).toNat)
  case atStart => exact ⟨0, by omega, rfl, rfl, Lib.hid fun j hj => by omega⟩
  case round =>
    obtain ⟨i, hi, rfl, rfl, HN⟩ := hrel
    by_cases hlt : i < 3
    · obtain ⟨g, o, cap, _, hc, hs⟩ := H.out i hlt
      have hll : (strL i).length ≤ 1000 := by
        match i, hlt with
        | 0, _ => decide
        | 1, _ => decide
        | 2, _ => decide
      have HC := Lib.hid (scontains_any wr g o cap (strL i) s hll hs)
      have hV : Hid ((findS s (strL i)).isSome = true → strV s = (i : Int)) := Lib.hid fun h => by
        unfold strV
        match i, hlt, h with
        | 0, _, h => rw [if_pos h]; rfl
        | 1, _, h => rw [if_neg (by rw [HN.out 0 (by omega)]; decide), if_pos h]; rfl
        | 2, _, h => rw [if_neg (by rw [HN.out 0 (by omega)]; decide), if_neg (by rw [HN.out 1 (by omega)]; decide), if_pos h]; rfl
      generalize hb : (findS s (strL i)).isSome = b at *
      have HB := Lib.hid hb
      clear hb hll hs
      cases b with
      | true =>
        go_wp2_with fail
        refine HC.out.mono ?_; rintro e w1 ⟨rfl, rfl⟩
        go_wp2_with fail
        go_ret
        exact ⟨ret_int (hV.out (by first | rfl | trivial)).symm, by first | rfl | trivial⟩
      | false =>
        go_wp2_with fail
        refine HC.out.mono ?_; rintro e w1 ⟨rfl, rfl⟩
        go_wp2_with fail
        go_roundw
        case rel => exact ⟨i + 1, by omega, by go_num, by first | rfl | trivial, Lib.hid fun j hj => by
          by_cases hji : j < i
          · exact HN.out j hji
          · obtain rfl : j = i := by omega
            exact HB.out⟩
        case measure => simp [intOf]; omega
    · obtain rfl : i = 3 := by omega
      have hV : strV s = -1 := by
        unfold strV
        rw [HN.out 0 (by omega), HN.out 1 (by omega), HN.out 2 (by omega)]; rfl
      go_wp2_with fail
      go_ret
      exact ⟨ret_int hV.symm, by first | rfl | trivial⟩
end Go.Proofs.YtahdlijkohmdfaaGreatDoor
