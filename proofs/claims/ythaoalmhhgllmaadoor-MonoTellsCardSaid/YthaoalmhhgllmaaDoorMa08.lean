/- Texts joined: TrW, CeD. -/
import Derived.Test.YthaoalmhhgllmaaDoorMa07
import Derived.Test.YthaoalmhhgllmaaDoorMa01
set_option linter.all false
namespace Go.Proofs.YthaoalmhhgllmaaDoor
open Go.RowKit
theorem tplaceGuard : Tryd.prog.eqGuardType Tryd.prog.depth 24 = false := by kernel_rfl
theorem tplaceStood : Tryd.prog.stoodInHeld 24 = false := by kernel_rfl
theorem tplaceStruct : Tryd.prog.underlying 24 = some (.struct (Tryd.prog.fieldsOf 24)) := by kernel_rfl
theorem tguard_place (op : BinOp) (X Y : Operand) (xs ys : Array Value) (W : World) : (eqGuard op 24 X Y (.agg xs) (.agg ys)).run Tryd.prog W = .ok () W := run_eqGuard_agg W op 24 X Y xs ys tplaceGuard
set_option maxHeartbeats 2000000 in
theorem teql_place (a b a' b' : Int) (W : World) : (binOp .eql 24 (.agg #[.int .i64 a, .int .i64 b]) (.agg #[.int .i64 a', .int .i64 b'])).run Tryd.prog W = .ok (.bool (a == a' && b == b')) W := by
  rw [run_eql_struct, run_equalIn_agg W 9999 24 _ _ tplaceStruct tplaceStood]
  by_cases h1 : a = a' <;> by_cases h2 : b = b' <;> simp [go_sem, h1, h2]
theorem may_0 {t : Tr} (h : t.kind = 0) : mayB t = (onlyB t 0 && decide (0 ≤ t.num)) := by
  cases t; simp only [Tr.kind] at h; subst h; rw [mayB, if_pos rfl]; rfl
theorem may_1 {t : Tr} (h : t.kind = 1) : mayB t = (onlyB t 0 && (rightB t.c1 t.r1 && (t.c1 == t.c2 && t.r1 == t.r2))) := by
  cases t; simp only [Tr.kind] at h; subst h; rw [mayB, if_neg (by decide), if_pos rfl]; rfl
theorem may_2 {t : Tr} (h : t.kind = 2) : mayB t = onlyB t 0 := by
  cases t; simp only [Tr.kind] at h; subst h; rw [mayB, if_neg (by decide), if_neg (by decide), if_pos rfl]
theorem may_6 {t : Tr} (h : t.kind = 6) : mayB t = (onlyB t 0 && wholeB t.c1 t.r1 t.c2 t.r2) := by
  cases t; simp only [Tr.kind] at h; subst h; rw [mayB, if_neg (by decide), if_neg (by decide), if_neg (by decide), if_pos rfl]
  unfold wholeB
  simp only [Tr.c1, Tr.r1, Tr.c2, Tr.r2, Bool.and_assoc]
  rfl
theorem may_3 {t : Tr} (h : t.kind = 3) : mayB t = (onlyB t 1 && allB t.kids false false) := by
  cases t; simp only [Tr.kind] at h; subst h; rw [mayB, if_neg (by decide), if_neg (by decide), if_neg (by decide), if_neg (by decide), if_pos rfl]; rfl
theorem may_4 {t : Tr} (h : t.kind = 4) : mayB t = (onlyB t 2 && (allB t.kids false false && decide (1 ≤ lvl t.word))) := by
  cases t; simp only [Tr.kind] at h; subst h; rw [mayB, if_neg (by decide), if_neg (by decide), if_neg (by decide), if_neg (by decide), if_neg (by decide), if_pos rfl]; rfl
theorem may_5 {t : Tr} (h : t.kind = 5) : mayB t = (onlyB t t.kids.length && (allB t.kids (t.word != [73, 70]) (t.word == [67, 79, 85, 78, 84]) && (if t.word = [73, 70] then t.kids.length == 3 else if t.word = [83, 85, 77] ∨ t.word = [77, 73, 78] ∨ t.word = [77, 65, 88] ∨ t.word = [67, 79, 85, 78, 84] then decide (0 < t.kids.length) else false))) := by
  cases t; simp only [Tr.kind] at h; subst h; rw [mayB, if_neg (by decide), if_neg (by decide), if_neg (by decide), if_neg (by decide), if_neg (by decide), if_neg (by decide), if_pos rfl]; rfl
theorem may_no {t : Tr} (h0 : t.kind ≠ 0) (h1 : t.kind ≠ 1) (h2 : t.kind ≠ 2) (h6 : t.kind ≠ 6) (h3 : t.kind ≠ 3) (h4 : t.kind ≠ 4) (h5 : t.kind ≠ 5) : mayB t = false := by
  cases t; simp only [Tr.kind] at *; rw [mayB, if_neg h0, if_neg h1, if_neg h2, if_neg h6, if_neg h3, if_neg h4, if_neg h5]
set_option maxHeartbeats 2000000 in
set_option maxRecDepth 10000 in
theorem rmay_0 (t : Tr) (w : World) (A : Option Addr) (cap : Nat) (h : t.kind = 0) : Calls Tryd.prog 38 #[tv t A cap] w fun e w' => e = .returned (.bool (mayB t)) ∧ Below w.heap.size w w' := by
  unfold tv
  have HO := Lib.hid fun w => ronly_any t A cap 0 w
  unfold tv at HO
  have HM := Lib.hid (may_0 h)
  have s0 : (t.kind == 0) = true := by rw [h]; rfl
  clear h
  generalize onlyB t 0 = O at *
  obtain ⟨D, hD⟩ : ∃ D, decide ((0 : Int) ≤ t.num) = D := ⟨_, rfl⟩
  rw [hD] at HM
  cases O with
  | true =>
    cases D with
    | true =>
      go_enter Tryd.func38, Tryd.ntmps38
      go_wp2_with fail
      refine (HO.out _).mono ?_; rintro e w1 ⟨rfl, b1⟩
      have k10 := keep_fresh b1 0 (v := .int .i64 t.kind) rfl
      have k11 := keep_fresh b1 1 (v := .int .i64 t.num) rfl
      have k12 := keep_fresh b1 2 (v := .int .i64 t.c1) rfl
      have k13 := keep_fresh b1 3 (v := .int .i64 t.r1) rfl
      have k14 := keep_fresh b1 4 (v := .int .i64 t.c2) rfl
      have k15 := keep_fresh b1 5 (v := .int .i64 t.r2) rfl
      have k16 := keep_fresh b1 6 (v := .string ⟨t.word.toArray⟩) rfl
      have k17 := keep_fresh b1 7 (v := .slice A t.kids.length cap) rfl
      have h1 : Below w.heap.size w w1 := ((Below.refl _ _).alloc (Nat.le_refl _) _).trans (b1.mono (by simp))
      clear b1 
      go_wp2_with fail
      go_ret
      exact ⟨by rw [HM.out]; rfl, h1⟩
    | false =>
      go_enter Tryd.func38, Tryd.ntmps38
      go_wp2_with fail
      refine (HO.out _).mono ?_; rintro e w1 ⟨rfl, b1⟩
      have k10 := keep_fresh b1 0 (v := .int .i64 t.kind) rfl
      have k11 := keep_fresh b1 1 (v := .int .i64 t.num) rfl
      have k12 := keep_fresh b1 2 (v := .int .i64 t.c1) rfl
      have k13 := keep_fresh b1 3 (v := .int .i64 t.r1) rfl
      have k14 := keep_fresh b1 4 (v := .int .i64 t.c2) rfl
      have k15 := keep_fresh b1 5 (v := .int .i64 t.r2) rfl
      have k16 := keep_fresh b1 6 (v := .string ⟨t.word.toArray⟩) rfl
      have k17 := keep_fresh b1 7 (v := .slice A t.kids.length cap) rfl
      have h1 : Below w.heap.size w w1 := ((Below.refl _ _).alloc (Nat.le_refl _) _).trans (b1.mono (by simp))
      clear b1 
      go_wp2_with fail
      go_ret
      exact ⟨by rw [HM.out]; rfl, h1⟩
  | false =>
    cases D with
    | true =>
      go_enter Tryd.func38, Tryd.ntmps38
      go_wp2_with fail
      refine (HO.out _).mono ?_; rintro e w1 ⟨rfl, b1⟩
      have k10 := keep_fresh b1 0 (v := .int .i64 t.kind) rfl
      have k11 := keep_fresh b1 1 (v := .int .i64 t.num) rfl
      have k12 := keep_fresh b1 2 (v := .int .i64 t.c1) rfl
      have k13 := keep_fresh b1 3 (v := .int .i64 t.r1) rfl
      have k14 := keep_fresh b1 4 (v := .int .i64 t.c2) rfl
      have k15 := keep_fresh b1 5 (v := .int .i64 t.r2) rfl
      have k16 := keep_fresh b1 6 (v := .string ⟨t.word.toArray⟩) rfl
      have k17 := keep_fresh b1 7 (v := .slice A t.kids.length cap) rfl
      have h1 : Below w.heap.size w w1 := ((Below.refl _ _).alloc (Nat.le_refl _) _).trans (b1.mono (by simp))
      clear b1 
      go_wp2_with fail
      go_ret
      exact ⟨by rw [HM.out]; rfl, h1⟩
    | false =>
      go_enter Tryd.func38, Tryd.ntmps38
      go_wp2_with fail
      refine (HO.out _).mono ?_; rintro e w1 ⟨rfl, b1⟩
      have k10 := keep_fresh b1 0 (v := .int .i64 t.kind) rfl
      have k11 := keep_fresh b1 1 (v := .int .i64 t.num) rfl
      have k12 := keep_fresh b1 2 (v := .int .i64 t.c1) rfl
      have k13 := keep_fresh b1 3 (v := .int .i64 t.r1) rfl
      have k14 := keep_fresh b1 4 (v := .int .i64 t.c2) rfl
      have k15 := keep_fresh b1 5 (v := .int .i64 t.r2) rfl
      have k16 := keep_fresh b1 6 (v := .string ⟨t.word.toArray⟩) rfl
      have k17 := keep_fresh b1 7 (v := .slice A t.kids.length cap) rfl
      have h1 : Below w.heap.size w w1 := ((Below.refl _ _).alloc (Nat.le_refl _) _).trans (b1.mono (by simp))
      clear b1 
      go_wp2_with fail
      go_ret
      exact ⟨by rw [HM.out]; rfl, h1⟩
set_option maxHeartbeats 2000000 in
set_option maxRecDepth 10000 in
theorem rmay_1 (t : Tr) (w : World) (A : Option Addr) (cap : Nat) (h : t.kind = 1) : Calls Tryd.prog 38 #[tv t A cap] w fun e w' => e = .returned (.bool (mayB t)) ∧ Below w.heap.size w w' := by
  unfold tv
  have HO := Lib.hid fun w => ronly_any t A cap 0 w
  unfold tv at HO
  have HM := Lib.hid (may_1 h)
  have s0 : (t.kind == 0) = false := by rw [h]; rfl
  have s1 : (t.kind == 1) = true := by rw [h]; rfl
  clear h
  generalize onlyB t 0 = O at *
  have HRt := Lib.hid (rright_any t.c1 t.r1)
  have hG := fun op X Y W => tguard_place op X Y #[.int .i64 t.c1, .int .i64 t.r1] #[.int .i64 t.c2, .int .i64 t.r2] W
  have hE := teql_place t.c1 t.r1 t.c2 t.r2
  generalize rightB t.c1 t.r1 = RB at *
  obtain ⟨D, hD⟩ : ∃ D, (t.c1 == t.c2 && t.r1 == t.r2) = D := ⟨_, rfl⟩
  rw [hD] at HM
  simp only [hD] at hE
  clear hD
  cases O with
  | true =>
    cases RB with
    | true =>
      cases D with
      | true =>
        go_enter Tryd.func38, Tryd.ntmps38
        go_wp2_with fail
        refine (HO.out _).mono ?_; rintro e w1 ⟨rfl, b1⟩
        have k10 := keep_fresh b1 0 (v := .int .i64 t.kind) rfl
        have k11 := keep_fresh b1 1 (v := .int .i64 t.num) rfl
        have k12 := keep_fresh b1 2 (v := .int .i64 t.c1) rfl
        have k13 := keep_fresh b1 3 (v := .int .i64 t.r1) rfl
        have k14 := keep_fresh b1 4 (v := .int .i64 t.c2) rfl
        have k15 := keep_fresh b1 5 (v := .int .i64 t.r2) rfl
        have k16 := keep_fresh b1 6 (v := .string ⟨t.word.toArray⟩) rfl
        have k17 := keep_fresh b1 7 (v := .slice A t.kids.length cap) rfl
        have h1 : Below w.heap.size w w1 := ((Below.refl _ _).alloc (Nat.le_refl _) _).trans (b1.mono (by simp))
        clear b1 
        go_wp2_with fail
        refine (HRt.out _).mono ?_; rintro e w2 ⟨rfl, b2⟩
        have k20 := keep_cell b2 k10
        have k21 := keep_cell b2 k11
        have k22 := keep_cell b2 k12
        have k23 := keep_cell b2 k13
        have k24 := keep_cell b2 k14
        have k25 := keep_cell b2 k15
        have k26 := keep_cell b2 k16
        have k27 := keep_cell b2 k17
        have h2 := h1.trans (b2.mono h1.size)
        clear b2 k10 k11 k12 k13 k14 k15 k16 k17
        go_wp2_with fail
        go_ret
        exact ⟨by rw [HM.out]; rfl, h2⟩
      | false =>
        go_enter Tryd.func38, Tryd.ntmps38
        go_wp2_with fail
        refine (HO.out _).mono ?_; rintro e w1 ⟨rfl, b1⟩
        have k10 := keep_fresh b1 0 (v := .int .i64 t.kind) rfl
        have k11 := keep_fresh b1 1 (v := .int .i64 t.num) rfl
        have k12 := keep_fresh b1 2 (v := .int .i64 t.c1) rfl
        have k13 := keep_fresh b1 3 (v := .int .i64 t.r1) rfl
        have k14 := keep_fresh b1 4 (v := .int .i64 t.c2) rfl
        have k15 := keep_fresh b1 5 (v := .int .i64 t.r2) rfl
        have k16 := keep_fresh b1 6 (v := .string ⟨t.word.toArray⟩) rfl
        have k17 := keep_fresh b1 7 (v := .slice A t.kids.length cap) rfl
        have h1 : Below w.heap.size w w1 := ((Below.refl _ _).alloc (Nat.le_refl _) _).trans (b1.mono (by simp))
        clear b1 
        go_wp2_with fail
        refine (HRt.out _).mono ?_; rintro e w2 ⟨rfl, b2⟩
        have k20 := keep_cell b2 k10
        have k21 := keep_cell b2 k11
        have k22 := keep_cell b2 k12
        have k23 := keep_cell b2 k13
        have k24 := keep_cell b2 k14
        have k25 := keep_cell b2 k15
        have k26 := keep_cell b2 k16
        have k27 := keep_cell b2 k17
        have h2 := h1.trans (b2.mono h1.size)
        clear b2 k10 k11 k12 k13 k14 k15 k16 k17
        go_wp2_with fail
        go_ret
        exact ⟨by rw [HM.out]; rfl, h2⟩
    | false =>
      cases D with
      | true =>
        go_enter Tryd.func38, Tryd.ntmps38
        go_wp2_with fail
        refine (HO.out _).mono ?_; rintro e w1 ⟨rfl, b1⟩
        have k10 := keep_fresh b1 0 (v := .int .i64 t.kind) rfl
        have k11 := keep_fresh b1 1 (v := .int .i64 t.num) rfl
        have k12 := keep_fresh b1 2 (v := .int .i64 t.c1) rfl
        have k13 := keep_fresh b1 3 (v := .int .i64 t.r1) rfl
        have k14 := keep_fresh b1 4 (v := .int .i64 t.c2) rfl
        have k15 := keep_fresh b1 5 (v := .int .i64 t.r2) rfl
        have k16 := keep_fresh b1 6 (v := .string ⟨t.word.toArray⟩) rfl
        have k17 := keep_fresh b1 7 (v := .slice A t.kids.length cap) rfl
        have h1 : Below w.heap.size w w1 := ((Below.refl _ _).alloc (Nat.le_refl _) _).trans (b1.mono (by simp))
        clear b1 
        go_wp2_with fail
        refine (HRt.out _).mono ?_; rintro e w2 ⟨rfl, b2⟩
        have k20 := keep_cell b2 k10
        have k21 := keep_cell b2 k11
        have k22 := keep_cell b2 k12
        have k23 := keep_cell b2 k13
        have k24 := keep_cell b2 k14
        have k25 := keep_cell b2 k15
        have k26 := keep_cell b2 k16
        have k27 := keep_cell b2 k17
        have h2 := h1.trans (b2.mono h1.size)
        clear b2 k10 k11 k12 k13 k14 k15 k16 k17
        go_wp2_with fail
        go_ret
        exact ⟨by rw [HM.out]; rfl, h2⟩
      | false =>
        go_enter Tryd.func38, Tryd.ntmps38
        go_wp2_with fail
        refine (HO.out _).mono ?_; rintro e w1 ⟨rfl, b1⟩
        have k10 := keep_fresh b1 0 (v := .int .i64 t.kind) rfl
        have k11 := keep_fresh b1 1 (v := .int .i64 t.num) rfl
        have k12 := keep_fresh b1 2 (v := .int .i64 t.c1) rfl
        have k13 := keep_fresh b1 3 (v := .int .i64 t.r1) rfl
        have k14 := keep_fresh b1 4 (v := .int .i64 t.c2) rfl
        have k15 := keep_fresh b1 5 (v := .int .i64 t.r2) rfl
        have k16 := keep_fresh b1 6 (v := .string ⟨t.word.toArray⟩) rfl
        have k17 := keep_fresh b1 7 (v := .slice A t.kids.length cap) rfl
        have h1 : Below w.heap.size w w1 := ((Below.refl _ _).alloc (Nat.le_refl _) _).trans (b1.mono (by simp))
        clear b1 
        go_wp2_with fail
        refine (HRt.out _).mono ?_; rintro e w2 ⟨rfl, b2⟩
        have k20 := keep_cell b2 k10
        have k21 := keep_cell b2 k11
        have k22 := keep_cell b2 k12
        have k23 := keep_cell b2 k13
        have k24 := keep_cell b2 k14
        have k25 := keep_cell b2 k15
        have k26 := keep_cell b2 k16
        have k27 := keep_cell b2 k17
        have h2 := h1.trans (b2.mono h1.size)
        clear b2 k10 k11 k12 k13 k14 k15 k16 k17
        go_wp2_with fail
        go_ret
        exact ⟨by rw [HM.out]; rfl, h2⟩
  | false =>
    cases RB with
    | true =>
      cases D with
      | true =>
        go_enter Tryd.func38, Tryd.ntmps38
        go_wp2_with fail
        refine (HO.out _).mono ?_; rintro e w1 ⟨rfl, b1⟩
        have k10 := keep_fresh b1 0 (v := .int .i64 t.kind) rfl
        have k11 := keep_fresh b1 1 (v := .int .i64 t.num) rfl
        have k12 := keep_fresh b1 2 (v := .int .i64 t.c1) rfl
        have k13 := keep_fresh b1 3 (v := .int .i64 t.r1) rfl
        have k14 := keep_fresh b1 4 (v := .int .i64 t.c2) rfl
        have k15 := keep_fresh b1 5 (v := .int .i64 t.r2) rfl
        have k16 := keep_fresh b1 6 (v := .string ⟨t.word.toArray⟩) rfl
        have k17 := keep_fresh b1 7 (v := .slice A t.kids.length cap) rfl
        have h1 : Below w.heap.size w w1 := ((Below.refl _ _).alloc (Nat.le_refl _) _).trans (b1.mono (by simp))
        clear b1 
        go_wp2_with fail
        refine (HRt.out _).mono ?_; rintro e w2 ⟨rfl, b2⟩
        have k20 := keep_cell b2 k10
        have k21 := keep_cell b2 k11
        have k22 := keep_cell b2 k12
        have k23 := keep_cell b2 k13
        have k24 := keep_cell b2 k14
        have k25 := keep_cell b2 k15
        have k26 := keep_cell b2 k16
        have k27 := keep_cell b2 k17
        have h2 := h1.trans (b2.mono h1.size)
        clear b2 k10 k11 k12 k13 k14 k15 k16 k17
        go_wp2_with fail
        go_ret
        exact ⟨by rw [HM.out]; rfl, h2⟩
      | false =>
        go_enter Tryd.func38, Tryd.ntmps38
        go_wp2_with fail
        refine (HO.out _).mono ?_; rintro e w1 ⟨rfl, b1⟩
        have k10 := keep_fresh b1 0 (v := .int .i64 t.kind) rfl
        have k11 := keep_fresh b1 1 (v := .int .i64 t.num) rfl
        have k12 := keep_fresh b1 2 (v := .int .i64 t.c1) rfl
        have k13 := keep_fresh b1 3 (v := .int .i64 t.r1) rfl
        have k14 := keep_fresh b1 4 (v := .int .i64 t.c2) rfl
        have k15 := keep_fresh b1 5 (v := .int .i64 t.r2) rfl
        have k16 := keep_fresh b1 6 (v := .string ⟨t.word.toArray⟩) rfl
        have k17 := keep_fresh b1 7 (v := .slice A t.kids.length cap) rfl
        have h1 : Below w.heap.size w w1 := ((Below.refl _ _).alloc (Nat.le_refl _) _).trans (b1.mono (by simp))
        clear b1 
        go_wp2_with fail
        refine (HRt.out _).mono ?_; rintro e w2 ⟨rfl, b2⟩
        have k20 := keep_cell b2 k10
        have k21 := keep_cell b2 k11
        have k22 := keep_cell b2 k12
        have k23 := keep_cell b2 k13
        have k24 := keep_cell b2 k14
        have k25 := keep_cell b2 k15
        have k26 := keep_cell b2 k16
        have k27 := keep_cell b2 k17
        have h2 := h1.trans (b2.mono h1.size)
        clear b2 k10 k11 k12 k13 k14 k15 k16 k17
        go_wp2_with fail
        go_ret
        exact ⟨by rw [HM.out]; rfl, h2⟩
    | false =>
      cases D with
      | true =>
        go_enter Tryd.func38, Tryd.ntmps38
        go_wp2_with fail
        refine (HO.out _).mono ?_; rintro e w1 ⟨rfl, b1⟩
        have k10 := keep_fresh b1 0 (v := .int .i64 t.kind) rfl
        have k11 := keep_fresh b1 1 (v := .int .i64 t.num) rfl
        have k12 := keep_fresh b1 2 (v := .int .i64 t.c1) rfl
        have k13 := keep_fresh b1 3 (v := .int .i64 t.r1) rfl
        have k14 := keep_fresh b1 4 (v := .int .i64 t.c2) rfl
        have k15 := keep_fresh b1 5 (v := .int .i64 t.r2) rfl
        have k16 := keep_fresh b1 6 (v := .string ⟨t.word.toArray⟩) rfl
        have k17 := keep_fresh b1 7 (v := .slice A t.kids.length cap) rfl
        have h1 : Below w.heap.size w w1 := ((Below.refl _ _).alloc (Nat.le_refl _) _).trans (b1.mono (by simp))
        clear b1 
        go_wp2_with fail
        refine (HRt.out _).mono ?_; rintro e w2 ⟨rfl, b2⟩
        have k20 := keep_cell b2 k10
        have k21 := keep_cell b2 k11
        have k22 := keep_cell b2 k12
        have k23 := keep_cell b2 k13
        have k24 := keep_cell b2 k14
        have k25 := keep_cell b2 k15
        have k26 := keep_cell b2 k16
        have k27 := keep_cell b2 k17
        have h2 := h1.trans (b2.mono h1.size)
        clear b2 k10 k11 k12 k13 k14 k15 k16 k17
        go_wp2_with fail
        go_ret
        exact ⟨by rw [HM.out]; rfl, h2⟩
      | false =>
        go_enter Tryd.func38, Tryd.ntmps38
        go_wp2_with fail
        refine (HO.out _).mono ?_; rintro e w1 ⟨rfl, b1⟩
        have k10 := keep_fresh b1 0 (v := .int .i64 t.kind) rfl
        have k11 := keep_fresh b1 1 (v := .int .i64 t.num) rfl
        have k12 := keep_fresh b1 2 (v := .int .i64 t.c1) rfl
        have k13 := keep_fresh b1 3 (v := .int .i64 t.r1) rfl
        have k14 := keep_fresh b1 4 (v := .int .i64 t.c2) rfl
        have k15 := keep_fresh b1 5 (v := .int .i64 t.r2) rfl
        have k16 := keep_fresh b1 6 (v := .string ⟨t.word.toArray⟩) rfl
        have k17 := keep_fresh b1 7 (v := .slice A t.kids.length cap) rfl
        have h1 : Below w.heap.size w w1 := ((Below.refl _ _).alloc (Nat.le_refl _) _).trans (b1.mono (by simp))
        clear b1 
        go_wp2_with fail
        refine (HRt.out _).mono ?_; rintro e w2 ⟨rfl, b2⟩
        have k20 := keep_cell b2 k10
        have k21 := keep_cell b2 k11
        have k22 := keep_cell b2 k12
        have k23 := keep_cell b2 k13
        have k24 := keep_cell b2 k14
        have k25 := keep_cell b2 k15
        have k26 := keep_cell b2 k16
        have k27 := keep_cell b2 k17
        have h2 := h1.trans (b2.mono h1.size)
        clear b2 k10 k11 k12 k13 k14 k15 k16 k17
        go_wp2_with fail
        go_ret
        exact ⟨by rw [HM.out]; rfl, h2⟩
set_option maxHeartbeats 2000000 in
set_option maxRecDepth 10000 in
theorem rmay_2 (t : Tr) (w : World) (A : Option Addr) (cap : Nat) (h : t.kind = 2) : Calls Tryd.prog 38 #[tv t A cap] w fun e w' => e = .returned (.bool (mayB t)) ∧ Below w.heap.size w w' := by
  unfold tv
  have HO := Lib.hid fun w => ronly_any t A cap 0 w
  unfold tv at HO
  have HM := Lib.hid (may_2 h)
  have s0 : (t.kind == 0) = false := by rw [h]; rfl
  have s1 : (t.kind == 1) = false := by rw [h]; rfl
  have s2 : (t.kind == 2) = true := by rw [h]; rfl
  clear h
  generalize onlyB t 0 = O at *
  cases O with
  | true =>
    go_enter Tryd.func38, Tryd.ntmps38
    go_wp2_with fail
    refine (HO.out _).mono ?_; rintro e w1 ⟨rfl, b1⟩
    have k10 := keep_fresh b1 0 (v := .int .i64 t.kind) rfl
    have k11 := keep_fresh b1 1 (v := .int .i64 t.num) rfl
    have k12 := keep_fresh b1 2 (v := .int .i64 t.c1) rfl
    have k13 := keep_fresh b1 3 (v := .int .i64 t.r1) rfl
    have k14 := keep_fresh b1 4 (v := .int .i64 t.c2) rfl
    have k15 := keep_fresh b1 5 (v := .int .i64 t.r2) rfl
    have k16 := keep_fresh b1 6 (v := .string ⟨t.word.toArray⟩) rfl
    have k17 := keep_fresh b1 7 (v := .slice A t.kids.length cap) rfl
    have h1 : Below w.heap.size w w1 := ((Below.refl _ _).alloc (Nat.le_refl _) _).trans (b1.mono (by simp))
    clear b1 
    go_wp2_with fail
    go_ret
    exact ⟨by rw [HM.out]; rfl, h1⟩
  | false =>
    go_enter Tryd.func38, Tryd.ntmps38
    go_wp2_with fail
    refine (HO.out _).mono ?_; rintro e w1 ⟨rfl, b1⟩
    have k10 := keep_fresh b1 0 (v := .int .i64 t.kind) rfl
    have k11 := keep_fresh b1 1 (v := .int .i64 t.num) rfl
    have k12 := keep_fresh b1 2 (v := .int .i64 t.c1) rfl
    have k13 := keep_fresh b1 3 (v := .int .i64 t.r1) rfl
    have k14 := keep_fresh b1 4 (v := .int .i64 t.c2) rfl
    have k15 := keep_fresh b1 5 (v := .int .i64 t.r2) rfl
    have k16 := keep_fresh b1 6 (v := .string ⟨t.word.toArray⟩) rfl
    have k17 := keep_fresh b1 7 (v := .slice A t.kids.length cap) rfl
    have h1 : Below w.heap.size w w1 := ((Below.refl _ _).alloc (Nat.le_refl _) _).trans (b1.mono (by simp))
    clear b1 
    go_wp2_with fail
    go_ret
    exact ⟨by rw [HM.out]; rfl, h1⟩
set_option maxHeartbeats 2000000 in
set_option maxRecDepth 10000 in
theorem rmay_6 (t : Tr) (w : World) (A : Option Addr) (cap : Nat) (h : t.kind = 6) : Calls Tryd.prog 38 #[tv t A cap] w fun e w' => e = .returned (.bool (mayB t)) ∧ Below w.heap.size w w' := by
  unfold tv
  have HO := Lib.hid fun w => ronly_any t A cap 0 w
  unfold tv at HO
  have HM := Lib.hid (may_6 h)
  have s0 : (t.kind == 0) = false := by rw [h]; rfl
  have s1 : (t.kind == 1) = false := by rw [h]; rfl
  have s2 : (t.kind == 2) = false := by rw [h]; rfl
  have s6 : (t.kind == 6) = true := by rw [h]; rfl
  clear h
  generalize onlyB t 0 = O at *
  have HWh := Lib.hid (rwhole_any t.c1 t.r1 t.c2 t.r2)
  generalize wholeB t.c1 t.r1 t.c2 t.r2 = RB at *
  cases O with
  | true =>
    cases RB with
    | true =>
      go_enter Tryd.func38, Tryd.ntmps38
      go_wp2_with fail
      refine (HO.out _).mono ?_; rintro e w1 ⟨rfl, b1⟩
      have k10 := keep_fresh b1 0 (v := .int .i64 t.kind) rfl
      have k11 := keep_fresh b1 1 (v := .int .i64 t.num) rfl
      have k12 := keep_fresh b1 2 (v := .int .i64 t.c1) rfl
      have k13 := keep_fresh b1 3 (v := .int .i64 t.r1) rfl
      have k14 := keep_fresh b1 4 (v := .int .i64 t.c2) rfl
      have k15 := keep_fresh b1 5 (v := .int .i64 t.r2) rfl
      have k16 := keep_fresh b1 6 (v := .string ⟨t.word.toArray⟩) rfl
      have k17 := keep_fresh b1 7 (v := .slice A t.kids.length cap) rfl
      have h1 : Below w.heap.size w w1 := ((Below.refl _ _).alloc (Nat.le_refl _) _).trans (b1.mono (by simp))
      clear b1 
      go_wp2_with fail
      refine (HWh.out _).mono ?_; rintro e w2 ⟨rfl, b2⟩
      have k20 := keep_cell b2 k10
      have k21 := keep_cell b2 k11
      have k22 := keep_cell b2 k12
      have k23 := keep_cell b2 k13
      have k24 := keep_cell b2 k14
      have k25 := keep_cell b2 k15
      have k26 := keep_cell b2 k16
      have k27 := keep_cell b2 k17
      have h2 := h1.trans (b2.mono h1.size)
      clear b2 k10 k11 k12 k13 k14 k15 k16 k17
      go_wp2_with fail
      go_ret
      exact ⟨by rw [HM.out]; rfl, h2⟩
    | false =>
      go_enter Tryd.func38, Tryd.ntmps38
      go_wp2_with fail
      refine (HO.out _).mono ?_; rintro e w1 ⟨rfl, b1⟩
      have k10 := keep_fresh b1 0 (v := .int .i64 t.kind) rfl
      have k11 := keep_fresh b1 1 (v := .int .i64 t.num) rfl
      have k12 := keep_fresh b1 2 (v := .int .i64 t.c1) rfl
      have k13 := keep_fresh b1 3 (v := .int .i64 t.r1) rfl
      have k14 := keep_fresh b1 4 (v := .int .i64 t.c2) rfl
      have k15 := keep_fresh b1 5 (v := .int .i64 t.r2) rfl
      have k16 := keep_fresh b1 6 (v := .string ⟨t.word.toArray⟩) rfl
      have k17 := keep_fresh b1 7 (v := .slice A t.kids.length cap) rfl
      have h1 : Below w.heap.size w w1 := ((Below.refl _ _).alloc (Nat.le_refl _) _).trans (b1.mono (by simp))
      clear b1 
      go_wp2_with fail
      refine (HWh.out _).mono ?_; rintro e w2 ⟨rfl, b2⟩
      have k20 := keep_cell b2 k10
      have k21 := keep_cell b2 k11
      have k22 := keep_cell b2 k12
      have k23 := keep_cell b2 k13
      have k24 := keep_cell b2 k14
      have k25 := keep_cell b2 k15
      have k26 := keep_cell b2 k16
      have k27 := keep_cell b2 k17
      have h2 := h1.trans (b2.mono h1.size)
      clear b2 k10 k11 k12 k13 k14 k15 k16 k17
      go_wp2_with fail
      go_ret
      exact ⟨by rw [HM.out]; rfl, h2⟩
  | false =>
    cases RB with
    | true =>
      go_enter Tryd.func38, Tryd.ntmps38
      go_wp2_with fail
      refine (HO.out _).mono ?_; rintro e w1 ⟨rfl, b1⟩
      have k10 := keep_fresh b1 0 (v := .int .i64 t.kind) rfl
      have k11 := keep_fresh b1 1 (v := .int .i64 t.num) rfl
      have k12 := keep_fresh b1 2 (v := .int .i64 t.c1) rfl
      have k13 := keep_fresh b1 3 (v := .int .i64 t.r1) rfl
      have k14 := keep_fresh b1 4 (v := .int .i64 t.c2) rfl
      have k15 := keep_fresh b1 5 (v := .int .i64 t.r2) rfl
      have k16 := keep_fresh b1 6 (v := .string ⟨t.word.toArray⟩) rfl
      have k17 := keep_fresh b1 7 (v := .slice A t.kids.length cap) rfl
      have h1 : Below w.heap.size w w1 := ((Below.refl _ _).alloc (Nat.le_refl _) _).trans (b1.mono (by simp))
      clear b1 
      go_wp2_with fail
      refine (HWh.out _).mono ?_; rintro e w2 ⟨rfl, b2⟩
      have k20 := keep_cell b2 k10
      have k21 := keep_cell b2 k11
      have k22 := keep_cell b2 k12
      have k23 := keep_cell b2 k13
      have k24 := keep_cell b2 k14
      have k25 := keep_cell b2 k15
      have k26 := keep_cell b2 k16
      have k27 := keep_cell b2 k17
      have h2 := h1.trans (b2.mono h1.size)
      clear b2 k10 k11 k12 k13 k14 k15 k16 k17
      go_wp2_with fail
      go_ret
      exact ⟨by rw [HM.out]; rfl, h2⟩
    | false =>
      go_enter Tryd.func38, Tryd.ntmps38
      go_wp2_with fail
      refine (HO.out _).mono ?_; rintro e w1 ⟨rfl, b1⟩
      have k10 := keep_fresh b1 0 (v := .int .i64 t.kind) rfl
      have k11 := keep_fresh b1 1 (v := .int .i64 t.num) rfl
      have k12 := keep_fresh b1 2 (v := .int .i64 t.c1) rfl
      have k13 := keep_fresh b1 3 (v := .int .i64 t.r1) rfl
      have k14 := keep_fresh b1 4 (v := .int .i64 t.c2) rfl
      have k15 := keep_fresh b1 5 (v := .int .i64 t.r2) rfl
      have k16 := keep_fresh b1 6 (v := .string ⟨t.word.toArray⟩) rfl
      have k17 := keep_fresh b1 7 (v := .slice A t.kids.length cap) rfl
      have h1 : Below w.heap.size w w1 := ((Below.refl _ _).alloc (Nat.le_refl _) _).trans (b1.mono (by simp))
      clear b1 
      go_wp2_with fail
      refine (HWh.out _).mono ?_; rintro e w2 ⟨rfl, b2⟩
      have k20 := keep_cell b2 k10
      have k21 := keep_cell b2 k11
      have k22 := keep_cell b2 k12
      have k23 := keep_cell b2 k13
      have k24 := keep_cell b2 k14
      have k25 := keep_cell b2 k15
      have k26 := keep_cell b2 k16
      have k27 := keep_cell b2 k17
      have h2 := h1.trans (b2.mono h1.size)
      clear b2 k10 k11 k12 k13 k14 k15 k16 k17
      go_wp2_with fail
      go_ret
      exact ⟨by rw [HM.out]; rfl, h2⟩
set_option maxHeartbeats 2000000 in
set_option maxRecDepth 10000 in
theorem rmay_3 (t : Tr) (w : World) (A : Option Addr) (cap : Nat) {d : Nat} (ih : MayC d) (hd : deepL t.kids ≤ d) (hw : Wid t) (P : Nat → Prop) (hk : KV w P t A) (h : t.kind = 3) : Calls Tryd.prog 38 #[tv t A cap] w fun e w' => e = .returned (.bool (mayB t)) ∧ Below w.heap.size w w' := by
  unfold tv
  have HO := Lib.hid fun w => ronly_any t A cap 1 w
  unfold tv at HO
  have HM := Lib.hid (may_3 h)
  have s0 : (t.kind == 0) = false := by rw [h]; rfl
  have s1 : (t.kind == 1) = false := by rw [h]; rfl
  have s2 : (t.kind == 2) = false := by rw [h]; rfl
  have s6 : (t.kind == 6) = false := by rw [h]; rfl
  have s3 : (t.kind == 3) = true := by rw [h]; rfl
  clear h
  have HK := Lib.hid hk
  have HAl := Lib.hid fun (a b : Bool) (w : World) (P : Nat → Prop) hk => rall_any ih t hd hw a b w P A cap hk
  unfold tv at HAl
  clear ih hd hw hk
  generalize onlyB t 1 = O at *
  have HA2 := Lib.hid (HAl.out false false)
  clear HAl
  generalize allB t.kids false false = RB at *
  cases O with
  | true =>
    cases RB with
    | true =>
      go_enter Tryd.func38, Tryd.ntmps38
      go_wp2_with fail
      refine (HO.out _).mono ?_; rintro e w1 ⟨rfl, b1⟩
      have k10 := keep_fresh b1 0 (v := .int .i64 t.kind) rfl
      have k11 := keep_fresh b1 1 (v := .int .i64 t.num) rfl
      have k12 := keep_fresh b1 2 (v := .int .i64 t.c1) rfl
      have k13 := keep_fresh b1 3 (v := .int .i64 t.r1) rfl
      have k14 := keep_fresh b1 4 (v := .int .i64 t.c2) rfl
      have k15 := keep_fresh b1 5 (v := .int .i64 t.r2) rfl
      have k16 := keep_fresh b1 6 (v := .string ⟨t.word.toArray⟩) rfl
      have k17 := keep_fresh b1 7 (v := .slice A t.kids.length cap) rfl
      have h1 : Below w.heap.size w w1 := ((Below.refl _ _).alloc (Nat.le_refl _) _).trans (b1.mono (by simp))
      clear b1 
      go_wp2_with fail
      refine (HA2.out _ _ (HK.out.kept (Kept.of_below h1))).mono ?_; rintro e w2 ⟨rfl, b2⟩
      have k20 := keep_cell b2 k10
      have k21 := keep_cell b2 k11
      have k22 := keep_cell b2 k12
      have k23 := keep_cell b2 k13
      have k24 := keep_cell b2 k14
      have k25 := keep_cell b2 k15
      have k26 := keep_cell b2 k16
      have k27 := keep_cell b2 k17
      have h2 := h1.trans (b2.mono h1.size)
      clear b2 k10 k11 k12 k13 k14 k15 k16 k17
      go_wp2_with fail
      go_ret
      exact ⟨by rw [HM.out]; rfl, h2⟩
    | false =>
      go_enter Tryd.func38, Tryd.ntmps38
      go_wp2_with fail
      refine (HO.out _).mono ?_; rintro e w1 ⟨rfl, b1⟩
      have k10 := keep_fresh b1 0 (v := .int .i64 t.kind) rfl
      have k11 := keep_fresh b1 1 (v := .int .i64 t.num) rfl
      have k12 := keep_fresh b1 2 (v := .int .i64 t.c1) rfl
      have k13 := keep_fresh b1 3 (v := .int .i64 t.r1) rfl
      have k14 := keep_fresh b1 4 (v := .int .i64 t.c2) rfl
      have k15 := keep_fresh b1 5 (v := .int .i64 t.r2) rfl
      have k16 := keep_fresh b1 6 (v := .string ⟨t.word.toArray⟩) rfl
      have k17 := keep_fresh b1 7 (v := .slice A t.kids.length cap) rfl
      have h1 : Below w.heap.size w w1 := ((Below.refl _ _).alloc (Nat.le_refl _) _).trans (b1.mono (by simp))
      clear b1 
      go_wp2_with fail
      refine (HA2.out _ _ (HK.out.kept (Kept.of_below h1))).mono ?_; rintro e w2 ⟨rfl, b2⟩
      have k20 := keep_cell b2 k10
      have k21 := keep_cell b2 k11
      have k22 := keep_cell b2 k12
      have k23 := keep_cell b2 k13
      have k24 := keep_cell b2 k14
      have k25 := keep_cell b2 k15
      have k26 := keep_cell b2 k16
      have k27 := keep_cell b2 k17
      have h2 := h1.trans (b2.mono h1.size)
      clear b2 k10 k11 k12 k13 k14 k15 k16 k17
      go_wp2_with fail
      go_ret
      exact ⟨by rw [HM.out]; rfl, h2⟩
  | false =>
    cases RB with
    | true =>
      go_enter Tryd.func38, Tryd.ntmps38
      go_wp2_with fail
      refine (HO.out _).mono ?_; rintro e w1 ⟨rfl, b1⟩
      have k10 := keep_fresh b1 0 (v := .int .i64 t.kind) rfl
      have k11 := keep_fresh b1 1 (v := .int .i64 t.num) rfl
      have k12 := keep_fresh b1 2 (v := .int .i64 t.c1) rfl
      have k13 := keep_fresh b1 3 (v := .int .i64 t.r1) rfl
      have k14 := keep_fresh b1 4 (v := .int .i64 t.c2) rfl
      have k15 := keep_fresh b1 5 (v := .int .i64 t.r2) rfl
      have k16 := keep_fresh b1 6 (v := .string ⟨t.word.toArray⟩) rfl
      have k17 := keep_fresh b1 7 (v := .slice A t.kids.length cap) rfl
      have h1 : Below w.heap.size w w1 := ((Below.refl _ _).alloc (Nat.le_refl _) _).trans (b1.mono (by simp))
      clear b1 
      go_wp2_with fail
      refine (HA2.out _ _ (HK.out.kept (Kept.of_below h1))).mono ?_; rintro e w2 ⟨rfl, b2⟩
      have k20 := keep_cell b2 k10
      have k21 := keep_cell b2 k11
      have k22 := keep_cell b2 k12
      have k23 := keep_cell b2 k13
      have k24 := keep_cell b2 k14
      have k25 := keep_cell b2 k15
      have k26 := keep_cell b2 k16
      have k27 := keep_cell b2 k17
      have h2 := h1.trans (b2.mono h1.size)
      clear b2 k10 k11 k12 k13 k14 k15 k16 k17
      go_wp2_with fail
      go_ret
      exact ⟨by rw [HM.out]; rfl, h2⟩
    | false =>
      go_enter Tryd.func38, Tryd.ntmps38
      go_wp2_with fail
      refine (HO.out _).mono ?_; rintro e w1 ⟨rfl, b1⟩
      have k10 := keep_fresh b1 0 (v := .int .i64 t.kind) rfl
      have k11 := keep_fresh b1 1 (v := .int .i64 t.num) rfl
      have k12 := keep_fresh b1 2 (v := .int .i64 t.c1) rfl
      have k13 := keep_fresh b1 3 (v := .int .i64 t.r1) rfl
      have k14 := keep_fresh b1 4 (v := .int .i64 t.c2) rfl
      have k15 := keep_fresh b1 5 (v := .int .i64 t.r2) rfl
      have k16 := keep_fresh b1 6 (v := .string ⟨t.word.toArray⟩) rfl
      have k17 := keep_fresh b1 7 (v := .slice A t.kids.length cap) rfl
      have h1 : Below w.heap.size w w1 := ((Below.refl _ _).alloc (Nat.le_refl _) _).trans (b1.mono (by simp))
      clear b1 
      go_wp2_with fail
      refine (HA2.out _ _ (HK.out.kept (Kept.of_below h1))).mono ?_; rintro e w2 ⟨rfl, b2⟩
      have k20 := keep_cell b2 k10
      have k21 := keep_cell b2 k11
      have k22 := keep_cell b2 k12
      have k23 := keep_cell b2 k13
      have k24 := keep_cell b2 k14
      have k25 := keep_cell b2 k15
      have k26 := keep_cell b2 k16
      have k27 := keep_cell b2 k17
      have h2 := h1.trans (b2.mono h1.size)
      clear b2 k10 k11 k12 k13 k14 k15 k16 k17
      go_wp2_with fail
      go_ret
      exact ⟨by rw [HM.out]; rfl, h2⟩
set_option maxHeartbeats 2000000 in
set_option maxRecDepth 10000 in
theorem rmay_4 (t : Tr) (w : World) (A : Option Addr) (cap : Nat) {d : Nat} (ih : MayC d) (hd : deepL t.kids ≤ d) (hw : Wid t) (P : Nat → Prop) (hk : KV w P t A) (h : t.kind = 4) : Calls Tryd.prog 38 #[tv t A cap] w fun e w' => e = .returned (.bool (mayB t)) ∧ Below w.heap.size w w' := by
  unfold tv
  have HO := Lib.hid fun w => ronly_any t A cap 2 w
  unfold tv at HO
  have HM := Lib.hid (may_4 h)
  have s0 : (t.kind == 0) = false := by rw [h]; rfl
  have s1 : (t.kind == 1) = false := by rw [h]; rfl
  have s2 : (t.kind == 2) = false := by rw [h]; rfl
  have s6 : (t.kind == 6) = false := by rw [h]; rfl
  have s3 : (t.kind == 3) = false := by rw [h]; rfl
  have s4 : (t.kind == 4) = true := by rw [h]; rfl
  clear h
  have HK := Lib.hid hk
  have HAl := Lib.hid fun (a b : Bool) (w : World) (P : Nat → Prop) hk => rall_any ih t hd hw a b w P A cap hk
  unfold tv at HAl
  clear ih hd hw hk
  generalize onlyB t 2 = O at *
  have HA2 := Lib.hid (HAl.out false false)
  clear HAl
  generalize allB t.kids false false = RB at *
  have HLv := Lib.hid (rLevel_any ⟨t.word.toArray⟩)
  have e9 : (⟨t.word.toArray⟩ : ByteArray).data.toList = t.word := by simp
  rw [e9] at HLv
  clear e9
  obtain ⟨D, hD⟩ : ∃ D, decide (1 ≤ lvl t.word) = D := ⟨_, rfl⟩
  rw [hD] at HM
  have hD2 : decide (0 < lvl t.word) = D := hD
  clear hD
  cases O with
  | true =>
    cases RB with
    | true =>
      go_enter Tryd.func38, Tryd.ntmps38
      go_wp2_with fail
      refine (HO.out _).mono ?_; rintro e w1 ⟨rfl, b1⟩
      have k10 := keep_fresh b1 0 (v := .int .i64 t.kind) rfl
      have k11 := keep_fresh b1 1 (v := .int .i64 t.num) rfl
      have k12 := keep_fresh b1 2 (v := .int .i64 t.c1) rfl
      have k13 := keep_fresh b1 3 (v := .int .i64 t.r1) rfl
      have k14 := keep_fresh b1 4 (v := .int .i64 t.c2) rfl
      have k15 := keep_fresh b1 5 (v := .int .i64 t.r2) rfl
      have k16 := keep_fresh b1 6 (v := .string ⟨t.word.toArray⟩) rfl
      have k17 := keep_fresh b1 7 (v := .slice A t.kids.length cap) rfl
      have h1 : Below w.heap.size w w1 := ((Below.refl _ _).alloc (Nat.le_refl _) _).trans (b1.mono (by simp))
      clear b1 
      go_wp2_with fail
      refine (HA2.out _ _ (HK.out.kept (Kept.of_below h1))).mono ?_; rintro e w2 ⟨rfl, b2⟩
      have k20 := keep_cell b2 k10
      have k21 := keep_cell b2 k11
      have k22 := keep_cell b2 k12
      have k23 := keep_cell b2 k13
      have k24 := keep_cell b2 k14
      have k25 := keep_cell b2 k15
      have k26 := keep_cell b2 k16
      have k27 := keep_cell b2 k17
      have h2 := h1.trans (b2.mono h1.size)
      clear b2 k10 k11 k12 k13 k14 k15 k16 k17
      go_wp2_with fail
      refine (HLv.out _).mono ?_; rintro e v ⟨rfl, rfl⟩
      go_wp2_with fail
      go_ret
      exact ⟨by rw [HM.out]; rfl, h2⟩
    | false =>
      go_enter Tryd.func38, Tryd.ntmps38
      go_wp2_with fail
      refine (HO.out _).mono ?_; rintro e w1 ⟨rfl, b1⟩
      have k10 := keep_fresh b1 0 (v := .int .i64 t.kind) rfl
      have k11 := keep_fresh b1 1 (v := .int .i64 t.num) rfl
      have k12 := keep_fresh b1 2 (v := .int .i64 t.c1) rfl
      have k13 := keep_fresh b1 3 (v := .int .i64 t.r1) rfl
      have k14 := keep_fresh b1 4 (v := .int .i64 t.c2) rfl
      have k15 := keep_fresh b1 5 (v := .int .i64 t.r2) rfl
      have k16 := keep_fresh b1 6 (v := .string ⟨t.word.toArray⟩) rfl
      have k17 := keep_fresh b1 7 (v := .slice A t.kids.length cap) rfl
      have h1 : Below w.heap.size w w1 := ((Below.refl _ _).alloc (Nat.le_refl _) _).trans (b1.mono (by simp))
      clear b1 
      go_wp2_with fail
      refine (HA2.out _ _ (HK.out.kept (Kept.of_below h1))).mono ?_; rintro e w2 ⟨rfl, b2⟩
      have k20 := keep_cell b2 k10
      have k21 := keep_cell b2 k11
      have k22 := keep_cell b2 k12
      have k23 := keep_cell b2 k13
      have k24 := keep_cell b2 k14
      have k25 := keep_cell b2 k15
      have k26 := keep_cell b2 k16
      have k27 := keep_cell b2 k17
      have h2 := h1.trans (b2.mono h1.size)
      clear b2 k10 k11 k12 k13 k14 k15 k16 k17
      go_wp2_with fail
      go_ret
      exact ⟨by rw [HM.out]; rfl, h2⟩
  | false =>
    cases RB with
    | true =>
      go_enter Tryd.func38, Tryd.ntmps38
      go_wp2_with fail
      refine (HO.out _).mono ?_; rintro e w1 ⟨rfl, b1⟩
      have k10 := keep_fresh b1 0 (v := .int .i64 t.kind) rfl
      have k11 := keep_fresh b1 1 (v := .int .i64 t.num) rfl
      have k12 := keep_fresh b1 2 (v := .int .i64 t.c1) rfl
      have k13 := keep_fresh b1 3 (v := .int .i64 t.r1) rfl
      have k14 := keep_fresh b1 4 (v := .int .i64 t.c2) rfl
      have k15 := keep_fresh b1 5 (v := .int .i64 t.r2) rfl
      have k16 := keep_fresh b1 6 (v := .string ⟨t.word.toArray⟩) rfl
      have k17 := keep_fresh b1 7 (v := .slice A t.kids.length cap) rfl
      have h1 : Below w.heap.size w w1 := ((Below.refl _ _).alloc (Nat.le_refl _) _).trans (b1.mono (by simp))
      clear b1 
      go_wp2_with fail
      refine (HA2.out _ _ (HK.out.kept (Kept.of_below h1))).mono ?_; rintro e w2 ⟨rfl, b2⟩
      have k20 := keep_cell b2 k10
      have k21 := keep_cell b2 k11
      have k22 := keep_cell b2 k12
      have k23 := keep_cell b2 k13
      have k24 := keep_cell b2 k14
      have k25 := keep_cell b2 k15
      have k26 := keep_cell b2 k16
      have k27 := keep_cell b2 k17
      have h2 := h1.trans (b2.mono h1.size)
      clear b2 k10 k11 k12 k13 k14 k15 k16 k17
      go_wp2_with fail
      go_ret
      exact ⟨by rw [HM.out]; rfl, h2⟩
    | false =>
      go_enter Tryd.func38, Tryd.ntmps38
      go_wp2_with fail
      refine (HO.out _).mono ?_; rintro e w1 ⟨rfl, b1⟩
      have k10 := keep_fresh b1 0 (v := .int .i64 t.kind) rfl
      have k11 := keep_fresh b1 1 (v := .int .i64 t.num) rfl
      have k12 := keep_fresh b1 2 (v := .int .i64 t.c1) rfl
      have k13 := keep_fresh b1 3 (v := .int .i64 t.r1) rfl
      have k14 := keep_fresh b1 4 (v := .int .i64 t.c2) rfl
      have k15 := keep_fresh b1 5 (v := .int .i64 t.r2) rfl
      have k16 := keep_fresh b1 6 (v := .string ⟨t.word.toArray⟩) rfl
      have k17 := keep_fresh b1 7 (v := .slice A t.kids.length cap) rfl
      have h1 : Below w.heap.size w w1 := ((Below.refl _ _).alloc (Nat.le_refl _) _).trans (b1.mono (by simp))
      clear b1 
      go_wp2_with fail
      refine (HA2.out _ _ (HK.out.kept (Kept.of_below h1))).mono ?_; rintro e w2 ⟨rfl, b2⟩
      have k20 := keep_cell b2 k10
      have k21 := keep_cell b2 k11
      have k22 := keep_cell b2 k12
      have k23 := keep_cell b2 k13
      have k24 := keep_cell b2 k14
      have k25 := keep_cell b2 k15
      have k26 := keep_cell b2 k16
      have k27 := keep_cell b2 k17
      have h2 := h1.trans (b2.mono h1.size)
      clear b2 k10 k11 k12 k13 k14 k15 k16 k17
      go_wp2_with fail
      go_ret
      exact ⟨by rw [HM.out]; rfl, h2⟩
end Go.Proofs.YthaoalmhhgllmaaDoor
namespace Go.Proofs.YthaoalmhhgllmaaDoor
open Go.RowKit
theorem kids_3 {t : Tr} (hm : mayB t = true) (h : t.kind = 3) : ∃ a, t.kids = [a] := by
  rw [may_3 h, Bool.and_eq_true] at hm
  obtain ⟨k, n, c, r, d, s, w, ks⟩ := t
  have h1 := hm.1
  unfold onlyB at h1
  simp only [Bool.and_eq_true, beq_iff_eq] at h1
  exact List.length_eq_one_iff.1 h1.2.2.2
theorem kids_4 {t : Tr} (hm : mayB t = true) (h : t.kind = 4) : ∃ a b, t.kids = [a, b] := by
  rw [may_4 h, Bool.and_eq_true] at hm
  obtain ⟨k, n, c, r, d, s, w, ks⟩ := t
  have h1 := hm.1
  unfold onlyB at h1
  simp only [Bool.and_eq_true, beq_iff_eq] at h1
  have h2 := h1.2.2.2
  show ∃ a b, ks = [a, b]
  match ks, h2 with
  | [a, b], _ => exact ⟨a, b, rfl⟩
theorem kids_5 {t : Tr} (hm : mayB t = true) (h : t.kind = 5) : (t.word = [73, 70] ∧ ∃ a b c, t.kids = [a, b, c]) ∨ t.word = [83, 85, 77] ∨ t.word = [77, 73, 78] ∨ t.word = [77, 65, 88] ∨ t.word = [67, 79, 85, 78, 84] := by
  rw [may_5 h, Bool.and_eq_true, Bool.and_eq_true] at hm
  have h2 := hm.2.2
  by_cases hw : t.word = [73, 70]
  · rw [if_pos hw, beq_iff_eq] at h2
    refine .inl ⟨hw, ?_⟩
    obtain ⟨k, n, c, r, d, s, w, ks⟩ := t
    show ∃ a b c, ks = [a, b, c]
    match ks, h2 with
    | [a, b, c], _ => exact ⟨a, b, c, rfl⟩
  · rw [if_neg hw] at h2
    split at h2
    · rename_i h3; exact .inr h3
    · cases h2
end Go.Proofs.YthaoalmhhgllmaaDoor
