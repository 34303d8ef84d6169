/- Texts joined: TrW, CeD. -/
import Derived.Test.YthaoalmhhgllmaaDoorMb10
import Derived.Test.YthaoalmhhgllmaaDoorMb02
import Derived.Test.YthaoalmhhgllmaaDoorMb09
set_option linter.all false
namespace Go.Proofs.YthaoalmhhgllmaaDoor
open Go.RowKit
theorem tplaceGuard : Tryd.prog.eqGuardType Tryd.prog.depth 24 = false := by kernel_rfl
theorem tplaceStood : Tryd.prog.stoodInHeld 24 = false := by kernel_rfl
theorem tplaceStruct : Tryd.prog.underlying 24 = some (.struct (Tryd.prog.fieldsOf 24)) := by kernel_rfl
theorem tguard_place (op : BinOp) (X Y : Operand) (xs ys : Array Value) (W : World) : (eqGuard op 24 X Y (.agg xs) (.agg ys)).run Tryd.prog W = .ok () W := run_eqGuard_agg W op 24 X Y xs ys tplaceGuard
set_option maxHeartbeats 2000000 in
theorem teql_place (a b a' b' : Int) (W : World) : (binOp .eql 24 (.agg #[.int .i64 a, .int .i64 b]) (.agg #[.int .i64 a', .int .i64 b'])).run Tryd.prog W = .ok (.bool (a == a' && b == b')) W := by
  rw [run_eql_struct, run_equalIn_agg W 9999 24 _ _ tplaceStruct tplaceStood]
  by_cases h1 : a = a' <;> by_cases h2 : b = b' <;> simp [go_sem, h1, h2]
theorem may_0 {t : Tr} (h : t.kind = 0) : mayB t = (onlyB t 0 && decide (0 ≤ t.num)) := by
  cases t; simp only [Tr.kind] at h; subst h; rw [mayB, if_pos rfl]; rfl
theorem may_1 {t : Tr} (h : t.kind = 1) : mayB t = (onlyB t 0 && (rightB t.c1 t.r1 && (t.c1 == t.c2 && t.r1 == t.r2))) := by
  cases t; simp only [Tr.kind] at h; subst h; rw [mayB, if_neg (by decide), if_pos rfl]; rfl
theorem may_2 {t : Tr} (h : t.kind = 2) : mayB t = onlyB t 0 := by
  cases t; simp only [Tr.kind] at h; subst h; rw [mayB, if_neg (by decide), if_neg (by decide), if_pos rfl]
theorem may_6 {t : Tr} (h : t.kind = 6) : mayB t = (onlyB t 0 && wholeB t.c1 t.r1 t.c2 t.r2) := by
  cases t; simp only [Tr.kind] at h; subst h; rw [mayB, if_neg (by decide), if_neg (by decide), if_neg (by decide), if_pos rfl]
  unfold wholeB
  simp only [Tr.c1, Tr.r1, Tr.c2, Tr.r2, Bool.and_assoc]
  rfl
theorem may_3 {t : Tr} (h : t.kind = 3) : mayB t = (onlyB t 1 && allB t.kids false false) := by
  cases t; simp only [Tr.kind] at h; subst h; rw [mayB, if_neg (by decide), if_neg (by decide), if_neg (by decide), if_neg (by decide), if_pos rfl]; rfl
theorem may_4 {t : Tr} (h : t.kind = 4) : mayB t = (onlyB t 2 && (allB t.kids false false && decide (1 ≤ lvl t.word))) := by
  cases t; simp only [Tr.kind] at h; subst h; rw [mayB, if_neg (by decide), if_neg (by decide), if_neg (by decide), if_neg (by decide), if_neg (by decide), if_pos rfl]; rfl
theorem may_5 {t : Tr} (h : t.kind = 5) : mayB t = (onlyB t t.kids.length && (allB t.kids (t.word != [73, 70]) (t.word == [67, 79, 85, 78, 84]) && (if t.word = [73, 70] then t.kids.length == 3 else if t.word = [83, 85, 77] ∨ t.word = [77, 73, 78] ∨ t.word = [77, 65, 88] ∨ t.word = [67, 79, 85, 78, 84] then decide (0 < t.kids.length) else false))) := by
  cases t; simp only [Tr.kind] at h; subst h; rw [mayB, if_neg (by decide), if_neg (by decide), if_neg (by decide), if_neg (by decide), if_neg (by decide), if_neg (by decide), if_pos rfl]; rfl
theorem may_no {t : Tr} (h0 : t.kind ≠ 0) (h1 : t.kind ≠ 1) (h2 : t.kind ≠ 2) (h6 : t.kind ≠ 6) (h3 : t.kind ≠ 3) (h4 : t.kind ≠ 4) (h5 : t.kind ≠ 5) : mayB t = false := by
  cases t; simp only [Tr.kind] at *; rw [mayB, if_neg h0, if_neg h1, if_neg h2, if_neg h6, if_neg h3, if_neg h4, if_neg h5]
set_option maxHeartbeats 2000000 in
set_option maxRecDepth 10000 in
theorem rmay_0 (t : Tr) (w : World) (A : Option Addr) (cap : Nat) (h : t.kind = 0) : Calls Tryd.prog 38 #[tv t A cap] w fun e w' => e = .returned (.bool (mayB t)) ∧ Below w.heap.size w w' := by
  unfold tv
  have HO := Lib.hid fun w => ronly_any t A cap 0 w
  unfold tv at HO
  have HM := Lib.hid (may_0 h)
  have s0 : (t.kind == 0) = true := by rw [h]; rfl
  clear h
  generalize onlyB t 0 = O at *
  obtain ⟨D, hD⟩ : ∃ D, decide ((0 : Int) ≤ t.num) = D := ⟨_, rfl⟩
  rw [hD] at HM
  cases O with
  | true =>
    cases D with
    | true =>
      go_enter Tryd.func38, Tryd.ntmps38
      go_wp2_with fail
      refine (HO.out _).mono ?_; rintro e w1 ⟨rfl, b1⟩
      have k10 := keep_fresh b1 0 (v := .int .i64 t.kind) rfl
      have k11 := keep_fresh b1 1 (v := .int .i64 t.num) rfl
      have k12 := keep_fresh b1 2 (v := .int .i64 t.c1) rfl
      have k13 := keep_fresh b1 3 (v := .int .i64 t.r1) rfl
      have k14 := keep_fresh b1 4 (v := .int .i64 t.c2) rfl
      have k15 := keep_fresh b1 5 (v := .int .i64 t.r2) rfl
      have k16 := keep_fresh b1 6 (v := .string ⟨t.word.toArray⟩) rfl
      have k17 := keep_fresh b1 7 (v := .slice A t.kids.length cap) rfl
      have h1 : Below w.heap.size w w1 := ((Below.refl _ _).alloc (Nat.le_refl _) _).trans (b1.mono (by simp))
      clear b1 
      go_wp2_with fail
      go_ret
      exact ⟨by rw [HM.out]; rfl, h1⟩
    | false =>
      go_enter Tryd.func38, Tryd.ntmps38
      go_wp2_with fail
      refine (HO.out _).mono ?_; rintro e w1 ⟨rfl, b1⟩
      have k10 := keep_fresh b1 0 (v := .int .i64 t.kind) rfl
      have k11 := keep_fresh b1 1 (v := .int .i64 t.num) rfl
      have k12 := keep_fresh b1 2 (v := .int .i64 t.c1) rfl
      have k13 := keep_fresh b1 3 (v := .int .i64 t.r1) rfl
      have k14 := keep_fresh b1 4 (v := .int .i64 t.c2) rfl
      have k15 := keep_fresh b1 5 (v := .int .i64 t.r2) rfl
      have k16 := keep_fresh b1 6 (v := .string ⟨t.word.toArray⟩) rfl
      have k17 := keep_fresh b1 7 (v := .slice A t.kids.length cap) rfl
      have h1 : Below w.heap.size w w1 := ((Below.refl _ _).alloc (Nat.le_refl _) _).trans (b1.mono (by simp))
      clear b1 
      go_wp2_with fail
      go_ret
      exact ⟨by rw [HM.out]; rfl, h1⟩
  | false =>
    cases D with
    | true =>
      go_enter Tryd.func38, Tryd.ntmps38
      go_wp2_with fail
      refine (HO.out _).mono ?_; rintro e w1 ⟨rfl, b1⟩
      have k10 := keep_fresh b1 0 (v := .int .i64 t.kind) rfl
      have k11 := keep_fresh b1 1 (v := .int .i64 t.num) rfl
      have k12 := keep_fresh b1 2 (v := .int .i64 t.c1) rfl
      have k13 := keep_fresh b1 3 (v := .int .i64 t.r1) rfl
      have k14 := keep_fresh b1 4 (v := .int .i64 t.c2) rfl
      have k15 := keep_fresh b1 5 (v := .int .i64 t.r2) rfl
      have k16 := keep_fresh b1 6 (v := .string ⟨t.word.toArray⟩) rfl
      have k17 := keep_fresh b1 7 (v := .slice A t.kids.length cap) rfl
      have h1 : Below w.heap.size w w1 := ((Below.refl _ _).alloc (Nat.le_refl _) _).trans (b1.mono (by simp))
      clear b1 
      go_wp2_with fail
      go_ret
      exact ⟨by rw [HM.out]; rfl, h1⟩
    | false =>
      go_enter Tryd.func38, Tryd.ntmps38
      go_wp2_with fail
      refine (HO.out _).mono ?_; rintro e w1 ⟨rfl, b1⟩
      have k10 := keep_fresh b1 0 (v := .int .i64 t.kind) rfl
      have k11 := keep_fresh b1 1 (v := .int .i64 t.num) rfl
      have k12 := keep_fresh b1 2 (v := .int .i64 t.c1) rfl
      have k13 := keep_fresh b1 3 (v := .int .i64 t.r1) rfl
      have k14 := keep_fresh b1 4 (v := .int .i64 t.c2) rfl
      have k15 := keep_fresh b1 5 (v := .int .i64 t.r2) rfl
      have k16 := keep_fresh b1 6 (v := .string ⟨t.word.toArray⟩) rfl
      have k17 := keep_fresh b1 7 (v := .slice A t.kids.length cap) rfl
      have h1 : Below w.heap.size w w1 := ((Below.refl _ _).alloc (Nat.le_refl _) _).trans (b1.mono (by simp))
      clear b1 
      go_wp2_with fail
      go_ret
      exact ⟨by rw [HM.out]; rfl, h1⟩
set_option maxHeartbeats 2000000 in
set_option maxRecDepth 10000 in
theorem rmay_1 (t : Tr) (w : World) (A : Option Addr) (cap : Nat) (h : t.kind = 1) : Calls Tryd.prog 38 #[tv t A cap] w fun e w' => e = .returned (.bool (mayB t)) ∧ Below w.heap.size w w' := by
  unfold tv
  have HO := Lib.hid fun w => ronly_any t A cap 0 w
  unfold tv at HO
  have HM := Lib.hid (may_1 h)
  have s0 : (t.kind == 0) = false := by rw [h]; rfl
  have s1 : (t.kind == 1) = true := by rw [h]; rfl
  clear h
  generalize onlyB t 0 = O at *
  have HRt := Lib.hid (rright_any t.c1 t.r1)
  have hG := fun op X Y W => tguard_place op X Y #[.int .i64 t.c1, .int .i64 t.r1] #[.int .i64 t.c2, .int .i64 t.r2] W
  have hE := teql_place t.c1 t.r1 t.c2 t.r2
  generalize rightB t.c1 t.r1 = RB at *
  obtain ⟨D, hD⟩ : ∃ D, (t.c1 == t.c2 && t.r1 == t.r2) = D := ⟨_, rfl⟩
  rw [hD] at HM
  simp only [hD] at hE
  clear hD
  cases O with
  | true =>
    cases RB with
    | true =>
      cases D with
      | true =>
        go_enter Tryd.func38, Tryd.ntmps38
        go_wp2_with fail
        refine (HO.out _).mono ?_; rintro e w1 ⟨rfl, b1⟩
        have k10 := keep_fresh b1 0 (v := .int .i64 t.kind) rfl
        have k11 := keep_fresh b1 1 (v := .int .i64 t.num) rfl
        have k12 := keep_fresh b1 2 (v := .int .i64 t.c1) rfl
        have k13 := keep_fresh b1 3 (v := .int .i64 t.r1) rfl
        have k14 := keep_fresh b1 4 (v := .int .i64 t.c2) rfl
        have k15 := keep_fresh b1 5 (v := .int .i64 t.r2) rfl
        have k16 := keep_fresh b1 6 (v := .string ⟨t.word.toArray⟩) rfl
        have k17 := keep_fresh b1 7 (v := .slice A t.kids.length cap) rfl
        have h1 : Below w.heap.size w w1 := ((Below.refl _ _).alloc (Nat.le_refl _) _).trans (b1.mono (by simp))
        clear b1 
        go_wp2_with fail
        refine (HRt.out _).mono ?_; rintro e w2 ⟨rfl, b2⟩
        have k20 := keep_cell b2 k10
        have k21 := keep_cell b2 k11
        have k22 := keep_cell b2 k12
        have k23 := keep_cell b2 k13
        have k24 := keep_cell b2 k14
        have k25 := keep_cell b2 k15
        have k26 := keep_cell b2 k16
        have k27 := keep_cell b2 k17
        have h2 := h1.trans (b2.mono h1.size)
        clear b2 k10 k11 k12 k13 k14 k15 k16 k17
        go_wp2_with fail
        go_ret
        exact ⟨by rw [HM.out]; rfl, h2⟩
      | false =>
        go_enter Tryd.func38, Tryd.ntmps38
        go_wp2_with fail
        refine (HO.out _).mono ?_; rintro e w1 ⟨rfl, b1⟩
        have k10 := keep_fresh b1 0 (v := .int .i64 t.kind) rfl
        have k11 := keep_fresh b1 1 (v := .int .i64 t.num) rfl
        have k12 := keep_fresh b1 2 (v := .int .i64 t.c1) rfl
        have k13 := keep_fresh b1 3 (v := .int .i64 t.r1) rfl
        have k14 := keep_fresh b1 4 (v := .int .i64 t.c2) rfl
        have k15 := keep_fresh b1 5 (v := .int .i64 t.r2) rfl
        have k16 := keep_fresh b1 6 (v := .string ⟨t.word.toArray⟩) rfl
        have k17 := keep_fresh b1 7 (v := .slice A t.kids.length cap) rfl
        have h1 : Below w.heap.size w w1 := ((Below.refl _ _).alloc (Nat.le_refl _) _).trans (b1.mono (by simp))
        clear b1 
        go_wp2_with fail
        refine (HRt.out _).mono ?_; rintro e w2 ⟨rfl, b2⟩
        have k20 := keep_cell b2 k10
        have k21 := keep_cell b2 k11
        have k22 := keep_cell b2 k12
        have k23 := keep_cell b2 k13
        have k24 := keep_cell b2 k14
        have k25 := keep_cell b2 k15
        have k26 := keep_cell b2 k16
        have k27 := keep_cell b2 k17
        have h2 := h1.trans (b2.mono h1.size)
        clear b2 k10 k11 k12 k13 k14 k15 k16 k17
        go_wp2_with fail
        go_ret
        exact ⟨by rw [HM.out]; rfl, h2⟩
    | false =>
      cases D with
      | true =>
        go_enter Tryd.func38, Tryd.ntmps38
        go_wp2_with fail
        refine (HO.out _).mono ?_; rintro e w1 ⟨rfl, b1⟩
        have k10 := keep_fresh b1 0 (v := .int .i64 t.kind) rfl
        have k11 := keep_fresh b1 1 (v := .int .i64 t.num) rfl
        have k12 := keep_fresh b1 2 (v := .int .i64 t.c1) rfl
        have k13 := keep_fresh b1 3 (v := .int .i64 t.r1) rfl
        have k14 := keep_fresh b1 4 (v := .int .i64 t.c2) rfl
        have k15 := keep_fresh b1 5 (v := .int .i64 t.r2) rfl
        have k16 := keep_fresh b1 6 (v := .string ⟨t.word.toArray⟩) rfl
        have k17 := keep_fresh b1 7 (v := .slice A t.kids.length cap) rfl
        have h1 : Below w.heap.size w w1 := ((Below.refl _ _).alloc (Nat.le_refl _) _).trans (b1.mono (by simp))
        clear b1 
        go_wp2_with fail
        refine (HRt.out _).mono ?_; rintro e w2 ⟨rfl, b2⟩
        have k20 := keep_cell b2 k10
        have k21 := keep_cell b2 k11
        have k22 := keep_cell b2 k12
        have k23 := keep_cell b2 k13
        have k24 := keep_cell b2 k14
        have k25 := keep_cell b2 k15
        have k26 := keep_cell b2 k16
        have k27 := keep_cell b2 k17
        have h2 := h1.trans (b2.mono h1.size)
        clear b2 k10 k11 k12 k13 k14 k15 k16 k17
        go_wp2_with fail
        go_ret
        exact ⟨by rw [HM.out]; rfl, h2⟩
      | false =>
        go_enter Tryd.func38, Tryd.ntmps38
        go_wp2_with fail
        refine (HO.out _).mono ?_; rintro e w1 ⟨rfl, b1⟩
        have k10 := keep_fresh b1 0 (v := .int .i64 t.kind) rfl
        have k11 := keep_fresh b1 1 (v := .int .i64 t.num) rfl
        have k12 := keep_fresh b1 2 (v := .int .i64 t.c1) rfl
        have k13 := keep_fresh b1 3 (v := .int .i64 t.r1) rfl
        have k14 := keep_fresh b1 4 (v := .int .i64 t.c2) rfl
        have k15 := keep_fresh b1 5 (v := .int .i64 t.r2) rfl
        have k16 := keep_fresh b1 6 (v := .string ⟨t.word.toArray⟩) rfl
        have k17 := keep_fresh b1 7 (v := .slice A t.kids.length cap) rfl
        have h1 : Below w.heap.size w w1 := ((Below.refl _ _).alloc (Nat.le_refl _) _).trans (b1.mono (by simp))
        clear b1 
        go_wp2_with fail
        refine (HRt.out _).mono ?_; rintro e w2 ⟨rfl, b2⟩
        have k20 := keep_cell b2 k10
        have k21 := keep_cell b2 k11
        have k22 := keep_cell b2 k12
        have k23 := keep_cell b2 k13
        have k24 := keep_cell b2 k14
        have k25 := keep_cell b2 k15
        have k26 := keep_cell b2 k16
        have k27 := keep_cell b2 k17
        have h2 := h1.trans (b2.mono h1.size)
        clear b2 k10 k11 k12 k13 k14 k15 k16 k17
        go_wp2_with fail
        go_ret
        exact ⟨by rw [HM.out]; rfl, h2⟩
  | false =>
    cases RB with
    | true =>
      cases D with
      | true =>
        go_enter Tryd.func38, Tryd.ntmps38
        go_wp2_with fail
        refine (HO.out _).mono ?_; rintro e w1 ⟨rfl, b1⟩
        have k10 := keep_fresh b1 0 (v := .int .i64 t.kind) rfl
        have k11 := keep_fresh b1 1 (v := .int .i64 t.num) rfl
        have k12 := keep_fresh b1 2 (v := .int .i64 t.c1) rfl
        have k13 := keep_fresh b1 3 (v := .int .i64 t.r1) rfl
        have k14 := keep_fresh b1 4 (v := .int .i64 t.c2) rfl
        have k15 := keep_fresh b1 5 (v := .int .i64 t.r2) rfl
        have k16 := keep_fresh b1 6 (v := .string ⟨t.word.toArray⟩) rfl
        have k17 := keep_fresh b1 7 (v := .slice A t.kids.length cap) rfl
        have h1 : Below w.heap.size w w1 := ((Below.refl _ _).alloc (Nat.le_refl _) _).trans (b1.mono (by simp))
        clear b1 
        go_wp2_with fail
        refine (HRt.out _).mono ?_; rintro e w2 ⟨rfl, b2⟩
        have k20 := keep_cell b2 k10
        have k21 := keep_cell b2 k11
        have k22 := keep_cell b2 k12
        have k23 := keep_cell b2 k13
        have k24 := keep_cell b2 k14
        have k25 := keep_cell b2 k15
        have k26 := keep_cell b2 k16
        have k27 := keep_cell b2 k17
        have h2 := h1.trans (b2.mono h1.size)
        clear b2 k10 k11 k12 k13 k14 k15 k16 k17
        go_wp2_with fail
        go_ret
        exact ⟨by rw [HM.out]; rfl, h2⟩
      | false =>
        go_enter Tryd.func38, Tryd.ntmps38
        go_wp2_with fail
        refine (HO.out _).mono ?_; rintro e w1 ⟨rfl, b1⟩
        have k10 := keep_fresh b1 0 (v := .int .i64 t.kind) rfl
        have k11 := keep_fresh b1 1 (v := .int .i64 t.num) rfl
        have k12 := keep_fresh b1 2 (v := .int .i64 t.c1) rfl
        have k13 := keep_fresh b1 3 (v := .int .i64 t.r1) rfl
        have k14 := keep_fresh b1 4 (v := .int .i64 t.c2) rfl
        have k15 := keep_fresh b1 5 (v := .int .i64 t.r2) rfl
        have k16 := keep_fresh b1 6 (v := .string ⟨t.word.toArray⟩) rfl
        have k17 := keep_fresh b1 7 (v := .slice A t.kids.length cap) rfl
        have h1 : Below w.heap.size w w1 := ((Below.refl _ _).alloc (Nat.le_refl _) _).trans (b1.mono (by simp))
        clear b1 
        go_wp2_with fail
        refine (HRt.out _).mono ?_; rintro e w2 ⟨rfl, b2⟩
        have k20 := keep_cell b2 k10
        have k21 := keep_cell b2 k11
        have k22 := keep_cell b2 k12
        have k23 := keep_cell b2 k13
        have k24 := keep_cell b2 k14
        have k25 := keep_cell b2 k15
        have k26 := keep_cell b2 k16
        have k27 := keep_cell b2 k17
        have h2 := h1.trans (b2.mono h1.size)
        clear b2 k10 k11 k12 k13 k14 k15 k16 k17
        go_wp2_with fail
        go_ret
        exact ⟨by rw [HM.out]; rfl, h2⟩
    | false =>
      cases D with
      | true =>
        go_enter Tryd.func38, Tryd.ntmps38
        go_wp2_with fail
        refine (HO.out _).mono ?_; rintro e w1 ⟨rfl, b1⟩
        have k10 := keep_fresh b1 0 (v := .int .i64 t.kind) rfl
        have k11 := keep_fresh b1 1 (v := .int .i64 t.num) rfl
        have k12 := keep_fresh b1 2 (v := .int .i64 t.c1) rfl
        have k13 := keep_fresh b1 3 (v := .int .i64 t.r1) rfl
        have k14 := keep_fresh b1 4 (v := .int .i64 t.c2) rfl
        have k15 := keep_fresh b1 5 (v := .int .i64 t.r2) rfl
        have k16 := keep_fresh b1 6 (v := .string ⟨t.word.toArray⟩) rfl
        have k17 := keep_fresh b1 7 (v := .slice A t.kids.length cap) rfl
        have h1 : Below w.heap.size w w1 := ((Below.refl _ _).alloc (Nat.le_refl _) _).trans (b1.mono (by simp))
        clear b1 
        go_wp2_with fail
        refine (HRt.out _).mono ?_; rintro e w2 ⟨rfl, b2⟩
        have k20 := keep_cell b2 k10
        have k21 := keep_cell b2 k11
        have k22 := keep_cell b2 k12
        have k23 := keep_cell b2 k13
        have k24 := keep_cell b2 k14
        have k25 := keep_cell b2 k15
        have k26 := keep_cell b2 k16
        have k27 := keep_cell b2 k17
        have h2 := h1.trans (b2.mono h1.size)
        clear b2 k10 k11 k12 k13 k14 k15 k16 k17
        go_wp2_with fail
        go_ret
        exact ⟨by rw [HM.out]; rfl, h2⟩
      | false =>
        go_enter Tryd.func38, Tryd.ntmps38
        go_wp2_with fail
        refine (HO.out _).mono ?_; rintro e w1 ⟨rfl, b1⟩
        have k10 := keep_fresh b1 0 (v := .int .i64 t.kind) rfl
        have k11 := keep_fresh b1 1 (v := .int .i64 t.num) rfl
        have k12 := keep_fresh b1 2 (v := .int .i64 t.c1) rfl
        have k13 := keep_fresh b1 3 (v := .int .i64 t.r1) rfl
        have k14 := keep_fresh b1 4 (v := .int .i64 t.c2) rfl
        have k15 := keep_fresh b1 5 (v := .int .i64 t.r2) rfl
        have k16 := keep_fresh b1 6 (v := .string ⟨t.word.toArray⟩) rfl
        have k17 := keep_fresh b1 7 (v := .slice A t.kids.length cap) rfl
        have h1 : Below w.heap.size w w1 := ((Below.refl _ _).alloc (Nat.le_refl _) _).trans (b1.mono (by simp))
        clear b1 
        go_wp2_with fail
        refine (HRt.out _).mono ?_; rintro e w2 ⟨rfl, b2⟩
        have k20 := keep_cell b2 k10
        have k21 := keep_cell b2 k11
        have k22 := keep_cell b2 k12
        have k23 := keep_cell b2 k13
        have k24 := keep_cell b2 k14
        have k25 := keep_cell b2 k15
        have k26 := keep_cell b2 k16
        have k27 := keep_cell b2 k17
        have h2 := h1.trans (b2.mono h1.size)
        clear b2 k10 k11 k12 k13 k14 k15 k16 k17
        go_wp2_with fail
        go_ret
        exact ⟨by rw [HM.out]; rfl, h2⟩
set_option maxHeartbeats 2000000 in
set_option maxRecDepth 10000 in
theorem rmay_2 (t : Tr) (w : World) (A : Option Addr) (cap : Nat) (h : t.kind = 2) : Calls Tryd.prog 38 #[tv t A cap] w fun e w' => e = .returned (.bool (mayB t)) ∧ Below w.heap.size w w' := by
  unfold tv
  have HO := Lib.hid fun w => ronly_any t A cap 0 w
  unfold tv at HO
  have HM := Lib.hid (may_2 h)
  have s0 : (t.kind == 0) = false := by rw [h]; rfl
  have s1 : (t.kind == 1) = false := by rw [h]; rfl
  have s2 : (t.kind == 2) = true := by rw [h]; rfl
  clear h
  generalize onlyB t 0 = O at *
  cases O with
  | true =>
    go_enter Tryd.func38, Tryd.ntmps38
    go_wp2_with fail
    refine (HO.out _).mono ?_; rintro e w1 ⟨rfl, b1⟩
    have k10 := keep_fresh b1 0 (v := .int .i64 t.kind) rfl
    have k11 := keep_fresh b1 1 (v := .int .i64 t.num) rfl
    have k12 := keep_fresh b1 2 (v := .int .i64 t.c1) rfl
    have k13 := keep_fresh b1 3 (v := .int .i64 t.r1) rfl
    have k14 := keep_fresh b1 4 (v := .int .i64 t.c2) rfl
    have k15 := keep_fresh b1 5 (v := .int .i64 t.r2) rfl
    have k16 := keep_fresh b1 6 (v := .string ⟨t.word.toArray⟩) rfl
    have k17 := keep_fresh b1 7 (v := .slice A t.kids.length cap) rfl
    have h1 : Below w.heap.size w w1 := ((Below.refl _ _).alloc (Nat.le_refl _) _).trans (b1.mono (by simp))
    clear b1 
    go_wp2_with fail
    go_ret
    exact ⟨by rw [HM.out]; rfl, h1⟩
  | false =>
    go_enter Tryd.func38, Tryd.ntmps38
    go_wp2_with fail
    refine (HO.out _).mono ?_; rintro e w1 ⟨rfl, b1⟩
    have k10 := keep_fresh b1 0 (v := .int .i64 t.kind) rfl
    have k11 := keep_fresh b1 1 (v := .int .i64 t.num) rfl
    have k12 := keep_fresh b1 2 (v := .int .i64 t.c1) rfl
    have k13 := keep_fresh b1 3 (v := .int .i64 t.r1) rfl
    have k14 := keep_fresh b1 4 (v := .int .i64 t.c2) rfl
    have k15 := keep_fresh b1 5 (v := .int .i64 t.r2) rfl
    have k16 := keep_fresh b1 6 (v := .string ⟨t.word.toArray⟩) rfl
    have k17 := keep_fresh b1 7 (v := .slice A t.kids.length cap) rfl
    have h1 : Below w.heap.size w w1 := ((Below.refl _ _).alloc (Nat.le_refl _) _).trans (b1.mono (by simp))
    clear b1 
    go_wp2_with fail
    go_ret
    exact ⟨by rw [HM.out]; rfl, h1⟩
set_option maxHeartbeats 2000000 in
set_option maxRecDepth 10000 in
theorem rmay_6 (t : Tr) (w : World) (A : Option Addr) (cap : Nat) (h : t.kind = 6) : Calls Tryd.prog 38 #[tv t A cap] w fun e w' => e = .returned (.bool (mayB t)) ∧ Below w.heap.size w w' := by
  unfold tv
  have HO := Lib.hid fun w => ronly_any t A cap 0 w
  unfold tv at HO
  have HM := Lib.hid (may_6 h)
  have s0 : (t.kind == 0) = false := by rw [h]; rfl
  have s1 : (t.kind == 1) = false := by rw [h]; rfl
  have s2 : (t.kind == 2) = false := by rw [h]; rfl
  have s6 : (t.kind == 6) = true := by rw [h]; rfl
  clear h
  generalize onlyB t 0 = O at *
  have HWh := Lib.hid (rwhole_any t.c1 t.r1 t.c2 t.r2)
  generalize wholeB t.c1 t.r1 t.c2 t.r2 = RB at *
  cases O with
  | true =>
    cases RB with
    | true =>
      go_enter Tryd.func38, Tryd.ntmps38
      go_wp2_with fail
      refine (HO.out _).mono ?_; rintro e w1 ⟨rfl, b1⟩
      have k10 := keep_fresh b1 0 (v := .int .i64 t.kind) rfl
      have k11 := keep_fresh b1 1 (v := .int .i64 t.num) rfl
      have k12 := keep_fresh b1 2 (v := .int .i64 t.c1) rfl
      have k13 := keep_fresh b1 3 (v := .int .i64 t.r1) rfl
      have k14 := keep_fresh b1 4 (v := .int .i64 t.c2) rfl
      have k15 := keep_fresh b1 5 (v := .int .i64 t.r2) rfl
      have k16 := keep_fresh b1 6 (v := .string ⟨t.word.toArray⟩) rfl
      have k17 := keep_fresh b1 7 (v := .slice A t.kids.length cap) rfl
      have h1 : Below w.heap.size w w1 := ((Below.refl _ _).alloc (Nat.le_refl _) _).trans (b1.mono (by simp))
      clear b1 
      go_wp2_with fail
      refine (HWh.out _).mono ?_; rintro e w2 ⟨rfl, b2⟩
      have k20 := keep_cell b2 k10
      have k21 := keep_cell b2 k11
      have k22 := keep_cell b2 k12
      have k23 := keep_cell b2 k13
      have k24 := keep_cell b2 k14
      have k25 := keep_cell b2 k15
      have k26 := keep_cell b2 k16
      have k27 := keep_cell b2 k17
      have h2 := h1.trans (b2.mono h1.size)
      clear b2 k10 k11 k12 k13 k14 k15 k16 k17
      go_wp2_with fail
      go_ret
      exact ⟨by rw [HM.out]; rfl, h2⟩
    | false =>
      go_enter Tryd.func38, Tryd.ntmps38
      go_wp2_with fail
      refine (HO.out _).mono ?_; rintro e w1 ⟨rfl, b1⟩
      have k10 := keep_fresh b1 0 (v := .int .i64 t.kind) rfl
      have k11 := keep_fresh b1 1 (v := .int .i64 t.num) rfl
      have k12 := keep_fresh b1 2 (v := .int .i64 t.c1) rfl
      have k13 := keep_fresh b1 3 (v := .int .i64 t.r1) rfl
      have k14 := keep_fresh b1 4 (v := .int .i64 t.c2) rfl
      have k15 := keep_fresh b1 5 (v := .int .i64 t.r2) rfl
      have k16 := keep_fresh b1 6 (v := .string ⟨t.word.toArray⟩) rfl
      have k17 := keep_fresh b1 7 (v := .slice A t.kids.length cap) rfl
      have h1 : Below w.heap.size w w1 := ((Below.refl _ _).alloc (Nat.le_refl _) _).trans (b1.mono (by simp))
      clear b1 
      go_wp2_with fail
      refine (HWh.out _).mono ?_; rintro e w2 ⟨rfl, b2⟩
      have k20 := keep_cell b2 k10
      have k21 := keep_cell b2 k11
      have k22 := keep_cell b2 k12
      have k23 := keep_cell b2 k13
      have k24 := keep_cell b2 k14
      have k25 := keep_cell b2 k15
      have k26 := keep_cell b2 k16
      have k27 := keep_cell b2 k17
      have h2 := h1.trans (b2.mono h1.size)
      clear b2 k10 k11 k12 k13 k14 k15 k16 k17
      go_wp2_with fail
      go_ret
      exact ⟨by rw [HM.out]; rfl, h2⟩
  | false =>
    cases RB with
    | true =>
      go_enter Tryd.func38, Tryd.ntmps38
      go_wp2_with fail
      refine (HO.out _).mono ?_; rintro e w1 ⟨rfl, b1⟩
      have k10 := keep_fresh b1 0 (v := .int .i64 t.kind) rfl
      have k11 := keep_fresh b1 1 (v := .int .i64 t.num) rfl
      have k12 := keep_fresh b1 2 (v := .int .i64 t.c1) rfl
      have k13 := keep_fresh b1 3 (v := .int .i64 t.r1) rfl
      have k14 := keep_fresh b1 4 (v := .int .i64 t.c2) rfl
      have k15 := keep_fresh b1 5 (v := .int .i64 t.r2) rfl
      have k16 := keep_fresh b1 6 (v := .string ⟨t.word.toArray⟩) rfl
      have k17 := keep_fresh b1 7 (v := .slice A t.kids.length cap) rfl
      have h1 : Below w.heap.size w w1 := ((Below.refl _ _).alloc (Nat.le_refl _) _).trans (b1.mono (by simp))
      clear b1 
      go_wp2_with fail
      refine (HWh.out _).mono ?_; rintro e w2 ⟨rfl, b2⟩
      have k20 := keep_cell b2 k10
      have k21 := keep_cell b2 k11
      have k22 := keep_cell b2 k12
      have k23 := keep_cell b2 k13
      have k24 := keep_cell b2 k14
      have k25 := keep_cell b2 k15
      have k26 := keep_cell b2 k16
      have k27 := keep_cell b2 k17
      have h2 := h1.trans (b2.mono h1.size)
      clear b2 k10 k11 k12 k13 k14 k15 k16 k17
      go_wp2_with fail
      go_ret
      exact ⟨by rw [HM.out]; rfl, h2⟩
    | false =>
      go_enter Tryd.func38, Tryd.ntmps38
      go_wp2_with fail
      refine (HO.out _).mono ?_; rintro e w1 ⟨rfl, b1⟩
      have k10 := keep_fresh b1 0 (v := .int .i64 t.kind) rfl
      have k11 := keep_fresh b1 1 (v := .int .i64 t.num) rfl
      have k12 := keep_fresh b1 2 (v := .int .i64 t.c1) rfl
      have k13 := keep_fresh b1 3 (v := .int .i64 t.r1) rfl
      have k14 := keep_fresh b1 4 (v := .int .i64 t.c2) rfl
      have k15 := keep_fresh b1 5 (v := .int .i64 t.r2) rfl
      have k16 := keep_fresh b1 6 (v := .string ⟨t.word.toArray⟩) rfl
      have k17 := keep_fresh b1 7 (v := .slice A t.kids.length cap) rfl
      have h1 : Below w.heap.size w w1 := ((Below.refl _ _).alloc (Nat.le_refl _) _).trans (b1.mono (by simp))
      clear b1 
      go_wp2_with fail
      refine (HWh.out _).mono ?_; rintro e w2 ⟨rfl, b2⟩
      have k20 := keep_cell b2 k10
      have k21 := keep_cell b2 k11
      have k22 := keep_cell b2 k12
      have k23 := keep_cell b2 k13
      have k24 := keep_cell b2 k14
      have k25 := keep_cell b2 k15
      have k26 := keep_cell b2 k16
      have k27 := keep_cell b2 k17
      have h2 := h1.trans (b2.mono h1.size)
      clear b2 k10 k11 k12 k13 k14 k15 k16 k17
      go_wp2_with fail
      go_ret
      exact ⟨by rw [HM.out]; rfl, h2⟩
set_option maxHeartbeats 2000000 in
set_option maxRecDepth 10000 in
theorem rmay_3 (t : Tr) (w : World) (A : Option Addr) (cap : Nat) {d : Nat} (ih : MayC d) (hd : deepL t.kids ≤ d) (hw : Wid t) (P : Nat → Prop) (hk : KV w P t A) (h : t.kind = 3) : Calls Tryd.prog 38 #[tv t A cap] w fun e w' => e = .returned (.bool (mayB t)) ∧ Below w.heap.size w w' := by
  unfold tv
  have HO := Lib.hid fun w => ronly_any t A cap 1 w
  unfold tv at HO
  have HM := Lib.hid (may_3 h)
  have s0 : (t.kind == 0) = false := by rw [h]; rfl
  have s1 : (t.kind == 1) = false := by rw [h]; rfl
  have s2 : (t.kind == 2) = false := by rw [h]; rfl
  have s6 : (t.kind == 6) = false := by rw [h]; rfl
  have s3 : (t.kind == 3) = true := by rw [h]; rfl
  clear h
  have HK := Lib.hid hk
  have HAl := Lib.hid fun (a b : Bool) (w : World) (P : Nat → Prop) hk => rall_any ih t hd hw a b w P A cap hk
  unfold tv at HAl
  clear ih hd hw hk
  generalize onlyB t 1 = O at *
  have HA2 := Lib.hid (HAl.out false false)
  clear HAl
  generalize allB t.kids false false = RB at *
  cases O with
  | true =>
    cases RB with
    | true =>
      go_enter Tryd.func38, Tryd.ntmps38
      go_wp2_with fail
      refine (HO.out _).mono ?_; rintro e w1 ⟨rfl, b1⟩
      have k10 := keep_fresh b1 0 (v := .int .i64 t.kind) rfl
      have k11 := keep_fresh b1 1 (v := .int .i64 t.num) rfl
      have k12 := keep_fresh b1 2 (v := .int .i64 t.c1) rfl
      have k13 := keep_fresh b1 3 (v := .int .i64 t.r1) rfl
      have k14 := keep_fresh b1 4 (v := .int .i64 t.c2) rfl
      have k15 := keep_fresh b1 5 (v := .int .i64 t.r2) rfl
      have k16 := keep_fresh b1 6 (v := .string ⟨t.word.toArray⟩) rfl
      have k17 := keep_fresh b1 7 (v := .slice A t.kids.length cap) rfl
      have h1 : Below w.heap.size w w1 := ((Below.refl _ _).alloc (Nat.le_refl _) _).trans (b1.mono (by simp))
      clear b1 
      go_wp2_with fail
      refine (HA2.out _ _ (HK.out.kept (Kept.of_below h1))).mono ?_; rintro e w2 ⟨rfl, b2⟩
      have k20 := keep_cell b2 k10
      have k21 := keep_cell b2 k11
      have k22 := keep_cell b2 k12
      have k23 := keep_cell b2 k13
      have k24 := keep_cell b2 k14
      have k25 := keep_cell b2 k15
      have k26 := keep_cell b2 k16
      have k27 := keep_cell b2 k17
      have h2 := h1.trans (b2.mono h1.size)
      clear b2 k10 k11 k12 k13 k14 k15 k16 k17
      go_wp2_with fail
      go_ret
      exact ⟨by rw [HM.out]; rfl, h2⟩
    | false =>
      go_enter Tryd.func38, Tryd.ntmps38
      go_wp2_with fail
      refine (HO.out _).mono ?_; rintro e w1 ⟨rfl, b1⟩
      have k10 := keep_fresh b1 0 (v := .int .i64 t.kind) rfl
      have k11 := keep_fresh b1 1 (v := .int .i64 t.num) rfl
      have k12 := keep_fresh b1 2 (v := .int .i64 t.c1) rfl
      have k13 := keep_fresh b1 3 (v := .int .i64 t.r1) rfl
      have k14 := keep_fresh b1 4 (v := .int .i64 t.c2) rfl
      have k15 := keep_fresh b1 5 (v := .int .i64 t.r2) rfl
      have k16 := keep_fresh b1 6 (v := .string ⟨t.word.toArray⟩) rfl
      have k17 := keep_fresh b1 7 (v := .slice A t.kids.length cap) rfl
      have h1 : Below w.heap.size w w1 := ((Below.refl _ _).alloc (Nat.le_refl _) _).trans (b1.mono (by simp))
      clear b1 
      go_wp2_with fail
      refine (HA2.out _ _ (HK.out.kept (Kept.of_below h1))).mono ?_; rintro e w2 ⟨rfl, b2⟩
      have k20 := keep_cell b2 k10
      have k21 := keep_cell b2 k11
      have k22 := keep_cell b2 k12
      have k23 := keep_cell b2 k13
      have k24 := keep_cell b2 k14
      have k25 := keep_cell b2 k15
      have k26 := keep_cell b2 k16
      have k27 := keep_cell b2 k17
      have h2 := h1.trans (b2.mono h1.size)
      clear b2 k10 k11 k12 k13 k14 k15 k16 k17
      go_wp2_with fail
      go_ret
      exact ⟨by rw [HM.out]; rfl, h2⟩
  | false =>
    cases RB with
    | true =>
      go_enter Tryd.func38, Tryd.ntmps38
      go_wp2_with fail
      refine (HO.out _).mono ?_; rintro e w1 ⟨rfl, b1⟩
      have k10 := keep_fresh b1 0 (v := .int .i64 t.kind) rfl
      have k11 := keep_fresh b1 1 (v := .int .i64 t.num) rfl
      have k12 := keep_fresh b1 2 (v := .int .i64 t.c1) rfl
      have k13 := keep_fresh b1 3 (v := .int .i64 t.r1) rfl
      have k14 := keep_fresh b1 4 (v := .int .i64 t.c2) rfl
      have k15 := keep_fresh b1 5 (v := .int .i64 t.r2) rfl
      have k16 := keep_fresh b1 6 (v := .string ⟨t.word.toArray⟩) rfl
      have k17 := keep_fresh b1 7 (v := .slice A t.kids.length cap) rfl
      have h1 : Below w.heap.size w w1 := ((Below.refl _ _).alloc (Nat.le_refl _) _).trans (b1.mono (by simp))
      clear b1 
      go_wp2_with fail
      refine (HA2.out _ _ (HK.out.kept (Kept.of_below h1))).mono ?_; rintro e w2 ⟨rfl, b2⟩
      have k20 := keep_cell b2 k10
      have k21 := keep_cell b2 k11
      have k22 := keep_cell b2 k12
      have k23 := keep_cell b2 k13
      have k24 := keep_cell b2 k14
      have k25 := keep_cell b2 k15
      have k26 := keep_cell b2 k16
      have k27 := keep_cell b2 k17
      have h2 := h1.trans (b2.mono h1.size)
      clear b2 k10 k11 k12 k13 k14 k15 k16 k17
      go_wp2_with fail
      go_ret
      exact ⟨by rw [HM.out]; rfl, h2⟩
    | false =>
      go_enter Tryd.func38, Tryd.ntmps38
      go_wp2_with fail
      refine (HO.out _).mono ?_; rintro e w1 ⟨rfl, b1⟩
      have k10 := keep_fresh b1 0 (v := .int .i64 t.kind) rfl
      have k11 := keep_fresh b1 1 (v := .int .i64 t.num) rfl
      have k12 := keep_fresh b1 2 (v := .int .i64 t.c1) rfl
      have k13 := keep_fresh b1 3 (v := .int .i64 t.r1) rfl
      have k14 := keep_fresh b1 4 (v := .int .i64 t.c2) rfl
      have k15 := keep_fresh b1 5 (v := .int .i64 t.r2) rfl
      have k16 := keep_fresh b1 6 (v := .string ⟨t.word.toArray⟩) rfl
      have k17 := keep_fresh b1 7 (v := .slice A t.kids.length cap) rfl
      have h1 : Below w.heap.size w w1 := ((Below.refl _ _).alloc (Nat.le_refl _) _).trans (b1.mono (by simp))
      clear b1 
      go_wp2_with fail
      refine (HA2.out _ _ (HK.out.kept (Kept.of_below h1))).mono ?_; rintro e w2 ⟨rfl, b2⟩
      have k20 := keep_cell b2 k10
      have k21 := keep_cell b2 k11
      have k22 := keep_cell b2 k12
      have k23 := keep_cell b2 k13
      have k24 := keep_cell b2 k14
      have k25 := keep_cell b2 k15
      have k26 := keep_cell b2 k16
      have k27 := keep_cell b2 k17
      have h2 := h1.trans (b2.mono h1.size)
      clear b2 k10 k11 k12 k13 k14 k15 k16 k17
      go_wp2_with fail
      go_ret
      exact ⟨by rw [HM.out]; rfl, h2⟩
set_option maxHeartbeats 2000000 in
set_option maxRecDepth 10000 in
theorem rmay_4 (t : Tr) (w : World) (A : Option Addr) (cap : Nat) {d : Nat} (ih : MayC d) (hd : deepL t.kids ≤ d) (hw : Wid t) (P : Nat → Prop) (hk : KV w P t A) (h : t.kind = 4) : Calls Tryd.prog 38 #[tv t A cap] w fun e w' => e = .returned (.bool (mayB t)) ∧ Below w.heap.size w w' := by
  unfold tv
  have HO := Lib.hid fun w => ronly_any t A cap 2 w
  unfold tv at HO
  have HM := Lib.hid (may_4 h)
  have s0 : (t.kind == 0) = false := by rw [h]; rfl
  have s1 : (t.kind == 1) = false := by rw [h]; rfl
  have s2 : (t.kind == 2) = false := by rw [h]; rfl
  have s6 : (t.kind == 6) = false := by rw [h]; rfl
  have s3 : (t.kind == 3) = false := by rw [h]; rfl
  have s4 : (t.kind == 4) = true := by rw [h]; rfl
  clear h
  have HK := Lib.hid hk
  have HAl := Lib.hid fun (a b : Bool) (w : World) (P : Nat → Prop) hk => rall_any ih t hd hw a b w P A cap hk
  unfold tv at HAl
  clear ih hd hw hk
  generalize onlyB t 2 = O at *
  have HA2 := Lib.hid (HAl.out false false)
  clear HAl
  generalize allB t.kids false false = RB at *
  have HLv := Lib.hid (rLevel_any ⟨t.word.toArray⟩)
  have e9 : (⟨t.word.toArray⟩ : ByteArray).data.toList = t.word := by simp
  rw [e9] at HLv
  clear e9
  obtain ⟨D, hD⟩ : ∃ D, decide (1 ≤ lvl t.word) = D := ⟨_, rfl⟩
  rw [hD] at HM
  have hD2 : decide (0 < lvl t.word) = D := hD
  clear hD
  cases O with
  | true =>
    cases RB with
    | true =>
      go_enter Tryd.func38, Tryd.ntmps38
      go_wp2_with fail
      refine (HO.out _).mono ?_; rintro e w1 ⟨rfl, b1⟩
      have k10 := keep_fresh b1 0 (v := .int .i64 t.kind) rfl
      have k11 := keep_fresh b1 1 (v := .int .i64 t.num) rfl
      have k12 := keep_fresh b1 2 (v := .int .i64 t.c1) rfl
      have k13 := keep_fresh b1 3 (v := .int .i64 t.r1) rfl
      have k14 := keep_fresh b1 4 (v := .int .i64 t.c2) rfl
      have k15 := keep_fresh b1 5 (v := .int .i64 t.r2) rfl
      have k16 := keep_fresh b1 6 (v := .string ⟨t.word.toArray⟩) rfl
      have k17 := keep_fresh b1 7 (v := .slice A t.kids.length cap) rfl
      have h1 : Below w.heap.size w w1 := ((Below.refl _ _).alloc (Nat.le_refl _) _).trans (b1.mono (by simp))
      clear b1 
      go_wp2_with fail
      refine (HA2.out _ _ (HK.out.kept (Kept.of_below h1))).mono ?_; rintro e w2 ⟨rfl, b2⟩
      have k20 := keep_cell b2 k10
      have k21 := keep_cell b2 k11
      have k22 := keep_cell b2 k12
      have k23 := keep_cell b2 k13
      have k24 := keep_cell b2 k14
      have k25 := keep_cell b2 k15
      have k26 := keep_cell b2 k16
      have k27 := keep_cell b2 k17
      have h2 := h1.trans (b2.mono h1.size)
      clear b2 k10 k11 k12 k13 k14 k15 k16 k17
      go_wp2_with fail
      refine (HLv.out _).mono ?_; rintro e v ⟨rfl, rfl⟩
      go_wp2_with fail
      go_ret
      exact ⟨by rw [HM.out]; rfl, h2⟩
    | false =>
      go_enter Tryd.func38, Tryd.ntmps38
      go_wp2_with fail
      refine (HO.out _).mono ?_; rintro e w1 ⟨rfl, b1⟩
      have k10 := keep_fresh b1 0 (v := .int .i64 t.kind) rfl
      have k11 := keep_fresh b1 1 (v := .int .i64 t.num) rfl
      have k12 := keep_fresh b1 2 (v := .int .i64 t.c1) rfl
      have k13 := keep_fresh b1 3 (v := .int .i64 t.r1) rfl
      have k14 := keep_fresh b1 4 (v := .int .i64 t.c2) rfl
      have k15 := keep_fresh b1 5 (v := .int .i64 t.r2) rfl
      have k16 := keep_fresh b1 6 (v := .string ⟨t.word.toArray⟩) rfl
      have k17 := keep_fresh b1 7 (v := .slice A t.kids.length cap) rfl
      have h1 : Below w.heap.size w w1 := ((Below.refl _ _).alloc (Nat.le_refl _) _).trans (b1.mono (by simp))
      clear b1 
      go_wp2_with fail
      refine (HA2.out _ _ (HK.out.kept (Kept.of_below h1))).mono ?_; rintro e w2 ⟨rfl, b2⟩
      have k20 := keep_cell b2 k10
      have k21 := keep_cell b2 k11
      have k22 := keep_cell b2 k12
      have k23 := keep_cell b2 k13
      have k24 := keep_cell b2 k14
      have k25 := keep_cell b2 k15
      have k26 := keep_cell b2 k16
      have k27 := keep_cell b2 k17
      have h2 := h1.trans (b2.mono h1.size)
      clear b2 k10 k11 k12 k13 k14 k15 k16 k17
      go_wp2_with fail
      go_ret
      exact ⟨by rw [HM.out]; rfl, h2⟩
  | false =>
    cases RB with
    | true =>
      go_enter Tryd.func38, Tryd.ntmps38
      go_wp2_with fail
      refine (HO.out _).mono ?_; rintro e w1 ⟨rfl, b1⟩
      have k10 := keep_fresh b1 0 (v := .int .i64 t.kind) rfl
      have k11 := keep_fresh b1 1 (v := .int .i64 t.num) rfl
      have k12 := keep_fresh b1 2 (v := .int .i64 t.c1) rfl
      have k13 := keep_fresh b1 3 (v := .int .i64 t.r1) rfl
      have k14 := keep_fresh b1 4 (v := .int .i64 t.c2) rfl
      have k15 := keep_fresh b1 5 (v := .int .i64 t.r2) rfl
      have k16 := keep_fresh b1 6 (v := .string ⟨t.word.toArray⟩) rfl
      have k17 := keep_fresh b1 7 (v := .slice A t.kids.length cap) rfl
      have h1 : Below w.heap.size w w1 := ((Below.refl _ _).alloc (Nat.le_refl _) _).trans (b1.mono (by simp))
      clear b1 
      go_wp2_with fail
      refine (HA2.out _ _ (HK.out.kept (Kept.of_below h1))).mono ?_; rintro e w2 ⟨rfl, b2⟩
      have k20 := keep_cell b2 k10
      have k21 := keep_cell b2 k11
      have k22 := keep_cell b2 k12
      have k23 := keep_cell b2 k13
      have k24 := keep_cell b2 k14
      have k25 := keep_cell b2 k15
      have k26 := keep_cell b2 k16
      have k27 := keep_cell b2 k17
      have h2 := h1.trans (b2.mono h1.size)
      clear b2 k10 k11 k12 k13 k14 k15 k16 k17
      go_wp2_with fail
      go_ret
      exact ⟨by rw [HM.out]; rfl, h2⟩
    | false =>
      go_enter Tryd.func38, Tryd.ntmps38
      go_wp2_with fail
      refine (HO.out _).mono ?_; rintro e w1 ⟨rfl, b1⟩
      have k10 := keep_fresh b1 0 (v := .int .i64 t.kind) rfl
      have k11 := keep_fresh b1 1 (v := .int .i64 t.num) rfl
      have k12 := keep_fresh b1 2 (v := .int .i64 t.c1) rfl
      have k13 := keep_fresh b1 3 (v := .int .i64 t.r1) rfl
      have k14 := keep_fresh b1 4 (v := .int .i64 t.c2) rfl
      have k15 := keep_fresh b1 5 (v := .int .i64 t.r2) rfl
      have k16 := keep_fresh b1 6 (v := .string ⟨t.word.toArray⟩) rfl
      have k17 := keep_fresh b1 7 (v := .slice A t.kids.length cap) rfl
      have h1 : Below w.heap.size w w1 := ((Below.refl _ _).alloc (Nat.le_refl _) _).trans (b1.mono (by simp))
      clear b1 
      go_wp2_with fail
      refine (HA2.out _ _ (HK.out.kept (Kept.of_below h1))).mono ?_; rintro e w2 ⟨rfl, b2⟩
      have k20 := keep_cell b2 k10
      have k21 := keep_cell b2 k11
      have k22 := keep_cell b2 k12
      have k23 := keep_cell b2 k13
      have k24 := keep_cell b2 k14
      have k25 := keep_cell b2 k15
      have k26 := keep_cell b2 k16
      have k27 := keep_cell b2 k17
      have h2 := h1.trans (b2.mono h1.size)
      clear b2 k10 k11 k12 k13 k14 k15 k16 k17
      go_wp2_with fail
      go_ret
      exact ⟨by rw [HM.out]; rfl, h2⟩
end Go.Proofs.YthaoalmhhgllmaaDoor
namespace Go.Proofs.YthaoalmhhgllmaaDoor
open Go.RowKit
set_option maxHeartbeats 4000000 in
set_option maxRecDepth 10000 in
theorem come_0 {l : List Cel} (hl : l.length ≤ maxLen) (t : Tr) (hlen : t.kids.length ≤ 1000000) (h : t.kind = 0) : ComeC l t := by
  intro w P A cap LA lc hk hc
  have HE : Hid (cmT l t = (t.num, 0)) := Lib.hid (cm_num h)
  have s0 : (t.kind == 0) = true := by rw [h]; rfl
  have s1 : (t.kind == 1) = false := by rw [h]; rfl
  have s3 : (t.kind == 3) = false := by rw [h]; rfl
  have s4 : (t.kind == 4) = false := by rw [h]; rfl
  have s5 : (t.kind == 5) = false := by rw [h]; rfl
  have hb0 : Below (w.heap.size + 1 + 1) ((w.alloc (.cells #[.int .i64 t.kind, .int .i64 t.num, .int .i64 t.c1, .int .i64 t.r1, .int .i64 t.c2, .int .i64 t.r2, .string ⟨t.word.toArray⟩, .slice A t.kids.length cap] 29)).alloc (.cells #[.int .i64 0, .int .i64 0] 53)) ((w.alloc (.cells #[.int .i64 t.kind, .int .i64 t.num, .int .i64 t.c1, .int .i64 t.r1, .int .i64 t.c2, .int .i64 t.r2, .string ⟨t.word.toArray⟩, .slice A t.kids.length cap] 29)).alloc (.cells #[.int .i64 0, .int .i64 0] 53)) := Below.refl _ _
  obtain ⟨⟨k0, k1, k2, k3, k4, k5, k6, k7⟩, ⟨kr0, kr1, kf0, kf1⟩, kz0, kz1, kb⟩ := par8 hb0
  have HLL := Lib.hid hl
  clear h hl
  clear k0 k1 k2 k3 k4 k5 k6 k7 kr0 kr1 kf0 kf1 kb kz0 kz1 hb0 hk hc
  go_enter Tryd.func28, Tryd.ntmps28
  go_wp2_with fail
  exact bodyPost_ret (v := .agg #[.int .i64 t.num, .int .i64 0]) (by simp [results, Tryd.results28, go_sem]) rfl
    ⟨by rw [HE.out], (((Below.refl _ _).alloc (Nat.le_refl _) _).alloc (by simp) _)⟩
set_option maxHeartbeats 4000000 in
set_option maxRecDepth 10000 in
theorem come_no {l : List Cel} (hl : l.length ≤ maxLen) (t : Tr) (hlen : t.kids.length ≤ 1000000) (n0 : t.kind ≠ 0) (n1 : t.kind ≠ 1) (n3 : t.kind ≠ 3) (n4 : t.kind ≠ 4) (n5 : t.kind ≠ 5) (h : t.kind = 2 ∨ t.kind = 6) : ComeC l t := by
  intro w P A cap LA lc hk hc
  have HE : Hid (cmT l t = (0, 3)) := Lib.hid (cm_bad h)
  have s0 : (t.kind == 0) = false := by rw [beq_eq_false_iff_ne]; exact n0
  have s1 : (t.kind == 1) = false := by rw [beq_eq_false_iff_ne]; exact n1
  have s3 : (t.kind == 3) = false := by rw [beq_eq_false_iff_ne]; exact n3
  have s4 : (t.kind == 4) = false := by rw [beq_eq_false_iff_ne]; exact n4
  have s5 : (t.kind == 5) = false := by rw [beq_eq_false_iff_ne]; exact n5
  have hb0 : Below (w.heap.size + 1 + 1) ((w.alloc (.cells #[.int .i64 t.kind, .int .i64 t.num, .int .i64 t.c1, .int .i64 t.r1, .int .i64 t.c2, .int .i64 t.r2, .string ⟨t.word.toArray⟩, .slice A t.kids.length cap] 29)).alloc (.cells #[.int .i64 0, .int .i64 0] 53)) ((w.alloc (.cells #[.int .i64 t.kind, .int .i64 t.num, .int .i64 t.c1, .int .i64 t.r1, .int .i64 t.c2, .int .i64 t.r2, .string ⟨t.word.toArray⟩, .slice A t.kids.length cap] 29)).alloc (.cells #[.int .i64 0, .int .i64 0] 53)) := Below.refl _ _
  obtain ⟨⟨k0, k1, k2, k3, k4, k5, k6, k7⟩, ⟨kr0, kr1, kf0, kf1⟩, kz0, kz1, kb⟩ := par8 hb0
  have HLL := Lib.hid hl
  clear h hl n0 n1 n3 n4 n5
  clear k0 k1 k2 k3 k4 k5 k6 k7 kr0 kr1 kf0 kf1 kb kz0 kz1 hb0 hk hc
  go_enter Tryd.func28, Tryd.ntmps28
  go_wp2_with fail
  exact bodyPost_ret (v := .agg #[.int .i64 0, .int .i64 3]) (by simp [results, Tryd.results28, go_sem]) rfl
    ⟨by rw [HE.out], (((Below.refl _ _).alloc (Nat.le_refl _) _).alloc (by simp) _)⟩
set_option maxHeartbeats 4000000 in
set_option maxRecDepth 10000 in
theorem come_1 {l : List Cel} (hl : l.length ≤ maxLen) (t : Tr) (hlen : t.kids.length ≤ 1000000) (h : t.kind = 1) : ComeC l t := by
  intro w P A cap LA lc hk hc
  have HE : Hid (cmT l t = (oN (cAt t.c1 t.r1 l), oF (cAt t.c1 t.r1 l))) := Lib.hid (cm_read h)
  have s0 : (t.kind == 0) = false := by rw [h]; rfl
  have s1 : (t.kind == 1) = true := by rw [h]; rfl
  have s3 : (t.kind == 3) = false := by rw [h]; rfl
  have s4 : (t.kind == 4) = false := by rw [h]; rfl
  have s5 : (t.kind == 5) = false := by rw [h]; rfl
  have hb0 : Below (w.heap.size + 1 + 1) ((w.alloc (.cells #[.int .i64 t.kind, .int .i64 t.num, .int .i64 t.c1, .int .i64 t.r1, .int .i64 t.c2, .int .i64 t.r2, .string ⟨t.word.toArray⟩, .slice A t.kids.length cap] 29)).alloc (.cells #[.int .i64 0, .int .i64 0] 53)) ((w.alloc (.cells #[.int .i64 t.kind, .int .i64 t.num, .int .i64 t.c1, .int .i64 t.r1, .int .i64 t.c2, .int .i64 t.r2, .string ⟨t.word.toArray⟩, .slice A t.kids.length cap] 29)).alloc (.cells #[.int .i64 0, .int .i64 0] 53)) := Below.refl _ _
  obtain ⟨⟨k0, k1, k2, k3, k4, k5, k6, k7⟩, ⟨kr0, kr1, kf0, kf1⟩, kz0, kz1, kb⟩ := par8 hb0
  have HLL := Lib.hid hl
  have HA := Lib.hid (rAt_any l hl LA lc t.c1 t.r1 _ (hc.below kb))
  clear h hl hk hc kb kz0 kz1 k0 k1 k2 k3 k4 k5 k6 k7 kr0 kr1 kf0 kf1
  generalize oN (cAt t.c1 t.r1 l) = X at *
  generalize oF (cAt t.c1 t.r1 l) = Y at *
  generalize (cAt t.c1 t.r1 l).isSome = Z at *
  go_enter Tryd.func28, Tryd.ntmps28
  go_wp2_with fail
  refine Calls.mono HA.out ?_; rintro e w1 ⟨rfl, b1⟩
  have hb1 := hb0.trans (b1.mono (by simp))
  obtain ⟨⟨m0, m1, m2, m3, m4, m5, m6, m7⟩, ⟨mr0, mr1, mf0, mf1⟩, mz0, mz1, mb⟩ := par8 hb1
  clear b1 hb1 m0 m1 m2 m3 m4 m5 m6 m7 mz0
  go_wp2_with fail
  exact bodyPost_ret (v := .agg #[.int .i64 X, .int .i64 Y]) (by simp [results, Tryd.results28, go_sem, mr0, mr1, mz1, mf0, mf1]) rfl
    ⟨by rw [HE.out], (by repeat' (first | with_reducible assumption | exact Nat.le_succ _ | with_reducible exact Nat.le_refl _ | with_reducible refine Below.setCell ?_ ?_ _ | with_reducible refine Below.alloc ?_ ?_ _ | (simp; omega)))⟩
set_option maxHeartbeats 4000000 in
set_option maxRecDepth 10000 in
theorem come_3 {l : List Cel} (hl : l.length ≤ maxLen) (t a : Tr) (hlen : t.kids.length ≤ 1000000) (h : t.kind = 3) (h0 : t.kids[0]? = some a) (ih : ComeC l a) (hb : B64 (cmT l a).1) : ComeC l t := by
  intro w P A cap LA lc hk hc
  have HE : Hid (cmT l t = (doNum [45] 0 0 (cmT l a).1 (cmT l a).2, doFault [45] 0 0 (cmT l a).1 (cmT l a).2)) := Lib.hid (cm_neg h h0)
  have s0 : (t.kind == 0) = false := by rw [h]; rfl
  have s1 : (t.kind == 1) = false := by rw [h]; rfl
  have s3 : (t.kind == 3) = true := by rw [h]; rfl
  have s4 : (t.kind == 4) = false := by rw [h]; rfl
  have s5 : (t.kind == 5) = false := by rw [h]; rfl
  obtain ⟨g, o, rfl⟩ := hk.addr h0
  have HK := Lib.hid hk
  have Ha := Lib.hid h0
  have l0 : 0 < t.kids.length := (List.getElem?_eq_some_iff.1 h0).1
  have HN := Lib.hid (fun w => vneg_any (cmT l a).1 (cmT l a).2 hb w)
  have hb0 : Below (w.heap.size + 1 + 1) ((w.alloc (.cells #[.int .i64 t.kind, .int .i64 t.num, .int .i64 t.c1, .int .i64 t.r1, .int .i64 t.c2, .int .i64 t.r2, .string ⟨t.word.toArray⟩, .slice (some ⟨g, o, none⟩) t.kids.length cap] 29)).alloc (.cells #[.int .i64 0, .int .i64 0] 53)) ((w.alloc (.cells #[.int .i64 t.kind, .int .i64 t.num, .int .i64 t.c1, .int .i64 t.r1, .int .i64 t.c2, .int .i64 t.r2, .string ⟨t.word.toArray⟩, .slice (some ⟨g, o, none⟩) t.kids.length cap] 29)).alloc (.cells #[.int .i64 0, .int .i64 0] 53)) := Below.refl _ _
  obtain ⟨⟨k0, k1, k2, k3, k4, k5, k6, k7⟩, ⟨kr0, kr1, kf0, kf1⟩, kz0, kz1, kb⟩ := par8 hb0
  obtain ⟨hga, Aa, ca, ⟨q0, q1, q2, q3, q4, q5, q6, q7⟩, hka⟩ := HK.out.kidAt kb Ha.out
  simp only [Nat.zero_mul, Nat.add_zero] at q0 q1 q2 q3 q4 q5 q6 q7
  have HC0 := Lib.hid (ih _ _ Aa ca LA lc hka (hc.below kb))
  clear hk hc hl h h0 ih hb hka hga kb kz0 kz1 k0 k1 k2 k3 k4 k5 k6 k7 kr0 kr1 kf0 kf1
  generalize doNum [45] 0 0 (cmT l a).1 (cmT l a).2 = X at *
  generalize doFault [45] 0 0 (cmT l a).1 (cmT l a).2 = Y at *
  go_enter Tryd.func28, Tryd.ntmps28
  go_wp2_with fail
  refine Calls.mono HC0.out ?_; rintro e w1 ⟨rfl, b1⟩
  have hb1 := hb0.trans (b1.mono (by simp))
  clear b1 q0 q1 q2 q3 q4 q5 q6 q7
  go_wp2_with fail
  refine Calls.mono (HN.out _) ?_; rintro e w2 ⟨rfl, b2⟩
  have hb2 := hb1.trans (b2.mono (by have := hb1.size; simpa using this))
  obtain ⟨⟨n0, n1, n2, n3, n4, n5, n6, n7⟩, ⟨nr0, nr1, nf0, nf1⟩, nz0, nz1, nb⟩ := par8 hb2
  clear b2 hb1 hb2 n0 n1 n2 n3 n4 n5 n6 n7 nz0
  go_wp2_with fail
  exact bodyPost_ret (v := .agg #[.int .i64 X, .int .i64 Y]) (by simp [results, Tryd.results28, go_sem, nr0, nr1, nz1, nf0, nf1]) rfl
    ⟨by rw [HE.out], (by repeat' (first | with_reducible assumption | exact Nat.le_succ _ | with_reducible exact Nat.le_refl _ | with_reducible refine Below.setCell ?_ ?_ _ | with_reducible refine Below.alloc ?_ ?_ _ | (simp; omega)))⟩
set_option maxHeartbeats 4000000 in
set_option maxRecDepth 10000 in
theorem come_4 {l : List Cel} (hl : l.length ≤ maxLen) (t a b : Tr) (hlen : t.kids.length ≤ 1000000) (h : t.kind = 4) (h0 : t.kids[0]? = some a) (h1 : t.kids[1]? = some b) (iha : ComeC l a) (ihb : ComeC l b) (hba : B64 (cmT l a).1) (hbb : B64 (cmT l b).1) : ComeC l t := by
  intro w P A cap LA lc hk hc
  have HE : Hid (cmT l t = (doNum t.word (cmT l a).1 (cmT l a).2 (cmT l b).1 (cmT l b).2, doFault t.word (cmT l a).1 (cmT l a).2 (cmT l b).1 (cmT l b).2)) := Lib.hid (cm_op h h0 h1)
  have s0 : (t.kind == 0) = false := by rw [h]; rfl
  have s1 : (t.kind == 1) = false := by rw [h]; rfl
  have s3 : (t.kind == 3) = false := by rw [h]; rfl
  have s4 : (t.kind == 4) = true := by rw [h]; rfl
  have s5 : (t.kind == 5) = false := by rw [h]; rfl
  obtain ⟨g, o, rfl⟩ := hk.addr h0
  have HK := Lib.hid hk
  have Ha := Lib.hid h0
  have Hb := Lib.hid h1
  have HC := Lib.hid hc
  have l1 : 1 < t.kids.length := (List.getElem?_eq_some_iff.1 h1).1
  have HD := Lib.hid (fun w => vdo_any ⟨t.word.toArray⟩ (cmT l a).1 (cmT l a).2 (cmT l b).1 (cmT l b).2 hba hbb w)
  rw [show (⟨t.word.toArray⟩ : ByteArray).data.toList = t.word from rfl] at HD
  have hb0 : Below (w.heap.size + 1 + 1) ((w.alloc (.cells #[.int .i64 t.kind, .int .i64 t.num, .int .i64 t.c1, .int .i64 t.r1, .int .i64 t.c2, .int .i64 t.r2, .string ⟨t.word.toArray⟩, .slice (some ⟨g, o, none⟩) t.kids.length cap] 29)).alloc (.cells #[.int .i64 0, .int .i64 0] 53)) ((w.alloc (.cells #[.int .i64 t.kind, .int .i64 t.num, .int .i64 t.c1, .int .i64 t.r1, .int .i64 t.c2, .int .i64 t.r2, .string ⟨t.word.toArray⟩, .slice (some ⟨g, o, none⟩) t.kids.length cap] 29)).alloc (.cells #[.int .i64 0, .int .i64 0] 53)) := Below.refl _ _
  obtain ⟨⟨k0, k1, k2, k3, k4, k5, k6, k7⟩, ⟨kr0, kr1, kf0, kf1⟩, kz0, kz1, kb⟩ := par8 hb0
  obtain ⟨hga, Aa, ca, ⟨q0, q1, q2, q3, q4, q5, q6, q7⟩, hka⟩ := HK.out.kidAt kb Ha.out
  simp only [Nat.zero_mul, Nat.add_zero] at q0 q1 q2 q3 q4 q5 q6 q7
  have HC0 := Lib.hid (iha _ _ Aa ca LA lc hka (hc.below kb))
  clear hk hc hl h h0 h1 iha hba hbb hka hga kz0 kz1 k0 k1 k2 k3 k4 k5 k6 k7 kr0 kr1 kf0 kf1
  generalize doNum t.word (cmT l a).1 (cmT l a).2 (cmT l b).1 (cmT l b).2 = X at *
  generalize doFault t.word (cmT l a).1 (cmT l a).2 (cmT l b).1 (cmT l b).2 = Y at *
  generalize (vOp t.word (cmT l a).1 (cmT l b).1).isSome = Z at *
  go_enter Tryd.func28, Tryd.ntmps28
  go_wp2_with fail
  refine Calls.mono HC0.out ?_; rintro e w1 ⟨rfl, b1⟩
  have hb1 := hb0.trans (b1.mono (by simp))
  obtain ⟨⟨m0, m1, m2, m3, m4, m5, m6, m7⟩, ⟨mr0, mr1, mf0, mf1⟩, mz0, mz1, mb⟩ := par8 hb1
  obtain ⟨hgb, Ab, cb, ⟨p0, p1, p2, p3, p4, p5, p6, p7⟩, hkb⟩ := HK.out.kidAt mb Hb.out
  simp only [Nat.one_mul, Nat.add_assoc, Nat.reduceAdd] at p0 p1 p2 p3 p4 p5 p6 p7
  have HC1 := Lib.hid fun ob => ihb (w1.alloc ob) _ Ab cb LA lc (hkb.kept (Kept.of_below ((Below.refl _ w1).alloc (Nat.le_refl _) ob))) ((HC.out.below mb).below ((Below.refl _ w1).alloc (Nat.le_refl _) ob))
  have zg : g < w1.heap.size := Lib.lt_of_cell p0
  clear b1 q0 q1 q2 q3 q4 q5 q6 q7 kb hkb hgb ihb
  go_wp2_with fail
  refine Calls.mono (HC1.out _) ?_; rintro e w2 ⟨rfl, b2⟩
  have hb2 := (hb1.alloc (by omega) _).trans (b2.mono (by simp; omega))
  have e0 := keep_fresh b2 0 (v := .int .i64 (cmT l a).1) rfl
  have e1 := keep_fresh b2 1 (v := .int .i64 (cmT l a).2) rfl
  obtain ⟨⟨n0, n1, n2, n3, n4, n5, n6, n7⟩, ⟨nr0, nr1, nf0, nf1⟩, nz0, nz1, nb⟩ := par8 hb2
  have zw : w1.heap.size < w2.heap.size := Lib.lt_of_cell e0
  clear b2 hb1 m0 m1 m2 m3 m4 m5 m6 m7 mr0 mr1 mf0 mf1 mb p0 p1 p2 p3 p4 p5 p6 p7 HC0 HC1
  go_wp2_with fail
  refine Calls.mono (HD.out _) ?_; rintro e w3 ⟨rfl, b3⟩
  have hb3 := (hb2.alloc (by omega) _).trans (b3.mono (by simp; omega))
  obtain ⟨⟨r0, r1, r2, r3, r4, r5, r6, r7⟩, ⟨rr0, rr1, rf0, rf1⟩, rz0, rz1, rb⟩ := par8 hb3
  clear b3 hb2 hb3 n0 n1 n2 n3 n4 n5 n6 n7 nr0 nr1 nf0 nf1 nb e0 e1 r0 r1 r2 r3 r4 r5 r6 r7 nz0 mz0 nz1 mz1
  go_wp2_with fail
  exact bodyPost_ret (v := .agg #[.int .i64 X, .int .i64 Y]) (by simp [results, Tryd.results28, go_sem, rr0, rr1, rz1, rf0, rf1]) rfl
    ⟨by rw [HE.out], (by repeat' (first | with_reducible assumption | exact Nat.le_succ _ | with_reducible exact Nat.le_refl _ | with_reducible refine Below.setCell ?_ ?_ _ | with_reducible refine Below.alloc ?_ ?_ _ | (simp; omega)))⟩
set_option maxHeartbeats 4000000 in
set_option maxRecDepth 10000 in
theorem come_5 {l : List Cel} (hl : l.length ≤ maxLen) (t : Tr) (hlen : t.kids.length ≤ 1000000) (h : t.kind = 5) (ih : CallCm l t) : ComeC l t := by
  intro w P A cap LA lc hk hc
  have s0 : (t.kind == 0) = false := by rw [h]; rfl
  have s1 : (t.kind == 1) = false := by rw [h]; rfl
  have s3 : (t.kind == 3) = false := by rw [h]; rfl
  have s4 : (t.kind == 4) = false := by rw [h]; rfl
  have s5 : (t.kind == 5) = true := by rw [h]; rfl
  have hb0 : Below (w.heap.size + 1 + 1) ((w.alloc (.cells #[.int .i64 t.kind, .int .i64 t.num, .int .i64 t.c1, .int .i64 t.r1, .int .i64 t.c2, .int .i64 t.r2, .string ⟨t.word.toArray⟩, .slice A t.kids.length cap] 29)).alloc (.cells #[.int .i64 0, .int .i64 0] 53)) ((w.alloc (.cells #[.int .i64 t.kind, .int .i64 t.num, .int .i64 t.c1, .int .i64 t.r1, .int .i64 t.c2, .int .i64 t.r2, .string ⟨t.word.toArray⟩, .slice A t.kids.length cap] 29)).alloc (.cells #[.int .i64 0, .int .i64 0] 53)) := Below.refl _ _
  obtain ⟨⟨k0, k1, k2, k3, k4, k5, k6, k7⟩, ⟨kr0, kr1, kf0, kf1⟩, kz0, kz1, kb⟩ := par8 hb0
  have HC0 := Lib.hid (ih _ P A cap LA lc (hk.kept (Kept.of_below kb)) (hc.below kb))
  have HLL := Lib.hid hl
  clear hk hc hl h ih kb kz0 kz1 k0 k1 k2 k3 k4 k5 k6 k7 kr0 kr1 kf0 kf1
  generalize cmT l t = X at *
  go_enter Tryd.func28, Tryd.ntmps28
  go_wp2_with fail
  refine Calls.mono HC0.out ?_; rintro e w1 ⟨rfl, b1⟩
  have hb1 := hb0.trans (b1.mono (by simp))
  obtain ⟨⟨m0, m1, m2, m3, m4, m5, m6, m7⟩, ⟨mr0, mr1, mf0, mf1⟩, mz0, mz1, mb⟩ := par8 hb1
  clear b1 hb1 m0 m1 m2 m3 m4 m5 m6 m7 mz0
  go_wp2_with fail
  exact bodyPost_ret (v := .agg #[.int .i64 X.1, .int .i64 X.2]) (by simp [results, Tryd.results28, go_sem, mr0, mr1, mz1, mf0, mf1]) rfl
    ⟨rfl, (by repeat' (first | with_reducible assumption | exact Nat.le_succ _ | with_reducible exact Nat.le_refl _ | with_reducible refine Below.setCell ?_ ?_ _ | with_reducible refine Below.alloc ?_ ?_ _ | (simp; omega)))⟩
theorem kids_3 {t : Tr} (hm : mayB t = true) (h : t.kind = 3) : ∃ a, t.kids = [a] := by
  rw [may_3 h, Bool.and_eq_true] at hm
  obtain ⟨k, n, c, r, d, s, w, ks⟩ := t
  have h1 := hm.1
  unfold onlyB at h1
  simp only [Bool.and_eq_true, beq_iff_eq] at h1
  exact List.length_eq_one_iff.1 h1.2.2.2
theorem kids_4 {t : Tr} (hm : mayB t = true) (h : t.kind = 4) : ∃ a b, t.kids = [a, b] := by
  rw [may_4 h, Bool.and_eq_true] at hm
  obtain ⟨k, n, c, r, d, s, w, ks⟩ := t
  have h1 := hm.1
  unfold onlyB at h1
  simp only [Bool.and_eq_true, beq_iff_eq] at h1
  have h2 := h1.2.2.2
  show ∃ a b, ks = [a, b]
  match ks, h2 with
  | [a, b], _ => exact ⟨a, b, rfl⟩
theorem kids_5 {t : Tr} (hm : mayB t = true) (h : t.kind = 5) : (t.word = [73, 70] ∧ ∃ a b c, t.kids = [a, b, c]) ∨ t.word = [83, 85, 77] ∨ t.word = [77, 73, 78] ∨ t.word = [77, 65, 88] ∨ t.word = [67, 79, 85, 78, 84] := by
  rw [may_5 h, Bool.and_eq_true, Bool.and_eq_true] at hm
  have h2 := hm.2.2
  by_cases hw : t.word = [73, 70]
  · rw [if_pos hw, beq_iff_eq] at h2
    refine .inl ⟨hw, ?_⟩
    obtain ⟨k, n, c, r, d, s, w, ks⟩ := t
    show ∃ a b c, ks = [a, b, c]
    match ks, h2 with
    | [a, b, c], _ => exact ⟨a, b, c, rfl⟩
  · rw [if_neg hw] at h2
    split at h2
    · rename_i h3; exact .inr h3
    · cases h2
theorem may_kinds {t : Tr} (hm : mayB t = true) : t.kind = 0 ∨ t.kind = 1 ∨ t.kind = 2 ∨ t.kind = 6 ∨ t.kind = 3 ∨ t.kind = 4 ∨ t.kind = 5 := by
  by_cases h0 : t.kind = 0
  · exact .inl h0
  by_cases h1 : t.kind = 1
  · exact .inr (.inl h1)
  by_cases h2 : t.kind = 2
  · exact .inr (.inr (.inl h2))
  by_cases h6 : t.kind = 6
  · exact .inr (.inr (.inr (.inl h6)))
  by_cases h3 : t.kind = 3
  · exact .inr (.inr (.inr (.inr (.inl h3))))
  by_cases h4 : t.kind = 4
  · exact .inr (.inr (.inr (.inr (.inr (.inl h4)))))
  by_cases h5 : t.kind = 5
  · exact .inr (.inr (.inr (.inr (.inr (.inr h5)))))
  rw [may_no h0 h1 h2 h6 h3 h4 h5] at hm
  cases hm
theorem rcome_any {l : List Cel} (hl : l.length ≤ maxLen) (hcb : ∀ q ∈ l, B64 q.n) : ∀ {t : Tr}, Wid t → GE t → ComeC l t := by
  intro t hW
  induction hW with
  | @mk k n c r d s w ks hlw _ ih =>
    intro ge
    have hlen := ge.len
    have ihk : ∀ u ∈ ks, ComeC l u := fun u hu => ih u hu (ge.kid hu)
    rcases may_kinds ge.may with h | h | h | h | h | h | h
    · exact come_0 hl _ hlen h
    · exact come_1 hl _ hlen h
    · exact come_no hl _ hlen (by rw [h]; decide) (by rw [h]; decide) (by rw [h]; decide) (by rw [h]; decide) (by rw [h]; decide) (.inl h)
    · exact come_no hl _ hlen (by rw [h]; decide) (by rw [h]; decide) (by rw [h]; decide) (by rw [h]; decide) (by rw [h]; decide) (.inr h)
    · obtain ⟨a, ha⟩ := kids_3 ge.may h
      have ha : ks = [a] := ha
      subst ha
      exact come_3 hl _ a hlen h rfl (ihk a (by simp)) ((ge.kid (List.mem_cons_self ..)).b64 hcb)
    · obtain ⟨a, b, ha⟩ := kids_4 ge.may h
      have ha : ks = [a, b] := ha
      subst ha
      exact come_4 hl _ a b hlen h rfl rfl (ihk a (by simp)) (ihk b (by simp)) ((ge.kid (u := a) (by show a ∈ [a, b]; simp)).b64 hcb) ((ge.kid (u := b) (by show b ∈ [a, b]; simp)).b64 hcb)
    · refine come_5 hl _ hlen h ?_
      have hi := items_of hl (.mk k n c r d s w ks) hlen ihk
      rcases kids_5 ge.may h with ⟨hw, x, y, z, ha⟩ | hw | hw | hw | hw
      · have ha : ks = [x, y, z] := ha
        subst ha
        by_cases hf : (cmT l x).2 = 0
        · by_cases hn : (cmT l x).1 = 0
          · exact call_ifN hl _ x y z hlen h hw rfl rfl rfl ihk hf hn
          · exact call_ifY hl _ x y z hlen h hw rfl rfl rfl ihk hf hn
        · exact call_ifF hl _ x y z hlen h hw rfl rfl rfl ihk hf
      · exact call_SUM hl _ ge hcb h hw hi
      · exact call_MIN hl _ ge hcb h hw hi
      · exact call_MAX hl _ ge hcb h hw hi
      · exact call_COUNT hl _ ge h hw hi
end Go.Proofs.YthaoalmhhgllmaaDoor
