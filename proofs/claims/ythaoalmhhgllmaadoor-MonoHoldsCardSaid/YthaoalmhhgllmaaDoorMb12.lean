/- Texts joined: TrX. -/
import Derived.Test.YthaoalmhhgllmaaDoorMb11
import Derived.Test.YthaoalmhhgllmaaDoorMb02
import Derived.Test.YthaoalmhhgllmaaDoorMb10
set_option linter.all false
namespace Go.Proofs.YthaoalmhhgllmaaDoor
open Go.RowKit
set_option maxHeartbeats 2000000 in
set_option maxRecDepth 10000 in
theorem rmay_5IF (t : Tr) (w : World) (A : Option Addr) (cap : Nat) {d : Nat} (ih : MayC d) (hd : deepL t.kids ≤ d) (hw : Wid t) (P : Nat → Prop) (hk : KV w P t A) (hwd : t.word = [73, 70]) (h : t.kind = 5) : Calls Tryd.prog 38 #[tv t A cap] w fun e w' => e = .returned (.bool (mayB t)) ∧ Below w.heap.size w w' := by
  unfold tv
  have HO := Lib.hid fun w => ronly_any t A cap t.kids.length w
  unfold tv at HO
  have HM := Lib.hid (may_5 h)
  have s0 : (t.kind == 0) = false := by rw [h]; rfl
  have s1 : (t.kind == 1) = false := by rw [h]; rfl
  have s2 : (t.kind == 2) = false := by rw [h]; rfl
  have s6 : (t.kind == 6) = false := by rw [h]; rfl
  have s3 : (t.kind == 3) = false := by rw [h]; rfl
  have s4 : (t.kind == 4) = false := by rw [h]; rfl
  have s5 : (t.kind == 5) = true := by rw [h]; rfl
  have xIF : (t.word == [73, 70]) = true := by rw [hwd]; rfl
  have xSUM : (t.word == [83, 85, 77]) = false := by rw [hwd]; rfl
  have xMIN : (t.word == [77, 73, 78]) = false := by rw [hwd]; rfl
  have xMAX : (t.word == [77, 65, 88]) = false := by rw [hwd]; rfl
  have xCOUNT : (t.word == [67, 79, 85, 78, 84]) = false := by rw [hwd]; rfl
  have xN : (t.word != [73, 70]) = false := by rw [bne, xIF]; rfl
  have HM2 : Hid (mayB t = (onlyB t t.kids.length && (allB t.kids false false && (t.kids.length == 3)))) := Lib.hid (by
    rw [may_5 h, xN, xCOUNT]
    congr 2
    rw [if_pos hwd])
  clear HM
  clear hwd
  clear h
  have HK := Lib.hid hk
  have HAl := Lib.hid fun (a b : Bool) (w : World) (P : Nat → Prop) hk => rall_any ih t hd hw a b w P A cap hk
  unfold tv at HAl
  clear ih hd hw hk
  generalize onlyB t t.kids.length = O at *
  have HA2 := Lib.hid (HAl.out false false)
  clear HAl
  generalize allB t.kids false false = RB at *
  obtain ⟨D, hD⟩ : ∃ D, (t.kids.length == 3) = D := ⟨_, rfl⟩
  rw [hD] at HM2
  have hD2 : ((t.kids.length : Int) == 3) = D := by rw [← hD, Bool.eq_iff_iff, beq_iff_eq, beq_iff_eq]; omega
  clear hD
  cases O with
  | true =>
    cases RB with
    | true =>
      cases D with
      | true =>
        go_enter Tryd.func38, Tryd.ntmps38
        go_wp2_with fail
        refine (HO.out _).mono ?_; rintro e w1 ⟨rfl, b1⟩
        have k10 := keep_fresh b1 0 (v := .int .i64 t.kind) rfl
        have k11 := keep_fresh b1 1 (v := .int .i64 t.num) rfl
        have k12 := keep_fresh b1 2 (v := .int .i64 t.c1) rfl
        have k13 := keep_fresh b1 3 (v := .int .i64 t.r1) rfl
        have k14 := keep_fresh b1 4 (v := .int .i64 t.c2) rfl
        have k15 := keep_fresh b1 5 (v := .int .i64 t.r2) rfl
        have k16 := keep_fresh b1 6 (v := .string ⟨t.word.toArray⟩) rfl
        have k17 := keep_fresh b1 7 (v := .slice A t.kids.length cap) rfl
        have h1 : Below w.heap.size w w1 := ((Below.refl _ _).alloc (Nat.le_refl _) _).trans (b1.mono (by simp))
        clear b1 
        go_wp2_with fail
        refine (HA2.out _ _ (HK.out.kept (Kept.of_below h1))).mono ?_; rintro e w2 ⟨rfl, b2⟩
        have k20 := keep_cell b2 k10
        have k21 := keep_cell b2 k11
        have k22 := keep_cell b2 k12
        have k23 := keep_cell b2 k13
        have k24 := keep_cell b2 k14
        have k25 := keep_cell b2 k15
        have k26 := keep_cell b2 k16
        have k27 := keep_cell b2 k17
        have h2 := h1.trans (b2.mono h1.size)
        clear b2 k10 k11 k12 k13 k14 k15 k16 k17
        go_wp2_with fail
        go_ret
        exact ⟨by rw [HM2.out]; rfl, h2⟩
      | false =>
        go_enter Tryd.func38, Tryd.ntmps38
        go_wp2_with fail
        refine (HO.out _).mono ?_; rintro e w1 ⟨rfl, b1⟩
        have k10 := keep_fresh b1 0 (v := .int .i64 t.kind) rfl
        have k11 := keep_fresh b1 1 (v := .int .i64 t.num) rfl
        have k12 := keep_fresh b1 2 (v := .int .i64 t.c1) rfl
        have k13 := keep_fresh b1 3 (v := .int .i64 t.r1) rfl
        have k14 := keep_fresh b1 4 (v := .int .i64 t.c2) rfl
        have k15 := keep_fresh b1 5 (v := .int .i64 t.r2) rfl
        have k16 := keep_fresh b1 6 (v := .string ⟨t.word.toArray⟩) rfl
        have k17 := keep_fresh b1 7 (v := .slice A t.kids.length cap) rfl
        have h1 : Below w.heap.size w w1 := ((Below.refl _ _).alloc (Nat.le_refl _) _).trans (b1.mono (by simp))
        clear b1 
        go_wp2_with fail
        refine (HA2.out _ _ (HK.out.kept (Kept.of_below h1))).mono ?_; rintro e w2 ⟨rfl, b2⟩
        have k20 := keep_cell b2 k10
        have k21 := keep_cell b2 k11
        have k22 := keep_cell b2 k12
        have k23 := keep_cell b2 k13
        have k24 := keep_cell b2 k14
        have k25 := keep_cell b2 k15
        have k26 := keep_cell b2 k16
        have k27 := keep_cell b2 k17
        have h2 := h1.trans (b2.mono h1.size)
        clear b2 k10 k11 k12 k13 k14 k15 k16 k17
        go_wp2_with fail
        go_ret
        exact ⟨by rw [HM2.out]; rfl, h2⟩
    | false =>
      cases D with
      | true =>
        go_enter Tryd.func38, Tryd.ntmps38
        go_wp2_with fail
        refine (HO.out _).mono ?_; rintro e w1 ⟨rfl, b1⟩
        have k10 := keep_fresh b1 0 (v := .int .i64 t.kind) rfl
        have k11 := keep_fresh b1 1 (v := .int .i64 t.num) rfl
        have k12 := keep_fresh b1 2 (v := .int .i64 t.c1) rfl
        have k13 := keep_fresh b1 3 (v := .int .i64 t.r1) rfl
        have k14 := keep_fresh b1 4 (v := .int .i64 t.c2) rfl
        have k15 := keep_fresh b1 5 (v := .int .i64 t.r2) rfl
        have k16 := keep_fresh b1 6 (v := .string ⟨t.word.toArray⟩) rfl
        have k17 := keep_fresh b1 7 (v := .slice A t.kids.length cap) rfl
        have h1 : Below w.heap.size w w1 := ((Below.refl _ _).alloc (Nat.le_refl _) _).trans (b1.mono (by simp))
        clear b1 
        go_wp2_with fail
        refine (HA2.out _ _ (HK.out.kept (Kept.of_below h1))).mono ?_; rintro e w2 ⟨rfl, b2⟩
        have k20 := keep_cell b2 k10
        have k21 := keep_cell b2 k11
        have k22 := keep_cell b2 k12
        have k23 := keep_cell b2 k13
        have k24 := keep_cell b2 k14
        have k25 := keep_cell b2 k15
        have k26 := keep_cell b2 k16
        have k27 := keep_cell b2 k17
        have h2 := h1.trans (b2.mono h1.size)
        clear b2 k10 k11 k12 k13 k14 k15 k16 k17
        go_wp2_with fail
        go_ret
        exact ⟨by rw [HM2.out]; rfl, h2⟩
      | false =>
        go_enter Tryd.func38, Tryd.ntmps38
        go_wp2_with fail
        refine (HO.out _).mono ?_; rintro e w1 ⟨rfl, b1⟩
        have k10 := keep_fresh b1 0 (v := .int .i64 t.kind) rfl
        have k11 := keep_fresh b1 1 (v := .int .i64 t.num) rfl
        have k12 := keep_fresh b1 2 (v := .int .i64 t.c1) rfl
        have k13 := keep_fresh b1 3 (v := .int .i64 t.r1) rfl
        have k14 := keep_fresh b1 4 (v := .int .i64 t.c2) rfl
        have k15 := keep_fresh b1 5 (v := .int .i64 t.r2) rfl
        have k16 := keep_fresh b1 6 (v := .string ⟨t.word.toArray⟩) rfl
        have k17 := keep_fresh b1 7 (v := .slice A t.kids.length cap) rfl
        have h1 : Below w.heap.size w w1 := ((Below.refl _ _).alloc (Nat.le_refl _) _).trans (b1.mono (by simp))
        clear b1 
        go_wp2_with fail
        refine (HA2.out _ _ (HK.out.kept (Kept.of_below h1))).mono ?_; rintro e w2 ⟨rfl, b2⟩
        have k20 := keep_cell b2 k10
        have k21 := keep_cell b2 k11
        have k22 := keep_cell b2 k12
        have k23 := keep_cell b2 k13
        have k24 := keep_cell b2 k14
        have k25 := keep_cell b2 k15
        have k26 := keep_cell b2 k16
        have k27 := keep_cell b2 k17
        have h2 := h1.trans (b2.mono h1.size)
        clear b2 k10 k11 k12 k13 k14 k15 k16 k17
        go_wp2_with fail
        go_ret
        exact ⟨by rw [HM2.out]; rfl, h2⟩
  | false =>
    cases RB with
    | true =>
      cases D with
      | true =>
        go_enter Tryd.func38, Tryd.ntmps38
        go_wp2_with fail
        refine (HO.out _).mono ?_; rintro e w1 ⟨rfl, b1⟩
        have k10 := keep_fresh b1 0 (v := .int .i64 t.kind) rfl
        have k11 := keep_fresh b1 1 (v := .int .i64 t.num) rfl
        have k12 := keep_fresh b1 2 (v := .int .i64 t.c1) rfl
        have k13 := keep_fresh b1 3 (v := .int .i64 t.r1) rfl
        have k14 := keep_fresh b1 4 (v := .int .i64 t.c2) rfl
        have k15 := keep_fresh b1 5 (v := .int .i64 t.r2) rfl
        have k16 := keep_fresh b1 6 (v := .string ⟨t.word.toArray⟩) rfl
        have k17 := keep_fresh b1 7 (v := .slice A t.kids.length cap) rfl
        have h1 : Below w.heap.size w w1 := ((Below.refl _ _).alloc (Nat.le_refl _) _).trans (b1.mono (by simp))
        clear b1 
        go_wp2_with fail
        refine (HA2.out _ _ (HK.out.kept (Kept.of_below h1))).mono ?_; rintro e w2 ⟨rfl, b2⟩
        have k20 := keep_cell b2 k10
        have k21 := keep_cell b2 k11
        have k22 := keep_cell b2 k12
        have k23 := keep_cell b2 k13
        have k24 := keep_cell b2 k14
        have k25 := keep_cell b2 k15
        have k26 := keep_cell b2 k16
        have k27 := keep_cell b2 k17
        have h2 := h1.trans (b2.mono h1.size)
        clear b2 k10 k11 k12 k13 k14 k15 k16 k17
        go_wp2_with fail
        go_ret
        exact ⟨by rw [HM2.out]; rfl, h2⟩
      | false =>
        go_enter Tryd.func38, Tryd.ntmps38
        go_wp2_with fail
        refine (HO.out _).mono ?_; rintro e w1 ⟨rfl, b1⟩
        have k10 := keep_fresh b1 0 (v := .int .i64 t.kind) rfl
        have k11 := keep_fresh b1 1 (v := .int .i64 t.num) rfl
        have k12 := keep_fresh b1 2 (v := .int .i64 t.c1) rfl
        have k13 := keep_fresh b1 3 (v := .int .i64 t.r1) rfl
        have k14 := keep_fresh b1 4 (v := .int .i64 t.c2) rfl
        have k15 := keep_fresh b1 5 (v := .int .i64 t.r2) rfl
        have k16 := keep_fresh b1 6 (v := .string ⟨t.word.toArray⟩) rfl
        have k17 := keep_fresh b1 7 (v := .slice A t.kids.length cap) rfl
        have h1 : Below w.heap.size w w1 := ((Below.refl _ _).alloc (Nat.le_refl _) _).trans (b1.mono (by simp))
        clear b1 
        go_wp2_with fail
        refine (HA2.out _ _ (HK.out.kept (Kept.of_below h1))).mono ?_; rintro e w2 ⟨rfl, b2⟩
        have k20 := keep_cell b2 k10
        have k21 := keep_cell b2 k11
        have k22 := keep_cell b2 k12
        have k23 := keep_cell b2 k13
        have k24 := keep_cell b2 k14
        have k25 := keep_cell b2 k15
        have k26 := keep_cell b2 k16
        have k27 := keep_cell b2 k17
        have h2 := h1.trans (b2.mono h1.size)
        clear b2 k10 k11 k12 k13 k14 k15 k16 k17
        go_wp2_with fail
        go_ret
        exact ⟨by rw [HM2.out]; rfl, h2⟩
    | false =>
      cases D with
      | true =>
        go_enter Tryd.func38, Tryd.ntmps38
        go_wp2_with fail
        refine (HO.out _).mono ?_; rintro e w1 ⟨rfl, b1⟩
        have k10 := keep_fresh b1 0 (v := .int .i64 t.kind) rfl
        have k11 := keep_fresh b1 1 (v := .int .i64 t.num) rfl
        have k12 := keep_fresh b1 2 (v := .int .i64 t.c1) rfl
        have k13 := keep_fresh b1 3 (v := .int .i64 t.r1) rfl
        have k14 := keep_fresh b1 4 (v := .int .i64 t.c2) rfl
        have k15 := keep_fresh b1 5 (v := .int .i64 t.r2) rfl
        have k16 := keep_fresh b1 6 (v := .string ⟨t.word.toArray⟩) rfl
        have k17 := keep_fresh b1 7 (v := .slice A t.kids.length cap) rfl
        have h1 : Below w.heap.size w w1 := ((Below.refl _ _).alloc (Nat.le_refl _) _).trans (b1.mono (by simp))
        clear b1 
        go_wp2_with fail
        refine (HA2.out _ _ (HK.out.kept (Kept.of_below h1))).mono ?_; rintro e w2 ⟨rfl, b2⟩
        have k20 := keep_cell b2 k10
        have k21 := keep_cell b2 k11
        have k22 := keep_cell b2 k12
        have k23 := keep_cell b2 k13
        have k24 := keep_cell b2 k14
        have k25 := keep_cell b2 k15
        have k26 := keep_cell b2 k16
        have k27 := keep_cell b2 k17
        have h2 := h1.trans (b2.mono h1.size)
        clear b2 k10 k11 k12 k13 k14 k15 k16 k17
        go_wp2_with fail
        go_ret
        exact ⟨by rw [HM2.out]; rfl, h2⟩
      | false =>
        go_enter Tryd.func38, Tryd.ntmps38
        go_wp2_with fail
        refine (HO.out _).mono ?_; rintro e w1 ⟨rfl, b1⟩
        have k10 := keep_fresh b1 0 (v := .int .i64 t.kind) rfl
        have k11 := keep_fresh b1 1 (v := .int .i64 t.num) rfl
        have k12 := keep_fresh b1 2 (v := .int .i64 t.c1) rfl
        have k13 := keep_fresh b1 3 (v := .int .i64 t.r1) rfl
        have k14 := keep_fresh b1 4 (v := .int .i64 t.c2) rfl
        have k15 := keep_fresh b1 5 (v := .int .i64 t.r2) rfl
        have k16 := keep_fresh b1 6 (v := .string ⟨t.word.toArray⟩) rfl
        have k17 := keep_fresh b1 7 (v := .slice A t.kids.length cap) rfl
        have h1 : Below w.heap.size w w1 := ((Below.refl _ _).alloc (Nat.le_refl _) _).trans (b1.mono (by simp))
        clear b1 
        go_wp2_with fail
        refine (HA2.out _ _ (HK.out.kept (Kept.of_below h1))).mono ?_; rintro e w2 ⟨rfl, b2⟩
        have k20 := keep_cell b2 k10
        have k21 := keep_cell b2 k11
        have k22 := keep_cell b2 k12
        have k23 := keep_cell b2 k13
        have k24 := keep_cell b2 k14
        have k25 := keep_cell b2 k15
        have k26 := keep_cell b2 k16
        have k27 := keep_cell b2 k17
        have h2 := h1.trans (b2.mono h1.size)
        clear b2 k10 k11 k12 k13 k14 k15 k16 k17
        go_wp2_with fail
        go_ret
        exact ⟨by rw [HM2.out]; rfl, h2⟩
set_option maxHeartbeats 2000000 in
set_option maxRecDepth 10000 in
theorem rmay_5SUM (t : Tr) (w : World) (A : Option Addr) (cap : Nat) {d : Nat} (ih : MayC d) (hd : deepL t.kids ≤ d) (hw : Wid t) (P : Nat → Prop) (hk : KV w P t A) (hwd : t.word = [83, 85, 77]) (h : t.kind = 5) : Calls Tryd.prog 38 #[tv t A cap] w fun e w' => e = .returned (.bool (mayB t)) ∧ Below w.heap.size w w' := by
  unfold tv
  have HO := Lib.hid fun w => ronly_any t A cap t.kids.length w
  unfold tv at HO
  have HM := Lib.hid (may_5 h)
  have s0 : (t.kind == 0) = false := by rw [h]; rfl
  have s1 : (t.kind == 1) = false := by rw [h]; rfl
  have s2 : (t.kind == 2) = false := by rw [h]; rfl
  have s6 : (t.kind == 6) = false := by rw [h]; rfl
  have s3 : (t.kind == 3) = false := by rw [h]; rfl
  have s4 : (t.kind == 4) = false := by rw [h]; rfl
  have s5 : (t.kind == 5) = true := by rw [h]; rfl
  have xIF : (t.word == [73, 70]) = false := by rw [hwd]; rfl
  have xSUM : (t.word == [83, 85, 77]) = true := by rw [hwd]; rfl
  have xMIN : (t.word == [77, 73, 78]) = false := by rw [hwd]; rfl
  have xMAX : (t.word == [77, 65, 88]) = false := by rw [hwd]; rfl
  have xCOUNT : (t.word == [67, 79, 85, 78, 84]) = false := by rw [hwd]; rfl
  have xN : (t.word != [73, 70]) = true := by rw [bne, xIF]; rfl
  have HM2 : Hid (mayB t = (onlyB t t.kids.length && (allB t.kids true false && decide (0 < t.kids.length)))) := Lib.hid (by
    rw [may_5 h, xN, xCOUNT]
    congr 2
    rw [if_neg (by rw [hwd]; decide), if_pos (by rw [hwd]; decide)])
  clear HM
  clear hwd
  clear h
  have HK := Lib.hid hk
  have HAl := Lib.hid fun (a b : Bool) (w : World) (P : Nat → Prop) hk => rall_any ih t hd hw a b w P A cap hk
  unfold tv at HAl
  clear ih hd hw hk
  generalize onlyB t t.kids.length = O at *
  have HA2 := Lib.hid (HAl.out true false)
  clear HAl
  generalize allB t.kids true false = RB at *
  obtain ⟨D, hD⟩ : ∃ D, decide (0 < t.kids.length) = D := ⟨_, rfl⟩
  rw [hD] at HM2
  cases O with
  | true =>
    cases RB with
    | true =>
      cases D with
      | true =>
        go_enter Tryd.func38, Tryd.ntmps38
        go_wp2_with fail
        refine (HO.out _).mono ?_; rintro e w1 ⟨rfl, b1⟩
        have k10 := keep_fresh b1 0 (v := .int .i64 t.kind) rfl
        have k11 := keep_fresh b1 1 (v := .int .i64 t.num) rfl
        have k12 := keep_fresh b1 2 (v := .int .i64 t.c1) rfl
        have k13 := keep_fresh b1 3 (v := .int .i64 t.r1) rfl
        have k14 := keep_fresh b1 4 (v := .int .i64 t.c2) rfl
        have k15 := keep_fresh b1 5 (v := .int .i64 t.r2) rfl
        have k16 := keep_fresh b1 6 (v := .string ⟨t.word.toArray⟩) rfl
        have k17 := keep_fresh b1 7 (v := .slice A t.kids.length cap) rfl
        have h1 : Below w.heap.size w w1 := ((Below.refl _ _).alloc (Nat.le_refl _) _).trans (b1.mono (by simp))
        clear b1 
        go_wp2_with fail
        refine (HA2.out _ _ (HK.out.kept (Kept.of_below h1))).mono ?_; rintro e w2 ⟨rfl, b2⟩
        have k20 := keep_cell b2 k10
        have k21 := keep_cell b2 k11
        have k22 := keep_cell b2 k12
        have k23 := keep_cell b2 k13
        have k24 := keep_cell b2 k14
        have k25 := keep_cell b2 k15
        have k26 := keep_cell b2 k16
        have k27 := keep_cell b2 k17
        have h2 := h1.trans (b2.mono h1.size)
        clear b2 k10 k11 k12 k13 k14 k15 k16 k17
        go_wp2_with fail
        go_ret
        exact ⟨by rw [HM2.out]; rfl, h2⟩
      | false =>
        go_enter Tryd.func38, Tryd.ntmps38
        go_wp2_with fail
        refine (HO.out _).mono ?_; rintro e w1 ⟨rfl, b1⟩
        have k10 := keep_fresh b1 0 (v := .int .i64 t.kind) rfl
        have k11 := keep_fresh b1 1 (v := .int .i64 t.num) rfl
        have k12 := keep_fresh b1 2 (v := .int .i64 t.c1) rfl
        have k13 := keep_fresh b1 3 (v := .int .i64 t.r1) rfl
        have k14 := keep_fresh b1 4 (v := .int .i64 t.c2) rfl
        have k15 := keep_fresh b1 5 (v := .int .i64 t.r2) rfl
        have k16 := keep_fresh b1 6 (v := .string ⟨t.word.toArray⟩) rfl
        have k17 := keep_fresh b1 7 (v := .slice A t.kids.length cap) rfl
        have h1 : Below w.heap.size w w1 := ((Below.refl _ _).alloc (Nat.le_refl _) _).trans (b1.mono (by simp))
        clear b1 
        go_wp2_with fail
        refine (HA2.out _ _ (HK.out.kept (Kept.of_below h1))).mono ?_; rintro e w2 ⟨rfl, b2⟩
        have k20 := keep_cell b2 k10
        have k21 := keep_cell b2 k11
        have k22 := keep_cell b2 k12
        have k23 := keep_cell b2 k13
        have k24 := keep_cell b2 k14
        have k25 := keep_cell b2 k15
        have k26 := keep_cell b2 k16
        have k27 := keep_cell b2 k17
        have h2 := h1.trans (b2.mono h1.size)
        clear b2 k10 k11 k12 k13 k14 k15 k16 k17
        go_wp2_with fail
        go_ret
        exact ⟨by rw [HM2.out]; rfl, h2⟩
    | false =>
      cases D with
      | true =>
        go_enter Tryd.func38, Tryd.ntmps38
        go_wp2_with fail
        refine (HO.out _).mono ?_; rintro e w1 ⟨rfl, b1⟩
        have k10 := keep_fresh b1 0 (v := .int .i64 t.kind) rfl
        have k11 := keep_fresh b1 1 (v := .int .i64 t.num) rfl
        have k12 := keep_fresh b1 2 (v := .int .i64 t.c1) rfl
        have k13 := keep_fresh b1 3 (v := .int .i64 t.r1) rfl
        have k14 := keep_fresh b1 4 (v := .int .i64 t.c2) rfl
        have k15 := keep_fresh b1 5 (v := .int .i64 t.r2) rfl
        have k16 := keep_fresh b1 6 (v := .string ⟨t.word.toArray⟩) rfl
        have k17 := keep_fresh b1 7 (v := .slice A t.kids.length cap) rfl
        have h1 : Below w.heap.size w w1 := ((Below.refl _ _).alloc (Nat.le_refl _) _).trans (b1.mono (by simp))
        clear b1 
        go_wp2_with fail
        refine (HA2.out _ _ (HK.out.kept (Kept.of_below h1))).mono ?_; rintro e w2 ⟨rfl, b2⟩
        have k20 := keep_cell b2 k10
        have k21 := keep_cell b2 k11
        have k22 := keep_cell b2 k12
        have k23 := keep_cell b2 k13
        have k24 := keep_cell b2 k14
        have k25 := keep_cell b2 k15
        have k26 := keep_cell b2 k16
        have k27 := keep_cell b2 k17
        have h2 := h1.trans (b2.mono h1.size)
        clear b2 k10 k11 k12 k13 k14 k15 k16 k17
        go_wp2_with fail
        go_ret
        exact ⟨by rw [HM2.out]; rfl, h2⟩
      | false =>
        go_enter Tryd.func38, Tryd.ntmps38
        go_wp2_with fail
        refine (HO.out _).mono ?_; rintro e w1 ⟨rfl, b1⟩
        have k10 := keep_fresh b1 0 (v := .int .i64 t.kind) rfl
        have k11 := keep_fresh b1 1 (v := .int .i64 t.num) rfl
        have k12 := keep_fresh b1 2 (v := .int .i64 t.c1) rfl
        have k13 := keep_fresh b1 3 (v := .int .i64 t.r1) rfl
        have k14 := keep_fresh b1 4 (v := .int .i64 t.c2) rfl
        have k15 := keep_fresh b1 5 (v := .int .i64 t.r2) rfl
        have k16 := keep_fresh b1 6 (v := .string ⟨t.word.toArray⟩) rfl
        have k17 := keep_fresh b1 7 (v := .slice A t.kids.length cap) rfl
        have h1 : Below w.heap.size w w1 := ((Below.refl _ _).alloc (Nat.le_refl _) _).trans (b1.mono (by simp))
        clear b1 
        go_wp2_with fail
        refine (HA2.out _ _ (HK.out.kept (Kept.of_below h1))).mono ?_; rintro e w2 ⟨rfl, b2⟩
        have k20 := keep_cell b2 k10
        have k21 := keep_cell b2 k11
        have k22 := keep_cell b2 k12
        have k23 := keep_cell b2 k13
        have k24 := keep_cell b2 k14
        have k25 := keep_cell b2 k15
        have k26 := keep_cell b2 k16
        have k27 := keep_cell b2 k17
        have h2 := h1.trans (b2.mono h1.size)
        clear b2 k10 k11 k12 k13 k14 k15 k16 k17
        go_wp2_with fail
        go_ret
        exact ⟨by rw [HM2.out]; rfl, h2⟩
  | false =>
    cases RB with
    | true =>
      cases D with
      | true =>
        go_enter Tryd.func38, Tryd.ntmps38
        go_wp2_with fail
        refine (HO.out _).mono ?_; rintro e w1 ⟨rfl, b1⟩
        have k10 := keep_fresh b1 0 (v := .int .i64 t.kind) rfl
        have k11 := keep_fresh b1 1 (v := .int .i64 t.num) rfl
        have k12 := keep_fresh b1 2 (v := .int .i64 t.c1) rfl
        have k13 := keep_fresh b1 3 (v := .int .i64 t.r1) rfl
        have k14 := keep_fresh b1 4 (v := .int .i64 t.c2) rfl
        have k15 := keep_fresh b1 5 (v := .int .i64 t.r2) rfl
        have k16 := keep_fresh b1 6 (v := .string ⟨t.word.toArray⟩) rfl
        have k17 := keep_fresh b1 7 (v := .slice A t.kids.length cap) rfl
        have h1 : Below w.heap.size w w1 := ((Below.refl _ _).alloc (Nat.le_refl _) _).trans (b1.mono (by simp))
        clear b1 
        go_wp2_with fail
        refine (HA2.out _ _ (HK.out.kept (Kept.of_below h1))).mono ?_; rintro e w2 ⟨rfl, b2⟩
        have k20 := keep_cell b2 k10
        have k21 := keep_cell b2 k11
        have k22 := keep_cell b2 k12
        have k23 := keep_cell b2 k13
        have k24 := keep_cell b2 k14
        have k25 := keep_cell b2 k15
        have k26 := keep_cell b2 k16
        have k27 := keep_cell b2 k17
        have h2 := h1.trans (b2.mono h1.size)
        clear b2 k10 k11 k12 k13 k14 k15 k16 k17
        go_wp2_with fail
        go_ret
        exact ⟨by rw [HM2.out]; rfl, h2⟩
      | false =>
        go_enter Tryd.func38, Tryd.ntmps38
        go_wp2_with fail
        refine (HO.out _).mono ?_; rintro e w1 ⟨rfl, b1⟩
        have k10 := keep_fresh b1 0 (v := .int .i64 t.kind) rfl
        have k11 := keep_fresh b1 1 (v := .int .i64 t.num) rfl
        have k12 := keep_fresh b1 2 (v := .int .i64 t.c1) rfl
        have k13 := keep_fresh b1 3 (v := .int .i64 t.r1) rfl
        have k14 := keep_fresh b1 4 (v := .int .i64 t.c2) rfl
        have k15 := keep_fresh b1 5 (v := .int .i64 t.r2) rfl
        have k16 := keep_fresh b1 6 (v := .string ⟨t.word.toArray⟩) rfl
        have k17 := keep_fresh b1 7 (v := .slice A t.kids.length cap) rfl
        have h1 : Below w.heap.size w w1 := ((Below.refl _ _).alloc (Nat.le_refl _) _).trans (b1.mono (by simp))
        clear b1 
        go_wp2_with fail
        refine (HA2.out _ _ (HK.out.kept (Kept.of_below h1))).mono ?_; rintro e w2 ⟨rfl, b2⟩
        have k20 := keep_cell b2 k10
        have k21 := keep_cell b2 k11
        have k22 := keep_cell b2 k12
        have k23 := keep_cell b2 k13
        have k24 := keep_cell b2 k14
        have k25 := keep_cell b2 k15
        have k26 := keep_cell b2 k16
        have k27 := keep_cell b2 k17
        have h2 := h1.trans (b2.mono h1.size)
        clear b2 k10 k11 k12 k13 k14 k15 k16 k17
        go_wp2_with fail
        go_ret
        exact ⟨by rw [HM2.out]; rfl, h2⟩
    | false =>
      cases D with
      | true =>
        go_enter Tryd.func38, Tryd.ntmps38
        go_wp2_with fail
        refine (HO.out _).mono ?_; rintro e w1 ⟨rfl, b1⟩
        have k10 := keep_fresh b1 0 (v := .int .i64 t.kind) rfl
        have k11 := keep_fresh b1 1 (v := .int .i64 t.num) rfl
        have k12 := keep_fresh b1 2 (v := .int .i64 t.c1) rfl
        have k13 := keep_fresh b1 3 (v := .int .i64 t.r1) rfl
        have k14 := keep_fresh b1 4 (v := .int .i64 t.c2) rfl
        have k15 := keep_fresh b1 5 (v := .int .i64 t.r2) rfl
        have k16 := keep_fresh b1 6 (v := .string ⟨t.word.toArray⟩) rfl
        have k17 := keep_fresh b1 7 (v := .slice A t.kids.length cap) rfl
        have h1 : Below w.heap.size w w1 := ((Below.refl _ _).alloc (Nat.le_refl _) _).trans (b1.mono (by simp))
        clear b1 
        go_wp2_with fail
        refine (HA2.out _ _ (HK.out.kept (Kept.of_below h1))).mono ?_; rintro e w2 ⟨rfl, b2⟩
        have k20 := keep_cell b2 k10
        have k21 := keep_cell b2 k11
        have k22 := keep_cell b2 k12
        have k23 := keep_cell b2 k13
        have k24 := keep_cell b2 k14
        have k25 := keep_cell b2 k15
        have k26 := keep_cell b2 k16
        have k27 := keep_cell b2 k17
        have h2 := h1.trans (b2.mono h1.size)
        clear b2 k10 k11 k12 k13 k14 k15 k16 k17
        go_wp2_with fail
        go_ret
        exact ⟨by rw [HM2.out]; rfl, h2⟩
      | false =>
        go_enter Tryd.func38, Tryd.ntmps38
        go_wp2_with fail
        refine (HO.out _).mono ?_; rintro e w1 ⟨rfl, b1⟩
        have k10 := keep_fresh b1 0 (v := .int .i64 t.kind) rfl
        have k11 := keep_fresh b1 1 (v := .int .i64 t.num) rfl
        have k12 := keep_fresh b1 2 (v := .int .i64 t.c1) rfl
        have k13 := keep_fresh b1 3 (v := .int .i64 t.r1) rfl
        have k14 := keep_fresh b1 4 (v := .int .i64 t.c2) rfl
        have k15 := keep_fresh b1 5 (v := .int .i64 t.r2) rfl
        have k16 := keep_fresh b1 6 (v := .string ⟨t.word.toArray⟩) rfl
        have k17 := keep_fresh b1 7 (v := .slice A t.kids.length cap) rfl
        have h1 : Below w.heap.size w w1 := ((Below.refl _ _).alloc (Nat.le_refl _) _).trans (b1.mono (by simp))
        clear b1 
        go_wp2_with fail
        refine (HA2.out _ _ (HK.out.kept (Kept.of_below h1))).mono ?_; rintro e w2 ⟨rfl, b2⟩
        have k20 := keep_cell b2 k10
        have k21 := keep_cell b2 k11
        have k22 := keep_cell b2 k12
        have k23 := keep_cell b2 k13
        have k24 := keep_cell b2 k14
        have k25 := keep_cell b2 k15
        have k26 := keep_cell b2 k16
        have k27 := keep_cell b2 k17
        have h2 := h1.trans (b2.mono h1.size)
        clear b2 k10 k11 k12 k13 k14 k15 k16 k17
        go_wp2_with fail
        go_ret
        exact ⟨by rw [HM2.out]; rfl, h2⟩
set_option maxHeartbeats 2000000 in
set_option maxRecDepth 10000 in
theorem rmay_5MIN (t : Tr) (w : World) (A : Option Addr) (cap : Nat) {d : Nat} (ih : MayC d) (hd : deepL t.kids ≤ d) (hw : Wid t) (P : Nat → Prop) (hk : KV w P t A) (hwd : t.word = [77, 73, 78]) (h : t.kind = 5) : Calls Tryd.prog 38 #[tv t A cap] w fun e w' => e = .returned (.bool (mayB t)) ∧ Below w.heap.size w w' := by
  unfold tv
  have HO := Lib.hid fun w => ronly_any t A cap t.kids.length w
  unfold tv at HO
  have HM := Lib.hid (may_5 h)
  have s0 : (t.kind == 0) = false := by rw [h]; rfl
  have s1 : (t.kind == 1) = false := by rw [h]; rfl
  have s2 : (t.kind == 2) = false := by rw [h]; rfl
  have s6 : (t.kind == 6) = false := by rw [h]; rfl
  have s3 : (t.kind == 3) = false := by rw [h]; rfl
  have s4 : (t.kind == 4) = false := by rw [h]; rfl
  have s5 : (t.kind == 5) = true := by rw [h]; rfl
  have xIF : (t.word == [73, 70]) = false := by rw [hwd]; rfl
  have xSUM : (t.word == [83, 85, 77]) = false := by rw [hwd]; rfl
  have xMIN : (t.word == [77, 73, 78]) = true := by rw [hwd]; rfl
  have xMAX : (t.word == [77, 65, 88]) = false := by rw [hwd]; rfl
  have xCOUNT : (t.word == [67, 79, 85, 78, 84]) = false := by rw [hwd]; rfl
  have xN : (t.word != [73, 70]) = true := by rw [bne, xIF]; rfl
  have HM2 : Hid (mayB t = (onlyB t t.kids.length && (allB t.kids true false && decide (0 < t.kids.length)))) := Lib.hid (by
    rw [may_5 h, xN, xCOUNT]
    congr 2
    rw [if_neg (by rw [hwd]; decide), if_pos (by rw [hwd]; decide)])
  clear HM
  clear hwd
  clear h
  have HK := Lib.hid hk
  have HAl := Lib.hid fun (a b : Bool) (w : World) (P : Nat → Prop) hk => rall_any ih t hd hw a b w P A cap hk
  unfold tv at HAl
  clear ih hd hw hk
  generalize onlyB t t.kids.length = O at *
  have HA2 := Lib.hid (HAl.out true false)
  clear HAl
  generalize allB t.kids true false = RB at *
  obtain ⟨D, hD⟩ : ∃ D, decide (0 < t.kids.length) = D := ⟨_, rfl⟩
  rw [hD] at HM2
  cases O with
  | true =>
    cases RB with
    | true =>
      cases D with
      | true =>
        go_enter Tryd.func38, Tryd.ntmps38
        go_wp2_with fail
        refine (HO.out _).mono ?_; rintro e w1 ⟨rfl, b1⟩
        have k10 := keep_fresh b1 0 (v := .int .i64 t.kind) rfl
        have k11 := keep_fresh b1 1 (v := .int .i64 t.num) rfl
        have k12 := keep_fresh b1 2 (v := .int .i64 t.c1) rfl
        have k13 := keep_fresh b1 3 (v := .int .i64 t.r1) rfl
        have k14 := keep_fresh b1 4 (v := .int .i64 t.c2) rfl
        have k15 := keep_fresh b1 5 (v := .int .i64 t.r2) rfl
        have k16 := keep_fresh b1 6 (v := .string ⟨t.word.toArray⟩) rfl
        have k17 := keep_fresh b1 7 (v := .slice A t.kids.length cap) rfl
        have h1 : Below w.heap.size w w1 := ((Below.refl _ _).alloc (Nat.le_refl _) _).trans (b1.mono (by simp))
        clear b1 
        go_wp2_with fail
        refine (HA2.out _ _ (HK.out.kept (Kept.of_below h1))).mono ?_; rintro e w2 ⟨rfl, b2⟩
        have k20 := keep_cell b2 k10
        have k21 := keep_cell b2 k11
        have k22 := keep_cell b2 k12
        have k23 := keep_cell b2 k13
        have k24 := keep_cell b2 k14
        have k25 := keep_cell b2 k15
        have k26 := keep_cell b2 k16
        have k27 := keep_cell b2 k17
        have h2 := h1.trans (b2.mono h1.size)
        clear b2 k10 k11 k12 k13 k14 k15 k16 k17
        go_wp2_with fail
        go_ret
        exact ⟨by rw [HM2.out]; rfl, h2⟩
      | false =>
        go_enter Tryd.func38, Tryd.ntmps38
        go_wp2_with fail
        refine (HO.out _).mono ?_; rintro e w1 ⟨rfl, b1⟩
        have k10 := keep_fresh b1 0 (v := .int .i64 t.kind) rfl
        have k11 := keep_fresh b1 1 (v := .int .i64 t.num) rfl
        have k12 := keep_fresh b1 2 (v := .int .i64 t.c1) rfl
        have k13 := keep_fresh b1 3 (v := .int .i64 t.r1) rfl
        have k14 := keep_fresh b1 4 (v := .int .i64 t.c2) rfl
        have k15 := keep_fresh b1 5 (v := .int .i64 t.r2) rfl
        have k16 := keep_fresh b1 6 (v := .string ⟨t.word.toArray⟩) rfl
        have k17 := keep_fresh b1 7 (v := .slice A t.kids.length cap) rfl
        have h1 : Below w.heap.size w w1 := ((Below.refl _ _).alloc (Nat.le_refl _) _).trans (b1.mono (by simp))
        clear b1 
        go_wp2_with fail
        refine (HA2.out _ _ (HK.out.kept (Kept.of_below h1))).mono ?_; rintro e w2 ⟨rfl, b2⟩
        have k20 := keep_cell b2 k10
        have k21 := keep_cell b2 k11
        have k22 := keep_cell b2 k12
        have k23 := keep_cell b2 k13
        have k24 := keep_cell b2 k14
        have k25 := keep_cell b2 k15
        have k26 := keep_cell b2 k16
        have k27 := keep_cell b2 k17
        have h2 := h1.trans (b2.mono h1.size)
        clear b2 k10 k11 k12 k13 k14 k15 k16 k17
        go_wp2_with fail
        go_ret
        exact ⟨by rw [HM2.out]; rfl, h2⟩
    | false =>
      cases D with
      | true =>
        go_enter Tryd.func38, Tryd.ntmps38
        go_wp2_with fail
        refine (HO.out _).mono ?_; rintro e w1 ⟨rfl, b1⟩
        have k10 := keep_fresh b1 0 (v := .int .i64 t.kind) rfl
        have k11 := keep_fresh b1 1 (v := .int .i64 t.num) rfl
        have k12 := keep_fresh b1 2 (v := .int .i64 t.c1) rfl
        have k13 := keep_fresh b1 3 (v := .int .i64 t.r1) rfl
        have k14 := keep_fresh b1 4 (v := .int .i64 t.c2) rfl
        have k15 := keep_fresh b1 5 (v := .int .i64 t.r2) rfl
        have k16 := keep_fresh b1 6 (v := .string ⟨t.word.toArray⟩) rfl
        have k17 := keep_fresh b1 7 (v := .slice A t.kids.length cap) rfl
        have h1 : Below w.heap.size w w1 := ((Below.refl _ _).alloc (Nat.le_refl _) _).trans (b1.mono (by simp))
        clear b1 
        go_wp2_with fail
        refine (HA2.out _ _ (HK.out.kept (Kept.of_below h1))).mono ?_; rintro e w2 ⟨rfl, b2⟩
        have k20 := keep_cell b2 k10
        have k21 := keep_cell b2 k11
        have k22 := keep_cell b2 k12
        have k23 := keep_cell b2 k13
        have k24 := keep_cell b2 k14
        have k25 := keep_cell b2 k15
        have k26 := keep_cell b2 k16
        have k27 := keep_cell b2 k17
        have h2 := h1.trans (b2.mono h1.size)
        clear b2 k10 k11 k12 k13 k14 k15 k16 k17
        go_wp2_with fail
        go_ret
        exact ⟨by rw [HM2.out]; rfl, h2⟩
      | false =>
        go_enter Tryd.func38, Tryd.ntmps38
        go_wp2_with fail
        refine (HO.out _).mono ?_; rintro e w1 ⟨rfl, b1⟩
        have k10 := keep_fresh b1 0 (v := .int .i64 t.kind) rfl
        have k11 := keep_fresh b1 1 (v := .int .i64 t.num) rfl
        have k12 := keep_fresh b1 2 (v := .int .i64 t.c1) rfl
        have k13 := keep_fresh b1 3 (v := .int .i64 t.r1) rfl
        have k14 := keep_fresh b1 4 (v := .int .i64 t.c2) rfl
        have k15 := keep_fresh b1 5 (v := .int .i64 t.r2) rfl
        have k16 := keep_fresh b1 6 (v := .string ⟨t.word.toArray⟩) rfl
        have k17 := keep_fresh b1 7 (v := .slice A t.kids.length cap) rfl
        have h1 : Below w.heap.size w w1 := ((Below.refl _ _).alloc (Nat.le_refl _) _).trans (b1.mono (by simp))
        clear b1 
        go_wp2_with fail
        refine (HA2.out _ _ (HK.out.kept (Kept.of_below h1))).mono ?_; rintro e w2 ⟨rfl, b2⟩
        have k20 := keep_cell b2 k10
        have k21 := keep_cell b2 k11
        have k22 := keep_cell b2 k12
        have k23 := keep_cell b2 k13
        have k24 := keep_cell b2 k14
        have k25 := keep_cell b2 k15
        have k26 := keep_cell b2 k16
        have k27 := keep_cell b2 k17
        have h2 := h1.trans (b2.mono h1.size)
        clear b2 k10 k11 k12 k13 k14 k15 k16 k17
        go_wp2_with fail
        go_ret
        exact ⟨by rw [HM2.out]; rfl, h2⟩
  | false =>
    cases RB with
    | true =>
      cases D with
      | true =>
        go_enter Tryd.func38, Tryd.ntmps38
        go_wp2_with fail
        refine (HO.out _).mono ?_; rintro e w1 ⟨rfl, b1⟩
        have k10 := keep_fresh b1 0 (v := .int .i64 t.kind) rfl
        have k11 := keep_fresh b1 1 (v := .int .i64 t.num) rfl
        have k12 := keep_fresh b1 2 (v := .int .i64 t.c1) rfl
        have k13 := keep_fresh b1 3 (v := .int .i64 t.r1) rfl
        have k14 := keep_fresh b1 4 (v := .int .i64 t.c2) rfl
        have k15 := keep_fresh b1 5 (v := .int .i64 t.r2) rfl
        have k16 := keep_fresh b1 6 (v := .string ⟨t.word.toArray⟩) rfl
        have k17 := keep_fresh b1 7 (v := .slice A t.kids.length cap) rfl
        have h1 : Below w.heap.size w w1 := ((Below.refl _ _).alloc (Nat.le_refl _) _).trans (b1.mono (by simp))
        clear b1 
        go_wp2_with fail
        refine (HA2.out _ _ (HK.out.kept (Kept.of_below h1))).mono ?_; rintro e w2 ⟨rfl, b2⟩
        have k20 := keep_cell b2 k10
        have k21 := keep_cell b2 k11
        have k22 := keep_cell b2 k12
        have k23 := keep_cell b2 k13
        have k24 := keep_cell b2 k14
        have k25 := keep_cell b2 k15
        have k26 := keep_cell b2 k16
        have k27 := keep_cell b2 k17
        have h2 := h1.trans (b2.mono h1.size)
        clear b2 k10 k11 k12 k13 k14 k15 k16 k17
        go_wp2_with fail
        go_ret
        exact ⟨by rw [HM2.out]; rfl, h2⟩
      | false =>
        go_enter Tryd.func38, Tryd.ntmps38
        go_wp2_with fail
        refine (HO.out _).mono ?_; rintro e w1 ⟨rfl, b1⟩
        have k10 := keep_fresh b1 0 (v := .int .i64 t.kind) rfl
        have k11 := keep_fresh b1 1 (v := .int .i64 t.num) rfl
        have k12 := keep_fresh b1 2 (v := .int .i64 t.c1) rfl
        have k13 := keep_fresh b1 3 (v := .int .i64 t.r1) rfl
        have k14 := keep_fresh b1 4 (v := .int .i64 t.c2) rfl
        have k15 := keep_fresh b1 5 (v := .int .i64 t.r2) rfl
        have k16 := keep_fresh b1 6 (v := .string ⟨t.word.toArray⟩) rfl
        have k17 := keep_fresh b1 7 (v := .slice A t.kids.length cap) rfl
        have h1 : Below w.heap.size w w1 := ((Below.refl _ _).alloc (Nat.le_refl _) _).trans (b1.mono (by simp))
        clear b1 
        go_wp2_with fail
        refine (HA2.out _ _ (HK.out.kept (Kept.of_below h1))).mono ?_; rintro e w2 ⟨rfl, b2⟩
        have k20 := keep_cell b2 k10
        have k21 := keep_cell b2 k11
        have k22 := keep_cell b2 k12
        have k23 := keep_cell b2 k13
        have k24 := keep_cell b2 k14
        have k25 := keep_cell b2 k15
        have k26 := keep_cell b2 k16
        have k27 := keep_cell b2 k17
        have h2 := h1.trans (b2.mono h1.size)
        clear b2 k10 k11 k12 k13 k14 k15 k16 k17
        go_wp2_with fail
        go_ret
        exact ⟨by rw [HM2.out]; rfl, h2⟩
    | false =>
      cases D with
      | true =>
        go_enter Tryd.func38, Tryd.ntmps38
        go_wp2_with fail
        refine (HO.out _).mono ?_; rintro e w1 ⟨rfl, b1⟩
        have k10 := keep_fresh b1 0 (v := .int .i64 t.kind) rfl
        have k11 := keep_fresh b1 1 (v := .int .i64 t.num) rfl
        have k12 := keep_fresh b1 2 (v := .int .i64 t.c1) rfl
        have k13 := keep_fresh b1 3 (v := .int .i64 t.r1) rfl
        have k14 := keep_fresh b1 4 (v := .int .i64 t.c2) rfl
        have k15 := keep_fresh b1 5 (v := .int .i64 t.r2) rfl
        have k16 := keep_fresh b1 6 (v := .string ⟨t.word.toArray⟩) rfl
        have k17 := keep_fresh b1 7 (v := .slice A t.kids.length cap) rfl
        have h1 : Below w.heap.size w w1 := ((Below.refl _ _).alloc (Nat.le_refl _) _).trans (b1.mono (by simp))
        clear b1 
        go_wp2_with fail
        refine (HA2.out _ _ (HK.out.kept (Kept.of_below h1))).mono ?_; rintro e w2 ⟨rfl, b2⟩
        have k20 := keep_cell b2 k10
        have k21 := keep_cell b2 k11
        have k22 := keep_cell b2 k12
        have k23 := keep_cell b2 k13
        have k24 := keep_cell b2 k14
        have k25 := keep_cell b2 k15
        have k26 := keep_cell b2 k16
        have k27 := keep_cell b2 k17
        have h2 := h1.trans (b2.mono h1.size)
        clear b2 k10 k11 k12 k13 k14 k15 k16 k17
        go_wp2_with fail
        go_ret
        exact ⟨by rw [HM2.out]; rfl, h2⟩
      | false =>
        go_enter Tryd.func38, Tryd.ntmps38
        go_wp2_with fail
        refine (HO.out _).mono ?_; rintro e w1 ⟨rfl, b1⟩
        have k10 := keep_fresh b1 0 (v := .int .i64 t.kind) rfl
        have k11 := keep_fresh b1 1 (v := .int .i64 t.num) rfl
        have k12 := keep_fresh b1 2 (v := .int .i64 t.c1) rfl
        have k13 := keep_fresh b1 3 (v := .int .i64 t.r1) rfl
        have k14 := keep_fresh b1 4 (v := .int .i64 t.c2) rfl
        have k15 := keep_fresh b1 5 (v := .int .i64 t.r2) rfl
        have k16 := keep_fresh b1 6 (v := .string ⟨t.word.toArray⟩) rfl
        have k17 := keep_fresh b1 7 (v := .slice A t.kids.length cap) rfl
        have h1 : Below w.heap.size w w1 := ((Below.refl _ _).alloc (Nat.le_refl _) _).trans (b1.mono (by simp))
        clear b1 
        go_wp2_with fail
        refine (HA2.out _ _ (HK.out.kept (Kept.of_below h1))).mono ?_; rintro e w2 ⟨rfl, b2⟩
        have k20 := keep_cell b2 k10
        have k21 := keep_cell b2 k11
        have k22 := keep_cell b2 k12
        have k23 := keep_cell b2 k13
        have k24 := keep_cell b2 k14
        have k25 := keep_cell b2 k15
        have k26 := keep_cell b2 k16
        have k27 := keep_cell b2 k17
        have h2 := h1.trans (b2.mono h1.size)
        clear b2 k10 k11 k12 k13 k14 k15 k16 k17
        go_wp2_with fail
        go_ret
        exact ⟨by rw [HM2.out]; rfl, h2⟩
set_option maxHeartbeats 2000000 in
set_option maxRecDepth 10000 in
theorem rmay_5MAX (t : Tr) (w : World) (A : Option Addr) (cap : Nat) {d : Nat} (ih : MayC d) (hd : deepL t.kids ≤ d) (hw : Wid t) (P : Nat → Prop) (hk : KV w P t A) (hwd : t.word = [77, 65, 88]) (h : t.kind = 5) : Calls Tryd.prog 38 #[tv t A cap] w fun e w' => e = .returned (.bool (mayB t)) ∧ Below w.heap.size w w' := by
  unfold tv
  have HO := Lib.hid fun w => ronly_any t A cap t.kids.length w
  unfold tv at HO
  have HM := Lib.hid (may_5 h)
  have s0 : (t.kind == 0) = false := by rw [h]; rfl
  have s1 : (t.kind == 1) = false := by rw [h]; rfl
  have s2 : (t.kind == 2) = false := by rw [h]; rfl
  have s6 : (t.kind == 6) = false := by rw [h]; rfl
  have s3 : (t.kind == 3) = false := by rw [h]; rfl
  have s4 : (t.kind == 4) = false := by rw [h]; rfl
  have s5 : (t.kind == 5) = true := by rw [h]; rfl
  have xIF : (t.word == [73, 70]) = false := by rw [hwd]; rfl
  have xSUM : (t.word == [83, 85, 77]) = false := by rw [hwd]; rfl
  have xMIN : (t.word == [77, 73, 78]) = false := by rw [hwd]; rfl
  have xMAX : (t.word == [77, 65, 88]) = true := by rw [hwd]; rfl
  have xCOUNT : (t.word == [67, 79, 85, 78, 84]) = false := by rw [hwd]; rfl
  have xN : (t.word != [73, 70]) = true := by rw [bne, xIF]; rfl
  have HM2 : Hid (mayB t = (onlyB t t.kids.length && (allB t.kids true false && decide (0 < t.kids.length)))) := Lib.hid (by
    rw [may_5 h, xN, xCOUNT]
    congr 2
    rw [if_neg (by rw [hwd]; decide), if_pos (by rw [hwd]; decide)])
  clear HM
  clear hwd
  clear h
  have HK := Lib.hid hk
  have HAl := Lib.hid fun (a b : Bool) (w : World) (P : Nat → Prop) hk => rall_any ih t hd hw a b w P A cap hk
  unfold tv at HAl
  clear ih hd hw hk
  generalize onlyB t t.kids.length = O at *
  have HA2 := Lib.hid (HAl.out true false)
  clear HAl
  generalize allB t.kids true false = RB at *
  obtain ⟨D, hD⟩ : ∃ D, decide (0 < t.kids.length) = D := ⟨_, rfl⟩
  rw [hD] at HM2
  cases O with
  | true =>
    cases RB with
    | true =>
      cases D with
      | true =>
        go_enter Tryd.func38, Tryd.ntmps38
        go_wp2_with fail
        refine (HO.out _).mono ?_; rintro e w1 ⟨rfl, b1⟩
        have k10 := keep_fresh b1 0 (v := .int .i64 t.kind) rfl
        have k11 := keep_fresh b1 1 (v := .int .i64 t.num) rfl
        have k12 := keep_fresh b1 2 (v := .int .i64 t.c1) rfl
        have k13 := keep_fresh b1 3 (v := .int .i64 t.r1) rfl
        have k14 := keep_fresh b1 4 (v := .int .i64 t.c2) rfl
        have k15 := keep_fresh b1 5 (v := .int .i64 t.r2) rfl
        have k16 := keep_fresh b1 6 (v := .string ⟨t.word.toArray⟩) rfl
        have k17 := keep_fresh b1 7 (v := .slice A t.kids.length cap) rfl
        have h1 : Below w.heap.size w w1 := ((Below.refl _ _).alloc (Nat.le_refl _) _).trans (b1.mono (by simp))
        clear b1 
        go_wp2_with fail
        refine (HA2.out _ _ (HK.out.kept (Kept.of_below h1))).mono ?_; rintro e w2 ⟨rfl, b2⟩
        have k20 := keep_cell b2 k10
        have k21 := keep_cell b2 k11
        have k22 := keep_cell b2 k12
        have k23 := keep_cell b2 k13
        have k24 := keep_cell b2 k14
        have k25 := keep_cell b2 k15
        have k26 := keep_cell b2 k16
        have k27 := keep_cell b2 k17
        have h2 := h1.trans (b2.mono h1.size)
        clear b2 k10 k11 k12 k13 k14 k15 k16 k17
        go_wp2_with fail
        go_ret
        exact ⟨by rw [HM2.out]; rfl, h2⟩
      | false =>
        go_enter Tryd.func38, Tryd.ntmps38
        go_wp2_with fail
        refine (HO.out _).mono ?_; rintro e w1 ⟨rfl, b1⟩
        have k10 := keep_fresh b1 0 (v := .int .i64 t.kind) rfl
        have k11 := keep_fresh b1 1 (v := .int .i64 t.num) rfl
        have k12 := keep_fresh b1 2 (v := .int .i64 t.c1) rfl
        have k13 := keep_fresh b1 3 (v := .int .i64 t.r1) rfl
        have k14 := keep_fresh b1 4 (v := .int .i64 t.c2) rfl
        have k15 := keep_fresh b1 5 (v := .int .i64 t.r2) rfl
        have k16 := keep_fresh b1 6 (v := .string ⟨t.word.toArray⟩) rfl
        have k17 := keep_fresh b1 7 (v := .slice A t.kids.length cap) rfl
        have h1 : Below w.heap.size w w1 := ((Below.refl _ _).alloc (Nat.le_refl _) _).trans (b1.mono (by simp))
        clear b1 
        go_wp2_with fail
        refine (HA2.out _ _ (HK.out.kept (Kept.of_below h1))).mono ?_; rintro e w2 ⟨rfl, b2⟩
        have k20 := keep_cell b2 k10
        have k21 := keep_cell b2 k11
        have k22 := keep_cell b2 k12
        have k23 := keep_cell b2 k13
        have k24 := keep_cell b2 k14
        have k25 := keep_cell b2 k15
        have k26 := keep_cell b2 k16
        have k27 := keep_cell b2 k17
        have h2 := h1.trans (b2.mono h1.size)
        clear b2 k10 k11 k12 k13 k14 k15 k16 k17
        go_wp2_with fail
        go_ret
        exact ⟨by rw [HM2.out]; rfl, h2⟩
    | false =>
      cases D with
      | true =>
        go_enter Tryd.func38, Tryd.ntmps38
        go_wp2_with fail
        refine (HO.out _).mono ?_; rintro e w1 ⟨rfl, b1⟩
        have k10 := keep_fresh b1 0 (v := .int .i64 t.kind) rfl
        have k11 := keep_fresh b1 1 (v := .int .i64 t.num) rfl
        have k12 := keep_fresh b1 2 (v := .int .i64 t.c1) rfl
        have k13 := keep_fresh b1 3 (v := .int .i64 t.r1) rfl
        have k14 := keep_fresh b1 4 (v := .int .i64 t.c2) rfl
        have k15 := keep_fresh b1 5 (v := .int .i64 t.r2) rfl
        have k16 := keep_fresh b1 6 (v := .string ⟨t.word.toArray⟩) rfl
        have k17 := keep_fresh b1 7 (v := .slice A t.kids.length cap) rfl
        have h1 : Below w.heap.size w w1 := ((Below.refl _ _).alloc (Nat.le_refl _) _).trans (b1.mono (by simp))
        clear b1 
        go_wp2_with fail
        refine (HA2.out _ _ (HK.out.kept (Kept.of_below h1))).mono ?_; rintro e w2 ⟨rfl, b2⟩
        have k20 := keep_cell b2 k10
        have k21 := keep_cell b2 k11
        have k22 := keep_cell b2 k12
        have k23 := keep_cell b2 k13
        have k24 := keep_cell b2 k14
        have k25 := keep_cell b2 k15
        have k26 := keep_cell b2 k16
        have k27 := keep_cell b2 k17
        have h2 := h1.trans (b2.mono h1.size)
        clear b2 k10 k11 k12 k13 k14 k15 k16 k17
        go_wp2_with fail
        go_ret
        exact ⟨by rw [HM2.out]; rfl, h2⟩
      | false =>
        go_enter Tryd.func38, Tryd.ntmps38
        go_wp2_with fail
        refine (HO.out _).mono ?_; rintro e w1 ⟨rfl, b1⟩
        have k10 := keep_fresh b1 0 (v := .int .i64 t.kind) rfl
        have k11 := keep_fresh b1 1 (v := .int .i64 t.num) rfl
        have k12 := keep_fresh b1 2 (v := .int .i64 t.c1) rfl
        have k13 := keep_fresh b1 3 (v := .int .i64 t.r1) rfl
        have k14 := keep_fresh b1 4 (v := .int .i64 t.c2) rfl
        have k15 := keep_fresh b1 5 (v := .int .i64 t.r2) rfl
        have k16 := keep_fresh b1 6 (v := .string ⟨t.word.toArray⟩) rfl
        have k17 := keep_fresh b1 7 (v := .slice A t.kids.length cap) rfl
        have h1 : Below w.heap.size w w1 := ((Below.refl _ _).alloc (Nat.le_refl _) _).trans (b1.mono (by simp))
        clear b1 
        go_wp2_with fail
        refine (HA2.out _ _ (HK.out.kept (Kept.of_below h1))).mono ?_; rintro e w2 ⟨rfl, b2⟩
        have k20 := keep_cell b2 k10
        have k21 := keep_cell b2 k11
        have k22 := keep_cell b2 k12
        have k23 := keep_cell b2 k13
        have k24 := keep_cell b2 k14
        have k25 := keep_cell b2 k15
        have k26 := keep_cell b2 k16
        have k27 := keep_cell b2 k17
        have h2 := h1.trans (b2.mono h1.size)
        clear b2 k10 k11 k12 k13 k14 k15 k16 k17
        go_wp2_with fail
        go_ret
        exact ⟨by rw [HM2.out]; rfl, h2⟩
  | false =>
    cases RB with
    | true =>
      cases D with
      | true =>
        go_enter Tryd.func38, Tryd.ntmps38
        go_wp2_with fail
        refine (HO.out _).mono ?_; rintro e w1 ⟨rfl, b1⟩
        have k10 := keep_fresh b1 0 (v := .int .i64 t.kind) rfl
        have k11 := keep_fresh b1 1 (v := .int .i64 t.num) rfl
        have k12 := keep_fresh b1 2 (v := .int .i64 t.c1) rfl
        have k13 := keep_fresh b1 3 (v := .int .i64 t.r1) rfl
        have k14 := keep_fresh b1 4 (v := .int .i64 t.c2) rfl
        have k15 := keep_fresh b1 5 (v := .int .i64 t.r2) rfl
        have k16 := keep_fresh b1 6 (v := .string ⟨t.word.toArray⟩) rfl
        have k17 := keep_fresh b1 7 (v := .slice A t.kids.length cap) rfl
        have h1 : Below w.heap.size w w1 := ((Below.refl _ _).alloc (Nat.le_refl _) _).trans (b1.mono (by simp))
        clear b1 
        go_wp2_with fail
        refine (HA2.out _ _ (HK.out.kept (Kept.of_below h1))).mono ?_; rintro e w2 ⟨rfl, b2⟩
        have k20 := keep_cell b2 k10
        have k21 := keep_cell b2 k11
        have k22 := keep_cell b2 k12
        have k23 := keep_cell b2 k13
        have k24 := keep_cell b2 k14
        have k25 := keep_cell b2 k15
        have k26 := keep_cell b2 k16
        have k27 := keep_cell b2 k17
        have h2 := h1.trans (b2.mono h1.size)
        clear b2 k10 k11 k12 k13 k14 k15 k16 k17
        go_wp2_with fail
        go_ret
        exact ⟨by rw [HM2.out]; rfl, h2⟩
      | false =>
        go_enter Tryd.func38, Tryd.ntmps38
        go_wp2_with fail
        refine (HO.out _).mono ?_; rintro e w1 ⟨rfl, b1⟩
        have k10 := keep_fresh b1 0 (v := .int .i64 t.kind) rfl
        have k11 := keep_fresh b1 1 (v := .int .i64 t.num) rfl
        have k12 := keep_fresh b1 2 (v := .int .i64 t.c1) rfl
        have k13 := keep_fresh b1 3 (v := .int .i64 t.r1) rfl
        have k14 := keep_fresh b1 4 (v := .int .i64 t.c2) rfl
        have k15 := keep_fresh b1 5 (v := .int .i64 t.r2) rfl
        have k16 := keep_fresh b1 6 (v := .string ⟨t.word.toArray⟩) rfl
        have k17 := keep_fresh b1 7 (v := .slice A t.kids.length cap) rfl
        have h1 : Below w.heap.size w w1 := ((Below.refl _ _).alloc (Nat.le_refl _) _).trans (b1.mono (by simp))
        clear b1 
        go_wp2_with fail
        refine (HA2.out _ _ (HK.out.kept (Kept.of_below h1))).mono ?_; rintro e w2 ⟨rfl, b2⟩
        have k20 := keep_cell b2 k10
        have k21 := keep_cell b2 k11
        have k22 := keep_cell b2 k12
        have k23 := keep_cell b2 k13
        have k24 := keep_cell b2 k14
        have k25 := keep_cell b2 k15
        have k26 := keep_cell b2 k16
        have k27 := keep_cell b2 k17
        have h2 := h1.trans (b2.mono h1.size)
        clear b2 k10 k11 k12 k13 k14 k15 k16 k17
        go_wp2_with fail
        go_ret
        exact ⟨by rw [HM2.out]; rfl, h2⟩
    | false =>
      cases D with
      | true =>
        go_enter Tryd.func38, Tryd.ntmps38
        go_wp2_with fail
        refine (HO.out _).mono ?_; rintro e w1 ⟨rfl, b1⟩
        have k10 := keep_fresh b1 0 (v := .int .i64 t.kind) rfl
        have k11 := keep_fresh b1 1 (v := .int .i64 t.num) rfl
        have k12 := keep_fresh b1 2 (v := .int .i64 t.c1) rfl
        have k13 := keep_fresh b1 3 (v := .int .i64 t.r1) rfl
        have k14 := keep_fresh b1 4 (v := .int .i64 t.c2) rfl
        have k15 := keep_fresh b1 5 (v := .int .i64 t.r2) rfl
        have k16 := keep_fresh b1 6 (v := .string ⟨t.word.toArray⟩) rfl
        have k17 := keep_fresh b1 7 (v := .slice A t.kids.length cap) rfl
        have h1 : Below w.heap.size w w1 := ((Below.refl _ _).alloc (Nat.le_refl _) _).trans (b1.mono (by simp))
        clear b1 
        go_wp2_with fail
        refine (HA2.out _ _ (HK.out.kept (Kept.of_below h1))).mono ?_; rintro e w2 ⟨rfl, b2⟩
        have k20 := keep_cell b2 k10
        have k21 := keep_cell b2 k11
        have k22 := keep_cell b2 k12
        have k23 := keep_cell b2 k13
        have k24 := keep_cell b2 k14
        have k25 := keep_cell b2 k15
        have k26 := keep_cell b2 k16
        have k27 := keep_cell b2 k17
        have h2 := h1.trans (b2.mono h1.size)
        clear b2 k10 k11 k12 k13 k14 k15 k16 k17
        go_wp2_with fail
        go_ret
        exact ⟨by rw [HM2.out]; rfl, h2⟩
      | false =>
        go_enter Tryd.func38, Tryd.ntmps38
        go_wp2_with fail
        refine (HO.out _).mono ?_; rintro e w1 ⟨rfl, b1⟩
        have k10 := keep_fresh b1 0 (v := .int .i64 t.kind) rfl
        have k11 := keep_fresh b1 1 (v := .int .i64 t.num) rfl
        have k12 := keep_fresh b1 2 (v := .int .i64 t.c1) rfl
        have k13 := keep_fresh b1 3 (v := .int .i64 t.r1) rfl
        have k14 := keep_fresh b1 4 (v := .int .i64 t.c2) rfl
        have k15 := keep_fresh b1 5 (v := .int .i64 t.r2) rfl
        have k16 := keep_fresh b1 6 (v := .string ⟨t.word.toArray⟩) rfl
        have k17 := keep_fresh b1 7 (v := .slice A t.kids.length cap) rfl
        have h1 : Below w.heap.size w w1 := ((Below.refl _ _).alloc (Nat.le_refl _) _).trans (b1.mono (by simp))
        clear b1 
        go_wp2_with fail
        refine (HA2.out _ _ (HK.out.kept (Kept.of_below h1))).mono ?_; rintro e w2 ⟨rfl, b2⟩
        have k20 := keep_cell b2 k10
        have k21 := keep_cell b2 k11
        have k22 := keep_cell b2 k12
        have k23 := keep_cell b2 k13
        have k24 := keep_cell b2 k14
        have k25 := keep_cell b2 k15
        have k26 := keep_cell b2 k16
        have k27 := keep_cell b2 k17
        have h2 := h1.trans (b2.mono h1.size)
        clear b2 k10 k11 k12 k13 k14 k15 k16 k17
        go_wp2_with fail
        go_ret
        exact ⟨by rw [HM2.out]; rfl, h2⟩
set_option maxHeartbeats 2000000 in
set_option maxRecDepth 10000 in
theorem rmay_5COUNT (t : Tr) (w : World) (A : Option Addr) (cap : Nat) {d : Nat} (ih : MayC d) (hd : deepL t.kids ≤ d) (hw : Wid t) (P : Nat → Prop) (hk : KV w P t A) (hwd : t.word = [67, 79, 85, 78, 84]) (h : t.kind = 5) : Calls Tryd.prog 38 #[tv t A cap] w fun e w' => e = .returned (.bool (mayB t)) ∧ Below w.heap.size w w' := by
  unfold tv
  have HO := Lib.hid fun w => ronly_any t A cap t.kids.length w
  unfold tv at HO
  have HM := Lib.hid (may_5 h)
  have s0 : (t.kind == 0) = false := by rw [h]; rfl
  have s1 : (t.kind == 1) = false := by rw [h]; rfl
  have s2 : (t.kind == 2) = false := by rw [h]; rfl
  have s6 : (t.kind == 6) = false := by rw [h]; rfl
  have s3 : (t.kind == 3) = false := by rw [h]; rfl
  have s4 : (t.kind == 4) = false := by rw [h]; rfl
  have s5 : (t.kind == 5) = true := by rw [h]; rfl
  have xIF : (t.word == [73, 70]) = false := by rw [hwd]; rfl
  have xSUM : (t.word == [83, 85, 77]) = false := by rw [hwd]; rfl
  have xMIN : (t.word == [77, 73, 78]) = false := by rw [hwd]; rfl
  have xMAX : (t.word == [77, 65, 88]) = false := by rw [hwd]; rfl
  have xCOUNT : (t.word == [67, 79, 85, 78, 84]) = true := by rw [hwd]; rfl
  have xN : (t.word != [73, 70]) = true := by rw [bne, xIF]; rfl
  have HM2 : Hid (mayB t = (onlyB t t.kids.length && (allB t.kids true true && decide (0 < t.kids.length)))) := Lib.hid (by
    rw [may_5 h, xN, xCOUNT]
    congr 2
    rw [if_neg (by rw [hwd]; decide), if_pos (by rw [hwd]; decide)])
  clear HM
  clear hwd
  clear h
  have HK := Lib.hid hk
  have HAl := Lib.hid fun (a b : Bool) (w : World) (P : Nat → Prop) hk => rall_any ih t hd hw a b w P A cap hk
  unfold tv at HAl
  clear ih hd hw hk
  generalize onlyB t t.kids.length = O at *
  have HA2 := Lib.hid (HAl.out true true)
  clear HAl
  generalize allB t.kids true true = RB at *
  obtain ⟨D, hD⟩ : ∃ D, decide (0 < t.kids.length) = D := ⟨_, rfl⟩
  rw [hD] at HM2
  cases O with
  | true =>
    cases RB with
    | true =>
      cases D with
      | true =>
        go_enter Tryd.func38, Tryd.ntmps38
        go_wp2_with fail
        refine (HO.out _).mono ?_; rintro e w1 ⟨rfl, b1⟩
        have k10 := keep_fresh b1 0 (v := .int .i64 t.kind) rfl
        have k11 := keep_fresh b1 1 (v := .int .i64 t.num) rfl
        have k12 := keep_fresh b1 2 (v := .int .i64 t.c1) rfl
        have k13 := keep_fresh b1 3 (v := .int .i64 t.r1) rfl
        have k14 := keep_fresh b1 4 (v := .int .i64 t.c2) rfl
        have k15 := keep_fresh b1 5 (v := .int .i64 t.r2) rfl
        have k16 := keep_fresh b1 6 (v := .string ⟨t.word.toArray⟩) rfl
        have k17 := keep_fresh b1 7 (v := .slice A t.kids.length cap) rfl
        have h1 : Below w.heap.size w w1 := ((Below.refl _ _).alloc (Nat.le_refl _) _).trans (b1.mono (by simp))
        clear b1 
        go_wp2_with fail
        refine (HA2.out _ _ (HK.out.kept (Kept.of_below h1))).mono ?_; rintro e w2 ⟨rfl, b2⟩
        have k20 := keep_cell b2 k10
        have k21 := keep_cell b2 k11
        have k22 := keep_cell b2 k12
        have k23 := keep_cell b2 k13
        have k24 := keep_cell b2 k14
        have k25 := keep_cell b2 k15
        have k26 := keep_cell b2 k16
        have k27 := keep_cell b2 k17
        have h2 := h1.trans (b2.mono h1.size)
        clear b2 k10 k11 k12 k13 k14 k15 k16 k17
        go_wp2_with fail
        go_ret
        exact ⟨by rw [HM2.out]; rfl, h2⟩
      | false =>
        go_enter Tryd.func38, Tryd.ntmps38
        go_wp2_with fail
        refine (HO.out _).mono ?_; rintro e w1 ⟨rfl, b1⟩
        have k10 := keep_fresh b1 0 (v := .int .i64 t.kind) rfl
        have k11 := keep_fresh b1 1 (v := .int .i64 t.num) rfl
        have k12 := keep_fresh b1 2 (v := .int .i64 t.c1) rfl
        have k13 := keep_fresh b1 3 (v := .int .i64 t.r1) rfl
        have k14 := keep_fresh b1 4 (v := .int .i64 t.c2) rfl
        have k15 := keep_fresh b1 5 (v := .int .i64 t.r2) rfl
        have k16 := keep_fresh b1 6 (v := .string ⟨t.word.toArray⟩) rfl
        have k17 := keep_fresh b1 7 (v := .slice A t.kids.length cap) rfl
        have h1 : Below w.heap.size w w1 := ((Below.refl _ _).alloc (Nat.le_refl _) _).trans (b1.mono (by simp))
        clear b1 
        go_wp2_with fail
        refine (HA2.out _ _ (HK.out.kept (Kept.of_below h1))).mono ?_; rintro e w2 ⟨rfl, b2⟩
        have k20 := keep_cell b2 k10
        have k21 := keep_cell b2 k11
        have k22 := keep_cell b2 k12
        have k23 := keep_cell b2 k13
        have k24 := keep_cell b2 k14
        have k25 := keep_cell b2 k15
        have k26 := keep_cell b2 k16
        have k27 := keep_cell b2 k17
        have h2 := h1.trans (b2.mono h1.size)
        clear b2 k10 k11 k12 k13 k14 k15 k16 k17
        go_wp2_with fail
        go_ret
        exact ⟨by rw [HM2.out]; rfl, h2⟩
    | false =>
      cases D with
      | true =>
        go_enter Tryd.func38, Tryd.ntmps38
        go_wp2_with fail
        refine (HO.out _).mono ?_; rintro e w1 ⟨rfl, b1⟩
        have k10 := keep_fresh b1 0 (v := .int .i64 t.kind) rfl
        have k11 := keep_fresh b1 1 (v := .int .i64 t.num) rfl
        have k12 := keep_fresh b1 2 (v := .int .i64 t.c1) rfl
        have k13 := keep_fresh b1 3 (v := .int .i64 t.r1) rfl
        have k14 := keep_fresh b1 4 (v := .int .i64 t.c2) rfl
        have k15 := keep_fresh b1 5 (v := .int .i64 t.r2) rfl
        have k16 := keep_fresh b1 6 (v := .string ⟨t.word.toArray⟩) rfl
        have k17 := keep_fresh b1 7 (v := .slice A t.kids.length cap) rfl
        have h1 : Below w.heap.size w w1 := ((Below.refl _ _).alloc (Nat.le_refl _) _).trans (b1.mono (by simp))
        clear b1 
        go_wp2_with fail
        refine (HA2.out _ _ (HK.out.kept (Kept.of_below h1))).mono ?_; rintro e w2 ⟨rfl, b2⟩
        have k20 := keep_cell b2 k10
        have k21 := keep_cell b2 k11
        have k22 := keep_cell b2 k12
        have k23 := keep_cell b2 k13
        have k24 := keep_cell b2 k14
        have k25 := keep_cell b2 k15
        have k26 := keep_cell b2 k16
        have k27 := keep_cell b2 k17
        have h2 := h1.trans (b2.mono h1.size)
        clear b2 k10 k11 k12 k13 k14 k15 k16 k17
        go_wp2_with fail
        go_ret
        exact ⟨by rw [HM2.out]; rfl, h2⟩
      | false =>
        go_enter Tryd.func38, Tryd.ntmps38
        go_wp2_with fail
        refine (HO.out _).mono ?_; rintro e w1 ⟨rfl, b1⟩
        have k10 := keep_fresh b1 0 (v := .int .i64 t.kind) rfl
        have k11 := keep_fresh b1 1 (v := .int .i64 t.num) rfl
        have k12 := keep_fresh b1 2 (v := .int .i64 t.c1) rfl
        have k13 := keep_fresh b1 3 (v := .int .i64 t.r1) rfl
        have k14 := keep_fresh b1 4 (v := .int .i64 t.c2) rfl
        have k15 := keep_fresh b1 5 (v := .int .i64 t.r2) rfl
        have k16 := keep_fresh b1 6 (v := .string ⟨t.word.toArray⟩) rfl
        have k17 := keep_fresh b1 7 (v := .slice A t.kids.length cap) rfl
        have h1 : Below w.heap.size w w1 := ((Below.refl _ _).alloc (Nat.le_refl _) _).trans (b1.mono (by simp))
        clear b1 
        go_wp2_with fail
        refine (HA2.out _ _ (HK.out.kept (Kept.of_below h1))).mono ?_; rintro e w2 ⟨rfl, b2⟩
        have k20 := keep_cell b2 k10
        have k21 := keep_cell b2 k11
        have k22 := keep_cell b2 k12
        have k23 := keep_cell b2 k13
        have k24 := keep_cell b2 k14
        have k25 := keep_cell b2 k15
        have k26 := keep_cell b2 k16
        have k27 := keep_cell b2 k17
        have h2 := h1.trans (b2.mono h1.size)
        clear b2 k10 k11 k12 k13 k14 k15 k16 k17
        go_wp2_with fail
        go_ret
        exact ⟨by rw [HM2.out]; rfl, h2⟩
  | false =>
    cases RB with
    | true =>
      cases D with
      | true =>
        go_enter Tryd.func38, Tryd.ntmps38
        go_wp2_with fail
        refine (HO.out _).mono ?_; rintro e w1 ⟨rfl, b1⟩
        have k10 := keep_fresh b1 0 (v := .int .i64 t.kind) rfl
        have k11 := keep_fresh b1 1 (v := .int .i64 t.num) rfl
        have k12 := keep_fresh b1 2 (v := .int .i64 t.c1) rfl
        have k13 := keep_fresh b1 3 (v := .int .i64 t.r1) rfl
        have k14 := keep_fresh b1 4 (v := .int .i64 t.c2) rfl
        have k15 := keep_fresh b1 5 (v := .int .i64 t.r2) rfl
        have k16 := keep_fresh b1 6 (v := .string ⟨t.word.toArray⟩) rfl
        have k17 := keep_fresh b1 7 (v := .slice A t.kids.length cap) rfl
        have h1 : Below w.heap.size w w1 := ((Below.refl _ _).alloc (Nat.le_refl _) _).trans (b1.mono (by simp))
        clear b1 
        go_wp2_with fail
        refine (HA2.out _ _ (HK.out.kept (Kept.of_below h1))).mono ?_; rintro e w2 ⟨rfl, b2⟩
        have k20 := keep_cell b2 k10
        have k21 := keep_cell b2 k11
        have k22 := keep_cell b2 k12
        have k23 := keep_cell b2 k13
        have k24 := keep_cell b2 k14
        have k25 := keep_cell b2 k15
        have k26 := keep_cell b2 k16
        have k27 := keep_cell b2 k17
        have h2 := h1.trans (b2.mono h1.size)
        clear b2 k10 k11 k12 k13 k14 k15 k16 k17
        go_wp2_with fail
        go_ret
        exact ⟨by rw [HM2.out]; rfl, h2⟩
      | false =>
        go_enter Tryd.func38, Tryd.ntmps38
        go_wp2_with fail
        refine (HO.out _).mono ?_; rintro e w1 ⟨rfl, b1⟩
        have k10 := keep_fresh b1 0 (v := .int .i64 t.kind) rfl
        have k11 := keep_fresh b1 1 (v := .int .i64 t.num) rfl
        have k12 := keep_fresh b1 2 (v := .int .i64 t.c1) rfl
        have k13 := keep_fresh b1 3 (v := .int .i64 t.r1) rfl
        have k14 := keep_fresh b1 4 (v := .int .i64 t.c2) rfl
        have k15 := keep_fresh b1 5 (v := .int .i64 t.r2) rfl
        have k16 := keep_fresh b1 6 (v := .string ⟨t.word.toArray⟩) rfl
        have k17 := keep_fresh b1 7 (v := .slice A t.kids.length cap) rfl
        have h1 : Below w.heap.size w w1 := ((Below.refl _ _).alloc (Nat.le_refl _) _).trans (b1.mono (by simp))
        clear b1 
        go_wp2_with fail
        refine (HA2.out _ _ (HK.out.kept (Kept.of_below h1))).mono ?_; rintro e w2 ⟨rfl, b2⟩
        have k20 := keep_cell b2 k10
        have k21 := keep_cell b2 k11
        have k22 := keep_cell b2 k12
        have k23 := keep_cell b2 k13
        have k24 := keep_cell b2 k14
        have k25 := keep_cell b2 k15
        have k26 := keep_cell b2 k16
        have k27 := keep_cell b2 k17
        have h2 := h1.trans (b2.mono h1.size)
        clear b2 k10 k11 k12 k13 k14 k15 k16 k17
        go_wp2_with fail
        go_ret
        exact ⟨by rw [HM2.out]; rfl, h2⟩
    | false =>
      cases D with
      | true =>
        go_enter Tryd.func38, Tryd.ntmps38
        go_wp2_with fail
        refine (HO.out _).mono ?_; rintro e w1 ⟨rfl, b1⟩
        have k10 := keep_fresh b1 0 (v := .int .i64 t.kind) rfl
        have k11 := keep_fresh b1 1 (v := .int .i64 t.num) rfl
        have k12 := keep_fresh b1 2 (v := .int .i64 t.c1) rfl
        have k13 := keep_fresh b1 3 (v := .int .i64 t.r1) rfl
        have k14 := keep_fresh b1 4 (v := .int .i64 t.c2) rfl
        have k15 := keep_fresh b1 5 (v := .int .i64 t.r2) rfl
        have k16 := keep_fresh b1 6 (v := .string ⟨t.word.toArray⟩) rfl
        have k17 := keep_fresh b1 7 (v := .slice A t.kids.length cap) rfl
        have h1 : Below w.heap.size w w1 := ((Below.refl _ _).alloc (Nat.le_refl _) _).trans (b1.mono (by simp))
        clear b1 
        go_wp2_with fail
        refine (HA2.out _ _ (HK.out.kept (Kept.of_below h1))).mono ?_; rintro e w2 ⟨rfl, b2⟩
        have k20 := keep_cell b2 k10
        have k21 := keep_cell b2 k11
        have k22 := keep_cell b2 k12
        have k23 := keep_cell b2 k13
        have k24 := keep_cell b2 k14
        have k25 := keep_cell b2 k15
        have k26 := keep_cell b2 k16
        have k27 := keep_cell b2 k17
        have h2 := h1.trans (b2.mono h1.size)
        clear b2 k10 k11 k12 k13 k14 k15 k16 k17
        go_wp2_with fail
        go_ret
        exact ⟨by rw [HM2.out]; rfl, h2⟩
      | false =>
        go_enter Tryd.func38, Tryd.ntmps38
        go_wp2_with fail
        refine (HO.out _).mono ?_; rintro e w1 ⟨rfl, b1⟩
        have k10 := keep_fresh b1 0 (v := .int .i64 t.kind) rfl
        have k11 := keep_fresh b1 1 (v := .int .i64 t.num) rfl
        have k12 := keep_fresh b1 2 (v := .int .i64 t.c1) rfl
        have k13 := keep_fresh b1 3 (v := .int .i64 t.r1) rfl
        have k14 := keep_fresh b1 4 (v := .int .i64 t.c2) rfl
        have k15 := keep_fresh b1 5 (v := .int .i64 t.r2) rfl
        have k16 := keep_fresh b1 6 (v := .string ⟨t.word.toArray⟩) rfl
        have k17 := keep_fresh b1 7 (v := .slice A t.kids.length cap) rfl
        have h1 : Below w.heap.size w w1 := ((Below.refl _ _).alloc (Nat.le_refl _) _).trans (b1.mono (by simp))
        clear b1 
        go_wp2_with fail
        refine (HA2.out _ _ (HK.out.kept (Kept.of_below h1))).mono ?_; rintro e w2 ⟨rfl, b2⟩
        have k20 := keep_cell b2 k10
        have k21 := keep_cell b2 k11
        have k22 := keep_cell b2 k12
        have k23 := keep_cell b2 k13
        have k24 := keep_cell b2 k14
        have k25 := keep_cell b2 k15
        have k26 := keep_cell b2 k16
        have k27 := keep_cell b2 k17
        have h2 := h1.trans (b2.mono h1.size)
        clear b2 k10 k11 k12 k13 k14 k15 k16 k17
        go_wp2_with fail
        go_ret
        exact ⟨by rw [HM2.out]; rfl, h2⟩
set_option maxHeartbeats 2000000 in
set_option maxRecDepth 10000 in
theorem rmay_5no (t : Tr) (w : World) (A : Option Addr) (cap : Nat) {d : Nat} (ih : MayC d) (hd : deepL t.kids ≤ d) (hw : Wid t) (P : Nat → Prop) (hk : KV w P t A) (hwIF : t.word ≠ [73, 70]) (hwSUM : t.word ≠ [83, 85, 77]) (hwMIN : t.word ≠ [77, 73, 78]) (hwMAX : t.word ≠ [77, 65, 88]) (hwCOUNT : t.word ≠ [67, 79, 85, 78, 84]) (h : t.kind = 5) : Calls Tryd.prog 38 #[tv t A cap] w fun e w' => e = .returned (.bool (mayB t)) ∧ Below w.heap.size w w' := by
  unfold tv
  have HO := Lib.hid fun w => ronly_any t A cap t.kids.length w
  unfold tv at HO
  have HM := Lib.hid (may_5 h)
  have s0 : (t.kind == 0) = false := by rw [h]; rfl
  have s1 : (t.kind == 1) = false := by rw [h]; rfl
  have s2 : (t.kind == 2) = false := by rw [h]; rfl
  have s6 : (t.kind == 6) = false := by rw [h]; rfl
  have s3 : (t.kind == 3) = false := by rw [h]; rfl
  have s4 : (t.kind == 4) = false := by rw [h]; rfl
  have s5 : (t.kind == 5) = true := by rw [h]; rfl
  have xIF : (t.word == [73, 70]) = false := by rw [beq_eq_false_iff_ne]; exact hwIF
  have xSUM : (t.word == [83, 85, 77]) = false := by rw [beq_eq_false_iff_ne]; exact hwSUM
  have xMIN : (t.word == [77, 73, 78]) = false := by rw [beq_eq_false_iff_ne]; exact hwMIN
  have xMAX : (t.word == [77, 65, 88]) = false := by rw [beq_eq_false_iff_ne]; exact hwMAX
  have xCOUNT : (t.word == [67, 79, 85, 78, 84]) = false := by rw [beq_eq_false_iff_ne]; exact hwCOUNT
  have xN : (t.word != [73, 70]) = true := by rw [bne, xIF]; rfl
  have HM2 : Hid (mayB t = (onlyB t t.kids.length && (allB t.kids true false && false))) := Lib.hid (by
    rw [may_5 h, xN, xCOUNT]
    congr 2
    rw [if_neg hwIF, if_neg (by rintro (e | e | e | e); exact hwSUM e; exact hwMIN e; exact hwMAX e; exact hwCOUNT e)])
  clear HM
  clear hwIF hwSUM hwMIN hwMAX hwCOUNT
  clear h
  have HK := Lib.hid hk
  have HAl := Lib.hid fun (a b : Bool) (w : World) (P : Nat → Prop) hk => rall_any ih t hd hw a b w P A cap hk
  unfold tv at HAl
  clear ih hd hw hk
  generalize onlyB t t.kids.length = O at *
  have HA2 := Lib.hid (HAl.out true false)
  clear HAl
  generalize allB t.kids true false = RB at *
  cases O with
  | true =>
    cases RB with
    | true =>
      go_enter Tryd.func38, Tryd.ntmps38
      go_wp2_with fail
      refine (HO.out _).mono ?_; rintro e w1 ⟨rfl, b1⟩
      have k10 := keep_fresh b1 0 (v := .int .i64 t.kind) rfl
      have k11 := keep_fresh b1 1 (v := .int .i64 t.num) rfl
      have k12 := keep_fresh b1 2 (v := .int .i64 t.c1) rfl
      have k13 := keep_fresh b1 3 (v := .int .i64 t.r1) rfl
      have k14 := keep_fresh b1 4 (v := .int .i64 t.c2) rfl
      have k15 := keep_fresh b1 5 (v := .int .i64 t.r2) rfl
      have k16 := keep_fresh b1 6 (v := .string ⟨t.word.toArray⟩) rfl
      have k17 := keep_fresh b1 7 (v := .slice A t.kids.length cap) rfl
      have h1 : Below w.heap.size w w1 := ((Below.refl _ _).alloc (Nat.le_refl _) _).trans (b1.mono (by simp))
      clear b1 
      go_wp2_with fail
      refine (HA2.out _ _ (HK.out.kept (Kept.of_below h1))).mono ?_; rintro e w2 ⟨rfl, b2⟩
      have k20 := keep_cell b2 k10
      have k21 := keep_cell b2 k11
      have k22 := keep_cell b2 k12
      have k23 := keep_cell b2 k13
      have k24 := keep_cell b2 k14
      have k25 := keep_cell b2 k15
      have k26 := keep_cell b2 k16
      have k27 := keep_cell b2 k17
      have h2 := h1.trans (b2.mono h1.size)
      clear b2 k10 k11 k12 k13 k14 k15 k16 k17
      go_wp2_with fail
      go_ret
      exact ⟨by rw [HM2.out]; rfl, h2⟩
    | false =>
      go_enter Tryd.func38, Tryd.ntmps38
      go_wp2_with fail
      refine (HO.out _).mono ?_; rintro e w1 ⟨rfl, b1⟩
      have k10 := keep_fresh b1 0 (v := .int .i64 t.kind) rfl
      have k11 := keep_fresh b1 1 (v := .int .i64 t.num) rfl
      have k12 := keep_fresh b1 2 (v := .int .i64 t.c1) rfl
      have k13 := keep_fresh b1 3 (v := .int .i64 t.r1) rfl
      have k14 := keep_fresh b1 4 (v := .int .i64 t.c2) rfl
      have k15 := keep_fresh b1 5 (v := .int .i64 t.r2) rfl
      have k16 := keep_fresh b1 6 (v := .string ⟨t.word.toArray⟩) rfl
      have k17 := keep_fresh b1 7 (v := .slice A t.kids.length cap) rfl
      have h1 : Below w.heap.size w w1 := ((Below.refl _ _).alloc (Nat.le_refl _) _).trans (b1.mono (by simp))
      clear b1 
      go_wp2_with fail
      refine (HA2.out _ _ (HK.out.kept (Kept.of_below h1))).mono ?_; rintro e w2 ⟨rfl, b2⟩
      have k20 := keep_cell b2 k10
      have k21 := keep_cell b2 k11
      have k22 := keep_cell b2 k12
      have k23 := keep_cell b2 k13
      have k24 := keep_cell b2 k14
      have k25 := keep_cell b2 k15
      have k26 := keep_cell b2 k16
      have k27 := keep_cell b2 k17
      have h2 := h1.trans (b2.mono h1.size)
      clear b2 k10 k11 k12 k13 k14 k15 k16 k17
      go_wp2_with fail
      go_ret
      exact ⟨by rw [HM2.out]; rfl, h2⟩
  | false =>
    cases RB with
    | true =>
      go_enter Tryd.func38, Tryd.ntmps38
      go_wp2_with fail
      refine (HO.out _).mono ?_; rintro e w1 ⟨rfl, b1⟩
      have k10 := keep_fresh b1 0 (v := .int .i64 t.kind) rfl
      have k11 := keep_fresh b1 1 (v := .int .i64 t.num) rfl
      have k12 := keep_fresh b1 2 (v := .int .i64 t.c1) rfl
      have k13 := keep_fresh b1 3 (v := .int .i64 t.r1) rfl
      have k14 := keep_fresh b1 4 (v := .int .i64 t.c2) rfl
      have k15 := keep_fresh b1 5 (v := .int .i64 t.r2) rfl
      have k16 := keep_fresh b1 6 (v := .string ⟨t.word.toArray⟩) rfl
      have k17 := keep_fresh b1 7 (v := .slice A t.kids.length cap) rfl
      have h1 : Below w.heap.size w w1 := ((Below.refl _ _).alloc (Nat.le_refl _) _).trans (b1.mono (by simp))
      clear b1 
      go_wp2_with fail
      refine (HA2.out _ _ (HK.out.kept (Kept.of_below h1))).mono ?_; rintro e w2 ⟨rfl, b2⟩
      have k20 := keep_cell b2 k10
      have k21 := keep_cell b2 k11
      have k22 := keep_cell b2 k12
      have k23 := keep_cell b2 k13
      have k24 := keep_cell b2 k14
      have k25 := keep_cell b2 k15
      have k26 := keep_cell b2 k16
      have k27 := keep_cell b2 k17
      have h2 := h1.trans (b2.mono h1.size)
      clear b2 k10 k11 k12 k13 k14 k15 k16 k17
      go_wp2_with fail
      go_ret
      exact ⟨by rw [HM2.out]; rfl, h2⟩
    | false =>
      go_enter Tryd.func38, Tryd.ntmps38
      go_wp2_with fail
      refine (HO.out _).mono ?_; rintro e w1 ⟨rfl, b1⟩
      have k10 := keep_fresh b1 0 (v := .int .i64 t.kind) rfl
      have k11 := keep_fresh b1 1 (v := .int .i64 t.num) rfl
      have k12 := keep_fresh b1 2 (v := .int .i64 t.c1) rfl
      have k13 := keep_fresh b1 3 (v := .int .i64 t.r1) rfl
      have k14 := keep_fresh b1 4 (v := .int .i64 t.c2) rfl
      have k15 := keep_fresh b1 5 (v := .int .i64 t.r2) rfl
      have k16 := keep_fresh b1 6 (v := .string ⟨t.word.toArray⟩) rfl
      have k17 := keep_fresh b1 7 (v := .slice A t.kids.length cap) rfl
      have h1 : Below w.heap.size w w1 := ((Below.refl _ _).alloc (Nat.le_refl _) _).trans (b1.mono (by simp))
      clear b1 
      go_wp2_with fail
      refine (HA2.out _ _ (HK.out.kept (Kept.of_below h1))).mono ?_; rintro e w2 ⟨rfl, b2⟩
      have k20 := keep_cell b2 k10
      have k21 := keep_cell b2 k11
      have k22 := keep_cell b2 k12
      have k23 := keep_cell b2 k13
      have k24 := keep_cell b2 k14
      have k25 := keep_cell b2 k15
      have k26 := keep_cell b2 k16
      have k27 := keep_cell b2 k17
      have h2 := h1.trans (b2.mono h1.size)
      clear b2 k10 k11 k12 k13 k14 k15 k16 k17
      go_wp2_with fail
      go_ret
      exact ⟨by rw [HM2.out]; rfl, h2⟩
end Go.Proofs.YthaoalmhhgllmaaDoor
