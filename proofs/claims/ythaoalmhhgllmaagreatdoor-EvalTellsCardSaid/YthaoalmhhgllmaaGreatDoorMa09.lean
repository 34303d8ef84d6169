/- Texts joined: PlAr, PlDw, RdJa, SrC, SrD, SzA, TbA, ShA. -/
import Derived.Test.YthaoalmhhgllmaaGreatDoorMa03
import Derived.WalkLawsBesides
import Derived.Test.YthaoalmhhgllmaaGreatDoorMa01
import Derived.Test.YthaoalmhhgllmaaGreatDoorMa06
import Derived.Test.YthaoalmhhgllmaaGreatDoorMa08
import Derived.Deep.RegionWith
import Derived.Lib.ItoaLen
set_option linter.all false
set_option linter.unusedVariables false
set_option linter.unusedSimpArgs false
namespace Go.Proofs.YthaoalmhhgllmaaGreatDoor
open Go.RowKit

set_option maxHeartbeats 400000 in
theorem pright_any (c r : Int) (w : World) :
    Calls Tryz.prog 77 #[.agg #[.int .i64 c, .int .i64 r]] w fun e w' => e = .returned (.bool (rightB c r)) ∧ Below w.heap.size w w' := by
  go_enter Tryz.func77, Tryz.ntmps77
  go_wp2_with fail
  all_goals go_ret
  · exact ⟨ret_bool (bool_iff (by rw [rightB_iff]; simp; omega)), (Below.refl _ _).alloc (Nat.le_refl _) _⟩
  · exact ⟨ret_bool ((rightB_not _ _).2 (by omega)).symm, (Below.refl _ _).alloc (Nat.le_refl _) _⟩
  · exact ⟨ret_bool ((rightB_not _ _).2 (by omega)).symm, (Below.refl _ _).alloc (Nat.le_refl _) _⟩
  · exact ⟨ret_bool ((rightB_not _ _).2 (by omega)).symm, (Below.refl _ _).alloc (Nat.le_refl _) _⟩
end Go.Proofs.YthaoalmhhgllmaaGreatDoor
namespace Go.Proofs.YthaoalmhhgllmaaGreatDoor
open Go.RowKit

set_option maxHeartbeats 1000000 in
theorem pwhole_any (a b c d : Int) (w : World) :
    Calls Tryz.prog 81 #[.agg #[.int .i64 a, .int .i64 b, .int .i64 c, .int .i64 d]] w fun e w' => e = .returned (.bool (wholeB a b c d)) ∧ Below w.heap.size w w' := by
  have HF := Lib.hid (pright_any a b)
  have HT := Lib.hid (pright_any c d)
  cases hf : rightB a b with
  | false =>
    have e1 := Lib.hid (show wholeB a b c d = false from by unfold wholeB; rw [hf]; rfl)
    rw [hf] at HF
    clear hf
    go_enter Tryz.func81, Tryz.ntmps81
    go_wp2_with fail
    refine (HF.out _).mono ?_; rintro e w1 ⟨rfl, b1⟩
    have h1 : Below w.heap.size w w1 := ((Below.refl _ _).alloc (Nat.le_refl _) _).trans (b1.mono (by simp))
    clear b1
    go_wp2_with fail
    go_ret
    exact ⟨ret_bool e1.out.symm, h1⟩
  | true =>
    rw [hf] at HF
    cases ht : rightB c d with
    | false =>
      have e1 := Lib.hid (show wholeB a b c d = false from by unfold wholeB; rw [hf, ht]; rfl)
      rw [ht] at HT
      clear hf ht
      go_enter Tryz.func81, Tryz.ntmps81
      go_wp2_with fail
      refine (HF.out _).mono ?_; rintro e w1 ⟨rfl, b1⟩
      have k2 := keep_fresh b1 2 (v := .int .i64 c) rfl
      have k3 := keep_fresh b1 3 (v := .int .i64 d) rfl
      go_wp2_with fail
      refine (HT.out _).mono ?_; rintro e w2 ⟨rfl, b2⟩
      have h1 : Below w.heap.size w w1 := ((Below.refl _ _).alloc (Nat.le_refl _) _).trans (b1.mono (by simp))
      have h2 := h1.trans (b2.mono h1.size)
      clear k2 k3 b1 b2
      go_wp2_with fail
      go_ret
      exact ⟨ret_bool e1.out.symm, h2⟩
    | true =>
      have e1 := Lib.hid (show wholeB a b c d = (decide (a ≤ c) && decide (b ≤ d)) from by unfold wholeB; rw [hf, ht]; rfl)
      rw [ht] at HT
      clear hf ht
      go_enter Tryz.func81, Tryz.ntmps81
      go_wp2_with fail
      refine (HF.out _).mono ?_; rintro e w1 ⟨rfl, b1⟩
      have j0 := keep_fresh b1 0 (v := .int .i64 a) rfl
      have j1 := keep_fresh b1 1 (v := .int .i64 b) rfl
      have j2 := keep_fresh b1 2 (v := .int .i64 c) rfl
      have j3 := keep_fresh b1 3 (v := .int .i64 d) rfl
      go_wp2_with fail
      refine (HT.out _).mono ?_; rintro e w2 ⟨rfl, b2⟩
      have k0 := keep_cell b2 j0
      have k1 := keep_cell b2 j1
      have k2 := keep_cell b2 j2
      have k3 := keep_cell b2 j3
      have h1 : Below w.heap.size w w1 := ((Below.refl _ _).alloc (Nat.le_refl _) _).trans (b1.mono (by simp))
      have h2 := h1.trans (b2.mono h1.size)
      clear j0 j1 j2 j3 b1 b2
      by_cases hac : a ≤ c
      · have d1 : decide (a ≤ c) = true := decide_eq_true hac
        rw [d1, Bool.true_and] at e1
        clear hac
        go_wp2_with fail
        go_ret
        exact ⟨ret_bool e1.out.symm, h2⟩
      · have d1 : decide (a ≤ c) = false := decide_eq_false hac
        rw [d1, Bool.false_and] at e1
        clear hac
        go_wp2_with fail
        go_ret
        exact ⟨ret_bool e1.out.symm, h2⟩
end Go.Proofs.YthaoalmhhgllmaaGreatDoor
namespace Go.Proofs.YthaoalmhhgllmaaGreatDoor
open Go.RowKit

theorem ba_eq (l : List UInt8) (m : List UInt8) : ((⟨l.toArray⟩ : ByteArray) = ⟨m.toArray⟩) ↔ l = m := by
  constructor
  · intro h; have := congrArg ByteArray.data h; simpa using this
  · rintro rfl; rfl
theorem strV_lvl (l : List UInt8) : strV ⟨l.toArray⟩ = (lvl l : Int) - 1 := by
  have h0 : ∀ (m : List UInt8) (r : List ByteArray), (findS ⟨l.toArray⟩ ((⟨m.toArray⟩ : ByteArray) :: r)).isSome = (decide (l = m) || (findS ⟨l.toArray⟩ r).isSome) := fun m r => by
    rw [findS]
    by_cases h : l = m
    · rw [if_pos ((ba_eq l m).2 h)]; simp [h]
    · rw [if_neg (fun e => h ((ba_eq l m).1 e))]; simp [h]
  have hn : (findS ⟨l.toArray⟩ []).isSome = false := rfl
  have e0 : (findS ⟨l.toArray⟩ (strL 0)).isSome = (decide (l = [60]) || (decide (l = [60, 61]) || (decide (l = [61]) || (decide (l = [60, 62]) || (decide (l = [62, 61]) || (decide (l = [62]) || false)))))) := by
    show (findS ⟨l.toArray⟩ [⟨[60].toArray⟩, ⟨[60, 61].toArray⟩, ⟨[61].toArray⟩, ⟨[60, 62].toArray⟩, ⟨[62, 61].toArray⟩, ⟨[62].toArray⟩]).isSome = _
    rw [h0, h0, h0, h0, h0, h0, hn]
  have e1 : (findS ⟨l.toArray⟩ (strL 1)).isSome = (decide (l = [43]) || (decide (l = [45]) || false)) := by
    show (findS ⟨l.toArray⟩ [⟨[43].toArray⟩, ⟨[45].toArray⟩]).isSome = _
    rw [h0, h0, hn]
  have e2 : (findS ⟨l.toArray⟩ (strL 2)).isSome = (decide (l = [42]) || (decide (l = [47]) || false)) := by
    show (findS ⟨l.toArray⟩ [⟨[42].toArray⟩, ⟨[47].toArray⟩]).isSome = _
    rw [h0, h0, hn]
  unfold strV lvl
  rw [e0, e1, e2]
  by_cases c0 : l = [60] ∨ l = [60, 61] ∨ l = [61] ∨ l = [60, 62] ∨ l = [62, 61] ∨ l = [62]
  · rw [if_pos c0, if_pos (by simpa [or_assoc] using c0)]; rfl
  · rw [if_neg c0, if_neg (by simpa [or_assoc] using c0)]
    by_cases c1 : l = [43] ∨ l = [45]
    · rw [if_pos c1, if_pos (by simpa using c1)]; rfl
    · rw [if_neg c1, if_neg (by simpa using c1)]
      by_cases c2 : l = [42] ∨ l = [47]
      · rw [if_pos c2, if_pos (by simpa using c2)]; rfl
      · rw [if_neg c2, if_neg (by simpa using c2)]; rfl
end Go.Proofs.YthaoalmhhgllmaaGreatDoor
namespace Go.Proofs.YthaoalmhhgllmaaGreatDoor
open Go.RowKit

theorem splaceGuard : Tryz.prog.eqGuardType Tryz.prog.depth 24 = false := by kernel_rfl
theorem splaceStood : Tryz.prog.stoodInHeld 24 = false := by kernel_rfl
theorem splaceStruct : Tryz.prog.underlying 24 = some (.struct (Tryz.prog.fieldsOf 24)) := by kernel_rfl
theorem sguard_place (op : BinOp) (X Y : Operand) (xs ys : Array Value) (W : World) : (eqGuard op 24 X Y (.agg xs) (.agg ys)).run Tryz.prog W = .ok () W := run_eqGuard_agg W op 24 X Y xs ys splaceGuard
theorem seql_place (a b c d : Int) (W : World) : (binOp .eql 24 (.agg #[.int .i64 a, .int .i64 b]) (.agg #[.int .i64 c, .int .i64 d])).run Tryz.prog W = .ok (.bool (a == c && b == d)) W := by
  rw [run_eql_struct, run_equalIn_agg W 9999 24 _ _ splaceStruct splaceStood]
  by_cases h1 : a = c <;> by_cases h2 : b = d <;> simp [go_sem, h1, h2]
def soundB (t : Tr) : Bool :=
  if t.kind = 0 then decide (0 ≤ t.num) else if t.kind = 1 then rightB t.c1 t.r1 && (t.c1 == t.c2 && t.r1 == t.r2) else if t.kind = 2 then true
  else if t.kind = 3 then exprsB t.kids 1 else if t.kind = 4 then decide (0 ≤ (lvl t.word : Int) - 1) && exprsB t.kids 2 else if t.kind = 5 then calledB t.word t.kids
  else if t.kind = 6 then wholeB t.c1 t.r1 t.c2 t.r2 else false
set_option maxHeartbeats 2000000 in
set_option maxRecDepth 10000 in
theorem psound_num (t : Tr) (ht : Wid t) (w : World) (P : Nat → Prop) (A : Option Addr) (ca : Nat) (hA : KV w P t A) {R B : Nat} (hS : Strs R B w)  (y : (t.kind == 0) = true) :
    Calls Tryz.prog 47 #[.agg #[.int .i64 t.kind, .int .i64 t.num, .int .i64 t.c1, .int .i64 t.r1, .int .i64 t.c2, .int .i64 t.r2, .string ⟨t.word.toArray⟩, .slice A t.kids.length ca]] w fun e w' => e = .returned (.bool (decide (0 ≤ t.num))) ∧ Below w.heap.size w w' := by
  have hlen := ht.len
  unfold maxLen at hlen
  have HS := Lib.hid hS
  have HA := Lib.hid hA
  have HT := Lib.hid ht
  clear hA hS ht
  go_enter Tryz.func47, Tryz.ntmps47
  go_wp2_with fail
  go_ret
  exact ⟨by first | rfl | trivial, (Below.refl _ _).alloc (Nat.le_refl _) _⟩
set_option maxHeartbeats 2000000 in
set_option maxRecDepth 10000 in
theorem psound_read1 (t : Tr) (ht : Wid t) (w : World) (P : Nat → Prop) (A : Option Addr) (ca : Nat) (hA : KV w P t A) {R B : Nat} (hS : Strs R B w) (n0 : (t.kind == 0) = false) (y : (t.kind == 1) = true) (hr : rightB t.c1 t.r1 = true) :
    Calls Tryz.prog 47 #[.agg #[.int .i64 t.kind, .int .i64 t.num, .int .i64 t.c1, .int .i64 t.r1, .int .i64 t.c2, .int .i64 t.r2, .string ⟨t.word.toArray⟩, .slice A t.kids.length ca]] w fun e w' => e = .returned (.bool (t.c1 == t.c2 && t.r1 == t.r2)) ∧ Below w.heap.size w w' := by
  have hlen := ht.len
  unfold maxLen at hlen
  have HS := Lib.hid hS
  have HA := Lib.hid hA
  have HT := Lib.hid ht
  clear hA hS ht
  have HR := Lib.hid (fun w => pright_any t.c1 t.r1 w)
  rw [hr] at HR
  clear hr
  have hG := fun op X Y W => sguard_place op X Y #[.int .i64 t.c1, .int .i64 t.r1] #[.int .i64 t.c2, .int .i64 t.r2] W
  have hN := seql_place t.c1 t.r1 t.c2 t.r2
  go_enter Tryz.func47, Tryz.ntmps47
  go_wp2_with fail
  refine (HR.out _).mono ?_; rintro e w1 ⟨rfl, b1⟩
  have k10 := keep_fresh b1 0 (v := .int .i64 t.kind) rfl
  have k11 := keep_fresh b1 1 (v := .int .i64 t.num) rfl
  have k12 := keep_fresh b1 2 (v := .int .i64 t.c1) rfl
  have k13 := keep_fresh b1 3 (v := .int .i64 t.r1) rfl
  have k14 := keep_fresh b1 4 (v := .int .i64 t.c2) rfl
  have k15 := keep_fresh b1 5 (v := .int .i64 t.r2) rfl
  have k16 := keep_fresh b1 6 (v := .string ⟨t.word.toArray⟩) rfl
  have k17 := keep_fresh b1 7 (v := .slice A t.kids.length ca) rfl
  have h1 : Below w.heap.size w w1 := ((Below.refl _ _).alloc (Nat.le_refl _) _).trans (b1.mono (by simp))
  have z1 : w.heap.size < w1.heap.size := by have := b1.size; simp at this; omega
  clear b1
  go_wp2_with fail
  go_ret
  exact ⟨rfl, h1⟩
set_option maxHeartbeats 2000000 in
set_option maxRecDepth 10000 in
theorem psound_read0 (t : Tr) (ht : Wid t) (w : World) (P : Nat → Prop) (A : Option Addr) (ca : Nat) (hA : KV w P t A) {R B : Nat} (hS : Strs R B w) (n0 : (t.kind == 0) = false) (y : (t.kind == 1) = true) (hr : rightB t.c1 t.r1 = false) :
    Calls Tryz.prog 47 #[.agg #[.int .i64 t.kind, .int .i64 t.num, .int .i64 t.c1, .int .i64 t.r1, .int .i64 t.c2, .int .i64 t.r2, .string ⟨t.word.toArray⟩, .slice A t.kids.length ca]] w fun e w' => e = .returned (.bool (false)) ∧ Below w.heap.size w w' := by
  have hlen := ht.len
  unfold maxLen at hlen
  have HS := Lib.hid hS
  have HA := Lib.hid hA
  have HT := Lib.hid ht
  clear hA hS ht
  have HR := Lib.hid (fun w => pright_any t.c1 t.r1 w)
  rw [hr] at HR
  clear hr
  go_enter Tryz.func47, Tryz.ntmps47
  go_wp2_with fail
  refine (HR.out _).mono ?_; rintro e w1 ⟨rfl, b1⟩
  have h1 : Below w.heap.size w w1 := ((Below.refl _ _).alloc (Nat.le_refl _) _).trans (b1.mono (by simp))
  have z1 : w.heap.size < w1.heap.size := by have := b1.size; simp at this; omega
  clear b1
  go_wp2_with fail
  go_ret
  exact ⟨rfl, h1⟩
set_option maxHeartbeats 2000000 in
set_option maxRecDepth 10000 in
theorem psound_bad (t : Tr) (ht : Wid t) (w : World) (P : Nat → Prop) (A : Option Addr) (ca : Nat) (hA : KV w P t A) {R B : Nat} (hS : Strs R B w) (n0 : (t.kind == 0) = false) (n1 : (t.kind == 1) = false) (y : (t.kind == 2) = true) :
    Calls Tryz.prog 47 #[.agg #[.int .i64 t.kind, .int .i64 t.num, .int .i64 t.c1, .int .i64 t.r1, .int .i64 t.c2, .int .i64 t.r2, .string ⟨t.word.toArray⟩, .slice A t.kids.length ca]] w fun e w' => e = .returned (.bool (true)) ∧ Below w.heap.size w w' := by
  have hlen := ht.len
  unfold maxLen at hlen
  have HS := Lib.hid hS
  have HA := Lib.hid hA
  have HT := Lib.hid ht
  clear hA hS ht
  go_enter Tryz.func47, Tryz.ntmps47
  go_wp2_with fail
  go_ret
  exact ⟨by first | rfl | trivial, (Below.refl _ _).alloc (Nat.le_refl _) _⟩
set_option maxHeartbeats 2000000 in
set_option maxRecDepth 10000 in
theorem psound_neg (t : Tr) (ht : Wid t) (w : World) (P : Nat → Prop) (A : Option Addr) (ca : Nat) (hA : KV w P t A) {R B : Nat} (hS : Strs R B w) (n0 : (t.kind == 0) = false) (n1 : (t.kind == 1) = false) (n2 : (t.kind == 2) = false) (y : (t.kind == 3) = true) :
    Calls Tryz.prog 47 #[.agg #[.int .i64 t.kind, .int .i64 t.num, .int .i64 t.c1, .int .i64 t.r1, .int .i64 t.c2, .int .i64 t.r2, .string ⟨t.word.toArray⟩, .slice A t.kids.length ca]] w fun e w' => e = .returned (.bool (exprsB t.kids 1)) ∧ Below w.heap.size w w' := by
  have hlen := ht.len
  unfold maxLen at hlen
  have HS := Lib.hid hS
  have HA := Lib.hid hA
  have HT := Lib.hid ht
  clear hA hS ht
  have HE := Lib.hid (fun ob => pexprs_any 1 t HT.out (w.alloc ob) P A ca (HA.out.kept (Kept.of_below ((Below.refl _ _).alloc (Nat.le_refl _) ob))))
  go_enter Tryz.func47, Tryz.ntmps47
  go_wp2_with fail
  refine (HE.out _).mono ?_; rintro e w1 ⟨rfl, b1⟩
  have h1 : Below w.heap.size w w1 := ((Below.refl _ _).alloc (Nat.le_refl _) _).trans (b1.mono (by simp))
  have z1 : w.heap.size < w1.heap.size := by have := b1.size; simp at this; omega
  clear b1
  go_wp2_with fail
  go_ret
  exact ⟨rfl, h1⟩
set_option maxHeartbeats 2000000 in
set_option maxRecDepth 10000 in
theorem psound_opt (t : Tr) (ht : Wid t) (w : World) (P : Nat → Prop) (A : Option Addr) (ca : Nat) (hA : KV w P t A) {R B : Nat} (hS : Strs R B w) (n0 : (t.kind == 0) = false) (n1 : (t.kind == 1) = false) (n2 : (t.kind == 2) = false) (n3 : (t.kind == 3) = false) (y : (t.kind == 4) = true) (hl : decide (0 ≤ (lvl t.word : Int) - 1) = true) :
    Calls Tryz.prog 47 #[.agg #[.int .i64 t.kind, .int .i64 t.num, .int .i64 t.c1, .int .i64 t.r1, .int .i64 t.c2, .int .i64 t.r2, .string ⟨t.word.toArray⟩, .slice A t.kids.length ca]] w fun e w' => e = .returned (.bool (exprsB t.kids 2)) ∧ Below w.heap.size w w' := by
  have hlen := ht.len
  unfold maxLen at hlen
  have HS := Lib.hid hS
  have HA := Lib.hid hA
  have HT := Lib.hid ht
  clear hA hS ht
  have HE := Lib.hid (fun ob => pexprs_any 2 t HT.out (w.alloc ob) P A ca (HA.out.kept (Kept.of_below ((Below.refl _ _).alloc (Nat.le_refl _) ob))))
  have hV := strV_lvl t.word
  have HX := Lib.hid (fun ob => strength_any R B (w.alloc ob) ⟨t.word.toArray⟩ (HS.out.keep fun _ _ _ _ hv => kc_alloc' hv))
  rw [hV] at HX
  clear hV
  have HL := Lib.hid hl
  generalize (lvl t.word : Int) - 1 = lv at *
  go_enter Tryz.func47, Tryz.ntmps47
  go_wp2_with fail
  refine (HX.out _).mono ?_; rintro e w9 ⟨rfl, rfl⟩
  go_wp2_with fail
  refine (HE.out _).mono ?_; rintro e w1 ⟨rfl, b1⟩
  have h1 : Below w.heap.size w w1 := ((Below.refl _ _).alloc (Nat.le_refl _) _).trans (b1.mono (by simp))
  have z1 : w.heap.size < w1.heap.size := by have := b1.size; simp at this; omega
  clear b1
  go_wp2_with fail
  go_ret
  exact ⟨rfl, h1⟩
set_option maxHeartbeats 2000000 in
set_option maxRecDepth 10000 in
theorem psound_opf (t : Tr) (ht : Wid t) (w : World) (P : Nat → Prop) (A : Option Addr) (ca : Nat) (hA : KV w P t A) {R B : Nat} (hS : Strs R B w) (n0 : (t.kind == 0) = false) (n1 : (t.kind == 1) = false) (n2 : (t.kind == 2) = false) (n3 : (t.kind == 3) = false) (y : (t.kind == 4) = true) (hl : decide (0 ≤ (lvl t.word : Int) - 1) = false) :
    Calls Tryz.prog 47 #[.agg #[.int .i64 t.kind, .int .i64 t.num, .int .i64 t.c1, .int .i64 t.r1, .int .i64 t.c2, .int .i64 t.r2, .string ⟨t.word.toArray⟩, .slice A t.kids.length ca]] w fun e w' => e = .returned (.bool (false)) ∧ Below w.heap.size w w' := by
  have hlen := ht.len
  unfold maxLen at hlen
  have HS := Lib.hid hS
  have HA := Lib.hid hA
  have HT := Lib.hid ht
  clear hA hS ht
  have HE := Lib.hid (fun ob => pexprs_any 2 t HT.out (w.alloc ob) P A ca (HA.out.kept (Kept.of_below ((Below.refl _ _).alloc (Nat.le_refl _) ob))))
  have hV := strV_lvl t.word
  have HX := Lib.hid (fun ob => strength_any R B (w.alloc ob) ⟨t.word.toArray⟩ (HS.out.keep fun _ _ _ _ hv => kc_alloc' hv))
  rw [hV] at HX
  clear hV
  have HL := Lib.hid hl
  generalize (lvl t.word : Int) - 1 = lv at *
  go_enter Tryz.func47, Tryz.ntmps47
  go_wp2_with fail
  refine (HX.out _).mono ?_; rintro e w9 ⟨rfl, rfl⟩
  go_wp2_with fail
  go_ret
  exact ⟨by first | rfl | trivial, (Below.refl _ _).alloc (Nat.le_refl _) _⟩
set_option maxHeartbeats 2000000 in
set_option maxRecDepth 10000 in
theorem psound_call (t : Tr) (ht : Wid t) (w : World) (P : Nat → Prop) (A : Option Addr) (ca : Nat) (hA : KV w P t A) {R B : Nat} (hS : Strs R B w) (n0 : (t.kind == 0) = false) (n1 : (t.kind == 1) = false) (n2 : (t.kind == 2) = false) (n3 : (t.kind == 3) = false) (n4 : (t.kind == 4) = false) (y : (t.kind == 5) = true) :
    Calls Tryz.prog 47 #[.agg #[.int .i64 t.kind, .int .i64 t.num, .int .i64 t.c1, .int .i64 t.r1, .int .i64 t.c2, .int .i64 t.r2, .string ⟨t.word.toArray⟩, .slice A t.kids.length ca]] w fun e w' => e = .returned (.bool (calledB t.word t.kids)) ∧ Below w.heap.size w w' := by
  have hlen := ht.len
  unfold maxLen at hlen
  have HS := Lib.hid hS
  have HA := Lib.hid hA
  have HT := Lib.hid ht
  clear hA hS ht
  have HE := Lib.hid (fun ob => pcalled_any t.word t HT.out (w.alloc ob) P A ca (HA.out.kept (Kept.of_below ((Below.refl _ _).alloc (Nat.le_refl _) ob))))
  go_enter Tryz.func47, Tryz.ntmps47
  go_wp2_with fail
  refine (HE.out _).mono ?_; rintro e w1 ⟨rfl, b1⟩
  have h1 : Below w.heap.size w w1 := ((Below.refl _ _).alloc (Nat.le_refl _) _).trans (b1.mono (by simp))
  have z1 : w.heap.size < w1.heap.size := by have := b1.size; simp at this; omega
  clear b1
  go_wp2_with fail
  go_ret
  exact ⟨rfl, h1⟩
set_option maxHeartbeats 2000000 in
set_option maxRecDepth 10000 in
theorem psound_span (t : Tr) (ht : Wid t) (w : World) (P : Nat → Prop) (A : Option Addr) (ca : Nat) (hA : KV w P t A) {R B : Nat} (hS : Strs R B w) (n0 : (t.kind == 0) = false) (n1 : (t.kind == 1) = false) (n2 : (t.kind == 2) = false) (n3 : (t.kind == 3) = false) (n4 : (t.kind == 4) = false) (n5 : (t.kind == 5) = false) (y : (t.kind == 6) = true) :
    Calls Tryz.prog 47 #[.agg #[.int .i64 t.kind, .int .i64 t.num, .int .i64 t.c1, .int .i64 t.r1, .int .i64 t.c2, .int .i64 t.r2, .string ⟨t.word.toArray⟩, .slice A t.kids.length ca]] w fun e w' => e = .returned (.bool (wholeB t.c1 t.r1 t.c2 t.r2)) ∧ Below w.heap.size w w' := by
  have hlen := ht.len
  unfold maxLen at hlen
  have HS := Lib.hid hS
  have HA := Lib.hid hA
  have HT := Lib.hid ht
  clear hA hS ht
  have HE := Lib.hid (fun w => pwhole_any t.c1 t.r1 t.c2 t.r2 w)
  go_enter Tryz.func47, Tryz.ntmps47
  go_wp2_with fail
  refine (HE.out _).mono ?_; rintro e w1 ⟨rfl, b1⟩
  have h1 : Below w.heap.size w w1 := ((Below.refl _ _).alloc (Nat.le_refl _) _).trans (b1.mono (by simp))
  have z1 : w.heap.size < w1.heap.size := by have := b1.size; simp at this; omega
  clear b1
  go_wp2_with fail
  go_ret
  exact ⟨rfl, h1⟩
set_option maxHeartbeats 2000000 in
set_option maxRecDepth 10000 in
theorem psound_none (t : Tr) (ht : Wid t) (w : World) (P : Nat → Prop) (A : Option Addr) (ca : Nat) (hA : KV w P t A) {R B : Nat} (hS : Strs R B w) (n0 : (t.kind == 0) = false) (n1 : (t.kind == 1) = false) (n2 : (t.kind == 2) = false) (n3 : (t.kind == 3) = false) (n4 : (t.kind == 4) = false) (n5 : (t.kind == 5) = false) (n6 : (t.kind == 6) = false) :
    Calls Tryz.prog 47 #[.agg #[.int .i64 t.kind, .int .i64 t.num, .int .i64 t.c1, .int .i64 t.r1, .int .i64 t.c2, .int .i64 t.r2, .string ⟨t.word.toArray⟩, .slice A t.kids.length ca]] w fun e w' => e = .returned (.bool (false)) ∧ Below w.heap.size w w' := by
  have hlen := ht.len
  unfold maxLen at hlen
  have HS := Lib.hid hS
  have HA := Lib.hid hA
  have HT := Lib.hid ht
  clear hA hS ht
  go_enter Tryz.func47, Tryz.ntmps47
  go_wp2_with fail
  go_ret
  exact ⟨by first | rfl | trivial, (Below.refl _ _).alloc (Nat.le_refl _) _⟩
theorem psound_any (t : Tr) (ht : Wid t) (w : World) (P : Nat → Prop) (A : Option Addr) (ca : Nat) (hA : KV w P t A) {R B : Nat} (hS : Strs R B w) :
    Calls Tryz.prog 47 #[tv t A ca] w fun e w' => e = .returned (.bool (soundB t)) ∧ Below w.heap.size w w' := by
  have NE : ∀ i : Int, t.kind ≠ i → (t.kind == i) = false := fun i h => by rw [beq_eq_false_iff_ne]; exact h
  have EQ : ∀ i : Int, t.kind = i → (t.kind == i) = true := fun i h => by rw [beq_iff_eq]; exact h
  unfold soundB
  by_cases h0 : t.kind = 0
  · rw [if_pos h0]; exact psound_num t ht w P A ca hA hS (EQ 0 h0)
  · rw [if_neg h0]
    by_cases h1 : t.kind = 1
    · rw [if_pos h1]
      cases hr : rightB t.c1 t.r1 with
      | true => rw [Bool.true_and]; exact psound_read1 t ht w P A ca hA hS (NE 0 h0) (EQ 1 h1) hr
      | false => rw [Bool.false_and]; exact psound_read0 t ht w P A ca hA hS (NE 0 h0) (EQ 1 h1) hr
    · rw [if_neg h1]
      by_cases h2 : t.kind = 2
      · rw [if_pos h2]; exact psound_bad t ht w P A ca hA hS (NE 0 h0) (NE 1 h1) (EQ 2 h2)
      · rw [if_neg h2]
        by_cases h3 : t.kind = 3
        · rw [if_pos h3]; exact psound_neg t ht w P A ca hA hS (NE 0 h0) (NE 1 h1) (NE 2 h2) (EQ 3 h3)
        · rw [if_neg h3]
          by_cases h4 : t.kind = 4
          · rw [if_pos h4]
            cases hl : decide (0 ≤ (lvl t.word : Int) - 1) with
            | true => rw [Bool.true_and]; exact psound_opt t ht w P A ca hA hS (NE 0 h0) (NE 1 h1) (NE 2 h2) (NE 3 h3) (EQ 4 h4) hl
            | false => rw [Bool.false_and]; exact psound_opf t ht w P A ca hA hS (NE 0 h0) (NE 1 h1) (NE 2 h2) (NE 3 h3) (EQ 4 h4) hl
          · rw [if_neg h4]
            by_cases h5 : t.kind = 5
            · rw [if_pos h5]; exact psound_call t ht w P A ca hA hS (NE 0 h0) (NE 1 h1) (NE 2 h2) (NE 3 h3) (NE 4 h4) (EQ 5 h5)
            · rw [if_neg h5]
              by_cases h6 : t.kind = 6
              · rw [if_pos h6]; exact psound_span t ht w P A ca hA hS (NE 0 h0) (NE 1 h1) (NE 2 h2) (NE 3 h3) (NE 4 h4) (NE 5 h5) (EQ 6 h6)
              · rw [if_neg h6]; exact psound_none t ht w P A ca hA hS (NE 0 h0) (NE 1 h1) (NE 2 h2) (NE 3 h3) (NE 4 h4) (NE 5 h5) (NE 6 h6)
end Go.Proofs.YthaoalmhhgllmaaGreatDoor
namespace Go.Proofs.YthaoalmhhgllmaaGreatDoor
open Go.RowKit

def fitB : Nat → Tr → Bool
  | 0, _ => false
  | d + 1, t => (!spareB t) && (soundB t && t.kids.all (fitB d))
theorem Strs.later {B : Nat} {w w' : World} (h : Strs B B w) (hB : B ≤ w.heap.size) (hb : Below w.heap.size w w') : Strs B B w' := h.keep fun _ _ _ hl hv => by rw [hb.cell (by omega)]; exact hv
def FitsC (d : Nat) : Prop := ∀ (q : Int), q = (d : Int) → ∀ (t : Tr), Wid t → ∀ (w : World) (P : Nat → Prop) (A : Option Addr) (ca : Nat), KV w P t A → ∀ (B : Nat), B ≤ w.heap.size → Strs B B w →
    Calls Tryz.prog 28 #[tv t A ca, .int .i64 q] w fun e w' => e = .returned (.bool (fitB d t)) ∧ Below w.heap.size w w'
theorem all_hit {p : Tr → Bool} {ks : List Tr} {i : Nat} {u : Tr} (h : ks[i]? = some u) (hp : p u = false) : ks.all p = false := by
  rw [Bool.eq_false_iff]
  intro ha
  have := List.all_eq_true.1 ha u (List.mem_of_getElem? h)
  rw [hp] at this; cases this
theorem all_miss {p : Tr → Bool} {ks : List Tr} (h : ∀ (j : Nat) (u : Tr), j < ks.length → ks[j]? = some u → p u = true) : ks.all p = true :=
  List.all_eq_true.2 fun u hu => by
    obtain ⟨j, hj⟩ := List.getElem?_of_mem hu
    exact h j u (List.getElem?_eq_some_iff.1 hj).1 hj
set_option maxHeartbeats 1000000 in
set_option maxRecDepth 10000 in
theorem pfits_zero : FitsC 0 := by
  intro q hq t ht w P A ca hA B hB hS
  obtain rfl : q = 0 := by omega
  have hlen := ht.len
  unfold maxLen at hlen
  unfold tv
  clear hA hS ht hB hq
  go_enter Tryz.func28, Tryz.ntmps28
  go_wp2_with fail
  go_ret
  exact ⟨rfl, (Below.refl _ _).alloc (Nat.le_refl _) _⟩
set_option maxHeartbeats 2000000 in
set_option maxRecDepth 10000 in
theorem pfits_succ {d : Nat} (hd : d ≤ 1000) (ih : FitsC d) : FitsC (d + 1) := by
  intro q hq t ht w P A ca hA B hB hS
  have hlen := ht.len
  unfold maxLen at hlen
  have b0 : Below w.heap.size w (w.alloc (.cells #[.int .i64 t.kind, .int .i64 t.num, .int .i64 t.c1, .int .i64 t.r1, .int .i64 t.c2, .int .i64 t.r2, .string ⟨t.word.toArray⟩, .slice A t.kids.length ca] 29)) := (Below.refl _ _).alloc (Nat.le_refl _) _
  have HP := Lib.hid (pspare_any t A ca)
  have HQ := Lib.hid (fun w' (hb : Below w.heap.size w w') => psound_any t ht w' P A ca (hA.kept (Kept.of_below hb)) (hS.later hB hb))
  have HA := Lib.hid hA
  have HS := Lib.hid hS
  have HT := Lib.hid ht
  have HI := Lib.hid ih
  have hq0 : (q == 0) = false := by rw [beq_eq_false_iff_ne]; omega
  have hqb : q ≤ 1001 := by omega
  have hqa : 1 ≤ q := by omega
  have HQD := Lib.hid hq
  unfold tv at *
  unfold fitB
  clear hA hS ht ih b0 hq
  cases hsp : spareB t with
  | true =>
    rw [hsp] at HP
    clear hsp
    go_enter Tryz.func28, Tryz.ntmps28
    go_wp2_with fail
    refine (HP.out _).mono ?_; rintro e w1 ⟨rfl, b1⟩
    have h1 : Below w.heap.size w w1 := ((Below.refl _ _).alloc (Nat.le_refl _) _).trans (b1.mono (by simp))
    clear b1
    go_wp2_with fail
    go_ret
    exact ⟨rfl, h1⟩
  | false =>
    rw [hsp] at HP
    clear hsp
    cases hso : soundB t with
    | false =>
      rw [hso] at HQ
      clear hso
      go_enter Tryz.func28, Tryz.ntmps28
      go_wp2_with fail
      refine (HP.out _).mono ?_; rintro e w1 ⟨rfl, b1⟩
      have k10 := keep_fresh b1 0 (v := .int .i64 t.kind) rfl
      have k11 := keep_fresh b1 1 (v := .int .i64 t.num) rfl
      have k12 := keep_fresh b1 2 (v := .int .i64 t.c1) rfl
      have k13 := keep_fresh b1 3 (v := .int .i64 t.r1) rfl
      have k14 := keep_fresh b1 4 (v := .int .i64 t.c2) rfl
      have k15 := keep_fresh b1 5 (v := .int .i64 t.r2) rfl
      have k16 := keep_fresh b1 6 (v := .string ⟨t.word.toArray⟩) rfl
      have k17 := keep_fresh b1 7 (v := .slice A t.kids.length ca) rfl
      have h1 : Below w.heap.size w w1 := ((Below.refl _ _).alloc (Nat.le_refl _) _).trans (b1.mono (by simp))
      clear b1
      go_wp2_with fail
      refine (HQ.out _ h1).mono ?_; rintro e w2 ⟨rfl, b2⟩
      have h2 := h1.trans (b2.mono h1.size)
      clear b2
      go_wp2_with fail
      go_ret
      exact ⟨rfl, h2⟩
    | true =>
      rw [hso] at HQ
      clear hso
      go_enter Tryz.func28, Tryz.ntmps28
      go_wp2_with fail
      refine (HP.out _).mono ?_; rintro e w1 ⟨rfl, b1⟩
      have k10 := keep_fresh b1 0 (v := .int .i64 t.kind) rfl
      have k11 := keep_fresh b1 1 (v := .int .i64 t.num) rfl
      have k12 := keep_fresh b1 2 (v := .int .i64 t.c1) rfl
      have k13 := keep_fresh b1 3 (v := .int .i64 t.r1) rfl
      have k14 := keep_fresh b1 4 (v := .int .i64 t.c2) rfl
      have k15 := keep_fresh b1 5 (v := .int .i64 t.r2) rfl
      have k16 := keep_fresh b1 6 (v := .string ⟨t.word.toArray⟩) rfl
      have k17 := keep_fresh b1 7 (v := .slice A t.kids.length ca) rfl
      have h1 : Below w.heap.size w w1 := ((Below.refl _ _).alloc (Nat.le_refl _) _).trans (b1.mono (by simp))
      clear b1
      go_wp2_with fail
      refine (HQ.out _ h1).mono ?_; rintro e w2 ⟨rfl, b2⟩
      have k20 := keep_cell b2 k10
      have k21 := keep_cell b2 k11
      have k22 := keep_cell b2 k12
      have k23 := keep_cell b2 k13
      have k24 := keep_cell b2 k14
      have k25 := keep_cell b2 k15
      have k26 := keep_cell b2 k16
      have k27 := keep_cell b2 k17
      have h2 := h1.trans (b2.mono h1.size)
      clear b2
      go_wp2_with fail
      go_loopw [21] (fun vi wr => ∃ i : Nat, i ≤ t.kids.length ∧ vi = .int .i64 (i : Int) ∧ Hid (∀ (j : Nat) (u : Tr), j < i → t.kids[j]? = some u → fitB d u = true) ∧ Below w.heap.size w wr) (fun vi _ => t.kids.length - (intOf vi).toNat)
      case atStart => exact ⟨0, Nat.zero_le _, rfl, Lib.hid fun j u hj => by omega, h2⟩
      case round =>
        obtain ⟨i, hi, rfl, HN, hbel⟩ := hrel
        by_cases hlt : i < t.kids.length
        · have ha : t.kids[i]? = some (t.kids[i]'hlt) := List.getElem?_eq_getElem hlt
          obtain ⟨g, o, rfl⟩ := HA.out.addr ha
          obtain ⟨hg, A', ca', h8, hkv⟩ := HA.out.kidAt hbel ha
          have HM := Lib.hid ha
          have hwq : wrap64 (q - 1) = q - 1 := IntWalk.wrap64_in _ (by omega)
          have HC := Lib.hid (fun ob => HI.out (q - 1) (by have := HQD.out; omega) (t.kids[i]'hlt) (HT.out.kid ha) (wr.alloc ob) (fun _ => True) A' ca' (hkv.kept (Kept.of_below ((Below.refl _ _).alloc (Nat.le_refl _) ob))) B (by have := hbel.size; simp; omega) (HS.out.later hB (hbel.alloc hbel.size ob)))
          generalize t.kids[i]'hlt = x at *
          unfold At8 at h8
          unfold tv at HC
          obtain ⟨q0, q1, q2, q3, q4, q5, q6, q7⟩ := h8
          clear hkv ha
          cases hp : fitB d x with
          | true =>
            rw [hp] at HC
            have HH := Lib.hid hp
            clear hp
            go_wp2_with fail
            refine (HC.out _).mono ?_; rintro e w3 ⟨rfl, b3⟩
            have hb1 : Below w.heap.size w w3 := (hbel.alloc hbel.size _).trans (b3.mono (by have := hbel.size; simp; omega))
            clear b3 q0 q1 q2 q3 q4 q5 q6 q7
            go_wp2_with fail
            go_roundw
            case rel => exact ⟨i + 1, by omega, by go_num, Lib.hid fun j u hj hu => by
              by_cases hji : j < i
              · exact HN.out j u hji hu
              · obtain rfl : j = i := by omega
                rw [HM.out] at hu; obtain rfl := Option.some.inj hu; exact HH.out, hb1⟩
            case measure => simp [intOf]; omega
          | false =>
            rw [hp] at HC
            have HH := Lib.hid (all_hit HM.out hp)
            clear hp
            go_wp2_with fail
            refine (HC.out _).mono ?_; rintro e w3 ⟨rfl, b3⟩
            have hb1 : Below w.heap.size w w3 := (hbel.alloc hbel.size _).trans (b3.mono (by have := hbel.size; simp; omega))
            clear b3 q0 q1 q2 q3 q4 q5 q6 q7
            go_wp2_with fail
            go_ret
            exact ⟨ret_bool (by rw [HH.out]; rfl), hb1⟩
        · have hii : i = t.kids.length := by omega
          subst hii
          have HH := Lib.hid (all_miss HN.out)
          go_wp2_with fail
          go_ret
          exact ⟨ret_bool (by rw [HH.out]; rfl), hbel⟩
theorem pfits_any : ∀ d, d ≤ 1000 → FitsC d
  | 0, _ => pfits_zero
  | d + 1, h => pfits_succ (by omega) (pfits_any d (by omega))
def rightP (t : Tr) : Bool := (t.kind != 6) && fitB 16 t
set_option maxHeartbeats 1000000 in
set_option maxRecDepth 10000 in
theorem sright_any (t : Tr) (ht : Wid t) (w : World) (P : Nat → Prop) (A : Option Addr) (ca : Nat) (hA : KV w P t A) (B : Nat) (hB : B ≤ w.heap.size) (hS : Strs B B w) :
    Calls Tryz.prog 16 #[tv t A ca] w fun e w' => e = .returned (.bool (rightP t)) ∧ Below w.heap.size w w' := by
  have H := Lib.hid (fun ob => pfits_any 16 (by decide) 16 rfl t ht (w.alloc ob) P A ca (hA.kept (Kept.of_below ((Below.refl _ _).alloc (Nat.le_refl _) ob))) B (by simp; omega) (hS.later hB ((Below.refl _ _).alloc (Nat.le_refl _) ob)))
  have hlen := ht.len
  unfold maxLen at hlen
  unfold tv at *
  unfold rightP
  clear hA hS
  cases h6 : (t.kind != 6) with
  | true =>
    go_enter Tryz.func16, Tryz.ntmps16
    go_wp2_with fail
    refine (H.out _).mono ?_; rintro e w1 ⟨rfl, b1⟩
    have h1 : Below w.heap.size w w1 := ((Below.refl _ _).alloc (Nat.le_refl _) _).trans (b1.mono (by simp))
    clear b1
    go_wp2_with fail
    go_ret
    exact ⟨ret_bool (Bool.true_and _).symm, h1⟩
  | false =>
    go_enter Tryz.func16, Tryz.ntmps16
    go_wp2_with fail
    go_ret
    exact ⟨rfl, (Below.refl _ _).alloc (Nat.le_refl _) _⟩
end Go.Proofs.YthaoalmhhgllmaaGreatDoor
namespace Go.Proofs.YthaoalmhhgllmaaGreatDoor
open Go.RowKit

mutual
def szT : Tr → Int → Int
  | .mk _ _ _ _ _ _ _ ks, m => szL ks 1 m
def szL : List Tr → Int → Int → Int
  | [], n, _ => n
  | u :: r, n, m => if n ≤ m then szL r (n + szT u (m - n)) m else n
end
mutual
theorem szT_bound : ∀ (t : Tr) (m : Int), 0 ≤ m → 1 ≤ szT t m ∧ szT t m ≤ m + 1
  | .mk _ _ _ _ _ _ _ ks, m, h => by
    rw [szT]
    exact szL_bound ks 1 m (by omega) (by omega)
theorem szL_bound : ∀ (ks : List Tr) (n m : Int), 1 ≤ n → n ≤ m + 1 → 1 ≤ szL ks n m ∧ szL ks n m ≤ m + 1
  | [], n, m, h1, h2 => by rw [szL]; exact ⟨h1, h2⟩
  | u :: r, n, m, h1, h2 => by
    rw [szL]
    by_cases h : n ≤ m
    · rw [if_pos h]
      have := szT_bound u (m - n) (by omega)
      exact szL_bound r _ m (by omega) (by omega)
    · rw [if_neg h]; exact ⟨h1, h2⟩
end
theorem szT_eq (t : Tr) (m : Int) : szT t m = szL t.kids 1 m := by cases t; rw [szT]; rfl
def SizeC (t : Tr) : Prop := ∀ (m : Int), 0 ≤ m → m ≤ 400 → ∀ (w : World) (P : Nat → Prop) (A : Option Addr) (cap : Nat), KV w P t A →
  Calls Tryz.prog 13 #[.agg #[.int .i64 t.kind, .int .i64 t.num, .int .i64 t.c1, .int .i64 t.r1, .int .i64 t.c2, .int .i64 t.r2, .string ⟨t.word.toArray⟩, .slice A t.kids.length cap], .int .i64 m] w fun e w' => e = .returned (.int .i64 (szT t m)) ∧ Below w.heap.size w w'
set_option maxHeartbeats 1000000 in
set_option maxRecDepth 10000 in
theorem size_level (t : Tr) (hlen : t.kids.length ≤ maxLen) (ih : ∀ u ∈ t.kids, SizeC u) : SizeC t := by
  intro m m0 m4 w P A cap hk
  have HK := Lib.hid hk
  have HI := Lib.hid ih
  have HE := Lib.hid (szT_eq t m)
  unfold maxLen at hlen
  generalize szT t m = Z at *
  clear hk ih
  go_enter Tryz.func13, Tryz.ntmps13
  go_wp2_with fail
  go_loopw [5, 6] (fun vn vi wr => ∃ (i : Nat) (n : Int), i ≤ t.kids.length ∧ vn = .int .i64 n ∧ vi = .int .i64 (i : Int) ∧ (1 ≤ n ∧ n ≤ m + 1) ∧ Hid (Z = szL (t.kids.drop i) n m) ∧ Below w.heap.size w wr ∧ w.heap.size < wr.heap.size ∧ wr.cell? ⟨w.heap.size, 7, none⟩ = some (.slice A t.kids.length cap)) (fun _ vi _ => t.kids.length - (intOf vi).toNat)
  case atStart => exact ⟨0, 1, Nat.zero_le _, rfl, rfl, ⟨by omega, by omega⟩, HE, (Below.refl _ _).alloc (Nat.le_refl _) _, by simp, by simp [go_sem]⟩
  case round =>
    obtain ⟨i, n, hi, rfl, rfl, ⟨n1, n2⟩, HZ, hbel, hsz, c7⟩ := hrel
    by_cases hlt : i < t.kids.length
    · by_cases hnm : n ≤ m
      · have hu : t.kids[i]? = some (t.kids[i]'hlt) := List.getElem?_eq_getElem hlt
        obtain ⟨g, o, rfl⟩ := HK.out.addr hu
        obtain ⟨hg, A', cap', h8, hkv⟩ := HK.out.kidAt hbel hu
        have hb := szT_bound (t.kids[i]'hlt) (m - n) (by omega)
        have HC := Lib.hid (HI.out _ (List.getElem_mem hlt) (m - n) (by omega) (by omega) wr _ A' cap' hkv)
        have HN : Hid (Z = szL (t.kids.drop (i + 1)) (n + szT (t.kids[i]'hlt) (m - n)) m) := Lib.hid (by
          have h := HZ.out
          rw [List.drop_eq_getElem_cons hlt, szL, if_pos hnm] at h
          exact h)
        have dn : decide (n ≤ m) = true := decide_eq_true hnm
        generalize szT (t.kids[i]'hlt) (m - n) = q at *
        generalize t.kids[i]'hlt = u at *
        obtain ⟨q0, q1, q2, q3, q4, q5, q6, q7⟩ := h8
        have hgw : g < wr.heap.size := by have := hbel.size; omega
        clear hu hkv HZ
        go_wp2_with fail
        refine Calls.mono HC.out ?_; rintro e w2 ⟨rfl, b2⟩
        have h2 := hbel.trans (b2.mono hbel.size)
        have k2 := keep_cell b2 c7
        have z2 : w.heap.size < w2.heap.size := Nat.lt_of_lt_of_le hsz b2.size
        clear b2 q0 q1 q2 q3 q4 q5 q6 q7
        go_wp2_with fail
        go_roundw
        case rel => exact ⟨i + 1, n + q, by omega, by go_num, by go_num, ⟨by omega, by omega⟩, HN, h2, z2, k2⟩
        case measure => simp [intOf]; omega
      · have HN : Hid (Z = n) := Lib.hid (by
          have h := HZ.out
          rw [List.drop_eq_getElem_cons hlt, szL, if_neg hnm] at h
          exact h)
        have dn : decide (n ≤ m) = false := decide_eq_false hnm
        clear HZ
        go_wp2_with fail
        go_ret
        exact ⟨by rw [HN.out]; rfl, hbel⟩
    · have HN : Hid (Z = n) := Lib.hid (by
        have h := HZ.out
        rw [List.drop_eq_nil_of_le (by omega), szL] at h
        exact h)
      clear HZ
      go_wp2_with fail
      go_ret
      exact ⟨by rw [HN.out]; rfl, hbel⟩
theorem lsize_any : ∀ {t : Tr}, Wid t → SizeC t := by
  intro t hW
  induction hW with
  | @mk k n c r d s w ks hl hk ih => exact size_level _ hl ih
end Go.Proofs.YthaoalmhhgllmaaGreatDoor
namespace Go.Proofs.YthaoalmhhgllmaaGreatDoor
open Go.RowKit

mutual
def cntT : Tr → Nat
  | .mk _ _ _ _ _ _ _ ks => cntL ks + 1
def cntL : List Tr → Nat
  | [] => 0
  | t :: ts => cntT t + cntL ts
end
theorem szL_ge : ∀ (ks : List Tr) (n m : Int), 1 ≤ n → n ≤ m + 1 → n ≤ szL ks n m
  | [], n, m, _, _ => by rw [szL]; exact Int.le_refl _
  | u :: r, n, m, h1, h2 => by
    rw [szL]
    by_cases h : n ≤ m
    · rw [if_pos h]
      have := szT_bound u (m - n) (by omega)
      have := szL_ge r (n + szT u (m - n)) m (by omega) (by omega)
      omega
    · rw [if_neg h]; exact Int.le_refl _
mutual
theorem szT_cnt : ∀ (t : Tr) (m : Int), 0 ≤ m → szT t m ≤ m → szT t m = (cntT t : Int)
  | .mk _ _ _ _ _ _ _ ks, m, h, hm => by
    rw [szT] at hm ⊢
    rw [cntT, szL_cnt ks 1 m (by omega) (by omega) hm]
    omega
theorem szL_cnt : ∀ (ks : List Tr) (n m : Int), 1 ≤ n → n ≤ m + 1 → szL ks n m ≤ m → szL ks n m = n + (cntL ks : Int)
  | [], n, m, _, _, _ => by rw [szL, cntL]; omega
  | u :: r, n, m, h1, h2, hm => by
    rw [szL] at hm ⊢
    by_cases h : n ≤ m
    · rw [if_pos h] at hm ⊢
      have hb := szT_bound u (m - n) (by omega)
      have hg := szL_ge r (n + szT u (m - n)) m (by omega) (by omega)
      have hu := szT_cnt u (m - n) (by omega) (by omega)
      rw [szL_cnt r _ m (by omega) (by omega) hm, hu, cntL]
      omega
    · rw [if_neg h] at hm; omega
end
theorem txW_len (m : Nat) (t : Tr) (s : List UInt8) : (txW m t s).length ≤ s.length + 2 := by
  unfold txW; split <;> simp
theorem txJ_len : ∀ (l : List (List UInt8)) (B : Nat), (l.map List.length).sum ≤ B → (txJ l).length ≤ B + l.length + 1
  | [], B, _ => by simp [txJ]
  | [s], B, h => by simp [txJ] at *; omega
  | s :: t :: r, B, h => by
    rw [txJ]
    have h' : s.length + ((t :: r).map List.length).sum ≤ B := by simpa using h
    have := txJ_len (t :: r) (B - s.length) (by omega)
    simp only [List.length_append, List.length_cons] at *
    omega
theorem place_len' (c r : Int) : (placeText c r).length ≤ 100 := by
  unfold placeText
  by_cases h : rightB c r = true
  · rw [if_pos h]
    obtain ⟨_, _, r0, r1⟩ := (rightB_iff c r).1 h
    have := Lib.itoa_length_le (r + 1) (by omega) (by omega)
    simp; omega
  · rw [if_neg h]; simp
theorem tx_cnt {t : Tr} (hf : Fit t) : mayB t = true → (txT t).length + 10 ≤ 250 * cntT t := by
  induction hf with
  | @mk k n c r d s w ks hn hk ih =>
    intro h
    rw [mayB] at h
    rw [txT, cntT]
    by_cases h0 : k = 0
    · rw [if_pos h0]
      have := digits_len n.toNat (by omega)
      omega
    rw [if_neg h0] at h ⊢
    by_cases h1 : k = 1
    · rw [if_pos h1]
      have := place_len' c r
      omega
    rw [if_neg h1] at h ⊢
    by_cases h6 : k = 6
    · rw [if_pos h6]
      have := place_len' c r
      have := place_len' d s
      simp only [List.length_append, List.length_cons]
      omega
    rw [if_neg h6] at h ⊢
    by_cases h2 : k = 2
    · rw [if_neg (by omega), if_neg (by omega), if_neg (by omega)]
      simp
      omega
    rw [if_neg h2] at h
    by_cases h3 : k = 3
    · subst h3
      rw [if_pos rfl] at h ⊢
      simp [onlyB] at h
      obtain ⟨⟨_, _, _, hl⟩, ha⟩ := h
      obtain ⟨a, rfl⟩ := List.length_eq_one_iff.1 hl
      have A := all_mem ha a (by simp)
      have := ih a (by simp) A.1
      rw [txL_cons, txL_nil]
      have hw := txW_len 4 a (txT a)
      simp only [List.getD_cons_zero, List.length_cons, cntL]
      omega
    rw [if_neg h3] at h ⊢
    by_cases h4 : k = 4
    · subst h4
      rw [if_pos rfl] at h ⊢
      simp [onlyB] at h
      obtain ⟨⟨_, _, hl⟩, ha, hw⟩ := h
      obtain ⟨a, b, rfl⟩ : ∃ a b, ks = [a, b] := by
        match ks, hl with
        | [a, b], _ => exact ⟨a, b, rfl⟩
      have A := all_mem ha a (by simp)
      have B := all_mem ha b (by simp)
      have := ih a (by simp) A.1
      have := ih b (by simp) B.1
      rw [txL_cons, txL_cons, txL_nil]
      have hwa := txW_len (lvl w) a (txT a)
      have hwb := txW_len (lvl w + 1) b (txT b)
      have hwl : w.length ≤ 2 := by rcases lvl_cases hw with e | e | e | e | e | e | e | e | e | e <;> rw [e] <;> decide
      simp only [List.getD_cons_zero, List.getD_cons_succ, List.length_append, cntL]
      omega
    rw [if_neg h4] at h ⊢
    by_cases h5 : k = 5
    · subst h5
      rw [if_pos rfl] at h ⊢
      rw [Bool.and_eq_true, Bool.and_eq_true] at h
      obtain ⟨_, ha, hif⟩ := h
      have M := all_mem ha
      have hwl : w.length ≤ 5 := by
        by_cases e : w = [73, 70]
        · rw [e]; decide
        · rw [if_neg e] at hif
          split at hif
          · rename_i hc
            rcases hc with e | e | e | e <;> rw [e] <;> decide
          · cases hif
      have hs : ∀ (l : List Tr), (∀ t ∈ l, (txT t).length + 10 ≤ 250 * cntT t) → ((txL l).map List.length).sum + 10 * l.length ≤ 250 * cntL l ∧ (txL l).length = l.length := by
        intro l
        induction l with
        | nil => intro _; rw [txL_nil, cntL]; simp
        | cons u r ihr =>
          intro hu
          have h1 := hu u (by simp)
          have h2 := ihr fun t ht => hu t (by simp [ht])
          rw [txL_cons, cntL]
          simp only [List.map_cons, List.sum_cons, List.length_cons]
          omega
      have hk2 := hs ks fun t ht => ih t ht (M t ht).1
      have := txJ_len (txL ks) _ (Nat.le_refl _)
      simp only [List.length_append, List.length_cons]
      omega
    rw [if_neg h5] at h
    cases h
theorem tx_short {t : Tr} (hf : Fit t) (hm : mayB t = true) (h : szT t 400 ≤ 400) : (txT t).length ≤ 140737488355328 := by
  have h1 := szT_cnt t 400 (by decide) h
  have h2 := tx_cnt hf hm
  omega
end Go.Proofs.YthaoalmhhgllmaaGreatDoor
namespace Go.Proofs.YthaoalmhhgllmaaGreatDoor

def hasP (a b c d x y : Int) : Bool := (rightB a b && rightB c d && (decide (a ≤ c) && decide (b ≤ d))) && decide (a ≤ x ∧ x ≤ c ∧ b ≤ y ∧ y ≤ d)
def mvP (c r x y : Int) : Bool := rightB c r && rightB (c + x) (r + y)
mutual
def usT (x y : Int) : Tr → Bool
  | .mk k _ c r d s _ ks => if k = 1 ∨ k = 6 then hasP c r d s x y else usL x y ks
def usL (x y : Int) : List Tr → Bool
  | [] => false
  | t :: ts => usT x y t || usL x y ts
end
mutual
def mvT (x y : Int) : Tr → Tr
  | .mk k n c r d s w ks => if k = 1 ∨ k = 6 then (if (mvP c r x y && mvP d s x y) = true then .mk k n (c + x) (r + y) (d + x) (s + y) w (mvL x y ks) else badT) else .mk k n c r d s w (mvL x y ks)
def mvL (x y : Int) : List Tr → List Tr
  | [] => []
  | t :: ts => mvT x y t :: mvL x y ts
end
mutual
def cnK (kd : Int) : Tr → Nat
  | .mk k _ _ _ _ _ _ ks => (if k = kd then 1 else 0) + cnKL kd ks
def cnKL (kd : Int) : List Tr → Nat
  | [] => 0
  | t :: ts => cnK kd t + cnKL kd ts
end
theorem mvL_map (x y : Int) : ∀ ks, mvL x y ks = ks.map (mvT x y)
  | [] => by rw [mvL]; rfl
  | t :: ts => by rw [mvL, mvL_map x y ts]; rfl
theorem kids_none {k n c r d s : Int} {w : List UInt8} {ks : List Tr} (h : mayB (.mk k n c r d s w ks) = true) (hk : k = 1 ∨ k = 6) : ks = [] ∧ n = 0 ∧ w = [] := by
  rw [mayB] at h
  unfold onlyB at h
  rcases hk with rfl | rfl
  · simp at h
    exact ⟨h.1.2.2, h.1.1, h.1.2.1⟩
  · simp at h
    exact ⟨h.1.2.2, h.1.1, h.1.2.1⟩
theorem kind_mv (x y : Int) (t : Tr) : (mvT x y t).kind = t.kind ∨ (mvT x y t).kind = 2 := by
  cases t
  rw [mvT]
  split
  · split
    · exact .inl rfl
    · exact .inr rfl
  · exact .inl rfl
theorem may_kids {k n c r d s : Int} {w : List UInt8} {ks : List Tr} (h : mayB (.mk k n c r d s w ks) = true) : ∀ t ∈ ks, mayB t = true := by
  rw [mayB] at h
  unfold onlyB at h
  by_cases h0 : k = 0
  · subst h0; simp at h; rw [h.1.2.2]; intro t ht; cases ht
  by_cases h1 : k = 1
  · subst h1; simp at h; rw [h.1.2.2]; intro t ht; cases ht
  by_cases h2 : k = 2
  · subst h2; simp at h; rw [h.2.2.2]; intro t ht; cases ht
  by_cases h6 : k = 6
  · subst h6; simp at h; rw [h.1.2.2]; intro t ht; cases ht
  by_cases h3 : k = 3
  · subst h3; simp at h; exact fun t ht => (all_mem h.2 t ht).1
  by_cases h4 : k = 4
  · subst h4; simp at h; exact fun t ht => (all_mem h.2.1 t ht).1
  by_cases h5 : k = 5
  · subst h5
    rw [if_neg (by decide), if_neg (by decide), if_neg (by decide), if_neg (by decide), if_neg (by decide), if_neg (by decide), if_pos rfl, Bool.and_eq_true] at h
    obtain ⟨_, h⟩ := h
    rw [Bool.and_eq_true] at h
    exact fun t ht => (all_mem h.1 t ht).1
  · rw [if_neg h0, if_neg h1, if_neg h2, if_neg h6, if_neg h3, if_neg h4, if_neg h5] at h
    cases h
theorem cnt_mv (x y : Int) {t : Tr} (hf : Fit t) : mayB t = true → cntT (mvT x y t) = cntT t ∧ cnK 2 t ≤ cnK 2 (mvT x y t) := by
  induction hf with
  | @mk k n c r d s w ks hn hk ih =>
    intro h
    have hkids := may_kids h
    have key : ∀ l : List Tr, (∀ t ∈ l, mayB t = true ∧ Fit t ∧ (mayB t = true → cntT (mvT x y t) = cntT t ∧ cnK 2 t ≤ cnK 2 (mvT x y t))) → cntL (mvL x y l) = cntL l ∧ cnKL 2 l ≤ cnKL 2 (mvL x y l) := by
      intro l
      induction l with
      | nil => intro _; rw [mvL]; exact ⟨rfl, Nat.le_refl _⟩
      | cons u r ihr =>
        intro hu
        obtain ⟨m1, _, m3⟩ := hu u (by simp)
        have h1 := m3 m1
        have h2 := ihr fun t ht => hu t (by simp [ht])
        rw [mvL, cntL, cntL, cnKL, cnKL]
        omega
    have K := key ks fun t ht => ⟨hkids t ht, hk t ht, ih t ht⟩
    rw [mvT]
    by_cases hr : k = 1 ∨ k = 6
    · rw [if_pos hr]
      obtain ⟨rfl, _, _⟩ := kids_none h hr
      split
      · rw [cntT, cntT, cnK, cnK, mvL]
        exact ⟨rfl, Nat.le_refl _⟩
      · unfold badT
        rw [cntT, cntT, cnK, cnK, cnKL, cntL, if_pos rfl]
        exact ⟨rfl, by split <;> omega⟩
    · rw [if_neg hr, cntT, cntT, cnK, cnK]
      omega
theorem hasP_mv {a b c d x y u v : Int} (h : (mvP a b x y && mvP c d x y) = true) : hasP (a + x) (b + y) (c + x) (d + y) (u + x) (v + y) = hasP a b c d u v := by
  unfold mvP at h
  rw [Bool.and_eq_true, Bool.and_eq_true, Bool.and_eq_true] at h
  obtain ⟨⟨h1, h2⟩, h3, h4⟩ := h
  unfold hasP
  rw [h1, h2, h3, h4, Bool.eq_iff_iff]
  simp
theorem mv_back (x y : Int) {t : Tr} (hf : Fit t) : mayB t = true → cnK 2 (mvT x y t) = cnK 2 t → (∀ u v, usT (u + x) (v + y) (mvT x y t) = usT u v t) ∧ mvT (-x) (-y) (mvT x y t) = t := by
  induction hf with
  | @mk k n c r d s w ks hn hk ih =>
    intro h hb
    have hkids := may_kids h
    have key : ∀ l : List Tr, (∀ t ∈ l, mayB t = true ∧ Fit t ∧ (mayB t = true → cnK 2 (mvT x y t) = cnK 2 t → (∀ u v, usT (u + x) (v + y) (mvT x y t) = usT u v t) ∧ mvT (-x) (-y) (mvT x y t) = t)) → cnKL 2 (mvL x y l) = cnKL 2 l → (∀ u v, usL (u + x) (v + y) (mvL x y l) = usL u v l) ∧ mvL (-x) (-y) (mvL x y l) = l := by
      intro l
      induction l with
      | nil => intro _ _; rw [mvL]; exact ⟨fun u v => rfl, by rw [mvL]⟩
      | cons a r ihr =>
        intro hu hc
        obtain ⟨m1, m2, m3⟩ := hu a (by simp)
        have l1 := (cnt_mv x y m2 m1).2
        have l2 : cnKL 2 r ≤ cnKL 2 (mvL x y r) := by
          clear hc ihr
          have : ∀ l : List Tr, (∀ t ∈ l, mayB t = true ∧ Fit t) → cnKL 2 l ≤ cnKL 2 (mvL x y l) := by
            intro l
            induction l with
            | nil => intro _; rw [mvL]; exact Nat.le_refl _
            | cons b q ihq =>
              intro hq
              have h1 := (cnt_mv x y (hq b (by simp)).2 (hq b (by simp)).1).2
              have h2 := ihq fun t ht => hq t (by simp [ht])
              rw [mvL, cnKL, cnKL]
              omega
          exact this r fun t ht => ⟨(hu t (by simp [ht])).1, (hu t (by simp [ht])).2.1⟩
        rw [mvL, cnKL, cnKL] at hc
        obtain ⟨p1, p2⟩ := m3 m1 (by omega)
        obtain ⟨q1, q2⟩ := ihr (fun t ht => hu t (by simp [ht])) (by omega)
        refine ⟨fun u v => ?_, ?_⟩
        · rw [mvL, usL, usL, p1, q1]
        · rw [mvL, mvL, p2, q2]
    rw [mvT] at hb ⊢
    by_cases hr : k = 1 ∨ k = 6
    · rw [if_pos hr] at hb ⊢
      obtain ⟨rfl, _, _⟩ := kids_none h hr
      by_cases hm : (mvP c r x y && mvP d s x y) = true
      · rw [if_pos hm] at hb ⊢
        refine ⟨fun u v => ?_, ?_⟩
        · rw [usT, usT, if_pos hr, if_pos hr]
          exact hasP_mv hm
        · rw [mvT, if_pos hr, mvL, mvL]
          have hm2 : (mvP (c + x) (r + y) (-x) (-y) && mvP (d + x) (s + y) (-x) (-y)) = true := by
            unfold mvP at hm ⊢
            rw [Bool.and_eq_true, Bool.and_eq_true, Bool.and_eq_true] at hm ⊢
            obtain ⟨⟨h1, h2⟩, h3, h4⟩ := hm
            rw [show c + x + -x = c from by omega, show r + y + -y = r from by omega, show d + x + -x = d from by omega, show s + y + -y = s from by omega]
            exact ⟨⟨h2, h1⟩, h4, h3⟩
          rw [if_pos hm2, show c + x + -x = c from by omega, show r + y + -y = r from by omega, show d + x + -x = d from by omega, show s + y + -y = s from by omega]
      · exfalso
        rw [if_neg hm] at hb
        unfold badT at hb
        rw [cnK, cnK, if_pos rfl] at hb
        rcases hr with rfl | rfl <;> simp [cnKL] at hb
    · rw [if_neg hr] at hb ⊢
      rw [cnK, cnK] at hb
      obtain ⟨p1, p2⟩ := key ks (fun t ht => ⟨hkids t ht, hk t ht, ih t ht⟩) (by omega)
      refine ⟨fun u v => ?_, ?_⟩
      · rw [usT, usT, if_neg hr, if_neg hr]
        exact p1 u v
      · rw [mvT, if_neg hr, p2]
end Go.Proofs.YthaoalmhhgllmaaGreatDoor
