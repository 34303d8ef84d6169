/- Texts joined: SrC, WrA, SrA. -/
import Derived.Test.YtahdlijkohmdfaaGreatDoorMp08
import Derived.Test.YtahdlijkohmdfaaGreatDoorMp09
import Derived.Test.YtahdlijkohmdfaaGreatDoorMp17
import Derived.Test.YtahdlijkohmdfaaGreatDoorMp01
import Derived.Test.YtahdlijkohmdfaaGreatDoorMp02
import Derived.Deep.RegionHeld3
import Derived.Deep.RegionWith
import Derived.Laws.Concat
set_option linter.all false
set_option linter.unusedVariables false
set_option linter.unusedSimpArgs false
namespace Go.Proofs.YtahdlijkohmdfaaGreatDoor
open Go.RowKit

theorem splaceGuard : Tryz.prog.eqGuardType Tryz.prog.depth 25 = false := by kernel_rfl
theorem splaceStood : Tryz.prog.stoodInHeld 25 = false := by kernel_rfl
theorem splaceStruct : Tryz.prog.underlying 25 = some (.struct (Tryz.prog.fieldsOf 25)) := by kernel_rfl
theorem sguard_place (op : BinOp) (X Y : Operand) (xs ys : Array Value) (W : World) : (eqGuard op 25 X Y (.agg xs) (.agg ys)).run Tryz.prog W = .ok () W := run_eqGuard_agg W op 25 X Y xs ys splaceGuard
theorem seql_place (a b c d : Int) (W : World) : (binOp .eql 25 (.agg #[.int .i64 a, .int .i64 b]) (.agg #[.int .i64 c, .int .i64 d])).run Tryz.prog W = .ok (.bool (a == c && b == d)) W := by
  rw [run_eql_struct, run_equalIn_agg W 9999 25 _ _ splaceStruct splaceStood]
  by_cases h1 : a = c <;> by_cases h2 : b = d <;> simp [go_sem, h1, h2]
def soundB (t : Tr) : Bool :=
  if t.kind = 0 then decide (0 ≤ t.num) else if t.kind = 1 then rightB t.c1 t.r1 && (t.c1 == t.c2 && t.r1 == t.r2) else if t.kind = 2 then true
  else if t.kind = 3 then exprsB t.kids 1 else if t.kind = 4 then decide (0 ≤ (lvl t.word : Int) - 1) && exprsB t.kids 2 else if t.kind = 5 then calledB t.word t.kids
  else if t.kind = 6 then wholeB t.c1 t.r1 t.c2 t.r2 else false
set_option maxHeartbeats 2000000 in
set_option maxRecDepth 10000 in
theorem psound_num (t : Tr) (ht : Wid t) (w : World) (P : Nat → Prop) (A : Option Addr) (ca : Nat) (hA : KV w P t A) {R B : Nat} (hS : Strs R B w)  (y : (t.kind == 0) = true) :
    Calls Tryz.prog 44 #[.agg #[.int .i64 t.kind, .int .i64 t.num, .int .i64 t.c1, .int .i64 t.r1, .int .i64 t.c2, .int .i64 t.r2, .string ⟨t.word.toArray⟩, .slice A t.kids.length ca]] w fun e w' => e = .returned (.bool (decide (0 ≤ t.num))) ∧ Below w.heap.size w w' := by
  have hlen := ht.len
  unfold maxLen at hlen
  have HS := Lib.hid hS
  have HA := Lib.hid hA
  have HT := Lib.hid ht
  clear hA hS ht
  go_enter Tryz.func44, Tryz.ntmps44
  go_wp2_with fail
  go_ret
  exact ⟨by first | rfl | trivial, (Below.refl _ _).alloc (Nat.le_refl _) _⟩
set_option maxHeartbeats 2000000 in
set_option maxRecDepth 10000 in
theorem psound_read1 (t : Tr) (ht : Wid t) (w : World) (P : Nat → Prop) (A : Option Addr) (ca : Nat) (hA : KV w P t A) {R B : Nat} (hS : Strs R B w) (n0 : (t.kind == 0) = false) (y : (t.kind == 1) = true) (hr : rightB t.c1 t.r1 = true) :
    Calls Tryz.prog 44 #[.agg #[.int .i64 t.kind, .int .i64 t.num, .int .i64 t.c1, .int .i64 t.r1, .int .i64 t.c2, .int .i64 t.r2, .string ⟨t.word.toArray⟩, .slice A t.kids.length ca]] w fun e w' => e = .returned (.bool (t.c1 == t.c2 && t.r1 == t.r2)) ∧ Below w.heap.size w w' := by
  have hlen := ht.len
  unfold maxLen at hlen
  have HS := Lib.hid hS
  have HA := Lib.hid hA
  have HT := Lib.hid ht
  clear hA hS ht
  have HR := Lib.hid (fun w => pright_any t.c1 t.r1 w)
  rw [hr] at HR
  clear hr
  have hG := fun op X Y W => sguard_place op X Y #[.int .i64 t.c1, .int .i64 t.r1] #[.int .i64 t.c2, .int .i64 t.r2] W
  have hN := seql_place t.c1 t.r1 t.c2 t.r2
  go_enter Tryz.func44, Tryz.ntmps44
  go_wp2_with fail
  refine (HR.out _).mono ?_; rintro e w1 ⟨rfl, b1⟩
  have k10 := keep_fresh b1 0 (v := .int .i64 t.kind) rfl
  have k11 := keep_fresh b1 1 (v := .int .i64 t.num) rfl
  have k12 := keep_fresh b1 2 (v := .int .i64 t.c1) rfl
  have k13 := keep_fresh b1 3 (v := .int .i64 t.r1) rfl
  have k14 := keep_fresh b1 4 (v := .int .i64 t.c2) rfl
  have k15 := keep_fresh b1 5 (v := .int .i64 t.r2) rfl
  have k16 := keep_fresh b1 6 (v := .string ⟨t.word.toArray⟩) rfl
  have k17 := keep_fresh b1 7 (v := .slice A t.kids.length ca) rfl
  have h1 : Below w.heap.size w w1 := ((Below.refl _ _).alloc (Nat.le_refl _) _).trans (b1.mono (by simp))
  have z1 : w.heap.size < w1.heap.size := by have := b1.size; simp at this; omega
  clear b1
  go_wp2_with fail
  go_ret
  exact ⟨rfl, h1⟩
set_option maxHeartbeats 2000000 in
set_option maxRecDepth 10000 in
theorem psound_read0 (t : Tr) (ht : Wid t) (w : World) (P : Nat → Prop) (A : Option Addr) (ca : Nat) (hA : KV w P t A) {R B : Nat} (hS : Strs R B w) (n0 : (t.kind == 0) = false) (y : (t.kind == 1) = true) (hr : rightB t.c1 t.r1 = false) :
    Calls Tryz.prog 44 #[.agg #[.int .i64 t.kind, .int .i64 t.num, .int .i64 t.c1, .int .i64 t.r1, .int .i64 t.c2, .int .i64 t.r2, .string ⟨t.word.toArray⟩, .slice A t.kids.length ca]] w fun e w' => e = .returned (.bool (false)) ∧ Below w.heap.size w w' := by
  have hlen := ht.len
  unfold maxLen at hlen
  have HS := Lib.hid hS
  have HA := Lib.hid hA
  have HT := Lib.hid ht
  clear hA hS ht
  have HR := Lib.hid (fun w => pright_any t.c1 t.r1 w)
  rw [hr] at HR
  clear hr
  go_enter Tryz.func44, Tryz.ntmps44
  go_wp2_with fail
  refine (HR.out _).mono ?_; rintro e w1 ⟨rfl, b1⟩
  have h1 : Below w.heap.size w w1 := ((Below.refl _ _).alloc (Nat.le_refl _) _).trans (b1.mono (by simp))
  have z1 : w.heap.size < w1.heap.size := by have := b1.size; simp at this; omega
  clear b1
  go_wp2_with fail
  go_ret
  exact ⟨rfl, h1⟩
set_option maxHeartbeats 2000000 in
set_option maxRecDepth 10000 in
theorem psound_bad (t : Tr) (ht : Wid t) (w : World) (P : Nat → Prop) (A : Option Addr) (ca : Nat) (hA : KV w P t A) {R B : Nat} (hS : Strs R B w) (n0 : (t.kind == 0) = false) (n1 : (t.kind == 1) = false) (y : (t.kind == 2) = true) :
    Calls Tryz.prog 44 #[.agg #[.int .i64 t.kind, .int .i64 t.num, .int .i64 t.c1, .int .i64 t.r1, .int .i64 t.c2, .int .i64 t.r2, .string ⟨t.word.toArray⟩, .slice A t.kids.length ca]] w fun e w' => e = .returned (.bool (true)) ∧ Below w.heap.size w w' := by
  have hlen := ht.len
  unfold maxLen at hlen
  have HS := Lib.hid hS
  have HA := Lib.hid hA
  have HT := Lib.hid ht
  clear hA hS ht
  go_enter Tryz.func44, Tryz.ntmps44
  go_wp2_with fail
  go_ret
  exact ⟨by first | rfl | trivial, (Below.refl _ _).alloc (Nat.le_refl _) _⟩
set_option maxHeartbeats 2000000 in
set_option maxRecDepth 10000 in
theorem psound_neg (t : Tr) (ht : Wid t) (w : World) (P : Nat → Prop) (A : Option Addr) (ca : Nat) (hA : KV w P t A) {R B : Nat} (hS : Strs R B w) (n0 : (t.kind == 0) = false) (n1 : (t.kind == 1) = false) (n2 : (t.kind == 2) = false) (y : (t.kind == 3) = true) :
    Calls Tryz.prog 44 #[.agg #[.int .i64 t.kind, .int .i64 t.num, .int .i64 t.c1, .int .i64 t.r1, .int .i64 t.c2, .int .i64 t.r2, .string ⟨t.word.toArray⟩, .slice A t.kids.length ca]] w fun e w' => e = .returned (.bool (exprsB t.kids 1)) ∧ Below w.heap.size w w' := by
  have hlen := ht.len
  unfold maxLen at hlen
  have HS := Lib.hid hS
  have HA := Lib.hid hA
  have HT := Lib.hid ht
  clear hA hS ht
  have HE := Lib.hid (fun ob => pexprs_any 1 t HT.out (w.alloc ob) P A ca (HA.out.kept (Kept.of_below ((Below.refl _ _).alloc (Nat.le_refl _) ob))))
  go_enter Tryz.func44, Tryz.ntmps44
  go_wp2_with fail
  refine (HE.out _).mono ?_; rintro e w1 ⟨rfl, b1⟩
  have h1 : Below w.heap.size w w1 := ((Below.refl _ _).alloc (Nat.le_refl _) _).trans (b1.mono (by simp))
  have z1 : w.heap.size < w1.heap.size := by have := b1.size; simp at this; omega
  clear b1
  go_wp2_with fail
  go_ret
  exact ⟨rfl, h1⟩
set_option maxHeartbeats 2000000 in
set_option maxRecDepth 10000 in
theorem psound_opt (t : Tr) (ht : Wid t) (w : World) (P : Nat → Prop) (A : Option Addr) (ca : Nat) (hA : KV w P t A) {R B : Nat} (hS : Strs R B w) (n0 : (t.kind == 0) = false) (n1 : (t.kind == 1) = false) (n2 : (t.kind == 2) = false) (n3 : (t.kind == 3) = false) (y : (t.kind == 4) = true) (hl : decide (0 ≤ (lvl t.word : Int) - 1) = true) :
    Calls Tryz.prog 44 #[.agg #[.int .i64 t.kind, .int .i64 t.num, .int .i64 t.c1, .int .i64 t.r1, .int .i64 t.c2, .int .i64 t.r2, .string ⟨t.word.toArray⟩, .slice A t.kids.length ca]] w fun e w' => e = .returned (.bool (exprsB t.kids 2)) ∧ Below w.heap.size w w' := by
  have hlen := ht.len
  unfold maxLen at hlen
  have HS := Lib.hid hS
  have HA := Lib.hid hA
  have HT := Lib.hid ht
  clear hA hS ht
  have HE := Lib.hid (fun ob => pexprs_any 2 t HT.out (w.alloc ob) P A ca (HA.out.kept (Kept.of_below ((Below.refl _ _).alloc (Nat.le_refl _) ob))))
  have hV := strV_lvl t.word
  have HX := Lib.hid (fun ob => strength_any R B (w.alloc ob) ⟨t.word.toArray⟩ (HS.out.keep fun _ _ _ _ hv => kc_alloc' hv))
  rw [hV] at HX
  clear hV
  have HL := Lib.hid hl
  generalize (lvl t.word : Int) - 1 = lv at *
  go_enter Tryz.func44, Tryz.ntmps44
  go_wp2_with fail
  refine (HX.out _).mono ?_; rintro e w9 ⟨rfl, rfl⟩
  go_wp2_with fail
  refine (HE.out _).mono ?_; rintro e w1 ⟨rfl, b1⟩
  have h1 : Below w.heap.size w w1 := ((Below.refl _ _).alloc (Nat.le_refl _) _).trans (b1.mono (by simp))
  have z1 : w.heap.size < w1.heap.size := by have := b1.size; simp at this; omega
  clear b1
  go_wp2_with fail
  go_ret
  exact ⟨rfl, h1⟩
set_option maxHeartbeats 2000000 in
set_option maxRecDepth 10000 in
theorem psound_opf (t : Tr) (ht : Wid t) (w : World) (P : Nat → Prop) (A : Option Addr) (ca : Nat) (hA : KV w P t A) {R B : Nat} (hS : Strs R B w) (n0 : (t.kind == 0) = false) (n1 : (t.kind == 1) = false) (n2 : (t.kind == 2) = false) (n3 : (t.kind == 3) = false) (y : (t.kind == 4) = true) (hl : decide (0 ≤ (lvl t.word : Int) - 1) = false) :
    Calls Tryz.prog 44 #[.agg #[.int .i64 t.kind, .int .i64 t.num, .int .i64 t.c1, .int .i64 t.r1, .int .i64 t.c2, .int .i64 t.r2, .string ⟨t.word.toArray⟩, .slice A t.kids.length ca]] w fun e w' => e = .returned (.bool (false)) ∧ Below w.heap.size w w' := by
  have hlen := ht.len
  unfold maxLen at hlen
  have HS := Lib.hid hS
  have HA := Lib.hid hA
  have HT := Lib.hid ht
  clear hA hS ht
  have HE := Lib.hid (fun ob => pexprs_any 2 t HT.out (w.alloc ob) P A ca (HA.out.kept (Kept.of_below ((Below.refl _ _).alloc (Nat.le_refl _) ob))))
  have hV := strV_lvl t.word
  have HX := Lib.hid (fun ob => strength_any R B (w.alloc ob) ⟨t.word.toArray⟩ (HS.out.keep fun _ _ _ _ hv => kc_alloc' hv))
  rw [hV] at HX
  clear hV
  have HL := Lib.hid hl
  generalize (lvl t.word : Int) - 1 = lv at *
  go_enter Tryz.func44, Tryz.ntmps44
  go_wp2_with fail
  refine (HX.out _).mono ?_; rintro e w9 ⟨rfl, rfl⟩
  go_wp2_with fail
  go_ret
  exact ⟨by first | rfl | trivial, (Below.refl _ _).alloc (Nat.le_refl _) _⟩
set_option maxHeartbeats 2000000 in
set_option maxRecDepth 10000 in
theorem psound_call (t : Tr) (ht : Wid t) (w : World) (P : Nat → Prop) (A : Option Addr) (ca : Nat) (hA : KV w P t A) {R B : Nat} (hS : Strs R B w) (n0 : (t.kind == 0) = false) (n1 : (t.kind == 1) = false) (n2 : (t.kind == 2) = false) (n3 : (t.kind == 3) = false) (n4 : (t.kind == 4) = false) (y : (t.kind == 5) = true) :
    Calls Tryz.prog 44 #[.agg #[.int .i64 t.kind, .int .i64 t.num, .int .i64 t.c1, .int .i64 t.r1, .int .i64 t.c2, .int .i64 t.r2, .string ⟨t.word.toArray⟩, .slice A t.kids.length ca]] w fun e w' => e = .returned (.bool (calledB t.word t.kids)) ∧ Below w.heap.size w w' := by
  have hlen := ht.len
  unfold maxLen at hlen
  have HS := Lib.hid hS
  have HA := Lib.hid hA
  have HT := Lib.hid ht
  clear hA hS ht
  have HE := Lib.hid (fun ob => pcalled_any t.word t HT.out (w.alloc ob) P A ca (HA.out.kept (Kept.of_below ((Below.refl _ _).alloc (Nat.le_refl _) ob))))
  go_enter Tryz.func44, Tryz.ntmps44
  go_wp2_with fail
  refine (HE.out _).mono ?_; rintro e w1 ⟨rfl, b1⟩
  have h1 : Below w.heap.size w w1 := ((Below.refl _ _).alloc (Nat.le_refl _) _).trans (b1.mono (by simp))
  have z1 : w.heap.size < w1.heap.size := by have := b1.size; simp at this; omega
  clear b1
  go_wp2_with fail
  go_ret
  exact ⟨rfl, h1⟩
set_option maxHeartbeats 2000000 in
set_option maxRecDepth 10000 in
theorem psound_span (t : Tr) (ht : Wid t) (w : World) (P : Nat → Prop) (A : Option Addr) (ca : Nat) (hA : KV w P t A) {R B : Nat} (hS : Strs R B w) (n0 : (t.kind == 0) = false) (n1 : (t.kind == 1) = false) (n2 : (t.kind == 2) = false) (n3 : (t.kind == 3) = false) (n4 : (t.kind == 4) = false) (n5 : (t.kind == 5) = false) (y : (t.kind == 6) = true) :
    Calls Tryz.prog 44 #[.agg #[.int .i64 t.kind, .int .i64 t.num, .int .i64 t.c1, .int .i64 t.r1, .int .i64 t.c2, .int .i64 t.r2, .string ⟨t.word.toArray⟩, .slice A t.kids.length ca]] w fun e w' => e = .returned (.bool (wholeB t.c1 t.r1 t.c2 t.r2)) ∧ Below w.heap.size w w' := by
  have hlen := ht.len
  unfold maxLen at hlen
  have HS := Lib.hid hS
  have HA := Lib.hid hA
  have HT := Lib.hid ht
  clear hA hS ht
  have HE := Lib.hid (fun w => pwhole_any t.c1 t.r1 t.c2 t.r2 w)
  go_enter Tryz.func44, Tryz.ntmps44
  go_wp2_with fail
  refine (HE.out _).mono ?_; rintro e w1 ⟨rfl, b1⟩
  have h1 : Below w.heap.size w w1 := ((Below.refl _ _).alloc (Nat.le_refl _) _).trans (b1.mono (by simp))
  have z1 : w.heap.size < w1.heap.size := by have := b1.size; simp at this; omega
  clear b1
  go_wp2_with fail
  go_ret
  exact ⟨rfl, h1⟩
set_option maxHeartbeats 2000000 in
set_option maxRecDepth 10000 in
theorem psound_none (t : Tr) (ht : Wid t) (w : World) (P : Nat → Prop) (A : Option Addr) (ca : Nat) (hA : KV w P t A) {R B : Nat} (hS : Strs R B w) (n0 : (t.kind == 0) = false) (n1 : (t.kind == 1) = false) (n2 : (t.kind == 2) = false) (n3 : (t.kind == 3) = false) (n4 : (t.kind == 4) = false) (n5 : (t.kind == 5) = false) (n6 : (t.kind == 6) = false) :
    Calls Tryz.prog 44 #[.agg #[.int .i64 t.kind, .int .i64 t.num, .int .i64 t.c1, .int .i64 t.r1, .int .i64 t.c2, .int .i64 t.r2, .string ⟨t.word.toArray⟩, .slice A t.kids.length ca]] w fun e w' => e = .returned (.bool (false)) ∧ Below w.heap.size w w' := by
  have hlen := ht.len
  unfold maxLen at hlen
  have HS := Lib.hid hS
  have HA := Lib.hid hA
  have HT := Lib.hid ht
  clear hA hS ht
  go_enter Tryz.func44, Tryz.ntmps44
  go_wp2_with fail
  go_ret
  exact ⟨by first | rfl | trivial, (Below.refl _ _).alloc (Nat.le_refl _) _⟩
theorem psound_any (t : Tr) (ht : Wid t) (w : World) (P : Nat → Prop) (A : Option Addr) (ca : Nat) (hA : KV w P t A) {R B : Nat} (hS : Strs R B w) :
    Calls Tryz.prog 44 #[tv t A ca] w fun e w' => e = .returned (.bool (soundB t)) ∧ Below w.heap.size w w' := by
  have NE : ∀ i : Int, t.kind ≠ i → (t.kind == i) = false := fun i h => by rw [beq_eq_false_iff_ne]; exact h
  have EQ : ∀ i : Int, t.kind = i → (t.kind == i) = true := fun i h => by rw [beq_iff_eq]; exact h
  unfold soundB
  by_cases h0 : t.kind = 0
  · rw [if_pos h0]; exact psound_num t ht w P A ca hA hS (EQ 0 h0)
  · rw [if_neg h0]
    by_cases h1 : t.kind = 1
    · rw [if_pos h1]
      cases hr : rightB t.c1 t.r1 with
      | true => rw [Bool.true_and]; exact psound_read1 t ht w P A ca hA hS (NE 0 h0) (EQ 1 h1) hr
      | false => rw [Bool.false_and]; exact psound_read0 t ht w P A ca hA hS (NE 0 h0) (EQ 1 h1) hr
    · rw [if_neg h1]
      by_cases h2 : t.kind = 2
      · rw [if_pos h2]; exact psound_bad t ht w P A ca hA hS (NE 0 h0) (NE 1 h1) (EQ 2 h2)
      · rw [if_neg h2]
        by_cases h3 : t.kind = 3
        · rw [if_pos h3]; exact psound_neg t ht w P A ca hA hS (NE 0 h0) (NE 1 h1) (NE 2 h2) (EQ 3 h3)
        · rw [if_neg h3]
          by_cases h4 : t.kind = 4
          · rw [if_pos h4]
            cases hl : decide (0 ≤ (lvl t.word : Int) - 1) with
            | true => rw [Bool.true_and]; exact psound_opt t ht w P A ca hA hS (NE 0 h0) (NE 1 h1) (NE 2 h2) (NE 3 h3) (EQ 4 h4) hl
            | false => rw [Bool.false_and]; exact psound_opf t ht w P A ca hA hS (NE 0 h0) (NE 1 h1) (NE 2 h2) (NE 3 h3) (EQ 4 h4) hl
          · rw [if_neg h4]
            by_cases h5 : t.kind = 5
            · rw [if_pos h5]; exact psound_call t ht w P A ca hA hS (NE 0 h0) (NE 1 h1) (NE 2 h2) (NE 3 h3) (NE 4 h4) (EQ 5 h5)
            · rw [if_neg h5]
              by_cases h6 : t.kind = 6
              · rw [if_pos h6]; exact psound_span t ht w P A ca hA hS (NE 0 h0) (NE 1 h1) (NE 2 h2) (NE 3 h3) (NE 4 h4) (NE 5 h5) (EQ 6 h6)
              · rw [if_neg h6]; exact psound_none t ht w P A ca hA hS (NE 0 h0) (NE 1 h1) (NE 2 h2) (NE 3 h3) (NE 4 h4) (NE 5 h5) (NE 6 h6)
end Go.Proofs.YtahdlijkohmdfaaGreatDoor
namespace Go.Proofs.YtahdlijkohmdfaaGreatDoor
open Go.RowKit

structure WC (w0 w : World) (b : Nat) (bs : List UInt8) : Prop where
  low : Below w0.heap.size w0 w
  bld : Lib.IsBuilderF 53 5 w0.heap.size b (Lib.byteCells bs) w
theorem WC.lt {w0 w : World} {b : Nat} {bs : List UInt8} (h : WC w0 w b bs) : b < w.heap.size := by
  rcases h.bld with h | h
  · exact h.lt
  · exact h.lt
theorem WC.alloc {w0 w : World} {b : Nat} {bs : List UInt8} (h : WC w0 w b bs) (o : Obj) : WC w0 (w.alloc o) b bs := ⟨h.low.alloc h.low.size o, h.bld.alloc o⟩
theorem builder_below {T e : TypeId} {B b : Nat} {p : Value} {bs : List Value} {w w' : World} (h : Lib.BuilderAtF T e B b p bs w) (hb : Below w.heap.size w w') : Lib.BuilderAtF T e B b p bs w' := by
  have hlt := h.lt
  obtain ⟨hB, v, hk, hown, hne⟩ := h
  refine ⟨hB, v, (hb.block b hlt).trans hk, hown.kept (row := none) ⟨hb.os, hb.tape, hb.output, hb.size, fun k hk _ => hb.block k hk⟩ ?_, hne⟩
  cases v.ownBlock <;> simp
theorem WC.below {w0 w w' : World} {b : Nat} {bs : List UInt8} (h : WC w0 w b bs) (hb : Below w.heap.size w w') : WC w0 w' b bs :=
  ⟨h.low.trans (hb.mono h.low.size), h.bld.elim (fun x => .inl (builder_below x hb)) (fun x => .inr (builder_below x hb))⟩
theorem others_below {e : TypeId} {b : Option Nat} {w w' : World} (hb : Below w.heap.size w w') : Lib.OthersKept e b w w' := fun k o hk _ _ => by
  rw [hb.block k (Array.getElem?_eq_some_iff.1 hk).1]; exact hk
def WriteC (w0 : World) (b F : Nat) (args : Array Value) (txt : List UInt8) : Prop := ∀ (w : World) (bs : List UInt8), WC w0 w b bs → bs.length + txt.length ≤ 140737488355328 →
  Calls Tryz.prog F args w fun e w' => e = .returned (.tuple #[]) ∧ WC w0 w' b (bs ++ txt) ∧ Lib.OthersKept 5 (some b) w w' ∧ w.heap.size ≤ w'.heap.size
theorem swrite_any {w0 : World} {b : Nat} (s : ByteArray) (w : World) (bs : List UInt8) (h : WC w0 w b bs) (hl : bs.length + s.data.toList.length ≤ 140737488355328) :
    Calls Tryz.prog 37 #[.pointer (some ⟨b, 0, none⟩), .string s] w fun e w' => e = .returned (.tuple #[.int .i64 s.size, .nilIface]) ∧ WC w0 w' b (bs ++ s.data.toList) ∧ Lib.OthersKept 5 (some b) w w' ∧ w.heap.size ≤ w'.heap.size := by
  have hs : s.data.toList.length = s.size := len_of s
  refine (bwrite_any w0.heap.size b (Lib.byteCells bs) s w h.bld (by unfold Lib.byteCells; rw [List.length_map]; omega) h.low.size).mono fun e w' ⟨he, hb, hB, hk⟩ => ⟨he, ⟨h.low.trans hB, ?_⟩, hk, ?_⟩
  · have e1 : Lib.byteCells bs ++ Lib.strCells s = Lib.byteCells (bs ++ s.data.toList) := by rw [Lib.strCells_eq]; unfold Lib.byteCells; rw [List.map_append]
    rw [← e1]; exact hb
  · exact hB.size
theorem blk_kept {b k : Nat} {cs : Array Value} {fz : Nat × Nat} {w w' : World} (h : Lib.OthersKept 5 (some b) w w') (hk : w.heap[k]? = some (.cells cs 30 fz)) (hn : k ≠ b) : w'.heap[k]? = some (.cells cs 30 fz) :=
  h k _ hk (fun e => hn (Option.some.inj e)) fun c fz' e => by cases e
theorem blk_below {k : Nat} {o : Obj} {w w' : World} (hk : w.heap[k]? = some o) (hb : Below w.heap.size w w') : w'.heap[k]? = some o := by
  rw [hb.block k (Array.getElem?_eq_some_iff.1 hk).1]; exact hk
theorem cells8_of {k : Nat} {v0 v1 v2 v3 v4 v5 v6 v7 : Value} {fz : Nat × Nat} {w : World} (hk : w.heap[k]? = some (.cells #[v0, v1, v2, v3, v4, v5, v6, v7] 30 fz)) :
    w.cell? ⟨k, 0, none⟩ = some v0 ∧ w.cell? ⟨k, 1, none⟩ = some v1 ∧ w.cell? ⟨k, 2, none⟩ = some v2 ∧ w.cell? ⟨k, 3, none⟩ = some v3 ∧ w.cell? ⟨k, 4, none⟩ = some v4 ∧ w.cell? ⟨k, 5, none⟩ = some v5 ∧ w.cell? ⟨k, 6, none⟩ = some v6 ∧ w.cell? ⟨k, 7, none⟩ = some v7 := by
  have c := fun j => Lib.cell_of_heap hk j
  exact ⟨c 0, c 1, c 2, c 3, c 4, c 5, c 6, c 7⟩
set_option maxHeartbeats 1000000 in
theorem sntext_any (n : Int) (hn : B64 n) (w : World) (hE : EnvI w) :
    Calls Tryz.prog 38 #[.int .i64 n] w fun e w' => e = .returned (.string ⟨(Lib.itoa n).toArray⟩) ∧ Below w.heap.size w w' := by
  have H := Lib.hid (itoa_any n hn w hE)
  clear hE
  go_enter Tryz.func38, Tryz.ntmps38
  go_wp2_with fail
  refine H.out.mono ?_; rintro e w1 ⟨rfl, b1⟩
  go_wp2_with fail
  go_ret
  exact ⟨rfl, b1⟩
set_option maxHeartbeats 2000000 in
set_option maxRecDepth 10000 in
theorem wleaf_num {w0 : World} {b : Nat} (hE : EnvI w0) (t : Tr) (hlen : t.kids.length ≤ maxLen) (A : Option Addr) (ca : Nat) (y : (t.kind == 0) = true) (hn : B64 t.num) :
    WriteC w0 b 22 #[.pointer (some ⟨b, 0, none⟩), .agg #[.int .i64 t.kind, .int .i64 t.num, .int .i64 t.c1, .int .i64 t.r1, .int .i64 t.c2, .int .i64 t.r2, .string ⟨t.word.toArray⟩, .slice A t.kids.length ca]] (Lib.itoa t.num) := by
  intro w bs hW hl
  unfold maxLen at hlen
  have HW := Lib.hid hW
  have HE := Lib.hid hE
  have HL := Lib.hid hl
  have h0 : ∀ ob, Below w.heap.size w (w.alloc ob) := fun ob => (Below.refl _ _).alloc (Nat.le_refl _) ob
  have H0 := Lib.hid h0
  clear hW hE hl h0
  have HN := Lib.hid (fun w hE => sntext_any t.num hn w hE)
  go_enter Tryz.func22, Tryz.ntmps22
  go_wp2_with fail
  refine (HN.out _ (HE.out.below (HW.out.low.trans ((H0.out _).mono HW.out.low.size)))).mono ?_; rintro e w1 ⟨rfl, b1⟩
  have k10 := keep_fresh b1 0 (v := .int .i64 t.kind) rfl
  have k11 := keep_fresh b1 1 (v := .int .i64 t.num) rfl
  have k12 := keep_fresh b1 2 (v := .int .i64 t.c1) rfl
  have k13 := keep_fresh b1 3 (v := .int .i64 t.r1) rfl
  have k14 := keep_fresh b1 4 (v := .int .i64 t.c2) rfl
  have k15 := keep_fresh b1 5 (v := .int .i64 t.r2) rfl
  have k16 := keep_fresh b1 6 (v := .string ⟨t.word.toArray⟩) rfl
  have k17 := keep_fresh b1 7 (v := .slice A t.kids.length ca) rfl
  have h1 : Below w.heap.size w w1 := (H0.out _).trans (b1.mono (by simp))
  have HS := Lib.hid (swrite_any ⟨(Lib.itoa t.num).toArray⟩ w1 bs (HW.out.below h1) (by simpa using HL.out))
  clear b1
  go_wp2_with fail
  refine HS.out.mono ?_; rintro e w3 ⟨rfl, hw3, hk3, hs3⟩
  have HF := Lib.hid (And.intro hw3 (And.intro hk3 hs3))
  clear hw3 hk3 hs3
  go_wp2_with fail
  first | go_end0 | (refine bodyPost_ret (results_none rfl _ _ _) rfl ?_)
  exact ⟨rfl, by simpa using HF.out.1, (others_below h1).trans HF.out.2.1, Nat.le_trans h1.size HF.out.2.2⟩
set_option maxHeartbeats 2000000 in
set_option maxRecDepth 10000 in
theorem wleaf_read {w0 : World} {b : Nat} (hE : EnvI w0) (t : Tr) (hlen : t.kids.length ≤ maxLen) (A : Option Addr) (ca : Nat) (n0 : (t.kind == 0) = false) (y : (t.kind == 1) = true) :
    WriteC w0 b 22 #[.pointer (some ⟨b, 0, none⟩), .agg #[.int .i64 t.kind, .int .i64 t.num, .int .i64 t.c1, .int .i64 t.r1, .int .i64 t.c2, .int .i64 t.r2, .string ⟨t.word.toArray⟩, .slice A t.kids.length ca]] (placeText t.c1 t.r1) := by
  intro w bs hW hl
  unfold maxLen at hlen
  have HW := Lib.hid hW
  have HE := Lib.hid hE
  have HL := Lib.hid hl
  have h0 : ∀ ob, Below w.heap.size w (w.alloc ob) := fun ob => (Below.refl _ _).alloc (Nat.le_refl _) ob
  have H0 := Lib.hid h0
  clear hW hE hl h0
  have HN := Lib.hid (fun w hE => ptext_any t.c1 t.r1 w hE)
  go_enter Tryz.func22, Tryz.ntmps22
  go_wp2_with fail
  refine (HN.out _ (HE.out.below (HW.out.low.trans ((H0.out _).mono HW.out.low.size)))).mono ?_; rintro e w1 ⟨rfl, b1⟩
  have k10 := keep_fresh b1 0 (v := .int .i64 t.kind) rfl
  have k11 := keep_fresh b1 1 (v := .int .i64 t.num) rfl
  have k12 := keep_fresh b1 2 (v := .int .i64 t.c1) rfl
  have k13 := keep_fresh b1 3 (v := .int .i64 t.r1) rfl
  have k14 := keep_fresh b1 4 (v := .int .i64 t.c2) rfl
  have k15 := keep_fresh b1 5 (v := .int .i64 t.r2) rfl
  have k16 := keep_fresh b1 6 (v := .string ⟨t.word.toArray⟩) rfl
  have k17 := keep_fresh b1 7 (v := .slice A t.kids.length ca) rfl
  have h1 : Below w.heap.size w w1 := (H0.out _).trans (b1.mono (by simp))
  have HS := Lib.hid (swrite_any ⟨(placeText t.c1 t.r1).toArray⟩ w1 bs (HW.out.below h1) (by simpa using HL.out))
  clear b1
  go_wp2_with fail
  refine HS.out.mono ?_; rintro e w3 ⟨rfl, hw3, hk3, hs3⟩
  have HF := Lib.hid (And.intro hw3 (And.intro hk3 hs3))
  clear hw3 hk3 hs3
  go_wp2_with fail
  first | go_end0 | (refine bodyPost_ret (results_none rfl _ _ _) rfl ?_)
  exact ⟨rfl, by simpa using HF.out.1, (others_below h1).trans HF.out.2.1, Nat.le_trans h1.size HF.out.2.2⟩
set_option maxHeartbeats 2000000 in
set_option maxRecDepth 10000 in
theorem wleaf_bad {w0 : World} {b : Nat} (hE : EnvI w0) (t : Tr) (hlen : t.kids.length ≤ maxLen) (A : Option Addr) (ca : Nat) (n0 : (t.kind == 0) = false) (n1 : (t.kind == 1) = false) (y : (t.kind == 2) = true) :
    WriteC w0 b 22 #[.pointer (some ⟨b, 0, none⟩), .agg #[.int .i64 t.kind, .int .i64 t.num, .int .i64 t.c1, .int .i64 t.r1, .int .i64 t.c2, .int .i64 t.r2, .string ⟨t.word.toArray⟩, .slice A t.kids.length ca]] ([35, 82, 69, 70]) := by
  intro w bs hW hl
  unfold maxLen at hlen
  have HW := Lib.hid hW
  have HE := Lib.hid hE
  have HL := Lib.hid hl
  have h0 : ∀ ob, Below w.heap.size w (w.alloc ob) := fun ob => (Below.refl _ _).alloc (Nat.le_refl _) ob
  have H0 := Lib.hid h0
  clear hW hE hl h0
  have HSS := Lib.hid (fun ob => swrite_any (b := b) ⟨#[35, 82, 69, 70]⟩ (w.alloc ob) bs (HW.out.alloc ob) (by simpa using HL.out))
  go_enter Tryz.func22, Tryz.ntmps22
  go_wp2_with fail
  refine (HSS.out _).mono ?_; rintro e w3 ⟨rfl, hw3, hk3, hs3⟩
  have HF := Lib.hid (And.intro hw3 (And.intro hk3 hs3))
  clear hw3 hk3 hs3
  go_wp2_with fail
  first | go_end0 | (refine bodyPost_ret (results_none rfl _ _ _) rfl ?_)
  exact ⟨rfl, by simpa using HF.out.1, (others_below (H0.out _)).trans HF.out.2.1, by have := HF.out.2.2; simp at this; omega⟩
set_option maxHeartbeats 2000000 in
set_option maxRecDepth 10000 in
theorem wleaf_span {w0 : World} {b : Nat} (hE : EnvI w0) (t : Tr) (hlen : t.kids.length ≤ maxLen) (A : Option Addr) (ca : Nat) (n0 : (t.kind == 0) = false) (n1 : (t.kind == 1) = false) (n2 : (t.kind == 2) = false) (n3 : (t.kind == 3) = false) (n4 : (t.kind == 4) = false) (n5 : (t.kind == 5) = false) (y : (t.kind == 6) = true) (ht1 : (placeText t.c1 t.r1).length ≤ 100) (ht2 : (placeText t.c2 t.r2).length ≤ 100) :
    WriteC w0 b 22 #[.pointer (some ⟨b, 0, none⟩), .agg #[.int .i64 t.kind, .int .i64 t.num, .int .i64 t.c1, .int .i64 t.r1, .int .i64 t.c2, .int .i64 t.r2, .string ⟨t.word.toArray⟩, .slice A t.kids.length ca]] (placeText t.c1 t.r1 ++ 58 :: placeText t.c2 t.r2) := by
  intro w bs hW hl
  unfold maxLen at hlen
  have HW := Lib.hid hW
  have HE := Lib.hid hE
  have HL := Lib.hid hl
  have h0 : ∀ ob, Below w.heap.size w (w.alloc ob) := fun ob => (Below.refl _ _).alloc (Nat.le_refl _) ob
  have H0 := Lib.hid h0
  clear hW hE hl h0
  have HN1 := Lib.hid (fun w hE => ptext_any t.c1 t.r1 w hE)
  have HN2 := Lib.hid (fun w hE => ptext_any t.c2 t.r2 w hE)
  have hT : ((placeText t.c1 t.r1 ++ [58]) ++ placeText t.c2 t.r2) = placeText t.c1 t.r1 ++ 58 :: placeText t.c2 t.r2 := by simp
  have HT := Lib.hid hT
  generalize placeText t.c1 t.r1 = X at *
  generalize placeText t.c2 t.r2 = Y at *
  have hc1 : ∀ w, (Op.stringOp .add ⟨X.toArray⟩ ⟨#[58]⟩).run Tryz.prog w = .ok (.string ⟨(X ++ [58]).toArray⟩) w := fun w => run_string_add_lists w X [58] (by omega) (by simp)
  have hc2 : ∀ w, (Op.stringOp .add ⟨(X ++ [58]).toArray⟩ ⟨Y.toArray⟩).run Tryz.prog w = .ok (.string ⟨(X ++ 58 :: Y).toArray⟩) w := fun w => by rw [← hT]; exact run_string_add_lists w (X ++ [58]) Y (by simp; omega) (by omega)
  clear hT
  go_enter Tryz.func22, Tryz.ntmps22
  go_wp2_with fail
  have hne : w.heap.size ≠ b := by have := HW.out.lt; omega
  have z2 : (w.alloc (.cells #[.int .i64 t.kind, .int .i64 t.num, .int .i64 t.c1, .int .i64 t.r1, .int .i64 t.c2, .int .i64 t.r2, .string ⟨t.word.toArray⟩, .slice A t.kids.length ca] 30)).cell? ⟨w.heap.size, 2, none⟩ = some (.int .i64 t.c1) := by simp [go_sem]
  have z3 : (w.alloc (.cells #[.int .i64 t.kind, .int .i64 t.num, .int .i64 t.c1, .int .i64 t.r1, .int .i64 t.c2, .int .i64 t.r2, .string ⟨t.word.toArray⟩, .slice A t.kids.length ca] 30)).cell? ⟨w.heap.size, 3, none⟩ = some (.int .i64 t.r1) := by simp [go_sem]
  have z4 : (w.alloc (.cells #[.int .i64 t.kind, .int .i64 t.num, .int .i64 t.c1, .int .i64 t.r1, .int .i64 t.c2, .int .i64 t.r2, .string ⟨t.word.toArray⟩, .slice A t.kids.length ca] 30)).cell? ⟨w.heap.size, 4, none⟩ = some (.int .i64 t.c2) := by simp [go_sem]
  have z5 : (w.alloc (.cells #[.int .i64 t.kind, .int .i64 t.num, .int .i64 t.c1, .int .i64 t.r1, .int .i64 t.c2, .int .i64 t.r2, .string ⟨t.word.toArray⟩, .slice A t.kids.length ca] 30)).cell? ⟨w.heap.size, 5, none⟩ = some (.int .i64 t.r2) := by simp [go_sem]
  have HE0 : Hid (EnvI (w.alloc (.cells #[.int .i64 t.kind, .int .i64 t.num, .int .i64 t.c1, .int .i64 t.r1, .int .i64 t.c2, .int .i64 t.r2, .string ⟨t.word.toArray⟩, .slice A t.kids.length ca] 30)).drew) := Lib.hid ⟨(HE.out.below (HW.out.low.trans ((H0.out (.cells #[.int .i64 t.kind, .int .i64 t.num, .int .i64 t.c1, .int .i64 t.r1, .int .i64 t.c2, .int .i64 t.r2, .string ⟨t.word.toArray⟩, .slice A t.kids.length ca] 30)).mono HW.out.low.size))).tab⟩
  have hb0 : (w.alloc (.cells #[.int .i64 t.kind, .int .i64 t.num, .int .i64 t.c1, .int .i64 t.r1, .int .i64 t.c2, .int .i64 t.r2, .string ⟨t.word.toArray⟩, .slice A t.kids.length ca] 30)).heap[w.heap.size]? = some (.cells #[.int .i64 t.kind, .int .i64 t.num, .int .i64 t.c1, .int .i64 t.r1, .int .i64 t.c2, .int .i64 t.r2, .string ⟨t.word.toArray⟩, .slice A t.kids.length ca] 30) := heap_alloc_new w _
  have HW0 := Lib.hid (HW.out.alloc (.cells #[.int .i64 t.kind, .int .i64 t.num, .int .i64 t.c1, .int .i64 t.r1, .int .i64 t.c2, .int .i64 t.r2, .string ⟨t.word.toArray⟩, .slice A t.kids.length ca] 30))
  go_region_held3 (fun w' => w'.cell? ⟨w.heap.size, 2, none⟩ = some (.int .i64 t.c1) ∧ w'.cell? ⟨w.heap.size, 3, none⟩ = some (.int .i64 t.r1) ∧ w'.cell? ⟨w.heap.size, 4, none⟩ = some (.int .i64 t.c2) ∧ w'.cell? ⟨w.heap.size, 5, none⟩ = some (.int .i64 t.r2))
    (first | (simp only [World.cell?_drew]; with_reducible exact ⟨z2, z3, z4, z5⟩) | with_reducible exact ⟨x2, x3, x4, x5⟩ | with_reducible exact ⟨y2, y3, y4, y5⟩ | with_reducible exact ⟨v2, v3, v4, v5⟩ | fail)
    (first
    | (go_at_call_of 39 (t.c1); refine (HN1.out _ HE0.out).mono ?_; rintro e w1 ⟨rfl, b1⟩
       have B1 : Below (w.alloc (.cells #[.int .i64 t.kind, .int .i64 t.num, .int .i64 t.c1, .int .i64 t.r1, .int .i64 t.c2, .int .i64 t.r2, .string ⟨t.word.toArray⟩, .slice A t.kids.length ca] 30)).heap.size (w.alloc (.cells #[.int .i64 t.kind, .int .i64 t.num, .int .i64 t.c1, .int .i64 t.r1, .int .i64 t.c2, .int .i64 t.r2, .string ⟨t.word.toArray⟩, .slice A t.kids.length ca] 30)) w1 := (Below.refl _ (w.alloc (.cells #[.int .i64 t.kind, .int .i64 t.num, .int .i64 t.c1, .int .i64 t.r1, .int .i64 t.c2, .int .i64 t.r2, .string ⟨t.word.toArray⟩, .slice A t.kids.length ca] 30))).drew.trans b1
       have x2 := keep_cell B1 z2
       have x3 := keep_cell B1 z3
       have x4 := keep_cell B1 z4
       have x5 := keep_cell B1 z5
       have hb1 := blk_below hb0 B1
       have HE1 := Lib.hid (HE0.out.below b1)
       have HW1 := Lib.hid (HW0.out.below B1))
    | (go_at_call_of 39 (t.c2); refine (HN2.out _ HE1.out).mono ?_; rintro e w2 ⟨rfl, b2⟩
       have y2 := keep_cell b2 x2
       have y3 := keep_cell b2 x3
       have y4 := keep_cell b2 x4
       have y5 := keep_cell b2 x5
       have hb2 := blk_below hb1 b2
       have HW2 := Lib.hid (HW1.out.below b2)
       have HS := Lib.hid (swrite_any ⟨(X ++ 58 :: Y).toArray⟩ w2 bs HW2.out (by simpa using HL.out)))
    | (go_at_call 37; refine HS.out.mono ?_; rintro e w3 ⟨rfl, hw3, hk3, hs3⟩
       obtain ⟨v0, v1, v2, v3, v4, v5, v6, v7⟩ := cells8_of (blk_kept hk3 hb2 hne)
       clear v0 v1 v6 v7))
  all_goals
    have h2 : Below w.heap.size w w2 := (H0.out _).trans ((B1.mono (by simp)).trans (b2.mono (by have := B1.size; simp at this; omega)))
    have HF := Lib.hid (And.intro hw3 (And.intro hk3 hs3))
    clear hw3 hk3 hs3
    go_wp2_with fail
    first | go_end0 | (refine bodyPost_ret (results_none rfl _ _ _) rfl ?_)
    exact ⟨rfl, by simpa using HF.out.1, (others_below h2).trans HF.out.2.1, Nat.le_trans h2.size HF.out.2.2⟩
end Go.Proofs.YtahdlijkohmdfaaGreatDoor
namespace Go.Proofs.YtahdlijkohmdfaaGreatDoor
open Go.RowKit

set_option maxHeartbeats 4000000 in
set_option maxRecDepth 10000 in
theorem pspare_at (k num a b c d : Int) (wd : List UInt8) (A : Option Addr) (n cap : Nat) (w : World) (N0 B0 AT B1 B6 W0 B4 B5 LN B3 : Bool) (hn : (num != 0) = N0) (h0 : (k != 0) = B0)
    (hA : ∀ W, (binOp .neq 27 (.agg #[.int .i64 a, .int .i64 b, .int .i64 c, .int .i64 d]) (.agg #[.int .i64 0, .int .i64 0, .int .i64 0, .int .i64 0])).run Tryz.prog W = .ok (.bool AT) W)
    (h1 : (k != 1) = B1) (h6 : (k != 6) = B6) (hw : (wd == []) = W0) (h4 : (k != 4) = B4) (h5 : (k != 5) = B5) (hl : decide ((0 : Int) < (n : Int)) = LN) (h3 : (k != 3) = B3) :
    Calls Tryz.prog 43 #[.agg #[.int .i64 k, .int .i64 num, .int .i64 a, .int .i64 b, .int .i64 c, .int .i64 d, .string ⟨wd.toArray⟩, .slice A n cap]] w fun e w' => e = .returned (.bool ((N0 && B0) || ((AT && (B1 && B6)) || ((!W0 && (B4 && B5)) || (LN && (B3 && (B4 && B5))))))) ∧ Below w.heap.size w w' := by
  have hG := fun op X Y W => guard_range op X Y #[.int .i64 a, .int .i64 b, .int .i64 c, .int .i64 d] #[.int .i64 0, .int .i64 0, .int .i64 0, .int .i64 0] W
  cases N0 with
  | true =>
   cases B0 with
   | true =>
    go_enter Tryz.func43, Tryz.ntmps43
    go_wp2_with fail
    go_ret
    exact ⟨rfl, (Below.refl _ _).alloc (Nat.le_refl _) _⟩
   | false =>
    cases AT with
    | true =>
     cases B1 with
     | true =>
      cases B6 with
      | true =>
       go_enter Tryz.func43, Tryz.ntmps43
       go_wp2_with fail
       go_ret
       exact ⟨rfl, (Below.refl _ _).alloc (Nat.le_refl _) _⟩
      | false =>
       have ea : k = 0 := by simpa using h0
       have eb : k = 6 := by simpa using h6
       omega
     | false =>
      have ea : k = 0 := by simpa using h0
      have eb : k = 1 := by simpa using h1
      omega
    | false =>
     cases W0 with
     | true =>
      cases LN with
      | true =>
       have hz : 0 < n := by simpa using hl
       cases B3 with
       | true =>
        cases B4 with
        | true =>
         cases B5 with
         | true =>
          go_enter Tryz.func43, Tryz.ntmps43
          go_wp2_with fail
          go_ret
          exact ⟨rfl, (Below.refl _ _).alloc (Nat.le_refl _) _⟩
         | false =>
          have ea : k = 0 := by simpa using h0
          have eb : k = 5 := by simpa using h5
          omega
        | false =>
         have ea : k = 0 := by simpa using h0
         have eb : k = 4 := by simpa using h4
         omega
       | false =>
        have ea : k = 0 := by simpa using h0
        have eb : k = 3 := by simpa using h3
        omega
      | false =>
       have hz : ¬ 0 < n := by simpa using hl
       go_enter Tryz.func43, Tryz.ntmps43
       go_wp2_with fail
       go_ret
       exact ⟨rfl, (Below.refl _ _).alloc (Nat.le_refl _) _⟩
     | false =>
      cases B4 with
      | true =>
       cases B5 with
       | true =>
        go_enter Tryz.func43, Tryz.ntmps43
        go_wp2_with fail
        go_ret
        exact ⟨rfl, (Below.refl _ _).alloc (Nat.le_refl _) _⟩
       | false =>
        have ea : k = 0 := by simpa using h0
        have eb : k = 5 := by simpa using h5
        omega
      | false =>
       have ea : k = 0 := by simpa using h0
       have eb : k = 4 := by simpa using h4
       omega
  | false =>
   cases AT with
   | true =>
    cases B1 with
    | true =>
     cases B6 with
     | true =>
      go_enter Tryz.func43, Tryz.ntmps43
      go_wp2_with fail
      go_ret
      exact ⟨rfl, (Below.refl _ _).alloc (Nat.le_refl _) _⟩
     | false =>
      cases W0 with
      | true =>
       cases LN with
       | true =>
        have hz : 0 < n := by simpa using hl
        cases B3 with
        | true =>
         cases B4 with
         | true =>
          cases B5 with
          | true =>
           go_enter Tryz.func43, Tryz.ntmps43
           go_wp2_with fail
           go_ret
           exact ⟨rfl, (Below.refl _ _).alloc (Nat.le_refl _) _⟩
          | false =>
           have ea : k = 6 := by simpa using h6
           have eb : k = 5 := by simpa using h5
           omega
         | false =>
          have ea : k = 6 := by simpa using h6
          have eb : k = 4 := by simpa using h4
          omega
        | false =>
         have ea : k = 6 := by simpa using h6
         have eb : k = 3 := by simpa using h3
         omega
       | false =>
        have hz : ¬ 0 < n := by simpa using hl
        go_enter Tryz.func43, Tryz.ntmps43
        go_wp2_with fail
        go_ret
        exact ⟨rfl, (Below.refl _ _).alloc (Nat.le_refl _) _⟩
      | false =>
       cases B4 with
       | true =>
        cases B5 with
        | true =>
         go_enter Tryz.func43, Tryz.ntmps43
         go_wp2_with fail
         go_ret
         exact ⟨rfl, (Below.refl _ _).alloc (Nat.le_refl _) _⟩
        | false =>
         have ea : k = 6 := by simpa using h6
         have eb : k = 5 := by simpa using h5
         omega
       | false =>
        have ea : k = 6 := by simpa using h6
        have eb : k = 4 := by simpa using h4
        omega
    | false =>
     cases W0 with
     | true =>
      cases LN with
      | true =>
       have hz : 0 < n := by simpa using hl
       cases B3 with
       | true =>
        cases B4 with
        | true =>
         cases B5 with
         | true =>
          go_enter Tryz.func43, Tryz.ntmps43
          go_wp2_with fail
          go_ret
          exact ⟨rfl, (Below.refl _ _).alloc (Nat.le_refl _) _⟩
         | false =>
          have ea : k = 1 := by simpa using h1
          have eb : k = 5 := by simpa using h5
          omega
        | false =>
         have ea : k = 1 := by simpa using h1
         have eb : k = 4 := by simpa using h4
         omega
       | false =>
        have ea : k = 1 := by simpa using h1
        have eb : k = 3 := by simpa using h3
        omega
      | false =>
       have hz : ¬ 0 < n := by simpa using hl
       go_enter Tryz.func43, Tryz.ntmps43
       go_wp2_with fail
       go_ret
       exact ⟨rfl, (Below.refl _ _).alloc (Nat.le_refl _) _⟩
     | false =>
      cases B4 with
      | true =>
       cases B5 with
       | true =>
        go_enter Tryz.func43, Tryz.ntmps43
        go_wp2_with fail
        go_ret
        exact ⟨rfl, (Below.refl _ _).alloc (Nat.le_refl _) _⟩
       | false =>
        have ea : k = 1 := by simpa using h1
        have eb : k = 5 := by simpa using h5
        omega
      | false =>
       have ea : k = 1 := by simpa using h1
       have eb : k = 4 := by simpa using h4
       omega
   | false =>
    cases W0 with
    | true =>
     cases LN with
     | true =>
      have hz : 0 < n := by simpa using hl
      cases B3 with
      | true =>
       cases B4 with
       | true =>
        cases B5 with
        | true =>
         go_enter Tryz.func43, Tryz.ntmps43
         go_wp2_with fail
         go_ret
         exact ⟨rfl, (Below.refl _ _).alloc (Nat.le_refl _) _⟩
        | false =>
         go_enter Tryz.func43, Tryz.ntmps43
         go_wp2_with fail
         go_ret
         exact ⟨rfl, (Below.refl _ _).alloc (Nat.le_refl _) _⟩
       | false =>
        go_enter Tryz.func43, Tryz.ntmps43
        go_wp2_with fail
        go_ret
        exact ⟨rfl, (Below.refl _ _).alloc (Nat.le_refl _) _⟩
      | false =>
       go_enter Tryz.func43, Tryz.ntmps43
       go_wp2_with fail
       go_ret
       exact ⟨rfl, (Below.refl _ _).alloc (Nat.le_refl _) _⟩
     | false =>
      have hz : ¬ 0 < n := by simpa using hl
      go_enter Tryz.func43, Tryz.ntmps43
      go_wp2_with fail
      go_ret
      exact ⟨rfl, (Below.refl _ _).alloc (Nat.le_refl _) _⟩
    | false =>
     cases B4 with
     | true =>
      cases B5 with
      | true =>
       go_enter Tryz.func43, Tryz.ntmps43
       go_wp2_with fail
       go_ret
       exact ⟨rfl, (Below.refl _ _).alloc (Nat.le_refl _) _⟩
      | false =>
       cases LN with
       | true =>
        have hz : 0 < n := by simpa using hl
        cases B3 with
        | true =>
         go_enter Tryz.func43, Tryz.ntmps43
         go_wp2_with fail
         go_ret
         exact ⟨rfl, (Below.refl _ _).alloc (Nat.le_refl _) _⟩
        | false =>
         have ea : k = 5 := by simpa using h5
         have eb : k = 3 := by simpa using h3
         omega
       | false =>
        have hz : ¬ 0 < n := by simpa using hl
        go_enter Tryz.func43, Tryz.ntmps43
        go_wp2_with fail
        go_ret
        exact ⟨rfl, (Below.refl _ _).alloc (Nat.le_refl _) _⟩
     | false =>
      cases LN with
      | true =>
       have hz : 0 < n := by simpa using hl
       cases B3 with
       | true =>
        go_enter Tryz.func43, Tryz.ntmps43
        go_wp2_with fail
        go_ret
        exact ⟨rfl, (Below.refl _ _).alloc (Nat.le_refl _) _⟩
       | false =>
        have ea : k = 4 := by simpa using h4
        have eb : k = 3 := by simpa using h3
        omega
      | false =>
       have hz : ¬ 0 < n := by simpa using hl
       go_enter Tryz.func43, Tryz.ntmps43
       go_wp2_with fail
       go_ret
       exact ⟨rfl, (Below.refl _ _).alloc (Nat.le_refl _) _⟩
def spareB (t : Tr) : Bool := ((t.num != 0) && (t.kind != 0)) || (((!(t.c1 == 0 && t.r1 == 0 && (t.c2 == 0 && t.r2 == 0))) && ((t.kind != 1) && (t.kind != 6))) || ((!(t.word == []) && ((t.kind != 4) && (t.kind != 5))) || (decide ((0 : Int) < (t.kids.length : Int)) && ((t.kind != 3) && ((t.kind != 4) && (t.kind != 5))))))
theorem pspare_any (t : Tr) (A : Option Addr) (cap : Nat) (w : World) :
    Calls Tryz.prog 43 #[tv t A cap] w fun e w' => e = .returned (.bool (spareB t)) ∧ Below w.heap.size w w' :=
  pspare_at t.kind t.num t.c1 t.r1 t.c2 t.r2 t.word A t.kids.length cap w _ _ _ _ _ _ _ _ _ _ rfl rfl (fun W => neq_range _ _ _ _ _ _ _ _ W) rfl rfl rfl rfl rfl rfl rfl
end Go.Proofs.YtahdlijkohmdfaaGreatDoor
