/- Texts joined: EwM. -/
import Derived.Test.YthaoalmhhgllmaaGreatDoorMa30
set_option linter.all false
set_option linter.unusedVariables false
set_option linter.unusedSimpArgs false
namespace Go.Proofs.YthaoalmhhgllmaaGreatDoor
open Go.RowKit

structure GC (t : Tr) (l : List Cel) : Prop where
  wid : Wid t
  fit : Fit t
  len : l.length ≤ maxLen
  num : ∀ q ∈ l, B64 q.n
  plc : ∀ q ∈ l, B64 q.c ∧ B64 q.r
theorem fits_cnt {t : Tr} (h : fitsB t = true) : cntT t ≤ 1000000 := by
  have h1 := (fits_iff.1 h).1
  have h2 := szT_cnt t 400 (by decide) h1
  omega
theorem below_up2 {n : Nat} {W0 W w2 : World} (h : Below n W0 W) (hn : n ≤ W.heap.size) (b : Below W.drew.heap.size W.drew w2) : Below n W0 w2 := h.trans (((Below.refl _ W).drew.trans b).mono hn)
set_option maxHeartbeats 8000000 in
set_option maxRecDepth 100000 in
theorem evtells_no (t : Tr) (l : List Cel) (hg : GC t l) (w : World) (A : Option Addr) (ca : Nat) (LA : Option Addr) (lc : Nat) (hA : KV w (fun _ => True) t A) (hc : ListC w LA l) {B : Nat} (hSB : B ≤ w.heap.size) (hSt : Strs B B w) (hno : fitsB t = false ∨ 300 < l.length) :
    Calls Tryz.prog 3 #[tv t A ca, .slice LA l.length lc] w fun e w' => e = .returned (.bool true) ∧ Below w.heap.size w w' := by
  have HK := Lib.hid (fun w' (hb : Below (w.heap.size + 1) (w.alloc (.cells #[.int .i64 t.kind, .int .i64 t.num, .int .i64 t.c1, .int .i64 t.r1, .int .i64 t.c2, .int .i64 t.r2, .string ⟨t.word.toArray⟩, .slice A t.kids.length ca] 29)) w') => show Below w.heap.size w w' from ((Below.refl _ _).alloc (Nat.le_refl _) _).trans (hb.mono (by omega)))
  have HB0 : Hid (Below (w.heap.size + 1) (w.alloc (.cells #[.int .i64 t.kind, .int .i64 t.num, .int .i64 t.c1, .int .i64 t.r1, .int .i64 t.c2, .int .i64 t.r2, .string ⟨t.word.toArray⟩, .slice A t.kids.length ca] 29)) (w.alloc (.cells #[.int .i64 t.kind, .int .i64 t.num, .int .i64 t.c1, .int .i64 t.r1, .int .i64 t.c2, .int .i64 t.r2, .string ⟨t.word.toArray⟩, .slice A t.kids.length ca] 29))) := Lib.hid (Below.refl _ _)
  have HL : Hid (∀ w', Below (w.heap.size + 1) (w.alloc (.cells #[.int .i64 t.kind, .int .i64 t.num, .int .i64 t.c1, .int .i64 t.r1, .int .i64 t.c2, .int .i64 t.r2, .string ⟨t.word.toArray⟩, .slice A t.kids.length ca] 29)) w' → w'.cell? ⟨w.heap.size, 0, none⟩ = some (.int .i64 t.kind) ∧ w'.cell? ⟨w.heap.size, 1, none⟩ = some (.int .i64 t.num) ∧ w'.cell? ⟨w.heap.size, 2, none⟩ = some (.int .i64 t.c1) ∧ w'.cell? ⟨w.heap.size, 3, none⟩ = some (.int .i64 t.r1) ∧ w'.cell? ⟨w.heap.size, 4, none⟩ = some (.int .i64 t.c2) ∧ w'.cell? ⟨w.heap.size, 5, none⟩ = some (.int .i64 t.r2) ∧ w'.cell? ⟨w.heap.size, 6, none⟩ = some (.string ⟨t.word.toArray⟩) ∧ w'.cell? ⟨w.heap.size, 7, none⟩ = some (.slice A t.kids.length ca)) := Lib.hid fun w' hb => by
    have hs := hb.size
    simp at hs
    refine ⟨?_, ?_, ?_, ?_, ?_, ?_, ?_, ?_⟩ <;> (rw [hb.cell (by simp)]; simp [go_sem])
  have HFi := Lib.hid (fun w' (hb : Below (w.heap.size + 1) (w.alloc (.cells #[.int .i64 t.kind, .int .i64 t.num, .int .i64 t.c1, .int .i64 t.r1, .int .i64 t.c2, .int .i64 t.r2, .string ⟨t.word.toArray⟩, .slice A t.kids.length ca] 29)) w') => lfits_any t hg.wid w' A ca (hA.kept (Kept.of_below (HK.out w' hb))))
  have HAl := Lib.hid (fun w' (hb : Below (w.heap.size + 1) (w.alloc (.cells #[.int .i64 t.kind, .int .i64 t.num, .int .i64 t.c1, .int .i64 t.r1, .int .i64 t.c2, .int .i64 t.r2, .string ⟨t.word.toArray⟩, .slice A t.kids.length ca] 29)) w') => ealive w' (B := B) (Nat.le_trans hSB (HK.out w' hb).size) (hSt.later hSB (HK.out w' hb)))
  have hlen := hg.wid.len
  have hll := hg.len
  unfold maxLen at hlen hll
  unfold tv at *
  clear hA hc hSB hSt hg
  generalize fitsB t = F at *
  have hd : F = true → decide ((300 : Int) < (l.length : Int)) = true := fun h => decide_eq_true (by rcases hno with e | e; rw [h] at e; cases e; omega)
  clear hno
  cases F with
  | false =>
    go_enter Tryz.func3, Tryz.ntmps3
    go_wp2_with fail
    refine Calls.mono (HFi.out _ HB0.out) ?_; rintro e w1 ⟨rfl, b1⟩
    have HB1 := Lib.hid (HB0.out.trans (b1.mono (by simp)))
    clear b1 hd
    go_wp2_with fail
    refine Calls.mono (HAl.out _ HB1.out) ?_; rintro e w2 ⟨rfl, b2⟩
    have HB2 := Lib.hid (HB1.out.trans (b2.mono (by have := HB1.out.size; simpa using this)))
    clear b2
    go_wp2_with fail
    go_ret
    exact ⟨rfl, HK.out _ HB2.out⟩
  | true =>
    have hd := hd rfl
    go_enter Tryz.func3, Tryz.ntmps3
    go_wp2_with fail
    refine Calls.mono (HFi.out _ HB0.out) ?_; rintro e w1 ⟨rfl, b1⟩
    have HB1 := Lib.hid (HB0.out.trans (b1.mono (by simp)))
    clear b1
    go_wp2_with fail
    refine Calls.mono (HAl.out _ HB1.out) ?_; rintro e w2 ⟨rfl, b2⟩
    have HB2 := Lib.hid (HB1.out.trans (b2.mono (by have := HB1.out.size; simpa using this)))
    clear b2
    go_wp2_with fail
    go_ret
    exact ⟨rfl, HK.out _ HB2.out⟩
set_option maxHeartbeats 8000000 in
set_option maxRecDepth 100000 in
theorem evtells_yes (t : Tr) (l : List Cel) (hg : GC t l) (w : World) (A : Option Addr) (ca : Nat) (LA : Option Addr) (lc : Nat) (hA : KV w (fun _ => True) t A) (hc : ListC w LA l) {B : Nat} (hSB : B ≤ w.heap.size) (hSt : Strs B B w) (hf : fitsB t = true) (hn : ¬ 300 < l.length) :
    Calls Tryz.prog 3 #[tv t A ca, .slice LA l.length lc] w fun e w' => e = .returned (.bool true) ∧ Below w.heap.size w w' := by
  have HK := Lib.hid (fun w' (hb : Below (w.heap.size + 1) (w.alloc (.cells #[.int .i64 t.kind, .int .i64 t.num, .int .i64 t.c1, .int .i64 t.r1, .int .i64 t.c2, .int .i64 t.r2, .string ⟨t.word.toArray⟩, .slice A t.kids.length ca] 29)) w') => show Below w.heap.size w w' from ((Below.refl _ _).alloc (Nat.le_refl _) _).trans (hb.mono (by omega)))
  have HB0 : Hid (Below (w.heap.size + 1) (w.alloc (.cells #[.int .i64 t.kind, .int .i64 t.num, .int .i64 t.c1, .int .i64 t.r1, .int .i64 t.c2, .int .i64 t.r2, .string ⟨t.word.toArray⟩, .slice A t.kids.length ca] 29)) (w.alloc (.cells #[.int .i64 t.kind, .int .i64 t.num, .int .i64 t.c1, .int .i64 t.r1, .int .i64 t.c2, .int .i64 t.r2, .string ⟨t.word.toArray⟩, .slice A t.kids.length ca] 29))) := Lib.hid (Below.refl _ _)
  have HL : Hid (∀ w', Below (w.heap.size + 1) (w.alloc (.cells #[.int .i64 t.kind, .int .i64 t.num, .int .i64 t.c1, .int .i64 t.r1, .int .i64 t.c2, .int .i64 t.r2, .string ⟨t.word.toArray⟩, .slice A t.kids.length ca] 29)) w' → w'.cell? ⟨w.heap.size, 0, none⟩ = some (.int .i64 t.kind) ∧ w'.cell? ⟨w.heap.size, 1, none⟩ = some (.int .i64 t.num) ∧ w'.cell? ⟨w.heap.size, 2, none⟩ = some (.int .i64 t.c1) ∧ w'.cell? ⟨w.heap.size, 3, none⟩ = some (.int .i64 t.r1) ∧ w'.cell? ⟨w.heap.size, 4, none⟩ = some (.int .i64 t.c2) ∧ w'.cell? ⟨w.heap.size, 5, none⟩ = some (.int .i64 t.r2) ∧ w'.cell? ⟨w.heap.size, 6, none⟩ = some (.string ⟨t.word.toArray⟩) ∧ w'.cell? ⟨w.heap.size, 7, none⟩ = some (.slice A t.kids.length ca)) := Lib.hid fun w' hb => by
    have hs := hb.size
    simp at hs
    refine ⟨?_, ?_, ?_, ?_, ?_, ?_, ?_, ?_⟩ <;> (rw [hb.cell (by simp)]; simp [go_sem])
  have HFi := Lib.hid (fun w' (hb : Below (w.heap.size + 1) (w.alloc (.cells #[.int .i64 t.kind, .int .i64 t.num, .int .i64 t.c1, .int .i64 t.r1, .int .i64 t.c2, .int .i64 t.r2, .string ⟨t.word.toArray⟩, .slice A t.kids.length ca] 29)) w') => lfits_any t hg.wid w' A ca (hA.kept (Kept.of_below (HK.out w' hb))))
  have HAl := Lib.hid (fun w' (hb : Below (w.heap.size + 1) (w.alloc (.cells #[.int .i64 t.kind, .int .i64 t.num, .int .i64 t.c1, .int .i64 t.r1, .int .i64 t.c2, .int .i64 t.r2, .string ⟨t.word.toArray⟩, .slice A t.kids.length ca] 29)) w') => ealive w' (B := B) (Nat.le_trans hSB (HK.out w' hb).size) (hSt.later hSB (HK.out w' hb)))
  have HE := Lib.hid (fun w' (hb : Below (w.heap.size + 1) (w.alloc (.cells #[.int .i64 t.kind, .int .i64 t.num, .int .i64 t.c1, .int .i64 t.r1, .int .i64 t.c2, .int .i64 t.r2, .string ⟨t.word.toArray⟩, .slice A t.kids.length ca] 29)) w') => eOf_any (by have := hn; unfold maxLen; omega) hg.num hg.plc t hg.wid hg.fit (fits_cnt hf) w' A ca LA lc (hA.kept (Kept.of_below (HK.out w' hb))) (hc.below (HK.out w' hb)) (B := B) (Nat.le_trans hSB (HK.out w' hb).size) (hSt.later hSB (HK.out w' hb)))
  have HR := Lib.hid (fun w' (hb : Below (w.heap.size + 1) (w.alloc (.cells #[.int .i64 t.kind, .int .i64 t.num, .int .i64 t.c1, .int .i64 t.r1, .int .i64 t.c2, .int .i64 t.r2, .string ⟨t.word.toArray⟩, .slice A t.kids.length ca] 29)) w') => rOf_any hg.len hg.num t hg.wid hg.fit (fits_cnt hf) (Nat.le_trans (fits_deep hf) (by decide)) w' A ca LA lc (hA.kept (Kept.of_below (HK.out w' hb))) (hc.below (HK.out w' hb)))
  have hlen := hg.wid.len
  unfold maxLen at hlen
  have hd : decide ((300 : Int) < (l.length : Int)) = false := decide_eq_false (by omega)
  rw [hf] at HFi
  unfold tv at *
  clear hA hc hSB hSt hg hf
  generalize (ofV l t).1 = X at *
  generalize (ofV l t).2 = Y at *
  have hG := fun P Q W => guard_value .eql P Q #[.int .i64 X, .int .i64 Y] #[.int .i64 X, .int .i64 Y] W
  have hE : ∀ W, (binOp .eql 35 (.agg #[.int .i64 X, .int .i64 Y]) (.agg #[.int .i64 X, .int .i64 Y])).run Tryz.prog W = .ok (.bool true) W := fun W => by rw [eql_value, beq_self_eq_true, beq_self_eq_true]; rfl
  go_enter Tryz.func3, Tryz.ntmps3
  go_wp2_with fail
  refine Calls.mono (HFi.out _ HB0.out) ?_; rintro e w1 ⟨rfl, b1⟩
  have HB1 := Lib.hid (HB0.out.trans (b1.mono (by simp)))
  have z1 : w.heap.size + 1 ≤ w1.heap.size := by have := HB1.out.size; simpa using this
  clear b1 hn
  go_wp2_with fail
  go_region_held3 (fun w' => w'.cell? ⟨w.heap.size, 0, none⟩ = some (.int .i64 t.kind) ∧ w'.cell? ⟨w.heap.size, 1, none⟩ = some (.int .i64 t.num) ∧ w'.cell? ⟨w.heap.size, 2, none⟩ = some (.int .i64 t.c1) ∧ w'.cell? ⟨w.heap.size, 3, none⟩ = some (.int .i64 t.r1) ∧ w'.cell? ⟨w.heap.size, 4, none⟩ = some (.int .i64 t.c2) ∧ w'.cell? ⟨w.heap.size, 5, none⟩ = some (.int .i64 t.r2) ∧ w'.cell? ⟨w.heap.size, 6, none⟩ = some (.string ⟨t.word.toArray⟩) ∧ w'.cell? ⟨w.heap.size, 7, none⟩ = some (.slice A t.kids.length ca))
    (with_reducible exact HL.out _ (by with_reducible repeat' (first | exact HB1.out | exact B2 | exact B3 | exact B4 | refine Below.drew ?_ | refine Below.alloc ?_ ?_ _ | refine le_al ?_)))
    (first
    | (have hB := B3; clear hB; go_at_call 8; refine Calls.mono (HR.out _ (by with_reducible repeat' (first | exact B3 | refine Below.drew ?_ | refine Below.alloc ?_ ?_ _ | refine le_al ?_))) ?_; rintro e w4 ⟨rfl, b4⟩
       have B4 := B3.trans (b4.mono Z3))
    | (have hB := B2; clear hB; go_at_call 7; refine Calls.mono (HE.out _ (by with_reducible repeat' (first | exact B2 | refine Below.drew ?_ | refine Below.alloc ?_ ?_ _ | refine le_al ?_))) ?_; rintro e w3 ⟨rfl, b3⟩
       have B3 := B2.trans (b3.mono Z2)
       have Z3 := Nat.le_trans Z2 b3.size)
    | (go_at_call 6; refine Calls.mono (HAl.out _ (by with_reducible repeat' (first | exact HB1.out | refine Below.drew ?_ | refine Below.alloc ?_ ?_ _ | refine le_al ?_))) ?_; rintro e w2 ⟨rfl, b2⟩
       have B2 := below_up2 HB1.out z1 b2
       have Z2 : w.heap.size + 1 ≤ w2.heap.size := Nat.le_trans z1 b2.size)
    | fail)
  all_goals
    go_wp2_with fail
    go_ret
    exact ⟨rfl, HK.out _ B4⟩
theorem evtells_any (t : Tr) (l : List Cel) (hg : GC t l) (w : World) (A : Option Addr) (ca : Nat) (LA : Option Addr) (lc : Nat) (hA : KV w (fun _ => True) t A) (hc : ListC w LA l) {B : Nat} (hSB : B ≤ w.heap.size) (hSt : Strs B B w) :
    Calls Tryz.prog 3 #[tv t A ca, .slice LA l.length lc] w fun e w' => e = .returned (.bool true) ∧ Below w.heap.size w w' := by
  by_cases hf : fitsB t = true
  · by_cases hn : 300 < l.length
    · exact evtells_no t l hg w A ca LA lc hA hc hSB hSt (.inr hn)
    · exact evtells_yes t l hg w A ca LA lc hA hc hSB hSt hf hn
  · exact evtells_no t l hg w A ca LA lc hA hc hSB hSt (.inl (by simpa using hf))
end Go.Proofs.YthaoalmhhgllmaaGreatDoor
