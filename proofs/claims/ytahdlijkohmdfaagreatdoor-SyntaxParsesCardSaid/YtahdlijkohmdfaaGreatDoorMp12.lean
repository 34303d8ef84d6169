/- Texts joined: RdD. -/
import Derived.Test.YtahdlijkohmdfaaGreatDoorMp10
import Derived.Test.YtahdlijkohmdfaaGreatDoorMp09
import Derived.Test.YtahdlijkohmdfaaGreatDoorMp11
set_option linter.all false
set_option linter.unusedVariables false
set_option linter.unusedSimpArgs false
namespace Go.Proofs.YtahdlijkohmdfaaGreatDoor
open Go.RowKit

set_option maxHeartbeats 2000000 in
set_option maxRecDepth 10000 in
theorem pcorners_none {w : World} {R g cap B : Nat} {L : List Tok} {E p : Nat} (hL : L.length ≤ 1000) (hc : cap ≤ maxLen) (hG : GoodXL L) (hr : RL w R g cap B L E p) (hm : isEnd L p = false) :
    Calls Tryz.prog 117 #[.pointer (some ⟨R, 0, none⟩)] w (PostP w R g cap B L E (.bad (whr L E p))) := by
  have hN := Lib.hid (fun w hr => pcorner_off (w := w) (R := R) (g := g) (cap := cap) (B := B) (L := L) (E := E) (p := p) hL hc hr hm)
  clear hm
  have HR := Lib.hid hr
  have lR := hr.lo.1
  have lB := hr.lo.2.2
  clear hr
  go_enter Tryz.func117, Tryz.ntmps117
  go_wp2_with fail
  refine (hN.out _ (by with_reducible repeat' (first | exact HR.out | refine RL.far ?_ (by omega) _ _ | refine RL.alloc ?_ _ | refine RL.drewN ?_ _ | refine RL.drew ?_))).mono ?_; rintro e w9 ⟨rfl, b9⟩
  exact ⟨rfl, rfl, But.trans (by (with_reducible repeat' (first | exact But.refl _ _ | refine zBr ?_ _ _ | refine zBs ?_ (by omega) _ _ | refine zBa ?_ _ | refine zBn ?_ _ | refine zBd ?_))) b9⟩
set_option maxHeartbeats 2000000 in
set_option maxRecDepth 10000 in
theorem pcorners_bad {w : World} {R g cap B : Nat} {L : List Tok} {E p : Nat} (hL : L.length ≤ 1000) (hc : cap ≤ maxLen) (hG : GoodXL L) (hr : RL w R g cap B L E p) (hm : isEnd L p = true) (hk : ((tokAt L E p).kind == 3) = true) (hcol : isMark L (p + 1) [58] = false) :
    Calls Tryz.prog 117 #[.pointer (some ⟨R, 0, none⟩)] w (PostP w R g cap B L E (.ok badT (p + 1))) := by
  have hN := Lib.hid (fun w hr => pcorner_on (w := w) (R := R) (g := g) (cap := cap) (B := B) (L := L) (E := E) (p := p) hL hc hr hm)
  have hT := Lib.hid (mark_text hG E (p + 1) (s := [58]) (by decide) (by decide))
  have hl := end_lt hm
  clear hm
  generalize tokAt L E p = a at *
  rw [hcol] at hT
  unfold tokV at *
  have HR := Lib.hid hr
  have lR := hr.lo.1
  have lB := hr.lo.2.2
  clear hr
  go_enter Tryz.func117, Tryz.ntmps117
  go_wp2_with fail
  refine (hN.out _ (by with_reducible repeat' (first | exact HR.out | refine RL.far ?_ (by omega) _ _ | refine RL.alloc ?_ _ | refine RL.drewN ?_ _ | refine RL.drew ?_))).mono ?_; rintro e w1 ⟨rfl, r1, b1⟩
  have HR1 : Hid (RL w1 R g cap B L E (p + 1)) := Lib.hid (r1)
  clear r1
  have h1 : But R w w1 := But.trans (by (with_reducible repeat' (first | exact But.refl _ _ | refine zBr ?_ _ _ | refine zBs ?_ (by omega) _ _ | refine zBa ?_ _ | refine zBn ?_ _ | refine zBd ?_))) b1
  have y1 : w.heap.size ≤ w1.heap.size := h1.size
  have zk1 : w.heap.size < w1.heap.size := by have := b1.size; first | omega | (simp at this; omega)
  have Hk1 : C8 w1 (w.heap.size) (.int .i64 0) (.int .i64 0) (.int .i64 0) (.int .i64 0) (.int .i64 0) (.int .i64 0) (.string ⟨#[]⟩) (.slice none 0 0) := by refine ⟨?_, ?_, ?_, ?_, ?_, ?_, ?_, ?_⟩ <;> exact b1.cell (show w.heap.size ≠ R by omega) (by simp [go_sem])
  obtain ⟨k10, k11, k12, k13, k14, k15, k16, k17⟩ := Hk1
  have Hkf1 : F8 w1 (w.heap.size) := by refine ⟨?_, ?_, ?_, ?_, ?_, ?_, ?_, ?_⟩ <;> exact b1.frozen (show w.heap.size ≠ R by omega) (by first | omega | (simp; done) | (simp; omega)) (by simp [go_sem])
  obtain ⟨kf10, kf11, kf12, kf13, kf14, kf15, kf16, kf17⟩ := Hkf1
  clear b1
  obtain ⟨t0, t4, t5⟩ := HR1.out.tok
  have hx := HR1.out.c
  have hle := HR1.out.le
  have hgl := HR1.out.lt
  have hrl := HR1.out.rlt
  have HT := hT.out
  generalize tokAt L E (p + 1) = c at *
  go_wp2_with fail
  exact bodyPost_ret (v := .agg #[.int .i64 (2), .int .i64 (0), .int .i64 (0), .int .i64 (0), .int .i64 (0), .int .i64 (0), .string ⟨#[]⟩, .slice none 0 0]) (by simp [results, Tryz.results117, go_sem, k10, k11, k12, k13, k14, k15, k16, k17, zk1]) rfl ⟨leaf8 (2) (0) (0) (0) (0) (0), rfl, tv_leaf _ _ _ _ _ _, (by with_reducible repeat' (first | exact HR1.out | refine RL.far ?_ (by omega) _ _ | refine RL.alloc ?_ _ | refine RL.drewN ?_ _ | refine RL.drew ?_)), by (with_reducible repeat' (first | exact h1 | refine zBr ?_ _ _ | refine zBs ?_ (by omega) _ _ | refine zBa ?_ _ | refine zBn ?_ _ | refine zBd ?_))⟩
set_option maxHeartbeats 2000000 in
set_option maxRecDepth 10000 in
theorem pcorners_miss {w : World} {R g cap B : Nat} {L : List Tok} {E p : Nat} (hL : L.length ≤ 1000) (hc : cap ≤ maxLen) (hG : GoodXL L) (hr : RL w R g cap B L E p) (hm : isEnd L p = true) (hk : ((tokAt L E p).kind == 3) = false) (hm2 : isMark L (p + 1) [58] = false) :
    Calls Tryz.prog 117 #[.pointer (some ⟨R, 0, none⟩)] w (PostP w R g cap B L E (.bad (whr L E (p + 1)))) := by
  have hN := Lib.hid (fun w hr => pcorner_on (w := w) (R := R) (g := g) (cap := cap) (B := B) (L := L) (E := E) (p := p) hL hc hr hm)
  have hT := Lib.hid (mark_text hG E (p + 1) (s := [58]) (by decide) (by decide))
  have hl := end_lt hm
  clear hm
  generalize tokAt L E p = a at *
  have hM := Lib.hid (fun w hr => pmust_off (w := w) (R := R) (g := g) (cap := cap) (B := B) (L := L) (E := E) (p := p + 1) hL hc hG ⟨#[58]⟩ (by decide) (by decide) hr hm2)
  clear hm2
  unfold tokV at *
  have HR := Lib.hid hr
  have lR := hr.lo.1
  have lB := hr.lo.2.2
  clear hr
  go_enter Tryz.func117, Tryz.ntmps117
  go_wp2_with fail
  refine (hN.out _ (by with_reducible repeat' (first | exact HR.out | refine RL.far ?_ (by omega) _ _ | refine RL.alloc ?_ _ | refine RL.drewN ?_ _ | refine RL.drew ?_))).mono ?_; rintro e w1 ⟨rfl, r1, b1⟩
  have HR1 : Hid (RL w1 R g cap B L E (p + 1)) := Lib.hid (r1)
  clear r1
  have h1 : But R w w1 := But.trans (by (with_reducible repeat' (first | exact But.refl _ _ | refine zBr ?_ _ _ | refine zBs ?_ (by omega) _ _ | refine zBa ?_ _ | refine zBn ?_ _ | refine zBd ?_))) b1
  have y1 : w.heap.size ≤ w1.heap.size := h1.size
  have zk1 : w.heap.size < w1.heap.size := by have := b1.size; first | omega | (simp at this; omega)
  have Hk1 : C8 w1 (w.heap.size) (.int .i64 0) (.int .i64 0) (.int .i64 0) (.int .i64 0) (.int .i64 0) (.int .i64 0) (.string ⟨#[]⟩) (.slice none 0 0) := by refine ⟨?_, ?_, ?_, ?_, ?_, ?_, ?_, ?_⟩ <;> exact b1.cell (show w.heap.size ≠ R by omega) (by simp [go_sem])
  obtain ⟨k10, k11, k12, k13, k14, k15, k16, k17⟩ := Hk1
  have Hkf1 : F8 w1 (w.heap.size) := by refine ⟨?_, ?_, ?_, ?_, ?_, ?_, ?_, ?_⟩ <;> exact b1.frozen (show w.heap.size ≠ R by omega) (by first | omega | (simp; done) | (simp; omega)) (by simp [go_sem])
  obtain ⟨kf10, kf11, kf12, kf13, kf14, kf15, kf16, kf17⟩ := Hkf1
  clear b1
  go_wp2_with fail
  refine (hM.out _ (by with_reducible repeat' (first | exact HR1.out | refine RL.far ?_ (by omega) _ _ | refine RL.alloc ?_ _ | refine RL.drewN ?_ _ | refine RL.drew ?_))).mono ?_; rintro e w9 ⟨rfl, b9⟩
  exact ⟨rfl, rfl, But.trans (by (with_reducible repeat' (first | exact h1 | refine zBr ?_ _ _ | refine zBs ?_ (by omega) _ _ | refine zBa ?_ _ | refine zBn ?_ _ | refine zBd ?_))) b9⟩
set_option maxHeartbeats 2000000 in
set_option maxRecDepth 10000 in
theorem pcorners_offt {w : World} {R g cap B : Nat} {L : List Tok} {E p : Nat} (hL : L.length ≤ 1000) (hc : cap ≤ maxLen) (hG : GoodXL L) (hr : RL w R g cap B L E p) (hm : isEnd L p = true) (hk : ((tokAt L E p).kind == 3) = true) (hm2 : isMark L (p + 1) [58] = true) (he : isEnd L (p + 2) = false) :
    Calls Tryz.prog 117 #[.pointer (some ⟨R, 0, none⟩)] w (PostP w R g cap B L E (.bad (whr L E (p + 2)))) := by
  have hN := Lib.hid (fun w hr => pcorner_on (w := w) (R := R) (g := g) (cap := cap) (B := B) (L := L) (E := E) (p := p) hL hc hr hm)
  have hT := Lib.hid (mark_text hG E (p + 1) (s := [58]) (by decide) (by decide))
  have hl := end_lt hm
  clear hm
  generalize tokAt L E p = a at *
  rw [hm2] at hT
  have hM := Lib.hid (fun w hr => pmust_on (w := w) (R := R) (g := g) (cap := cap) (B := B) (L := L) (E := E) (p := p + 1) hL hc hG ⟨#[58]⟩ (by decide) (by decide) hr hm2)
  clear hm2
  have hO := Lib.hid (fun w hr => pcorner_off (w := w) (R := R) (g := g) (cap := cap) (B := B) (L := L) (E := E) (p := p + 2) hL hc hr he)
  clear he
  unfold tokV at *
  have HR := Lib.hid hr
  have lR := hr.lo.1
  have lB := hr.lo.2.2
  clear hr
  go_enter Tryz.func117, Tryz.ntmps117
  go_wp2_with fail
  refine (hN.out _ (by with_reducible repeat' (first | exact HR.out | refine RL.far ?_ (by omega) _ _ | refine RL.alloc ?_ _ | refine RL.drewN ?_ _ | refine RL.drew ?_))).mono ?_; rintro e w1 ⟨rfl, r1, b1⟩
  have HR1 : Hid (RL w1 R g cap B L E (p + 1)) := Lib.hid (r1)
  clear r1
  have h1 : But R w w1 := But.trans (by (with_reducible repeat' (first | exact But.refl _ _ | refine zBr ?_ _ _ | refine zBs ?_ (by omega) _ _ | refine zBa ?_ _ | refine zBn ?_ _ | refine zBd ?_))) b1
  have y1 : w.heap.size ≤ w1.heap.size := h1.size
  have zk1 : w.heap.size < w1.heap.size := by have := b1.size; first | omega | (simp at this; omega)
  have Hk1 : C8 w1 (w.heap.size) (.int .i64 0) (.int .i64 0) (.int .i64 0) (.int .i64 0) (.int .i64 0) (.int .i64 0) (.string ⟨#[]⟩) (.slice none 0 0) := by refine ⟨?_, ?_, ?_, ?_, ?_, ?_, ?_, ?_⟩ <;> exact b1.cell (show w.heap.size ≠ R by omega) (by simp [go_sem])
  obtain ⟨k10, k11, k12, k13, k14, k15, k16, k17⟩ := Hk1
  have Hkf1 : F8 w1 (w.heap.size) := by refine ⟨?_, ?_, ?_, ?_, ?_, ?_, ?_, ?_⟩ <;> exact b1.frozen (show w.heap.size ≠ R by omega) (by first | omega | (simp; done) | (simp; omega)) (by simp [go_sem])
  obtain ⟨kf10, kf11, kf12, kf13, kf14, kf15, kf16, kf17⟩ := Hkf1
  clear b1
  obtain ⟨t0, t4, t5⟩ := HR1.out.tok
  have hx := HR1.out.c
  have hle := HR1.out.le
  have hgl := HR1.out.lt
  have hrl := HR1.out.rlt
  have HT := hT.out
  generalize tokAt L E (p + 1) = c at *
  go_wp2_with fail
  clear t0 t4 t5 hx hle hgl hrl
  refine (hM.out _ (by with_reducible repeat' (first | exact HR1.out | refine RL.far ?_ (by omega) _ _ | refine RL.alloc ?_ _ | refine RL.drewN ?_ _ | refine RL.drew ?_))).mono ?_; rintro e w2 ⟨rfl, r2, b2⟩
  have HR2 : Hid (RL w2 R g cap B L E (p + 2)) := Lib.hid (r2)
  clear r2
  have h2 : But R w w2 := But.trans (by (with_reducible repeat' (first | exact h1 | refine zBr ?_ _ _ | refine zBs ?_ (by omega) _ _ | refine zBa ?_ _ | refine zBn ?_ _ | refine zBd ?_))) b2
  have y2 : w.heap.size ≤ w2.heap.size := h2.size
  have zk2 : w.heap.size < w2.heap.size := by have := b2.size; first | omega | (simp at this; omega)
  have Hk2 := c8_lift (B := w.heap.size) (fun j v hv => b2.cell (show w.heap.size ≠ R by omega) (by with_reducible repeat' (first | exact hv | refine zCs ?_ (by omega) _ _ | refine zCa ?_ _ | refine zCn ?_ _ | refine zCd ?_))) k10 k11 k12 k13 k14 k15 k16 k17
  obtain ⟨k20, k21, k22, k23, k24, k25, k26, k27⟩ := Hk2
  have Hkf2 := f8_lift (B := w.heap.size) (fun j hv => b2.frozen (show w.heap.size ≠ R by omega) (by first | omega | (simp; done) | (simp; omega)) (by with_reducible repeat' (first | exact hv | refine zFs ?_ (by omega) _ _ | refine zFa ?_ (by first | omega | (simp; omega)) _ | refine zFn ?_ _ | refine zFd ?_))) kf10 kf11 kf12 kf13 kf14 kf15 kf16 kf17
  obtain ⟨kf20, kf21, kf22, kf23, kf24, kf25, kf26, kf27⟩ := Hkf2
  have za2 : w1.heap.size < w2.heap.size := by have := b2.size; first | omega | (simp at this; omega)
  have a20 : w2.cell? ⟨w1.heap.size, 0, none⟩ = some (.int .i64 a.kind) := b2.cell (show w1.heap.size ≠ R by omega) (by simp [go_sem])
  have a21 : w2.cell? ⟨w1.heap.size, 1, none⟩ = some (.int .i64 a.num) := b2.cell (show w1.heap.size ≠ R by omega) (by simp [go_sem])
  have a22 : w2.cell? ⟨w1.heap.size, 2, none⟩ = some (.int .i64 a.col) := b2.cell (show w1.heap.size ≠ R by omega) (by simp [go_sem])
  have a23 : w2.cell? ⟨w1.heap.size, 3, none⟩ = some (.int .i64 a.row) := b2.cell (show w1.heap.size ≠ R by omega) (by simp [go_sem])
  have a24 : w2.cell? ⟨w1.heap.size, 4, none⟩ = some (.string ⟨a.text.toArray⟩) := b2.cell (show w1.heap.size ≠ R by omega) (by simp [go_sem])
  have a25 : w2.cell? ⟨w1.heap.size, 5, none⟩ = some (.int .i64 (a.frm : Int)) := b2.cell (show w1.heap.size ≠ R by omega) (by simp [go_sem])
  clear b2 k10 k11 k12 k13 k14 k15 k16 k17 kf10 kf11 kf12 kf13 kf14 kf15 kf16 kf17 zk1
  go_wp2_with fail
  refine (hO.out _ (by with_reducible repeat' (first | exact HR2.out | refine RL.far ?_ (by omega) _ _ | refine RL.alloc ?_ _ | refine RL.drewN ?_ _ | refine RL.drew ?_))).mono ?_; rintro e w9 ⟨rfl, b9⟩
  exact ⟨rfl, rfl, But.trans (by (with_reducible repeat' (first | exact h2 | refine zBr ?_ _ _ | refine zBs ?_ (by omega) _ _ | refine zBa ?_ _ | refine zBn ?_ _ | refine zBd ?_))) b9⟩
set_option maxHeartbeats 2000000 in
set_option maxRecDepth 10000 in
theorem pcorners_offf {w : World} {R g cap B : Nat} {L : List Tok} {E p : Nat} (hL : L.length ≤ 1000) (hc : cap ≤ maxLen) (hG : GoodXL L) (hr : RL w R g cap B L E p) (hm : isEnd L p = true) (hk : ((tokAt L E p).kind == 3) = false) (hm2 : isMark L (p + 1) [58] = true) (he : isEnd L (p + 2) = false) :
    Calls Tryz.prog 117 #[.pointer (some ⟨R, 0, none⟩)] w (PostP w R g cap B L E (.bad (whr L E (p + 2)))) := by
  have hN := Lib.hid (fun w hr => pcorner_on (w := w) (R := R) (g := g) (cap := cap) (B := B) (L := L) (E := E) (p := p) hL hc hr hm)
  have hT := Lib.hid (mark_text hG E (p + 1) (s := [58]) (by decide) (by decide))
  have hl := end_lt hm
  clear hm
  generalize tokAt L E p = a at *
  rw [hm2] at hT
  have hM := Lib.hid (fun w hr => pmust_on (w := w) (R := R) (g := g) (cap := cap) (B := B) (L := L) (E := E) (p := p + 1) hL hc hG ⟨#[58]⟩ (by decide) (by decide) hr hm2)
  clear hm2
  have hO := Lib.hid (fun w hr => pcorner_off (w := w) (R := R) (g := g) (cap := cap) (B := B) (L := L) (E := E) (p := p + 2) hL hc hr he)
  clear he
  unfold tokV at *
  have HR := Lib.hid hr
  have lR := hr.lo.1
  have lB := hr.lo.2.2
  clear hr
  go_enter Tryz.func117, Tryz.ntmps117
  go_wp2_with fail
  refine (hN.out _ (by with_reducible repeat' (first | exact HR.out | refine RL.far ?_ (by omega) _ _ | refine RL.alloc ?_ _ | refine RL.drewN ?_ _ | refine RL.drew ?_))).mono ?_; rintro e w1 ⟨rfl, r1, b1⟩
  have HR1 : Hid (RL w1 R g cap B L E (p + 1)) := Lib.hid (r1)
  clear r1
  have h1 : But R w w1 := But.trans (by (with_reducible repeat' (first | exact But.refl _ _ | refine zBr ?_ _ _ | refine zBs ?_ (by omega) _ _ | refine zBa ?_ _ | refine zBn ?_ _ | refine zBd ?_))) b1
  have y1 : w.heap.size ≤ w1.heap.size := h1.size
  have zk1 : w.heap.size < w1.heap.size := by have := b1.size; first | omega | (simp at this; omega)
  have Hk1 : C8 w1 (w.heap.size) (.int .i64 0) (.int .i64 0) (.int .i64 0) (.int .i64 0) (.int .i64 0) (.int .i64 0) (.string ⟨#[]⟩) (.slice none 0 0) := by refine ⟨?_, ?_, ?_, ?_, ?_, ?_, ?_, ?_⟩ <;> exact b1.cell (show w.heap.size ≠ R by omega) (by simp [go_sem])
  obtain ⟨k10, k11, k12, k13, k14, k15, k16, k17⟩ := Hk1
  have Hkf1 : F8 w1 (w.heap.size) := by refine ⟨?_, ?_, ?_, ?_, ?_, ?_, ?_, ?_⟩ <;> exact b1.frozen (show w.heap.size ≠ R by omega) (by first | omega | (simp; done) | (simp; omega)) (by simp [go_sem])
  obtain ⟨kf10, kf11, kf12, kf13, kf14, kf15, kf16, kf17⟩ := Hkf1
  clear b1
  go_wp2_with fail
  refine (hM.out _ (by with_reducible repeat' (first | exact HR1.out | refine RL.far ?_ (by omega) _ _ | refine RL.alloc ?_ _ | refine RL.drewN ?_ _ | refine RL.drew ?_))).mono ?_; rintro e w2 ⟨rfl, r2, b2⟩
  have HR2 : Hid (RL w2 R g cap B L E (p + 2)) := Lib.hid (r2)
  clear r2
  have h2 : But R w w2 := But.trans (by (with_reducible repeat' (first | exact h1 | refine zBr ?_ _ _ | refine zBs ?_ (by omega) _ _ | refine zBa ?_ _ | refine zBn ?_ _ | refine zBd ?_))) b2
  have y2 : w.heap.size ≤ w2.heap.size := h2.size
  have zk2 : w.heap.size < w2.heap.size := by have := b2.size; first | omega | (simp at this; omega)
  have Hk2 := c8_lift (B := w.heap.size) (fun j v hv => b2.cell (show w.heap.size ≠ R by omega) (by with_reducible repeat' (first | exact hv | refine zCs ?_ (by omega) _ _ | refine zCa ?_ _ | refine zCn ?_ _ | refine zCd ?_))) k10 k11 k12 k13 k14 k15 k16 k17
  obtain ⟨k20, k21, k22, k23, k24, k25, k26, k27⟩ := Hk2
  have Hkf2 := f8_lift (B := w.heap.size) (fun j hv => b2.frozen (show w.heap.size ≠ R by omega) (by first | omega | (simp; done) | (simp; omega)) (by with_reducible repeat' (first | exact hv | refine zFs ?_ (by omega) _ _ | refine zFa ?_ (by first | omega | (simp; omega)) _ | refine zFn ?_ _ | refine zFd ?_))) kf10 kf11 kf12 kf13 kf14 kf15 kf16 kf17
  obtain ⟨kf20, kf21, kf22, kf23, kf24, kf25, kf26, kf27⟩ := Hkf2
  have za2 : w1.heap.size < w2.heap.size := by have := b2.size; first | omega | (simp at this; omega)
  have a20 : w2.cell? ⟨w1.heap.size, 0, none⟩ = some (.int .i64 a.kind) := b2.cell (show w1.heap.size ≠ R by omega) (by simp [go_sem])
  have a21 : w2.cell? ⟨w1.heap.size, 1, none⟩ = some (.int .i64 a.num) := b2.cell (show w1.heap.size ≠ R by omega) (by simp [go_sem])
  have a22 : w2.cell? ⟨w1.heap.size, 2, none⟩ = some (.int .i64 a.col) := b2.cell (show w1.heap.size ≠ R by omega) (by simp [go_sem])
  have a23 : w2.cell? ⟨w1.heap.size, 3, none⟩ = some (.int .i64 a.row) := b2.cell (show w1.heap.size ≠ R by omega) (by simp [go_sem])
  have a24 : w2.cell? ⟨w1.heap.size, 4, none⟩ = some (.string ⟨a.text.toArray⟩) := b2.cell (show w1.heap.size ≠ R by omega) (by simp [go_sem])
  have a25 : w2.cell? ⟨w1.heap.size, 5, none⟩ = some (.int .i64 (a.frm : Int)) := b2.cell (show w1.heap.size ≠ R by omega) (by simp [go_sem])
  clear b2 k10 k11 k12 k13 k14 k15 k16 k17 kf10 kf11 kf12 kf13 kf14 kf15 kf16 kf17 zk1
  go_wp2_with fail
  refine (hO.out _ (by with_reducible repeat' (first | exact HR2.out | refine RL.far ?_ (by omega) _ _ | refine RL.alloc ?_ _ | refine RL.drewN ?_ _ | refine RL.drew ?_))).mono ?_; rintro e w9 ⟨rfl, b9⟩
  exact ⟨rfl, rfl, But.trans (by (with_reducible repeat' (first | exact h2 | refine zBr ?_ _ _ | refine zBs ?_ (by omega) _ _ | refine zBa ?_ _ | refine zBn ?_ _ | refine zBd ?_))) b9⟩
set_option maxHeartbeats 2000000 in
set_option maxRecDepth 10000 in
theorem pcorners_bada {w : World} {R g cap B : Nat} {L : List Tok} {E p : Nat} (hL : L.length ≤ 1000) (hc : cap ≤ maxLen) (hG : GoodXL L) (hr : RL w R g cap B L E p) (hm : isEnd L p = true) (hk : ((tokAt L E p).kind == 3) = true) (hm2 : isMark L (p + 1) [58] = true) (he : isEnd L (p + 2) = true)  :
    Calls Tryz.prog 117 #[.pointer (some ⟨R, 0, none⟩)] w (PostP w R g cap B L E (.ok badT (p + 3))) := by
  have hN := Lib.hid (fun w hr => pcorner_on (w := w) (R := R) (g := g) (cap := cap) (B := B) (L := L) (E := E) (p := p) hL hc hr hm)
  have hT := Lib.hid (mark_text hG E (p + 1) (s := [58]) (by decide) (by decide))
  have hl := end_lt hm
  clear hm
  generalize tokAt L E p = a at *
  rw [hm2] at hT
  have hM := Lib.hid (fun w hr => pmust_on (w := w) (R := R) (g := g) (cap := cap) (B := B) (L := L) (E := E) (p := p + 1) hL hc hG ⟨#[58]⟩ (by decide) (by decide) hr hm2)
  clear hm2
  have hO := Lib.hid (fun w hr => pcorner_on (w := w) (R := R) (g := g) (cap := cap) (B := B) (L := L) (E := E) (p := p + 2) hL hc hr he)
  have hl2 := end_lt he
  clear he
  generalize tokAt L E (p + 2) = b at *
  unfold tokV at hO
  unfold tokV at *
  have HR := Lib.hid hr
  have lR := hr.lo.1
  have lB := hr.lo.2.2
  clear hr
  go_enter Tryz.func117, Tryz.ntmps117
  go_wp2_with fail
  refine (hN.out _ (by with_reducible repeat' (first | exact HR.out | refine RL.far ?_ (by omega) _ _ | refine RL.alloc ?_ _ | refine RL.drewN ?_ _ | refine RL.drew ?_))).mono ?_; rintro e w1 ⟨rfl, r1, b1⟩
  have HR1 : Hid (RL w1 R g cap B L E (p + 1)) := Lib.hid (r1)
  clear r1
  have h1 : But R w w1 := But.trans (by (with_reducible repeat' (first | exact But.refl _ _ | refine zBr ?_ _ _ | refine zBs ?_ (by omega) _ _ | refine zBa ?_ _ | refine zBn ?_ _ | refine zBd ?_))) b1
  have y1 : w.heap.size ≤ w1.heap.size := h1.size
  have zk1 : w.heap.size < w1.heap.size := by have := b1.size; first | omega | (simp at this; omega)
  have Hk1 : C8 w1 (w.heap.size) (.int .i64 0) (.int .i64 0) (.int .i64 0) (.int .i64 0) (.int .i64 0) (.int .i64 0) (.string ⟨#[]⟩) (.slice none 0 0) := by refine ⟨?_, ?_, ?_, ?_, ?_, ?_, ?_, ?_⟩ <;> exact b1.cell (show w.heap.size ≠ R by omega) (by simp [go_sem])
  obtain ⟨k10, k11, k12, k13, k14, k15, k16, k17⟩ := Hk1
  have Hkf1 : F8 w1 (w.heap.size) := by refine ⟨?_, ?_, ?_, ?_, ?_, ?_, ?_, ?_⟩ <;> exact b1.frozen (show w.heap.size ≠ R by omega) (by first | omega | (simp; done) | (simp; omega)) (by simp [go_sem])
  obtain ⟨kf10, kf11, kf12, kf13, kf14, kf15, kf16, kf17⟩ := Hkf1
  clear b1
  obtain ⟨t0, t4, t5⟩ := HR1.out.tok
  have hx := HR1.out.c
  have hle := HR1.out.le
  have hgl := HR1.out.lt
  have hrl := HR1.out.rlt
  have HT := hT.out
  generalize tokAt L E (p + 1) = c at *
  go_wp2_with fail
  clear t0 t4 t5 hx hle hgl hrl
  refine (hM.out _ (by with_reducible repeat' (first | exact HR1.out | refine RL.far ?_ (by omega) _ _ | refine RL.alloc ?_ _ | refine RL.drewN ?_ _ | refine RL.drew ?_))).mono ?_; rintro e w2 ⟨rfl, r2, b2⟩
  have HR2 : Hid (RL w2 R g cap B L E (p + 2)) := Lib.hid (r2)
  clear r2
  have h2 : But R w w2 := But.trans (by (with_reducible repeat' (first | exact h1 | refine zBr ?_ _ _ | refine zBs ?_ (by omega) _ _ | refine zBa ?_ _ | refine zBn ?_ _ | refine zBd ?_))) b2
  have y2 : w.heap.size ≤ w2.heap.size := h2.size
  have zk2 : w.heap.size < w2.heap.size := by have := b2.size; first | omega | (simp at this; omega)
  have Hk2 := c8_lift (B := w.heap.size) (fun j v hv => b2.cell (show w.heap.size ≠ R by omega) (by with_reducible repeat' (first | exact hv | refine zCs ?_ (by omega) _ _ | refine zCa ?_ _ | refine zCn ?_ _ | refine zCd ?_))) k10 k11 k12 k13 k14 k15 k16 k17
  obtain ⟨k20, k21, k22, k23, k24, k25, k26, k27⟩ := Hk2
  have Hkf2 := f8_lift (B := w.heap.size) (fun j hv => b2.frozen (show w.heap.size ≠ R by omega) (by first | omega | (simp; done) | (simp; omega)) (by with_reducible repeat' (first | exact hv | refine zFs ?_ (by omega) _ _ | refine zFa ?_ (by first | omega | (simp; omega)) _ | refine zFn ?_ _ | refine zFd ?_))) kf10 kf11 kf12 kf13 kf14 kf15 kf16 kf17
  obtain ⟨kf20, kf21, kf22, kf23, kf24, kf25, kf26, kf27⟩ := Hkf2
  have za2 : w1.heap.size < w2.heap.size := by have := b2.size; first | omega | (simp at this; omega)
  have a20 : w2.cell? ⟨w1.heap.size, 0, none⟩ = some (.int .i64 a.kind) := b2.cell (show w1.heap.size ≠ R by omega) (by simp [go_sem])
  have a21 : w2.cell? ⟨w1.heap.size, 1, none⟩ = some (.int .i64 a.num) := b2.cell (show w1.heap.size ≠ R by omega) (by simp [go_sem])
  have a22 : w2.cell? ⟨w1.heap.size, 2, none⟩ = some (.int .i64 a.col) := b2.cell (show w1.heap.size ≠ R by omega) (by simp [go_sem])
  have a23 : w2.cell? ⟨w1.heap.size, 3, none⟩ = some (.int .i64 a.row) := b2.cell (show w1.heap.size ≠ R by omega) (by simp [go_sem])
  have a24 : w2.cell? ⟨w1.heap.size, 4, none⟩ = some (.string ⟨a.text.toArray⟩) := b2.cell (show w1.heap.size ≠ R by omega) (by simp [go_sem])
  have a25 : w2.cell? ⟨w1.heap.size, 5, none⟩ = some (.int .i64 (a.frm : Int)) := b2.cell (show w1.heap.size ≠ R by omega) (by simp [go_sem])
  clear b2 k10 k11 k12 k13 k14 k15 k16 k17 kf10 kf11 kf12 kf13 kf14 kf15 kf16 kf17 zk1
  go_wp2_with fail
  refine (hO.out _ (by with_reducible repeat' (first | exact HR2.out | refine RL.far ?_ (by omega) _ _ | refine RL.alloc ?_ _ | refine RL.drewN ?_ _ | refine RL.drew ?_))).mono ?_; rintro e w3 ⟨rfl, r3, b3⟩
  have HR3 : Hid (RL w3 R g cap B L E (p + 3)) := Lib.hid (r3)
  clear r3
  have h3 : But R w w3 := But.trans (by (with_reducible repeat' (first | exact h2 | refine zBr ?_ _ _ | refine zBs ?_ (by omega) _ _ | refine zBa ?_ _ | refine zBn ?_ _ | refine zBd ?_))) b3
  have y3 : w.heap.size ≤ w3.heap.size := h3.size
  have zk3 : w.heap.size < w3.heap.size := by have := b3.size; first | omega | (simp at this; omega)
  have Hk3 := c8_lift (B := w.heap.size) (fun j v hv => b3.cell (show w.heap.size ≠ R by omega) (by with_reducible repeat' (first | exact hv | refine zCs ?_ (by omega) _ _ | refine zCa ?_ _ | refine zCn ?_ _ | refine zCd ?_))) k20 k21 k22 k23 k24 k25 k26 k27
  obtain ⟨k30, k31, k32, k33, k34, k35, k36, k37⟩ := Hk3
  have Hkf3 := f8_lift (B := w.heap.size) (fun j hv => b3.frozen (show w.heap.size ≠ R by omega) (by first | omega | (simp; done) | (simp; omega)) (by with_reducible repeat' (first | exact hv | refine zFs ?_ (by omega) _ _ | refine zFa ?_ (by first | omega | (simp; omega)) _ | refine zFn ?_ _ | refine zFd ?_))) kf20 kf21 kf22 kf23 kf24 kf25 kf26 kf27
  obtain ⟨kf30, kf31, kf32, kf33, kf34, kf35, kf36, kf37⟩ := Hkf3
  have za3 : w1.heap.size < w3.heap.size := by have := b3.size; first | omega | (simp at this; omega)
  have a30 : w3.cell? ⟨w1.heap.size, 0, none⟩ = some (.int .i64 a.kind) := b3.cell (show w1.heap.size ≠ R by omega) (by with_reducible repeat' (first | exact a20 | refine zCs ?_ (by omega) _ _ | refine zCa ?_ _ | refine zCn ?_ _ | refine zCd ?_))
  have a31 : w3.cell? ⟨w1.heap.size, 1, none⟩ = some (.int .i64 a.num) := b3.cell (show w1.heap.size ≠ R by omega) (by with_reducible repeat' (first | exact a21 | refine zCs ?_ (by omega) _ _ | refine zCa ?_ _ | refine zCn ?_ _ | refine zCd ?_))
  have a32 : w3.cell? ⟨w1.heap.size, 2, none⟩ = some (.int .i64 a.col) := b3.cell (show w1.heap.size ≠ R by omega) (by with_reducible repeat' (first | exact a22 | refine zCs ?_ (by omega) _ _ | refine zCa ?_ _ | refine zCn ?_ _ | refine zCd ?_))
  have a33 : w3.cell? ⟨w1.heap.size, 3, none⟩ = some (.int .i64 a.row) := b3.cell (show w1.heap.size ≠ R by omega) (by with_reducible repeat' (first | exact a23 | refine zCs ?_ (by omega) _ _ | refine zCa ?_ _ | refine zCn ?_ _ | refine zCd ?_))
  have a34 : w3.cell? ⟨w1.heap.size, 4, none⟩ = some (.string ⟨a.text.toArray⟩) := b3.cell (show w1.heap.size ≠ R by omega) (by with_reducible repeat' (first | exact a24 | refine zCs ?_ (by omega) _ _ | refine zCa ?_ _ | refine zCn ?_ _ | refine zCd ?_))
  have a35 : w3.cell? ⟨w1.heap.size, 5, none⟩ = some (.int .i64 (a.frm : Int)) := b3.cell (show w1.heap.size ≠ R by omega) (by with_reducible repeat' (first | exact a25 | refine zCs ?_ (by omega) _ _ | refine zCa ?_ _ | refine zCn ?_ _ | refine zCd ?_))
  clear b3 k20 k21 k22 k23 k24 k25 k26 k27 kf20 kf21 kf22 kf23 kf24 kf25 kf26 kf27 zk2 a20 a21 a22 a23 a24 a25 za2
  go_wp2_with fail
  exact bodyPost_ret (v := .agg #[.int .i64 (2), .int .i64 (0), .int .i64 (0), .int .i64 (0), .int .i64 (0), .int .i64 (0), .string ⟨#[]⟩, .slice none 0 0]) (by simp [results, Tryz.results117, go_sem, k30, k31, k32, k33, k34, k35, k36, k37, a30, a31, a32, a33, a34, a35, zk3, za3]) rfl ⟨leaf8 (2) (0) (0) (0) (0) (0), rfl, tv_leaf _ _ _ _ _ _, (by with_reducible repeat' (first | exact HR3.out | refine RL.far ?_ (by omega) _ _ | refine RL.alloc ?_ _ | refine RL.drewN ?_ _ | refine RL.drew ?_)), by (with_reducible repeat' (first | exact h3 | refine zBr ?_ _ _ | refine zBs ?_ (by omega) _ _ | refine zBa ?_ _ | refine zBn ?_ _ | refine zBd ?_))⟩
set_option maxHeartbeats 2000000 in
set_option maxRecDepth 10000 in
theorem pcorners_badb {w : World} {R g cap B : Nat} {L : List Tok} {E p : Nat} (hL : L.length ≤ 1000) (hc : cap ≤ maxLen) (hG : GoodXL L) (hr : RL w R g cap B L E p) (hm : isEnd L p = true) (hk : ((tokAt L E p).kind == 3) = false) (hm2 : isMark L (p + 1) [58] = true) (he : isEnd L (p + 2) = true) (hk2 : ((tokAt L E (p + 2)).kind == 3) = true) :
    Calls Tryz.prog 117 #[.pointer (some ⟨R, 0, none⟩)] w (PostP w R g cap B L E (.ok badT (p + 3))) := by
  have hN := Lib.hid (fun w hr => pcorner_on (w := w) (R := R) (g := g) (cap := cap) (B := B) (L := L) (E := E) (p := p) hL hc hr hm)
  have hT := Lib.hid (mark_text hG E (p + 1) (s := [58]) (by decide) (by decide))
  have hl := end_lt hm
  clear hm
  generalize tokAt L E p = a at *
  rw [hm2] at hT
  have hM := Lib.hid (fun w hr => pmust_on (w := w) (R := R) (g := g) (cap := cap) (B := B) (L := L) (E := E) (p := p + 1) hL hc hG ⟨#[58]⟩ (by decide) (by decide) hr hm2)
  clear hm2
  have hO := Lib.hid (fun w hr => pcorner_on (w := w) (R := R) (g := g) (cap := cap) (B := B) (L := L) (E := E) (p := p + 2) hL hc hr he)
  have hl2 := end_lt he
  clear he
  generalize tokAt L E (p + 2) = b at *
  unfold tokV at hO
  unfold tokV at *
  have HR := Lib.hid hr
  have lR := hr.lo.1
  have lB := hr.lo.2.2
  clear hr
  go_enter Tryz.func117, Tryz.ntmps117
  go_wp2_with fail
  refine (hN.out _ (by with_reducible repeat' (first | exact HR.out | refine RL.far ?_ (by omega) _ _ | refine RL.alloc ?_ _ | refine RL.drewN ?_ _ | refine RL.drew ?_))).mono ?_; rintro e w1 ⟨rfl, r1, b1⟩
  have HR1 : Hid (RL w1 R g cap B L E (p + 1)) := Lib.hid (r1)
  clear r1
  have h1 : But R w w1 := But.trans (by (with_reducible repeat' (first | exact But.refl _ _ | refine zBr ?_ _ _ | refine zBs ?_ (by omega) _ _ | refine zBa ?_ _ | refine zBn ?_ _ | refine zBd ?_))) b1
  have y1 : w.heap.size ≤ w1.heap.size := h1.size
  have zk1 : w.heap.size < w1.heap.size := by have := b1.size; first | omega | (simp at this; omega)
  have Hk1 : C8 w1 (w.heap.size) (.int .i64 0) (.int .i64 0) (.int .i64 0) (.int .i64 0) (.int .i64 0) (.int .i64 0) (.string ⟨#[]⟩) (.slice none 0 0) := by refine ⟨?_, ?_, ?_, ?_, ?_, ?_, ?_, ?_⟩ <;> exact b1.cell (show w.heap.size ≠ R by omega) (by simp [go_sem])
  obtain ⟨k10, k11, k12, k13, k14, k15, k16, k17⟩ := Hk1
  have Hkf1 : F8 w1 (w.heap.size) := by refine ⟨?_, ?_, ?_, ?_, ?_, ?_, ?_, ?_⟩ <;> exact b1.frozen (show w.heap.size ≠ R by omega) (by first | omega | (simp; done) | (simp; omega)) (by simp [go_sem])
  obtain ⟨kf10, kf11, kf12, kf13, kf14, kf15, kf16, kf17⟩ := Hkf1
  clear b1
  go_wp2_with fail
  refine (hM.out _ (by with_reducible repeat' (first | exact HR1.out | refine RL.far ?_ (by omega) _ _ | refine RL.alloc ?_ _ | refine RL.drewN ?_ _ | refine RL.drew ?_))).mono ?_; rintro e w2 ⟨rfl, r2, b2⟩
  have HR2 : Hid (RL w2 R g cap B L E (p + 2)) := Lib.hid (r2)
  clear r2
  have h2 : But R w w2 := But.trans (by (with_reducible repeat' (first | exact h1 | refine zBr ?_ _ _ | refine zBs ?_ (by omega) _ _ | refine zBa ?_ _ | refine zBn ?_ _ | refine zBd ?_))) b2
  have y2 : w.heap.size ≤ w2.heap.size := h2.size
  have zk2 : w.heap.size < w2.heap.size := by have := b2.size; first | omega | (simp at this; omega)
  have Hk2 := c8_lift (B := w.heap.size) (fun j v hv => b2.cell (show w.heap.size ≠ R by omega) (by with_reducible repeat' (first | exact hv | refine zCs ?_ (by omega) _ _ | refine zCa ?_ _ | refine zCn ?_ _ | refine zCd ?_))) k10 k11 k12 k13 k14 k15 k16 k17
  obtain ⟨k20, k21, k22, k23, k24, k25, k26, k27⟩ := Hk2
  have Hkf2 := f8_lift (B := w.heap.size) (fun j hv => b2.frozen (show w.heap.size ≠ R by omega) (by first | omega | (simp; done) | (simp; omega)) (by with_reducible repeat' (first | exact hv | refine zFs ?_ (by omega) _ _ | refine zFa ?_ (by first | omega | (simp; omega)) _ | refine zFn ?_ _ | refine zFd ?_))) kf10 kf11 kf12 kf13 kf14 kf15 kf16 kf17
  obtain ⟨kf20, kf21, kf22, kf23, kf24, kf25, kf26, kf27⟩ := Hkf2
  have za2 : w1.heap.size < w2.heap.size := by have := b2.size; first | omega | (simp at this; omega)
  have a20 : w2.cell? ⟨w1.heap.size, 0, none⟩ = some (.int .i64 a.kind) := b2.cell (show w1.heap.size ≠ R by omega) (by simp [go_sem])
  have a21 : w2.cell? ⟨w1.heap.size, 1, none⟩ = some (.int .i64 a.num) := b2.cell (show w1.heap.size ≠ R by omega) (by simp [go_sem])
  have a22 : w2.cell? ⟨w1.heap.size, 2, none⟩ = some (.int .i64 a.col) := b2.cell (show w1.heap.size ≠ R by omega) (by simp [go_sem])
  have a23 : w2.cell? ⟨w1.heap.size, 3, none⟩ = some (.int .i64 a.row) := b2.cell (show w1.heap.size ≠ R by omega) (by simp [go_sem])
  have a24 : w2.cell? ⟨w1.heap.size, 4, none⟩ = some (.string ⟨a.text.toArray⟩) := b2.cell (show w1.heap.size ≠ R by omega) (by simp [go_sem])
  have a25 : w2.cell? ⟨w1.heap.size, 5, none⟩ = some (.int .i64 (a.frm : Int)) := b2.cell (show w1.heap.size ≠ R by omega) (by simp [go_sem])
  clear b2 k10 k11 k12 k13 k14 k15 k16 k17 kf10 kf11 kf12 kf13 kf14 kf15 kf16 kf17 zk1
  go_wp2_with fail
  refine (hO.out _ (by with_reducible repeat' (first | exact HR2.out | refine RL.far ?_ (by omega) _ _ | refine RL.alloc ?_ _ | refine RL.drewN ?_ _ | refine RL.drew ?_))).mono ?_; rintro e w3 ⟨rfl, r3, b3⟩
  have HR3 : Hid (RL w3 R g cap B L E (p + 3)) := Lib.hid (r3)
  clear r3
  have h3 : But R w w3 := But.trans (by (with_reducible repeat' (first | exact h2 | refine zBr ?_ _ _ | refine zBs ?_ (by omega) _ _ | refine zBa ?_ _ | refine zBn ?_ _ | refine zBd ?_))) b3
  have y3 : w.heap.size ≤ w3.heap.size := h3.size
  have zk3 : w.heap.size < w3.heap.size := by have := b3.size; first | omega | (simp at this; omega)
  have Hk3 := c8_lift (B := w.heap.size) (fun j v hv => b3.cell (show w.heap.size ≠ R by omega) (by with_reducible repeat' (first | exact hv | refine zCs ?_ (by omega) _ _ | refine zCa ?_ _ | refine zCn ?_ _ | refine zCd ?_))) k20 k21 k22 k23 k24 k25 k26 k27
  obtain ⟨k30, k31, k32, k33, k34, k35, k36, k37⟩ := Hk3
  have Hkf3 := f8_lift (B := w.heap.size) (fun j hv => b3.frozen (show w.heap.size ≠ R by omega) (by first | omega | (simp; done) | (simp; omega)) (by with_reducible repeat' (first | exact hv | refine zFs ?_ (by omega) _ _ | refine zFa ?_ (by first | omega | (simp; omega)) _ | refine zFn ?_ _ | refine zFd ?_))) kf20 kf21 kf22 kf23 kf24 kf25 kf26 kf27
  obtain ⟨kf30, kf31, kf32, kf33, kf34, kf35, kf36, kf37⟩ := Hkf3
  have za3 : w1.heap.size < w3.heap.size := by have := b3.size; first | omega | (simp at this; omega)
  have a30 : w3.cell? ⟨w1.heap.size, 0, none⟩ = some (.int .i64 a.kind) := b3.cell (show w1.heap.size ≠ R by omega) (by with_reducible repeat' (first | exact a20 | refine zCs ?_ (by omega) _ _ | refine zCa ?_ _ | refine zCn ?_ _ | refine zCd ?_))
  have a31 : w3.cell? ⟨w1.heap.size, 1, none⟩ = some (.int .i64 a.num) := b3.cell (show w1.heap.size ≠ R by omega) (by with_reducible repeat' (first | exact a21 | refine zCs ?_ (by omega) _ _ | refine zCa ?_ _ | refine zCn ?_ _ | refine zCd ?_))
  have a32 : w3.cell? ⟨w1.heap.size, 2, none⟩ = some (.int .i64 a.col) := b3.cell (show w1.heap.size ≠ R by omega) (by with_reducible repeat' (first | exact a22 | refine zCs ?_ (by omega) _ _ | refine zCa ?_ _ | refine zCn ?_ _ | refine zCd ?_))
  have a33 : w3.cell? ⟨w1.heap.size, 3, none⟩ = some (.int .i64 a.row) := b3.cell (show w1.heap.size ≠ R by omega) (by with_reducible repeat' (first | exact a23 | refine zCs ?_ (by omega) _ _ | refine zCa ?_ _ | refine zCn ?_ _ | refine zCd ?_))
  have a34 : w3.cell? ⟨w1.heap.size, 4, none⟩ = some (.string ⟨a.text.toArray⟩) := b3.cell (show w1.heap.size ≠ R by omega) (by with_reducible repeat' (first | exact a24 | refine zCs ?_ (by omega) _ _ | refine zCa ?_ _ | refine zCn ?_ _ | refine zCd ?_))
  have a35 : w3.cell? ⟨w1.heap.size, 5, none⟩ = some (.int .i64 (a.frm : Int)) := b3.cell (show w1.heap.size ≠ R by omega) (by with_reducible repeat' (first | exact a25 | refine zCs ?_ (by omega) _ _ | refine zCa ?_ _ | refine zCn ?_ _ | refine zCd ?_))
  clear b3 k20 k21 k22 k23 k24 k25 k26 k27 kf20 kf21 kf22 kf23 kf24 kf25 kf26 kf27 zk2 a20 a21 a22 a23 a24 a25 za2
  go_wp2_with fail
  exact bodyPost_ret (v := .agg #[.int .i64 (2), .int .i64 (0), .int .i64 (0), .int .i64 (0), .int .i64 (0), .int .i64 (0), .string ⟨#[]⟩, .slice none 0 0]) (by simp [results, Tryz.results117, go_sem, k30, k31, k32, k33, k34, k35, k36, k37, a30, a31, a32, a33, a34, a35, zk3, za3]) rfl ⟨leaf8 (2) (0) (0) (0) (0) (0), rfl, tv_leaf _ _ _ _ _ _, (by with_reducible repeat' (first | exact HR3.out | refine RL.far ?_ (by omega) _ _ | refine RL.alloc ?_ _ | refine RL.drewN ?_ _ | refine RL.drew ?_)), by (with_reducible repeat' (first | exact h3 | refine zBr ?_ _ _ | refine zBs ?_ (by omega) _ _ | refine zBa ?_ _ | refine zBn ?_ _ | refine zBd ?_))⟩
set_option maxHeartbeats 2000000 in
set_option maxRecDepth 10000 in
theorem pcorners_span {w : World} {R g cap B : Nat} {L : List Tok} {E p : Nat} (hL : L.length ≤ 1000) (hc : cap ≤ maxLen) (hG : GoodXL L) (hr : RL w R g cap B L E p) (hm : isEnd L p = true) (hk : ((tokAt L E p).kind == 3) = false) (hm2 : isMark L (p + 1) [58] = true) (he : isEnd L (p + 2) = true) (hk2 : ((tokAt L E (p + 2)).kind == 3) = false) (ra : rightB (tokAt L E p).col (tokAt L E p).row = true) (rb : rightB (tokAt L E (p + 2)).col (tokAt L E (p + 2)).row = true) :
    Calls Tryz.prog 117 #[.pointer (some ⟨R, 0, none⟩)] w (PostP w R g cap B L E (.ok (spanT (min (tokAt L E p).col (tokAt L E (p + 2)).col) (min (tokAt L E p).row (tokAt L E (p + 2)).row) (max (tokAt L E p).col (tokAt L E (p + 2)).col) (max (tokAt L E p).row (tokAt L E (p + 2)).row)) (p + 3))) := by
  have hN := Lib.hid (fun w hr => pcorner_on (w := w) (R := R) (g := g) (cap := cap) (B := B) (L := L) (E := E) (p := p) hL hc hr hm)
  have hT := Lib.hid (mark_text hG E (p + 1) (s := [58]) (by decide) (by decide))
  have hl := end_lt hm
  clear hm
  generalize tokAt L E p = a at *
  rw [hm2] at hT
  have hM := Lib.hid (fun w hr => pmust_on (w := w) (R := R) (g := g) (cap := cap) (B := B) (L := L) (E := E) (p := p + 1) hL hc hG ⟨#[58]⟩ (by decide) (by decide) hr hm2)
  clear hm2
  have hO := Lib.hid (fun w hr => pcorner_on (w := w) (R := R) (g := g) (cap := cap) (B := B) (L := L) (E := E) (p := p + 2) hL hc hr he)
  have hl2 := end_lt he
  clear he
  generalize tokAt L E (p + 2) = b at *
  unfold tokV at hO
  have HS := Lib.hid (fun w => pspan_yes a.col a.row b.col b.row w ra rb)
  clear ra rb
  unfold tokV at *
  have HR := Lib.hid hr
  have lR := hr.lo.1
  have lB := hr.lo.2.2
  clear hr
  go_enter Tryz.func117, Tryz.ntmps117
  go_wp2_with fail
  refine (hN.out _ (by with_reducible repeat' (first | exact HR.out | refine RL.far ?_ (by omega) _ _ | refine RL.alloc ?_ _ | refine RL.drewN ?_ _ | refine RL.drew ?_))).mono ?_; rintro e w1 ⟨rfl, r1, b1⟩
  have HR1 : Hid (RL w1 R g cap B L E (p + 1)) := Lib.hid (r1)
  clear r1
  have h1 : But R w w1 := But.trans (by (with_reducible repeat' (first | exact But.refl _ _ | refine zBr ?_ _ _ | refine zBs ?_ (by omega) _ _ | refine zBa ?_ _ | refine zBn ?_ _ | refine zBd ?_))) b1
  have y1 : w.heap.size ≤ w1.heap.size := h1.size
  have zk1 : w.heap.size < w1.heap.size := by have := b1.size; first | omega | (simp at this; omega)
  have Hk1 : C8 w1 (w.heap.size) (.int .i64 0) (.int .i64 0) (.int .i64 0) (.int .i64 0) (.int .i64 0) (.int .i64 0) (.string ⟨#[]⟩) (.slice none 0 0) := by refine ⟨?_, ?_, ?_, ?_, ?_, ?_, ?_, ?_⟩ <;> exact b1.cell (show w.heap.size ≠ R by omega) (by simp [go_sem])
  obtain ⟨k10, k11, k12, k13, k14, k15, k16, k17⟩ := Hk1
  have Hkf1 : F8 w1 (w.heap.size) := by refine ⟨?_, ?_, ?_, ?_, ?_, ?_, ?_, ?_⟩ <;> exact b1.frozen (show w.heap.size ≠ R by omega) (by first | omega | (simp; done) | (simp; omega)) (by simp [go_sem])
  obtain ⟨kf10, kf11, kf12, kf13, kf14, kf15, kf16, kf17⟩ := Hkf1
  clear b1
  go_wp2_with fail
  refine (hM.out _ (by with_reducible repeat' (first | exact HR1.out | refine RL.far ?_ (by omega) _ _ | refine RL.alloc ?_ _ | refine RL.drewN ?_ _ | refine RL.drew ?_))).mono ?_; rintro e w2 ⟨rfl, r2, b2⟩
  have HR2 : Hid (RL w2 R g cap B L E (p + 2)) := Lib.hid (r2)
  clear r2
  have h2 : But R w w2 := But.trans (by (with_reducible repeat' (first | exact h1 | refine zBr ?_ _ _ | refine zBs ?_ (by omega) _ _ | refine zBa ?_ _ | refine zBn ?_ _ | refine zBd ?_))) b2
  have y2 : w.heap.size ≤ w2.heap.size := h2.size
  have zk2 : w.heap.size < w2.heap.size := by have := b2.size; first | omega | (simp at this; omega)
  have Hk2 := c8_lift (B := w.heap.size) (fun j v hv => b2.cell (show w.heap.size ≠ R by omega) (by with_reducible repeat' (first | exact hv | refine zCs ?_ (by omega) _ _ | refine zCa ?_ _ | refine zCn ?_ _ | refine zCd ?_))) k10 k11 k12 k13 k14 k15 k16 k17
  obtain ⟨k20, k21, k22, k23, k24, k25, k26, k27⟩ := Hk2
  have Hkf2 := f8_lift (B := w.heap.size) (fun j hv => b2.frozen (show w.heap.size ≠ R by omega) (by first | omega | (simp; done) | (simp; omega)) (by with_reducible repeat' (first | exact hv | refine zFs ?_ (by omega) _ _ | refine zFa ?_ (by first | omega | (simp; omega)) _ | refine zFn ?_ _ | refine zFd ?_))) kf10 kf11 kf12 kf13 kf14 kf15 kf16 kf17
  obtain ⟨kf20, kf21, kf22, kf23, kf24, kf25, kf26, kf27⟩ := Hkf2
  have za2 : w1.heap.size < w2.heap.size := by have := b2.size; first | omega | (simp at this; omega)
  have a20 : w2.cell? ⟨w1.heap.size, 0, none⟩ = some (.int .i64 a.kind) := b2.cell (show w1.heap.size ≠ R by omega) (by simp [go_sem])
  have a21 : w2.cell? ⟨w1.heap.size, 1, none⟩ = some (.int .i64 a.num) := b2.cell (show w1.heap.size ≠ R by omega) (by simp [go_sem])
  have a22 : w2.cell? ⟨w1.heap.size, 2, none⟩ = some (.int .i64 a.col) := b2.cell (show w1.heap.size ≠ R by omega) (by simp [go_sem])
  have a23 : w2.cell? ⟨w1.heap.size, 3, none⟩ = some (.int .i64 a.row) := b2.cell (show w1.heap.size ≠ R by omega) (by simp [go_sem])
  have a24 : w2.cell? ⟨w1.heap.size, 4, none⟩ = some (.string ⟨a.text.toArray⟩) := b2.cell (show w1.heap.size ≠ R by omega) (by simp [go_sem])
  have a25 : w2.cell? ⟨w1.heap.size, 5, none⟩ = some (.int .i64 (a.frm : Int)) := b2.cell (show w1.heap.size ≠ R by omega) (by simp [go_sem])
  clear b2 k10 k11 k12 k13 k14 k15 k16 k17 kf10 kf11 kf12 kf13 kf14 kf15 kf16 kf17 zk1
  go_wp2_with fail
  refine (hO.out _ (by with_reducible repeat' (first | exact HR2.out | refine RL.far ?_ (by omega) _ _ | refine RL.alloc ?_ _ | refine RL.drewN ?_ _ | refine RL.drew ?_))).mono ?_; rintro e w3 ⟨rfl, r3, b3⟩
  have HR3 : Hid (RL w3 R g cap B L E (p + 3)) := Lib.hid (r3)
  clear r3
  have h3 : But R w w3 := But.trans (by (with_reducible repeat' (first | exact h2 | refine zBr ?_ _ _ | refine zBs ?_ (by omega) _ _ | refine zBa ?_ _ | refine zBn ?_ _ | refine zBd ?_))) b3
  have y3 : w.heap.size ≤ w3.heap.size := h3.size
  have zk3 : w.heap.size < w3.heap.size := by have := b3.size; first | omega | (simp at this; omega)
  have Hk3 := c8_lift (B := w.heap.size) (fun j v hv => b3.cell (show w.heap.size ≠ R by omega) (by with_reducible repeat' (first | exact hv | refine zCs ?_ (by omega) _ _ | refine zCa ?_ _ | refine zCn ?_ _ | refine zCd ?_))) k20 k21 k22 k23 k24 k25 k26 k27
  obtain ⟨k30, k31, k32, k33, k34, k35, k36, k37⟩ := Hk3
  have Hkf3 := f8_lift (B := w.heap.size) (fun j hv => b3.frozen (show w.heap.size ≠ R by omega) (by first | omega | (simp; done) | (simp; omega)) (by with_reducible repeat' (first | exact hv | refine zFs ?_ (by omega) _ _ | refine zFa ?_ (by first | omega | (simp; omega)) _ | refine zFn ?_ _ | refine zFd ?_))) kf20 kf21 kf22 kf23 kf24 kf25 kf26 kf27
  obtain ⟨kf30, kf31, kf32, kf33, kf34, kf35, kf36, kf37⟩ := Hkf3
  have za3 : w1.heap.size < w3.heap.size := by have := b3.size; first | omega | (simp at this; omega)
  have a30 : w3.cell? ⟨w1.heap.size, 0, none⟩ = some (.int .i64 a.kind) := b3.cell (show w1.heap.size ≠ R by omega) (by with_reducible repeat' (first | exact a20 | refine zCs ?_ (by omega) _ _ | refine zCa ?_ _ | refine zCn ?_ _ | refine zCd ?_))
  have a31 : w3.cell? ⟨w1.heap.size, 1, none⟩ = some (.int .i64 a.num) := b3.cell (show w1.heap.size ≠ R by omega) (by with_reducible repeat' (first | exact a21 | refine zCs ?_ (by omega) _ _ | refine zCa ?_ _ | refine zCn ?_ _ | refine zCd ?_))
  have a32 : w3.cell? ⟨w1.heap.size, 2, none⟩ = some (.int .i64 a.col) := b3.cell (show w1.heap.size ≠ R by omega) (by with_reducible repeat' (first | exact a22 | refine zCs ?_ (by omega) _ _ | refine zCa ?_ _ | refine zCn ?_ _ | refine zCd ?_))
  have a33 : w3.cell? ⟨w1.heap.size, 3, none⟩ = some (.int .i64 a.row) := b3.cell (show w1.heap.size ≠ R by omega) (by with_reducible repeat' (first | exact a23 | refine zCs ?_ (by omega) _ _ | refine zCa ?_ _ | refine zCn ?_ _ | refine zCd ?_))
  have a34 : w3.cell? ⟨w1.heap.size, 4, none⟩ = some (.string ⟨a.text.toArray⟩) := b3.cell (show w1.heap.size ≠ R by omega) (by with_reducible repeat' (first | exact a24 | refine zCs ?_ (by omega) _ _ | refine zCa ?_ _ | refine zCn ?_ _ | refine zCd ?_))
  have a35 : w3.cell? ⟨w1.heap.size, 5, none⟩ = some (.int .i64 (a.frm : Int)) := b3.cell (show w1.heap.size ≠ R by omega) (by with_reducible repeat' (first | exact a25 | refine zCs ?_ (by omega) _ _ | refine zCa ?_ _ | refine zCn ?_ _ | refine zCd ?_))
  clear b3 k20 k21 k22 k23 k24 k25 k26 k27 kf20 kf21 kf22 kf23 kf24 kf25 kf26 kf27 zk2 a20 a21 a22 a23 a24 a25 za2
  go_wp2_with fail
  refine ((HS.out _)).mono ?_; rintro e w4 ⟨rfl, b4⟩
  have h4 : But R w w4 := But.trans (by (with_reducible repeat' (first | exact h3 | refine zBr ?_ _ _ | refine zBs ?_ (by omega) _ _ | refine zBa ?_ _ | refine zBn ?_ _ | refine zBd ?_))) (But.of_below b4)
  have y4 : w.heap.size ≤ w4.heap.size := h4.size
  have zk4 : w.heap.size < w4.heap.size := by have := b4.size; first | omega | (simp at this; omega)
  have Hk4 := c8_lift (B := w.heap.size) (fun j v hv => (But.of_below b4).cell (show w.heap.size ≠ R by omega) (by with_reducible repeat' (first | exact hv | refine zCs ?_ (by omega) _ _ | refine zCa ?_ _ | refine zCn ?_ _ | refine zCd ?_))) k30 k31 k32 k33 k34 k35 k36 k37
  obtain ⟨k40, k41, k42, k43, k44, k45, k46, k47⟩ := Hk4
  have Hkf4 := f8_lift (B := w.heap.size) (fun j hv => (But.of_below b4).frozen (show w.heap.size ≠ R by omega) (by first | omega | (simp; done) | (simp; omega)) (by with_reducible repeat' (first | exact hv | refine zFs ?_ (by omega) _ _ | refine zFa ?_ (by first | omega | (simp; omega)) _ | refine zFn ?_ _ | refine zFd ?_))) kf30 kf31 kf32 kf33 kf34 kf35 kf36 kf37
  obtain ⟨kf40, kf41, kf42, kf43, kf44, kf45, kf46, kf47⟩ := Hkf4
  have za4 : w1.heap.size < w4.heap.size := by have := b4.size; first | omega | (simp at this; omega)
  have a40 : w4.cell? ⟨w1.heap.size, 0, none⟩ = some (.int .i64 a.kind) := (But.of_below b4).cell (show w1.heap.size ≠ R by omega) (by with_reducible repeat' (first | exact a30 | refine zCs ?_ (by omega) _ _ | refine zCa ?_ _ | refine zCn ?_ _ | refine zCd ?_))
  have a41 : w4.cell? ⟨w1.heap.size, 1, none⟩ = some (.int .i64 a.num) := (But.of_below b4).cell (show w1.heap.size ≠ R by omega) (by with_reducible repeat' (first | exact a31 | refine zCs ?_ (by omega) _ _ | refine zCa ?_ _ | refine zCn ?_ _ | refine zCd ?_))
  have a42 : w4.cell? ⟨w1.heap.size, 2, none⟩ = some (.int .i64 a.col) := (But.of_below b4).cell (show w1.heap.size ≠ R by omega) (by with_reducible repeat' (first | exact a32 | refine zCs ?_ (by omega) _ _ | refine zCa ?_ _ | refine zCn ?_ _ | refine zCd ?_))
  have a43 : w4.cell? ⟨w1.heap.size, 3, none⟩ = some (.int .i64 a.row) := (But.of_below b4).cell (show w1.heap.size ≠ R by omega) (by with_reducible repeat' (first | exact a33 | refine zCs ?_ (by omega) _ _ | refine zCa ?_ _ | refine zCn ?_ _ | refine zCd ?_))
  have a44 : w4.cell? ⟨w1.heap.size, 4, none⟩ = some (.string ⟨a.text.toArray⟩) := (But.of_below b4).cell (show w1.heap.size ≠ R by omega) (by with_reducible repeat' (first | exact a34 | refine zCs ?_ (by omega) _ _ | refine zCa ?_ _ | refine zCn ?_ _ | refine zCd ?_))
  have a45 : w4.cell? ⟨w1.heap.size, 5, none⟩ = some (.int .i64 (a.frm : Int)) := (But.of_below b4).cell (show w1.heap.size ≠ R by omega) (by with_reducible repeat' (first | exact a35 | refine zCs ?_ (by omega) _ _ | refine zCa ?_ _ | refine zCn ?_ _ | refine zCd ?_))
  have zc4 : w3.heap.size < w4.heap.size := by have := b4.size; first | omega | (simp at this; omega)
  have c40 : w4.cell? ⟨w3.heap.size, 0, none⟩ = some (.int .i64 b.kind) := (But.of_below b4).cell (show w3.heap.size ≠ R by omega) (by simp [go_sem])
  have c41 : w4.cell? ⟨w3.heap.size, 1, none⟩ = some (.int .i64 b.num) := (But.of_below b4).cell (show w3.heap.size ≠ R by omega) (by simp [go_sem])
  have c42 : w4.cell? ⟨w3.heap.size, 2, none⟩ = some (.int .i64 b.col) := (But.of_below b4).cell (show w3.heap.size ≠ R by omega) (by simp [go_sem])
  have c43 : w4.cell? ⟨w3.heap.size, 3, none⟩ = some (.int .i64 b.row) := (But.of_below b4).cell (show w3.heap.size ≠ R by omega) (by simp [go_sem])
  have c44 : w4.cell? ⟨w3.heap.size, 4, none⟩ = some (.string ⟨b.text.toArray⟩) := (But.of_below b4).cell (show w3.heap.size ≠ R by omega) (by simp [go_sem])
  have c45 : w4.cell? ⟨w3.heap.size, 5, none⟩ = some (.int .i64 (b.frm : Int)) := (But.of_below b4).cell (show w3.heap.size ≠ R by omega) (by simp [go_sem])
  have HR4 : Hid (RL w4 R g cap B L E (p + 3)) := Lib.hid (RL.below (by with_reducible repeat' (first | exact HR3.out | refine RL.far ?_ (by omega) _ _ | refine RL.alloc ?_ _ | refine RL.drewN ?_ _ | refine RL.drew ?_)) b4)
  clear b4 k30 k31 k32 k33 k34 k35 k36 k37 kf30 kf31 kf32 kf33 kf34 kf35 kf36 kf37 zk3 a30 a31 a32 a33 a34 a35 za3
  go_wp2_with fail
  exact bodyPost_ret (v := .agg #[.int .i64 (6), .int .i64 (0), .int .i64 ((min a.col b.col)), .int .i64 ((min a.row b.row)), .int .i64 ((max a.col b.col)), .int .i64 ((max a.row b.row)), .string ⟨#[]⟩, .slice none 0 0]) (by simp [results, Tryz.results117, go_sem, k40, k41, k42, k43, k44, k45, k46, k47, a40, a41, a42, a43, a44, a45, c40, c41, c42, c43, c44, c45, zk4, za4, zc4]) rfl ⟨leaf8 (6) (0) ((min a.col b.col)) ((min a.row b.row)) ((max a.col b.col)) ((max a.row b.row)), rfl, tv_leaf _ _ _ _ _ _, (by with_reducible repeat' (first | exact HR4.out | refine RL.far ?_ (by omega) _ _ | refine RL.alloc ?_ _ | refine RL.drewN ?_ _ | refine RL.drew ?_)), by (with_reducible repeat' (first | exact h4 | refine zBr ?_ _ _ | refine zBs ?_ (by omega) _ _ | refine zBa ?_ _ | refine zBn ?_ _ | refine zBd ?_))⟩
end Go.Proofs.YtahdlijkohmdfaaGreatDoor
