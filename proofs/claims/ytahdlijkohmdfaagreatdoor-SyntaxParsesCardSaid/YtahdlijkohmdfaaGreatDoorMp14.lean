/- Texts joined: RdF. -/
import Derived.Test.YtahdlijkohmdfaaGreatDoorMp13
set_option linter.all false
set_option linter.unusedVariables false
set_option linter.unusedSimpArgs false
namespace Go.Proofs.YtahdlijkohmdfaaGreatDoor
open Go.RowKit

def Foll2 (r1 : Res) (f : Tr → Nat → Option Res) (res : Res) : Prop := match r1 with
  | .ok t q => f t q = some res
  | .bad z => res = .bad z
theorem next_some {a : Option Res} {f : Tr → Nat → Option Res} {res : Res} (h : Res.next a f = some res) : ∃ r1, a = some r1 ∧ Foll2 r1 f res := by
  cases a with
  | none => cases h
  | some r =>
    cases r with
    | ok t q => exact ⟨_, rfl, h⟩
    | bad z => exact ⟨_, rfl, (Option.some.inj h).symm⟩
def callF (L : List Tok) (E k : Nat) (w : List UInt8) (p : Nat) : Option Res := mustF L E p [40] fun q =>
  if w = [73, 70] then Res.next (lineF L E k 1 q) fun a q => mustF L E q [44] fun q => Res.next (lineF L E k 1 q) fun b q => mustF L E q [44] fun q => Res.next (lineF L E k 1 q) fun c q => mustF L E q [41] fun q => some (.ok (callT [73, 70] [a, b, c]) q)
  else itemsF L E k w [] q
set_option maxHeartbeats 2000000 in
set_option maxRecDepth 10000 in
theorem pprefix_false {w : World} {R g cap B : Nat} {L : List Tok} {E p : Nat} (hL : L.length ≤ 1000) (hc : cap ≤ maxLen) (hG : GoodXL L) (hr : RL w R g cap B L E p) (hm : isMark L p [45] = false) {f : Nat → Option Res} {res : Res} (hP : TreeP R g cap B L E 85 #[.pointer (some ⟨R, 0, none⟩)] f) (hf : f p = some res) :
    Calls Tryz.prog 61 #[.pointer (some ⟨R, 0, none⟩)] w (PostP w R g cap B L E res) := by
  have hT := Lib.hid (fun w hr => ptakes_any (w := w) (R := R) (g := g) (cap := cap) (B := B) (L := L) (E := E) (p := p) hL hc hG ⟨#[45]⟩ (by decide) (by decide) hr)
  have HP := Lib.hid hP
  have HF := Lib.hid hf
  have HM := Lib.hid hm
  clear hP hf hm
  have HR := Lib.hid hr
  have lR := hr.lo.1
  have lB := hr.lo.2.2
  clear hr
  go_enter Tryz.func61, Tryz.ntmps61
  go_wp2_with fail
  refine (hT.out _ (by with_reducible repeat' (first | exact HR.out | refine RL.far ?_ (by omega) _ _ | refine RL.alloc ?_ _ | refine RL.drewN ?_ _ | refine RL.drew ?_))).mono ?_; rintro e w1 ⟨rfl, r1, b1⟩
  have HR1 : Hid (RL w1 R g cap B L E p) := Lib.hid (by have h := r1; rw [show isMark L p [45] = false from HM.out] at h; exact h)
  clear r1
  have h1 : But R w w1 := But.trans (by (with_reducible repeat' (first | exact But.refl _ _ | refine zBr ?_ _ _ | refine zBs ?_ (by omega) _ _ | refine zBa ?_ _ | refine zBn ?_ _ | refine zBd ?_))) b1
  have y1 : w.heap.size ≤ w1.heap.size := h1.size
  have zk1 : w.heap.size < w1.heap.size := by have := b1.size; first | omega | (simp at this; omega)
  have Hk1 : C8 w1 (w.heap.size) (.int .i64 0) (.int .i64 0) (.int .i64 0) (.int .i64 0) (.int .i64 0) (.int .i64 0) (.string ⟨#[]⟩) (.slice none 0 0) := by refine ⟨?_, ?_, ?_, ?_, ?_, ?_, ?_, ?_⟩ <;> exact b1.cell (show w.heap.size ≠ R by omega) (by simp [go_sem])
  obtain ⟨k10, k11, k12, k13, k14, k15, k16, k17⟩ := Hk1
  have Hkf1 : F8 w1 (w.heap.size) := by refine ⟨?_, ?_, ?_, ?_, ?_, ?_, ?_, ?_⟩ <;> exact b1.frozen (show w.heap.size ≠ R by omega) (by first | omega | (simp; done) | (simp; omega)) (by simp [go_sem])
  obtain ⟨kf10, kf11, kf12, kf13, kf14, kf15, kf16, kf17⟩ := Hkf1
  clear b1
  have e1 : isMark L p [45] = false := HM.out
  go_wp2_with fail
  refine (HP.out _ p res (by with_reducible repeat' (first | exact HR1.out | refine RL.far ?_ (by omega) _ _ | refine RL.alloc ?_ _ | refine RL.drewN ?_ _ | refine RL.drew ?_)) HF.out).mono ?_; rintro e w2 H2
  cases res with
  | bad z =>
    obtain ⟨rfl, b2⟩ := H2
    exact ⟨rfl, rfl, But.trans (by (with_reducible repeat' (first | exact h1 | refine zBr ?_ _ _ | refine zBs ?_ (by omega) _ _ | refine zBa ?_ _ | refine zBn ?_ _ | refine zBd ?_))) b2⟩
  | ok t q =>
    obtain ⟨⟨x0, x1, x2, x3, x4, x5, xw, xA, xl, xc⟩, rfl, v2, r2, b2⟩ := H2
    have HR2 : Hid (RL w2 R g cap B L E q) := Lib.hid r2
    clear r2
    have HVx2 : Hid (TV w2 (fun b => w.heap.size < b) ⟨x0, x1, x2, x3, x4, x5, xw, xA, xl, xc⟩ (some t)) := Lib.hid (v2.imp fun b hb => by have hb2 : _ ≤ b := hb; first | omega | (simp at hb2; omega))
    clear v2
    have h2 : But R w w2 := But.trans (by (with_reducible repeat' (first | exact h1 | refine zBr ?_ _ _ | refine zBs ?_ (by omega) _ _ | refine zBa ?_ _ | refine zBn ?_ _ | refine zBd ?_))) b2
    have y2 : w.heap.size ≤ w2.heap.size := h2.size
    have zk2 : w.heap.size < w2.heap.size := by have := b2.size; first | omega | (simp at this; omega)
    have Hk2 := c8_lift (B := w.heap.size) (fun j v hv => b2.cell (show w.heap.size ≠ R by omega) (by with_reducible repeat' (first | exact hv | refine zCs ?_ (by omega) _ _ | refine zCa ?_ _ | refine zCn ?_ _ | refine zCd ?_))) k10 k11 k12 k13 k14 k15 k16 k17
    obtain ⟨k20, k21, k22, k23, k24, k25, k26, k27⟩ := Hk2
    have Hkf2 := f8_lift (B := w.heap.size) (fun j hv => b2.frozen (show w.heap.size ≠ R by omega) (by first | omega | (simp; done) | (simp; omega)) (by with_reducible repeat' (first | exact hv | refine zFs ?_ (by omega) _ _ | refine zFa ?_ (by first | omega | (simp; omega)) _ | refine zFn ?_ _ | refine zFd ?_))) kf10 kf11 kf12 kf13 kf14 kf15 kf16 kf17
    obtain ⟨kf20, kf21, kf22, kf23, kf24, kf25, kf26, kf27⟩ := Hkf2
    clear b2 k10 k11 k12 k13 k14 k15 k16 k17 kf10 kf11 kf12 kf13 kf14 kf15 kf16 kf17 zk1
    dsimp only [V8.val]
    go_wp2_with fail
    exact bodyPost_ret (v := .agg #[.int .i64 x0, .int .i64 x1, .int .i64 x2, .int .i64 x3, .int .i64 x4, .int .i64 x5, .string xw, .slice xA xl xc]) (by simp [results, Tryz.results61, go_sem, k20, k21, k22, k23, k24, k25, k26, k27, zk2]) rfl ⟨⟨x0, x1, x2, x3, x4, x5, xw, xA, xl, xc⟩, rfl, ((HVx2.out.kept (by (with_reducible repeat' (first | exact Kept.refl _ _ | refine Kept.set1 ?_ (by omega) _ _ | refine Kept.setNew ?_ (by omega) _ _ | refine Kept.alloc ?_ _ | refine Kept.drewN ?_ _ | refine Kept.drew ?_)))).imp fun b (hb : w.heap.size < b) => Nat.le_of_lt hb), (by with_reducible repeat' (first | exact HR2.out | refine RL.far ?_ (by omega) _ _ | refine RL.alloc ?_ _ | refine RL.drewN ?_ _ | refine RL.drew ?_)), by (with_reducible repeat' (first | exact h2 | refine zBr ?_ _ _ | refine zBs ?_ (by omega) _ _ | refine zBa ?_ _ | refine zBn ?_ _ | refine zBd ?_))⟩
set_option maxHeartbeats 2000000 in
set_option maxRecDepth 10000 in
theorem pprefix_true {w : World} {R g cap B : Nat} {L : List Tok} {E p : Nat} (hL : L.length ≤ 1000) (hc : cap ≤ maxLen) (hG : GoodXL L) (hr : RL w R g cap B L E p) (hm : isMark L p [45] = true) {f : Nat → Option Res} {res : Res} (hP : TreeP R g cap B L E 61 #[.pointer (some ⟨R, 0, none⟩)] f) (hf : Res.next (f (p + 1)) (fun t q => some (.ok (negT t) q)) = some res) :
    Calls Tryz.prog 61 #[.pointer (some ⟨R, 0, none⟩)] w (PostP w R g cap B L E res) := by
  have hT := Lib.hid (fun w hr => ptakes_any (w := w) (R := R) (g := g) (cap := cap) (B := B) (L := L) (E := E) (p := p) hL hc hG ⟨#[45]⟩ (by decide) (by decide) hr)
  have HP := Lib.hid hP
  obtain ⟨r1, hf1, hf2⟩ := next_some hf
  have HF := Lib.hid hf1
  have HK := Lib.hid hf2
  clear hf1 hf2
  have HM := Lib.hid hm
  clear hP hf hm
  have HR := Lib.hid hr
  have lR := hr.lo.1
  have lB := hr.lo.2.2
  clear hr
  go_enter Tryz.func61, Tryz.ntmps61
  go_wp2_with fail
  refine (hT.out _ (by with_reducible repeat' (first | exact HR.out | refine RL.far ?_ (by omega) _ _ | refine RL.alloc ?_ _ | refine RL.drewN ?_ _ | refine RL.drew ?_))).mono ?_; rintro e w1 ⟨rfl, r1, b1⟩
  have HR1 : Hid (RL w1 R g cap B L E (p + 1)) := Lib.hid (by have h := r1; rw [show isMark L p [45] = true from HM.out] at h; exact h)
  clear r1
  have h1 : But R w w1 := But.trans (by (with_reducible repeat' (first | exact But.refl _ _ | refine zBr ?_ _ _ | refine zBs ?_ (by omega) _ _ | refine zBa ?_ _ | refine zBn ?_ _ | refine zBd ?_))) b1
  have y1 : w.heap.size ≤ w1.heap.size := h1.size
  have zk1 : w.heap.size < w1.heap.size := by have := b1.size; first | omega | (simp at this; omega)
  have Hk1 : C8 w1 (w.heap.size) (.int .i64 0) (.int .i64 0) (.int .i64 0) (.int .i64 0) (.int .i64 0) (.int .i64 0) (.string ⟨#[]⟩) (.slice none 0 0) := by refine ⟨?_, ?_, ?_, ?_, ?_, ?_, ?_, ?_⟩ <;> exact b1.cell (show w.heap.size ≠ R by omega) (by simp [go_sem])
  obtain ⟨k10, k11, k12, k13, k14, k15, k16, k17⟩ := Hk1
  have Hkf1 : F8 w1 (w.heap.size) := by refine ⟨?_, ?_, ?_, ?_, ?_, ?_, ?_, ?_⟩ <;> exact b1.frozen (show w.heap.size ≠ R by omega) (by first | omega | (simp; done) | (simp; omega)) (by simp [go_sem])
  obtain ⟨kf10, kf11, kf12, kf13, kf14, kf15, kf16, kf17⟩ := Hkf1
  clear b1
  have e1 : isMark L p [45] = true := HM.out
  go_wp2_with fail
  refine (HP.out _ (p + 1) r1 (by with_reducible repeat' (first | exact HR1.out | refine RL.far ?_ (by omega) _ _ | refine RL.alloc ?_ _ | refine RL.drewN ?_ _ | refine RL.drew ?_)) HF.out).mono ?_; rintro e w2 H2
  cases r1 with
  | bad z =>
    obtain ⟨rfl, b2⟩ := H2
    have hk : res = .bad z := HK.out
    subst hk
    exact ⟨rfl, rfl, But.trans (by (with_reducible repeat' (first | exact h1 | refine zBr ?_ _ _ | refine zBs ?_ (by omega) _ _ | refine zBa ?_ _ | refine zBn ?_ _ | refine zBd ?_))) b2⟩
  | ok t q =>
    obtain ⟨⟨x0, x1, x2, x3, x4, x5, xw, xA, xl, xc⟩, rfl, v2, r2, b2⟩ := H2
    have HR2 : Hid (RL w2 R g cap B L E q) := Lib.hid r2
    clear r2
    have HVx2 : Hid (TV w2 (fun b => w.heap.size < b) ⟨x0, x1, x2, x3, x4, x5, xw, xA, xl, xc⟩ (some t)) := Lib.hid (v2.imp fun b hb => by have hb2 : _ ≤ b := hb; first | omega | (simp at hb2; omega))
    clear v2
    have h2 : But R w w2 := But.trans (by (with_reducible repeat' (first | exact h1 | refine zBr ?_ _ _ | refine zBs ?_ (by omega) _ _ | refine zBa ?_ _ | refine zBn ?_ _ | refine zBd ?_))) b2
    have y2 : w.heap.size ≤ w2.heap.size := h2.size
    have zk2 : w.heap.size < w2.heap.size := by have := b2.size; first | omega | (simp at this; omega)
    have Hk2 := c8_lift (B := w.heap.size) (fun j v hv => b2.cell (show w.heap.size ≠ R by omega) (by with_reducible repeat' (first | exact hv | refine zCs ?_ (by omega) _ _ | refine zCa ?_ _ | refine zCn ?_ _ | refine zCd ?_))) k10 k11 k12 k13 k14 k15 k16 k17
    obtain ⟨k20, k21, k22, k23, k24, k25, k26, k27⟩ := Hk2
    have Hkf2 := f8_lift (B := w.heap.size) (fun j hv => b2.frozen (show w.heap.size ≠ R by omega) (by first | omega | (simp; done) | (simp; omega)) (by with_reducible repeat' (first | exact hv | refine zFs ?_ (by omega) _ _ | refine zFa ?_ (by first | omega | (simp; omega)) _ | refine zFn ?_ _ | refine zFd ?_))) kf10 kf11 kf12 kf13 kf14 kf15 kf16 kf17
    obtain ⟨kf20, kf21, kf22, kf23, kf24, kf25, kf26, kf27⟩ := Hkf2
    clear b2 k10 k11 k12 k13 k14 k15 k16 k17 kf10 kf11 kf12 kf13 kf14 kf15 kf16 kf17 zk1
    dsimp only [V8.val]
    go_wp2_with fail
    have hk : res = .ok (negT t) q := (Option.some.inj HK.out).symm
    subst hk
    exact bodyPost_ret (v := .agg #[.int .i64 3, .int .i64 0, .int .i64 0, .int .i64 0, .int .i64 0, .int .i64 0, .string ⟨#[]⟩, .slice (some ⟨w2.heap.size, 0, none⟩) 1 1]) (by simp [results, Tryz.results61, go_sem, k20, k21, k22, k23, k24, k25, k26, k27, zk2]) rfl ⟨⟨3, 0, 0, 0, 0, 0, ⟨#[]⟩, some ⟨w2.heap.size, 0, none⟩, 1, 1⟩, rfl, (TV.imp (TV.node1 3 [] ⟨x0, x1, x2, x3, x4, x5, xw, xA, xl, xc⟩ (some t) (show w.heap.size < w2.heap.size by omega) (by first | (simp; done) | (simp; omega)) ⟨by simp [go_sem], by simp [go_sem], by simp [go_sem], by simp [go_sem], by simp [go_sem], by simp [go_sem], by simp [go_sem], by simp [go_sem]⟩ (HVx2.out.kept (by (with_reducible repeat' (first | exact Kept.refl _ _ | refine Kept.set1 ?_ (by omega) _ _ | refine Kept.setNew ?_ (by omega) _ _ | refine Kept.alloc ?_ _ | refine Kept.drewN ?_ _ | refine Kept.drew ?_))))) fun b (hb : w.heap.size < b) => Nat.le_of_lt hb), (by with_reducible repeat' (first | exact HR2.out | refine RL.far ?_ (by omega) _ _ | refine RL.alloc ?_ _ | refine RL.drewN ?_ _ | refine RL.drew ?_)), by (with_reducible repeat' (first | exact h2 | refine zBr ?_ _ _ | refine zBs ?_ (by omega) _ _ | refine zBa ?_ _ | refine zBn ?_ _ | refine zBd ?_))⟩
set_option maxHeartbeats 2000000 in
set_option maxRecDepth 10000 in
theorem poperand_num {w : World} {R g cap B : Nat} {L : List Tok} {E p : Nat} (hL : L.length ≤ 1000) (hc : cap ≤ maxLen) (hG : GoodXL L) (hr : RL w R g cap B L E p) (hl : p < L.length)  (h1 : ((tokAt L E p).kind == 1) = true) :
    Calls Tryz.prog 85 #[.pointer (some ⟨R, 0, none⟩)] w (PostP w R g cap B L E (.ok (numT (tokAt L E p).num) (p + 1))) := by
  have hN := Lib.hid (fun w hr => pnext_any (w := w) (R := R) (g := g) (cap := cap) (B := B) (L := L) (E := E) (p := p) hL hc hr)
  have hle := hr.le
  generalize tokAt L E p = a at *
  unfold tokV at *
  have HR := Lib.hid hr
  have lR := hr.lo.1
  have lB := hr.lo.2.2
  clear hr
  go_enter Tryz.func85, Tryz.ntmps85
  go_wp2_with fail
  refine (hN.out _ (by with_reducible repeat' (first | exact HR.out | refine RL.far ?_ (by omega) _ _ | refine RL.alloc ?_ _ | refine RL.drewN ?_ _ | refine RL.drew ?_))).mono ?_; rintro e w1 ⟨rfl, r1, b1⟩
  have HR1 : Hid (RL w1 R g cap B L E (p + 1)) := Lib.hid (r1 hl)
  clear r1
  have h1 : But R w w1 := But.trans (by (with_reducible repeat' (first | exact But.refl _ _ | refine zBr ?_ _ _ | refine zBs ?_ (by omega) _ _ | refine zBa ?_ _ | refine zBn ?_ _ | refine zBd ?_))) b1
  have y1 : w.heap.size ≤ w1.heap.size := h1.size
  have zk1 : w.heap.size < w1.heap.size := by have := b1.size; first | omega | (simp at this; omega)
  have Hk1 : C8 w1 (w.heap.size) (.int .i64 0) (.int .i64 0) (.int .i64 0) (.int .i64 0) (.int .i64 0) (.int .i64 0) (.string ⟨#[]⟩) (.slice none 0 0) := by refine ⟨?_, ?_, ?_, ?_, ?_, ?_, ?_, ?_⟩ <;> exact b1.cell (show w.heap.size ≠ R by omega) (by simp [go_sem])
  obtain ⟨k10, k11, k12, k13, k14, k15, k16, k17⟩ := Hk1
  have Hkf1 : F8 w1 (w.heap.size) := by refine ⟨?_, ?_, ?_, ?_, ?_, ?_, ?_, ?_⟩ <;> exact b1.frozen (show w.heap.size ≠ R by omega) (by first | omega | (simp; done) | (simp; omega)) (by simp [go_sem])
  obtain ⟨kf10, kf11, kf12, kf13, kf14, kf15, kf16, kf17⟩ := Hkf1
  clear b1
  go_wp2_with fail
  exact bodyPost_ret (v := .agg #[.int .i64 (0), .int .i64 (a.num), .int .i64 (0), .int .i64 (0), .int .i64 (0), .int .i64 (0), .string ⟨#[]⟩, .slice none 0 0]) (by simp [results, Tryz.results85, go_sem, k10, k11, k12, k13, k14, k15, k16, k17, zk1]) rfl ⟨leaf8 (0) (a.num) (0) (0) (0) (0), rfl, tv_leaf _ _ _ _ _ _, (by with_reducible repeat' (first | exact HR1.out | refine RL.far ?_ (by omega) _ _ | refine RL.alloc ?_ _ | refine RL.drewN ?_ _ | refine RL.drew ?_)), by (with_reducible repeat' (first | exact h1 | refine zBr ?_ _ _ | refine zBs ?_ (by omega) _ _ | refine zBa ?_ _ | refine zBn ?_ _ | refine zBd ?_))⟩
set_option maxHeartbeats 2000000 in
set_option maxRecDepth 10000 in
theorem poperand_read {w : World} {R g cap B : Nat} {L : List Tok} {E p : Nat} (hL : L.length ≤ 1000) (hc : cap ≤ maxLen) (hG : GoodXL L) (hr : RL w R g cap B L E p) (hl : p < L.length) (h1 : ((tokAt L E p).kind == 1) = false) (h2 : ((tokAt L E p).kind == 2) = true) :
    Calls Tryz.prog 85 #[.pointer (some ⟨R, 0, none⟩)] w (PostP w R g cap B L E (.ok (readT (tokAt L E p).col (tokAt L E p).row) (p + 1))) := by
  have hN := Lib.hid (fun w hr => pnext_any (w := w) (R := R) (g := g) (cap := cap) (B := B) (L := L) (E := E) (p := p) hL hc hr)
  have hle := hr.le
  generalize tokAt L E p = a at *
  unfold tokV at *
  have HR := Lib.hid hr
  have lR := hr.lo.1
  have lB := hr.lo.2.2
  clear hr
  go_enter Tryz.func85, Tryz.ntmps85
  go_wp2_with fail
  refine (hN.out _ (by with_reducible repeat' (first | exact HR.out | refine RL.far ?_ (by omega) _ _ | refine RL.alloc ?_ _ | refine RL.drewN ?_ _ | refine RL.drew ?_))).mono ?_; rintro e w1 ⟨rfl, r1, b1⟩
  have HR1 : Hid (RL w1 R g cap B L E (p + 1)) := Lib.hid (r1 hl)
  clear r1
  have h1 : But R w w1 := But.trans (by (with_reducible repeat' (first | exact But.refl _ _ | refine zBr ?_ _ _ | refine zBs ?_ (by omega) _ _ | refine zBa ?_ _ | refine zBn ?_ _ | refine zBd ?_))) b1
  have y1 : w.heap.size ≤ w1.heap.size := h1.size
  have zk1 : w.heap.size < w1.heap.size := by have := b1.size; first | omega | (simp at this; omega)
  have Hk1 : C8 w1 (w.heap.size) (.int .i64 0) (.int .i64 0) (.int .i64 0) (.int .i64 0) (.int .i64 0) (.int .i64 0) (.string ⟨#[]⟩) (.slice none 0 0) := by refine ⟨?_, ?_, ?_, ?_, ?_, ?_, ?_, ?_⟩ <;> exact b1.cell (show w.heap.size ≠ R by omega) (by simp [go_sem])
  obtain ⟨k10, k11, k12, k13, k14, k15, k16, k17⟩ := Hk1
  have Hkf1 : F8 w1 (w.heap.size) := by refine ⟨?_, ?_, ?_, ?_, ?_, ?_, ?_, ?_⟩ <;> exact b1.frozen (show w.heap.size ≠ R by omega) (by first | omega | (simp; done) | (simp; omega)) (by simp [go_sem])
  obtain ⟨kf10, kf11, kf12, kf13, kf14, kf15, kf16, kf17⟩ := Hkf1
  clear b1
  go_wp2_with fail
  exact bodyPost_ret (v := .agg #[.int .i64 (1), .int .i64 (0), .int .i64 (a.col), .int .i64 (a.row), .int .i64 (a.col), .int .i64 (a.row), .string ⟨#[]⟩, .slice none 0 0]) (by simp [results, Tryz.results85, go_sem, k10, k11, k12, k13, k14, k15, k16, k17, zk1]) rfl ⟨leaf8 (1) (0) (a.col) (a.row) (a.col) (a.row), rfl, tv_leaf _ _ _ _ _ _, (by with_reducible repeat' (first | exact HR1.out | refine RL.far ?_ (by omega) _ _ | refine RL.alloc ?_ _ | refine RL.drewN ?_ _ | refine RL.drew ?_)), by (with_reducible repeat' (first | exact h1 | refine zBr ?_ _ _ | refine zBs ?_ (by omega) _ _ | refine zBa ?_ _ | refine zBn ?_ _ | refine zBd ?_))⟩
set_option maxHeartbeats 2000000 in
set_option maxRecDepth 10000 in
theorem poperand_bad {w : World} {R g cap B : Nat} {L : List Tok} {E p : Nat} (hL : L.length ≤ 1000) (hc : cap ≤ maxLen) (hG : GoodXL L) (hr : RL w R g cap B L E p) (hl : p < L.length) (h1 : ((tokAt L E p).kind == 1) = false) (h2 : ((tokAt L E p).kind == 2) = false) (h3 : ((tokAt L E p).kind == 3) = true) :
    Calls Tryz.prog 85 #[.pointer (some ⟨R, 0, none⟩)] w (PostP w R g cap B L E (.ok badT (p + 1))) := by
  have hN := Lib.hid (fun w hr => pnext_any (w := w) (R := R) (g := g) (cap := cap) (B := B) (L := L) (E := E) (p := p) hL hc hr)
  have hle := hr.le
  generalize tokAt L E p = a at *
  unfold tokV at *
  have HR := Lib.hid hr
  have lR := hr.lo.1
  have lB := hr.lo.2.2
  clear hr
  go_enter Tryz.func85, Tryz.ntmps85
  go_wp2_with fail
  refine (hN.out _ (by with_reducible repeat' (first | exact HR.out | refine RL.far ?_ (by omega) _ _ | refine RL.alloc ?_ _ | refine RL.drewN ?_ _ | refine RL.drew ?_))).mono ?_; rintro e w1 ⟨rfl, r1, b1⟩
  have HR1 : Hid (RL w1 R g cap B L E (p + 1)) := Lib.hid (r1 hl)
  clear r1
  have h1 : But R w w1 := But.trans (by (with_reducible repeat' (first | exact But.refl _ _ | refine zBr ?_ _ _ | refine zBs ?_ (by omega) _ _ | refine zBa ?_ _ | refine zBn ?_ _ | refine zBd ?_))) b1
  have y1 : w.heap.size ≤ w1.heap.size := h1.size
  have zk1 : w.heap.size < w1.heap.size := by have := b1.size; first | omega | (simp at this; omega)
  have Hk1 : C8 w1 (w.heap.size) (.int .i64 0) (.int .i64 0) (.int .i64 0) (.int .i64 0) (.int .i64 0) (.int .i64 0) (.string ⟨#[]⟩) (.slice none 0 0) := by refine ⟨?_, ?_, ?_, ?_, ?_, ?_, ?_, ?_⟩ <;> exact b1.cell (show w.heap.size ≠ R by omega) (by simp [go_sem])
  obtain ⟨k10, k11, k12, k13, k14, k15, k16, k17⟩ := Hk1
  have Hkf1 : F8 w1 (w.heap.size) := by refine ⟨?_, ?_, ?_, ?_, ?_, ?_, ?_, ?_⟩ <;> exact b1.frozen (show w.heap.size ≠ R by omega) (by first | omega | (simp; done) | (simp; omega)) (by simp [go_sem])
  obtain ⟨kf10, kf11, kf12, kf13, kf14, kf15, kf16, kf17⟩ := Hkf1
  clear b1
  go_wp2_with fail
  exact bodyPost_ret (v := .agg #[.int .i64 (2), .int .i64 (0), .int .i64 (0), .int .i64 (0), .int .i64 (0), .int .i64 (0), .string ⟨#[]⟩, .slice none 0 0]) (by simp [results, Tryz.results85, go_sem, k10, k11, k12, k13, k14, k15, k16, k17, zk1]) rfl ⟨leaf8 (2) (0) (0) (0) (0) (0), rfl, tv_leaf _ _ _ _ _ _, (by with_reducible repeat' (first | exact HR1.out | refine RL.far ?_ (by omega) _ _ | refine RL.alloc ?_ _ | refine RL.drewN ?_ _ | refine RL.drew ?_)), by (with_reducible repeat' (first | exact h1 | refine zBr ?_ _ _ | refine zBs ?_ (by omega) _ _ | refine zBa ?_ _ | refine zBn ?_ _ | refine zBd ?_))⟩
set_option maxHeartbeats 2000000 in
set_option maxRecDepth 10000 in
theorem poperand_none {w : World} {R g cap B : Nat} {L : List Tok} {E p : Nat} (hL : L.length ≤ 1000) (hc : cap ≤ maxLen) (hG : GoodXL L) (hr : RL w R g cap B L E p) (h1 : ((tokAt L E p).kind == 1) = false) (h2 : ((tokAt L E p).kind == 2) = false) (h3 : ((tokAt L E p).kind == 3) = false) (h4 : ((tokAt L E p).kind == 4) = false) (hm : isMark L p [40] = false) :
    Calls Tryz.prog 85 #[.pointer (some ⟨R, 0, none⟩)] w (PostP w R g cap B L E (.bad (whr L E p))) := by
  have hN := Lib.hid (fun w hr => pnext_any (w := w) (R := R) (g := g) (cap := cap) (B := B) (L := L) (E := E) (p := p) hL hc hr)
  have hle := hr.le
  have hT := mark_text hG E p (s := [40]) (by decide) (by decide)
  rw [hm] at hT
  rw [whr_tok]
  clear hm
  generalize tokAt L E p = a at *
  unfold tokV at *
  have HR := Lib.hid hr
  have lR := hr.lo.1
  have lB := hr.lo.2.2
  clear hr
  go_enter Tryz.func85, Tryz.ntmps85
  go_wp2_with fail
  refine (hN.out _ (by with_reducible repeat' (first | exact HR.out | refine RL.far ?_ (by omega) _ _ | refine RL.alloc ?_ _ | refine RL.drewN ?_ _ | refine RL.drew ?_))).mono ?_; rintro e w1 ⟨rfl, _, b1⟩
  have h1 : But R w w1 := But.trans (by (with_reducible repeat' (first | exact But.refl _ _ | refine zBr ?_ _ _ | refine zBs ?_ (by omega) _ _ | refine zBa ?_ _ | refine zBn ?_ _ | refine zBd ?_))) b1
  clear b1
  go_wp2_with fail
  exact ⟨rfl, rfl, by (with_reducible repeat' (first | exact h1 | refine zBr ?_ _ _ | refine zBs ?_ (by omega) _ _ | refine zBa ?_ _ | refine zBn ?_ _ | refine zBd ?_))⟩
set_option maxHeartbeats 2000000 in
set_option maxRecDepth 10000 in
theorem poperand_brk {w : World} {R g cap B : Nat} {L : List Tok} {E p : Nat} (hL : L.length ≤ 1000) (hc : cap ≤ maxLen) (hG : GoodXL L) (hr : RL w R g cap B L E p) (hl : p < L.length) (h1 : ((tokAt L E p).kind == 1) = false) (h2 : ((tokAt L E p).kind == 2) = false) (h3 : ((tokAt L E p).kind == 3) = false) (h4 : ((tokAt L E p).kind == 4) = false) (hm : isMark L p [40] = true) {f : Nat → Option Res} {res : Res} (hP : TreeP R g cap B L E 32 #[.pointer (some ⟨R, 0, none⟩), .int .i64 0] f) (hf : Res.next (f (p + 1)) (fun t q => mustF L E q [41] fun q => some (.ok t q)) = some res) :
    Calls Tryz.prog 85 #[.pointer (some ⟨R, 0, none⟩)] w (PostP w R g cap B L E res) := by
  have hN := Lib.hid (fun w hr => pnext_any (w := w) (R := R) (g := g) (cap := cap) (B := B) (L := L) (E := E) (p := p) hL hc hr)
  have hle := hr.le
  have hT := mark_text hG E p (s := [40]) (by decide) (by decide)
  rw [hm] at hT
  have HP := Lib.hid hP
  obtain ⟨r1, hf1, hf2⟩ := next_some hf
  have HF := Lib.hid hf1
  have HK := Lib.hid hf2
  have hMon := Lib.hid (fun w q hr hm => pmust_on (w := w) (R := R) (g := g) (cap := cap) (B := B) (L := L) (E := E) (p := q) hL hc hG ⟨#[41]⟩ (by decide) (by decide) hr hm)
  have hMoff := Lib.hid (fun w q hr hm => pmust_off (w := w) (R := R) (g := g) (cap := cap) (B := B) (L := L) (E := E) (p := q) hL hc hG ⟨#[41]⟩ (by decide) (by decide) hr hm)
  clear hP hf hf1 hf2 hm
  generalize tokAt L E p = a at *
  unfold tokV at *
  have HR := Lib.hid hr
  have lR := hr.lo.1
  have lB := hr.lo.2.2
  clear hr
  go_enter Tryz.func85, Tryz.ntmps85
  go_wp2_with fail
  refine (hN.out _ (by with_reducible repeat' (first | exact HR.out | refine RL.far ?_ (by omega) _ _ | refine RL.alloc ?_ _ | refine RL.drewN ?_ _ | refine RL.drew ?_))).mono ?_; rintro e w1 ⟨rfl, r1, b1⟩
  have HR1 : Hid (RL w1 R g cap B L E (p + 1)) := Lib.hid (r1 hl)
  clear r1
  have h1 : But R w w1 := But.trans (by (with_reducible repeat' (first | exact But.refl _ _ | refine zBr ?_ _ _ | refine zBs ?_ (by omega) _ _ | refine zBa ?_ _ | refine zBn ?_ _ | refine zBd ?_))) b1
  have y1 : w.heap.size ≤ w1.heap.size := h1.size
  have zk1 : w.heap.size < w1.heap.size := by have := b1.size; first | omega | (simp at this; omega)
  have Hk1 : C8 w1 (w.heap.size) (.int .i64 0) (.int .i64 0) (.int .i64 0) (.int .i64 0) (.int .i64 0) (.int .i64 0) (.string ⟨#[]⟩) (.slice none 0 0) := by refine ⟨?_, ?_, ?_, ?_, ?_, ?_, ?_, ?_⟩ <;> exact b1.cell (show w.heap.size ≠ R by omega) (by simp [go_sem])
  obtain ⟨k10, k11, k12, k13, k14, k15, k16, k17⟩ := Hk1
  have Hkf1 : F8 w1 (w.heap.size) := by refine ⟨?_, ?_, ?_, ?_, ?_, ?_, ?_, ?_⟩ <;> exact b1.frozen (show w.heap.size ≠ R by omega) (by first | omega | (simp; done) | (simp; omega)) (by simp [go_sem])
  obtain ⟨kf10, kf11, kf12, kf13, kf14, kf15, kf16, kf17⟩ := Hkf1
  clear b1
  go_wp2_with fail
  refine (HP.out _ (p + 1) r1 (by with_reducible repeat' (first | exact HR1.out | refine RL.far ?_ (by omega) _ _ | refine RL.alloc ?_ _ | refine RL.drewN ?_ _ | refine RL.drew ?_)) HF.out).mono ?_; rintro e w2 H2
  cases r1 with
  | bad z =>
    obtain ⟨rfl, b2⟩ := H2
    have hk : res = .bad z := HK.out
    subst hk
    exact ⟨rfl, rfl, But.trans (by (with_reducible repeat' (first | exact h1 | refine zBr ?_ _ _ | refine zBs ?_ (by omega) _ _ | refine zBa ?_ _ | refine zBn ?_ _ | refine zBd ?_))) b2⟩
  | ok t q =>
    obtain ⟨⟨x0, x1, x2, x3, x4, x5, xw, xA, xl, xc⟩, rfl, v2, r2, b2⟩ := H2
    have HR2 : Hid (RL w2 R g cap B L E q) := Lib.hid r2
    clear r2
    have HVx2 : Hid (TV w2 (fun b => w.heap.size < b) ⟨x0, x1, x2, x3, x4, x5, xw, xA, xl, xc⟩ (some t)) := Lib.hid (v2.imp fun b hb => by have hb2 : _ ≤ b := hb; first | omega | (simp at hb2; omega))
    clear v2
    have h2 : But R w w2 := But.trans (by (with_reducible repeat' (first | exact h1 | refine zBr ?_ _ _ | refine zBs ?_ (by omega) _ _ | refine zBa ?_ _ | refine zBn ?_ _ | refine zBd ?_))) b2
    have y2 : w.heap.size ≤ w2.heap.size := h2.size
    have zk2 : w.heap.size < w2.heap.size := by have := b2.size; first | omega | (simp at this; omega)
    have Hk2 := c8_lift (B := w.heap.size) (fun j v hv => b2.cell (show w.heap.size ≠ R by omega) (by with_reducible repeat' (first | exact hv | refine zCs ?_ (by omega) _ _ | refine zCa ?_ _ | refine zCn ?_ _ | refine zCd ?_))) k10 k11 k12 k13 k14 k15 k16 k17
    obtain ⟨k20, k21, k22, k23, k24, k25, k26, k27⟩ := Hk2
    have Hkf2 := f8_lift (B := w.heap.size) (fun j hv => b2.frozen (show w.heap.size ≠ R by omega) (by first | omega | (simp; done) | (simp; omega)) (by with_reducible repeat' (first | exact hv | refine zFs ?_ (by omega) _ _ | refine zFa ?_ (by first | omega | (simp; omega)) _ | refine zFn ?_ _ | refine zFd ?_))) kf10 kf11 kf12 kf13 kf14 kf15 kf16 kf17
    obtain ⟨kf20, kf21, kf22, kf23, kf24, kf25, kf26, kf27⟩ := Hkf2
    clear b2 k10 k11 k12 k13 k14 k15 k16 k17 kf10 kf11 kf12 kf13 kf14 kf15 kf16 kf17 zk1
    dsimp only [V8.val]
    go_wp2_with fail
    have hk : mustF L E q [41] (fun q => some (.ok t q)) = some res := HK.out
    unfold mustF at hk
    cases hm2 : isMark L q [41] with
    | false =>
      rw [if_neg (by rw [hm2]; decide)] at hk
      obtain rfl := Option.some.inj hk
      have HM := Lib.hid hm2
      clear hm2 hk
      refine (hMoff.out _ q (by with_reducible repeat' (first | exact HR2.out | refine RL.far ?_ (by omega) _ _ | refine RL.alloc ?_ _ | refine RL.drewN ?_ _ | refine RL.drew ?_)) HM.out).mono ?_; rintro e w9 ⟨rfl, b9⟩
      exact ⟨rfl, rfl, But.trans (by (with_reducible repeat' (first | exact h2 | refine zBr ?_ _ _ | refine zBs ?_ (by omega) _ _ | refine zBa ?_ _ | refine zBn ?_ _ | refine zBd ?_))) b9⟩
    | true =>
      rw [if_pos hm2] at hk
      obtain rfl := Option.some.inj hk
      have HM := Lib.hid hm2
      clear hm2 hk
      refine (hMon.out _ q (by with_reducible repeat' (first | exact HR2.out | refine RL.far ?_ (by omega) _ _ | refine RL.alloc ?_ _ | refine RL.drewN ?_ _ | refine RL.drew ?_)) HM.out).mono ?_; rintro e w3 ⟨rfl, r3, b3⟩
      have HR3 : Hid (RL w3 R g cap B L E (q + 1)) := Lib.hid (r3)
      clear r3
      have HVx3 : Hid (TV w3 (fun b => w.heap.size < b) ⟨x0, x1, x2, x3, x4, x5, xw, xA, xl, xc⟩ (some t)) := Lib.hid (TV.kept HVx2.out (Kept.but (by (with_reducible repeat' (first | exact Kept.refl _ _ | refine Kept.set1 ?_ (by omega) _ _ | refine Kept.setNew ?_ (by omega) _ _ | refine Kept.alloc ?_ _ | refine Kept.drewN ?_ _ | refine Kept.drew ?_))) b3 (by show ¬ (w.heap.size < R); omega)))
      have h3 : But R w w3 := But.trans (by (with_reducible repeat' (first | exact h2 | refine zBr ?_ _ _ | refine zBs ?_ (by omega) _ _ | refine zBa ?_ _ | refine zBn ?_ _ | refine zBd ?_))) b3
      have y3 : w.heap.size ≤ w3.heap.size := h3.size
      have zk3 : w.heap.size < w3.heap.size := by have := b3.size; first | omega | (simp at this; omega)
      have Hk3 := c8_lift (B := w.heap.size) (fun j v hv => b3.cell (show w.heap.size ≠ R by omega) (by with_reducible repeat' (first | exact hv | refine zCs ?_ (by omega) _ _ | refine zCa ?_ _ | refine zCn ?_ _ | refine zCd ?_))) k20 k21 k22 k23 k24 k25 k26 k27
      obtain ⟨k30, k31, k32, k33, k34, k35, k36, k37⟩ := Hk3
      have Hkf3 := f8_lift (B := w.heap.size) (fun j hv => b3.frozen (show w.heap.size ≠ R by omega) (by first | omega | (simp; done) | (simp; omega)) (by with_reducible repeat' (first | exact hv | refine zFs ?_ (by omega) _ _ | refine zFa ?_ (by first | omega | (simp; omega)) _ | refine zFn ?_ _ | refine zFd ?_))) kf20 kf21 kf22 kf23 kf24 kf25 kf26 kf27
      obtain ⟨kf30, kf31, kf32, kf33, kf34, kf35, kf36, kf37⟩ := Hkf3
      have zi3 : w2.heap.size < w3.heap.size := by have := b3.size; first | omega | (simp at this; omega)
      have Hi3 : C8 w3 (w2.heap.size) (.int .i64 x0) (.int .i64 x1) (.int .i64 x2) (.int .i64 x3) (.int .i64 x4) (.int .i64 x5) (.string xw) (.slice xA xl xc) := by refine ⟨?_, ?_, ?_, ?_, ?_, ?_, ?_, ?_⟩ <;> exact b3.cell (show w2.heap.size ≠ R by omega) (by simp [go_sem])
      obtain ⟨i30, i31, i32, i33, i34, i35, i36, i37⟩ := Hi3
      have Hif3 : F8 w3 (w2.heap.size) := by refine ⟨?_, ?_, ?_, ?_, ?_, ?_, ?_, ?_⟩ <;> exact b3.frozen (show w2.heap.size ≠ R by omega) (by first | omega | (simp; done) | (simp; omega)) (by simp [go_sem])
      obtain ⟨if30, if31, if32, if33, if34, if35, if36, if37⟩ := Hif3
      clear b3 k20 k21 k22 k23 k24 k25 k26 k27 kf20 kf21 kf22 kf23 kf24 kf25 kf26 kf27 zk2
      go_wp2_with fail
      exact bodyPost_ret (v := .agg #[.int .i64 x0, .int .i64 x1, .int .i64 x2, .int .i64 x3, .int .i64 x4, .int .i64 x5, .string xw, .slice xA xl xc]) (by simp [results, Tryz.results85, go_sem, k30, k31, k32, k33, k34, k35, k36, k37, i30, i31, i32, i33, i34, i35, i36, i37, zk3, zi3]) rfl ⟨⟨x0, x1, x2, x3, x4, x5, xw, xA, xl, xc⟩, rfl, ((HVx3.out.kept (by (with_reducible repeat' (first | exact Kept.refl _ _ | refine Kept.set1 ?_ (by omega) _ _ | refine Kept.setNew ?_ (by omega) _ _ | refine Kept.alloc ?_ _ | refine Kept.drewN ?_ _ | refine Kept.drew ?_)))).imp fun b (hb : w.heap.size < b) => Nat.le_of_lt hb), (by with_reducible repeat' (first | exact HR3.out | refine RL.far ?_ (by omega) _ _ | refine RL.alloc ?_ _ | refine RL.drewN ?_ _ | refine RL.drew ?_)), by (with_reducible repeat' (first | exact h3 | refine zBr ?_ _ _ | refine zBs ?_ (by omega) _ _ | refine zBa ?_ _ | refine zBn ?_ _ | refine zBd ?_))⟩
end Go.Proofs.YtahdlijkohmdfaaGreatDoor
