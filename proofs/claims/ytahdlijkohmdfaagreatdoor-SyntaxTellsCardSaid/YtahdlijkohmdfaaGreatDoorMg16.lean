/- Texts joined: RdI. -/
import Derived.Test.YtahdlijkohmdfaaGreatDoorMg15
set_option linter.all false
set_option linter.unusedVariables false
set_option linter.unusedSimpArgs false
/- The program's own reader: calls, and operands that are words. -/
namespace Go.Proofs.YtahdlijkohmdfaaGreatDoor
open Go.RowKit

/-- how a call goes on behind its parts -/
def CallR (L : List Tok) (E : Nat) (wd : List UInt8) (lr : LRes) (res : Res) : Prop := match lr with
  | .bad z => res = .bad z
  | .ok ks q => mustF L E q [41] (fun q => some (.ok (callT wd ks) q)) = some res
set_option maxHeartbeats 2000000 in
set_option maxRecDepth 10000 in
theorem pcall_off {w : World} {R g cap B : Nat} {L : List Tok} {E p : Nat} (hL : L.length ≤ 1000) (hc : cap ≤ maxLen) (hG : GoodXL L) (hr : RL w R g cap B L E p) (wd : List UInt8) (hm : isMark L p [40] = false) :
    Calls Tryz.prog 103 #[.pointer (some ⟨R, 0, none⟩), .string ⟨wd.toArray⟩] w (PostP w R g cap B L E (.bad (whr L E p))) := by
  have hN := Lib.hid (fun w hr => pmust_off (w := w) (R := R) (g := g) (cap := cap) (B := B) (L := L) (E := E) (p := p) hL hc hG ⟨#[40]⟩ (by decide) (by decide) hr hm)
  clear hm
  have HR := Lib.hid hr
  have lR := hr.lo.1
  have lB := hr.lo.2.2
  clear hr
  go_enter Tryz.func103, Tryz.ntmps103
  go_wp2_with fail
  refine (hN.out _ (by repeat' (first | (with_reducible exact HR.out) | (with_reducible refine RL.far ?_ (by omega) _ _) | (with_reducible refine RL.alloc ?_ _) | (with_reducible refine RL.drewN ?_ _) | (with_reducible refine RL.drew ?_)))).mono ?_; rintro e w9 ⟨rfl, b9⟩
  exact ⟨rfl, rfl, But.trans (by (repeat' (first | (with_reducible exact But.refl _ _) | (with_reducible refine But.setR ?_ _ _) | (with_reducible refine But.setN ?_ (by omega) _ _) | (with_reducible refine But.alloc ?_ _) | (with_reducible refine But.drewN ?_ _) | (with_reducible refine But.drew ?_)))) b9⟩
set_option maxHeartbeats 2000000 in
set_option maxRecDepth 10000 in
theorem pcall_if {w : World} {R g cap B : Nat} {L : List Tok} {E p : Nat} (hL : L.length ≤ 1000) (hc : cap ≤ maxLen) (hG : GoodXL L) (hr : RL w R g cap B L E p)  (hm : isMark L p [40] = true) {lr : LRes} {res : Res} (hN : ∀ w', RL w' R g cap B L E (p + 1) → Calls Tryz.prog 115 #[.pointer (some ⟨R, 0, none⟩)] w' (PostL w' R g cap B L E lr)) (hk : CallR L E [73, 70] lr res) :
    Calls Tryz.prog 103 #[.pointer (some ⟨R, 0, none⟩), .string ⟨#[73, 70]⟩] w (PostP w R g cap B L E res) := by
  have HN := Lib.hid hN
  have HK := Lib.hid hk
  have hM := Lib.hid (fun w hr => pmust_on (w := w) (R := R) (g := g) (cap := cap) (B := B) (L := L) (E := E) (p := p) hL hc hG ⟨#[40]⟩ (by decide) (by decide) hr hm)
  have hMon := Lib.hid (fun w q hr hm => pmust_on (w := w) (R := R) (g := g) (cap := cap) (B := B) (L := L) (E := E) (p := q) hL hc hG ⟨#[41]⟩ (by decide) (by decide) hr hm)
  have hMoff := Lib.hid (fun w q hr hm => pmust_off (w := w) (R := R) (g := g) (cap := cap) (B := B) (L := L) (E := E) (p := q) hL hc hG ⟨#[41]⟩ (by decide) (by decide) hr hm)
  clear hN hk hm
  have HR := Lib.hid hr
  have lR := hr.lo.1
  have lB := hr.lo.2.2
  clear hr
  go_enter Tryz.func103, Tryz.ntmps103
  go_wp2_with fail
  refine (hM.out _ (by repeat' (first | (with_reducible exact HR.out) | (with_reducible refine RL.far ?_ (by omega) _ _) | (with_reducible refine RL.alloc ?_ _) | (with_reducible refine RL.drewN ?_ _) | (with_reducible refine RL.drew ?_)))).mono ?_; rintro e w1 ⟨rfl, r1, b1⟩
  have HR1 : Hid (RL w1 R g cap B L E (p + 1)) := Lib.hid (r1)
  clear r1
  have h1 : But R w w1 := But.trans (by (repeat' (first | (with_reducible exact But.refl _ _) | (with_reducible refine But.setR ?_ _ _) | (with_reducible refine But.setN ?_ (by omega) _ _) | (with_reducible refine But.alloc ?_ _) | (with_reducible refine But.drewN ?_ _) | (with_reducible refine But.drew ?_)))) b1
  have y1 : w.heap.size ≤ w1.heap.size := h1.size
  have zk1 : w.heap.size < w1.heap.size := by have := b1.size; first | omega | (simp at this; omega)
  have Hk1 : C8 w1 (w.heap.size) (.int .i64 0) (.int .i64 0) (.int .i64 0) (.int .i64 0) (.int .i64 0) (.int .i64 0) (.string ⟨#[]⟩) (.slice none 0 0) := by refine ⟨?_, ?_, ?_, ?_, ?_, ?_, ?_, ?_⟩ <;> exact b1.cell (show w.heap.size ≠ R by omega) (by simp [go_sem])
  have k10 := Hk1.1; have k11 := Hk1.2.1; have k12 := Hk1.2.2.1; have k13 := Hk1.2.2.2.1; have k14 := Hk1.2.2.2.2.1; have k15 := Hk1.2.2.2.2.2.1; have k16 := Hk1.2.2.2.2.2.2.1; have k17 := Hk1.2.2.2.2.2.2.2; clear Hk1
  have Hkf1 : F8 w1 (w.heap.size) := by refine ⟨?_, ?_, ?_, ?_, ?_, ?_, ?_, ?_⟩ <;> exact b1.frozen (show w.heap.size ≠ R by omega) (by first | omega | (simp; done) | (simp; omega)) (by simp [go_sem])
  have kf10 := Hkf1.1; have kf11 := Hkf1.2.1; have kf12 := Hkf1.2.2.1; have kf13 := Hkf1.2.2.2.1; have kf14 := Hkf1.2.2.2.2.1; have kf15 := Hkf1.2.2.2.2.2.1; have kf16 := Hkf1.2.2.2.2.2.2.1; have kf17 := Hkf1.2.2.2.2.2.2.2; clear Hkf1
  have zt1 : w.heap.size + 1 < w1.heap.size := by have := b1.size; first | omega | (simp at this; omega)
  have Ht1 : C8 w1 (w.heap.size + 1) (.int .i64 5) (.int .i64 0) (.int .i64 0) (.int .i64 0) (.int .i64 0) (.int .i64 0) (.string ⟨#[73, 70]⟩) (.slice none 0 0) := by refine ⟨?_, ?_, ?_, ?_, ?_, ?_, ?_, ?_⟩ <;> exact b1.cell (show w.heap.size + 1 ≠ R by omega) (by simp [go_sem])
  have t10 := Ht1.1; have t11 := Ht1.2.1; have t12 := Ht1.2.2.1; have t13 := Ht1.2.2.2.1; have t14 := Ht1.2.2.2.2.1; have t15 := Ht1.2.2.2.2.2.1; have t16 := Ht1.2.2.2.2.2.2.1; have t17 := Ht1.2.2.2.2.2.2.2; clear Ht1
  have Htf1 : F8 w1 (w.heap.size + 1) := by refine ⟨?_, ?_, ?_, ?_, ?_, ?_, ?_, ?_⟩ <;> exact b1.frozen (show w.heap.size + 1 ≠ R by omega) (by first | omega | (simp; done) | (simp; omega)) (by simp [go_sem])
  have tf10 := Htf1.1; have tf11 := Htf1.2.1; have tf12 := Htf1.2.2.1; have tf13 := Htf1.2.2.2.1; have tf14 := Htf1.2.2.2.2.1; have tf15 := Htf1.2.2.2.2.2.1; have tf16 := Htf1.2.2.2.2.2.2.1; have tf17 := Htf1.2.2.2.2.2.2.2; clear Htf1
  clear b1
  go_wp2_with fail
  refine (HN.out _ (by repeat' (first | (with_reducible exact HR1.out) | (with_reducible refine RL.far ?_ (by omega) _ _) | (with_reducible refine RL.alloc ?_ _) | (with_reducible refine RL.drewN ?_ _) | (with_reducible refine RL.drew ?_)))).mono ?_; rintro e w2 H2
  cases lr with
  | bad z =>
    obtain ⟨rfl, b2⟩ := H2
    have hk2 : res = .bad z := HK.out
    subst hk2
    exact ⟨rfl, rfl, But.trans (by (repeat' (first | (with_reducible exact h1) | (with_reducible refine But.setR ?_ _ _) | (with_reducible refine But.setN ?_ (by omega) _ _) | (with_reducible refine But.alloc ?_ _) | (with_reducible refine But.drewN ?_ _) | (with_reducible refine But.drew ?_)))) b2⟩
  | ok ks q =>
    obtain ⟨g0, cp, rfl, ⟨hg0, hg1, hkl⟩, r2, b2⟩ := H2
    have HR2 : Hid (RL w2 R g cap B L E q) := Lib.hid r2
    clear r2
    have hg0' : w.heap.size + 1 < g0 := by first | omega | (simp at hg0; omega)
    have HL2 : Hid (KL w2 (fun b => w.heap.size + 1 < b) ks g0 0) := Lib.hid (KL.imp (fun b hb => by have hb2 : _ ≤ b := hb; show w.heap.size + 1 < b; first | omega | (simp at hb2; omega)) hkl)
    clear hkl hg0
    have h2 : But R w w2 := But.trans (by (repeat' (first | (with_reducible exact h1) | (with_reducible refine But.setR ?_ _ _) | (with_reducible refine But.setN ?_ (by omega) _ _) | (with_reducible refine But.alloc ?_ _) | (with_reducible refine But.drewN ?_ _) | (with_reducible refine But.drew ?_)))) b2
    have y2 : w.heap.size ≤ w2.heap.size := h2.size
    have zk2 : w.heap.size < w2.heap.size := by have := b2.size; first | omega | (simp at this; omega)
    have Hk2 := c8_lift (B := w.heap.size) (fun j v hv => b2.cell (show w.heap.size ≠ R by omega) (by repeat' (first | (with_reducible exact hv) | (with_reducible refine kc_set ?_ (by omega) _ _) | (with_reducible refine kc_alloc ?_ _) | (with_reducible refine kc_drewN ?_ _) | (with_reducible refine kc_drew ?_)))) k10 k11 k12 k13 k14 k15 k16 k17
    have k20 := Hk2.1; have k21 := Hk2.2.1; have k22 := Hk2.2.2.1; have k23 := Hk2.2.2.2.1; have k24 := Hk2.2.2.2.2.1; have k25 := Hk2.2.2.2.2.2.1; have k26 := Hk2.2.2.2.2.2.2.1; have k27 := Hk2.2.2.2.2.2.2.2; clear Hk2
    have Hkf2 := f8_lift (B := w.heap.size) (fun j hv => b2.frozen (show w.heap.size ≠ R by omega) (by first | omega | (simp; done) | (simp; omega)) (by repeat' (first | (with_reducible exact hv) | (with_reducible refine kf_set ?_ (by omega) _ _) | (with_reducible refine kf_alloc ?_ (by first | omega | (simp; omega)) _) | (with_reducible refine kf_drewN ?_ _) | (with_reducible refine kf_drew ?_)))) kf10 kf11 kf12 kf13 kf14 kf15 kf16 kf17
    have kf20 := Hkf2.1; have kf21 := Hkf2.2.1; have kf22 := Hkf2.2.2.1; have kf23 := Hkf2.2.2.2.1; have kf24 := Hkf2.2.2.2.2.1; have kf25 := Hkf2.2.2.2.2.2.1; have kf26 := Hkf2.2.2.2.2.2.2.1; have kf27 := Hkf2.2.2.2.2.2.2.2; clear Hkf2
    have zt2 : w.heap.size + 1 < w2.heap.size := by have := b2.size; first | omega | (simp at this; omega)
    have Ht2 := c8_lift (B := w.heap.size + 1) (fun j v hv => b2.cell (show w.heap.size + 1 ≠ R by omega) (by repeat' (first | (with_reducible exact hv) | (with_reducible refine kc_set ?_ (by omega) _ _) | (with_reducible refine kc_alloc ?_ _) | (with_reducible refine kc_drewN ?_ _) | (with_reducible refine kc_drew ?_)))) t10 t11 t12 t13 t14 t15 t16 t17
    have t20 := Ht2.1; have t21 := Ht2.2.1; have t22 := Ht2.2.2.1; have t23 := Ht2.2.2.2.1; have t24 := Ht2.2.2.2.2.1; have t25 := Ht2.2.2.2.2.2.1; have t26 := Ht2.2.2.2.2.2.2.1; have t27 := Ht2.2.2.2.2.2.2.2; clear Ht2
    have Htf2 := f8_lift (B := w.heap.size + 1) (fun j hv => b2.frozen (show w.heap.size + 1 ≠ R by omega) (by first | omega | (simp; done) | (simp; omega)) (by repeat' (first | (with_reducible exact hv) | (with_reducible refine kf_set ?_ (by omega) _ _) | (with_reducible refine kf_alloc ?_ (by first | omega | (simp; omega)) _) | (with_reducible refine kf_drewN ?_ _) | (with_reducible refine kf_drew ?_)))) tf10 tf11 tf12 tf13 tf14 tf15 tf16 tf17
    have tf20 := Htf2.1; have tf21 := Htf2.2.1; have tf22 := Htf2.2.2.1; have tf23 := Htf2.2.2.2.1; have tf24 := Htf2.2.2.2.2.1; have tf25 := Htf2.2.2.2.2.2.1; have tf26 := Htf2.2.2.2.2.2.2.1; have tf27 := Htf2.2.2.2.2.2.2.2; clear Htf2
    clear b2 k10 k11 k12 k13 k14 k15 k16 k17 kf10 kf11 kf12 kf13 kf14 kf15 kf16 kf17 zk1 t10 t11 t12 t13 t14 t15 t16 t17 tf10 tf11 tf12 tf13 tf14 tf15 tf16 tf17 zt1
    go_wp2_with fail
    have hk : mustF L E q [41] (fun q => some (.ok (callT [73, 70] ks) q)) = some res := HK.out
    unfold mustF at hk
    cases hm2 : isMark L q [41] with
    | false =>
      rw [if_neg (by rw [hm2]; decide)] at hk
      obtain rfl := Option.some.inj hk
      have HM := Lib.hid hm2
      clear hm2 hk
      refine (hMoff.out _ q (by repeat' (first | (with_reducible exact HR2.out) | (with_reducible refine RL.far ?_ (by omega) _ _) | (with_reducible refine RL.alloc ?_ _) | (with_reducible refine RL.drewN ?_ _) | (with_reducible refine RL.drew ?_))) HM.out).mono ?_; rintro e w9 ⟨rfl, b9⟩
      exact ⟨rfl, rfl, But.trans (by (repeat' (first | (with_reducible exact h2) | (with_reducible refine But.setR ?_ _ _) | (with_reducible refine But.setN ?_ (by omega) _ _) | (with_reducible refine But.alloc ?_ _) | (with_reducible refine But.drewN ?_ _) | (with_reducible refine But.drew ?_)))) b9⟩
    | true =>
      rw [if_pos hm2] at hk
      obtain rfl := Option.some.inj hk
      have HM := Lib.hid hm2
      clear hm2 hk
      refine (hMon.out _ q (by repeat' (first | (with_reducible exact HR2.out) | (with_reducible refine RL.far ?_ (by omega) _ _) | (with_reducible refine RL.alloc ?_ _) | (with_reducible refine RL.drewN ?_ _) | (with_reducible refine RL.drew ?_))) HM.out).mono ?_; rintro e w3 ⟨rfl, r3, b3⟩
      have HR3 : Hid (RL w3 R g cap B L E (q + 1)) := Lib.hid r3
      clear r3
      have HL3 : Hid (KL w3 (fun b => w.heap.size + 1 < b) ks g0 0) := Lib.hid (KL.kept (Kept.but (by (repeat' (first | (with_reducible exact Kept.refl _ _) | (with_reducible refine Kept.set1 ?_ (by omega) _ _) | (with_reducible refine Kept.setNew ?_ (by omega) _ _) | (with_reducible refine Kept.alloc ?_ _) | (with_reducible refine Kept.drewN ?_ _)))) b3 (by show ¬ (w.heap.size + 1 < R); omega)) hg0' HL2.out)
      have hg3 : g0 < w3.heap.size := by have := b3.size; first | omega | (simp at this; omega)
      clear HL2
      have h3 : But R w w3 := But.trans (by (repeat' (first | (with_reducible exact h2) | (with_reducible refine But.setR ?_ _ _) | (with_reducible refine But.setN ?_ (by omega) _ _) | (with_reducible refine But.alloc ?_ _) | (with_reducible refine But.drewN ?_ _) | (with_reducible refine But.drew ?_)))) b3
      have y3 : w.heap.size ≤ w3.heap.size := h3.size
      have zk3 : w.heap.size < w3.heap.size := by have := b3.size; first | omega | (simp at this; omega)
      have Hk3 := c8_lift (B := w.heap.size) (fun j v hv => b3.cell (show w.heap.size ≠ R by omega) (by repeat' (first | (with_reducible exact hv) | (with_reducible refine kc_set ?_ (by omega) _ _) | (with_reducible refine kc_alloc ?_ _) | (with_reducible refine kc_drewN ?_ _) | (with_reducible refine kc_drew ?_)))) k20 k21 k22 k23 k24 k25 k26 k27
      have k30 := Hk3.1; have k31 := Hk3.2.1; have k32 := Hk3.2.2.1; have k33 := Hk3.2.2.2.1; have k34 := Hk3.2.2.2.2.1; have k35 := Hk3.2.2.2.2.2.1; have k36 := Hk3.2.2.2.2.2.2.1; have k37 := Hk3.2.2.2.2.2.2.2; clear Hk3
      have Hkf3 := f8_lift (B := w.heap.size) (fun j hv => b3.frozen (show w.heap.size ≠ R by omega) (by first | omega | (simp; done) | (simp; omega)) (by repeat' (first | (with_reducible exact hv) | (with_reducible refine kf_set ?_ (by omega) _ _) | (with_reducible refine kf_alloc ?_ (by first | omega | (simp; omega)) _) | (with_reducible refine kf_drewN ?_ _) | (with_reducible refine kf_drew ?_)))) kf20 kf21 kf22 kf23 kf24 kf25 kf26 kf27
      have kf30 := Hkf3.1; have kf31 := Hkf3.2.1; have kf32 := Hkf3.2.2.1; have kf33 := Hkf3.2.2.2.1; have kf34 := Hkf3.2.2.2.2.1; have kf35 := Hkf3.2.2.2.2.2.1; have kf36 := Hkf3.2.2.2.2.2.2.1; have kf37 := Hkf3.2.2.2.2.2.2.2; clear Hkf3
      have zt3 : w.heap.size + 1 < w3.heap.size := by have := b3.size; first | omega | (simp at this; omega)
      have Ht3 : C8 w3 (w.heap.size + 1) (.int .i64 5) (.int .i64 0) (.int .i64 0) (.int .i64 0) (.int .i64 0) (.int .i64 0) (.string ⟨#[73, 70]⟩) (.slice (some ⟨g0, 0, none⟩) ks.length cp) := by refine ⟨?_, ?_, ?_, ?_, ?_, ?_, ?_, ?_⟩ <;> exact b3.cell (show w.heap.size + 1 ≠ R by omega) (by first | (simp [go_sem]; done) | (simp [go_sem, t20, t21, t22, t23, t24, t25, t26, t27]; done))
      have t30 := Ht3.1; have t31 := Ht3.2.1; have t32 := Ht3.2.2.1; have t33 := Ht3.2.2.2.1; have t34 := Ht3.2.2.2.2.1; have t35 := Ht3.2.2.2.2.2.1; have t36 := Ht3.2.2.2.2.2.2.1; have t37 := Ht3.2.2.2.2.2.2.2; clear Ht3
      have Htf3 := f8_lift (B := w.heap.size + 1) (fun j hv => b3.frozen (show w.heap.size + 1 ≠ R by omega) (by first | omega | (simp; done) | (simp; omega)) (by simp [go_sem, hv])) tf20 tf21 tf22 tf23 tf24 tf25 tf26 tf27
      have tf30 := Htf3.1; have tf31 := Htf3.2.1; have tf32 := Htf3.2.2.1; have tf33 := Htf3.2.2.2.1; have tf34 := Htf3.2.2.2.2.1; have tf35 := Htf3.2.2.2.2.2.1; have tf36 := Htf3.2.2.2.2.2.2.1; have tf37 := Htf3.2.2.2.2.2.2.2; clear Htf3
      clear b3 k20 k21 k22 k23 k24 k25 k26 k27 kf20 kf21 kf22 kf23 kf24 kf25 kf26 kf27 zk2 t20 t21 t22 t23 t24 t25 t26 t27 tf20 tf21 tf22 tf23 tf24 tf25 tf26 tf27 zt2
      go_wp2_with fail
      exact bodyPost_ret (v := .agg #[.int .i64 5, .int .i64 0, .int .i64 0, .int .i64 0, .int .i64 0, .int .i64 0, .string ⟨#[73, 70]⟩, .slice (some ⟨g0, 0, none⟩) ks.length cp]) (by simp [results, Tryz.results103, go_sem, k30, k31, k32, k33, k34, k35, k36, k37, t30, t31, t32, t33, t34, t35, t36, t37, zk3, zt3]) rfl ⟨⟨5, 0, 0, 0, 0, 0, ⟨#[73, 70]⟩, some ⟨g0, 0, none⟩, ks.length, cp⟩, rfl, TV.imp (P := fun b => w.heap.size + 1 < b) (tv_row (ks := ks) 5 [73, 70] hg0' (by first | omega | (simp; omega)) (KL.kept (by (repeat' (first | (with_reducible exact Kept.refl _ _) | (with_reducible refine Kept.set1 ?_ (by omega) _ _) | (with_reducible refine Kept.setNew ?_ (by omega) _ _) | (with_reducible refine Kept.alloc ?_ _) | (with_reducible refine Kept.drewN ?_ _)))) hg0' HL3.out)) fun b (hb : w.heap.size + 1 < b) => by show w.heap.size ≤ b; omega, (by repeat' (first | (with_reducible exact HR3.out) | (with_reducible refine RL.far ?_ (by omega) _ _) | (with_reducible refine RL.alloc ?_ _) | (with_reducible refine RL.drewN ?_ _) | (with_reducible refine RL.drew ?_))), by (repeat' (first | (with_reducible exact h3) | (with_reducible refine But.setR ?_ _ _) | (with_reducible refine But.setN ?_ (by omega) _ _) | (with_reducible refine But.alloc ?_ _) | (with_reducible refine But.drewN ?_ _) | (with_reducible refine But.drew ?_)))⟩
set_option maxHeartbeats 2000000 in
set_option maxRecDepth 10000 in
theorem pcall_count {w : World} {R g cap B : Nat} {L : List Tok} {E p : Nat} (hL : L.length ≤ 1000) (hc : cap ≤ maxLen) (hG : GoodXL L) (hr : RL w R g cap B L E p)  (hm : isMark L p [40] = true) {lr : LRes} {res : Res} (hN : ∀ w', RL w' R g cap B L E (p + 1) → Calls Tryz.prog 116 #[.pointer (some ⟨R, 0, none⟩), .func (.func 117) #[.pointer (some ⟨R, 0, none⟩)] #[]] w' (PostL w' R g cap B L E lr)) (hk : CallR L E [67, 79, 85, 78, 84] lr res) :
    Calls Tryz.prog 103 #[.pointer (some ⟨R, 0, none⟩), .string ⟨#[67, 79, 85, 78, 84]⟩] w (PostP w R g cap B L E res) := by
  have HN := Lib.hid hN
  have HK := Lib.hid hk
  have hM := Lib.hid (fun w hr => pmust_on (w := w) (R := R) (g := g) (cap := cap) (B := B) (L := L) (E := E) (p := p) hL hc hG ⟨#[40]⟩ (by decide) (by decide) hr hm)
  have hMon := Lib.hid (fun w q hr hm => pmust_on (w := w) (R := R) (g := g) (cap := cap) (B := B) (L := L) (E := E) (p := q) hL hc hG ⟨#[41]⟩ (by decide) (by decide) hr hm)
  have hMoff := Lib.hid (fun w q hr hm => pmust_off (w := w) (R := R) (g := g) (cap := cap) (B := B) (L := L) (E := E) (p := q) hL hc hG ⟨#[41]⟩ (by decide) (by decide) hr hm)
  clear hN hk hm
  have HR := Lib.hid hr
  have lR := hr.lo.1
  have lB := hr.lo.2.2
  clear hr
  go_enter Tryz.func103, Tryz.ntmps103
  go_wp2_with fail
  refine (hM.out _ (by repeat' (first | (with_reducible exact HR.out) | (with_reducible refine RL.far ?_ (by omega) _ _) | (with_reducible refine RL.alloc ?_ _) | (with_reducible refine RL.drewN ?_ _) | (with_reducible refine RL.drew ?_)))).mono ?_; rintro e w1 ⟨rfl, r1, b1⟩
  have HR1 : Hid (RL w1 R g cap B L E (p + 1)) := Lib.hid (r1)
  clear r1
  have h1 : But R w w1 := But.trans (by (repeat' (first | (with_reducible exact But.refl _ _) | (with_reducible refine But.setR ?_ _ _) | (with_reducible refine But.setN ?_ (by omega) _ _) | (with_reducible refine But.alloc ?_ _) | (with_reducible refine But.drewN ?_ _) | (with_reducible refine But.drew ?_)))) b1
  have y1 : w.heap.size ≤ w1.heap.size := h1.size
  have zk1 : w.heap.size < w1.heap.size := by have := b1.size; first | omega | (simp at this; omega)
  have Hk1 : C8 w1 (w.heap.size) (.int .i64 0) (.int .i64 0) (.int .i64 0) (.int .i64 0) (.int .i64 0) (.int .i64 0) (.string ⟨#[]⟩) (.slice none 0 0) := by refine ⟨?_, ?_, ?_, ?_, ?_, ?_, ?_, ?_⟩ <;> exact b1.cell (show w.heap.size ≠ R by omega) (by simp [go_sem])
  have k10 := Hk1.1; have k11 := Hk1.2.1; have k12 := Hk1.2.2.1; have k13 := Hk1.2.2.2.1; have k14 := Hk1.2.2.2.2.1; have k15 := Hk1.2.2.2.2.2.1; have k16 := Hk1.2.2.2.2.2.2.1; have k17 := Hk1.2.2.2.2.2.2.2; clear Hk1
  have Hkf1 : F8 w1 (w.heap.size) := by refine ⟨?_, ?_, ?_, ?_, ?_, ?_, ?_, ?_⟩ <;> exact b1.frozen (show w.heap.size ≠ R by omega) (by first | omega | (simp; done) | (simp; omega)) (by simp [go_sem])
  have kf10 := Hkf1.1; have kf11 := Hkf1.2.1; have kf12 := Hkf1.2.2.1; have kf13 := Hkf1.2.2.2.1; have kf14 := Hkf1.2.2.2.2.1; have kf15 := Hkf1.2.2.2.2.2.1; have kf16 := Hkf1.2.2.2.2.2.2.1; have kf17 := Hkf1.2.2.2.2.2.2.2; clear Hkf1
  have zt1 : w.heap.size + 1 < w1.heap.size := by have := b1.size; first | omega | (simp at this; omega)
  have Ht1 : C8 w1 (w.heap.size + 1) (.int .i64 5) (.int .i64 0) (.int .i64 0) (.int .i64 0) (.int .i64 0) (.int .i64 0) (.string ⟨#[67, 79, 85, 78, 84]⟩) (.slice none 0 0) := by refine ⟨?_, ?_, ?_, ?_, ?_, ?_, ?_, ?_⟩ <;> exact b1.cell (show w.heap.size + 1 ≠ R by omega) (by simp [go_sem])
  have t10 := Ht1.1; have t11 := Ht1.2.1; have t12 := Ht1.2.2.1; have t13 := Ht1.2.2.2.1; have t14 := Ht1.2.2.2.2.1; have t15 := Ht1.2.2.2.2.2.1; have t16 := Ht1.2.2.2.2.2.2.1; have t17 := Ht1.2.2.2.2.2.2.2; clear Ht1
  have Htf1 : F8 w1 (w.heap.size + 1) := by refine ⟨?_, ?_, ?_, ?_, ?_, ?_, ?_, ?_⟩ <;> exact b1.frozen (show w.heap.size + 1 ≠ R by omega) (by first | omega | (simp; done) | (simp; omega)) (by simp [go_sem])
  have tf10 := Htf1.1; have tf11 := Htf1.2.1; have tf12 := Htf1.2.2.1; have tf13 := Htf1.2.2.2.1; have tf14 := Htf1.2.2.2.2.1; have tf15 := Htf1.2.2.2.2.2.1; have tf16 := Htf1.2.2.2.2.2.2.1; have tf17 := Htf1.2.2.2.2.2.2.2; clear Htf1
  clear b1
  go_wp2_with fail
  refine (HN.out _ (by repeat' (first | (with_reducible exact HR1.out) | (with_reducible refine RL.far ?_ (by omega) _ _) | (with_reducible refine RL.alloc ?_ _) | (with_reducible refine RL.drewN ?_ _) | (with_reducible refine RL.drew ?_)))).mono ?_; rintro e w2 H2
  cases lr with
  | bad z =>
    obtain ⟨rfl, b2⟩ := H2
    have hk2 : res = .bad z := HK.out
    subst hk2
    exact ⟨rfl, rfl, But.trans (by (repeat' (first | (with_reducible exact h1) | (with_reducible refine But.setR ?_ _ _) | (with_reducible refine But.setN ?_ (by omega) _ _) | (with_reducible refine But.alloc ?_ _) | (with_reducible refine But.drewN ?_ _) | (with_reducible refine But.drew ?_)))) b2⟩
  | ok ks q =>
    obtain ⟨g0, cp, rfl, ⟨hg0, hg1, hkl⟩, r2, b2⟩ := H2
    have HR2 : Hid (RL w2 R g cap B L E q) := Lib.hid r2
    clear r2
    have hg0' : w.heap.size + 1 < g0 := by first | omega | (simp at hg0; omega)
    have HL2 : Hid (KL w2 (fun b => w.heap.size + 1 < b) ks g0 0) := Lib.hid (KL.imp (fun b hb => by have hb2 : _ ≤ b := hb; show w.heap.size + 1 < b; first | omega | (simp at hb2; omega)) hkl)
    clear hkl hg0
    have h2 : But R w w2 := But.trans (by (repeat' (first | (with_reducible exact h1) | (with_reducible refine But.setR ?_ _ _) | (with_reducible refine But.setN ?_ (by omega) _ _) | (with_reducible refine But.alloc ?_ _) | (with_reducible refine But.drewN ?_ _) | (with_reducible refine But.drew ?_)))) b2
    have y2 : w.heap.size ≤ w2.heap.size := h2.size
    have zk2 : w.heap.size < w2.heap.size := by have := b2.size; first | omega | (simp at this; omega)
    have Hk2 := c8_lift (B := w.heap.size) (fun j v hv => b2.cell (show w.heap.size ≠ R by omega) (by repeat' (first | (with_reducible exact hv) | (with_reducible refine kc_set ?_ (by omega) _ _) | (with_reducible refine kc_alloc ?_ _) | (with_reducible refine kc_drewN ?_ _) | (with_reducible refine kc_drew ?_)))) k10 k11 k12 k13 k14 k15 k16 k17
    have k20 := Hk2.1; have k21 := Hk2.2.1; have k22 := Hk2.2.2.1; have k23 := Hk2.2.2.2.1; have k24 := Hk2.2.2.2.2.1; have k25 := Hk2.2.2.2.2.2.1; have k26 := Hk2.2.2.2.2.2.2.1; have k27 := Hk2.2.2.2.2.2.2.2; clear Hk2
    have Hkf2 := f8_lift (B := w.heap.size) (fun j hv => b2.frozen (show w.heap.size ≠ R by omega) (by first | omega | (simp; done) | (simp; omega)) (by repeat' (first | (with_reducible exact hv) | (with_reducible refine kf_set ?_ (by omega) _ _) | (with_reducible refine kf_alloc ?_ (by first | omega | (simp; omega)) _) | (with_reducible refine kf_drewN ?_ _) | (with_reducible refine kf_drew ?_)))) kf10 kf11 kf12 kf13 kf14 kf15 kf16 kf17
    have kf20 := Hkf2.1; have kf21 := Hkf2.2.1; have kf22 := Hkf2.2.2.1; have kf23 := Hkf2.2.2.2.1; have kf24 := Hkf2.2.2.2.2.1; have kf25 := Hkf2.2.2.2.2.2.1; have kf26 := Hkf2.2.2.2.2.2.2.1; have kf27 := Hkf2.2.2.2.2.2.2.2; clear Hkf2
    have zt2 : w.heap.size + 1 < w2.heap.size := by have := b2.size; first | omega | (simp at this; omega)
    have Ht2 := c8_lift (B := w.heap.size + 1) (fun j v hv => b2.cell (show w.heap.size + 1 ≠ R by omega) (by repeat' (first | (with_reducible exact hv) | (with_reducible refine kc_set ?_ (by omega) _ _) | (with_reducible refine kc_alloc ?_ _) | (with_reducible refine kc_drewN ?_ _) | (with_reducible refine kc_drew ?_)))) t10 t11 t12 t13 t14 t15 t16 t17
    have t20 := Ht2.1; have t21 := Ht2.2.1; have t22 := Ht2.2.2.1; have t23 := Ht2.2.2.2.1; have t24 := Ht2.2.2.2.2.1; have t25 := Ht2.2.2.2.2.2.1; have t26 := Ht2.2.2.2.2.2.2.1; have t27 := Ht2.2.2.2.2.2.2.2; clear Ht2
    have Htf2 := f8_lift (B := w.heap.size + 1) (fun j hv => b2.frozen (show w.heap.size + 1 ≠ R by omega) (by first | omega | (simp; done) | (simp; omega)) (by repeat' (first | (with_reducible exact hv) | (with_reducible refine kf_set ?_ (by omega) _ _) | (with_reducible refine kf_alloc ?_ (by first | omega | (simp; omega)) _) | (with_reducible refine kf_drewN ?_ _) | (with_reducible refine kf_drew ?_)))) tf10 tf11 tf12 tf13 tf14 tf15 tf16 tf17
    have tf20 := Htf2.1; have tf21 := Htf2.2.1; have tf22 := Htf2.2.2.1; have tf23 := Htf2.2.2.2.1; have tf24 := Htf2.2.2.2.2.1; have tf25 := Htf2.2.2.2.2.2.1; have tf26 := Htf2.2.2.2.2.2.2.1; have tf27 := Htf2.2.2.2.2.2.2.2; clear Htf2
    clear b2 k10 k11 k12 k13 k14 k15 k16 k17 kf10 kf11 kf12 kf13 kf14 kf15 kf16 kf17 zk1 t10 t11 t12 t13 t14 t15 t16 t17 tf10 tf11 tf12 tf13 tf14 tf15 tf16 tf17 zt1
    go_wp2_with fail
    have hk : mustF L E q [41] (fun q => some (.ok (callT [67, 79, 85, 78, 84] ks) q)) = some res := HK.out
    unfold mustF at hk
    cases hm2 : isMark L q [41] with
    | false =>
      rw [if_neg (by rw [hm2]; decide)] at hk
      obtain rfl := Option.some.inj hk
      have HM := Lib.hid hm2
      clear hm2 hk
      refine (hMoff.out _ q (by repeat' (first | (with_reducible exact HR2.out) | (with_reducible refine RL.far ?_ (by omega) _ _) | (with_reducible refine RL.alloc ?_ _) | (with_reducible refine RL.drewN ?_ _) | (with_reducible refine RL.drew ?_))) HM.out).mono ?_; rintro e w9 ⟨rfl, b9⟩
      exact ⟨rfl, rfl, But.trans (by (repeat' (first | (with_reducible exact h2) | (with_reducible refine But.setR ?_ _ _) | (with_reducible refine But.setN ?_ (by omega) _ _) | (with_reducible refine But.alloc ?_ _) | (with_reducible refine But.drewN ?_ _) | (with_reducible refine But.drew ?_)))) b9⟩
    | true =>
      rw [if_pos hm2] at hk
      obtain rfl := Option.some.inj hk
      have HM := Lib.hid hm2
      clear hm2 hk
      refine (hMon.out _ q (by repeat' (first | (with_reducible exact HR2.out) | (with_reducible refine RL.far ?_ (by omega) _ _) | (with_reducible refine RL.alloc ?_ _) | (with_reducible refine RL.drewN ?_ _) | (with_reducible refine RL.drew ?_))) HM.out).mono ?_; rintro e w3 ⟨rfl, r3, b3⟩
      have HR3 : Hid (RL w3 R g cap B L E (q + 1)) := Lib.hid r3
      clear r3
      have HL3 : Hid (KL w3 (fun b => w.heap.size + 1 < b) ks g0 0) := Lib.hid (KL.kept (Kept.but (by (repeat' (first | (with_reducible exact Kept.refl _ _) | (with_reducible refine Kept.set1 ?_ (by omega) _ _) | (with_reducible refine Kept.setNew ?_ (by omega) _ _) | (with_reducible refine Kept.alloc ?_ _) | (with_reducible refine Kept.drewN ?_ _)))) b3 (by show ¬ (w.heap.size + 1 < R); omega)) hg0' HL2.out)
      have hg3 : g0 < w3.heap.size := by have := b3.size; first | omega | (simp at this; omega)
      clear HL2
      have h3 : But R w w3 := But.trans (by (repeat' (first | (with_reducible exact h2) | (with_reducible refine But.setR ?_ _ _) | (with_reducible refine But.setN ?_ (by omega) _ _) | (with_reducible refine But.alloc ?_ _) | (with_reducible refine But.drewN ?_ _) | (with_reducible refine But.drew ?_)))) b3
      have y3 : w.heap.size ≤ w3.heap.size := h3.size
      have zk3 : w.heap.size < w3.heap.size := by have := b3.size; first | omega | (simp at this; omega)
      have Hk3 := c8_lift (B := w.heap.size) (fun j v hv => b3.cell (show w.heap.size ≠ R by omega) (by repeat' (first | (with_reducible exact hv) | (with_reducible refine kc_set ?_ (by omega) _ _) | (with_reducible refine kc_alloc ?_ _) | (with_reducible refine kc_drewN ?_ _) | (with_reducible refine kc_drew ?_)))) k20 k21 k22 k23 k24 k25 k26 k27
      have k30 := Hk3.1; have k31 := Hk3.2.1; have k32 := Hk3.2.2.1; have k33 := Hk3.2.2.2.1; have k34 := Hk3.2.2.2.2.1; have k35 := Hk3.2.2.2.2.2.1; have k36 := Hk3.2.2.2.2.2.2.1; have k37 := Hk3.2.2.2.2.2.2.2; clear Hk3
      have Hkf3 := f8_lift (B := w.heap.size) (fun j hv => b3.frozen (show w.heap.size ≠ R by omega) (by first | omega | (simp; done) | (simp; omega)) (by repeat' (first | (with_reducible exact hv) | (with_reducible refine kf_set ?_ (by omega) _ _) | (with_reducible refine kf_alloc ?_ (by first | omega | (simp; omega)) _) | (with_reducible refine kf_drewN ?_ _) | (with_reducible refine kf_drew ?_)))) kf20 kf21 kf22 kf23 kf24 kf25 kf26 kf27
      have kf30 := Hkf3.1; have kf31 := Hkf3.2.1; have kf32 := Hkf3.2.2.1; have kf33 := Hkf3.2.2.2.1; have kf34 := Hkf3.2.2.2.2.1; have kf35 := Hkf3.2.2.2.2.2.1; have kf36 := Hkf3.2.2.2.2.2.2.1; have kf37 := Hkf3.2.2.2.2.2.2.2; clear Hkf3
      have zt3 : w.heap.size + 1 < w3.heap.size := by have := b3.size; first | omega | (simp at this; omega)
      have Ht3 : C8 w3 (w.heap.size + 1) (.int .i64 5) (.int .i64 0) (.int .i64 0) (.int .i64 0) (.int .i64 0) (.int .i64 0) (.string ⟨#[67, 79, 85, 78, 84]⟩) (.slice (some ⟨g0, 0, none⟩) ks.length cp) := by refine ⟨?_, ?_, ?_, ?_, ?_, ?_, ?_, ?_⟩ <;> exact b3.cell (show w.heap.size + 1 ≠ R by omega) (by first | (simp [go_sem]; done) | (simp [go_sem, t20, t21, t22, t23, t24, t25, t26, t27]; done))
      have t30 := Ht3.1; have t31 := Ht3.2.1; have t32 := Ht3.2.2.1; have t33 := Ht3.2.2.2.1; have t34 := Ht3.2.2.2.2.1; have t35 := Ht3.2.2.2.2.2.1; have t36 := Ht3.2.2.2.2.2.2.1; have t37 := Ht3.2.2.2.2.2.2.2; clear Ht3
      have Htf3 := f8_lift (B := w.heap.size + 1) (fun j hv => b3.frozen (show w.heap.size + 1 ≠ R by omega) (by first | omega | (simp; done) | (simp; omega)) (by simp [go_sem, hv])) tf20 tf21 tf22 tf23 tf24 tf25 tf26 tf27
      have tf30 := Htf3.1; have tf31 := Htf3.2.1; have tf32 := Htf3.2.2.1; have tf33 := Htf3.2.2.2.1; have tf34 := Htf3.2.2.2.2.1; have tf35 := Htf3.2.2.2.2.2.1; have tf36 := Htf3.2.2.2.2.2.2.1; have tf37 := Htf3.2.2.2.2.2.2.2; clear Htf3
      clear b3 k20 k21 k22 k23 k24 k25 k26 k27 kf20 kf21 kf22 kf23 kf24 kf25 kf26 kf27 zk2 t20 t21 t22 t23 t24 t25 t26 t27 tf20 tf21 tf22 tf23 tf24 tf25 tf26 tf27 zt2
      go_wp2_with fail
      exact bodyPost_ret (v := .agg #[.int .i64 5, .int .i64 0, .int .i64 0, .int .i64 0, .int .i64 0, .int .i64 0, .string ⟨#[67, 79, 85, 78, 84]⟩, .slice (some ⟨g0, 0, none⟩) ks.length cp]) (by simp [results, Tryz.results103, go_sem, k30, k31, k32, k33, k34, k35, k36, k37, t30, t31, t32, t33, t34, t35, t36, t37, zk3, zt3]) rfl ⟨⟨5, 0, 0, 0, 0, 0, ⟨#[67, 79, 85, 78, 84]⟩, some ⟨g0, 0, none⟩, ks.length, cp⟩, rfl, TV.imp (P := fun b => w.heap.size + 1 < b) (tv_row (ks := ks) 5 [67, 79, 85, 78, 84] hg0' (by first | omega | (simp; omega)) (KL.kept (by (repeat' (first | (with_reducible exact Kept.refl _ _) | (with_reducible refine Kept.set1 ?_ (by omega) _ _) | (with_reducible refine Kept.setNew ?_ (by omega) _ _) | (with_reducible refine Kept.alloc ?_ _) | (with_reducible refine Kept.drewN ?_ _)))) hg0' HL3.out)) fun b (hb : w.heap.size + 1 < b) => by show w.heap.size ≤ b; omega, (by repeat' (first | (with_reducible exact HR3.out) | (with_reducible refine RL.far ?_ (by omega) _ _) | (with_reducible refine RL.alloc ?_ _) | (with_reducible refine RL.drewN ?_ _) | (with_reducible refine RL.drew ?_))), by (repeat' (first | (with_reducible exact h3) | (with_reducible refine But.setR ?_ _ _) | (with_reducible refine But.setN ?_ (by omega) _ _) | (with_reducible refine But.alloc ?_ _) | (with_reducible refine But.drewN ?_ _) | (with_reducible refine But.drew ?_)))⟩
set_option maxHeartbeats 2000000 in
set_option maxRecDepth 10000 in
theorem pcall_other {w : World} {R g cap B : Nat} {L : List Tok} {E p : Nat} (hL : L.length ≤ 1000) (hc : cap ≤ maxLen) (hG : GoodXL L) (hr : RL w R g cap B L E p) {wd : List UInt8} (e1 : (wd == [73, 70]) = false) (e2 : (wd == [67, 79, 85, 78, 84]) = false) (hm : isMark L p [40] = true) {lr : LRes} {res : Res} (hN : ∀ w', RL w' R g cap B L E (p + 1) → Calls Tryz.prog 116 #[.pointer (some ⟨R, 0, none⟩), .func (.func 118) #[.pointer (some ⟨R, 0, none⟩)] #[]] w' (PostL w' R g cap B L E lr)) (hk : CallR L E wd lr res) :
    Calls Tryz.prog 103 #[.pointer (some ⟨R, 0, none⟩), .string ⟨wd.toArray⟩] w (PostP w R g cap B L E res) := by
  have HN := Lib.hid hN
  have HK := Lib.hid hk
  have hM := Lib.hid (fun w hr => pmust_on (w := w) (R := R) (g := g) (cap := cap) (B := B) (L := L) (E := E) (p := p) hL hc hG ⟨#[40]⟩ (by decide) (by decide) hr hm)
  have hMon := Lib.hid (fun w q hr hm => pmust_on (w := w) (R := R) (g := g) (cap := cap) (B := B) (L := L) (E := E) (p := q) hL hc hG ⟨#[41]⟩ (by decide) (by decide) hr hm)
  have hMoff := Lib.hid (fun w q hr hm => pmust_off (w := w) (R := R) (g := g) (cap := cap) (B := B) (L := L) (E := E) (p := q) hL hc hG ⟨#[41]⟩ (by decide) (by decide) hr hm)
  clear hN hk hm
  have HR := Lib.hid hr
  have lR := hr.lo.1
  have lB := hr.lo.2.2
  clear hr
  go_enter Tryz.func103, Tryz.ntmps103
  go_wp2_with fail
  refine (hM.out _ (by repeat' (first | (with_reducible exact HR.out) | (with_reducible refine RL.far ?_ (by omega) _ _) | (with_reducible refine RL.alloc ?_ _) | (with_reducible refine RL.drewN ?_ _) | (with_reducible refine RL.drew ?_)))).mono ?_; rintro e w1 ⟨rfl, r1, b1⟩
  have HR1 : Hid (RL w1 R g cap B L E (p + 1)) := Lib.hid (r1)
  clear r1
  have h1 : But R w w1 := But.trans (by (repeat' (first | (with_reducible exact But.refl _ _) | (with_reducible refine But.setR ?_ _ _) | (with_reducible refine But.setN ?_ (by omega) _ _) | (with_reducible refine But.alloc ?_ _) | (with_reducible refine But.drewN ?_ _) | (with_reducible refine But.drew ?_)))) b1
  have y1 : w.heap.size ≤ w1.heap.size := h1.size
  have zk1 : w.heap.size < w1.heap.size := by have := b1.size; first | omega | (simp at this; omega)
  have Hk1 : C8 w1 (w.heap.size) (.int .i64 0) (.int .i64 0) (.int .i64 0) (.int .i64 0) (.int .i64 0) (.int .i64 0) (.string ⟨#[]⟩) (.slice none 0 0) := by refine ⟨?_, ?_, ?_, ?_, ?_, ?_, ?_, ?_⟩ <;> exact b1.cell (show w.heap.size ≠ R by omega) (by simp [go_sem])
  have k10 := Hk1.1; have k11 := Hk1.2.1; have k12 := Hk1.2.2.1; have k13 := Hk1.2.2.2.1; have k14 := Hk1.2.2.2.2.1; have k15 := Hk1.2.2.2.2.2.1; have k16 := Hk1.2.2.2.2.2.2.1; have k17 := Hk1.2.2.2.2.2.2.2; clear Hk1
  have Hkf1 : F8 w1 (w.heap.size) := by refine ⟨?_, ?_, ?_, ?_, ?_, ?_, ?_, ?_⟩ <;> exact b1.frozen (show w.heap.size ≠ R by omega) (by first | omega | (simp; done) | (simp; omega)) (by simp [go_sem])
  have kf10 := Hkf1.1; have kf11 := Hkf1.2.1; have kf12 := Hkf1.2.2.1; have kf13 := Hkf1.2.2.2.1; have kf14 := Hkf1.2.2.2.2.1; have kf15 := Hkf1.2.2.2.2.2.1; have kf16 := Hkf1.2.2.2.2.2.2.1; have kf17 := Hkf1.2.2.2.2.2.2.2; clear Hkf1
  have zt1 : w.heap.size + 1 < w1.heap.size := by have := b1.size; first | omega | (simp at this; omega)
  have Ht1 : C8 w1 (w.heap.size + 1) (.int .i64 5) (.int .i64 0) (.int .i64 0) (.int .i64 0) (.int .i64 0) (.int .i64 0) (.string ⟨wd.toArray⟩) (.slice none 0 0) := by refine ⟨?_, ?_, ?_, ?_, ?_, ?_, ?_, ?_⟩ <;> exact b1.cell (show w.heap.size + 1 ≠ R by omega) (by simp [go_sem])
  have t10 := Ht1.1; have t11 := Ht1.2.1; have t12 := Ht1.2.2.1; have t13 := Ht1.2.2.2.1; have t14 := Ht1.2.2.2.2.1; have t15 := Ht1.2.2.2.2.2.1; have t16 := Ht1.2.2.2.2.2.2.1; have t17 := Ht1.2.2.2.2.2.2.2; clear Ht1
  have Htf1 : F8 w1 (w.heap.size + 1) := by refine ⟨?_, ?_, ?_, ?_, ?_, ?_, ?_, ?_⟩ <;> exact b1.frozen (show w.heap.size + 1 ≠ R by omega) (by first | omega | (simp; done) | (simp; omega)) (by simp [go_sem])
  have tf10 := Htf1.1; have tf11 := Htf1.2.1; have tf12 := Htf1.2.2.1; have tf13 := Htf1.2.2.2.1; have tf14 := Htf1.2.2.2.2.1; have tf15 := Htf1.2.2.2.2.2.1; have tf16 := Htf1.2.2.2.2.2.2.1; have tf17 := Htf1.2.2.2.2.2.2.2; clear Htf1
  clear b1
  go_wp2_with fail
  refine (HN.out _ (by repeat' (first | (with_reducible exact HR1.out) | (with_reducible refine RL.far ?_ (by omega) _ _) | (with_reducible refine RL.alloc ?_ _) | (with_reducible refine RL.drewN ?_ _) | (with_reducible refine RL.drew ?_)))).mono ?_; rintro e w2 H2
  cases lr with
  | bad z =>
    obtain ⟨rfl, b2⟩ := H2
    have hk2 : res = .bad z := HK.out
    subst hk2
    exact ⟨rfl, rfl, But.trans (by (repeat' (first | (with_reducible exact h1) | (with_reducible refine But.setR ?_ _ _) | (with_reducible refine But.setN ?_ (by omega) _ _) | (with_reducible refine But.alloc ?_ _) | (with_reducible refine But.drewN ?_ _) | (with_reducible refine But.drew ?_)))) b2⟩
  | ok ks q =>
    obtain ⟨g0, cp, rfl, ⟨hg0, hg1, hkl⟩, r2, b2⟩ := H2
    have HR2 : Hid (RL w2 R g cap B L E q) := Lib.hid r2
    clear r2
    have hg0' : w.heap.size + 1 < g0 := by first | omega | (simp at hg0; omega)
    have HL2 : Hid (KL w2 (fun b => w.heap.size + 1 < b) ks g0 0) := Lib.hid (KL.imp (fun b hb => by have hb2 : _ ≤ b := hb; show w.heap.size + 1 < b; first | omega | (simp at hb2; omega)) hkl)
    clear hkl hg0
    have h2 : But R w w2 := But.trans (by (repeat' (first | (with_reducible exact h1) | (with_reducible refine But.setR ?_ _ _) | (with_reducible refine But.setN ?_ (by omega) _ _) | (with_reducible refine But.alloc ?_ _) | (with_reducible refine But.drewN ?_ _) | (with_reducible refine But.drew ?_)))) b2
    have y2 : w.heap.size ≤ w2.heap.size := h2.size
    have zk2 : w.heap.size < w2.heap.size := by have := b2.size; first | omega | (simp at this; omega)
    have Hk2 := c8_lift (B := w.heap.size) (fun j v hv => b2.cell (show w.heap.size ≠ R by omega) (by repeat' (first | (with_reducible exact hv) | (with_reducible refine kc_set ?_ (by omega) _ _) | (with_reducible refine kc_alloc ?_ _) | (with_reducible refine kc_drewN ?_ _) | (with_reducible refine kc_drew ?_)))) k10 k11 k12 k13 k14 k15 k16 k17
    have k20 := Hk2.1; have k21 := Hk2.2.1; have k22 := Hk2.2.2.1; have k23 := Hk2.2.2.2.1; have k24 := Hk2.2.2.2.2.1; have k25 := Hk2.2.2.2.2.2.1; have k26 := Hk2.2.2.2.2.2.2.1; have k27 := Hk2.2.2.2.2.2.2.2; clear Hk2
    have Hkf2 := f8_lift (B := w.heap.size) (fun j hv => b2.frozen (show w.heap.size ≠ R by omega) (by first | omega | (simp; done) | (simp; omega)) (by repeat' (first | (with_reducible exact hv) | (with_reducible refine kf_set ?_ (by omega) _ _) | (with_reducible refine kf_alloc ?_ (by first | omega | (simp; omega)) _) | (with_reducible refine kf_drewN ?_ _) | (with_reducible refine kf_drew ?_)))) kf10 kf11 kf12 kf13 kf14 kf15 kf16 kf17
    have kf20 := Hkf2.1; have kf21 := Hkf2.2.1; have kf22 := Hkf2.2.2.1; have kf23 := Hkf2.2.2.2.1; have kf24 := Hkf2.2.2.2.2.1; have kf25 := Hkf2.2.2.2.2.2.1; have kf26 := Hkf2.2.2.2.2.2.2.1; have kf27 := Hkf2.2.2.2.2.2.2.2; clear Hkf2
    have zt2 : w.heap.size + 1 < w2.heap.size := by have := b2.size; first | omega | (simp at this; omega)
    have Ht2 := c8_lift (B := w.heap.size + 1) (fun j v hv => b2.cell (show w.heap.size + 1 ≠ R by omega) (by repeat' (first | (with_reducible exact hv) | (with_reducible refine kc_set ?_ (by omega) _ _) | (with_reducible refine kc_alloc ?_ _) | (with_reducible refine kc_drewN ?_ _) | (with_reducible refine kc_drew ?_)))) t10 t11 t12 t13 t14 t15 t16 t17
    have t20 := Ht2.1; have t21 := Ht2.2.1; have t22 := Ht2.2.2.1; have t23 := Ht2.2.2.2.1; have t24 := Ht2.2.2.2.2.1; have t25 := Ht2.2.2.2.2.2.1; have t26 := Ht2.2.2.2.2.2.2.1; have t27 := Ht2.2.2.2.2.2.2.2; clear Ht2
    have Htf2 := f8_lift (B := w.heap.size + 1) (fun j hv => b2.frozen (show w.heap.size + 1 ≠ R by omega) (by first | omega | (simp; done) | (simp; omega)) (by repeat' (first | (with_reducible exact hv) | (with_reducible refine kf_set ?_ (by omega) _ _) | (with_reducible refine kf_alloc ?_ (by first | omega | (simp; omega)) _) | (with_reducible refine kf_drewN ?_ _) | (with_reducible refine kf_drew ?_)))) tf10 tf11 tf12 tf13 tf14 tf15 tf16 tf17
    have tf20 := Htf2.1; have tf21 := Htf2.2.1; have tf22 := Htf2.2.2.1; have tf23 := Htf2.2.2.2.1; have tf24 := Htf2.2.2.2.2.1; have tf25 := Htf2.2.2.2.2.2.1; have tf26 := Htf2.2.2.2.2.2.2.1; have tf27 := Htf2.2.2.2.2.2.2.2; clear Htf2
    clear b2 k10 k11 k12 k13 k14 k15 k16 k17 kf10 kf11 kf12 kf13 kf14 kf15 kf16 kf17 zk1 t10 t11 t12 t13 t14 t15 t16 t17 tf10 tf11 tf12 tf13 tf14 tf15 tf16 tf17 zt1
    go_wp2_with fail
    have hk : mustF L E q [41] (fun q => some (.ok (callT wd ks) q)) = some res := HK.out
    unfold mustF at hk
    cases hm2 : isMark L q [41] with
    | false =>
      rw [if_neg (by rw [hm2]; decide)] at hk
      obtain rfl := Option.some.inj hk
      have HM := Lib.hid hm2
      clear hm2 hk
      refine (hMoff.out _ q (by repeat' (first | (with_reducible exact HR2.out) | (with_reducible refine RL.far ?_ (by omega) _ _) | (with_reducible refine RL.alloc ?_ _) | (with_reducible refine RL.drewN ?_ _) | (with_reducible refine RL.drew ?_))) HM.out).mono ?_; rintro e w9 ⟨rfl, b9⟩
      exact ⟨rfl, rfl, But.trans (by (repeat' (first | (with_reducible exact h2) | (with_reducible refine But.setR ?_ _ _) | (with_reducible refine But.setN ?_ (by omega) _ _) | (with_reducible refine But.alloc ?_ _) | (with_reducible refine But.drewN ?_ _) | (with_reducible refine But.drew ?_)))) b9⟩
    | true =>
      rw [if_pos hm2] at hk
      obtain rfl := Option.some.inj hk
      have HM := Lib.hid hm2
      clear hm2 hk
      refine (hMon.out _ q (by repeat' (first | (with_reducible exact HR2.out) | (with_reducible refine RL.far ?_ (by omega) _ _) | (with_reducible refine RL.alloc ?_ _) | (with_reducible refine RL.drewN ?_ _) | (with_reducible refine RL.drew ?_))) HM.out).mono ?_; rintro e w3 ⟨rfl, r3, b3⟩
      have HR3 : Hid (RL w3 R g cap B L E (q + 1)) := Lib.hid r3
      clear r3
      have HL3 : Hid (KL w3 (fun b => w.heap.size + 1 < b) ks g0 0) := Lib.hid (KL.kept (Kept.but (by (repeat' (first | (with_reducible exact Kept.refl _ _) | (with_reducible refine Kept.set1 ?_ (by omega) _ _) | (with_reducible refine Kept.setNew ?_ (by omega) _ _) | (with_reducible refine Kept.alloc ?_ _) | (with_reducible refine Kept.drewN ?_ _)))) b3 (by show ¬ (w.heap.size + 1 < R); omega)) hg0' HL2.out)
      have hg3 : g0 < w3.heap.size := by have := b3.size; first | omega | (simp at this; omega)
      clear HL2
      have h3 : But R w w3 := But.trans (by (repeat' (first | (with_reducible exact h2) | (with_reducible refine But.setR ?_ _ _) | (with_reducible refine But.setN ?_ (by omega) _ _) | (with_reducible refine But.alloc ?_ _) | (with_reducible refine But.drewN ?_ _) | (with_reducible refine But.drew ?_)))) b3
      have y3 : w.heap.size ≤ w3.heap.size := h3.size
      have zk3 : w.heap.size < w3.heap.size := by have := b3.size; first | omega | (simp at this; omega)
      have Hk3 := c8_lift (B := w.heap.size) (fun j v hv => b3.cell (show w.heap.size ≠ R by omega) (by repeat' (first | (with_reducible exact hv) | (with_reducible refine kc_set ?_ (by omega) _ _) | (with_reducible refine kc_alloc ?_ _) | (with_reducible refine kc_drewN ?_ _) | (with_reducible refine kc_drew ?_)))) k20 k21 k22 k23 k24 k25 k26 k27
      have k30 := Hk3.1; have k31 := Hk3.2.1; have k32 := Hk3.2.2.1; have k33 := Hk3.2.2.2.1; have k34 := Hk3.2.2.2.2.1; have k35 := Hk3.2.2.2.2.2.1; have k36 := Hk3.2.2.2.2.2.2.1; have k37 := Hk3.2.2.2.2.2.2.2; clear Hk3
      have Hkf3 := f8_lift (B := w.heap.size) (fun j hv => b3.frozen (show w.heap.size ≠ R by omega) (by first | omega | (simp; done) | (simp; omega)) (by repeat' (first | (with_reducible exact hv) | (with_reducible refine kf_set ?_ (by omega) _ _) | (with_reducible refine kf_alloc ?_ (by first | omega | (simp; omega)) _) | (with_reducible refine kf_drewN ?_ _) | (with_reducible refine kf_drew ?_)))) kf20 kf21 kf22 kf23 kf24 kf25 kf26 kf27
      have kf30 := Hkf3.1; have kf31 := Hkf3.2.1; have kf32 := Hkf3.2.2.1; have kf33 := Hkf3.2.2.2.1; have kf34 := Hkf3.2.2.2.2.1; have kf35 := Hkf3.2.2.2.2.2.1; have kf36 := Hkf3.2.2.2.2.2.2.1; have kf37 := Hkf3.2.2.2.2.2.2.2; clear Hkf3
      have zt3 : w.heap.size + 1 < w3.heap.size := by have := b3.size; first | omega | (simp at this; omega)
      have Ht3 : C8 w3 (w.heap.size + 1) (.int .i64 5) (.int .i64 0) (.int .i64 0) (.int .i64 0) (.int .i64 0) (.int .i64 0) (.string ⟨wd.toArray⟩) (.slice (some ⟨g0, 0, none⟩) ks.length cp) := by refine ⟨?_, ?_, ?_, ?_, ?_, ?_, ?_, ?_⟩ <;> exact b3.cell (show w.heap.size + 1 ≠ R by omega) (by first | (simp [go_sem]; done) | (simp [go_sem, t20, t21, t22, t23, t24, t25, t26, t27]; done))
      have t30 := Ht3.1; have t31 := Ht3.2.1; have t32 := Ht3.2.2.1; have t33 := Ht3.2.2.2.1; have t34 := Ht3.2.2.2.2.1; have t35 := Ht3.2.2.2.2.2.1; have t36 := Ht3.2.2.2.2.2.2.1; have t37 := Ht3.2.2.2.2.2.2.2; clear Ht3
      have Htf3 := f8_lift (B := w.heap.size + 1) (fun j hv => b3.frozen (show w.heap.size + 1 ≠ R by omega) (by first | omega | (simp; done) | (simp; omega)) (by simp [go_sem, hv])) tf20 tf21 tf22 tf23 tf24 tf25 tf26 tf27
      have tf30 := Htf3.1; have tf31 := Htf3.2.1; have tf32 := Htf3.2.2.1; have tf33 := Htf3.2.2.2.1; have tf34 := Htf3.2.2.2.2.1; have tf35 := Htf3.2.2.2.2.2.1; have tf36 := Htf3.2.2.2.2.2.2.1; have tf37 := Htf3.2.2.2.2.2.2.2; clear Htf3
      clear b3 k20 k21 k22 k23 k24 k25 k26 k27 kf20 kf21 kf22 kf23 kf24 kf25 kf26 kf27 zk2 t20 t21 t22 t23 t24 t25 t26 t27 tf20 tf21 tf22 tf23 tf24 tf25 tf26 tf27 zt2
      go_wp2_with fail
      exact bodyPost_ret (v := .agg #[.int .i64 5, .int .i64 0, .int .i64 0, .int .i64 0, .int .i64 0, .int .i64 0, .string ⟨wd.toArray⟩, .slice (some ⟨g0, 0, none⟩) ks.length cp]) (by simp [results, Tryz.results103, go_sem, k30, k31, k32, k33, k34, k35, k36, k37, t30, t31, t32, t33, t34, t35, t36, t37, zk3, zt3]) rfl ⟨⟨5, 0, 0, 0, 0, 0, ⟨wd.toArray⟩, some ⟨g0, 0, none⟩, ks.length, cp⟩, rfl, TV.imp (P := fun b => w.heap.size + 1 < b) (tv_row (ks := ks) 5 wd hg0' (by first | omega | (simp; omega)) (KL.kept (by (repeat' (first | (with_reducible exact Kept.refl _ _) | (with_reducible refine Kept.set1 ?_ (by omega) _ _) | (with_reducible refine Kept.setNew ?_ (by omega) _ _) | (with_reducible refine Kept.alloc ?_ _) | (with_reducible refine Kept.drewN ?_ _)))) hg0' HL3.out)) fun b (hb : w.heap.size + 1 < b) => by show w.heap.size ≤ b; omega, (by repeat' (first | (with_reducible exact HR3.out) | (with_reducible refine RL.far ?_ (by omega) _ _) | (with_reducible refine RL.alloc ?_ _) | (with_reducible refine RL.drewN ?_ _) | (with_reducible refine RL.drew ?_))), by (repeat' (first | (with_reducible exact h3) | (with_reducible refine But.setR ?_ _ _) | (with_reducible refine But.setN ?_ (by omega) _ _) | (with_reducible refine But.alloc ?_ _) | (with_reducible refine But.drewN ?_ _) | (with_reducible refine But.drew ?_)))⟩
end Go.Proofs.YtahdlijkohmdfaaGreatDoor
