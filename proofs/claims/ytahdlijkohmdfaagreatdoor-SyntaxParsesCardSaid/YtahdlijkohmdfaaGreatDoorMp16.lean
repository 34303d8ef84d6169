/- Texts joined: RdI. -/
import Derived.Test.YtahdlijkohmdfaaGreatDoorMp15
set_option linter.all false
set_option linter.unusedVariables false
set_option linter.unusedSimpArgs false
namespace Go.Proofs.YtahdlijkohmdfaaGreatDoor
open Go.RowKit

def CallR (L : List Tok) (E : Nat) (wd : List UInt8) (lr : LRes) (res : Res) : Prop := match lr with
  | .bad z => res = .bad z
  | .ok ks q => mustF L E q [41] (fun q => some (.ok (callT wd ks) q)) = some res
set_option maxHeartbeats 2000000 in
set_option maxRecDepth 10000 in
theorem pcall_off {w : World} {R g cap B : Nat} {L : List Tok} {E p : Nat} (hL : L.length ≤ 1000) (hc : cap ≤ maxLen) (hG : GoodXL L) (hr : RL w R g cap B L E p) (wd : List UInt8) (hm : isMark L p [40] = false) :
    Calls Tryz.prog 103 #[.pointer (some ⟨R, 0, none⟩), .string ⟨wd.toArray⟩] w (PostP w R g cap B L E (.bad (whr L E p))) := by
  have hN := Lib.hid (fun w hr => pmust_off (w := w) (R := R) (g := g) (cap := cap) (B := B) (L := L) (E := E) (p := p) hL hc hG ⟨#[40]⟩ (by decide) (by decide) hr hm)
  clear hm
  have HR := Lib.hid hr
  have lR := hr.lo.1
  have lB := hr.lo.2.2
  clear hr
  go_enter Tryz.func103, Tryz.ntmps103
  go_wp2_with fail
  refine (hN.out _ (by with_reducible repeat' (first | exact HR.out | refine RL.far ?_ (by omega) _ _ | refine RL.alloc ?_ _ | refine RL.drewN ?_ _ | refine RL.drew ?_))).mono ?_; rintro e w9 ⟨rfl, b9⟩
  exact ⟨rfl, rfl, But.trans (by (with_reducible repeat' (first | exact But.refl _ _ | refine zBr ?_ _ _ | refine zBs ?_ (by omega) _ _ | refine zBa ?_ _ | refine zBn ?_ _ | refine zBd ?_))) b9⟩
set_option maxHeartbeats 2000000 in
set_option maxRecDepth 10000 in
theorem pcall_if {w : World} {R g cap B : Nat} {L : List Tok} {E p : Nat} (hL : L.length ≤ 1000) (hc : cap ≤ maxLen) (hG : GoodXL L) (hr : RL w R g cap B L E p)  (hm : isMark L p [40] = true) {lr : LRes} {res : Res} (hN : ∀ w', RL w' R g cap B L E (p + 1) → Calls Tryz.prog 115 #[.pointer (some ⟨R, 0, none⟩)] w' (PostL w' R g cap B L E lr)) (hk : CallR L E [73, 70] lr res) :
    Calls Tryz.prog 103 #[.pointer (some ⟨R, 0, none⟩), .string ⟨#[73, 70]⟩] w (PostP w R g cap B L E res) := by
  have HN := Lib.hid hN
  have HK := Lib.hid hk
  have hM := Lib.hid (fun w hr => pmust_on (w := w) (R := R) (g := g) (cap := cap) (B := B) (L := L) (E := E) (p := p) hL hc hG ⟨#[40]⟩ (by decide) (by decide) hr hm)
  have hMon := Lib.hid (fun w q hr hm => pmust_on (w := w) (R := R) (g := g) (cap := cap) (B := B) (L := L) (E := E) (p := q) hL hc hG ⟨#[41]⟩ (by decide) (by decide) hr hm)
  have hMoff := Lib.hid (fun w q hr hm => pmust_off (w := w) (R := R) (g := g) (cap := cap) (B := B) (L := L) (E := E) (p := q) hL hc hG ⟨#[41]⟩ (by decide) (by decide) hr hm)
  clear hN hk hm
  have HR := Lib.hid hr
  have lR := hr.lo.1
  have lB := hr.lo.2.2
  clear hr
  go_enter Tryz.func103, Tryz.ntmps103
  go_wp2_with fail
  refine (hM.out _ (by with_reducible repeat' (first | exact HR.out | refine RL.far ?_ (by omega) _ _ | refine RL.alloc ?_ _ | refine RL.drewN ?_ _ | refine RL.drew ?_))).mono ?_; rintro e w1 ⟨rfl, r1, b1⟩
  have HR1 : Hid (RL w1 R g cap B L E (p + 1)) := Lib.hid (r1)
  clear r1
  have h1 : But R w w1 := But.trans (by (with_reducible repeat' (first | exact But.refl _ _ | refine zBr ?_ _ _ | refine zBs ?_ (by omega) _ _ | refine zBa ?_ _ | refine zBn ?_ _ | refine zBd ?_))) b1
  have y1 : w.heap.size ≤ w1.heap.size := h1.size
  have zk1 : w.heap.size < w1.heap.size := by have := b1.size; first | omega | (simp at this; omega)
  have Hk1 : C8 w1 (w.heap.size) (.int .i64 0) (.int .i64 0) (.int .i64 0) (.int .i64 0) (.int .i64 0) (.int .i64 0) (.string ⟨#[]⟩) (.slice none 0 0) := by refine ⟨?_, ?_, ?_, ?_, ?_, ?_, ?_, ?_⟩ <;> exact b1.cell (show w.heap.size ≠ R by omega) (by simp [go_sem])
  obtain ⟨k10, k11, k12, k13, k14, k15, k16, k17⟩ := Hk1
  have Hkf1 : F8 w1 (w.heap.size) := by refine ⟨?_, ?_, ?_, ?_, ?_, ?_, ?_, ?_⟩ <;> exact b1.frozen (show w.heap.size ≠ R by omega) (by first | omega | (simp; done) | (simp; omega)) (by simp [go_sem])
  obtain ⟨kf10, kf11, kf12, kf13, kf14, kf15, kf16, kf17⟩ := Hkf1
  have zt1 : w.heap.size + 1 < w1.heap.size := by have := b1.size; first | omega | (simp at this; omega)
  have Ht1 : C8 w1 (w.heap.size + 1) (.int .i64 5) (.int .i64 0) (.int .i64 0) (.int .i64 0) (.int .i64 0) (.int .i64 0) (.string ⟨#[73, 70]⟩) (.slice none 0 0) := by refine ⟨?_, ?_, ?_, ?_, ?_, ?_, ?_, ?_⟩ <;> exact b1.cell (show w.heap.size + 1 ≠ R by omega) (by simp [go_sem])
  obtain ⟨t10, t11, t12, t13, t14, t15, t16, t17⟩ := Ht1
  have Htf1 : F8 w1 (w.heap.size + 1) := by refine ⟨?_, ?_, ?_, ?_, ?_, ?_, ?_, ?_⟩ <;> exact b1.frozen (show w.heap.size + 1 ≠ R by omega) (by first | omega | (simp; done) | (simp; omega)) (by simp [go_sem])
  obtain ⟨tf10, tf11, tf12, tf13, tf14, tf15, tf16, tf17⟩ := Htf1
  clear b1
  go_wp2_with fail
  refine (HN.out _ (by with_reducible repeat' (first | exact HR1.out | refine RL.far ?_ (by omega) _ _ | refine RL.alloc ?_ _ | refine RL.drewN ?_ _ | refine RL.drew ?_))).mono ?_; rintro e w2 H2
  cases lr with
  | bad z =>
    obtain ⟨rfl, b2⟩ := H2
    have hk2 : res = .bad z := HK.out
    subst hk2
    exact ⟨rfl, rfl, But.trans (by (with_reducible repeat' (first | exact h1 | refine zBr ?_ _ _ | refine zBs ?_ (by omega) _ _ | refine zBa ?_ _ | refine zBn ?_ _ | refine zBd ?_))) b2⟩
  | ok ks q =>
    obtain ⟨g0, cp, rfl, ⟨hg0, hg1, hkl⟩, r2, b2⟩ := H2
    have HR2 : Hid (RL w2 R g cap B L E q) := Lib.hid r2
    clear r2
    have hg0' : w.heap.size + 1 < g0 := by first | omega | (simp at hg0; omega)
    have HL2 : Hid (KL w2 (fun b => w.heap.size + 1 < b) ks g0 0) := Lib.hid (KL.imp (fun b hb => by have hb2 : _ ≤ b := hb; show w.heap.size + 1 < b; first | omega | (simp at hb2; omega)) hkl)
    clear hkl hg0
    have h2 : But R w w2 := But.trans (by (with_reducible repeat' (first | exact h1 | refine zBr ?_ _ _ | refine zBs ?_ (by omega) _ _ | refine zBa ?_ _ | refine zBn ?_ _ | refine zBd ?_))) b2
    have y2 : w.heap.size ≤ w2.heap.size := h2.size
    have zk2 : w.heap.size < w2.heap.size := by have := b2.size; first | omega | (simp at this; omega)
    have Hk2 := c8_lift (B := w.heap.size) (fun j v hv => b2.cell (show w.heap.size ≠ R by omega) (by with_reducible repeat' (first | exact hv | refine zCs ?_ (by omega) _ _ | refine zCa ?_ _ | refine zCn ?_ _ | refine zCd ?_))) k10 k11 k12 k13 k14 k15 k16 k17
    obtain ⟨k20, k21, k22, k23, k24, k25, k26, k27⟩ := Hk2
    have Hkf2 := f8_lift (B := w.heap.size) (fun j hv => b2.frozen (show w.heap.size ≠ R by omega) (by first | omega | (simp; done) | (simp; omega)) (by with_reducible repeat' (first | exact hv | refine zFs ?_ (by omega) _ _ | refine zFa ?_ (by first | omega | (simp; omega)) _ | refine zFn ?_ _ | refine zFd ?_))) kf10 kf11 kf12 kf13 kf14 kf15 kf16 kf17
    obtain ⟨kf20, kf21, kf22, kf23, kf24, kf25, kf26, kf27⟩ := Hkf2
    have zt2 : w.heap.size + 1 < w2.heap.size := by have := b2.size; first | omega | (simp at this; omega)
    have Ht2 := c8_lift (B := w.heap.size + 1) (fun j v hv => b2.cell (show w.heap.size + 1 ≠ R by omega) (by with_reducible repeat' (first | exact hv | refine zCs ?_ (by omega) _ _ | refine zCa ?_ _ | refine zCn ?_ _ | refine zCd ?_))) t10 t11 t12 t13 t14 t15 t16 t17
    obtain ⟨t20, t21, t22, t23, t24, t25, t26, t27⟩ := Ht2
    have Htf2 := f8_lift (B := w.heap.size + 1) (fun j hv => b2.frozen (show w.heap.size + 1 ≠ R by omega) (by first | omega | (simp; done) | (simp; omega)) (by with_reducible repeat' (first | exact hv | refine zFs ?_ (by omega) _ _ | refine zFa ?_ (by first | omega | (simp; omega)) _ | refine zFn ?_ _ | refine zFd ?_))) tf10 tf11 tf12 tf13 tf14 tf15 tf16 tf17
    obtain ⟨tf20, tf21, tf22, tf23, tf24, tf25, tf26, tf27⟩ := Htf2
    clear b2 k10 k11 k12 k13 k14 k15 k16 k17 kf10 kf11 kf12 kf13 kf14 kf15 kf16 kf17 zk1 t10 t11 t12 t13 t14 t15 t16 t17 tf10 tf11 tf12 tf13 tf14 tf15 tf16 tf17 zt1
    go_wp2_with fail
    have hk : mustF L E q [41] (fun q => some (.ok (callT [73, 70] ks) q)) = some res := HK.out
    unfold mustF at hk
    cases hm2 : isMark L q [41] with
    | false =>
      rw [if_neg (by rw [hm2]; decide)] at hk
      obtain rfl := Option.some.inj hk
      have HM := Lib.hid hm2
      clear hm2 hk
      refine (hMoff.out _ q (by with_reducible repeat' (first | exact HR2.out | refine RL.far ?_ (by omega) _ _ | refine RL.alloc ?_ _ | refine RL.drewN ?_ _ | refine RL.drew ?_)) HM.out).mono ?_; rintro e w9 ⟨rfl, b9⟩
      exact ⟨rfl, rfl, But.trans (by (with_reducible repeat' (first | exact h2 | refine zBr ?_ _ _ | refine zBs ?_ (by omega) _ _ | refine zBa ?_ _ | refine zBn ?_ _ | refine zBd ?_))) b9⟩
    | true =>
      rw [if_pos hm2] at hk
      obtain rfl := Option.some.inj hk
      have HM := Lib.hid hm2
      clear hm2 hk
      refine (hMon.out _ q (by with_reducible repeat' (first | exact HR2.out | refine RL.far ?_ (by omega) _ _ | refine RL.alloc ?_ _ | refine RL.drewN ?_ _ | refine RL.drew ?_)) HM.out).mono ?_; rintro e w3 ⟨rfl, r3, b3⟩
      have HR3 : Hid (RL w3 R g cap B L E (q + 1)) := Lib.hid r3
      clear r3
      have HL3 : Hid (KL w3 (fun b => w.heap.size + 1 < b) ks g0 0) := Lib.hid (KL.kept (Kept.but (by (with_reducible repeat' (first | exact Kept.refl _ _ | refine Kept.set1 ?_ (by omega) _ _ | refine Kept.setNew ?_ (by omega) _ _ | refine Kept.alloc ?_ _ | refine Kept.drewN ?_ _))) b3 (by show ¬ (w.heap.size + 1 < R); omega)) hg0' HL2.out)
      have hg3 : g0 < w3.heap.size := by have := b3.size; first | omega | (simp at this; omega)
      clear HL2
      have h3 : But R w w3 := But.trans (by (with_reducible repeat' (first | exact h2 | refine zBr ?_ _ _ | refine zBs ?_ (by omega) _ _ | refine zBa ?_ _ | refine zBn ?_ _ | refine zBd ?_))) b3
      have y3 : w.heap.size ≤ w3.heap.size := h3.size
      have zk3 : w.heap.size < w3.heap.size := by have := b3.size; first | omega | (simp at this; omega)
      have Hk3 := c8_lift (B := w.heap.size) (fun j v hv => b3.cell (show w.heap.size ≠ R by omega) (by with_reducible repeat' (first | exact hv | refine zCs ?_ (by omega) _ _ | refine zCa ?_ _ | refine zCn ?_ _ | refine zCd ?_))) k20 k21 k22 k23 k24 k25 k26 k27
      obtain ⟨k30, k31, k32, k33, k34, k35, k36, k37⟩ := Hk3
      have Hkf3 := f8_lift (B := w.heap.size) (fun j hv => b3.frozen (show w.heap.size ≠ R by omega) (by first | omega | (simp; done) | (simp; omega)) (by with_reducible repeat' (first | exact hv | refine zFs ?_ (by omega) _ _ | refine zFa ?_ (by first | omega | (simp; omega)) _ | refine zFn ?_ _ | refine zFd ?_))) kf20 kf21 kf22 kf23 kf24 kf25 kf26 kf27
      obtain ⟨kf30, kf31, kf32, kf33, kf34, kf35, kf36, kf37⟩ := Hkf3
      have zt3 : w.heap.size + 1 < w3.heap.size := by have := b3.size; first | omega | (simp at this; omega)
      have Ht3 : C8 w3 (w.heap.size + 1) (.int .i64 5) (.int .i64 0) (.int .i64 0) (.int .i64 0) (.int .i64 0) (.int .i64 0) (.string ⟨#[73, 70]⟩) (.slice (some ⟨g0, 0, none⟩) ks.length cp) := by refine ⟨?_, ?_, ?_, ?_, ?_, ?_, ?_, ?_⟩ <;> exact b3.cell (show w.heap.size + 1 ≠ R by omega) (by first | (simp [go_sem]; done) | (simp [go_sem, t20, t21, t22, t23, t24, t25, t26, t27]; done))
      obtain ⟨t30, t31, t32, t33, t34, t35, t36, t37⟩ := Ht3
      have Htf3 := f8_lift (B := w.heap.size + 1) (fun j hv => b3.frozen (show w.heap.size + 1 ≠ R by omega) (by first | omega | (simp; done) | (simp; omega)) (by simp [go_sem, hv])) tf20 tf21 tf22 tf23 tf24 tf25 tf26 tf27
      obtain ⟨tf30, tf31, tf32, tf33, tf34, tf35, tf36, tf37⟩ := Htf3
      clear b3 k20 k21 k22 k23 k24 k25 k26 k27 kf20 kf21 kf22 kf23 kf24 kf25 kf26 kf27 zk2 t20 t21 t22 t23 t24 t25 t26 t27 tf20 tf21 tf22 tf23 tf24 tf25 tf26 tf27 zt2
      go_wp2_with fail
      exact bodyPost_ret (v := .agg #[.int .i64 5, .int .i64 0, .int .i64 0, .int .i64 0, .int .i64 0, .int .i64 0, .string ⟨#[73, 70]⟩, .slice (some ⟨g0, 0, none⟩) ks.length cp]) (by simp [results, Tryz.results103, go_sem, k30, k31, k32, k33, k34, k35, k36, k37, t30, t31, t32, t33, t34, t35, t36, t37, zk3, zt3]) rfl ⟨⟨5, 0, 0, 0, 0, 0, ⟨#[73, 70]⟩, some ⟨g0, 0, none⟩, ks.length, cp⟩, rfl, TV.imp (P := fun b => w.heap.size + 1 < b) (tv_row (ks := ks) 5 [73, 70] hg0' (by first | omega | (simp; omega)) (KL.kept (by (with_reducible repeat' (first | exact Kept.refl _ _ | refine Kept.set1 ?_ (by omega) _ _ | refine Kept.setNew ?_ (by omega) _ _ | refine Kept.alloc ?_ _ | refine Kept.drewN ?_ _))) hg0' HL3.out)) fun b (hb : w.heap.size + 1 < b) => by show w.heap.size ≤ b; omega, (by with_reducible repeat' (first | exact HR3.out | refine RL.far ?_ (by omega) _ _ | refine RL.alloc ?_ _ | refine RL.drewN ?_ _ | refine RL.drew ?_)), by (with_reducible repeat' (first | exact h3 | refine zBr ?_ _ _ | refine zBs ?_ (by omega) _ _ | refine zBa ?_ _ | refine zBn ?_ _ | refine zBd ?_))⟩
set_option maxHeartbeats 2000000 in
set_option maxRecDepth 10000 in
theorem pcall_count {w : World} {R g cap B : Nat} {L : List Tok} {E p : Nat} (hL : L.length ≤ 1000) (hc : cap ≤ maxLen) (hG : GoodXL L) (hr : RL w R g cap B L E p)  (hm : isMark L p [40] = true) {lr : LRes} {res : Res} (hN : ∀ w', RL w' R g cap B L E (p + 1) → Calls Tryz.prog 116 #[.pointer (some ⟨R, 0, none⟩), .func (.func 117) #[.pointer (some ⟨R, 0, none⟩)] #[]] w' (PostL w' R g cap B L E lr)) (hk : CallR L E [67, 79, 85, 78, 84] lr res) :
    Calls Tryz.prog 103 #[.pointer (some ⟨R, 0, none⟩), .string ⟨#[67, 79, 85, 78, 84]⟩] w (PostP w R g cap B L E res) := by
  have HN := Lib.hid hN
  have HK := Lib.hid hk
  have hM := Lib.hid (fun w hr => pmust_on (w := w) (R := R) (g := g) (cap := cap) (B := B) (L := L) (E := E) (p := p) hL hc hG ⟨#[40]⟩ (by decide) (by decide) hr hm)
  have hMon := Lib.hid (fun w q hr hm => pmust_on (w := w) (R := R) (g := g) (cap := cap) (B := B) (L := L) (E := E) (p := q) hL hc hG ⟨#[41]⟩ (by decide) (by decide) hr hm)
  have hMoff := Lib.hid (fun w q hr hm => pmust_off (w := w) (R := R) (g := g) (cap := cap) (B := B) (L := L) (E := E) (p := q) hL hc hG ⟨#[41]⟩ (by decide) (by decide) hr hm)
  clear hN hk hm
  have HR := Lib.hid hr
  have lR := hr.lo.1
  have lB := hr.lo.2.2
  clear hr
  go_enter Tryz.func103, Tryz.ntmps103
  go_wp2_with fail
  refine (hM.out _ (by with_reducible repeat' (first | exact HR.out | refine RL.far ?_ (by omega) _ _ | refine RL.alloc ?_ _ | refine RL.drewN ?_ _ | refine RL.drew ?_))).mono ?_; rintro e w1 ⟨rfl, r1, b1⟩
  have HR1 : Hid (RL w1 R g cap B L E (p + 1)) := Lib.hid (r1)
  clear r1
  have h1 : But R w w1 := But.trans (by (with_reducible repeat' (first | exact But.refl _ _ | refine zBr ?_ _ _ | refine zBs ?_ (by omega) _ _ | refine zBa ?_ _ | refine zBn ?_ _ | refine zBd ?_))) b1
  have y1 : w.heap.size ≤ w1.heap.size := h1.size
  have zk1 : w.heap.size < w1.heap.size := by have := b1.size; first | omega | (simp at this; omega)
  have Hk1 : C8 w1 (w.heap.size) (.int .i64 0) (.int .i64 0) (.int .i64 0) (.int .i64 0) (.int .i64 0) (.int .i64 0) (.string ⟨#[]⟩) (.slice none 0 0) := by refine ⟨?_, ?_, ?_, ?_, ?_, ?_, ?_, ?_⟩ <;> exact b1.cell (show w.heap.size ≠ R by omega) (by simp [go_sem])
  obtain ⟨k10, k11, k12, k13, k14, k15, k16, k17⟩ := Hk1
  have Hkf1 : F8 w1 (w.heap.size) := by refine ⟨?_, ?_, ?_, ?_, ?_, ?_, ?_, ?_⟩ <;> exact b1.frozen (show w.heap.size ≠ R by omega) (by first | omega | (simp; done) | (simp; omega)) (by simp [go_sem])
  obtain ⟨kf10, kf11, kf12, kf13, kf14, kf15, kf16, kf17⟩ := Hkf1
  have zt1 : w.heap.size + 1 < w1.heap.size := by have := b1.size; first | omega | (simp at this; omega)
  have Ht1 : C8 w1 (w.heap.size + 1) (.int .i64 5) (.int .i64 0) (.int .i64 0) (.int .i64 0) (.int .i64 0) (.int .i64 0) (.string ⟨#[67, 79, 85, 78, 84]⟩) (.slice none 0 0) := by refine ⟨?_, ?_, ?_, ?_, ?_, ?_, ?_, ?_⟩ <;> exact b1.cell (show w.heap.size + 1 ≠ R by omega) (by simp [go_sem])
  obtain ⟨t10, t11, t12, t13, t14, t15, t16, t17⟩ := Ht1
  have Htf1 : F8 w1 (w.heap.size + 1) := by refine ⟨?_, ?_, ?_, ?_, ?_, ?_, ?_, ?_⟩ <;> exact b1.frozen (show w.heap.size + 1 ≠ R by omega) (by first | omega | (simp; done) | (simp; omega)) (by simp [go_sem])
  obtain ⟨tf10, tf11, tf12, tf13, tf14, tf15, tf16, tf17⟩ := Htf1
  clear b1
  go_wp2_with fail
  refine (HN.out _ (by with_reducible repeat' (first | exact HR1.out | refine RL.far ?_ (by omega) _ _ | refine RL.alloc ?_ _ | refine RL.drewN ?_ _ | refine RL.drew ?_))).mono ?_; rintro e w2 H2
  cases lr with
  | bad z =>
    obtain ⟨rfl, b2⟩ := H2
    have hk2 : res = .bad z := HK.out
    subst hk2
    exact ⟨rfl, rfl, But.trans (by (with_reducible repeat' (first | exact h1 | refine zBr ?_ _ _ | refine zBs ?_ (by omega) _ _ | refine zBa ?_ _ | refine zBn ?_ _ | refine zBd ?_))) b2⟩
  | ok ks q =>
    obtain ⟨g0, cp, rfl, ⟨hg0, hg1, hkl⟩, r2, b2⟩ := H2
    have HR2 : Hid (RL w2 R g cap B L E q) := Lib.hid r2
    clear r2
    have hg0' : w.heap.size + 1 < g0 := by first | omega | (simp at hg0; omega)
    have HL2 : Hid (KL w2 (fun b => w.heap.size + 1 < b) ks g0 0) := Lib.hid (KL.imp (fun b hb => by have hb2 : _ ≤ b := hb; show w.heap.size + 1 < b; first | omega | (simp at hb2; omega)) hkl)
    clear hkl hg0
    have h2 : But R w w2 := But.trans (by (with_reducible repeat' (first | exact h1 | refine zBr ?_ _ _ | refine zBs ?_ (by omega) _ _ | refine zBa ?_ _ | refine zBn ?_ _ | refine zBd ?_))) b2
    have y2 : w.heap.size ≤ w2.heap.size := h2.size
    have zk2 : w.heap.size < w2.heap.size := by have := b2.size; first | omega | (simp at this; omega)
    have Hk2 := c8_lift (B := w.heap.size) (fun j v hv => b2.cell (show w.heap.size ≠ R by omega) (by with_reducible repeat' (first | exact hv | refine zCs ?_ (by omega) _ _ | refine zCa ?_ _ | refine zCn ?_ _ | refine zCd ?_))) k10 k11 k12 k13 k14 k15 k16 k17
    obtain ⟨k20, k21, k22, k23, k24, k25, k26, k27⟩ := Hk2
    have Hkf2 := f8_lift (B := w.heap.size) (fun j hv => b2.frozen (show w.heap.size ≠ R by omega) (by first | omega | (simp; done) | (simp; omega)) (by with_reducible repeat' (first | exact hv | refine zFs ?_ (by omega) _ _ | refine zFa ?_ (by first | omega | (simp; omega)) _ | refine zFn ?_ _ | refine zFd ?_))) kf10 kf11 kf12 kf13 kf14 kf15 kf16 kf17
    obtain ⟨kf20, kf21, kf22, kf23, kf24, kf25, kf26, kf27⟩ := Hkf2
    have zt2 : w.heap.size + 1 < w2.heap.size := by have := b2.size; first | omega | (simp at this; omega)
    have Ht2 := c8_lift (B := w.heap.size + 1) (fun j v hv => b2.cell (show w.heap.size + 1 ≠ R by omega) (by with_reducible repeat' (first | exact hv | refine zCs ?_ (by omega) _ _ | refine zCa ?_ _ | refine zCn ?_ _ | refine zCd ?_))) t10 t11 t12 t13 t14 t15 t16 t17
    obtain ⟨t20, t21, t22, t23, t24, t25, t26, t27⟩ := Ht2
    have Htf2 := f8_lift (B := w.heap.size + 1) (fun j hv => b2.frozen (show w.heap.size + 1 ≠ R by omega) (by first | omega | (simp; done) | (simp; omega)) (by with_reducible repeat' (first | exact hv | refine zFs ?_ (by omega) _ _ | refine zFa ?_ (by first | omega | (simp; omega)) _ | refine zFn ?_ _ | refine zFd ?_))) tf10 tf11 tf12 tf13 tf14 tf15 tf16 tf17
    obtain ⟨tf20, tf21, tf22, tf23, tf24, tf25, tf26, tf27⟩ := Htf2
    clear b2 k10 k11 k12 k13 k14 k15 k16 k17 kf10 kf11 kf12 kf13 kf14 kf15 kf16 kf17 zk1 t10 t11 t12 t13 t14 t15 t16 t17 tf10 tf11 tf12 tf13 tf14 tf15 tf16 tf17 zt1
    go_wp2_with fail
    have hk : mustF L E q [41] (fun q => some (.ok (callT [67, 79, 85, 78, 84] ks) q)) = some res := HK.out
    unfold mustF at hk
    cases hm2 : isMark L q [41] with
    | false =>
      rw [if_neg (by rw [hm2]; decide)] at hk
      obtain rfl := Option.some.inj hk
      have HM := Lib.hid hm2
      clear hm2 hk
      refine (hMoff.out _ q (by with_reducible repeat' (first | exact HR2.out | refine RL.far ?_ (by omega) _ _ | refine RL.alloc ?_ _ | refine RL.drewN ?_ _ | refine RL.drew ?_)) HM.out).mono ?_; rintro e w9 ⟨rfl, b9⟩
      exact ⟨rfl, rfl, But.trans (by (with_reducible repeat' (first | exact h2 | refine zBr ?_ _ _ | refine zBs ?_ (by omega) _ _ | refine zBa ?_ _ | refine zBn ?_ _ | refine zBd ?_))) b9⟩
    | true =>
      rw [if_pos hm2] at hk
      obtain rfl := Option.some.inj hk
      have HM := Lib.hid hm2
      clear hm2 hk
      refine (hMon.out _ q (by with_reducible repeat' (first | exact HR2.out | refine RL.far ?_ (by omega) _ _ | refine RL.alloc ?_ _ | refine RL.drewN ?_ _ | refine RL.drew ?_)) HM.out).mono ?_; rintro e w3 ⟨rfl, r3, b3⟩
      have HR3 : Hid (RL w3 R g cap B L E (q + 1)) := Lib.hid r3
      clear r3
      have HL3 : Hid (KL w3 (fun b => w.heap.size + 1 < b) ks g0 0) := Lib.hid (KL.kept (Kept.but (by (with_reducible repeat' (first | exact Kept.refl _ _ | refine Kept.set1 ?_ (by omega) _ _ | refine Kept.setNew ?_ (by omega) _ _ | refine Kept.alloc ?_ _ | refine Kept.drewN ?_ _))) b3 (by show ¬ (w.heap.size + 1 < R); omega)) hg0' HL2.out)
      have hg3 : g0 < w3.heap.size := by have := b3.size; first | omega | (simp at this; omega)
      clear HL2
      have h3 : But R w w3 := But.trans (by (with_reducible repeat' (first | exact h2 | refine zBr ?_ _ _ | refine zBs ?_ (by omega) _ _ | refine zBa ?_ _ | refine zBn ?_ _ | refine zBd ?_))) b3
      have y3 : w.heap.size ≤ w3.heap.size := h3.size
      have zk3 : w.heap.size < w3.heap.size := by have := b3.size; first | omega | (simp at this; omega)
      have Hk3 := c8_lift (B := w.heap.size) (fun j v hv => b3.cell (show w.heap.size ≠ R by omega) (by with_reducible repeat' (first | exact hv | refine zCs ?_ (by omega) _ _ | refine zCa ?_ _ | refine zCn ?_ _ | refine zCd ?_))) k20 k21 k22 k23 k24 k25 k26 k27
      obtain ⟨k30, k31, k32, k33, k34, k35, k36, k37⟩ := Hk3
      have Hkf3 := f8_lift (B := w.heap.size) (fun j hv => b3.frozen (show w.heap.size ≠ R by omega) (by first | omega | (simp; done) | (simp; omega)) (by with_reducible repeat' (first | exact hv | refine zFs ?_ (by omega) _ _ | refine zFa ?_ (by first | omega | (simp; omega)) _ | refine zFn ?_ _ | refine zFd ?_))) kf20 kf21 kf22 kf23 kf24 kf25 kf26 kf27
      obtain ⟨kf30, kf31, kf32, kf33, kf34, kf35, kf36, kf37⟩ := Hkf3
      have zt3 : w.heap.size + 1 < w3.heap.size := by have := b3.size; first | omega | (simp at this; omega)
      have Ht3 : C8 w3 (w.heap.size + 1) (.int .i64 5) (.int .i64 0) (.int .i64 0) (.int .i64 0) (.int .i64 0) (.int .i64 0) (.string ⟨#[67, 79, 85, 78, 84]⟩) (.slice (some ⟨g0, 0, none⟩) ks.length cp) := by refine ⟨?_, ?_, ?_, ?_, ?_, ?_, ?_, ?_⟩ <;> exact b3.cell (show w.heap.size + 1 ≠ R by omega) (by first | (simp [go_sem]; done) | (simp [go_sem, t20, t21, t22, t23, t24, t25, t26, t27]; done))
      obtain ⟨t30, t31, t32, t33, t34, t35, t36, t37⟩ := Ht3
      have Htf3 := f8_lift (B := w.heap.size + 1) (fun j hv => b3.frozen (show w.heap.size + 1 ≠ R by omega) (by first | omega | (simp; done) | (simp; omega)) (by simp [go_sem, hv])) tf20 tf21 tf22 tf23 tf24 tf25 tf26 tf27
      obtain ⟨tf30, tf31, tf32, tf33, tf34, tf35, tf36, tf37⟩ := Htf3
      clear b3 k20 k21 k22 k23 k24 k25 k26 k27 kf20 kf21 kf22 kf23 kf24 kf25 kf26 kf27 zk2 t20 t21 t22 t23 t24 t25 t26 t27 tf20 tf21 tf22 tf23 tf24 tf25 tf26 tf27 zt2
      go_wp2_with fail
      exact bodyPost_ret (v := .agg #[.int .i64 5, .int .i64 0, .int .i64 0, .int .i64 0, .int .i64 0, .int .i64 0, .string ⟨#[67, 79, 85, 78, 84]⟩, .slice (some ⟨g0, 0, none⟩) ks.length cp]) (by simp [results, Tryz.results103, go_sem, k30, k31, k32, k33, k34, k35, k36, k37, t30, t31, t32, t33, t34, t35, t36, t37, zk3, zt3]) rfl ⟨⟨5, 0, 0, 0, 0, 0, ⟨#[67, 79, 85, 78, 84]⟩, some ⟨g0, 0, none⟩, ks.length, cp⟩, rfl, TV.imp (P := fun b => w.heap.size + 1 < b) (tv_row (ks := ks) 5 [67, 79, 85, 78, 84] hg0' (by first | omega | (simp; omega)) (KL.kept (by (with_reducible repeat' (first | exact Kept.refl _ _ | refine Kept.set1 ?_ (by omega) _ _ | refine Kept.setNew ?_ (by omega) _ _ | refine Kept.alloc ?_ _ | refine Kept.drewN ?_ _))) hg0' HL3.out)) fun b (hb : w.heap.size + 1 < b) => by show w.heap.size ≤ b; omega, (by with_reducible repeat' (first | exact HR3.out | refine RL.far ?_ (by omega) _ _ | refine RL.alloc ?_ _ | refine RL.drewN ?_ _ | refine RL.drew ?_)), by (with_reducible repeat' (first | exact h3 | refine zBr ?_ _ _ | refine zBs ?_ (by omega) _ _ | refine zBa ?_ _ | refine zBn ?_ _ | refine zBd ?_))⟩
set_option maxHeartbeats 2000000 in
set_option maxRecDepth 10000 in
theorem pcall_other {w : World} {R g cap B : Nat} {L : List Tok} {E p : Nat} (hL : L.length ≤ 1000) (hc : cap ≤ maxLen) (hG : GoodXL L) (hr : RL w R g cap B L E p) {wd : List UInt8} (e1 : (wd == [73, 70]) = false) (e2 : (wd == [67, 79, 85, 78, 84]) = false) (hm : isMark L p [40] = true) {lr : LRes} {res : Res} (hN : ∀ w', RL w' R g cap B L E (p + 1) → Calls Tryz.prog 116 #[.pointer (some ⟨R, 0, none⟩), .func (.func 118) #[.pointer (some ⟨R, 0, none⟩)] #[]] w' (PostL w' R g cap B L E lr)) (hk : CallR L E wd lr res) :
    Calls Tryz.prog 103 #[.pointer (some ⟨R, 0, none⟩), .string ⟨wd.toArray⟩] w (PostP w R g cap B L E res) := by
  have HN := Lib.hid hN
  have HK := Lib.hid hk
  have hM := Lib.hid (fun w hr => pmust_on (w := w) (R := R) (g := g) (cap := cap) (B := B) (L := L) (E := E) (p := p) hL hc hG ⟨#[40]⟩ (by decide) (by decide) hr hm)
  have hMon := Lib.hid (fun w q hr hm => pmust_on (w := w) (R := R) (g := g) (cap := cap) (B := B) (L := L) (E := E) (p := q) hL hc hG ⟨#[41]⟩ (by decide) (by decide) hr hm)
  have hMoff := Lib.hid (fun w q hr hm => pmust_off (w := w) (R := R) (g := g) (cap := cap) (B := B) (L := L) (E := E) (p := q) hL hc hG ⟨#[41]⟩ (by decide) (by decide) hr hm)
  clear hN hk hm
  have HR := Lib.hid hr
  have lR := hr.lo.1
  have lB := hr.lo.2.2
  clear hr
  go_enter Tryz.func103, Tryz.ntmps103
  go_wp2_with fail
  refine (hM.out _ (by with_reducible repeat' (first | exact HR.out | refine RL.far ?_ (by omega) _ _ | refine RL.alloc ?_ _ | refine RL.drewN ?_ _ | refine RL.drew ?_))).mono ?_; rintro e w1 ⟨rfl, r1, b1⟩
  have HR1 : Hid (RL w1 R g cap B L E (p + 1)) := Lib.hid (r1)
  clear r1
  have h1 : But R w w1 := But.trans (by (with_reducible repeat' (first | exact But.refl _ _ | refine zBr ?_ _ _ | refine zBs ?_ (by omega) _ _ | refine zBa ?_ _ | refine zBn ?_ _ | refine zBd ?_))) b1
  have y1 : w.heap.size ≤ w1.heap.size := h1.size
  have zk1 : w.heap.size < w1.heap.size := by have := b1.size; first | omega | (simp at this; omega)
  have Hk1 : C8 w1 (w.heap.size) (.int .i64 0) (.int .i64 0) (.int .i64 0) (.int .i64 0) (.int .i64 0) (.int .i64 0) (.string ⟨#[]⟩) (.slice none 0 0) := by refine ⟨?_, ?_, ?_, ?_, ?_, ?_, ?_, ?_⟩ <;> exact b1.cell (show w.heap.size ≠ R by omega) (by simp [go_sem])
  obtain ⟨k10, k11, k12, k13, k14, k15, k16, k17⟩ := Hk1
  have Hkf1 : F8 w1 (w.heap.size) := by refine ⟨?_, ?_, ?_, ?_, ?_, ?_, ?_, ?_⟩ <;> exact b1.frozen (show w.heap.size ≠ R by omega) (by first | omega | (simp; done) | (simp; omega)) (by simp [go_sem])
  obtain ⟨kf10, kf11, kf12, kf13, kf14, kf15, kf16, kf17⟩ := Hkf1
  have zt1 : w.heap.size + 1 < w1.heap.size := by have := b1.size; first | omega | (simp at this; omega)
  have Ht1 : C8 w1 (w.heap.size + 1) (.int .i64 5) (.int .i64 0) (.int .i64 0) (.int .i64 0) (.int .i64 0) (.int .i64 0) (.string ⟨wd.toArray⟩) (.slice none 0 0) := by refine ⟨?_, ?_, ?_, ?_, ?_, ?_, ?_, ?_⟩ <;> exact b1.cell (show w.heap.size + 1 ≠ R by omega) (by simp [go_sem])
  obtain ⟨t10, t11, t12, t13, t14, t15, t16, t17⟩ := Ht1
  have Htf1 : F8 w1 (w.heap.size + 1) := by refine ⟨?_, ?_, ?_, ?_, ?_, ?_, ?_, ?_⟩ <;> exact b1.frozen (show w.heap.size + 1 ≠ R by omega) (by first | omega | (simp; done) | (simp; omega)) (by simp [go_sem])
  obtain ⟨tf10, tf11, tf12, tf13, tf14, tf15, tf16, tf17⟩ := Htf1
  clear b1
  go_wp2_with fail
  refine (HN.out _ (by with_reducible repeat' (first | exact HR1.out | refine RL.far ?_ (by omega) _ _ | refine RL.alloc ?_ _ | refine RL.drewN ?_ _ | refine RL.drew ?_))).mono ?_; rintro e w2 H2
  cases lr with
  | bad z =>
    obtain ⟨rfl, b2⟩ := H2
    have hk2 : res = .bad z := HK.out
    subst hk2
    exact ⟨rfl, rfl, But.trans (by (with_reducible repeat' (first | exact h1 | refine zBr ?_ _ _ | refine zBs ?_ (by omega) _ _ | refine zBa ?_ _ | refine zBn ?_ _ | refine zBd ?_))) b2⟩
  | ok ks q =>
    obtain ⟨g0, cp, rfl, ⟨hg0, hg1, hkl⟩, r2, b2⟩ := H2
    have HR2 : Hid (RL w2 R g cap B L E q) := Lib.hid r2
    clear r2
    have hg0' : w.heap.size + 1 < g0 := by first | omega | (simp at hg0; omega)
    have HL2 : Hid (KL w2 (fun b => w.heap.size + 1 < b) ks g0 0) := Lib.hid (KL.imp (fun b hb => by have hb2 : _ ≤ b := hb; show w.heap.size + 1 < b; first | omega | (simp at hb2; omega)) hkl)
    clear hkl hg0
    have h2 : But R w w2 := But.trans (by (with_reducible repeat' (first | exact h1 | refine zBr ?_ _ _ | refine zBs ?_ (by omega) _ _ | refine zBa ?_ _ | refine zBn ?_ _ | refine zBd ?_))) b2
    have y2 : w.heap.size ≤ w2.heap.size := h2.size
    have zk2 : w.heap.size < w2.heap.size := by have := b2.size; first | omega | (simp at this; omega)
    have Hk2 := c8_lift (B := w.heap.size) (fun j v hv => b2.cell (show w.heap.size ≠ R by omega) (by with_reducible repeat' (first | exact hv | refine zCs ?_ (by omega) _ _ | refine zCa ?_ _ | refine zCn ?_ _ | refine zCd ?_))) k10 k11 k12 k13 k14 k15 k16 k17
    obtain ⟨k20, k21, k22, k23, k24, k25, k26, k27⟩ := Hk2
    have Hkf2 := f8_lift (B := w.heap.size) (fun j hv => b2.frozen (show w.heap.size ≠ R by omega) (by first | omega | (simp; done) | (simp; omega)) (by with_reducible repeat' (first | exact hv | refine zFs ?_ (by omega) _ _ | refine zFa ?_ (by first | omega | (simp; omega)) _ | refine zFn ?_ _ | refine zFd ?_))) kf10 kf11 kf12 kf13 kf14 kf15 kf16 kf17
    obtain ⟨kf20, kf21, kf22, kf23, kf24, kf25, kf26, kf27⟩ := Hkf2
    have zt2 : w.heap.size + 1 < w2.heap.size := by have := b2.size; first | omega | (simp at this; omega)
    have Ht2 := c8_lift (B := w.heap.size + 1) (fun j v hv => b2.cell (show w.heap.size + 1 ≠ R by omega) (by with_reducible repeat' (first | exact hv | refine zCs ?_ (by omega) _ _ | refine zCa ?_ _ | refine zCn ?_ _ | refine zCd ?_))) t10 t11 t12 t13 t14 t15 t16 t17
    obtain ⟨t20, t21, t22, t23, t24, t25, t26, t27⟩ := Ht2
    have Htf2 := f8_lift (B := w.heap.size + 1) (fun j hv => b2.frozen (show w.heap.size + 1 ≠ R by omega) (by first | omega | (simp; done) | (simp; omega)) (by with_reducible repeat' (first | exact hv | refine zFs ?_ (by omega) _ _ | refine zFa ?_ (by first | omega | (simp; omega)) _ | refine zFn ?_ _ | refine zFd ?_))) tf10 tf11 tf12 tf13 tf14 tf15 tf16 tf17
    obtain ⟨tf20, tf21, tf22, tf23, tf24, tf25, tf26, tf27⟩ := Htf2
    clear b2 k10 k11 k12 k13 k14 k15 k16 k17 kf10 kf11 kf12 kf13 kf14 kf15 kf16 kf17 zk1 t10 t11 t12 t13 t14 t15 t16 t17 tf10 tf11 tf12 tf13 tf14 tf15 tf16 tf17 zt1
    go_wp2_with fail
    have hk : mustF L E q [41] (fun q => some (.ok (callT wd ks) q)) = some res := HK.out
    unfold mustF at hk
    cases hm2 : isMark L q [41] with
    | false =>
      rw [if_neg (by rw [hm2]; decide)] at hk
      obtain rfl := Option.some.inj hk
      have HM := Lib.hid hm2
      clear hm2 hk
      refine (hMoff.out _ q (by with_reducible repeat' (first | exact HR2.out | refine RL.far ?_ (by omega) _ _ | refine RL.alloc ?_ _ | refine RL.drewN ?_ _ | refine RL.drew ?_)) HM.out).mono ?_; rintro e w9 ⟨rfl, b9⟩
      exact ⟨rfl, rfl, But.trans (by (with_reducible repeat' (first | exact h2 | refine zBr ?_ _ _ | refine zBs ?_ (by omega) _ _ | refine zBa ?_ _ | refine zBn ?_ _ | refine zBd ?_))) b9⟩
    | true =>
      rw [if_pos hm2] at hk
      obtain rfl := Option.some.inj hk
      have HM := Lib.hid hm2
      clear hm2 hk
      refine (hMon.out _ q (by with_reducible repeat' (first | exact HR2.out | refine RL.far ?_ (by omega) _ _ | refine RL.alloc ?_ _ | refine RL.drewN ?_ _ | refine RL.drew ?_)) HM.out).mono ?_; rintro e w3 ⟨rfl, r3, b3⟩
      have HR3 : Hid (RL w3 R g cap B L E (q + 1)) := Lib.hid r3
      clear r3
      have HL3 : Hid (KL w3 (fun b => w.heap.size + 1 < b) ks g0 0) := Lib.hid (KL.kept (Kept.but (by (with_reducible repeat' (first | exact Kept.refl _ _ | refine Kept.set1 ?_ (by omega) _ _ | refine Kept.setNew ?_ (by omega) _ _ | refine Kept.alloc ?_ _ | refine Kept.drewN ?_ _))) b3 (by show ¬ (w.heap.size + 1 < R); omega)) hg0' HL2.out)
      have hg3 : g0 < w3.heap.size := by have := b3.size; first | omega | (simp at this; omega)
      clear HL2
      have h3 : But R w w3 := But.trans (by (with_reducible repeat' (first | exact h2 | refine zBr ?_ _ _ | refine zBs ?_ (by omega) _ _ | refine zBa ?_ _ | refine zBn ?_ _ | refine zBd ?_))) b3
      have y3 : w.heap.size ≤ w3.heap.size := h3.size
      have zk3 : w.heap.size < w3.heap.size := by have := b3.size; first | omega | (simp at this; omega)
      have Hk3 := c8_lift (B := w.heap.size) (fun j v hv => b3.cell (show w.heap.size ≠ R by omega) (by with_reducible repeat' (first | exact hv | refine zCs ?_ (by omega) _ _ | refine zCa ?_ _ | refine zCn ?_ _ | refine zCd ?_))) k20 k21 k22 k23 k24 k25 k26 k27
      obtain ⟨k30, k31, k32, k33, k34, k35, k36, k37⟩ := Hk3
      have Hkf3 := f8_lift (B := w.heap.size) (fun j hv => b3.frozen (show w.heap.size ≠ R by omega) (by first | omega | (simp; done) | (simp; omega)) (by with_reducible repeat' (first | exact hv | refine zFs ?_ (by omega) _ _ | refine zFa ?_ (by first | omega | (simp; omega)) _ | refine zFn ?_ _ | refine zFd ?_))) kf20 kf21 kf22 kf23 kf24 kf25 kf26 kf27
      obtain ⟨kf30, kf31, kf32, kf33, kf34, kf35, kf36, kf37⟩ := Hkf3
      have zt3 : w.heap.size + 1 < w3.heap.size := by have := b3.size; first | omega | (simp at this; omega)
      have Ht3 : C8 w3 (w.heap.size + 1) (.int .i64 5) (.int .i64 0) (.int .i64 0) (.int .i64 0) (.int .i64 0) (.int .i64 0) (.string ⟨wd.toArray⟩) (.slice (some ⟨g0, 0, none⟩) ks.length cp) := by refine ⟨?_, ?_, ?_, ?_, ?_, ?_, ?_, ?_⟩ <;> exact b3.cell (show w.heap.size + 1 ≠ R by omega) (by first | (simp [go_sem]; done) | (simp [go_sem, t20, t21, t22, t23, t24, t25, t26, t27]; done))
      obtain ⟨t30, t31, t32, t33, t34, t35, t36, t37⟩ := Ht3
      have Htf3 := f8_lift (B := w.heap.size + 1) (fun j hv => b3.frozen (show w.heap.size + 1 ≠ R by omega) (by first | omega | (simp; done) | (simp; omega)) (by simp [go_sem, hv])) tf20 tf21 tf22 tf23 tf24 tf25 tf26 tf27
      obtain ⟨tf30, tf31, tf32, tf33, tf34, tf35, tf36, tf37⟩ := Htf3
      clear b3 k20 k21 k22 k23 k24 k25 k26 k27 kf20 kf21 kf22 kf23 kf24 kf25 kf26 kf27 zk2 t20 t21 t22 t23 t24 t25 t26 t27 tf20 tf21 tf22 tf23 tf24 tf25 tf26 tf27 zt2
      go_wp2_with fail
      exact bodyPost_ret (v := .agg #[.int .i64 5, .int .i64 0, .int .i64 0, .int .i64 0, .int .i64 0, .int .i64 0, .string ⟨wd.toArray⟩, .slice (some ⟨g0, 0, none⟩) ks.length cp]) (by simp [results, Tryz.results103, go_sem, k30, k31, k32, k33, k34, k35, k36, k37, t30, t31, t32, t33, t34, t35, t36, t37, zk3, zt3]) rfl ⟨⟨5, 0, 0, 0, 0, 0, ⟨wd.toArray⟩, some ⟨g0, 0, none⟩, ks.length, cp⟩, rfl, TV.imp (P := fun b => w.heap.size + 1 < b) (tv_row (ks := ks) 5 wd hg0' (by first | omega | (simp; omega)) (KL.kept (by (with_reducible repeat' (first | exact Kept.refl _ _ | refine Kept.set1 ?_ (by omega) _ _ | refine Kept.setNew ?_ (by omega) _ _ | refine Kept.alloc ?_ _ | refine Kept.drewN ?_ _))) hg0' HL3.out)) fun b (hb : w.heap.size + 1 < b) => by show w.heap.size ≤ b; omega, (by with_reducible repeat' (first | exact HR3.out | refine RL.far ?_ (by omega) _ _ | refine RL.alloc ?_ _ | refine RL.drewN ?_ _ | refine RL.drew ?_)), by (with_reducible repeat' (first | exact h3 | refine zBr ?_ _ _ | refine zBs ?_ (by omega) _ _ | refine zBa ?_ _ | refine zBn ?_ _ | refine zBd ?_))⟩
end Go.Proofs.YtahdlijkohmdfaaGreatDoor
