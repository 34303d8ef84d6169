/- Texts joined: RdI. -/
import Derived.Test.YtgdiafnjbphgkaaGreatDoorMg15
set_option linter.all false
set_option linter.unusedVariables false
set_option linter.unusedSimpArgs false
/- The program's own reader: calls, and operands that are words. -/
namespace Go.Proofs.YtgdiafnjbphgkaaGreatDoor
open Go.RowKit

/-- how a call goes on behind its parts -/
def CallR (L : List Tok) (E : Nat) (wd : List UInt8) (lr : LRes) (res : Res) : Prop := match lr with
  | .bad z => res = .bad z
  | .ok ks q => mustF L E q [41] (fun q => some (.ok (callT wd ks) q)) = some res
set_option maxHeartbeats 2000000 in
set_option maxRecDepth 10000 in
theorem pcall_off {w : World} {R g cap B : Nat} {L : List Tok} {E p : Nat} (hL : L.length ≤ 1000) (hc : cap ≤ maxLen) (hG : GoodXL L) (hr : RL w R g cap B L E p) (wd : List UInt8) (hm : isMark L p [40] = false) :
    Calls Tryz.prog 104 #[.pointer (some ⟨R, 0, none⟩), .string ⟨wd.toArray⟩] w (PostP w R g cap B L E (.bad (whr L E p))) := by
  have hN := Lib.hid (fun w hr => pmust_off (w := w) (R := R) (g := g) (cap := cap) (B := B) (L := L) (E := E) (p := p) hL hc hG ⟨#[40]⟩ (by decide) (by decide) hr hm)
  clear hm
  have HR := Lib.hid hr
  have lR := hr.lo.1
  have lB := hr.lo.2.2
  clear hr
  go_enter Tryz.func104, Tryz.ntmps104
  go_wp2_with fail
  refine (hN.out _ (by repeat' (first | (with_reducible exact HR.out) | (with_reducible refine RL.far ?_ (by omega) _ _) | (with_reducible refine RL.alloc ?_ _) | (with_reducible refine RL.drewN ?_ _) | (with_reducible refine RL.drew ?_)))).mono ?_; rintro e w9 ⟨rfl, b9⟩
  exact ⟨rfl, rfl, But.trans (by (repeat' (first | (with_reducible exact But.refl _ _) | (with_reducible refine But.setR ?_ _ _) | (with_reducible refine But.setN ?_ (by omega) _ _) | (with_reducible refine But.alloc ?_ _) | (with_reducible refine But.drewN ?_ _) | (with_reducible refine But.drew ?_)))) b9⟩
set_option maxHeartbeats 2000000 in
set_option maxRecDepth 10000 in
theorem pcall_if {w : World} {R g cap B : Nat} {L : List Tok} {E p : Nat} (hL : L.length ≤ 1000) (hc : cap ≤ maxLen) (hG : GoodXL L) (hr : RL w R g cap B L E p)  (hm : isMark L p [40] = true) {lr : LRes} {res : Res} (hN : ∀ w', RL w' R g cap B L E (p + 1) → Calls Tryz.prog 116 #[.pointer (some ⟨R, 0, none⟩)] w' (PostL w' R g cap B L E lr)) (hk : CallR L E [73, 70] lr res) :
    Calls Tryz.prog 104 #[.pointer (some ⟨R, 0, none⟩), .string ⟨#[73, 70]⟩] w (PostP w R g cap B L E res) := by
  have HN := Lib.hid hN
  have HK := Lib.hid hk
  have hM := Lib.hid (fun w hr => pmust_on (w := w) (R := R) (g := g) (cap := cap) (B := B) (L := L) (E := E) (p := p) hL hc hG ⟨#[40]⟩ (by decide) (by decide) hr hm)
  have hMon := Lib.hid (fun w q hr hm => pmust_on (w := w) (R := R) (g := g) (cap := cap) (B := B) (L := L) (E := E) (p := q) hL hc hG ⟨#[41]⟩ (by decide) (by decide) hr hm)
  have hMoff := Lib.hid (fun w q hr hm => pmust_off (w := w) (R := R) (g := g) (cap := cap) (B := B) (L := L) (E := E) (p := q) hL hc hG ⟨#[41]⟩ (by decide) (by decide) hr hm)
  clear hN hk hm
  have HR := Lib.hid hr
  have lR := hr.lo.1
  have lB := hr.lo.2.2
  clear hr
  go_enter Tryz.func104, Tryz.ntmps104
  go_wp2_with fail
  refine (hM.out _ (by repeat' (first | (with_reducible exact HR.out) | (with_reducible refine RL.far ?_ (by omega) _ _) | (with_reducible refine RL.alloc ?_ _) | (with_reducible refine RL.drewN ?_ _) | (with_reducible refine RL.drew ?_)))).mono ?_; rintro e w1 ⟨rfl, r1, b1⟩
  have HR1 : Hid (RL w1 R g cap B L E (p + 1)) := Lib.hid (r1)
  clear r1
  have h1 : But R w w1 := But.trans (by (repeat' (first | (with_reducible exact But.refl _ _) | (with_reducible refine But.setR ?_ _ _) | (with_reducible refine But.setN ?_ (by omega) _ _) | (with_reducible refine But.alloc ?_ _) | (with_reducible refine But.drewN ?_ _) | (with_reducible refine But.drew ?_)))) b1
  have y1 : w.heap.size ≤ w1.heap.size := h1.size
  have zk1 : w.heap.size < w1.heap.size := by have := b1.size; first | omega | (simp at this; omega)
  have k10 : w1.cell? ⟨w.heap.size, 0, none⟩ = some (.int .i64 0) := b1.cell (show w.heap.size ≠ R by omega) (by simp [go_sem])
  have k11 : w1.cell? ⟨w.heap.size, 1, none⟩ = some (.int .i64 0) := b1.cell (show w.heap.size ≠ R by omega) (by simp [go_sem])
  have k12 : w1.cell? ⟨w.heap.size, 2, none⟩ = some (.int .i64 0) := b1.cell (show w.heap.size ≠ R by omega) (by simp [go_sem])
  have k13 : w1.cell? ⟨w.heap.size, 3, none⟩ = some (.int .i64 0) := b1.cell (show w.heap.size ≠ R by omega) (by simp [go_sem])
  have k14 : w1.cell? ⟨w.heap.size, 4, none⟩ = some (.int .i64 0) := b1.cell (show w.heap.size ≠ R by omega) (by simp [go_sem])
  have k15 : w1.cell? ⟨w.heap.size, 5, none⟩ = some (.int .i64 0) := b1.cell (show w.heap.size ≠ R by omega) (by simp [go_sem])
  have k16 : w1.cell? ⟨w.heap.size, 6, none⟩ = some (.string ⟨#[]⟩) := b1.cell (show w.heap.size ≠ R by omega) (by simp [go_sem])
  have k17 : w1.cell? ⟨w.heap.size, 7, none⟩ = some (.slice none 0 0) := b1.cell (show w.heap.size ≠ R by omega) (by simp [go_sem])
  have kf10 : w1.frozen? ⟨w.heap.size, 0, none⟩ = false := b1.frozen (show w.heap.size ≠ R by omega) (by first | omega | (simp; done) | (simp; omega)) (by simp [go_sem])
  have kf11 : w1.frozen? ⟨w.heap.size, 1, none⟩ = false := b1.frozen (show w.heap.size ≠ R by omega) (by first | omega | (simp; done) | (simp; omega)) (by simp [go_sem])
  have kf12 : w1.frozen? ⟨w.heap.size, 2, none⟩ = false := b1.frozen (show w.heap.size ≠ R by omega) (by first | omega | (simp; done) | (simp; omega)) (by simp [go_sem])
  have kf13 : w1.frozen? ⟨w.heap.size, 3, none⟩ = false := b1.frozen (show w.heap.size ≠ R by omega) (by first | omega | (simp; done) | (simp; omega)) (by simp [go_sem])
  have kf14 : w1.frozen? ⟨w.heap.size, 4, none⟩ = false := b1.frozen (show w.heap.size ≠ R by omega) (by first | omega | (simp; done) | (simp; omega)) (by simp [go_sem])
  have kf15 : w1.frozen? ⟨w.heap.size, 5, none⟩ = false := b1.frozen (show w.heap.size ≠ R by omega) (by first | omega | (simp; done) | (simp; omega)) (by simp [go_sem])
  have kf16 : w1.frozen? ⟨w.heap.size, 6, none⟩ = false := b1.frozen (show w.heap.size ≠ R by omega) (by first | omega | (simp; done) | (simp; omega)) (by simp [go_sem])
  have kf17 : w1.frozen? ⟨w.heap.size, 7, none⟩ = false := b1.frozen (show w.heap.size ≠ R by omega) (by first | omega | (simp; done) | (simp; omega)) (by simp [go_sem])
  have zt1 : w.heap.size + 1 < w1.heap.size := by have := b1.size; first | omega | (simp at this; omega)
  have t10 : w1.cell? ⟨w.heap.size + 1, 0, none⟩ = some (.int .i64 5) := b1.cell (show w.heap.size + 1 ≠ R by omega) (by simp [go_sem])
  have t11 : w1.cell? ⟨w.heap.size + 1, 1, none⟩ = some (.int .i64 0) := b1.cell (show w.heap.size + 1 ≠ R by omega) (by simp [go_sem])
  have t12 : w1.cell? ⟨w.heap.size + 1, 2, none⟩ = some (.int .i64 0) := b1.cell (show w.heap.size + 1 ≠ R by omega) (by simp [go_sem])
  have t13 : w1.cell? ⟨w.heap.size + 1, 3, none⟩ = some (.int .i64 0) := b1.cell (show w.heap.size + 1 ≠ R by omega) (by simp [go_sem])
  have t14 : w1.cell? ⟨w.heap.size + 1, 4, none⟩ = some (.int .i64 0) := b1.cell (show w.heap.size + 1 ≠ R by omega) (by simp [go_sem])
  have t15 : w1.cell? ⟨w.heap.size + 1, 5, none⟩ = some (.int .i64 0) := b1.cell (show w.heap.size + 1 ≠ R by omega) (by simp [go_sem])
  have t16 : w1.cell? ⟨w.heap.size + 1, 6, none⟩ = some (.string ⟨#[73, 70]⟩) := b1.cell (show w.heap.size + 1 ≠ R by omega) (by simp [go_sem])
  have t17 : w1.cell? ⟨w.heap.size + 1, 7, none⟩ = some (.slice none 0 0) := b1.cell (show w.heap.size + 1 ≠ R by omega) (by simp [go_sem])
  have tf10 : w1.frozen? ⟨w.heap.size + 1, 0, none⟩ = false := b1.frozen (show w.heap.size + 1 ≠ R by omega) (by first | omega | (simp; done) | (simp; omega)) (by simp [go_sem])
  have tf11 : w1.frozen? ⟨w.heap.size + 1, 1, none⟩ = false := b1.frozen (show w.heap.size + 1 ≠ R by omega) (by first | omega | (simp; done) | (simp; omega)) (by simp [go_sem])
  have tf12 : w1.frozen? ⟨w.heap.size + 1, 2, none⟩ = false := b1.frozen (show w.heap.size + 1 ≠ R by omega) (by first | omega | (simp; done) | (simp; omega)) (by simp [go_sem])
  have tf13 : w1.frozen? ⟨w.heap.size + 1, 3, none⟩ = false := b1.frozen (show w.heap.size + 1 ≠ R by omega) (by first | omega | (simp; done) | (simp; omega)) (by simp [go_sem])
  have tf14 : w1.frozen? ⟨w.heap.size + 1, 4, none⟩ = false := b1.frozen (show w.heap.size + 1 ≠ R by omega) (by first | omega | (simp; done) | (simp; omega)) (by simp [go_sem])
  have tf15 : w1.frozen? ⟨w.heap.size + 1, 5, none⟩ = false := b1.frozen (show w.heap.size + 1 ≠ R by omega) (by first | omega | (simp; done) | (simp; omega)) (by simp [go_sem])
  have tf16 : w1.frozen? ⟨w.heap.size + 1, 6, none⟩ = false := b1.frozen (show w.heap.size + 1 ≠ R by omega) (by first | omega | (simp; done) | (simp; omega)) (by simp [go_sem])
  have tf17 : w1.frozen? ⟨w.heap.size + 1, 7, none⟩ = false := b1.frozen (show w.heap.size + 1 ≠ R by omega) (by first | omega | (simp; done) | (simp; omega)) (by simp [go_sem])
  clear b1
  go_wp2_with fail
  refine (HN.out _ (by repeat' (first | (with_reducible exact HR1.out) | (with_reducible refine RL.far ?_ (by omega) _ _) | (with_reducible refine RL.alloc ?_ _) | (with_reducible refine RL.drewN ?_ _) | (with_reducible refine RL.drew ?_)))).mono ?_; rintro e w2 H2
  cases lr with
  | bad z =>
    obtain ⟨rfl, b2⟩ := H2
    have hk2 : res = .bad z := HK.out
    subst hk2
    exact ⟨rfl, rfl, But.trans (by (repeat' (first | (with_reducible exact h1) | (with_reducible refine But.setR ?_ _ _) | (with_reducible refine But.setN ?_ (by omega) _ _) | (with_reducible refine But.alloc ?_ _) | (with_reducible refine But.drewN ?_ _) | (with_reducible refine But.drew ?_)))) b2⟩
  | ok ks q =>
    obtain ⟨g0, cp, rfl, ⟨hg0, hg1, hkl⟩, r2, b2⟩ := H2
    have HR2 : Hid (RL w2 R g cap B L E q) := Lib.hid r2
    clear r2
    have hg0' : w.heap.size + 1 < g0 := by first | omega | (simp at hg0; omega)
    have HL2 : Hid (KL w2 (fun b => w.heap.size + 1 < b) ks g0 0) := Lib.hid (KL.imp (fun b hb => by have hb2 : _ ≤ b := hb; show w.heap.size + 1 < b; first | omega | (simp at hb2; omega)) hkl)
    clear hkl hg0
    have h2 : But R w w2 := But.trans (by (repeat' (first | (with_reducible exact h1) | (with_reducible refine But.setR ?_ _ _) | (with_reducible refine But.setN ?_ (by omega) _ _) | (with_reducible refine But.alloc ?_ _) | (with_reducible refine But.drewN ?_ _) | (with_reducible refine But.drew ?_)))) b2
    have y2 : w.heap.size ≤ w2.heap.size := h2.size
    have zk2 : w.heap.size < w2.heap.size := by have := b2.size; first | omega | (simp at this; omega)
    have k20 : w2.cell? ⟨w.heap.size, 0, none⟩ = some (.int .i64 0) := b2.cell (show w.heap.size ≠ R by omega) (by repeat' (first | (with_reducible exact k10) | (with_reducible refine kc_set ?_ (by omega) _ _) | (with_reducible refine kc_alloc ?_ _) | (with_reducible refine kc_drewN ?_ _) | (with_reducible refine kc_drew ?_)))
    have k21 : w2.cell? ⟨w.heap.size, 1, none⟩ = some (.int .i64 0) := b2.cell (show w.heap.size ≠ R by omega) (by repeat' (first | (with_reducible exact k11) | (with_reducible refine kc_set ?_ (by omega) _ _) | (with_reducible refine kc_alloc ?_ _) | (with_reducible refine kc_drewN ?_ _) | (with_reducible refine kc_drew ?_)))
    have k22 : w2.cell? ⟨w.heap.size, 2, none⟩ = some (.int .i64 0) := b2.cell (show w.heap.size ≠ R by omega) (by repeat' (first | (with_reducible exact k12) | (with_reducible refine kc_set ?_ (by omega) _ _) | (with_reducible refine kc_alloc ?_ _) | (with_reducible refine kc_drewN ?_ _) | (with_reducible refine kc_drew ?_)))
    have k23 : w2.cell? ⟨w.heap.size, 3, none⟩ = some (.int .i64 0) := b2.cell (show w.heap.size ≠ R by omega) (by repeat' (first | (with_reducible exact k13) | (with_reducible refine kc_set ?_ (by omega) _ _) | (with_reducible refine kc_alloc ?_ _) | (with_reducible refine kc_drewN ?_ _) | (with_reducible refine kc_drew ?_)))
    have k24 : w2.cell? ⟨w.heap.size, 4, none⟩ = some (.int .i64 0) := b2.cell (show w.heap.size ≠ R by omega) (by repeat' (first | (with_reducible exact k14) | (with_reducible refine kc_set ?_ (by omega) _ _) | (with_reducible refine kc_alloc ?_ _) | (with_reducible refine kc_drewN ?_ _) | (with_reducible refine kc_drew ?_)))
    have k25 : w2.cell? ⟨w.heap.size, 5, none⟩ = some (.int .i64 0) := b2.cell (show w.heap.size ≠ R by omega) (by repeat' (first | (with_reducible exact k15) | (with_reducible refine kc_set ?_ (by omega) _ _) | (with_reducible refine kc_alloc ?_ _) | (with_reducible refine kc_drewN ?_ _) | (with_reducible refine kc_drew ?_)))
    have k26 : w2.cell? ⟨w.heap.size, 6, none⟩ = some (.string ⟨#[]⟩) := b2.cell (show w.heap.size ≠ R by omega) (by repeat' (first | (with_reducible exact k16) | (with_reducible refine kc_set ?_ (by omega) _ _) | (with_reducible refine kc_alloc ?_ _) | (with_reducible refine kc_drewN ?_ _) | (with_reducible refine kc_drew ?_)))
    have k27 : w2.cell? ⟨w.heap.size, 7, none⟩ = some (.slice none 0 0) := b2.cell (show w.heap.size ≠ R by omega) (by repeat' (first | (with_reducible exact k17) | (with_reducible refine kc_set ?_ (by omega) _ _) | (with_reducible refine kc_alloc ?_ _) | (with_reducible refine kc_drewN ?_ _) | (with_reducible refine kc_drew ?_)))
    have kf20 : w2.frozen? ⟨w.heap.size, 0, none⟩ = false := b2.frozen (show w.heap.size ≠ R by omega) (by first | omega | (simp; done) | (simp; omega)) (by repeat' (first | (with_reducible exact kf10) | (with_reducible refine kf_set ?_ (by omega) _ _) | (with_reducible refine kf_alloc ?_ (by first | omega | (simp; omega)) _) | (with_reducible refine kf_drewN ?_ _) | (with_reducible refine kf_drew ?_)))
    have kf21 : w2.frozen? ⟨w.heap.size, 1, none⟩ = false := b2.frozen (show w.heap.size ≠ R by omega) (by first | omega | (simp; done) | (simp; omega)) (by repeat' (first | (with_reducible exact kf11) | (with_reducible refine kf_set ?_ (by omega) _ _) | (with_reducible refine kf_alloc ?_ (by first | omega | (simp; omega)) _) | (with_reducible refine kf_drewN ?_ _) | (with_reducible refine kf_drew ?_)))
    have kf22 : w2.frozen? ⟨w.heap.size, 2, none⟩ = false := b2.frozen (show w.heap.size ≠ R by omega) (by first | omega | (simp; done) | (simp; omega)) (by repeat' (first | (with_reducible exact kf12) | (with_reducible refine kf_set ?_ (by omega) _ _) | (with_reducible refine kf_alloc ?_ (by first | omega | (simp; omega)) _) | (with_reducible refine kf_drewN ?_ _) | (with_reducible refine kf_drew ?_)))
    have kf23 : w2.frozen? ⟨w.heap.size, 3, none⟩ = false := b2.frozen (show w.heap.size ≠ R by omega) (by first | omega | (simp; done) | (simp; omega)) (by repeat' (first | (with_reducible exact kf13) | (with_reducible refine kf_set ?_ (by omega) _ _) | (with_reducible refine kf_alloc ?_ (by first | omega | (simp; omega)) _) | (with_reducible refine kf_drewN ?_ _) | (with_reducible refine kf_drew ?_)))
    have kf24 : w2.frozen? ⟨w.heap.size, 4, none⟩ = false := b2.frozen (show w.heap.size ≠ R by omega) (by first | omega | (simp; done) | (simp; omega)) (by repeat' (first | (with_reducible exact kf14) | (with_reducible refine kf_set ?_ (by omega) _ _) | (with_reducible refine kf_alloc ?_ (by first | omega | (simp; omega)) _) | (with_reducible refine kf_drewN ?_ _) | (with_reducible refine kf_drew ?_)))
    have kf25 : w2.frozen? ⟨w.heap.size, 5, none⟩ = false := b2.frozen (show w.heap.size ≠ R by omega) (by first | omega | (simp; done) | (simp; omega)) (by repeat' (first | (with_reducible exact kf15) | (with_reducible refine kf_set ?_ (by omega) _ _) | (with_reducible refine kf_alloc ?_ (by first | omega | (simp; omega)) _) | (with_reducible refine kf_drewN ?_ _) | (with_reducible refine kf_drew ?_)))
    have kf26 : w2.frozen? ⟨w.heap.size, 6, none⟩ = false := b2.frozen (show w.heap.size ≠ R by omega) (by first | omega | (simp; done) | (simp; omega)) (by repeat' (first | (with_reducible exact kf16) | (with_reducible refine kf_set ?_ (by omega) _ _) | (with_reducible refine kf_alloc ?_ (by first | omega | (simp; omega)) _) | (with_reducible refine kf_drewN ?_ _) | (with_reducible refine kf_drew ?_)))
    have kf27 : w2.frozen? ⟨w.heap.size, 7, none⟩ = false := b2.frozen (show w.heap.size ≠ R by omega) (by first | omega | (simp; done) | (simp; omega)) (by repeat' (first | (with_reducible exact kf17) | (with_reducible refine kf_set ?_ (by omega) _ _) | (with_reducible refine kf_alloc ?_ (by first | omega | (simp; omega)) _) | (with_reducible refine kf_drewN ?_ _) | (with_reducible refine kf_drew ?_)))
    have zt2 : w.heap.size + 1 < w2.heap.size := by have := b2.size; first | omega | (simp at this; omega)
    have t20 : w2.cell? ⟨w.heap.size + 1, 0, none⟩ = some (.int .i64 5) := b2.cell (show w.heap.size + 1 ≠ R by omega) (by repeat' (first | (with_reducible exact t10) | (with_reducible refine kc_set ?_ (by omega) _ _) | (with_reducible refine kc_alloc ?_ _) | (with_reducible refine kc_drewN ?_ _) | (with_reducible refine kc_drew ?_)))
    have t21 : w2.cell? ⟨w.heap.size + 1, 1, none⟩ = some (.int .i64 0) := b2.cell (show w.heap.size + 1 ≠ R by omega) (by repeat' (first | (with_reducible exact t11) | (with_reducible refine kc_set ?_ (by omega) _ _) | (with_reducible refine kc_alloc ?_ _) | (with_reducible refine kc_drewN ?_ _) | (with_reducible refine kc_drew ?_)))
    have t22 : w2.cell? ⟨w.heap.size + 1, 2, none⟩ = some (.int .i64 0) := b2.cell (show w.heap.size + 1 ≠ R by omega) (by repeat' (first | (with_reducible exact t12) | (with_reducible refine kc_set ?_ (by omega) _ _) | (with_reducible refine kc_alloc ?_ _) | (with_reducible refine kc_drewN ?_ _) | (with_reducible refine kc_drew ?_)))
    have t23 : w2.cell? ⟨w.heap.size + 1, 3, none⟩ = some (.int .i64 0) := b2.cell (show w.heap.size + 1 ≠ R by omega) (by repeat' (first | (with_reducible exact t13) | (with_reducible refine kc_set ?_ (by omega) _ _) | (with_reducible refine kc_alloc ?_ _) | (with_reducible refine kc_drewN ?_ _) | (with_reducible refine kc_drew ?_)))
    have t24 : w2.cell? ⟨w.heap.size + 1, 4, none⟩ = some (.int .i64 0) := b2.cell (show w.heap.size + 1 ≠ R by omega) (by repeat' (first | (with_reducible exact t14) | (with_reducible refine kc_set ?_ (by omega) _ _) | (with_reducible refine kc_alloc ?_ _) | (with_reducible refine kc_drewN ?_ _) | (with_reducible refine kc_drew ?_)))
    have t25 : w2.cell? ⟨w.heap.size + 1, 5, none⟩ = some (.int .i64 0) := b2.cell (show w.heap.size + 1 ≠ R by omega) (by repeat' (first | (with_reducible exact t15) | (with_reducible refine kc_set ?_ (by omega) _ _) | (with_reducible refine kc_alloc ?_ _) | (with_reducible refine kc_drewN ?_ _) | (with_reducible refine kc_drew ?_)))
    have t26 : w2.cell? ⟨w.heap.size + 1, 6, none⟩ = some (.string ⟨#[73, 70]⟩) := b2.cell (show w.heap.size + 1 ≠ R by omega) (by repeat' (first | (with_reducible exact t16) | (with_reducible refine kc_set ?_ (by omega) _ _) | (with_reducible refine kc_alloc ?_ _) | (with_reducible refine kc_drewN ?_ _) | (with_reducible refine kc_drew ?_)))
    have t27 : w2.cell? ⟨w.heap.size + 1, 7, none⟩ = some (.slice none 0 0) := b2.cell (show w.heap.size + 1 ≠ R by omega) (by repeat' (first | (with_reducible exact t17) | (with_reducible refine kc_set ?_ (by omega) _ _) | (with_reducible refine kc_alloc ?_ _) | (with_reducible refine kc_drewN ?_ _) | (with_reducible refine kc_drew ?_)))
    have tf20 : w2.frozen? ⟨w.heap.size + 1, 0, none⟩ = false := b2.frozen (show w.heap.size + 1 ≠ R by omega) (by first | omega | (simp; done) | (simp; omega)) (by repeat' (first | (with_reducible exact tf10) | (with_reducible refine kf_set ?_ (by omega) _ _) | (with_reducible refine kf_alloc ?_ (by first | omega | (simp; omega)) _) | (with_reducible refine kf_drewN ?_ _) | (with_reducible refine kf_drew ?_)))
    have tf21 : w2.frozen? ⟨w.heap.size + 1, 1, none⟩ = false := b2.frozen (show w.heap.size + 1 ≠ R by omega) (by first | omega | (simp; done) | (simp; omega)) (by repeat' (first | (with_reducible exact tf11) | (with_reducible refine kf_set ?_ (by omega) _ _) | (with_reducible refine kf_alloc ?_ (by first | omega | (simp; omega)) _) | (with_reducible refine kf_drewN ?_ _) | (with_reducible refine kf_drew ?_)))
    have tf22 : w2.frozen? ⟨w.heap.size + 1, 2, none⟩ = false := b2.frozen (show w.heap.size + 1 ≠ R by omega) (by first | omega | (simp; done) | (simp; omega)) (by repeat' (first | (with_reducible exact tf12) | (with_reducible refine kf_set ?_ (by omega) _ _) | (with_reducible refine kf_alloc ?_ (by first | omega | (simp; omega)) _) | (with_reducible refine kf_drewN ?_ _) | (with_reducible refine kf_drew ?_)))
    have tf23 : w2.frozen? ⟨w.heap.size + 1, 3, none⟩ = false := b2.frozen (show w.heap.size + 1 ≠ R by omega) (by first | omega | (simp; done) | (simp; omega)) (by repeat' (first | (with_reducible exact tf13) | (with_reducible refine kf_set ?_ (by omega) _ _) | (with_reducible refine kf_alloc ?_ (by first | omega | (simp; omega)) _) | (with_reducible refine kf_drewN ?_ _) | (with_reducible refine kf_drew ?_)))
    have tf24 : w2.frozen? ⟨w.heap.size + 1, 4, none⟩ = false := b2.frozen (show w.heap.size + 1 ≠ R by omega) (by first | omega | (simp; done) | (simp; omega)) (by repeat' (first | (with_reducible exact tf14) | (with_reducible refine kf_set ?_ (by omega) _ _) | (with_reducible refine kf_alloc ?_ (by first | omega | (simp; omega)) _) | (with_reducible refine kf_drewN ?_ _) | (with_reducible refine kf_drew ?_)))
    have tf25 : w2.frozen? ⟨w.heap.size + 1, 5, none⟩ = false := b2.frozen (show w.heap.size + 1 ≠ R by omega) (by first | omega | (simp; done) | (simp; omega)) (by repeat' (first | (with_reducible exact tf15) | (with_reducible refine kf_set ?_ (by omega) _ _) | (with_reducible refine kf_alloc ?_ (by first | omega | (simp; omega)) _) | (with_reducible refine kf_drewN ?_ _) | (with_reducible refine kf_drew ?_)))
    have tf26 : w2.frozen? ⟨w.heap.size + 1, 6, none⟩ = false := b2.frozen (show w.heap.size + 1 ≠ R by omega) (by first | omega | (simp; done) | (simp; omega)) (by repeat' (first | (with_reducible exact tf16) | (with_reducible refine kf_set ?_ (by omega) _ _) | (with_reducible refine kf_alloc ?_ (by first | omega | (simp; omega)) _) | (with_reducible refine kf_drewN ?_ _) | (with_reducible refine kf_drew ?_)))
    have tf27 : w2.frozen? ⟨w.heap.size + 1, 7, none⟩ = false := b2.frozen (show w.heap.size + 1 ≠ R by omega) (by first | omega | (simp; done) | (simp; omega)) (by repeat' (first | (with_reducible exact tf17) | (with_reducible refine kf_set ?_ (by omega) _ _) | (with_reducible refine kf_alloc ?_ (by first | omega | (simp; omega)) _) | (with_reducible refine kf_drewN ?_ _) | (with_reducible refine kf_drew ?_)))
    clear b2 k10 k11 k12 k13 k14 k15 k16 k17 kf10 kf11 kf12 kf13 kf14 kf15 kf16 kf17 zk1 t10 t11 t12 t13 t14 t15 t16 t17 tf10 tf11 tf12 tf13 tf14 tf15 tf16 tf17 zt1
    go_wp2_with fail
    have hk : mustF L E q [41] (fun q => some (.ok (callT [73, 70] ks) q)) = some res := HK.out
    unfold mustF at hk
    cases hm2 : isMark L q [41] with
    | false =>
      rw [if_neg (by rw [hm2]; decide)] at hk
      obtain rfl := Option.some.inj hk
      have HM := Lib.hid hm2
      clear hm2 hk
      refine (hMoff.out _ q (by repeat' (first | (with_reducible exact HR2.out) | (with_reducible refine RL.far ?_ (by omega) _ _) | (with_reducible refine RL.alloc ?_ _) | (with_reducible refine RL.drewN ?_ _) | (with_reducible refine RL.drew ?_))) HM.out).mono ?_; rintro e w9 ⟨rfl, b9⟩
      exact ⟨rfl, rfl, But.trans (by (repeat' (first | (with_reducible exact h2) | (with_reducible refine But.setR ?_ _ _) | (with_reducible refine But.setN ?_ (by omega) _ _) | (with_reducible refine But.alloc ?_ _) | (with_reducible refine But.drewN ?_ _) | (with_reducible refine But.drew ?_)))) b9⟩
    | true =>
      rw [if_pos hm2] at hk
      obtain rfl := Option.some.inj hk
      have HM := Lib.hid hm2
      clear hm2 hk
      refine (hMon.out _ q (by repeat' (first | (with_reducible exact HR2.out) | (with_reducible refine RL.far ?_ (by omega) _ _) | (with_reducible refine RL.alloc ?_ _) | (with_reducible refine RL.drewN ?_ _) | (with_reducible refine RL.drew ?_))) HM.out).mono ?_; rintro e w3 ⟨rfl, r3, b3⟩
      have HR3 : Hid (RL w3 R g cap B L E (q + 1)) := Lib.hid r3
      clear r3
      have HL3 : Hid (KL w3 (fun b => w.heap.size + 1 < b) ks g0 0) := Lib.hid (KL.kept (Kept.but (by (repeat' (first | (with_reducible exact Kept.refl _ _) | (with_reducible refine Kept.set1 ?_ (by omega) _ _) | (with_reducible refine Kept.setNew ?_ (by omega) _ _) | (with_reducible refine Kept.alloc ?_ _) | (with_reducible refine Kept.drewN ?_ _)))) b3 (by show ¬ (w.heap.size + 1 < R); omega)) hg0' HL2.out)
      have hg3 : g0 < w3.heap.size := by have := b3.size; first | omega | (simp at this; omega)
      clear HL2
      have h3 : But R w w3 := But.trans (by (repeat' (first | (with_reducible exact h2) | (with_reducible refine But.setR ?_ _ _) | (with_reducible refine But.setN ?_ (by omega) _ _) | (with_reducible refine But.alloc ?_ _) | (with_reducible refine But.drewN ?_ _) | (with_reducible refine But.drew ?_)))) b3
      have y3 : w.heap.size ≤ w3.heap.size := h3.size
      have zk3 : w.heap.size < w3.heap.size := by have := b3.size; first | omega | (simp at this; omega)
      have k30 : w3.cell? ⟨w.heap.size, 0, none⟩ = some (.int .i64 0) := b3.cell (show w.heap.size ≠ R by omega) (by repeat' (first | (with_reducible exact k20) | (with_reducible refine kc_set ?_ (by omega) _ _) | (with_reducible refine kc_alloc ?_ _) | (with_reducible refine kc_drewN ?_ _) | (with_reducible refine kc_drew ?_)))
      have k31 : w3.cell? ⟨w.heap.size, 1, none⟩ = some (.int .i64 0) := b3.cell (show w.heap.size ≠ R by omega) (by repeat' (first | (with_reducible exact k21) | (with_reducible refine kc_set ?_ (by omega) _ _) | (with_reducible refine kc_alloc ?_ _) | (with_reducible refine kc_drewN ?_ _) | (with_reducible refine kc_drew ?_)))
      have k32 : w3.cell? ⟨w.heap.size, 2, none⟩ = some (.int .i64 0) := b3.cell (show w.heap.size ≠ R by omega) (by repeat' (first | (with_reducible exact k22) | (with_reducible refine kc_set ?_ (by omega) _ _) | (with_reducible refine kc_alloc ?_ _) | (with_reducible refine kc_drewN ?_ _) | (with_reducible refine kc_drew ?_)))
      have k33 : w3.cell? ⟨w.heap.size, 3, none⟩ = some (.int .i64 0) := b3.cell (show w.heap.size ≠ R by omega) (by repeat' (first | (with_reducible exact k23) | (with_reducible refine kc_set ?_ (by omega) _ _) | (with_reducible refine kc_alloc ?_ _) | (with_reducible refine kc_drewN ?_ _) | (with_reducible refine kc_drew ?_)))
      have k34 : w3.cell? ⟨w.heap.size, 4, none⟩ = some (.int .i64 0) := b3.cell (show w.heap.size ≠ R by omega) (by repeat' (first | (with_reducible exact k24) | (with_reducible refine kc_set ?_ (by omega) _ _) | (with_reducible refine kc_alloc ?_ _) | (with_reducible refine kc_drewN ?_ _) | (with_reducible refine kc_drew ?_)))
      have k35 : w3.cell? ⟨w.heap.size, 5, none⟩ = some (.int .i64 0) := b3.cell (show w.heap.size ≠ R by omega) (by repeat' (first | (with_reducible exact k25) | (with_reducible refine kc_set ?_ (by omega) _ _) | (with_reducible refine kc_alloc ?_ _) | (with_reducible refine kc_drewN ?_ _) | (with_reducible refine kc_drew ?_)))
      have k36 : w3.cell? ⟨w.heap.size, 6, none⟩ = some (.string ⟨#[]⟩) := b3.cell (show w.heap.size ≠ R by omega) (by repeat' (first | (with_reducible exact k26) | (with_reducible refine kc_set ?_ (by omega) _ _) | (with_reducible refine kc_alloc ?_ _) | (with_reducible refine kc_drewN ?_ _) | (with_reducible refine kc_drew ?_)))
      have k37 : w3.cell? ⟨w.heap.size, 7, none⟩ = some (.slice none 0 0) := b3.cell (show w.heap.size ≠ R by omega) (by repeat' (first | (with_reducible exact k27) | (with_reducible refine kc_set ?_ (by omega) _ _) | (with_reducible refine kc_alloc ?_ _) | (with_reducible refine kc_drewN ?_ _) | (with_reducible refine kc_drew ?_)))
      have kf30 : w3.frozen? ⟨w.heap.size, 0, none⟩ = false := b3.frozen (show w.heap.size ≠ R by omega) (by first | omega | (simp; done) | (simp; omega)) (by repeat' (first | (with_reducible exact kf20) | (with_reducible refine kf_set ?_ (by omega) _ _) | (with_reducible refine kf_alloc ?_ (by first | omega | (simp; omega)) _) | (with_reducible refine kf_drewN ?_ _) | (with_reducible refine kf_drew ?_)))
      have kf31 : w3.frozen? ⟨w.heap.size, 1, none⟩ = false := b3.frozen (show w.heap.size ≠ R by omega) (by first | omega | (simp; done) | (simp; omega)) (by repeat' (first | (with_reducible exact kf21) | (with_reducible refine kf_set ?_ (by omega) _ _) | (with_reducible refine kf_alloc ?_ (by first | omega | (simp; omega)) _) | (with_reducible refine kf_drewN ?_ _) | (with_reducible refine kf_drew ?_)))
      have kf32 : w3.frozen? ⟨w.heap.size, 2, none⟩ = false := b3.frozen (show w.heap.size ≠ R by omega) (by first | omega | (simp; done) | (simp; omega)) (by repeat' (first | (with_reducible exact kf22) | (with_reducible refine kf_set ?_ (by omega) _ _) | (with_reducible refine kf_alloc ?_ (by first | omega | (simp; omega)) _) | (with_reducible refine kf_drewN ?_ _) | (with_reducible refine kf_drew ?_)))
      have kf33 : w3.frozen? ⟨w.heap.size, 3, none⟩ = false := b3.frozen (show w.heap.size ≠ R by omega) (by first | omega | (simp; done) | (simp; omega)) (by repeat' (first | (with_reducible exact kf23) | (with_reducible refine kf_set ?_ (by omega) _ _) | (with_reducible refine kf_alloc ?_ (by first | omega | (simp; omega)) _) | (with_reducible refine kf_drewN ?_ _) | (with_reducible refine kf_drew ?_)))
      have kf34 : w3.frozen? ⟨w.heap.size, 4, none⟩ = false := b3.frozen (show w.heap.size ≠ R by omega) (by first | omega | (simp; done) | (simp; omega)) (by repeat' (first | (with_reducible exact kf24) | (with_reducible refine kf_set ?_ (by omega) _ _) | (with_reducible refine kf_alloc ?_ (by first | omega | (simp; omega)) _) | (with_reducible refine kf_drewN ?_ _) | (with_reducible refine kf_drew ?_)))
      have kf35 : w3.frozen? ⟨w.heap.size, 5, none⟩ = false := b3.frozen (show w.heap.size ≠ R by omega) (by first | omega | (simp; done) | (simp; omega)) (by repeat' (first | (with_reducible exact kf25) | (with_reducible refine kf_set ?_ (by omega) _ _) | (with_reducible refine kf_alloc ?_ (by first | omega | (simp; omega)) _) | (with_reducible refine kf_drewN ?_ _) | (with_reducible refine kf_drew ?_)))
      have kf36 : w3.frozen? ⟨w.heap.size, 6, none⟩ = false := b3.frozen (show w.heap.size ≠ R by omega) (by first | omega | (simp; done) | (simp; omega)) (by repeat' (first | (with_reducible exact kf26) | (with_reducible refine kf_set ?_ (by omega) _ _) | (with_reducible refine kf_alloc ?_ (by first | omega | (simp; omega)) _) | (with_reducible refine kf_drewN ?_ _) | (with_reducible refine kf_drew ?_)))
      have kf37 : w3.frozen? ⟨w.heap.size, 7, none⟩ = false := b3.frozen (show w.heap.size ≠ R by omega) (by first | omega | (simp; done) | (simp; omega)) (by repeat' (first | (with_reducible exact kf27) | (with_reducible refine kf_set ?_ (by omega) _ _) | (with_reducible refine kf_alloc ?_ (by first | omega | (simp; omega)) _) | (with_reducible refine kf_drewN ?_ _) | (with_reducible refine kf_drew ?_)))
      have zt3 : w.heap.size + 1 < w3.heap.size := by have := b3.size; first | omega | (simp at this; omega)
      have t30 : w3.cell? ⟨w.heap.size + 1, 0, none⟩ = some (.int .i64 5) := b3.cell (show w.heap.size + 1 ≠ R by omega) (by first | (simp [go_sem]; done) | (simp [go_sem, t20, t21, t22, t23, t24, t25, t26, t27]; done))
      have t31 : w3.cell? ⟨w.heap.size + 1, 1, none⟩ = some (.int .i64 0) := b3.cell (show w.heap.size + 1 ≠ R by omega) (by first | (simp [go_sem]; done) | (simp [go_sem, t20, t21, t22, t23, t24, t25, t26, t27]; done))
      have t32 : w3.cell? ⟨w.heap.size + 1, 2, none⟩ = some (.int .i64 0) := b3.cell (show w.heap.size + 1 ≠ R by omega) (by first | (simp [go_sem]; done) | (simp [go_sem, t20, t21, t22, t23, t24, t25, t26, t27]; done))
      have t33 : w3.cell? ⟨w.heap.size + 1, 3, none⟩ = some (.int .i64 0) := b3.cell (show w.heap.size + 1 ≠ R by omega) (by first | (simp [go_sem]; done) | (simp [go_sem, t20, t21, t22, t23, t24, t25, t26, t27]; done))
      have t34 : w3.cell? ⟨w.heap.size + 1, 4, none⟩ = some (.int .i64 0) := b3.cell (show w.heap.size + 1 ≠ R by omega) (by first | (simp [go_sem]; done) | (simp [go_sem, t20, t21, t22, t23, t24, t25, t26, t27]; done))
      have t35 : w3.cell? ⟨w.heap.size + 1, 5, none⟩ = some (.int .i64 0) := b3.cell (show w.heap.size + 1 ≠ R by omega) (by first | (simp [go_sem]; done) | (simp [go_sem, t20, t21, t22, t23, t24, t25, t26, t27]; done))
      have t36 : w3.cell? ⟨w.heap.size + 1, 6, none⟩ = some (.string ⟨#[73, 70]⟩) := b3.cell (show w.heap.size + 1 ≠ R by omega) (by first | (simp [go_sem]; done) | (simp [go_sem, t20, t21, t22, t23, t24, t25, t26, t27]; done))
      have t37 : w3.cell? ⟨w.heap.size + 1, 7, none⟩ = some (.slice (some ⟨g0, 0, none⟩) ks.length cp) := b3.cell (show w.heap.size + 1 ≠ R by omega) (by first | (simp [go_sem]; done) | (simp [go_sem, t20, t21, t22, t23, t24, t25, t26, t27]; done))
      have tf30 : w3.frozen? ⟨w.heap.size + 1, 0, none⟩ = false := b3.frozen (show w.heap.size + 1 ≠ R by omega) (by first | omega | (simp; done) | (simp; omega)) (by simp [go_sem, tf20])
      have tf31 : w3.frozen? ⟨w.heap.size + 1, 1, none⟩ = false := b3.frozen (show w.heap.size + 1 ≠ R by omega) (by first | omega | (simp; done) | (simp; omega)) (by simp [go_sem, tf21])
      have tf32 : w3.frozen? ⟨w.heap.size + 1, 2, none⟩ = false := b3.frozen (show w.heap.size + 1 ≠ R by omega) (by first | omega | (simp; done) | (simp; omega)) (by simp [go_sem, tf22])
      have tf33 : w3.frozen? ⟨w.heap.size + 1, 3, none⟩ = false := b3.frozen (show w.heap.size + 1 ≠ R by omega) (by first | omega | (simp; done) | (simp; omega)) (by simp [go_sem, tf23])
      have tf34 : w3.frozen? ⟨w.heap.size + 1, 4, none⟩ = false := b3.frozen (show w.heap.size + 1 ≠ R by omega) (by first | omega | (simp; done) | (simp; omega)) (by simp [go_sem, tf24])
      have tf35 : w3.frozen? ⟨w.heap.size + 1, 5, none⟩ = false := b3.frozen (show w.heap.size + 1 ≠ R by omega) (by first | omega | (simp; done) | (simp; omega)) (by simp [go_sem, tf25])
      have tf36 : w3.frozen? ⟨w.heap.size + 1, 6, none⟩ = false := b3.frozen (show w.heap.size + 1 ≠ R by omega) (by first | omega | (simp; done) | (simp; omega)) (by simp [go_sem, tf26])
      have tf37 : w3.frozen? ⟨w.heap.size + 1, 7, none⟩ = false := b3.frozen (show w.heap.size + 1 ≠ R by omega) (by first | omega | (simp; done) | (simp; omega)) (by simp [go_sem, tf27])
      clear b3 k20 k21 k22 k23 k24 k25 k26 k27 kf20 kf21 kf22 kf23 kf24 kf25 kf26 kf27 zk2 t20 t21 t22 t23 t24 t25 t26 t27 tf20 tf21 tf22 tf23 tf24 tf25 tf26 tf27 zt2
      go_wp2_with fail
      exact bodyPost_ret (v := .agg #[.int .i64 5, .int .i64 0, .int .i64 0, .int .i64 0, .int .i64 0, .int .i64 0, .string ⟨#[73, 70]⟩, .slice (some ⟨g0, 0, none⟩) ks.length cp]) (by simp [results, Tryz.results104, go_sem, k30, k31, k32, k33, k34, k35, k36, k37, t30, t31, t32, t33, t34, t35, t36, t37, zk3, zt3]) rfl ⟨⟨5, 0, 0, 0, 0, 0, ⟨#[73, 70]⟩, some ⟨g0, 0, none⟩, ks.length, cp⟩, rfl, TV.imp (P := fun b => w.heap.size + 1 < b) (tv_row (ks := ks) 5 [73, 70] hg0' (by first | omega | (simp; omega)) (KL.kept (by (repeat' (first | (with_reducible exact Kept.refl _ _) | (with_reducible refine Kept.set1 ?_ (by omega) _ _) | (with_reducible refine Kept.setNew ?_ (by omega) _ _) | (with_reducible refine Kept.alloc ?_ _) | (with_reducible refine Kept.drewN ?_ _)))) hg0' HL3.out)) fun b (hb : w.heap.size + 1 < b) => by show w.heap.size ≤ b; omega, (by repeat' (first | (with_reducible exact HR3.out) | (with_reducible refine RL.far ?_ (by omega) _ _) | (with_reducible refine RL.alloc ?_ _) | (with_reducible refine RL.drewN ?_ _) | (with_reducible refine RL.drew ?_))), by (repeat' (first | (with_reducible exact h3) | (with_reducible refine But.setR ?_ _ _) | (with_reducible refine But.setN ?_ (by omega) _ _) | (with_reducible refine But.alloc ?_ _) | (with_reducible refine But.drewN ?_ _) | (with_reducible refine But.drew ?_)))⟩
set_option maxHeartbeats 2000000 in
set_option maxRecDepth 10000 in
theorem pcall_count {w : World} {R g cap B : Nat} {L : List Tok} {E p : Nat} (hL : L.length ≤ 1000) (hc : cap ≤ maxLen) (hG : GoodXL L) (hr : RL w R g cap B L E p)  (hm : isMark L p [40] = true) {lr : LRes} {res : Res} (hN : ∀ w', RL w' R g cap B L E (p + 1) → Calls Tryz.prog 117 #[.pointer (some ⟨R, 0, none⟩), .func (.func 118) #[.pointer (some ⟨R, 0, none⟩)] #[]] w' (PostL w' R g cap B L E lr)) (hk : CallR L E [67, 79, 85, 78, 84] lr res) :
    Calls Tryz.prog 104 #[.pointer (some ⟨R, 0, none⟩), .string ⟨#[67, 79, 85, 78, 84]⟩] w (PostP w R g cap B L E res) := by
  have HN := Lib.hid hN
  have HK := Lib.hid hk
  have hM := Lib.hid (fun w hr => pmust_on (w := w) (R := R) (g := g) (cap := cap) (B := B) (L := L) (E := E) (p := p) hL hc hG ⟨#[40]⟩ (by decide) (by decide) hr hm)
  have hMon := Lib.hid (fun w q hr hm => pmust_on (w := w) (R := R) (g := g) (cap := cap) (B := B) (L := L) (E := E) (p := q) hL hc hG ⟨#[41]⟩ (by decide) (by decide) hr hm)
  have hMoff := Lib.hid (fun w q hr hm => pmust_off (w := w) (R := R) (g := g) (cap := cap) (B := B) (L := L) (E := E) (p := q) hL hc hG ⟨#[41]⟩ (by decide) (by decide) hr hm)
  clear hN hk hm
  have HR := Lib.hid hr
  have lR := hr.lo.1
  have lB := hr.lo.2.2
  clear hr
  go_enter Tryz.func104, Tryz.ntmps104
  go_wp2_with fail
  refine (hM.out _ (by repeat' (first | (with_reducible exact HR.out) | (with_reducible refine RL.far ?_ (by omega) _ _) | (with_reducible refine RL.alloc ?_ _) | (with_reducible refine RL.drewN ?_ _) | (with_reducible refine RL.drew ?_)))).mono ?_; rintro e w1 ⟨rfl, r1, b1⟩
  have HR1 : Hid (RL w1 R g cap B L E (p + 1)) := Lib.hid (r1)
  clear r1
  have h1 : But R w w1 := But.trans (by (repeat' (first | (with_reducible exact But.refl _ _) | (with_reducible refine But.setR ?_ _ _) | (with_reducible refine But.setN ?_ (by omega) _ _) | (with_reducible refine But.alloc ?_ _) | (with_reducible refine But.drewN ?_ _) | (with_reducible refine But.drew ?_)))) b1
  have y1 : w.heap.size ≤ w1.heap.size := h1.size
  have zk1 : w.heap.size < w1.heap.size := by have := b1.size; first | omega | (simp at this; omega)
  have k10 : w1.cell? ⟨w.heap.size, 0, none⟩ = some (.int .i64 0) := b1.cell (show w.heap.size ≠ R by omega) (by simp [go_sem])
  have k11 : w1.cell? ⟨w.heap.size, 1, none⟩ = some (.int .i64 0) := b1.cell (show w.heap.size ≠ R by omega) (by simp [go_sem])
  have k12 : w1.cell? ⟨w.heap.size, 2, none⟩ = some (.int .i64 0) := b1.cell (show w.heap.size ≠ R by omega) (by simp [go_sem])
  have k13 : w1.cell? ⟨w.heap.size, 3, none⟩ = some (.int .i64 0) := b1.cell (show w.heap.size ≠ R by omega) (by simp [go_sem])
  have k14 : w1.cell? ⟨w.heap.size, 4, none⟩ = some (.int .i64 0) := b1.cell (show w.heap.size ≠ R by omega) (by simp [go_sem])
  have k15 : w1.cell? ⟨w.heap.size, 5, none⟩ = some (.int .i64 0) := b1.cell (show w.heap.size ≠ R by omega) (by simp [go_sem])
  have k16 : w1.cell? ⟨w.heap.size, 6, none⟩ = some (.string ⟨#[]⟩) := b1.cell (show w.heap.size ≠ R by omega) (by simp [go_sem])
  have k17 : w1.cell? ⟨w.heap.size, 7, none⟩ = some (.slice none 0 0) := b1.cell (show w.heap.size ≠ R by omega) (by simp [go_sem])
  have kf10 : w1.frozen? ⟨w.heap.size, 0, none⟩ = false := b1.frozen (show w.heap.size ≠ R by omega) (by first | omega | (simp; done) | (simp; omega)) (by simp [go_sem])
  have kf11 : w1.frozen? ⟨w.heap.size, 1, none⟩ = false := b1.frozen (show w.heap.size ≠ R by omega) (by first | omega | (simp; done) | (simp; omega)) (by simp [go_sem])
  have kf12 : w1.frozen? ⟨w.heap.size, 2, none⟩ = false := b1.frozen (show w.heap.size ≠ R by omega) (by first | omega | (simp; done) | (simp; omega)) (by simp [go_sem])
  have kf13 : w1.frozen? ⟨w.heap.size, 3, none⟩ = false := b1.frozen (show w.heap.size ≠ R by omega) (by first | omega | (simp; done) | (simp; omega)) (by simp [go_sem])
  have kf14 : w1.frozen? ⟨w.heap.size, 4, none⟩ = false := b1.frozen (show w.heap.size ≠ R by omega) (by first | omega | (simp; done) | (simp; omega)) (by simp [go_sem])
  have kf15 : w1.frozen? ⟨w.heap.size, 5, none⟩ = false := b1.frozen (show w.heap.size ≠ R by omega) (by first | omega | (simp; done) | (simp; omega)) (by simp [go_sem])
  have kf16 : w1.frozen? ⟨w.heap.size, 6, none⟩ = false := b1.frozen (show w.heap.size ≠ R by omega) (by first | omega | (simp; done) | (simp; omega)) (by simp [go_sem])
  have kf17 : w1.frozen? ⟨w.heap.size, 7, none⟩ = false := b1.frozen (show w.heap.size ≠ R by omega) (by first | omega | (simp; done) | (simp; omega)) (by simp [go_sem])
  have zt1 : w.heap.size + 1 < w1.heap.size := by have := b1.size; first | omega | (simp at this; omega)
  have t10 : w1.cell? ⟨w.heap.size + 1, 0, none⟩ = some (.int .i64 5) := b1.cell (show w.heap.size + 1 ≠ R by omega) (by simp [go_sem])
  have t11 : w1.cell? ⟨w.heap.size + 1, 1, none⟩ = some (.int .i64 0) := b1.cell (show w.heap.size + 1 ≠ R by omega) (by simp [go_sem])
  have t12 : w1.cell? ⟨w.heap.size + 1, 2, none⟩ = some (.int .i64 0) := b1.cell (show w.heap.size + 1 ≠ R by omega) (by simp [go_sem])
  have t13 : w1.cell? ⟨w.heap.size + 1, 3, none⟩ = some (.int .i64 0) := b1.cell (show w.heap.size + 1 ≠ R by omega) (by simp [go_sem])
  have t14 : w1.cell? ⟨w.heap.size + 1, 4, none⟩ = some (.int .i64 0) := b1.cell (show w.heap.size + 1 ≠ R by omega) (by simp [go_sem])
  have t15 : w1.cell? ⟨w.heap.size + 1, 5, none⟩ = some (.int .i64 0) := b1.cell (show w.heap.size + 1 ≠ R by omega) (by simp [go_sem])
  have t16 : w1.cell? ⟨w.heap.size + 1, 6, none⟩ = some (.string ⟨#[67, 79, 85, 78, 84]⟩) := b1.cell (show w.heap.size + 1 ≠ R by omega) (by simp [go_sem])
  have t17 : w1.cell? ⟨w.heap.size + 1, 7, none⟩ = some (.slice none 0 0) := b1.cell (show w.heap.size + 1 ≠ R by omega) (by simp [go_sem])
  have tf10 : w1.frozen? ⟨w.heap.size + 1, 0, none⟩ = false := b1.frozen (show w.heap.size + 1 ≠ R by omega) (by first | omega | (simp; done) | (simp; omega)) (by simp [go_sem])
  have tf11 : w1.frozen? ⟨w.heap.size + 1, 1, none⟩ = false := b1.frozen (show w.heap.size + 1 ≠ R by omega) (by first | omega | (simp; done) | (simp; omega)) (by simp [go_sem])
  have tf12 : w1.frozen? ⟨w.heap.size + 1, 2, none⟩ = false := b1.frozen (show w.heap.size + 1 ≠ R by omega) (by first | omega | (simp; done) | (simp; omega)) (by simp [go_sem])
  have tf13 : w1.frozen? ⟨w.heap.size + 1, 3, none⟩ = false := b1.frozen (show w.heap.size + 1 ≠ R by omega) (by first | omega | (simp; done) | (simp; omega)) (by simp [go_sem])
  have tf14 : w1.frozen? ⟨w.heap.size + 1, 4, none⟩ = false := b1.frozen (show w.heap.size + 1 ≠ R by omega) (by first | omega | (simp; done) | (simp; omega)) (by simp [go_sem])
  have tf15 : w1.frozen? ⟨w.heap.size + 1, 5, none⟩ = false := b1.frozen (show w.heap.size + 1 ≠ R by omega) (by first | omega | (simp; done) | (simp; omega)) (by simp [go_sem])
  have tf16 : w1.frozen? ⟨w.heap.size + 1, 6, none⟩ = false := b1.frozen (show w.heap.size + 1 ≠ R by omega) (by first | omega | (simp; done) | (simp; omega)) (by simp [go_sem])
  have tf17 : w1.frozen? ⟨w.heap.size + 1, 7, none⟩ = false := b1.frozen (show w.heap.size + 1 ≠ R by omega) (by first | omega | (simp; done) | (simp; omega)) (by simp [go_sem])
  clear b1
  go_wp2_with fail
  refine (HN.out _ (by repeat' (first | (with_reducible exact HR1.out) | (with_reducible refine RL.far ?_ (by omega) _ _) | (with_reducible refine RL.alloc ?_ _) | (with_reducible refine RL.drewN ?_ _) | (with_reducible refine RL.drew ?_)))).mono ?_; rintro e w2 H2
  cases lr with
  | bad z =>
    obtain ⟨rfl, b2⟩ := H2
    have hk2 : res = .bad z := HK.out
    subst hk2
    exact ⟨rfl, rfl, But.trans (by (repeat' (first | (with_reducible exact h1) | (with_reducible refine But.setR ?_ _ _) | (with_reducible refine But.setN ?_ (by omega) _ _) | (with_reducible refine But.alloc ?_ _) | (with_reducible refine But.drewN ?_ _) | (with_reducible refine But.drew ?_)))) b2⟩
  | ok ks q =>
    obtain ⟨g0, cp, rfl, ⟨hg0, hg1, hkl⟩, r2, b2⟩ := H2
    have HR2 : Hid (RL w2 R g cap B L E q) := Lib.hid r2
    clear r2
    have hg0' : w.heap.size + 1 < g0 := by first | omega | (simp at hg0; omega)
    have HL2 : Hid (KL w2 (fun b => w.heap.size + 1 < b) ks g0 0) := Lib.hid (KL.imp (fun b hb => by have hb2 : _ ≤ b := hb; show w.heap.size + 1 < b; first | omega | (simp at hb2; omega)) hkl)
    clear hkl hg0
    have h2 : But R w w2 := But.trans (by (repeat' (first | (with_reducible exact h1) | (with_reducible refine But.setR ?_ _ _) | (with_reducible refine But.setN ?_ (by omega) _ _) | (with_reducible refine But.alloc ?_ _) | (with_reducible refine But.drewN ?_ _) | (with_reducible refine But.drew ?_)))) b2
    have y2 : w.heap.size ≤ w2.heap.size := h2.size
    have zk2 : w.heap.size < w2.heap.size := by have := b2.size; first | omega | (simp at this; omega)
    have k20 : w2.cell? ⟨w.heap.size, 0, none⟩ = some (.int .i64 0) := b2.cell (show w.heap.size ≠ R by omega) (by repeat' (first | (with_reducible exact k10) | (with_reducible refine kc_set ?_ (by omega) _ _) | (with_reducible refine kc_alloc ?_ _) | (with_reducible refine kc_drewN ?_ _) | (with_reducible refine kc_drew ?_)))
    have k21 : w2.cell? ⟨w.heap.size, 1, none⟩ = some (.int .i64 0) := b2.cell (show w.heap.size ≠ R by omega) (by repeat' (first | (with_reducible exact k11) | (with_reducible refine kc_set ?_ (by omega) _ _) | (with_reducible refine kc_alloc ?_ _) | (with_reducible refine kc_drewN ?_ _) | (with_reducible refine kc_drew ?_)))
    have k22 : w2.cell? ⟨w.heap.size, 2, none⟩ = some (.int .i64 0) := b2.cell (show w.heap.size ≠ R by omega) (by repeat' (first | (with_reducible exact k12) | (with_reducible refine kc_set ?_ (by omega) _ _) | (with_reducible refine kc_alloc ?_ _) | (with_reducible refine kc_drewN ?_ _) | (with_reducible refine kc_drew ?_)))
    have k23 : w2.cell? ⟨w.heap.size, 3, none⟩ = some (.int .i64 0) := b2.cell (show w.heap.size ≠ R by omega) (by repeat' (first | (with_reducible exact k13) | (with_reducible refine kc_set ?_ (by omega) _ _) | (with_reducible refine kc_alloc ?_ _) | (with_reducible refine kc_drewN ?_ _) | (with_reducible refine kc_drew ?_)))
    have k24 : w2.cell? ⟨w.heap.size, 4, none⟩ = some (.int .i64 0) := b2.cell (show w.heap.size ≠ R by omega) (by repeat' (first | (with_reducible exact k14) | (with_reducible refine kc_set ?_ (by omega) _ _) | (with_reducible refine kc_alloc ?_ _) | (with_reducible refine kc_drewN ?_ _) | (with_reducible refine kc_drew ?_)))
    have k25 : w2.cell? ⟨w.heap.size, 5, none⟩ = some (.int .i64 0) := b2.cell (show w.heap.size ≠ R by omega) (by repeat' (first | (with_reducible exact k15) | (with_reducible refine kc_set ?_ (by omega) _ _) | (with_reducible refine kc_alloc ?_ _) | (with_reducible refine kc_drewN ?_ _) | (with_reducible refine kc_drew ?_)))
    have k26 : w2.cell? ⟨w.heap.size, 6, none⟩ = some (.string ⟨#[]⟩) := b2.cell (show w.heap.size ≠ R by omega) (by repeat' (first | (with_reducible exact k16) | (with_reducible refine kc_set ?_ (by omega) _ _) | (with_reducible refine kc_alloc ?_ _) | (with_reducible refine kc_drewN ?_ _) | (with_reducible refine kc_drew ?_)))
    have k27 : w2.cell? ⟨w.heap.size, 7, none⟩ = some (.slice none 0 0) := b2.cell (show w.heap.size ≠ R by omega) (by repeat' (first | (with_reducible exact k17) | (with_reducible refine kc_set ?_ (by omega) _ _) | (with_reducible refine kc_alloc ?_ _) | (with_reducible refine kc_drewN ?_ _) | (with_reducible refine kc_drew ?_)))
    have kf20 : w2.frozen? ⟨w.heap.size, 0, none⟩ = false := b2.frozen (show w.heap.size ≠ R by omega) (by first | omega | (simp; done) | (simp; omega)) (by repeat' (first | (with_reducible exact kf10) | (with_reducible refine kf_set ?_ (by omega) _ _) | (with_reducible refine kf_alloc ?_ (by first | omega | (simp; omega)) _) | (with_reducible refine kf_drewN ?_ _) | (with_reducible refine kf_drew ?_)))
    have kf21 : w2.frozen? ⟨w.heap.size, 1, none⟩ = false := b2.frozen (show w.heap.size ≠ R by omega) (by first | omega | (simp; done) | (simp; omega)) (by repeat' (first | (with_reducible exact kf11) | (with_reducible refine kf_set ?_ (by omega) _ _) | (with_reducible refine kf_alloc ?_ (by first | omega | (simp; omega)) _) | (with_reducible refine kf_drewN ?_ _) | (with_reducible refine kf_drew ?_)))
    have kf22 : w2.frozen? ⟨w.heap.size, 2, none⟩ = false := b2.frozen (show w.heap.size ≠ R by omega) (by first | omega | (simp; done) | (simp; omega)) (by repeat' (first | (with_reducible exact kf12) | (with_reducible refine kf_set ?_ (by omega) _ _) | (with_reducible refine kf_alloc ?_ (by first | omega | (simp; omega)) _) | (with_reducible refine kf_drewN ?_ _) | (with_reducible refine kf_drew ?_)))
    have kf23 : w2.frozen? ⟨w.heap.size, 3, none⟩ = false := b2.frozen (show w.heap.size ≠ R by omega) (by first | omega | (simp; done) | (simp; omega)) (by repeat' (first | (with_reducible exact kf13) | (with_reducible refine kf_set ?_ (by omega) _ _) | (with_reducible refine kf_alloc ?_ (by first | omega | (simp; omega)) _) | (with_reducible refine kf_drewN ?_ _) | (with_reducible refine kf_drew ?_)))
    have kf24 : w2.frozen? ⟨w.heap.size, 4, none⟩ = false := b2.frozen (show w.heap.size ≠ R by omega) (by first | omega | (simp; done) | (simp; omega)) (by repeat' (first | (with_reducible exact kf14) | (with_reducible refine kf_set ?_ (by omega) _ _) | (with_reducible refine kf_alloc ?_ (by first | omega | (simp; omega)) _) | (with_reducible refine kf_drewN ?_ _) | (with_reducible refine kf_drew ?_)))
    have kf25 : w2.frozen? ⟨w.heap.size, 5, none⟩ = false := b2.frozen (show w.heap.size ≠ R by omega) (by first | omega | (simp; done) | (simp; omega)) (by repeat' (first | (with_reducible exact kf15) | (with_reducible refine kf_set ?_ (by omega) _ _) | (with_reducible refine kf_alloc ?_ (by first | omega | (simp; omega)) _) | (with_reducible refine kf_drewN ?_ _) | (with_reducible refine kf_drew ?_)))
    have kf26 : w2.frozen? ⟨w.heap.size, 6, none⟩ = false := b2.frozen (show w.heap.size ≠ R by omega) (by first | omega | (simp; done) | (simp; omega)) (by repeat' (first | (with_reducible exact kf16) | (with_reducible refine kf_set ?_ (by omega) _ _) | (with_reducible refine kf_alloc ?_ (by first | omega | (simp; omega)) _) | (with_reducible refine kf_drewN ?_ _) | (with_reducible refine kf_drew ?_)))
    have kf27 : w2.frozen? ⟨w.heap.size, 7, none⟩ = false := b2.frozen (show w.heap.size ≠ R by omega) (by first | omega | (simp; done) | (simp; omega)) (by repeat' (first | (with_reducible exact kf17) | (with_reducible refine kf_set ?_ (by omega) _ _) | (with_reducible refine kf_alloc ?_ (by first | omega | (simp; omega)) _) | (with_reducible refine kf_drewN ?_ _) | (with_reducible refine kf_drew ?_)))
    have zt2 : w.heap.size + 1 < w2.heap.size := by have := b2.size; first | omega | (simp at this; omega)
    have t20 : w2.cell? ⟨w.heap.size + 1, 0, none⟩ = some (.int .i64 5) := b2.cell (show w.heap.size + 1 ≠ R by omega) (by repeat' (first | (with_reducible exact t10) | (with_reducible refine kc_set ?_ (by omega) _ _) | (with_reducible refine kc_alloc ?_ _) | (with_reducible refine kc_drewN ?_ _) | (with_reducible refine kc_drew ?_)))
    have t21 : w2.cell? ⟨w.heap.size + 1, 1, none⟩ = some (.int .i64 0) := b2.cell (show w.heap.size + 1 ≠ R by omega) (by repeat' (first | (with_reducible exact t11) | (with_reducible refine kc_set ?_ (by omega) _ _) | (with_reducible refine kc_alloc ?_ _) | (with_reducible refine kc_drewN ?_ _) | (with_reducible refine kc_drew ?_)))
    have t22 : w2.cell? ⟨w.heap.size + 1, 2, none⟩ = some (.int .i64 0) := b2.cell (show w.heap.size + 1 ≠ R by omega) (by repeat' (first | (with_reducible exact t12) | (with_reducible refine kc_set ?_ (by omega) _ _) | (with_reducible refine kc_alloc ?_ _) | (with_reducible refine kc_drewN ?_ _) | (with_reducible refine kc_drew ?_)))
    have t23 : w2.cell? ⟨w.heap.size + 1, 3, none⟩ = some (.int .i64 0) := b2.cell (show w.heap.size + 1 ≠ R by omega) (by repeat' (first | (with_reducible exact t13) | (with_reducible refine kc_set ?_ (by omega) _ _) | (with_reducible refine kc_alloc ?_ _) | (with_reducible refine kc_drewN ?_ _) | (with_reducible refine kc_drew ?_)))
    have t24 : w2.cell? ⟨w.heap.size + 1, 4, none⟩ = some (.int .i64 0) := b2.cell (show w.heap.size + 1 ≠ R by omega) (by repeat' (first | (with_reducible exact t14) | (with_reducible refine kc_set ?_ (by omega) _ _) | (with_reducible refine kc_alloc ?_ _) | (with_reducible refine kc_drewN ?_ _) | (with_reducible refine kc_drew ?_)))
    have t25 : w2.cell? ⟨w.heap.size + 1, 5, none⟩ = some (.int .i64 0) := b2.cell (show w.heap.size + 1 ≠ R by omega) (by repeat' (first | (with_reducible exact t15) | (with_reducible refine kc_set ?_ (by omega) _ _) | (with_reducible refine kc_alloc ?_ _) | (with_reducible refine kc_drewN ?_ _) | (with_reducible refine kc_drew ?_)))
    have t26 : w2.cell? ⟨w.heap.size + 1, 6, none⟩ = some (.string ⟨#[67, 79, 85, 78, 84]⟩) := b2.cell (show w.heap.size + 1 ≠ R by omega) (by repeat' (first | (with_reducible exact t16) | (with_reducible refine kc_set ?_ (by omega) _ _) | (with_reducible refine kc_alloc ?_ _) | (with_reducible refine kc_drewN ?_ _) | (with_reducible refine kc_drew ?_)))
    have t27 : w2.cell? ⟨w.heap.size + 1, 7, none⟩ = some (.slice none 0 0) := b2.cell (show w.heap.size + 1 ≠ R by omega) (by repeat' (first | (with_reducible exact t17) | (with_reducible refine kc_set ?_ (by omega) _ _) | (with_reducible refine kc_alloc ?_ _) | (with_reducible refine kc_drewN ?_ _) | (with_reducible refine kc_drew ?_)))
    have tf20 : w2.frozen? ⟨w.heap.size + 1, 0, none⟩ = false := b2.frozen (show w.heap.size + 1 ≠ R by omega) (by first | omega | (simp; done) | (simp; omega)) (by repeat' (first | (with_reducible exact tf10) | (with_reducible refine kf_set ?_ (by omega) _ _) | (with_reducible refine kf_alloc ?_ (by first | omega | (simp; omega)) _) | (with_reducible refine kf_drewN ?_ _) | (with_reducible refine kf_drew ?_)))
    have tf21 : w2.frozen? ⟨w.heap.size + 1, 1, none⟩ = false := b2.frozen (show w.heap.size + 1 ≠ R by omega) (by first | omega | (simp; done) | (simp; omega)) (by repeat' (first | (with_reducible exact tf11) | (with_reducible refine kf_set ?_ (by omega) _ _) | (with_reducible refine kf_alloc ?_ (by first | omega | (simp; omega)) _) | (with_reducible refine kf_drewN ?_ _) | (with_reducible refine kf_drew ?_)))
    have tf22 : w2.frozen? ⟨w.heap.size + 1, 2, none⟩ = false := b2.frozen (show w.heap.size + 1 ≠ R by omega) (by first | omega | (simp; done) | (simp; omega)) (by repeat' (first | (with_reducible exact tf12) | (with_reducible refine kf_set ?_ (by omega) _ _) | (with_reducible refine kf_alloc ?_ (by first | omega | (simp; omega)) _) | (with_reducible refine kf_drewN ?_ _) | (with_reducible refine kf_drew ?_)))
    have tf23 : w2.frozen? ⟨w.heap.size + 1, 3, none⟩ = false := b2.frozen (show w.heap.size + 1 ≠ R by omega) (by first | omega | (simp; done) | (simp; omega)) (by repeat' (first | (with_reducible exact tf13) | (with_reducible refine kf_set ?_ (by omega) _ _) | (with_reducible refine kf_alloc ?_ (by first | omega | (simp; omega)) _) | (with_reducible refine kf_drewN ?_ _) | (with_reducible refine kf_drew ?_)))
    have tf24 : w2.frozen? ⟨w.heap.size + 1, 4, none⟩ = false := b2.frozen (show w.heap.size + 1 ≠ R by omega) (by first | omega | (simp; done) | (simp; omega)) (by repeat' (first | (with_reducible exact tf14) | (with_reducible refine kf_set ?_ (by omega) _ _) | (with_reducible refine kf_alloc ?_ (by first | omega | (simp; omega)) _) | (with_reducible refine kf_drewN ?_ _) | (with_reducible refine kf_drew ?_)))
    have tf25 : w2.frozen? ⟨w.heap.size + 1, 5, none⟩ = false := b2.frozen (show w.heap.size + 1 ≠ R by omega) (by first | omega | (simp; done) | (simp; omega)) (by repeat' (first | (with_reducible exact tf15) | (with_reducible refine kf_set ?_ (by omega) _ _) | (with_reducible refine kf_alloc ?_ (by first | omega | (simp; omega)) _) | (with_reducible refine kf_drewN ?_ _) | (with_reducible refine kf_drew ?_)))
    have tf26 : w2.frozen? ⟨w.heap.size + 1, 6, none⟩ = false := b2.frozen (show w.heap.size + 1 ≠ R by omega) (by first | omega | (simp; done) | (simp; omega)) (by repeat' (first | (with_reducible exact tf16) | (with_reducible refine kf_set ?_ (by omega) _ _) | (with_reducible refine kf_alloc ?_ (by first | omega | (simp; omega)) _) | (with_reducible refine kf_drewN ?_ _) | (with_reducible refine kf_drew ?_)))
    have tf27 : w2.frozen? ⟨w.heap.size + 1, 7, none⟩ = false := b2.frozen (show w.heap.size + 1 ≠ R by omega) (by first | omega | (simp; done) | (simp; omega)) (by repeat' (first | (with_reducible exact tf17) | (with_reducible refine kf_set ?_ (by omega) _ _) | (with_reducible refine kf_alloc ?_ (by first | omega | (simp; omega)) _) | (with_reducible refine kf_drewN ?_ _) | (with_reducible refine kf_drew ?_)))
    clear b2 k10 k11 k12 k13 k14 k15 k16 k17 kf10 kf11 kf12 kf13 kf14 kf15 kf16 kf17 zk1 t10 t11 t12 t13 t14 t15 t16 t17 tf10 tf11 tf12 tf13 tf14 tf15 tf16 tf17 zt1
    go_wp2_with fail
    have hk : mustF L E q [41] (fun q => some (.ok (callT [67, 79, 85, 78, 84] ks) q)) = some res := HK.out
    unfold mustF at hk
    cases hm2 : isMark L q [41] with
    | false =>
      rw [if_neg (by rw [hm2]; decide)] at hk
      obtain rfl := Option.some.inj hk
      have HM := Lib.hid hm2
      clear hm2 hk
      refine (hMoff.out _ q (by repeat' (first | (with_reducible exact HR2.out) | (with_reducible refine RL.far ?_ (by omega) _ _) | (with_reducible refine RL.alloc ?_ _) | (with_reducible refine RL.drewN ?_ _) | (with_reducible refine RL.drew ?_))) HM.out).mono ?_; rintro e w9 ⟨rfl, b9⟩
      exact ⟨rfl, rfl, But.trans (by (repeat' (first | (with_reducible exact h2) | (with_reducible refine But.setR ?_ _ _) | (with_reducible refine But.setN ?_ (by omega) _ _) | (with_reducible refine But.alloc ?_ _) | (with_reducible refine But.drewN ?_ _) | (with_reducible refine But.drew ?_)))) b9⟩
    | true =>
      rw [if_pos hm2] at hk
      obtain rfl := Option.some.inj hk
      have HM := Lib.hid hm2
      clear hm2 hk
      refine (hMon.out _ q (by repeat' (first | (with_reducible exact HR2.out) | (with_reducible refine RL.far ?_ (by omega) _ _) | (with_reducible refine RL.alloc ?_ _) | (with_reducible refine RL.drewN ?_ _) | (with_reducible refine RL.drew ?_))) HM.out).mono ?_; rintro e w3 ⟨rfl, r3, b3⟩
      have HR3 : Hid (RL w3 R g cap B L E (q + 1)) := Lib.hid r3
      clear r3
      have HL3 : Hid (KL w3 (fun b => w.heap.size + 1 < b) ks g0 0) := Lib.hid (KL.kept (Kept.but (by (repeat' (first | (with_reducible exact Kept.refl _ _) | (with_reducible refine Kept.set1 ?_ (by omega) _ _) | (with_reducible refine Kept.setNew ?_ (by omega) _ _) | (with_reducible refine Kept.alloc ?_ _) | (with_reducible refine Kept.drewN ?_ _)))) b3 (by show ¬ (w.heap.size + 1 < R); omega)) hg0' HL2.out)
      have hg3 : g0 < w3.heap.size := by have := b3.size; first | omega | (simp at this; omega)
      clear HL2
      have h3 : But R w w3 := But.trans (by (repeat' (first | (with_reducible exact h2) | (with_reducible refine But.setR ?_ _ _) | (with_reducible refine But.setN ?_ (by omega) _ _) | (with_reducible refine But.alloc ?_ _) | (with_reducible refine But.drewN ?_ _) | (with_reducible refine But.drew ?_)))) b3
      have y3 : w.heap.size ≤ w3.heap.size := h3.size
      have zk3 : w.heap.size < w3.heap.size := by have := b3.size; first | omega | (simp at this; omega)
      have k30 : w3.cell? ⟨w.heap.size, 0, none⟩ = some (.int .i64 0) := b3.cell (show w.heap.size ≠ R by omega) (by repeat' (first | (with_reducible exact k20) | (with_reducible refine kc_set ?_ (by omega) _ _) | (with_reducible refine kc_alloc ?_ _) | (with_reducible refine kc_drewN ?_ _) | (with_reducible refine kc_drew ?_)))
      have k31 : w3.cell? ⟨w.heap.size, 1, none⟩ = some (.int .i64 0) := b3.cell (show w.heap.size ≠ R by omega) (by repeat' (first | (with_reducible exact k21) | (with_reducible refine kc_set ?_ (by omega) _ _) | (with_reducible refine kc_alloc ?_ _) | (with_reducible refine kc_drewN ?_ _) | (with_reducible refine kc_drew ?_)))
      have k32 : w3.cell? ⟨w.heap.size, 2, none⟩ = some (.int .i64 0) := b3.cell (show w.heap.size ≠ R by omega) (by repeat' (first | (with_reducible exact k22) | (with_reducible refine kc_set ?_ (by omega) _ _) | (with_reducible refine kc_alloc ?_ _) | (with_reducible refine kc_drewN ?_ _) | (with_reducible refine kc_drew ?_)))
      have k33 : w3.cell? ⟨w.heap.size, 3, none⟩ = some (.int .i64 0) := b3.cell (show w.heap.size ≠ R by omega) (by repeat' (first | (with_reducible exact k23) | (with_reducible refine kc_set ?_ (by omega) _ _) | (with_reducible refine kc_alloc ?_ _) | (with_reducible refine kc_drewN ?_ _) | (with_reducible refine kc_drew ?_)))
      have k34 : w3.cell? ⟨w.heap.size, 4, none⟩ = some (.int .i64 0) := b3.cell (show w.heap.size ≠ R by omega) (by repeat' (first | (with_reducible exact k24) | (with_reducible refine kc_set ?_ (by omega) _ _) | (with_reducible refine kc_alloc ?_ _) | (with_reducible refine kc_drewN ?_ _) | (with_reducible refine kc_drew ?_)))
      have k35 : w3.cell? ⟨w.heap.size, 5, none⟩ = some (.int .i64 0) := b3.cell (show w.heap.size ≠ R by omega) (by repeat' (first | (with_reducible exact k25) | (with_reducible refine kc_set ?_ (by omega) _ _) | (with_reducible refine kc_alloc ?_ _) | (with_reducible refine kc_drewN ?_ _) | (with_reducible refine kc_drew ?_)))
      have k36 : w3.cell? ⟨w.heap.size, 6, none⟩ = some (.string ⟨#[]⟩) := b3.cell (show w.heap.size ≠ R by omega) (by repeat' (first | (with_reducible exact k26) | (with_reducible refine kc_set ?_ (by omega) _ _) | (with_reducible refine kc_alloc ?_ _) | (with_reducible refine kc_drewN ?_ _) | (with_reducible refine kc_drew ?_)))
      have k37 : w3.cell? ⟨w.heap.size, 7, none⟩ = some (.slice none 0 0) := b3.cell (show w.heap.size ≠ R by omega) (by repeat' (first | (with_reducible exact k27) | (with_reducible refine kc_set ?_ (by omega) _ _) | (with_reducible refine kc_alloc ?_ _) | (with_reducible refine kc_drewN ?_ _) | (with_reducible refine kc_drew ?_)))
      have kf30 : w3.frozen? ⟨w.heap.size, 0, none⟩ = false := b3.frozen (show w.heap.size ≠ R by omega) (by first | omega | (simp; done) | (simp; omega)) (by repeat' (first | (with_reducible exact kf20) | (with_reducible refine kf_set ?_ (by omega) _ _) | (with_reducible refine kf_alloc ?_ (by first | omega | (simp; omega)) _) | (with_reducible refine kf_drewN ?_ _) | (with_reducible refine kf_drew ?_)))
      have kf31 : w3.frozen? ⟨w.heap.size, 1, none⟩ = false := b3.frozen (show w.heap.size ≠ R by omega) (by first | omega | (simp; done) | (simp; omega)) (by repeat' (first | (with_reducible exact kf21) | (with_reducible refine kf_set ?_ (by omega) _ _) | (with_reducible refine kf_alloc ?_ (by first | omega | (simp; omega)) _) | (with_reducible refine kf_drewN ?_ _) | (with_reducible refine kf_drew ?_)))
      have kf32 : w3.frozen? ⟨w.heap.size, 2, none⟩ = false := b3.frozen (show w.heap.size ≠ R by omega) (by first | omega | (simp; done) | (simp; omega)) (by repeat' (first | (with_reducible exact kf22) | (with_reducible refine kf_set ?_ (by omega) _ _) | (with_reducible refine kf_alloc ?_ (by first | omega | (simp; omega)) _) | (with_reducible refine kf_drewN ?_ _) | (with_reducible refine kf_drew ?_)))
      have kf33 : w3.frozen? ⟨w.heap.size, 3, none⟩ = false := b3.frozen (show w.heap.size ≠ R by omega) (by first | omega | (simp; done) | (simp; omega)) (by repeat' (first | (with_reducible exact kf23) | (with_reducible refine kf_set ?_ (by omega) _ _) | (with_reducible refine kf_alloc ?_ (by first | omega | (simp; omega)) _) | (with_reducible refine kf_drewN ?_ _) | (with_reducible refine kf_drew ?_)))
      have kf34 : w3.frozen? ⟨w.heap.size, 4, none⟩ = false := b3.frozen (show w.heap.size ≠ R by omega) (by first | omega | (simp; done) | (simp; omega)) (by repeat' (first | (with_reducible exact kf24) | (with_reducible refine kf_set ?_ (by omega) _ _) | (with_reducible refine kf_alloc ?_ (by first | omega | (simp; omega)) _) | (with_reducible refine kf_drewN ?_ _) | (with_reducible refine kf_drew ?_)))
      have kf35 : w3.frozen? ⟨w.heap.size, 5, none⟩ = false := b3.frozen (show w.heap.size ≠ R by omega) (by first | omega | (simp; done) | (simp; omega)) (by repeat' (first | (with_reducible exact kf25) | (with_reducible refine kf_set ?_ (by omega) _ _) | (with_reducible refine kf_alloc ?_ (by first | omega | (simp; omega)) _) | (with_reducible refine kf_drewN ?_ _) | (with_reducible refine kf_drew ?_)))
      have kf36 : w3.frozen? ⟨w.heap.size, 6, none⟩ = false := b3.frozen (show w.heap.size ≠ R by omega) (by first | omega | (simp; done) | (simp; omega)) (by repeat' (first | (with_reducible exact kf26) | (with_reducible refine kf_set ?_ (by omega) _ _) | (with_reducible refine kf_alloc ?_ (by first | omega | (simp; omega)) _) | (with_reducible refine kf_drewN ?_ _) | (with_reducible refine kf_drew ?_)))
      have kf37 : w3.frozen? ⟨w.heap.size, 7, none⟩ = false := b3.frozen (show w.heap.size ≠ R by omega) (by first | omega | (simp; done) | (simp; omega)) (by repeat' (first | (with_reducible exact kf27) | (with_reducible refine kf_set ?_ (by omega) _ _) | (with_reducible refine kf_alloc ?_ (by first | omega | (simp; omega)) _) | (with_reducible refine kf_drewN ?_ _) | (with_reducible refine kf_drew ?_)))
      have zt3 : w.heap.size + 1 < w3.heap.size := by have := b3.size; first | omega | (simp at this; omega)
      have t30 : w3.cell? ⟨w.heap.size + 1, 0, none⟩ = some (.int .i64 5) := b3.cell (show w.heap.size + 1 ≠ R by omega) (by first | (simp [go_sem]; done) | (simp [go_sem, t20, t21, t22, t23, t24, t25, t26, t27]; done))
      have t31 : w3.cell? ⟨w.heap.size + 1, 1, none⟩ = some (.int .i64 0) := b3.cell (show w.heap.size + 1 ≠ R by omega) (by first | (simp [go_sem]; done) | (simp [go_sem, t20, t21, t22, t23, t24, t25, t26, t27]; done))
      have t32 : w3.cell? ⟨w.heap.size + 1, 2, none⟩ = some (.int .i64 0) := b3.cell (show w.heap.size + 1 ≠ R by omega) (by first | (simp [go_sem]; done) | (simp [go_sem, t20, t21, t22, t23, t24, t25, t26, t27]; done))
      have t33 : w3.cell? ⟨w.heap.size + 1, 3, none⟩ = some (.int .i64 0) := b3.cell (show w.heap.size + 1 ≠ R by omega) (by first | (simp [go_sem]; done) | (simp [go_sem, t20, t21, t22, t23, t24, t25, t26, t27]; done))
      have t34 : w3.cell? ⟨w.heap.size + 1, 4, none⟩ = some (.int .i64 0) := b3.cell (show w.heap.size + 1 ≠ R by omega) (by first | (simp [go_sem]; done) | (simp [go_sem, t20, t21, t22, t23, t24, t25, t26, t27]; done))
      have t35 : w3.cell? ⟨w.heap.size + 1, 5, none⟩ = some (.int .i64 0) := b3.cell (show w.heap.size + 1 ≠ R by omega) (by first | (simp [go_sem]; done) | (simp [go_sem, t20, t21, t22, t23, t24, t25, t26, t27]; done))
      have t36 : w3.cell? ⟨w.heap.size + 1, 6, none⟩ = some (.string ⟨#[67, 79, 85, 78, 84]⟩) := b3.cell (show w.heap.size + 1 ≠ R by omega) (by first | (simp [go_sem]; done) | (simp [go_sem, t20, t21, t22, t23, t24, t25, t26, t27]; done))
      have t37 : w3.cell? ⟨w.heap.size + 1, 7, none⟩ = some (.slice (some ⟨g0, 0, none⟩) ks.length cp) := b3.cell (show w.heap.size + 1 ≠ R by omega) (by first | (simp [go_sem]; done) | (simp [go_sem, t20, t21, t22, t23, t24, t25, t26, t27]; done))
      have tf30 : w3.frozen? ⟨w.heap.size + 1, 0, none⟩ = false := b3.frozen (show w.heap.size + 1 ≠ R by omega) (by first | omega | (simp; done) | (simp; omega)) (by simp [go_sem, tf20])
      have tf31 : w3.frozen? ⟨w.heap.size + 1, 1, none⟩ = false := b3.frozen (show w.heap.size + 1 ≠ R by omega) (by first | omega | (simp; done) | (simp; omega)) (by simp [go_sem, tf21])
      have tf32 : w3.frozen? ⟨w.heap.size + 1, 2, none⟩ = false := b3.frozen (show w.heap.size + 1 ≠ R by omega) (by first | omega | (simp; done) | (simp; omega)) (by simp [go_sem, tf22])
      have tf33 : w3.frozen? ⟨w.heap.size + 1, 3, none⟩ = false := b3.frozen (show w.heap.size + 1 ≠ R by omega) (by first | omega | (simp; done) | (simp; omega)) (by simp [go_sem, tf23])
      have tf34 : w3.frozen? ⟨w.heap.size + 1, 4, none⟩ = false := b3.frozen (show w.heap.size + 1 ≠ R by omega) (by first | omega | (simp; done) | (simp; omega)) (by simp [go_sem, tf24])
      have tf35 : w3.frozen? ⟨w.heap.size + 1, 5, none⟩ = false := b3.frozen (show w.heap.size + 1 ≠ R by omega) (by first | omega | (simp; done) | (simp; omega)) (by simp [go_sem, tf25])
      have tf36 : w3.frozen? ⟨w.heap.size + 1, 6, none⟩ = false := b3.frozen (show w.heap.size + 1 ≠ R by omega) (by first | omega | (simp; done) | (simp; omega)) (by simp [go_sem, tf26])
      have tf37 : w3.frozen? ⟨w.heap.size + 1, 7, none⟩ = false := b3.frozen (show w.heap.size + 1 ≠ R by omega) (by first | omega | (simp; done) | (simp; omega)) (by simp [go_sem, tf27])
      clear b3 k20 k21 k22 k23 k24 k25 k26 k27 kf20 kf21 kf22 kf23 kf24 kf25 kf26 kf27 zk2 t20 t21 t22 t23 t24 t25 t26 t27 tf20 tf21 tf22 tf23 tf24 tf25 tf26 tf27 zt2
      go_wp2_with fail
      exact bodyPost_ret (v := .agg #[.int .i64 5, .int .i64 0, .int .i64 0, .int .i64 0, .int .i64 0, .int .i64 0, .string ⟨#[67, 79, 85, 78, 84]⟩, .slice (some ⟨g0, 0, none⟩) ks.length cp]) (by simp [results, Tryz.results104, go_sem, k30, k31, k32, k33, k34, k35, k36, k37, t30, t31, t32, t33, t34, t35, t36, t37, zk3, zt3]) rfl ⟨⟨5, 0, 0, 0, 0, 0, ⟨#[67, 79, 85, 78, 84]⟩, some ⟨g0, 0, none⟩, ks.length, cp⟩, rfl, TV.imp (P := fun b => w.heap.size + 1 < b) (tv_row (ks := ks) 5 [67, 79, 85, 78, 84] hg0' (by first | omega | (simp; omega)) (KL.kept (by (repeat' (first | (with_reducible exact Kept.refl _ _) | (with_reducible refine Kept.set1 ?_ (by omega) _ _) | (with_reducible refine Kept.setNew ?_ (by omega) _ _) | (with_reducible refine Kept.alloc ?_ _) | (with_reducible refine Kept.drewN ?_ _)))) hg0' HL3.out)) fun b (hb : w.heap.size + 1 < b) => by show w.heap.size ≤ b; omega, (by repeat' (first | (with_reducible exact HR3.out) | (with_reducible refine RL.far ?_ (by omega) _ _) | (with_reducible refine RL.alloc ?_ _) | (with_reducible refine RL.drewN ?_ _) | (with_reducible refine RL.drew ?_))), by (repeat' (first | (with_reducible exact h3) | (with_reducible refine But.setR ?_ _ _) | (with_reducible refine But.setN ?_ (by omega) _ _) | (with_reducible refine But.alloc ?_ _) | (with_reducible refine But.drewN ?_ _) | (with_reducible refine But.drew ?_)))⟩
set_option maxHeartbeats 2000000 in
set_option maxRecDepth 10000 in
theorem pcall_other {w : World} {R g cap B : Nat} {L : List Tok} {E p : Nat} (hL : L.length ≤ 1000) (hc : cap ≤ maxLen) (hG : GoodXL L) (hr : RL w R g cap B L E p) {wd : List UInt8} (e1 : (wd == [73, 70]) = false) (e2 : (wd == [67, 79, 85, 78, 84]) = false) (hm : isMark L p [40] = true) {lr : LRes} {res : Res} (hN : ∀ w', RL w' R g cap B L E (p + 1) → Calls Tryz.prog 117 #[.pointer (some ⟨R, 0, none⟩), .func (.func 119) #[.pointer (some ⟨R, 0, none⟩)] #[]] w' (PostL w' R g cap B L E lr)) (hk : CallR L E wd lr res) :
    Calls Tryz.prog 104 #[.pointer (some ⟨R, 0, none⟩), .string ⟨wd.toArray⟩] w (PostP w R g cap B L E res) := by
  have HN := Lib.hid hN
  have HK := Lib.hid hk
  have hM := Lib.hid (fun w hr => pmust_on (w := w) (R := R) (g := g) (cap := cap) (B := B) (L := L) (E := E) (p := p) hL hc hG ⟨#[40]⟩ (by decide) (by decide) hr hm)
  have hMon := Lib.hid (fun w q hr hm => pmust_on (w := w) (R := R) (g := g) (cap := cap) (B := B) (L := L) (E := E) (p := q) hL hc hG ⟨#[41]⟩ (by decide) (by decide) hr hm)
  have hMoff := Lib.hid (fun w q hr hm => pmust_off (w := w) (R := R) (g := g) (cap := cap) (B := B) (L := L) (E := E) (p := q) hL hc hG ⟨#[41]⟩ (by decide) (by decide) hr hm)
  clear hN hk hm
  have HR := Lib.hid hr
  have lR := hr.lo.1
  have lB := hr.lo.2.2
  clear hr
  go_enter Tryz.func104, Tryz.ntmps104
  go_wp2_with fail
  refine (hM.out _ (by repeat' (first | (with_reducible exact HR.out) | (with_reducible refine RL.far ?_ (by omega) _ _) | (with_reducible refine RL.alloc ?_ _) | (with_reducible refine RL.drewN ?_ _) | (with_reducible refine RL.drew ?_)))).mono ?_; rintro e w1 ⟨rfl, r1, b1⟩
  have HR1 : Hid (RL w1 R g cap B L E (p + 1)) := Lib.hid (r1)
  clear r1
  have h1 : But R w w1 := But.trans (by (repeat' (first | (with_reducible exact But.refl _ _) | (with_reducible refine But.setR ?_ _ _) | (with_reducible refine But.setN ?_ (by omega) _ _) | (with_reducible refine But.alloc ?_ _) | (with_reducible refine But.drewN ?_ _) | (with_reducible refine But.drew ?_)))) b1
  have y1 : w.heap.size ≤ w1.heap.size := h1.size
  have zk1 : w.heap.size < w1.heap.size := by have := b1.size; first | omega | (simp at this; omega)
  have k10 : w1.cell? ⟨w.heap.size, 0, none⟩ = some (.int .i64 0) := b1.cell (show w.heap.size ≠ R by omega) (by simp [go_sem])
  have k11 : w1.cell? ⟨w.heap.size, 1, none⟩ = some (.int .i64 0) := b1.cell (show w.heap.size ≠ R by omega) (by simp [go_sem])
  have k12 : w1.cell? ⟨w.heap.size, 2, none⟩ = some (.int .i64 0) := b1.cell (show w.heap.size ≠ R by omega) (by simp [go_sem])
  have k13 : w1.cell? ⟨w.heap.size, 3, none⟩ = some (.int .i64 0) := b1.cell (show w.heap.size ≠ R by omega) (by simp [go_sem])
  have k14 : w1.cell? ⟨w.heap.size, 4, none⟩ = some (.int .i64 0) := b1.cell (show w.heap.size ≠ R by omega) (by simp [go_sem])
  have k15 : w1.cell? ⟨w.heap.size, 5, none⟩ = some (.int .i64 0) := b1.cell (show w.heap.size ≠ R by omega) (by simp [go_sem])
  have k16 : w1.cell? ⟨w.heap.size, 6, none⟩ = some (.string ⟨#[]⟩) := b1.cell (show w.heap.size ≠ R by omega) (by simp [go_sem])
  have k17 : w1.cell? ⟨w.heap.size, 7, none⟩ = some (.slice none 0 0) := b1.cell (show w.heap.size ≠ R by omega) (by simp [go_sem])
  have kf10 : w1.frozen? ⟨w.heap.size, 0, none⟩ = false := b1.frozen (show w.heap.size ≠ R by omega) (by first | omega | (simp; done) | (simp; omega)) (by simp [go_sem])
  have kf11 : w1.frozen? ⟨w.heap.size, 1, none⟩ = false := b1.frozen (show w.heap.size ≠ R by omega) (by first | omega | (simp; done) | (simp; omega)) (by simp [go_sem])
  have kf12 : w1.frozen? ⟨w.heap.size, 2, none⟩ = false := b1.frozen (show w.heap.size ≠ R by omega) (by first | omega | (simp; done) | (simp; omega)) (by simp [go_sem])
  have kf13 : w1.frozen? ⟨w.heap.size, 3, none⟩ = false := b1.frozen (show w.heap.size ≠ R by omega) (by first | omega | (simp; done) | (simp; omega)) (by simp [go_sem])
  have kf14 : w1.frozen? ⟨w.heap.size, 4, none⟩ = false := b1.frozen (show w.heap.size ≠ R by omega) (by first | omega | (simp; done) | (simp; omega)) (by simp [go_sem])
  have kf15 : w1.frozen? ⟨w.heap.size, 5, none⟩ = false := b1.frozen (show w.heap.size ≠ R by omega) (by first | omega | (simp; done) | (simp; omega)) (by simp [go_sem])
  have kf16 : w1.frozen? ⟨w.heap.size, 6, none⟩ = false := b1.frozen (show w.heap.size ≠ R by omega) (by first | omega | (simp; done) | (simp; omega)) (by simp [go_sem])
  have kf17 : w1.frozen? ⟨w.heap.size, 7, none⟩ = false := b1.frozen (show w.heap.size ≠ R by omega) (by first | omega | (simp; done) | (simp; omega)) (by simp [go_sem])
  have zt1 : w.heap.size + 1 < w1.heap.size := by have := b1.size; first | omega | (simp at this; omega)
  have t10 : w1.cell? ⟨w.heap.size + 1, 0, none⟩ = some (.int .i64 5) := b1.cell (show w.heap.size + 1 ≠ R by omega) (by simp [go_sem])
  have t11 : w1.cell? ⟨w.heap.size + 1, 1, none⟩ = some (.int .i64 0) := b1.cell (show w.heap.size + 1 ≠ R by omega) (by simp [go_sem])
  have t12 : w1.cell? ⟨w.heap.size + 1, 2, none⟩ = some (.int .i64 0) := b1.cell (show w.heap.size + 1 ≠ R by omega) (by simp [go_sem])
  have t13 : w1.cell? ⟨w.heap.size + 1, 3, none⟩ = some (.int .i64 0) := b1.cell (show w.heap.size + 1 ≠ R by omega) (by simp [go_sem])
  have t14 : w1.cell? ⟨w.heap.size + 1, 4, none⟩ = some (.int .i64 0) := b1.cell (show w.heap.size + 1 ≠ R by omega) (by simp [go_sem])
  have t15 : w1.cell? ⟨w.heap.size + 1, 5, none⟩ = some (.int .i64 0) := b1.cell (show w.heap.size + 1 ≠ R by omega) (by simp [go_sem])
  have t16 : w1.cell? ⟨w.heap.size + 1, 6, none⟩ = some (.string ⟨wd.toArray⟩) := b1.cell (show w.heap.size + 1 ≠ R by omega) (by simp [go_sem])
  have t17 : w1.cell? ⟨w.heap.size + 1, 7, none⟩ = some (.slice none 0 0) := b1.cell (show w.heap.size + 1 ≠ R by omega) (by simp [go_sem])
  have tf10 : w1.frozen? ⟨w.heap.size + 1, 0, none⟩ = false := b1.frozen (show w.heap.size + 1 ≠ R by omega) (by first | omega | (simp; done) | (simp; omega)) (by simp [go_sem])
  have tf11 : w1.frozen? ⟨w.heap.size + 1, 1, none⟩ = false := b1.frozen (show w.heap.size + 1 ≠ R by omega) (by first | omega | (simp; done) | (simp; omega)) (by simp [go_sem])
  have tf12 : w1.frozen? ⟨w.heap.size + 1, 2, none⟩ = false := b1.frozen (show w.heap.size + 1 ≠ R by omega) (by first | omega | (simp; done) | (simp; omega)) (by simp [go_sem])
  have tf13 : w1.frozen? ⟨w.heap.size + 1, 3, none⟩ = false := b1.frozen (show w.heap.size + 1 ≠ R by omega) (by first | omega | (simp; done) | (simp; omega)) (by simp [go_sem])
  have tf14 : w1.frozen? ⟨w.heap.size + 1, 4, none⟩ = false := b1.frozen (show w.heap.size + 1 ≠ R by omega) (by first | omega | (simp; done) | (simp; omega)) (by simp [go_sem])
  have tf15 : w1.frozen? ⟨w.heap.size + 1, 5, none⟩ = false := b1.frozen (show w.heap.size + 1 ≠ R by omega) (by first | omega | (simp; done) | (simp; omega)) (by simp [go_sem])
  have tf16 : w1.frozen? ⟨w.heap.size + 1, 6, none⟩ = false := b1.frozen (show w.heap.size + 1 ≠ R by omega) (by first | omega | (simp; done) | (simp; omega)) (by simp [go_sem])
  have tf17 : w1.frozen? ⟨w.heap.size + 1, 7, none⟩ = false := b1.frozen (show w.heap.size + 1 ≠ R by omega) (by first | omega | (simp; done) | (simp; omega)) (by simp [go_sem])
  clear b1
  go_wp2_with fail
  refine (HN.out _ (by repeat' (first | (with_reducible exact HR1.out) | (with_reducible refine RL.far ?_ (by omega) _ _) | (with_reducible refine RL.alloc ?_ _) | (with_reducible refine RL.drewN ?_ _) | (with_reducible refine RL.drew ?_)))).mono ?_; rintro e w2 H2
  cases lr with
  | bad z =>
    obtain ⟨rfl, b2⟩ := H2
    have hk2 : res = .bad z := HK.out
    subst hk2
    exact ⟨rfl, rfl, But.trans (by (repeat' (first | (with_reducible exact h1) | (with_reducible refine But.setR ?_ _ _) | (with_reducible refine But.setN ?_ (by omega) _ _) | (with_reducible refine But.alloc ?_ _) | (with_reducible refine But.drewN ?_ _) | (with_reducible refine But.drew ?_)))) b2⟩
  | ok ks q =>
    obtain ⟨g0, cp, rfl, ⟨hg0, hg1, hkl⟩, r2, b2⟩ := H2
    have HR2 : Hid (RL w2 R g cap B L E q) := Lib.hid r2
    clear r2
    have hg0' : w.heap.size + 1 < g0 := by first | omega | (simp at hg0; omega)
    have HL2 : Hid (KL w2 (fun b => w.heap.size + 1 < b) ks g0 0) := Lib.hid (KL.imp (fun b hb => by have hb2 : _ ≤ b := hb; show w.heap.size + 1 < b; first | omega | (simp at hb2; omega)) hkl)
    clear hkl hg0
    have h2 : But R w w2 := But.trans (by (repeat' (first | (with_reducible exact h1) | (with_reducible refine But.setR ?_ _ _) | (with_reducible refine But.setN ?_ (by omega) _ _) | (with_reducible refine But.alloc ?_ _) | (with_reducible refine But.drewN ?_ _) | (with_reducible refine But.drew ?_)))) b2
    have y2 : w.heap.size ≤ w2.heap.size := h2.size
    have zk2 : w.heap.size < w2.heap.size := by have := b2.size; first | omega | (simp at this; omega)
    have k20 : w2.cell? ⟨w.heap.size, 0, none⟩ = some (.int .i64 0) := b2.cell (show w.heap.size ≠ R by omega) (by repeat' (first | (with_reducible exact k10) | (with_reducible refine kc_set ?_ (by omega) _ _) | (with_reducible refine kc_alloc ?_ _) | (with_reducible refine kc_drewN ?_ _) | (with_reducible refine kc_drew ?_)))
    have k21 : w2.cell? ⟨w.heap.size, 1, none⟩ = some (.int .i64 0) := b2.cell (show w.heap.size ≠ R by omega) (by repeat' (first | (with_reducible exact k11) | (with_reducible refine kc_set ?_ (by omega) _ _) | (with_reducible refine kc_alloc ?_ _) | (with_reducible refine kc_drewN ?_ _) | (with_reducible refine kc_drew ?_)))
    have k22 : w2.cell? ⟨w.heap.size, 2, none⟩ = some (.int .i64 0) := b2.cell (show w.heap.size ≠ R by omega) (by repeat' (first | (with_reducible exact k12) | (with_reducible refine kc_set ?_ (by omega) _ _) | (with_reducible refine kc_alloc ?_ _) | (with_reducible refine kc_drewN ?_ _) | (with_reducible refine kc_drew ?_)))
    have k23 : w2.cell? ⟨w.heap.size, 3, none⟩ = some (.int .i64 0) := b2.cell (show w.heap.size ≠ R by omega) (by repeat' (first | (with_reducible exact k13) | (with_reducible refine kc_set ?_ (by omega) _ _) | (with_reducible refine kc_alloc ?_ _) | (with_reducible refine kc_drewN ?_ _) | (with_reducible refine kc_drew ?_)))
    have k24 : w2.cell? ⟨w.heap.size, 4, none⟩ = some (.int .i64 0) := b2.cell (show w.heap.size ≠ R by omega) (by repeat' (first | (with_reducible exact k14) | (with_reducible refine kc_set ?_ (by omega) _ _) | (with_reducible refine kc_alloc ?_ _) | (with_reducible refine kc_drewN ?_ _) | (with_reducible refine kc_drew ?_)))
    have k25 : w2.cell? ⟨w.heap.size, 5, none⟩ = some (.int .i64 0) := b2.cell (show w.heap.size ≠ R by omega) (by repeat' (first | (with_reducible exact k15) | (with_reducible refine kc_set ?_ (by omega) _ _) | (with_reducible refine kc_alloc ?_ _) | (with_reducible refine kc_drewN ?_ _) | (with_reducible refine kc_drew ?_)))
    have k26 : w2.cell? ⟨w.heap.size, 6, none⟩ = some (.string ⟨#[]⟩) := b2.cell (show w.heap.size ≠ R by omega) (by repeat' (first | (with_reducible exact k16) | (with_reducible refine kc_set ?_ (by omega) _ _) | (with_reducible refine kc_alloc ?_ _) | (with_reducible refine kc_drewN ?_ _) | (with_reducible refine kc_drew ?_)))
    have k27 : w2.cell? ⟨w.heap.size, 7, none⟩ = some (.slice none 0 0) := b2.cell (show w.heap.size ≠ R by omega) (by repeat' (first | (with_reducible exact k17) | (with_reducible refine kc_set ?_ (by omega) _ _) | (with_reducible refine kc_alloc ?_ _) | (with_reducible refine kc_drewN ?_ _) | (with_reducible refine kc_drew ?_)))
    have kf20 : w2.frozen? ⟨w.heap.size, 0, none⟩ = false := b2.frozen (show w.heap.size ≠ R by omega) (by first | omega | (simp; done) | (simp; omega)) (by repeat' (first | (with_reducible exact kf10) | (with_reducible refine kf_set ?_ (by omega) _ _) | (with_reducible refine kf_alloc ?_ (by first | omega | (simp; omega)) _) | (with_reducible refine kf_drewN ?_ _) | (with_reducible refine kf_drew ?_)))
    have kf21 : w2.frozen? ⟨w.heap.size, 1, none⟩ = false := b2.frozen (show w.heap.size ≠ R by omega) (by first | omega | (simp; done) | (simp; omega)) (by repeat' (first | (with_reducible exact kf11) | (with_reducible refine kf_set ?_ (by omega) _ _) | (with_reducible refine kf_alloc ?_ (by first | omega | (simp; omega)) _) | (with_reducible refine kf_drewN ?_ _) | (with_reducible refine kf_drew ?_)))
    have kf22 : w2.frozen? ⟨w.heap.size, 2, none⟩ = false := b2.frozen (show w.heap.size ≠ R by omega) (by first | omega | (simp; done) | (simp; omega)) (by repeat' (first | (with_reducible exact kf12) | (with_reducible refine kf_set ?_ (by omega) _ _) | (with_reducible refine kf_alloc ?_ (by first | omega | (simp; omega)) _) | (with_reducible refine kf_drewN ?_ _) | (with_reducible refine kf_drew ?_)))
    have kf23 : w2.frozen? ⟨w.heap.size, 3, none⟩ = false := b2.frozen (show w.heap.size ≠ R by omega) (by first | omega | (simp; done) | (simp; omega)) (by repeat' (first | (with_reducible exact kf13) | (with_reducible refine kf_set ?_ (by omega) _ _) | (with_reducible refine kf_alloc ?_ (by first | omega | (simp; omega)) _) | (with_reducible refine kf_drewN ?_ _) | (with_reducible refine kf_drew ?_)))
    have kf24 : w2.frozen? ⟨w.heap.size, 4, none⟩ = false := b2.frozen (show w.heap.size ≠ R by omega) (by first | omega | (simp; done) | (simp; omega)) (by repeat' (first | (with_reducible exact kf14) | (with_reducible refine kf_set ?_ (by omega) _ _) | (with_reducible refine kf_alloc ?_ (by first | omega | (simp; omega)) _) | (with_reducible refine kf_drewN ?_ _) | (with_reducible refine kf_drew ?_)))
    have kf25 : w2.frozen? ⟨w.heap.size, 5, none⟩ = false := b2.frozen (show w.heap.size ≠ R by omega) (by first | omega | (simp; done) | (simp; omega)) (by repeat' (first | (with_reducible exact kf15) | (with_reducible refine kf_set ?_ (by omega) _ _) | (with_reducible refine kf_alloc ?_ (by first | omega | (simp; omega)) _) | (with_reducible refine kf_drewN ?_ _) | (with_reducible refine kf_drew ?_)))
    have kf26 : w2.frozen? ⟨w.heap.size, 6, none⟩ = false := b2.frozen (show w.heap.size ≠ R by omega) (by first | omega | (simp; done) | (simp; omega)) (by repeat' (first | (with_reducible exact kf16) | (with_reducible refine kf_set ?_ (by omega) _ _) | (with_reducible refine kf_alloc ?_ (by first | omega | (simp; omega)) _) | (with_reducible refine kf_drewN ?_ _) | (with_reducible refine kf_drew ?_)))
    have kf27 : w2.frozen? ⟨w.heap.size, 7, none⟩ = false := b2.frozen (show w.heap.size ≠ R by omega) (by first | omega | (simp; done) | (simp; omega)) (by repeat' (first | (with_reducible exact kf17) | (with_reducible refine kf_set ?_ (by omega) _ _) | (with_reducible refine kf_alloc ?_ (by first | omega | (simp; omega)) _) | (with_reducible refine kf_drewN ?_ _) | (with_reducible refine kf_drew ?_)))
    have zt2 : w.heap.size + 1 < w2.heap.size := by have := b2.size; first | omega | (simp at this; omega)
    have t20 : w2.cell? ⟨w.heap.size + 1, 0, none⟩ = some (.int .i64 5) := b2.cell (show w.heap.size + 1 ≠ R by omega) (by repeat' (first | (with_reducible exact t10) | (with_reducible refine kc_set ?_ (by omega) _ _) | (with_reducible refine kc_alloc ?_ _) | (with_reducible refine kc_drewN ?_ _) | (with_reducible refine kc_drew ?_)))
    have t21 : w2.cell? ⟨w.heap.size + 1, 1, none⟩ = some (.int .i64 0) := b2.cell (show w.heap.size + 1 ≠ R by omega) (by repeat' (first | (with_reducible exact t11) | (with_reducible refine kc_set ?_ (by omega) _ _) | (with_reducible refine kc_alloc ?_ _) | (with_reducible refine kc_drewN ?_ _) | (with_reducible refine kc_drew ?_)))
    have t22 : w2.cell? ⟨w.heap.size + 1, 2, none⟩ = some (.int .i64 0) := b2.cell (show w.heap.size + 1 ≠ R by omega) (by repeat' (first | (with_reducible exact t12) | (with_reducible refine kc_set ?_ (by omega) _ _) | (with_reducible refine kc_alloc ?_ _) | (with_reducible refine kc_drewN ?_ _) | (with_reducible refine kc_drew ?_)))
    have t23 : w2.cell? ⟨w.heap.size + 1, 3, none⟩ = some (.int .i64 0) := b2.cell (show w.heap.size + 1 ≠ R by omega) (by repeat' (first | (with_reducible exact t13) | (with_reducible refine kc_set ?_ (by omega) _ _) | (with_reducible refine kc_alloc ?_ _) | (with_reducible refine kc_drewN ?_ _) | (with_reducible refine kc_drew ?_)))
    have t24 : w2.cell? ⟨w.heap.size + 1, 4, none⟩ = some (.int .i64 0) := b2.cell (show w.heap.size + 1 ≠ R by omega) (by repeat' (first | (with_reducible exact t14) | (with_reducible refine kc_set ?_ (by omega) _ _) | (with_reducible refine kc_alloc ?_ _) | (with_reducible refine kc_drewN ?_ _) | (with_reducible refine kc_drew ?_)))
    have t25 : w2.cell? ⟨w.heap.size + 1, 5, none⟩ = some (.int .i64 0) := b2.cell (show w.heap.size + 1 ≠ R by omega) (by repeat' (first | (with_reducible exact t15) | (with_reducible refine kc_set ?_ (by omega) _ _) | (with_reducible refine kc_alloc ?_ _) | (with_reducible refine kc_drewN ?_ _) | (with_reducible refine kc_drew ?_)))
    have t26 : w2.cell? ⟨w.heap.size + 1, 6, none⟩ = some (.string ⟨wd.toArray⟩) := b2.cell (show w.heap.size + 1 ≠ R by omega) (by repeat' (first | (with_reducible exact t16) | (with_reducible refine kc_set ?_ (by omega) _ _) | (with_reducible refine kc_alloc ?_ _) | (with_reducible refine kc_drewN ?_ _) | (with_reducible refine kc_drew ?_)))
    have t27 : w2.cell? ⟨w.heap.size + 1, 7, none⟩ = some (.slice none 0 0) := b2.cell (show w.heap.size + 1 ≠ R by omega) (by repeat' (first | (with_reducible exact t17) | (with_reducible refine kc_set ?_ (by omega) _ _) | (with_reducible refine kc_alloc ?_ _) | (with_reducible refine kc_drewN ?_ _) | (with_reducible refine kc_drew ?_)))
    have tf20 : w2.frozen? ⟨w.heap.size + 1, 0, none⟩ = false := b2.frozen (show w.heap.size + 1 ≠ R by omega) (by first | omega | (simp; done) | (simp; omega)) (by repeat' (first | (with_reducible exact tf10) | (with_reducible refine kf_set ?_ (by omega) _ _) | (with_reducible refine kf_alloc ?_ (by first | omega | (simp; omega)) _) | (with_reducible refine kf_drewN ?_ _) | (with_reducible refine kf_drew ?_)))
    have tf21 : w2.frozen? ⟨w.heap.size + 1, 1, none⟩ = false := b2.frozen (show w.heap.size + 1 ≠ R by omega) (by first | omega | (simp; done) | (simp; omega)) (by repeat' (first | (with_reducible exact tf11) | (with_reducible refine kf_set ?_ (by omega) _ _) | (with_reducible refine kf_alloc ?_ (by first | omega | (simp; omega)) _) | (with_reducible refine kf_drewN ?_ _) | (with_reducible refine kf_drew ?_)))
    have tf22 : w2.frozen? ⟨w.heap.size + 1, 2, none⟩ = false := b2.frozen (show w.heap.size + 1 ≠ R by omega) (by first | omega | (simp; done) | (simp; omega)) (by repeat' (first | (with_reducible exact tf12) | (with_reducible refine kf_set ?_ (by omega) _ _) | (with_reducible refine kf_alloc ?_ (by first | omega | (simp; omega)) _) | (with_reducible refine kf_drewN ?_ _) | (with_reducible refine kf_drew ?_)))
    have tf23 : w2.frozen? ⟨w.heap.size + 1, 3, none⟩ = false := b2.frozen (show w.heap.size + 1 ≠ R by omega) (by first | omega | (simp; done) | (simp; omega)) (by repeat' (first | (with_reducible exact tf13) | (with_reducible refine kf_set ?_ (by omega) _ _) | (with_reducible refine kf_alloc ?_ (by first | omega | (simp; omega)) _) | (with_reducible refine kf_drewN ?_ _) | (with_reducible refine kf_drew ?_)))
    have tf24 : w2.frozen? ⟨w.heap.size + 1, 4, none⟩ = false := b2.frozen (show w.heap.size + 1 ≠ R by omega) (by first | omega | (simp; done) | (simp; omega)) (by repeat' (first | (with_reducible exact tf14) | (with_reducible refine kf_set ?_ (by omega) _ _) | (with_reducible refine kf_alloc ?_ (by first | omega | (simp; omega)) _) | (with_reducible refine kf_drewN ?_ _) | (with_reducible refine kf_drew ?_)))
    have tf25 : w2.frozen? ⟨w.heap.size + 1, 5, none⟩ = false := b2.frozen (show w.heap.size + 1 ≠ R by omega) (by first | omega | (simp; done) | (simp; omega)) (by repeat' (first | (with_reducible exact tf15) | (with_reducible refine kf_set ?_ (by omega) _ _) | (with_reducible refine kf_alloc ?_ (by first | omega | (simp; omega)) _) | (with_reducible refine kf_drewN ?_ _) | (with_reducible refine kf_drew ?_)))
    have tf26 : w2.frozen? ⟨w.heap.size + 1, 6, none⟩ = false := b2.frozen (show w.heap.size + 1 ≠ R by omega) (by first | omega | (simp; done) | (simp; omega)) (by repeat' (first | (with_reducible exact tf16) | (with_reducible refine kf_set ?_ (by omega) _ _) | (with_reducible refine kf_alloc ?_ (by first | omega | (simp; omega)) _) | (with_reducible refine kf_drewN ?_ _) | (with_reducible refine kf_drew ?_)))
    have tf27 : w2.frozen? ⟨w.heap.size + 1, 7, none⟩ = false := b2.frozen (show w.heap.size + 1 ≠ R by omega) (by first | omega | (simp; done) | (simp; omega)) (by repeat' (first | (with_reducible exact tf17) | (with_reducible refine kf_set ?_ (by omega) _ _) | (with_reducible refine kf_alloc ?_ (by first | omega | (simp; omega)) _) | (with_reducible refine kf_drewN ?_ _) | (with_reducible refine kf_drew ?_)))
    clear b2 k10 k11 k12 k13 k14 k15 k16 k17 kf10 kf11 kf12 kf13 kf14 kf15 kf16 kf17 zk1 t10 t11 t12 t13 t14 t15 t16 t17 tf10 tf11 tf12 tf13 tf14 tf15 tf16 tf17 zt1
    go_wp2_with fail
    have hk : mustF L E q [41] (fun q => some (.ok (callT wd ks) q)) = some res := HK.out
    unfold mustF at hk
    cases hm2 : isMark L q [41] with
    | false =>
      rw [if_neg (by rw [hm2]; decide)] at hk
      obtain rfl := Option.some.inj hk
      have HM := Lib.hid hm2
      clear hm2 hk
      refine (hMoff.out _ q (by repeat' (first | (with_reducible exact HR2.out) | (with_reducible refine RL.far ?_ (by omega) _ _) | (with_reducible refine RL.alloc ?_ _) | (with_reducible refine RL.drewN ?_ _) | (with_reducible refine RL.drew ?_))) HM.out).mono ?_; rintro e w9 ⟨rfl, b9⟩
      exact ⟨rfl, rfl, But.trans (by (repeat' (first | (with_reducible exact h2) | (with_reducible refine But.setR ?_ _ _) | (with_reducible refine But.setN ?_ (by omega) _ _) | (with_reducible refine But.alloc ?_ _) | (with_reducible refine But.drewN ?_ _) | (with_reducible refine But.drew ?_)))) b9⟩
    | true =>
      rw [if_pos hm2] at hk
      obtain rfl := Option.some.inj hk
      have HM := Lib.hid hm2
      clear hm2 hk
      refine (hMon.out _ q (by repeat' (first | (with_reducible exact HR2.out) | (with_reducible refine RL.far ?_ (by omega) _ _) | (with_reducible refine RL.alloc ?_ _) | (with_reducible refine RL.drewN ?_ _) | (with_reducible refine RL.drew ?_))) HM.out).mono ?_; rintro e w3 ⟨rfl, r3, b3⟩
      have HR3 : Hid (RL w3 R g cap B L E (q + 1)) := Lib.hid r3
      clear r3
      have HL3 : Hid (KL w3 (fun b => w.heap.size + 1 < b) ks g0 0) := Lib.hid (KL.kept (Kept.but (by (repeat' (first | (with_reducible exact Kept.refl _ _) | (with_reducible refine Kept.set1 ?_ (by omega) _ _) | (with_reducible refine Kept.setNew ?_ (by omega) _ _) | (with_reducible refine Kept.alloc ?_ _) | (with_reducible refine Kept.drewN ?_ _)))) b3 (by show ¬ (w.heap.size + 1 < R); omega)) hg0' HL2.out)
      have hg3 : g0 < w3.heap.size := by have := b3.size; first | omega | (simp at this; omega)
      clear HL2
      have h3 : But R w w3 := But.trans (by (repeat' (first | (with_reducible exact h2) | (with_reducible refine But.setR ?_ _ _) | (with_reducible refine But.setN ?_ (by omega) _ _) | (with_reducible refine But.alloc ?_ _) | (with_reducible refine But.drewN ?_ _) | (with_reducible refine But.drew ?_)))) b3
      have y3 : w.heap.size ≤ w3.heap.size := h3.size
      have zk3 : w.heap.size < w3.heap.size := by have := b3.size; first | omega | (simp at this; omega)
      have k30 : w3.cell? ⟨w.heap.size, 0, none⟩ = some (.int .i64 0) := b3.cell (show w.heap.size ≠ R by omega) (by repeat' (first | (with_reducible exact k20) | (with_reducible refine kc_set ?_ (by omega) _ _) | (with_reducible refine kc_alloc ?_ _) | (with_reducible refine kc_drewN ?_ _) | (with_reducible refine kc_drew ?_)))
      have k31 : w3.cell? ⟨w.heap.size, 1, none⟩ = some (.int .i64 0) := b3.cell (show w.heap.size ≠ R by omega) (by repeat' (first | (with_reducible exact k21) | (with_reducible refine kc_set ?_ (by omega) _ _) | (with_reducible refine kc_alloc ?_ _) | (with_reducible refine kc_drewN ?_ _) | (with_reducible refine kc_drew ?_)))
      have k32 : w3.cell? ⟨w.heap.size, 2, none⟩ = some (.int .i64 0) := b3.cell (show w.heap.size ≠ R by omega) (by repeat' (first | (with_reducible exact k22) | (with_reducible refine kc_set ?_ (by omega) _ _) | (with_reducible refine kc_alloc ?_ _) | (with_reducible refine kc_drewN ?_ _) | (with_reducible refine kc_drew ?_)))
      have k33 : w3.cell? ⟨w.heap.size, 3, none⟩ = some (.int .i64 0) := b3.cell (show w.heap.size ≠ R by omega) (by repeat' (first | (with_reducible exact k23) | (with_reducible refine kc_set ?_ (by omega) _ _) | (with_reducible refine kc_alloc ?_ _) | (with_reducible refine kc_drewN ?_ _) | (with_reducible refine kc_drew ?_)))
      have k34 : w3.cell? ⟨w.heap.size, 4, none⟩ = some (.int .i64 0) := b3.cell (show w.heap.size ≠ R by omega) (by repeat' (first | (with_reducible exact k24) | (with_reducible refine kc_set ?_ (by omega) _ _) | (with_reducible refine kc_alloc ?_ _) | (with_reducible refine kc_drewN ?_ _) | (with_reducible refine kc_drew ?_)))
      have k35 : w3.cell? ⟨w.heap.size, 5, none⟩ = some (.int .i64 0) := b3.cell (show w.heap.size ≠ R by omega) (by repeat' (first | (with_reducible exact k25) | (with_reducible refine kc_set ?_ (by omega) _ _) | (with_reducible refine kc_alloc ?_ _) | (with_reducible refine kc_drewN ?_ _) | (with_reducible refine kc_drew ?_)))
      have k36 : w3.cell? ⟨w.heap.size, 6, none⟩ = some (.string ⟨#[]⟩) := b3.cell (show w.heap.size ≠ R by omega) (by repeat' (first | (with_reducible exact k26) | (with_reducible refine kc_set ?_ (by omega) _ _) | (with_reducible refine kc_alloc ?_ _) | (with_reducible refine kc_drewN ?_ _) | (with_reducible refine kc_drew ?_)))
      have k37 : w3.cell? ⟨w.heap.size, 7, none⟩ = some (.slice none 0 0) := b3.cell (show w.heap.size ≠ R by omega) (by repeat' (first | (with_reducible exact k27) | (with_reducible refine kc_set ?_ (by omega) _ _) | (with_reducible refine kc_alloc ?_ _) | (with_reducible refine kc_drewN ?_ _) | (with_reducible refine kc_drew ?_)))
      have kf30 : w3.frozen? ⟨w.heap.size, 0, none⟩ = false := b3.frozen (show w.heap.size ≠ R by omega) (by first | omega | (simp; done) | (simp; omega)) (by repeat' (first | (with_reducible exact kf20) | (with_reducible refine kf_set ?_ (by omega) _ _) | (with_reducible refine kf_alloc ?_ (by first | omega | (simp; omega)) _) | (with_reducible refine kf_drewN ?_ _) | (with_reducible refine kf_drew ?_)))
      have kf31 : w3.frozen? ⟨w.heap.size, 1, none⟩ = false := b3.frozen (show w.heap.size ≠ R by omega) (by first | omega | (simp; done) | (simp; omega)) (by repeat' (first | (with_reducible exact kf21) | (with_reducible refine kf_set ?_ (by omega) _ _) | (with_reducible refine kf_alloc ?_ (by first | omega | (simp; omega)) _) | (with_reducible refine kf_drewN ?_ _) | (with_reducible refine kf_drew ?_)))
      have kf32 : w3.frozen? ⟨w.heap.size, 2, none⟩ = false := b3.frozen (show w.heap.size ≠ R by omega) (by first | omega | (simp; done) | (simp; omega)) (by repeat' (first | (with_reducible exact kf22) | (with_reducible refine kf_set ?_ (by omega) _ _) | (with_reducible refine kf_alloc ?_ (by first | omega | (simp; omega)) _) | (with_reducible refine kf_drewN ?_ _) | (with_reducible refine kf_drew ?_)))
      have kf33 : w3.frozen? ⟨w.heap.size, 3, none⟩ = false := b3.frozen (show w.heap.size ≠ R by omega) (by first | omega | (simp; done) | (simp; omega)) (by repeat' (first | (with_reducible exact kf23) | (with_reducible refine kf_set ?_ (by omega) _ _) | (with_reducible refine kf_alloc ?_ (by first | omega | (simp; omega)) _) | (with_reducible refine kf_drewN ?_ _) | (with_reducible refine kf_drew ?_)))
      have kf34 : w3.frozen? ⟨w.heap.size, 4, none⟩ = false := b3.frozen (show w.heap.size ≠ R by omega) (by first | omega | (simp; done) | (simp; omega)) (by repeat' (first | (with_reducible exact kf24) | (with_reducible refine kf_set ?_ (by omega) _ _) | (with_reducible refine kf_alloc ?_ (by first | omega | (simp; omega)) _) | (with_reducible refine kf_drewN ?_ _) | (with_reducible refine kf_drew ?_)))
      have kf35 : w3.frozen? ⟨w.heap.size, 5, none⟩ = false := b3.frozen (show w.heap.size ≠ R by omega) (by first | omega | (simp; done) | (simp; omega)) (by repeat' (first | (with_reducible exact kf25) | (with_reducible refine kf_set ?_ (by omega) _ _) | (with_reducible refine kf_alloc ?_ (by first | omega | (simp; omega)) _) | (with_reducible refine kf_drewN ?_ _) | (with_reducible refine kf_drew ?_)))
      have kf36 : w3.frozen? ⟨w.heap.size, 6, none⟩ = false := b3.frozen (show w.heap.size ≠ R by omega) (by first | omega | (simp; done) | (simp; omega)) (by repeat' (first | (with_reducible exact kf26) | (with_reducible refine kf_set ?_ (by omega) _ _) | (with_reducible refine kf_alloc ?_ (by first | omega | (simp; omega)) _) | (with_reducible refine kf_drewN ?_ _) | (with_reducible refine kf_drew ?_)))
      have kf37 : w3.frozen? ⟨w.heap.size, 7, none⟩ = false := b3.frozen (show w.heap.size ≠ R by omega) (by first | omega | (simp; done) | (simp; omega)) (by repeat' (first | (with_reducible exact kf27) | (with_reducible refine kf_set ?_ (by omega) _ _) | (with_reducible refine kf_alloc ?_ (by first | omega | (simp; omega)) _) | (with_reducible refine kf_drewN ?_ _) | (with_reducible refine kf_drew ?_)))
      have zt3 : w.heap.size + 1 < w3.heap.size := by have := b3.size; first | omega | (simp at this; omega)
      have t30 : w3.cell? ⟨w.heap.size + 1, 0, none⟩ = some (.int .i64 5) := b3.cell (show w.heap.size + 1 ≠ R by omega) (by first | (simp [go_sem]; done) | (simp [go_sem, t20, t21, t22, t23, t24, t25, t26, t27]; done))
      have t31 : w3.cell? ⟨w.heap.size + 1, 1, none⟩ = some (.int .i64 0) := b3.cell (show w.heap.size + 1 ≠ R by omega) (by first | (simp [go_sem]; done) | (simp [go_sem, t20, t21, t22, t23, t24, t25, t26, t27]; done))
      have t32 : w3.cell? ⟨w.heap.size + 1, 2, none⟩ = some (.int .i64 0) := b3.cell (show w.heap.size + 1 ≠ R by omega) (by first | (simp [go_sem]; done) | (simp [go_sem, t20, t21, t22, t23, t24, t25, t26, t27]; done))
      have t33 : w3.cell? ⟨w.heap.size + 1, 3, none⟩ = some (.int .i64 0) := b3.cell (show w.heap.size + 1 ≠ R by omega) (by first | (simp [go_sem]; done) | (simp [go_sem, t20, t21, t22, t23, t24, t25, t26, t27]; done))
      have t34 : w3.cell? ⟨w.heap.size + 1, 4, none⟩ = some (.int .i64 0) := b3.cell (show w.heap.size + 1 ≠ R by omega) (by first | (simp [go_sem]; done) | (simp [go_sem, t20, t21, t22, t23, t24, t25, t26, t27]; done))
      have t35 : w3.cell? ⟨w.heap.size + 1, 5, none⟩ = some (.int .i64 0) := b3.cell (show w.heap.size + 1 ≠ R by omega) (by first | (simp [go_sem]; done) | (simp [go_sem, t20, t21, t22, t23, t24, t25, t26, t27]; done))
      have t36 : w3.cell? ⟨w.heap.size + 1, 6, none⟩ = some (.string ⟨wd.toArray⟩) := b3.cell (show w.heap.size + 1 ≠ R by omega) (by first | (simp [go_sem]; done) | (simp [go_sem, t20, t21, t22, t23, t24, t25, t26, t27]; done))
      have t37 : w3.cell? ⟨w.heap.size + 1, 7, none⟩ = some (.slice (some ⟨g0, 0, none⟩) ks.length cp) := b3.cell (show w.heap.size + 1 ≠ R by omega) (by first | (simp [go_sem]; done) | (simp [go_sem, t20, t21, t22, t23, t24, t25, t26, t27]; done))
      have tf30 : w3.frozen? ⟨w.heap.size + 1, 0, none⟩ = false := b3.frozen (show w.heap.size + 1 ≠ R by omega) (by first | omega | (simp; done) | (simp; omega)) (by simp [go_sem, tf20])
      have tf31 : w3.frozen? ⟨w.heap.size + 1, 1, none⟩ = false := b3.frozen (show w.heap.size + 1 ≠ R by omega) (by first | omega | (simp; done) | (simp; omega)) (by simp [go_sem, tf21])
      have tf32 : w3.frozen? ⟨w.heap.size + 1, 2, none⟩ = false := b3.frozen (show w.heap.size + 1 ≠ R by omega) (by first | omega | (simp; done) | (simp; omega)) (by simp [go_sem, tf22])
      have tf33 : w3.frozen? ⟨w.heap.size + 1, 3, none⟩ = false := b3.frozen (show w.heap.size + 1 ≠ R by omega) (by first | omega | (simp; done) | (simp; omega)) (by simp [go_sem, tf23])
      have tf34 : w3.frozen? ⟨w.heap.size + 1, 4, none⟩ = false := b3.frozen (show w.heap.size + 1 ≠ R by omega) (by first | omega | (simp; done) | (simp; omega)) (by simp [go_sem, tf24])
      have tf35 : w3.frozen? ⟨w.heap.size + 1, 5, none⟩ = false := b3.frozen (show w.heap.size + 1 ≠ R by omega) (by first | omega | (simp; done) | (simp; omega)) (by simp [go_sem, tf25])
      have tf36 : w3.frozen? ⟨w.heap.size + 1, 6, none⟩ = false := b3.frozen (show w.heap.size + 1 ≠ R by omega) (by first | omega | (simp; done) | (simp; omega)) (by simp [go_sem, tf26])
      have tf37 : w3.frozen? ⟨w.heap.size + 1, 7, none⟩ = false := b3.frozen (show w.heap.size + 1 ≠ R by omega) (by first | omega | (simp; done) | (simp; omega)) (by simp [go_sem, tf27])
      clear b3 k20 k21 k22 k23 k24 k25 k26 k27 kf20 kf21 kf22 kf23 kf24 kf25 kf26 kf27 zk2 t20 t21 t22 t23 t24 t25 t26 t27 tf20 tf21 tf22 tf23 tf24 tf25 tf26 tf27 zt2
      go_wp2_with fail
      exact bodyPost_ret (v := .agg #[.int .i64 5, .int .i64 0, .int .i64 0, .int .i64 0, .int .i64 0, .int .i64 0, .string ⟨wd.toArray⟩, .slice (some ⟨g0, 0, none⟩) ks.length cp]) (by simp [results, Tryz.results104, go_sem, k30, k31, k32, k33, k34, k35, k36, k37, t30, t31, t32, t33, t34, t35, t36, t37, zk3, zt3]) rfl ⟨⟨5, 0, 0, 0, 0, 0, ⟨wd.toArray⟩, some ⟨g0, 0, none⟩, ks.length, cp⟩, rfl, TV.imp (P := fun b => w.heap.size + 1 < b) (tv_row (ks := ks) 5 wd hg0' (by first | omega | (simp; omega)) (KL.kept (by (repeat' (first | (with_reducible exact Kept.refl _ _) | (with_reducible refine Kept.set1 ?_ (by omega) _ _) | (with_reducible refine Kept.setNew ?_ (by omega) _ _) | (with_reducible refine Kept.alloc ?_ _) | (with_reducible refine Kept.drewN ?_ _)))) hg0' HL3.out)) fun b (hb : w.heap.size + 1 < b) => by show w.heap.size ≤ b; omega, (by repeat' (first | (with_reducible exact HR3.out) | (with_reducible refine RL.far ?_ (by omega) _ _) | (with_reducible refine RL.alloc ?_ _) | (with_reducible refine RL.drewN ?_ _) | (with_reducible refine RL.drew ?_))), by (repeat' (first | (with_reducible exact h3) | (with_reducible refine But.setR ?_ _ _) | (with_reducible refine But.setN ?_ (by omega) _ _) | (with_reducible refine But.alloc ?_ _) | (with_reducible refine But.drewN ?_ _) | (with_reducible refine But.drew ?_)))⟩
end Go.Proofs.YtgdiafnjbphgkaaGreatDoor
