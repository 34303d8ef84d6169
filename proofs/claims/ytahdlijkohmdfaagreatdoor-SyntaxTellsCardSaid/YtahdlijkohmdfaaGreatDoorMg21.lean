/- Texts joined: RdK, RdL. -/
import Derived.Test.YtahdlijkohmdfaaGreatDoorMg17
import Derived.Shelf.Abstract
import Derived.Test.YtahdlijkohmdfaaGreatDoorMg07
import Derived.Recover
import Derived.Defers
import Derived.Tactics2
import Derived.Laws.Pointers
set_option linter.all false
set_option linter.unusedVariables false
set_option linter.unusedSimpArgs false
/- The program's own reader: all its calls that make trees. -/
namespace Go.Proofs.YtahdlijkohmdfaaGreatDoor
open Go.RowKit Go.Shelf

set_option maxHeartbeats 2000000 in
set_option maxRecDepth 10000 in
theorem poperand_word {w : World} {R g cap B : Nat} {L : List Tok} {E p : Nat} (hL : L.length ≤ 1000) (hc : cap ≤ maxLen) (hr : RL w R g cap B L E p) (hl : p < L.length) (h1 : ((tokAt L E p).kind == 1) = false) (h2 : ((tokAt L E p).kind == 2) = false) (h3 : ((tokAt L E p).kind == 3) = false) (h4 : ((tokAt L E p).kind == 4) = true) {res : Res} (hN : ∀ w', RL w' R g cap B L E (p + 1) → Calls Tryz.prog 103 #[.pointer (some ⟨R, 0, none⟩), .string ⟨(tokAt L E p).text.toArray⟩] w' (PostP w' R g cap B L E res)) :
    Calls Tryz.prog 85 #[.pointer (some ⟨R, 0, none⟩)] w (PostP w R g cap B L E res) := by
  have hNx := Lib.hid (fun w hr => pnext_any (w := w) (R := R) (g := g) (cap := cap) (B := B) (L := L) (E := E) (p := p) hL hc hr)
  have HN := Lib.hid hN
  clear hN
  generalize tokAt L E p = a at *
  unfold tokV at *
  have HR := Lib.hid hr
  have lR := hr.lo.1
  have lB := hr.lo.2.2
  clear hr
  go_enter Tryz.func85, Tryz.ntmps85
  go_wp2_with fail
  refine (hNx.out _ (by repeat' (first | (with_reducible exact HR.out) | (with_reducible refine RL.far ?_ (by omega) _ _) | (with_reducible refine RL.alloc ?_ _) | (with_reducible refine RL.drewN ?_ _) | (with_reducible refine RL.drew ?_)))).mono ?_; rintro e w1 ⟨rfl, r1, b1⟩
  have HR1 : Hid (RL w1 R g cap B L E (p + 1)) := Lib.hid (r1 hl)
  clear r1
  have h1 : But R w w1 := But.trans (by (repeat' (first | (with_reducible exact But.refl _ _) | (with_reducible refine But.setR ?_ _ _) | (with_reducible refine But.setN ?_ (by omega) _ _) | (with_reducible refine But.alloc ?_ _) | (with_reducible refine But.drewN ?_ _) | (with_reducible refine But.drew ?_)))) b1
  have y1 : w.heap.size ≤ w1.heap.size := h1.size
  have zk1 : w.heap.size < w1.heap.size := by have := b1.size; first | omega | (simp at this; omega)
  have k10 : w1.cell? ⟨w.heap.size, 0, none⟩ = some (.int .i64 0) := b1.cell (show w.heap.size ≠ R by omega) (by simp [go_sem])
  have k11 : w1.cell? ⟨w.heap.size, 1, none⟩ = some (.int .i64 0) := b1.cell (show w.heap.size ≠ R by omega) (by simp [go_sem])
  have k12 : w1.cell? ⟨w.heap.size, 2, none⟩ = some (.int .i64 0) := b1.cell (show w.heap.size ≠ R by omega) (by simp [go_sem])
  have k13 : w1.cell? ⟨w.heap.size, 3, none⟩ = some (.int .i64 0) := b1.cell (show w.heap.size ≠ R by omega) (by simp [go_sem])
  have k14 : w1.cell? ⟨w.heap.size, 4, none⟩ = some (.int .i64 0) := b1.cell (show w.heap.size ≠ R by omega) (by simp [go_sem])
  have k15 : w1.cell? ⟨w.heap.size, 5, none⟩ = some (.int .i64 0) := b1.cell (show w.heap.size ≠ R by omega) (by simp [go_sem])
  have k16 : w1.cell? ⟨w.heap.size, 6, none⟩ = some (.string ⟨#[]⟩) := b1.cell (show w.heap.size ≠ R by omega) (by simp [go_sem])
  have k17 : w1.cell? ⟨w.heap.size, 7, none⟩ = some (.slice none 0 0) := b1.cell (show w.heap.size ≠ R by omega) (by simp [go_sem])
  have kf10 : w1.frozen? ⟨w.heap.size, 0, none⟩ = false := b1.frozen (show w.heap.size ≠ R by omega) (by first | omega | (simp; done) | (simp; omega)) (by simp [go_sem])
  have kf11 : w1.frozen? ⟨w.heap.size, 1, none⟩ = false := b1.frozen (show w.heap.size ≠ R by omega) (by first | omega | (simp; done) | (simp; omega)) (by simp [go_sem])
  have kf12 : w1.frozen? ⟨w.heap.size, 2, none⟩ = false := b1.frozen (show w.heap.size ≠ R by omega) (by first | omega | (simp; done) | (simp; omega)) (by simp [go_sem])
  have kf13 : w1.frozen? ⟨w.heap.size, 3, none⟩ = false := b1.frozen (show w.heap.size ≠ R by omega) (by first | omega | (simp; done) | (simp; omega)) (by simp [go_sem])
  have kf14 : w1.frozen? ⟨w.heap.size, 4, none⟩ = false := b1.frozen (show w.heap.size ≠ R by omega) (by first | omega | (simp; done) | (simp; omega)) (by simp [go_sem])
  have kf15 : w1.frozen? ⟨w.heap.size, 5, none⟩ = false := b1.frozen (show w.heap.size ≠ R by omega) (by first | omega | (simp; done) | (simp; omega)) (by simp [go_sem])
  have kf16 : w1.frozen? ⟨w.heap.size, 6, none⟩ = false := b1.frozen (show w.heap.size ≠ R by omega) (by first | omega | (simp; done) | (simp; omega)) (by simp [go_sem])
  have kf17 : w1.frozen? ⟨w.heap.size, 7, none⟩ = false := b1.frozen (show w.heap.size ≠ R by omega) (by first | omega | (simp; done) | (simp; omega)) (by simp [go_sem])
  clear b1
  go_wp2_with fail
  refine (HN.out _ (by repeat' (first | (with_reducible exact HR1.out) | (with_reducible refine RL.far ?_ (by omega) _ _) | (with_reducible refine RL.alloc ?_ _) | (with_reducible refine RL.drewN ?_ _) | (with_reducible refine RL.drew ?_)))).mono ?_; rintro e w2 H2
  cases res with
  | bad z =>
    obtain ⟨rfl, b2⟩ := H2
    exact ⟨rfl, rfl, But.trans (by (repeat' (first | (with_reducible exact h1) | (with_reducible refine But.setR ?_ _ _) | (with_reducible refine But.setN ?_ (by omega) _ _) | (with_reducible refine But.alloc ?_ _) | (with_reducible refine But.drewN ?_ _) | (with_reducible refine But.drew ?_)))) b2⟩
  | ok t q =>
    obtain ⟨⟨x0, x1, x2, x3, x4, x5, xw, xA, xl, xc⟩, rfl, v2, r2, b2⟩ := H2
    have HR2 : Hid (RL w2 R g cap B L E q) := Lib.hid r2
    clear r2
    have HVx2 : Hid (TV w2 (fun b => w.heap.size < b) ⟨x0, x1, x2, x3, x4, x5, xw, xA, xl, xc⟩ (some t)) := Lib.hid (v2.imp fun b hb => by have hb2 : _ ≤ b := hb; first | omega | (simp at hb2; omega))
    clear v2
    have h2 : But R w w2 := But.trans (by (repeat' (first | (with_reducible exact h1) | (with_reducible refine But.setR ?_ _ _) | (with_reducible refine But.setN ?_ (by omega) _ _) | (with_reducible refine But.alloc ?_ _) | (with_reducible refine But.drewN ?_ _) | (with_reducible refine But.drew ?_)))) b2
    have y2 : w.heap.size ≤ w2.heap.size := h2.size
    have zk2 : w.heap.size < w2.heap.size := by have := b2.size; first | omega | (simp at this; omega)
    have k20 : w2.cell? ⟨w.heap.size, 0, none⟩ = some (.int .i64 0) := b2.cell (show w.heap.size ≠ R by omega) (by repeat' (first | (with_reducible exact k10) | (with_reducible refine kc_set ?_ (by omega) _ _) | (with_reducible refine kc_alloc ?_ _) | (with_reducible refine kc_drewN ?_ _) | (with_reducible refine kc_drew ?_)))
    have k21 : w2.cell? ⟨w.heap.size, 1, none⟩ = some (.int .i64 0) := b2.cell (show w.heap.size ≠ R by omega) (by repeat' (first | (with_reducible exact k11) | (with_reducible refine kc_set ?_ (by omega) _ _) | (with_reducible refine kc_alloc ?_ _) | (with_reducible refine kc_drewN ?_ _) | (with_reducible refine kc_drew ?_)))
    have k22 : w2.cell? ⟨w.heap.size, 2, none⟩ = some (.int .i64 0) := b2.cell (show w.heap.size ≠ R by omega) (by repeat' (first | (with_reducible exact k12) | (with_reducible refine kc_set ?_ (by omega) _ _) | (with_reducible refine kc_alloc ?_ _) | (with_reducible refine kc_drewN ?_ _) | (with_reducible refine kc_drew ?_)))
    have k23 : w2.cell? ⟨w.heap.size, 3, none⟩ = some (.int .i64 0) := b2.cell (show w.heap.size ≠ R by omega) (by repeat' (first | (with_reducible exact k13) | (with_reducible refine kc_set ?_ (by omega) _ _) | (with_reducible refine kc_alloc ?_ _) | (with_reducible refine kc_drewN ?_ _) | (with_reducible refine kc_drew ?_)))
    have k24 : w2.cell? ⟨w.heap.size, 4, none⟩ = some (.int .i64 0) := b2.cell (show w.heap.size ≠ R by omega) (by repeat' (first | (with_reducible exact k14) | (with_reducible refine kc_set ?_ (by omega) _ _) | (with_reducible refine kc_alloc ?_ _) | (with_reducible refine kc_drewN ?_ _) | (with_reducible refine kc_drew ?_)))
    have k25 : w2.cell? ⟨w.heap.size, 5, none⟩ = some (.int .i64 0) := b2.cell (show w.heap.size ≠ R by omega) (by repeat' (first | (with_reducible exact k15) | (with_reducible refine kc_set ?_ (by omega) _ _) | (with_reducible refine kc_alloc ?_ _) | (with_reducible refine kc_drewN ?_ _) | (with_reducible refine kc_drew ?_)))
    have k26 : w2.cell? ⟨w.heap.size, 6, none⟩ = some (.string ⟨#[]⟩) := b2.cell (show w.heap.size ≠ R by omega) (by repeat' (first | (with_reducible exact k16) | (with_reducible refine kc_set ?_ (by omega) _ _) | (with_reducible refine kc_alloc ?_ _) | (with_reducible refine kc_drewN ?_ _) | (with_reducible refine kc_drew ?_)))
    have k27 : w2.cell? ⟨w.heap.size, 7, none⟩ = some (.slice none 0 0) := b2.cell (show w.heap.size ≠ R by omega) (by repeat' (first | (with_reducible exact k17) | (with_reducible refine kc_set ?_ (by omega) _ _) | (with_reducible refine kc_alloc ?_ _) | (with_reducible refine kc_drewN ?_ _) | (with_reducible refine kc_drew ?_)))
    have kf20 : w2.frozen? ⟨w.heap.size, 0, none⟩ = false := b2.frozen (show w.heap.size ≠ R by omega) (by first | omega | (simp; done) | (simp; omega)) (by repeat' (first | (with_reducible exact kf10) | (with_reducible refine kf_set ?_ (by omega) _ _) | (with_reducible refine kf_alloc ?_ (by first | omega | (simp; omega)) _) | (with_reducible refine kf_drewN ?_ _) | (with_reducible refine kf_drew ?_)))
    have kf21 : w2.frozen? ⟨w.heap.size, 1, none⟩ = false := b2.frozen (show w.heap.size ≠ R by omega) (by first | omega | (simp; done) | (simp; omega)) (by repeat' (first | (with_reducible exact kf11) | (with_reducible refine kf_set ?_ (by omega) _ _) | (with_reducible refine kf_alloc ?_ (by first | omega | (simp; omega)) _) | (with_reducible refine kf_drewN ?_ _) | (with_reducible refine kf_drew ?_)))
    have kf22 : w2.frozen? ⟨w.heap.size, 2, none⟩ = false := b2.frozen (show w.heap.size ≠ R by omega) (by first | omega | (simp; done) | (simp; omega)) (by repeat' (first | (with_reducible exact kf12) | (with_reducible refine kf_set ?_ (by omega) _ _) | (with_reducible refine kf_alloc ?_ (by first | omega | (simp; omega)) _) | (with_reducible refine kf_drewN ?_ _) | (with_reducible refine kf_drew ?_)))
    have kf23 : w2.frozen? ⟨w.heap.size, 3, none⟩ = false := b2.frozen (show w.heap.size ≠ R by omega) (by first | omega | (simp; done) | (simp; omega)) (by repeat' (first | (with_reducible exact kf13) | (with_reducible refine kf_set ?_ (by omega) _ _) | (with_reducible refine kf_alloc ?_ (by first | omega | (simp; omega)) _) | (with_reducible refine kf_drewN ?_ _) | (with_reducible refine kf_drew ?_)))
    have kf24 : w2.frozen? ⟨w.heap.size, 4, none⟩ = false := b2.frozen (show w.heap.size ≠ R by omega) (by first | omega | (simp; done) | (simp; omega)) (by repeat' (first | (with_reducible exact kf14) | (with_reducible refine kf_set ?_ (by omega) _ _) | (with_reducible refine kf_alloc ?_ (by first | omega | (simp; omega)) _) | (with_reducible refine kf_drewN ?_ _) | (with_reducible refine kf_drew ?_)))
    have kf25 : w2.frozen? ⟨w.heap.size, 5, none⟩ = false := b2.frozen (show w.heap.size ≠ R by omega) (by first | omega | (simp; done) | (simp; omega)) (by repeat' (first | (with_reducible exact kf15) | (with_reducible refine kf_set ?_ (by omega) _ _) | (with_reducible refine kf_alloc ?_ (by first | omega | (simp; omega)) _) | (with_reducible refine kf_drewN ?_ _) | (with_reducible refine kf_drew ?_)))
    have kf26 : w2.frozen? ⟨w.heap.size, 6, none⟩ = false := b2.frozen (show w.heap.size ≠ R by omega) (by first | omega | (simp; done) | (simp; omega)) (by repeat' (first | (with_reducible exact kf16) | (with_reducible refine kf_set ?_ (by omega) _ _) | (with_reducible refine kf_alloc ?_ (by first | omega | (simp; omega)) _) | (with_reducible refine kf_drewN ?_ _) | (with_reducible refine kf_drew ?_)))
    have kf27 : w2.frozen? ⟨w.heap.size, 7, none⟩ = false := b2.frozen (show w.heap.size ≠ R by omega) (by first | omega | (simp; done) | (simp; omega)) (by repeat' (first | (with_reducible exact kf17) | (with_reducible refine kf_set ?_ (by omega) _ _) | (with_reducible refine kf_alloc ?_ (by first | omega | (simp; omega)) _) | (with_reducible refine kf_drewN ?_ _) | (with_reducible refine kf_drew ?_)))
    clear b2 k10 k11 k12 k13 k14 k15 k16 k17 kf10 kf11 kf12 kf13 kf14 kf15 kf16 kf17 zk1
    dsimp only [V8.val]
    go_wp2_with fail
    exact bodyPost_ret (v := .agg #[.int .i64 x0, .int .i64 x1, .int .i64 x2, .int .i64 x3, .int .i64 x4, .int .i64 x5, .string xw, .slice xA xl xc]) (by simp [results, Tryz.results85, go_sem, k20, k21, k22, k23, k24, k25, k26, k27, zk2]) rfl ⟨⟨x0, x1, x2, x3, x4, x5, xw, xA, xl, xc⟩, rfl, ((HVx2.out.kept (by (repeat' (first | (with_reducible exact Kept.refl _ _) | (with_reducible refine Kept.set1 ?_ (by omega) _ _) | (with_reducible refine Kept.setNew ?_ (by omega) _ _) | (with_reducible refine Kept.alloc ?_ _) | (with_reducible refine Kept.drewN ?_ _) | (with_reducible refine Kept.drew ?_))))).imp fun b (hb : w.heap.size < b) => Nat.le_of_lt hb), (by repeat' (first | (with_reducible exact HR2.out) | (with_reducible refine RL.far ?_ (by omega) _ _) | (with_reducible refine RL.alloc ?_ _) | (with_reducible refine RL.drewN ?_ _) | (with_reducible refine RL.drew ?_))), by (repeat' (first | (with_reducible exact h2) | (with_reducible refine But.setR ?_ _ _) | (with_reducible refine But.setN ?_ (by omega) _ _) | (with_reducible refine But.alloc ?_ _) | (with_reducible refine But.drewN ?_ _) | (with_reducible refine But.drew ?_)))⟩
/-- all calls that make trees, at so much fuel -/
structure Fam (R g cap B : Nat) (L : List Tok) (E k : Nat) : Prop where
  line1 : TreeP R g cap B L E 32 #[.pointer (some ⟨R, 0, none⟩), .int .i64 0] (lineF L E k 1)
  line2 : TreeP R g cap B L E 32 #[.pointer (some ⟨R, 0, none⟩), .int .i64 1] (lineF L E k 2)
  line3 : TreeP R g cap B L E 32 #[.pointer (some ⟨R, 0, none⟩), .int .i64 2] (lineF L E k 3)
  line4 : TreeP R g cap B L E 32 #[.pointer (some ⟨R, 0, none⟩), .int .i64 3] (lineF L E k 4)
  pref : TreeP R g cap B L E 61 #[.pointer (some ⟨R, 0, none⟩)] (prefF L E k)
  oper : TreeP R g cap B L E 85 #[.pointer (some ⟨R, 0, none⟩)] (operF L E k)
  item : TreeP R g cap B L E 118 #[.pointer (some ⟨R, 0, none⟩)] (itemF L E k false)
  corn : TreeP R g cap B L E 117 #[.pointer (some ⟨R, 0, none⟩)] (itemF L E k true)
theorem pcalls_any {R g cap B : Nat} {L : List Tok} {E k : Nat} (hL : L.length ≤ 1000) (hc : cap ≤ maxLen) (hG : GoodXL L) (hk : k ≤ 100000) (H : ∀ j, j ≤ k → Fam R g cap B L E j) {wd : List UInt8} (hw : wordB wd = true)
    (w : World) (p : Nat) (res : Res) (hr : RL w R g cap B L E p) (hf : callF L E k wd p = some res) :
    Calls Tryz.prog 103 #[.pointer (some ⟨R, 0, none⟩), .string ⟨wd.toArray⟩] w (PostP w R g cap B L E res) := by
  unfold callF at hf
  cases hm : isMark L p [40] with
  | false =>
    unfold mustF at hf
    rw [if_neg (by rw [hm]; decide)] at hf
    obtain rfl := Option.some.inj hf
    exact pcall_off hL hc hG hr wd hm
  | true =>
    have hf0 := hf
    clear hf
    have hf : (if wd = [73, 70] then Res.next (lineF L E k 1 (p + 1)) fun a q => mustF L E q [44] fun q => Res.next (lineF L E k 1 q) fun b q => mustF L E q [44] fun q => Res.next (lineF L E k 1 q) fun c q => mustF L E q [41] fun q => some (.ok (callT [73, 70] [a, b, c]) q) else itemsF L E k wd [] (p + 1)) = some res := by
      unfold mustF at hf0
      rw [if_pos hm] at hf0
      exact hf0
    by_cases hi : wd = [73, 70]
    · subst hi
      rw [if_pos rfl] at hf
      have key : ∃ lr, threeA L E k (p + 1) = some lr ∧ CallR L E [73, 70] lr res := by
        obtain ⟨r1, e1, h1⟩ := next_some hf
        unfold threeA
        rw [e1]
        cases r1 with
        | bad z => exact ⟨_, rfl, h1⟩
        | ok a q =>
          have h1' : mustF L E q [44] (fun q => Res.next (lineF L E k 1 q) fun b q => mustF L E q [44] fun q => Res.next (lineF L E k 1 q) fun c q => mustF L E q [41] fun q => some (.ok (callT [73, 70] [a, b, c]) q)) = some res := h1
          unfold mustF at h1'
          show ∃ lr, threeF L E k 2 [a] q = some lr ∧ _
          rw [threeF]
          by_cases m1 : isMark L q [44] = true
          · rw [if_pos m1] at h1' ⊢
            obtain ⟨r2, e2, h2⟩ := next_some h1'
            rw [e2]
            cases r2 with
            | bad z => exact ⟨_, rfl, h2⟩
            | ok b q =>
              have h2' : mustF L E q [44] (fun q => Res.next (lineF L E k 1 q) fun c q => mustF L E q [41] fun q => some (.ok (callT [73, 70] [a, b, c]) q)) = some res := h2
              unfold mustF at h2'
              show ∃ lr, threeF L E k 1 [a, b] q = some lr ∧ _
              rw [threeF]
              by_cases m2 : isMark L q [44] = true
              · rw [if_pos m2] at h2' ⊢
                obtain ⟨r3, e3, h3⟩ := next_some h2'
                rw [e3]
                cases r3 with
                | bad z => exact ⟨_, rfl, h3⟩
                | ok c q =>
                  refine ⟨.ok [a, b, c] q, ?_, h3⟩
                  show threeF L E k 0 [a, b, c] q = _
                  rw [threeF]
              · rw [if_neg m2] at h2' ⊢
                exact ⟨_, rfl, (Option.some.inj h2').symm⟩
          · rw [if_neg m1] at h1' ⊢
            exact ⟨_, rfl, (Option.some.inj h1').symm⟩
      obtain ⟨lr, hlr, hcr⟩ := key
      exact pcall_if hL hc hG hr hm (fun w' hr' => pthree_any hL hc hG (H k (Nat.le_refl _)).line1 w' _ lr hr' hlr) hcr
    · rw [if_neg hi] at hf
      obtain ⟨lr, hlr, hcr⟩ := items_list hf
      have hcr' : CallR L E wd lr res := by
        cases lr with
        | bad z => exact hcr
        | ok ks q => exact hcr
      by_cases h2 : wd = [67, 79, 85, 78, 84]
      · subst h2
        refine pcall_count hL hc hG hr hm (fun w' hr' => ?_) hcr'
        exact plist_any (c := true) hL hc hG (fun args w => enters_of Tryz.func117 (by kernel_rfl) rfl args w) (fun j hj => (H j hj).corn) w' _ lr hr' hlr hk
      · have e2 : (wd == [67, 79, 85, 78, 84]) = false := by rw [beq_eq_false_iff_ne]; exact h2
        rw [e2] at hlr
        refine pcall_other hL hc hG hr (by rw [beq_eq_false_iff_ne]; exact hi) e2 hm (fun w' hr' => ?_) hcr'
        exact plist_any (c := false) hL hc hG (fun args w => enters_of Tryz.func118 (by kernel_rfl) rfl args w) (fun j hj => (H j hj).item) w' _ lr hr' hlr hk
theorem poperand_any {R g cap B : Nat} {L : List Tok} {E k : Nat} (hL : L.length ≤ 1000) (hc : cap ≤ maxLen) (hG : GoodXL L) (hk : k ≤ 100000) (H : ∀ j, j ≤ k → Fam R g cap B L E j) :
    TreeP R g cap B L E 85 #[.pointer (some ⟨R, 0, none⟩)] (operF L E (k + 1)) := by
  intro w p res hr hf
  rw [operF] at hf
  cases hm : isMark L p [40] with
  | true =>
    rw [if_pos hm] at hf
    have hl := mark_lt hm
    have ht : L[p]? = some (L[p]'hl) := List.getElem?_eq_getElem hl
    have hta : tokAt L E p = L[p]'hl := tokAt_in ht
    have h5 : (tokAt L E p).kind = 5 := by
      unfold isMark at hm
      rw [ht] at hm
      have : ((L[p]'hl).kind == 5 && (L[p]'hl).text == [40]) = true := hm
      rw [Bool.and_eq_true] at this
      rw [hta]; exact eq_of_beq this.1
    exact poperand_brk hL hc hG hr hl (by rw [h5]; rfl) (by rw [h5]; rfl) (by rw [h5]; rfl) (by rw [h5]; rfl) hm (H k (Nat.le_refl _)).line1 hf
  | false =>
    rw [if_neg (by rw [hm]; decide)] at hf
    cases ht : L[p]? with
    | none =>
      rw [ht] at hf
      obtain rfl : .bad E = res := Option.some.inj hf
      have hta : tokAt L E p = endTok E := tokAt_out ht
      have := poperand_none hL hc hG hr (by rw [hta]; rfl) (by rw [hta]; rfl) (by rw [hta]; rfl) (by rw [hta]; rfl) hm
      rwa [whr_none ht] at this
    | some t =>
      rw [ht] at hf
      have hta : tokAt L E p = t := tokAt_in ht
      have hl := (List.getElem?_eq_some_iff.1 ht).1
      have hg := (hG p t ht).good
      have hf2 : (if t.kind = 5 then some (.bad t.frm) else if t.kind = 1 then some (.ok (numT t.num) (p + 1)) else if t.kind = 2 then some (.ok (readT t.col t.row) (p + 1)) else if t.kind = 3 then some (.ok badT (p + 1)) else callF L E k t.text (p + 1)) = some res := hf
      clear hf
      have NE : ∀ i : Int, t.kind ≠ i → ((tokAt L E p).kind == i) = false := fun i h => by rw [hta, beq_eq_false_iff_ne]; exact h
      have EQ : ∀ i : Int, t.kind = i → ((tokAt L E p).kind == i) = true := fun i h => by rw [hta, beq_iff_eq]; exact h
      by_cases h5 : t.kind = 5
      · rw [if_pos h5] at hf2
        obtain rfl := Option.some.inj hf2
        have := poperand_none hL hc hG hr (NE 1 (by omega)) (NE 2 (by omega)) (NE 3 (by omega)) (NE 4 (by omega)) hm
        rwa [whr_some ht] at this
      · rw [if_neg h5] at hf2
        by_cases h1 : t.kind = 1
        · rw [if_pos h1] at hf2
          obtain rfl := Option.some.inj hf2
          have := poperand_num hL hc hG hr hl (EQ 1 h1)
          rwa [hta] at this
        · rw [if_neg h1] at hf2
          by_cases h2 : t.kind = 2
          · rw [if_pos h2] at hf2
            obtain rfl := Option.some.inj hf2
            have := poperand_read hL hc hG hr hl (NE 1 h1) (EQ 2 h2)
            rwa [hta] at this
          · rw [if_neg h2] at hf2
            by_cases h3 : t.kind = 3
            · rw [if_pos h3] at hf2
              obtain rfl := Option.some.inj hf2
              exact poperand_bad hL hc hG hr hl (NE 1 h1) (NE 2 h2) (EQ 3 h3)
            · rw [if_neg h3] at hf2
              have h4 : t.kind = 4 := by have := hg.kind; omega
              refine poperand_word hL hc hr hl (NE 1 h1) (NE 2 h2) (NE 3 h3) (EQ 4 h4) fun w' hr' => ?_
              rw [hta]
              exact pcalls_any hL hc hG hk H (hg.word h4) w' (p + 1) res hr' hf2
theorem pprefix_any {R g cap B : Nat} {L : List Tok} {E k : Nat} (hL : L.length ≤ 1000) (hc : cap ≤ maxLen) (hG : GoodXL L) (H : Fam R g cap B L E k) :
    TreeP R g cap B L E 61 #[.pointer (some ⟨R, 0, none⟩)] (prefF L E (k + 1)) := by
  intro w p res hr hf
  rw [prefF] at hf
  cases hm : isMark L p [45] with
  | true =>
    rw [if_pos hm] at hf
    exact pprefix_true hL hc hG hr hm H.pref hf
  | false =>
    rw [if_neg (by rw [hm]; decide)] at hf
    exact pprefix_false hL hc hG hr hm H.oper hf
theorem fam_zero (R g cap B : Nat) (L : List Tok) (E : Nat) : Fam R g cap B L E 0 := by
  constructor <;> intro w p res hr hf
  · rw [lineF] at hf; cases hf
  · rw [lineF] at hf; cases hf
  · rw [lineF] at hf; cases hf
  · rw [lineF] at hf; cases hf
  · rw [prefF] at hf; cases hf
  · rw [operF] at hf; cases hf
  · rw [itemF] at hf; cases hf
  · rw [itemF] at hf; cases hf
theorem fam_all {R g cap B : Nat} {L : List Tok} {E : Nat} (hL : L.length ≤ 1000) (hc : cap ≤ maxLen) (hG : GoodXL L) : ∀ k, k ≤ 100000 → ∀ j, j ≤ k → Fam R g cap B L E j := by
  intro k
  induction k with
  | zero => intro _ j hj; obtain rfl : j = 0 := by omega
            exact fam_zero R g cap B L E
  | succ k ih =>
    intro hk j hj
    by_cases hj2 : j ≤ k
    · exact ih (by omega) j hj2
    · obtain rfl : j = k + 1 := by omega
      have H := ih (by omega)
      have Hk := H k (Nat.le_refl _)
      exact ⟨pexpr_1 hL hc hG fun j hj => (H j hj).line2, pexpr_2 hL hc hG fun j hj => (H j hj).line3, pexpr_3 hL hc hG fun j hj => (H j hj).line4, pexpr_top hL hc hG Hk.pref,
        pprefix_any hL hc hG Hk, poperand_any hL hc hG (by omega) H, pitem_any hL hc hG Hk.line1, pcorners_any hL hc hG⟩
/-- the whole -/
theorem pexpr_any {R g cap B : Nat} {L : List Tok} {E : Nat} (hL : L.length ≤ 1000) (hc : cap ≤ maxLen) (hG : GoodXL L) (w : World) (res : Res) (hr : RL w R g cap B L E 0) (hf : treeT L E = some res) :
    Calls Tryz.prog 32 #[.pointer (some ⟨R, 0, none⟩), .int .i64 0] w (PostP w R g cap B L E res) :=
  (fam_all hL hc hG (8 * L.length + 6) (by omega) _ (Nat.le_refl _)).line1 w 0 res hr hf
end Go.Proofs.YtahdlijkohmdfaaGreatDoor
/- The program's own reader: what is wrong is caught. -/
namespace Go.Proofs.YtahdlijkohmdfaaGreatDoor
open Go.RowKit

set_option maxHeartbeats 2000000 in
set_option maxRecDepth 10000 in
theorem fcatch_idle (a b c : Value) (w : World) :
    CallsD Tryz.prog 31 #[a, b, c] .returning w fun e u' w' => e = .returned (.tuple #[]) ∧ u' = .returning ∧ w' = w := by
  refine callsD_of_wpS Tryz.func31 rfl fun c₀ cs hu => ?_
  apply wpS_seq
  apply wpS_region
  simp [wpOpsS, go_sem, recoverD, hu, Tryz.ntmps31, Exit.thenS]
  apply wpS_seq
  apply wpS_region
  simp [wpOpsS, go_sem, recoverD, hu, Exit.thenS]
  refine wpS_cond (t := false) (by simp [Act.eval, Array.replicate]) ?_
  simp only [Bool.false_eq_true, if_false]
  refine wpS_of_wp (wp_skip ?_)
  cases c₀
  simp_all [bodyPostS, results, Tryz.results31]
theorem drew_set (w : World) (a : Addr) (v : Value) : (w.setCell a v).drew = w.drew.setCell a v := rfl
/-- the three named results behind the closure: no tree, where, ErrForm -/
def caughtW (w : World) (T F E : Nat) (z : Int) : World :=
  ((((((((((w.setCell ⟨T, 0, none⟩ (.int .i64 0)).setCell ⟨T, 1, none⟩ (.int .i64 0)).setCell ⟨T, 2, none⟩ (.int .i64 0)).setCell ⟨T, 3, none⟩ (.int .i64 0)).setCell ⟨T, 4, none⟩ (.int .i64 0)).setCell ⟨T, 5, none⟩ (.int .i64 0)).setCell ⟨T, 6, none⟩ (.string ⟨#[]⟩)).setCell ⟨T, 7, none⟩ (.slice none 0 0)).setCell ⟨F, 0, none⟩ (.int .i64 z)).setCell ⟨E, 0, none⟩ (.int .i64 2))
set_option maxHeartbeats 2000000 in
set_option maxRecDepth 10000 in
theorem fcatch_panic (T F E : Nat) (z : Int) (older : List PanicEntry) (w : World) (x : V8) (f e : Int)
    (t0 : w.cell? ⟨T, 0, none⟩ = some (.int .i64 x.n0)) (t1 : w.cell? ⟨T, 1, none⟩ = some (.int .i64 x.n1)) (t2 : w.cell? ⟨T, 2, none⟩ = some (.int .i64 x.n2)) (t3 : w.cell? ⟨T, 3, none⟩ = some (.int .i64 x.n3)) (t4 : w.cell? ⟨T, 4, none⟩ = some (.int .i64 x.n4)) (t5 : w.cell? ⟨T, 5, none⟩ = some (.int .i64 x.n5)) (t6 : w.cell? ⟨T, 6, none⟩ = some (.string x.s)) (t7 : w.cell? ⟨T, 7, none⟩ = some (.slice x.A x.len x.cap))
    (hf : w.cell? ⟨F, 0, none⟩ = some (.int .i64 f)) (he : w.cell? ⟨E, 0, none⟩ = some (.int .i64 e)) (z0 : ∀ j, w.frozen? ⟨T, j, none⟩ = false) (zf : w.frozen? ⟨F, 0, none⟩ = false) (ze : w.frozen? ⟨E, 0, none⟩ = false) (n1 : T ≠ F) (n2 : T ≠ E) (n3 : F ≠ E) :
    CallsD Tryz.prog 31 #[.pointer (some ⟨T, 0, none⟩), .pointer (some ⟨F, 0, none⟩), .pointer (some ⟨E, 0, none⟩)] (.panicking ({ v := .iface 64 (.int .i64 z), recovered := false } :: older)) w fun e u' w' =>
      e = .returned (.tuple #[]) ∧ u' = .panicking ({ v := .iface 64 (.int .i64 z), recovered := true } :: older) ∧ w' = caughtW w.drew T F E z := by
  refine callsD_of_wpS Tryz.func31 rfl fun c₀ cs hu => ?_
  have f0 := z0 0
  have f1 := z0 1
  have f2 := z0 2
  have f3 := z0 3
  have f4 := z0 4
  have f5 := z0 5
  have f6 := z0 6
  have f7 := z0 7
  apply wpS_seq
  apply wpS_region
  simp [wpOpsS, go_sem, recoverD, hu, Tryz.ntmps31, Exit.thenS]
  apply wpS_seq
  apply wpS_region
  simp [wpOpsS, go_sem, recoverD, hu, Exit.thenS]
  refine wpS_cond (t := true) (by simp [Act.eval, Array.replicate]) ?_
  simp only [if_true]
  refine wpS_of_wp ?_
  have hA : (#[Value.pointer (some ⟨T, 0, none⟩), .pointer (some ⟨F, 0, none⟩), .pointer (some ⟨E, 0, none⟩)] ++ ((((Array.replicate 7 undef).setIfInBounds 1 (Value.iface 64 (.int .i64 z))).setIfInBounds 0 (.iface 64 (.int .i64 z))).setIfInBounds 2 (.iface 64 (.int .i64 z))).setIfInBounds 3 (.bool true) : Array Value) =
      #[.pointer (some ⟨T, 0, none⟩), .pointer (some ⟨F, 0, none⟩), .pointer (some ⟨E, 0, none⟩), .iface 64 (.int .i64 z), .iface 64 (.int .i64 z), .iface 64 (.int .i64 z), .bool true, undef, undef, undef] := rfl
  rw [hA]
  clear hA
  have hTA : ∀ w : World, (Instr.typeAssert (.iface 64 (.int .i64 z)) 20 64 false).run Tryz.prog w = .ok (.int .i64 z) w := fun _ => by kernel_rfl
  go_region
  all_goals
    refine ⟨rfl, _, rfl, .tuple #[], ?_, rfl, rfl, ?_⟩
    · simp [results, Tryz.results31, go_sem]
    · simp only [drew_set, caughtW]
end Go.Proofs.YtahdlijkohmdfaaGreatDoor
