/- Texts joined: TrJ, RefFs. -/
import Derived.Test.YthaoalmhhgllmaaDoorMb14
import Derived.Test.YthaoalmhhgllmaaDoorMb02
set_option linter.all false
namespace Go.Proofs.YthaoalmhhgllmaaDoor
open Go.RowKit
theorem RS.step {w : World} {R : Nat} {A : Option Addr} {cap : Nat} {L : List Tok} {E p : Nat} (h : RS w R A cap L E (.run p)) (hp : p < L.length) {v : Int} (hv : v = ((p + 1 : Nat) : Int)) : RS (w.setCell ⟨R, 1, none⟩ (.int .i64 v)) R A cap L E (.run (p + 1)) := by
  obtain ⟨_, x, h⟩ := h
  exact ⟨hp, x, h.step hv⟩
theorem toS_map {a : Option Res} {h : Tr → Tr} {g : Got} (hg : toS (Res.next a fun t q => some (.ok (h t) q)) = some g) : ∃ g1, toS a = some g1 ∧ g = (g1.1, g1.2.map h) := by
  rcases toS_next hg with ⟨t, q, e, e2⟩ | ⟨x, e, e2⟩
  · exact ⟨_, e, (Option.some.inj e2).symm⟩
  · exact ⟨_, e, e2⟩

set_option maxHeartbeats 2000000 in
set_option maxRecDepth 10000 in
theorem rprefix_run {R : Nat} {A : Option Addr} {cap : Nat} {L : List Tok} {E k : Nat} (hL : L.length ≤ 1000) (hP : TreeC R A cap L E 46 #[.pointer (some ⟨R, 0, none⟩)] (prefF L E k)) (hO : TreeC R A cap L E 75 #[.pointer (some ⟨R, 0, none⟩)] (operF L E k)) : TreeC R A cap L E 46 #[.pointer (some ⟨R, 0, none⟩)] (prefF L E (k + 1)) := by
  refine TreeC.of (rprefix_out hL) fun w p g hr hk hg => ?_
  have HR := Lib.hid hr
  have HT := Lib.hid hk
  have hlt : R < w.heap.size := hr.lt
  have nk : w.heap.size ≠ R := by omega
  clear hr hk
  have HP := Lib.hid hP
  have HO := Lib.hid hO
  clear hP hO
  rw [prefF] at hg
  cases hm : isMark L p [45] with
  | true =>
    rw [if_pos hm] at hg
    obtain ⟨g1, hg1, rfl⟩ := toS_map hg
    obtain ⟨st1, ot1⟩ := g1
    have hp := mark_lt hm
    have HG := Lib.hid hg1
    have HM := Lib.hid hm
    clear hg hg1 hm
    go_enter Tryd.func46, Tryd.ntmps46
    go_wp2_with fail
    refine (rmark_any (R := R) (A := A) (cap := cap) (L := L) (E := E) (m := 0) (st := .run p) ⟨#[45]⟩ hL (by omega) (by (with_reducible repeat' (first | exact HR.out | refine zRf ?_ nk _ _ | refine zRa ?_ _ | refine zRn ?_ _ | refine zRd ?_))) (HT.out.but (by (with_reducible repeat' (first | exact But.refl _ _ | refine zBr ?_ _ _ | refine zBs ?_ (by omega) _ _ | refine zBa ?_ _ | refine zBn ?_ _ | refine zBd ?_))))).mono ?_; rintro e w1 ⟨rfl, b1⟩
    have h1 : But R w w1 := But.trans (by (with_reducible repeat' (first | exact But.refl _ _ | refine zBr ?_ _ _ | refine zBs ?_ (by omega) _ _ | refine zBa ?_ _ | refine zBn ?_ _ | refine zBd ?_))) (But.of_below b1)
    have zk1 : w.heap.size < w1.heap.size := by have := b1.size; first | omega | (simp at this; omega)
    have Hk1 : C8 w1 (w.heap.size) (.int .i64 0) (.int .i64 0) (.int .i64 0) (.int .i64 0) (.int .i64 0) (.int .i64 0) (.string ⟨#[]⟩) (.slice none 0 0) := by refine ⟨?_, ?_, ?_, ?_, ?_, ?_, ?_, ?_⟩ <;> exact (But.of_below b1).cell nk (by simp [go_sem])
    obtain ⟨k10, k11, k12, k13, k14, k15, k16, k17⟩ := Hk1
    have Hkf1 : F8 w1 (w.heap.size) := by refine ⟨?_, ?_, ?_, ?_, ?_, ?_, ?_, ?_⟩ <;> exact (But.of_below b1).frozen nk (by first | omega | (simp; done) | (simp; omega)) (by simp [go_sem])
    obtain ⟨kf10, kf11, kf12, kf13, kf14, kf15, kf16, kf17⟩ := Hkf1
    have y1 : w.heap.size < w1.heap.size := zk1
    have HR1 : Hid (RS w1 R A cap L E (.run p)) := Lib.hid (RS.below (by (with_reducible repeat' (first | exact HR.out | refine zRf ?_ nk _ _ | refine zRa ?_ _ | refine zRn ?_ _ | refine zRd ?_))) b1)
    clear b1
    have e1 : markR L 0 [45] (.run p) = true := HM.out
    obtain ⟨_, _, hc⟩ := HR1.out
    have c1 := hc.c1
    have cf1 := hc.f1
    clear hc
    have HS1 : Hid (RS (w1.setCell ⟨R, 1, none⟩ (.int .i64 ((p : Int) + 1))) R A cap L E (.run (p + 1))) := Lib.hid (HR1.out.step hp (by omega))
    go_wp2_with fail
    refine (HP.out _ (.run (p + 1)) (st1, ot1) (by (with_reducible repeat' (first | exact HS1.out | refine zRf ?_ nk _ _ | refine zRa ?_ _ | refine zRn ?_ _ | refine zRd ?_))) (HT.out.but (by (with_reducible repeat' (first | exact h1 | refine zBr ?_ _ _ | refine zBs ?_ (by omega) _ _ | refine zBa ?_ _ | refine zBn ?_ _ | refine zBd ?_)))) HG.out).mono ?_; rintro e w2 ⟨⟨a0, a1, a2, a3, a4, a5, aw, aA, al, ac⟩, rfl, v2, r2, b2⟩
    have h2 : But R w w2 := But.trans (by (with_reducible repeat' (first | exact h1 | refine zBr ?_ _ _ | refine zBs ?_ (by omega) _ _ | refine zBa ?_ _ | refine zBn ?_ _ | refine zBd ?_))) b2
    have zk2 : w.heap.size < w2.heap.size := by have := b2.size; first | omega | (simp at this; omega)
    have Hk2 := c8_lift (B := w.heap.size) (fun j v hv => b2.cell nk (by with_reducible repeat' (first | exact hv | refine zCs ?_ (by omega) _ _ | refine zCa ?_ _ | refine zCn ?_ _ | refine zCd ?_))) k10 k11 k12 k13 k14 k15 k16 k17
    obtain ⟨k20, k21, k22, k23, k24, k25, k26, k27⟩ := Hk2
    have Hkf2 := f8_lift (B := w.heap.size) (fun j hv => b2.frozen nk (by first | omega | (simp; done) | (simp; omega)) (by with_reducible repeat' (first | exact hv | refine zFs ?_ (by omega) _ _ | refine zFa ?_ (by first | omega | (simp; omega)) _ | refine zFn ?_ _ | refine zFd ?_))) kf10 kf11 kf12 kf13 kf14 kf15 kf16 kf17
    obtain ⟨kf20, kf21, kf22, kf23, kf24, kf25, kf26, kf27⟩ := Hkf2
    have y2 : w.heap.size < w2.heap.size := zk2
    have HR2 : Hid (RS w2 R A cap L E st1) := Lib.hid r2
    clear b2 r2 k10 k11 k12 k13 k14 k15 k16 k17 kf10 kf11 kf12 kf13 kf14 kf15 kf16 kf17 zk1
    have HV2 : Hid (TV w2 (fun b => w.heap.size < b) ⟨a0, a1, a2, a3, a4, a5, aw, aA, al, ac⟩ ot1) := Lib.hid (v2.imp fun b hb => by have hb2 : _ ≤ b := hb; first | omega | (simp at hb2; omega))
    clear v2 c1 cf1
    dsimp only [V8.val]
    go_wp2_with fail
    exact bodyPost_ret (v := .agg #[.int .i64 3, .int .i64 0, .int .i64 0, .int .i64 0, .int .i64 0, .int .i64 0, .string ⟨#[]⟩, .slice (some ⟨w2.heap.size + 1, 0, none⟩) 1 1]) (by simp [results, Tryd.results46, go_sem, k20, k21, k22, k23, k24, k25, k26, k27, zk2]) rfl ⟨⟨3, 0, 0, 0, 0, 0, ⟨#[]⟩, some ⟨w2.heap.size + 1, 0, none⟩, 1, 1⟩, rfl, (by
      refine (TV.node1 3 [] ⟨a0, a1, a2, a3, a4, a5, aw, aA, al, ac⟩ ot1 (by show w.heap.size < w2.heap.size + 1; omega) (by first | (simp; done) | (simp; omega)) ?_ (HV2.out.kept ?_)).imp fun b (hb : w.heap.size < b) => Nat.le_of_lt hb
      · exact ⟨by simp [go_sem], by simp [go_sem], by simp [go_sem], by simp [go_sem], by simp [go_sem], by simp [go_sem], by simp [go_sem], by simp [go_sem]⟩
      · (with_reducible repeat' (first | exact Kept.refl _ _ | refine Kept.set1 ?_ (by omega) _ _ | refine Kept.set2 ?_ (by omega) _ _ | refine Kept.set2o ?_ _ _ | refine Kept.setNew ?_ (by omega) _ _ | refine Kept.alloc ?_ _ | refine Kept.drewN ?_ _ | refine Kept.drew ?_))), by (with_reducible repeat' (first | exact HR2.out | refine zRf ?_ nk _ _ | refine zRa ?_ _ | refine zRn ?_ _ | refine zRd ?_)), by (with_reducible repeat' (first | exact h2 | refine zBr ?_ _ _ | refine zBs ?_ (by omega) _ _ | refine zBa ?_ _ | refine zBn ?_ _ | refine zBd ?_))⟩
  | false =>
    rw [if_neg (by rw [hm]; decide)] at hg
    obtain ⟨st1, ot1⟩ := g
    have HG := Lib.hid hg
    have HM := Lib.hid hm
    clear hg hm
    go_enter Tryd.func46, Tryd.ntmps46
    go_wp2_with fail
    refine (rmark_any (R := R) (A := A) (cap := cap) (L := L) (E := E) (m := 0) (st := .run p) ⟨#[45]⟩ hL (by omega) (by (with_reducible repeat' (first | exact HR.out | refine zRf ?_ nk _ _ | refine zRa ?_ _ | refine zRn ?_ _ | refine zRd ?_))) (HT.out.but (by (with_reducible repeat' (first | exact But.refl _ _ | refine zBr ?_ _ _ | refine zBs ?_ (by omega) _ _ | refine zBa ?_ _ | refine zBn ?_ _ | refine zBd ?_))))).mono ?_; rintro e w1 ⟨rfl, b1⟩
    have h1 : But R w w1 := But.trans (by (with_reducible repeat' (first | exact But.refl _ _ | refine zBr ?_ _ _ | refine zBs ?_ (by omega) _ _ | refine zBa ?_ _ | refine zBn ?_ _ | refine zBd ?_))) (But.of_below b1)
    have zk1 : w.heap.size < w1.heap.size := by have := b1.size; first | omega | (simp at this; omega)
    have Hk1 : C8 w1 (w.heap.size) (.int .i64 0) (.int .i64 0) (.int .i64 0) (.int .i64 0) (.int .i64 0) (.int .i64 0) (.string ⟨#[]⟩) (.slice none 0 0) := by refine ⟨?_, ?_, ?_, ?_, ?_, ?_, ?_, ?_⟩ <;> exact (But.of_below b1).cell nk (by simp [go_sem])
    obtain ⟨k10, k11, k12, k13, k14, k15, k16, k17⟩ := Hk1
    have Hkf1 : F8 w1 (w.heap.size) := by refine ⟨?_, ?_, ?_, ?_, ?_, ?_, ?_, ?_⟩ <;> exact (But.of_below b1).frozen nk (by first | omega | (simp; done) | (simp; omega)) (by simp [go_sem])
    obtain ⟨kf10, kf11, kf12, kf13, kf14, kf15, kf16, kf17⟩ := Hkf1
    have y1 : w.heap.size < w1.heap.size := zk1
    have HR1 : Hid (RS w1 R A cap L E (.run p)) := Lib.hid (RS.below (by (with_reducible repeat' (first | exact HR.out | refine zRf ?_ nk _ _ | refine zRa ?_ _ | refine zRn ?_ _ | refine zRd ?_))) b1)
    clear b1
    have e1 : markR L 0 [45] (.run p) = false := HM.out
    go_wp2_with fail
    refine (HO.out _ (.run p) (st1, ot1) (by (with_reducible repeat' (first | exact HR1.out | refine zRf ?_ nk _ _ | refine zRa ?_ _ | refine zRn ?_ _ | refine zRd ?_))) (HT.out.but (by (with_reducible repeat' (first | exact h1 | refine zBr ?_ _ _ | refine zBs ?_ (by omega) _ _ | refine zBa ?_ _ | refine zBn ?_ _ | refine zBd ?_)))) HG.out).mono ?_; rintro e w2 ⟨⟨a0, a1, a2, a3, a4, a5, aw, aA, al, ac⟩, rfl, v2, r2, b2⟩
    have h2 : But R w w2 := But.trans (by (with_reducible repeat' (first | exact h1 | refine zBr ?_ _ _ | refine zBs ?_ (by omega) _ _ | refine zBa ?_ _ | refine zBn ?_ _ | refine zBd ?_))) b2
    have zk2 : w.heap.size < w2.heap.size := by have := b2.size; first | omega | (simp at this; omega)
    have Hk2 := c8_lift (B := w.heap.size) (fun j v hv => b2.cell nk (by with_reducible repeat' (first | exact hv | refine zCs ?_ (by omega) _ _ | refine zCa ?_ _ | refine zCn ?_ _ | refine zCd ?_))) k10 k11 k12 k13 k14 k15 k16 k17
    obtain ⟨k20, k21, k22, k23, k24, k25, k26, k27⟩ := Hk2
    have Hkf2 := f8_lift (B := w.heap.size) (fun j hv => b2.frozen nk (by first | omega | (simp; done) | (simp; omega)) (by with_reducible repeat' (first | exact hv | refine zFs ?_ (by omega) _ _ | refine zFa ?_ (by first | omega | (simp; omega)) _ | refine zFn ?_ _ | refine zFd ?_))) kf10 kf11 kf12 kf13 kf14 kf15 kf16 kf17
    obtain ⟨kf20, kf21, kf22, kf23, kf24, kf25, kf26, kf27⟩ := Hkf2
    have y2 : w.heap.size < w2.heap.size := zk2
    have HR2 : Hid (RS w2 R A cap L E st1) := Lib.hid r2
    clear b2 r2 k10 k11 k12 k13 k14 k15 k16 k17 kf10 kf11 kf12 kf13 kf14 kf15 kf16 kf17 zk1
    have HV2 : Hid (TV w2 (fun b => w.heap.size < b) ⟨a0, a1, a2, a3, a4, a5, aw, aA, al, ac⟩ ot1) := Lib.hid (v2.imp fun b hb => by have hb2 : _ ≤ b := hb; first | omega | (simp at hb2; omega))
    clear v2
    dsimp only [V8.val]
    go_wp2_with fail
    exact bodyPost_ret (v := .agg #[.int .i64 a0, .int .i64 a1, .int .i64 a2, .int .i64 a3, .int .i64 a4, .int .i64 a5, .string aw, .slice aA al ac]) (by simp [results, Tryd.results46, go_sem, k20, k21, k22, k23, k24, k25, k26, k27]) rfl ⟨⟨a0, a1, a2, a3, a4, a5, aw, aA, al, ac⟩, rfl, ((HV2.out.kept (by (with_reducible repeat' (first | exact Kept.refl _ _ | refine Kept.set1 ?_ (by omega) _ _ | refine Kept.set2 ?_ (by omega) _ _ | refine Kept.set2o ?_ _ _ | refine Kept.setNew ?_ (by omega) _ _ | refine Kept.alloc ?_ _ | refine Kept.drewN ?_ _ | refine Kept.drew ?_)))).imp fun b (hb : w.heap.size < b) => Nat.le_of_lt hb), by (with_reducible repeat' (first | exact HR2.out | refine zRf ?_ nk _ _ | refine zRa ?_ _ | refine zRn ?_ _ | refine zRd ?_)), by (with_reducible repeat' (first | exact h2 | refine zBr ?_ _ _ | refine zBs ?_ (by omega) _ _ | refine zBa ?_ _ | refine zBn ?_ _ | refine zBd ?_))⟩
set_option maxHeartbeats 2000000 in
set_option maxRecDepth 10000 in
theorem ritem_line {R : Nat} {A : Option Addr} {cap : Nat} {L : List Tok} {E k : Nat} (hL : L.length ≤ 1000) (hP : TreeC R A cap L E 30 #[.pointer (some ⟨R, 0, none⟩), .int .i64 1] (lineF L E k 1)) (w : World) (p : Nat) (g : Got) (hr : RS w R A cap L E (.run p)) (hk : TK w R A L) (hc : isEnd L p = false ∨ isMark L (p + 1) [58] = false) (hg : toS (lineF L E k 1 p) = some g) :
    Calls Tryd.prog 90 #[.pointer (some ⟨R, 0, none⟩), .bool false] w fun e w' => ∃ x : V8, e = .returned x.val ∧ TV w' (fun b => w.heap.size ≤ b) x g.2 ∧ RS w' R A cap L E g.1 ∧ But R w w' := by
  have HR := Lib.hid hr
  have HT := Lib.hid hk
  have hlt : R < w.heap.size := hr.lt
  have nk : w.heap.size ≠ R := by omega
  clear hr hk
  have HP := Lib.hid hP
  have HG := Lib.hid hg
  obtain ⟨st1, ot1⟩ := g
  clear hP hg
  rcases hc with hc | hc
  · skip
    have HC := Lib.hid hc
    clear hc
    go_enter Tryd.func90, Tryd.ntmps90
    go_wp2_with fail
    refine (rend_any (R := R) (A := A) (cap := cap) (L := L) (E := E) (st := .run p) hL (by (with_reducible repeat' (first | exact HR.out | refine zRf ?_ nk _ _ | refine zRa ?_ _ | refine zRn ?_ _ | refine zRd ?_))) (HT.out.but (by (with_reducible repeat' (first | exact But.refl _ _ | refine zBr ?_ _ _ | refine zBs ?_ (by omega) _ _ | refine zBa ?_ _ | refine zBn ?_ _ | refine zBd ?_))))).mono ?_; rintro e w1 ⟨rfl, b1⟩
    have h1 : But R w w1 := But.trans (by (with_reducible repeat' (first | exact But.refl _ _ | refine zBr ?_ _ _ | refine zBs ?_ (by omega) _ _ | refine zBa ?_ _ | refine zBn ?_ _ | refine zBd ?_))) (But.of_below b1)
    have zk1 : w.heap.size < w1.heap.size := by have := b1.size; first | omega | (simp at this; omega)
    have Hk1 : C8 w1 (w.heap.size) (.int .i64 0) (.int .i64 0) (.int .i64 0) (.int .i64 0) (.int .i64 0) (.int .i64 0) (.string ⟨#[]⟩) (.slice none 0 0) := by refine ⟨?_, ?_, ?_, ?_, ?_, ?_, ?_, ?_⟩ <;> exact (But.of_below b1).cell nk (by simp [go_sem])
    obtain ⟨k10, k11, k12, k13, k14, k15, k16, k17⟩ := Hk1
    have Hkf1 : F8 w1 (w.heap.size) := by refine ⟨?_, ?_, ?_, ?_, ?_, ?_, ?_, ?_⟩ <;> exact (But.of_below b1).frozen nk (by first | omega | (simp; done) | (simp; omega)) (by simp [go_sem])
    obtain ⟨kf10, kf11, kf12, kf13, kf14, kf15, kf16, kf17⟩ := Hkf1
    have y1 : w.heap.size < w1.heap.size := zk1
    have HR1 : Hid (RS w1 R A cap L E (.run p)) := Lib.hid (RS.below (by (with_reducible repeat' (first | exact HR.out | refine zRf ?_ nk _ _ | refine zRa ?_ _ | refine zRn ?_ _ | refine zRd ?_))) b1)
    clear b1
    go_wp2_with fail
    refine (rmark_any (R := R) (A := A) (cap := cap) (L := L) (E := E) (m := 1) (st := .run p) ⟨#[58]⟩ hL (by omega) (by (with_reducible repeat' (first | exact HR1.out | refine zRf ?_ nk _ _ | refine zRa ?_ _ | refine zRn ?_ _ | refine zRd ?_))) (HT.out.but (by (with_reducible repeat' (first | exact h1 | refine zBr ?_ _ _ | refine zBs ?_ (by omega) _ _ | refine zBa ?_ _ | refine zBn ?_ _ | refine zBd ?_))))).mono ?_; rintro e w2 ⟨rfl, b2⟩
    have h2 : But R w w2 := But.trans (by (with_reducible repeat' (first | exact h1 | refine zBr ?_ _ _ | refine zBs ?_ (by omega) _ _ | refine zBa ?_ _ | refine zBn ?_ _ | refine zBd ?_))) (But.of_below b2)
    have zk2 : w.heap.size < w2.heap.size := by have := b2.size; first | omega | (simp at this; omega)
    have Hk2 := c8_lift (B := w.heap.size) (fun j v hv => (But.of_below b2).cell nk (by with_reducible repeat' (first | exact hv | refine zCs ?_ (by omega) _ _ | refine zCa ?_ _ | refine zCn ?_ _ | refine zCd ?_))) k10 k11 k12 k13 k14 k15 k16 k17
    obtain ⟨k20, k21, k22, k23, k24, k25, k26, k27⟩ := Hk2
    have Hkf2 := f8_lift (B := w.heap.size) (fun j hv => (But.of_below b2).frozen nk (by first | omega | (simp; done) | (simp; omega)) (by with_reducible repeat' (first | exact hv | refine zFs ?_ (by omega) _ _ | refine zFa ?_ (by first | omega | (simp; omega)) _ | refine zFn ?_ _ | refine zFd ?_))) kf10 kf11 kf12 kf13 kf14 kf15 kf16 kf17
    obtain ⟨kf20, kf21, kf22, kf23, kf24, kf25, kf26, kf27⟩ := Hkf2
    have y2 : w.heap.size < w2.heap.size := zk2
    have HR2 : Hid (RS w2 R A cap L E (.run p)) := Lib.hid (RS.below (by (with_reducible repeat' (first | exact HR1.out | refine zRf ?_ nk _ _ | refine zRa ?_ _ | refine zRn ?_ _ | refine zRd ?_))) b2)
    clear b2 k10 k11 k12 k13 k14 k15 k16 k17 kf10 kf11 kf12 kf13 kf14 kf15 kf16 kf17 zk1
    have e1 : endS L (.run p) = false := HC.out
    go_wp2_with fail
    refine (HP.out _ (.run p) (st1, ot1) (by (with_reducible repeat' (first | exact HR2.out | refine zRf ?_ nk _ _ | refine zRa ?_ _ | refine zRn ?_ _ | refine zRd ?_))) (HT.out.but (by (with_reducible repeat' (first | exact h2 | refine zBr ?_ _ _ | refine zBs ?_ (by omega) _ _ | refine zBa ?_ _ | refine zBn ?_ _ | refine zBd ?_)))) HG.out).mono ?_; rintro e w3 ⟨⟨a0, a1, a2, a3, a4, a5, aw, aA, al, ac⟩, rfl, v3, r3, b3⟩
    have h3 : But R w w3 := But.trans (by (with_reducible repeat' (first | exact h2 | refine zBr ?_ _ _ | refine zBs ?_ (by omega) _ _ | refine zBa ?_ _ | refine zBn ?_ _ | refine zBd ?_))) b3
    have zk3 : w.heap.size < w3.heap.size := by have := b3.size; first | omega | (simp at this; omega)
    have Hk3 := c8_lift (B := w.heap.size) (fun j v hv => b3.cell nk (by with_reducible repeat' (first | exact hv | refine zCs ?_ (by omega) _ _ | refine zCa ?_ _ | refine zCn ?_ _ | refine zCd ?_))) k20 k21 k22 k23 k24 k25 k26 k27
    obtain ⟨k30, k31, k32, k33, k34, k35, k36, k37⟩ := Hk3
    have Hkf3 := f8_lift (B := w.heap.size) (fun j hv => b3.frozen nk (by first | omega | (simp; done) | (simp; omega)) (by with_reducible repeat' (first | exact hv | refine zFs ?_ (by omega) _ _ | refine zFa ?_ (by first | omega | (simp; omega)) _ | refine zFn ?_ _ | refine zFd ?_))) kf20 kf21 kf22 kf23 kf24 kf25 kf26 kf27
    obtain ⟨kf30, kf31, kf32, kf33, kf34, kf35, kf36, kf37⟩ := Hkf3
    have y3 : w.heap.size < w3.heap.size := zk3
    have HR3 : Hid (RS w3 R A cap L E st1) := Lib.hid r3
    clear b3 r3 k20 k21 k22 k23 k24 k25 k26 k27 kf20 kf21 kf22 kf23 kf24 kf25 kf26 kf27 zk2
    have HV3 : Hid (TV w3 (fun b => w.heap.size < b) ⟨a0, a1, a2, a3, a4, a5, aw, aA, al, ac⟩ ot1) := Lib.hid (v3.imp fun b hb => by have hb2 : _ ≤ b := hb; first | omega | (simp at hb2; omega))
    clear v3
    dsimp only [V8.val]
    go_wp2_with fail
    exact bodyPost_ret (v := .agg #[.int .i64 a0, .int .i64 a1, .int .i64 a2, .int .i64 a3, .int .i64 a4, .int .i64 a5, .string aw, .slice aA al ac]) (by simp [results, Tryd.results90, go_sem, k30, k31, k32, k33, k34, k35, k36, k37]) rfl ⟨⟨a0, a1, a2, a3, a4, a5, aw, aA, al, ac⟩, rfl, ((HV3.out.kept (by (with_reducible repeat' (first | exact Kept.refl _ _ | refine Kept.set1 ?_ (by omega) _ _ | refine Kept.set2 ?_ (by omega) _ _ | refine Kept.set2o ?_ _ _ | refine Kept.setNew ?_ (by omega) _ _ | refine Kept.alloc ?_ _ | refine Kept.drewN ?_ _ | refine Kept.drew ?_)))).imp fun b (hb : w.heap.size < b) => Nat.le_of_lt hb), by (with_reducible repeat' (first | exact HR3.out | refine zRf ?_ nk _ _ | refine zRa ?_ _ | refine zRn ?_ _ | refine zRd ?_)), by (with_reducible repeat' (first | exact h3 | refine zBr ?_ _ _ | refine zBs ?_ (by omega) _ _ | refine zBa ?_ _ | refine zBn ?_ _ | refine zBd ?_))⟩
  · cases he : isEnd L p with
    | false =>
      have HE := Lib.hid he
      clear he
      have HC := Lib.hid hc
      clear hc
      go_enter Tryd.func90, Tryd.ntmps90
      go_wp2_with fail
      refine (rend_any (R := R) (A := A) (cap := cap) (L := L) (E := E) (st := .run p) hL (by (with_reducible repeat' (first | exact HR.out | refine zRf ?_ nk _ _ | refine zRa ?_ _ | refine zRn ?_ _ | refine zRd ?_))) (HT.out.but (by (with_reducible repeat' (first | exact But.refl _ _ | refine zBr ?_ _ _ | refine zBs ?_ (by omega) _ _ | refine zBa ?_ _ | refine zBn ?_ _ | refine zBd ?_))))).mono ?_; rintro e w1 ⟨rfl, b1⟩
      have h1 : But R w w1 := But.trans (by (with_reducible repeat' (first | exact But.refl _ _ | refine zBr ?_ _ _ | refine zBs ?_ (by omega) _ _ | refine zBa ?_ _ | refine zBn ?_ _ | refine zBd ?_))) (But.of_below b1)
      have zk1 : w.heap.size < w1.heap.size := by have := b1.size; first | omega | (simp at this; omega)
      have Hk1 : C8 w1 (w.heap.size) (.int .i64 0) (.int .i64 0) (.int .i64 0) (.int .i64 0) (.int .i64 0) (.int .i64 0) (.string ⟨#[]⟩) (.slice none 0 0) := by refine ⟨?_, ?_, ?_, ?_, ?_, ?_, ?_, ?_⟩ <;> exact (But.of_below b1).cell nk (by simp [go_sem])
      obtain ⟨k10, k11, k12, k13, k14, k15, k16, k17⟩ := Hk1
      have Hkf1 : F8 w1 (w.heap.size) := by refine ⟨?_, ?_, ?_, ?_, ?_, ?_, ?_, ?_⟩ <;> exact (But.of_below b1).frozen nk (by first | omega | (simp; done) | (simp; omega)) (by simp [go_sem])
      obtain ⟨kf10, kf11, kf12, kf13, kf14, kf15, kf16, kf17⟩ := Hkf1
      have y1 : w.heap.size < w1.heap.size := zk1
      have HR1 : Hid (RS w1 R A cap L E (.run p)) := Lib.hid (RS.below (by (with_reducible repeat' (first | exact HR.out | refine zRf ?_ nk _ _ | refine zRa ?_ _ | refine zRn ?_ _ | refine zRd ?_))) b1)
      clear b1
      go_wp2_with fail
      refine (rmark_any (R := R) (A := A) (cap := cap) (L := L) (E := E) (m := 1) (st := .run p) ⟨#[58]⟩ hL (by omega) (by (with_reducible repeat' (first | exact HR1.out | refine zRf ?_ nk _ _ | refine zRa ?_ _ | refine zRn ?_ _ | refine zRd ?_))) (HT.out.but (by (with_reducible repeat' (first | exact h1 | refine zBr ?_ _ _ | refine zBs ?_ (by omega) _ _ | refine zBa ?_ _ | refine zBn ?_ _ | refine zBd ?_))))).mono ?_; rintro e w2 ⟨rfl, b2⟩
      have h2 : But R w w2 := But.trans (by (with_reducible repeat' (first | exact h1 | refine zBr ?_ _ _ | refine zBs ?_ (by omega) _ _ | refine zBa ?_ _ | refine zBn ?_ _ | refine zBd ?_))) (But.of_below b2)
      have zk2 : w.heap.size < w2.heap.size := by have := b2.size; first | omega | (simp at this; omega)
      have Hk2 := c8_lift (B := w.heap.size) (fun j v hv => (But.of_below b2).cell nk (by with_reducible repeat' (first | exact hv | refine zCs ?_ (by omega) _ _ | refine zCa ?_ _ | refine zCn ?_ _ | refine zCd ?_))) k10 k11 k12 k13 k14 k15 k16 k17
      obtain ⟨k20, k21, k22, k23, k24, k25, k26, k27⟩ := Hk2
      have Hkf2 := f8_lift (B := w.heap.size) (fun j hv => (But.of_below b2).frozen nk (by first | omega | (simp; done) | (simp; omega)) (by with_reducible repeat' (first | exact hv | refine zFs ?_ (by omega) _ _ | refine zFa ?_ (by first | omega | (simp; omega)) _ | refine zFn ?_ _ | refine zFd ?_))) kf10 kf11 kf12 kf13 kf14 kf15 kf16 kf17
      obtain ⟨kf20, kf21, kf22, kf23, kf24, kf25, kf26, kf27⟩ := Hkf2
      have y2 : w.heap.size < w2.heap.size := zk2
      have HR2 : Hid (RS w2 R A cap L E (.run p)) := Lib.hid (RS.below (by (with_reducible repeat' (first | exact HR1.out | refine zRf ?_ nk _ _ | refine zRa ?_ _ | refine zRn ?_ _ | refine zRd ?_))) b2)
      clear b2 k10 k11 k12 k13 k14 k15 k16 k17 kf10 kf11 kf12 kf13 kf14 kf15 kf16 kf17 zk1
      have e1 : endS L (.run p) = false := HE.out
      go_wp2_with fail
      refine (HP.out _ (.run p) (st1, ot1) (by (with_reducible repeat' (first | exact HR2.out | refine zRf ?_ nk _ _ | refine zRa ?_ _ | refine zRn ?_ _ | refine zRd ?_))) (HT.out.but (by (with_reducible repeat' (first | exact h2 | refine zBr ?_ _ _ | refine zBs ?_ (by omega) _ _ | refine zBa ?_ _ | refine zBn ?_ _ | refine zBd ?_)))) HG.out).mono ?_; rintro e w3 ⟨⟨a0, a1, a2, a3, a4, a5, aw, aA, al, ac⟩, rfl, v3, r3, b3⟩
      have h3 : But R w w3 := But.trans (by (with_reducible repeat' (first | exact h2 | refine zBr ?_ _ _ | refine zBs ?_ (by omega) _ _ | refine zBa ?_ _ | refine zBn ?_ _ | refine zBd ?_))) b3
      have zk3 : w.heap.size < w3.heap.size := by have := b3.size; first | omega | (simp at this; omega)
      have Hk3 := c8_lift (B := w.heap.size) (fun j v hv => b3.cell nk (by with_reducible repeat' (first | exact hv | refine zCs ?_ (by omega) _ _ | refine zCa ?_ _ | refine zCn ?_ _ | refine zCd ?_))) k20 k21 k22 k23 k24 k25 k26 k27
      obtain ⟨k30, k31, k32, k33, k34, k35, k36, k37⟩ := Hk3
      have Hkf3 := f8_lift (B := w.heap.size) (fun j hv => b3.frozen nk (by first | omega | (simp; done) | (simp; omega)) (by with_reducible repeat' (first | exact hv | refine zFs ?_ (by omega) _ _ | refine zFa ?_ (by first | omega | (simp; omega)) _ | refine zFn ?_ _ | refine zFd ?_))) kf20 kf21 kf22 kf23 kf24 kf25 kf26 kf27
      obtain ⟨kf30, kf31, kf32, kf33, kf34, kf35, kf36, kf37⟩ := Hkf3
      have y3 : w.heap.size < w3.heap.size := zk3
      have HR3 : Hid (RS w3 R A cap L E st1) := Lib.hid r3
      clear b3 r3 k20 k21 k22 k23 k24 k25 k26 k27 kf20 kf21 kf22 kf23 kf24 kf25 kf26 kf27 zk2
      have HV3 : Hid (TV w3 (fun b => w.heap.size < b) ⟨a0, a1, a2, a3, a4, a5, aw, aA, al, ac⟩ ot1) := Lib.hid (v3.imp fun b hb => by have hb2 : _ ≤ b := hb; first | omega | (simp at hb2; omega))
      clear v3
      dsimp only [V8.val]
      go_wp2_with fail
      exact bodyPost_ret (v := .agg #[.int .i64 a0, .int .i64 a1, .int .i64 a2, .int .i64 a3, .int .i64 a4, .int .i64 a5, .string aw, .slice aA al ac]) (by simp [results, Tryd.results90, go_sem, k30, k31, k32, k33, k34, k35, k36, k37]) rfl ⟨⟨a0, a1, a2, a3, a4, a5, aw, aA, al, ac⟩, rfl, ((HV3.out.kept (by (with_reducible repeat' (first | exact Kept.refl _ _ | refine Kept.set1 ?_ (by omega) _ _ | refine Kept.set2 ?_ (by omega) _ _ | refine Kept.set2o ?_ _ _ | refine Kept.setNew ?_ (by omega) _ _ | refine Kept.alloc ?_ _ | refine Kept.drewN ?_ _ | refine Kept.drew ?_)))).imp fun b (hb : w.heap.size < b) => Nat.le_of_lt hb), by (with_reducible repeat' (first | exact HR3.out | refine zRf ?_ nk _ _ | refine zRa ?_ _ | refine zRn ?_ _ | refine zRd ?_)), by (with_reducible repeat' (first | exact h3 | refine zBr ?_ _ _ | refine zBs ?_ (by omega) _ _ | refine zBa ?_ _ | refine zBn ?_ _ | refine zBd ?_))⟩
    | true =>
      have HE := Lib.hid he
      clear he
      have HC := Lib.hid hc
      clear hc
      go_enter Tryd.func90, Tryd.ntmps90
      go_wp2_with fail
      refine (rend_any (R := R) (A := A) (cap := cap) (L := L) (E := E) (st := .run p) hL (by (with_reducible repeat' (first | exact HR.out | refine zRf ?_ nk _ _ | refine zRa ?_ _ | refine zRn ?_ _ | refine zRd ?_))) (HT.out.but (by (with_reducible repeat' (first | exact But.refl _ _ | refine zBr ?_ _ _ | refine zBs ?_ (by omega) _ _ | refine zBa ?_ _ | refine zBn ?_ _ | refine zBd ?_))))).mono ?_; rintro e w1 ⟨rfl, b1⟩
      have h1 : But R w w1 := But.trans (by (with_reducible repeat' (first | exact But.refl _ _ | refine zBr ?_ _ _ | refine zBs ?_ (by omega) _ _ | refine zBa ?_ _ | refine zBn ?_ _ | refine zBd ?_))) (But.of_below b1)
      have zk1 : w.heap.size < w1.heap.size := by have := b1.size; first | omega | (simp at this; omega)
      have Hk1 : C8 w1 (w.heap.size) (.int .i64 0) (.int .i64 0) (.int .i64 0) (.int .i64 0) (.int .i64 0) (.int .i64 0) (.string ⟨#[]⟩) (.slice none 0 0) := by refine ⟨?_, ?_, ?_, ?_, ?_, ?_, ?_, ?_⟩ <;> exact (But.of_below b1).cell nk (by simp [go_sem])
      obtain ⟨k10, k11, k12, k13, k14, k15, k16, k17⟩ := Hk1
      have Hkf1 : F8 w1 (w.heap.size) := by refine ⟨?_, ?_, ?_, ?_, ?_, ?_, ?_, ?_⟩ <;> exact (But.of_below b1).frozen nk (by first | omega | (simp; done) | (simp; omega)) (by simp [go_sem])
      obtain ⟨kf10, kf11, kf12, kf13, kf14, kf15, kf16, kf17⟩ := Hkf1
      have y1 : w.heap.size < w1.heap.size := zk1
      have HR1 : Hid (RS w1 R A cap L E (.run p)) := Lib.hid (RS.below (by (with_reducible repeat' (first | exact HR.out | refine zRf ?_ nk _ _ | refine zRa ?_ _ | refine zRn ?_ _ | refine zRd ?_))) b1)
      clear b1
      go_wp2_with fail
      refine (rmark_any (R := R) (A := A) (cap := cap) (L := L) (E := E) (m := 1) (st := .run p) ⟨#[58]⟩ hL (by omega) (by (with_reducible repeat' (first | exact HR1.out | refine zRf ?_ nk _ _ | refine zRa ?_ _ | refine zRn ?_ _ | refine zRd ?_))) (HT.out.but (by (with_reducible repeat' (first | exact h1 | refine zBr ?_ _ _ | refine zBs ?_ (by omega) _ _ | refine zBa ?_ _ | refine zBn ?_ _ | refine zBd ?_))))).mono ?_; rintro e w2 ⟨rfl, b2⟩
      have h2 : But R w w2 := But.trans (by (with_reducible repeat' (first | exact h1 | refine zBr ?_ _ _ | refine zBs ?_ (by omega) _ _ | refine zBa ?_ _ | refine zBn ?_ _ | refine zBd ?_))) (But.of_below b2)
      have zk2 : w.heap.size < w2.heap.size := by have := b2.size; first | omega | (simp at this; omega)
      have Hk2 := c8_lift (B := w.heap.size) (fun j v hv => (But.of_below b2).cell nk (by with_reducible repeat' (first | exact hv | refine zCs ?_ (by omega) _ _ | refine zCa ?_ _ | refine zCn ?_ _ | refine zCd ?_))) k10 k11 k12 k13 k14 k15 k16 k17
      obtain ⟨k20, k21, k22, k23, k24, k25, k26, k27⟩ := Hk2
      have Hkf2 := f8_lift (B := w.heap.size) (fun j hv => (But.of_below b2).frozen nk (by first | omega | (simp; done) | (simp; omega)) (by with_reducible repeat' (first | exact hv | refine zFs ?_ (by omega) _ _ | refine zFa ?_ (by first | omega | (simp; omega)) _ | refine zFn ?_ _ | refine zFd ?_))) kf10 kf11 kf12 kf13 kf14 kf15 kf16 kf17
      obtain ⟨kf20, kf21, kf22, kf23, kf24, kf25, kf26, kf27⟩ := Hkf2
      have y2 : w.heap.size < w2.heap.size := zk2
      have HR2 : Hid (RS w2 R A cap L E (.run p)) := Lib.hid (RS.below (by (with_reducible repeat' (first | exact HR1.out | refine zRf ?_ nk _ _ | refine zRa ?_ _ | refine zRn ?_ _ | refine zRd ?_))) b2)
      clear b2 k10 k11 k12 k13 k14 k15 k16 k17 kf10 kf11 kf12 kf13 kf14 kf15 kf16 kf17 zk1
      have e0 : endS L (.run p) = true := HE.out
      have e1 : markR L 1 [58] (.run p) = false := HC.out
      go_wp2_with fail
      refine (HP.out _ (.run p) (st1, ot1) (by (with_reducible repeat' (first | exact HR2.out | refine zRf ?_ nk _ _ | refine zRa ?_ _ | refine zRn ?_ _ | refine zRd ?_))) (HT.out.but (by (with_reducible repeat' (first | exact h2 | refine zBr ?_ _ _ | refine zBs ?_ (by omega) _ _ | refine zBa ?_ _ | refine zBn ?_ _ | refine zBd ?_)))) HG.out).mono ?_; rintro e w3 ⟨⟨a0, a1, a2, a3, a4, a5, aw, aA, al, ac⟩, rfl, v3, r3, b3⟩
      have h3 : But R w w3 := But.trans (by (with_reducible repeat' (first | exact h2 | refine zBr ?_ _ _ | refine zBs ?_ (by omega) _ _ | refine zBa ?_ _ | refine zBn ?_ _ | refine zBd ?_))) b3
      have zk3 : w.heap.size < w3.heap.size := by have := b3.size; first | omega | (simp at this; omega)
      have Hk3 := c8_lift (B := w.heap.size) (fun j v hv => b3.cell nk (by with_reducible repeat' (first | exact hv | refine zCs ?_ (by omega) _ _ | refine zCa ?_ _ | refine zCn ?_ _ | refine zCd ?_))) k20 k21 k22 k23 k24 k25 k26 k27
      obtain ⟨k30, k31, k32, k33, k34, k35, k36, k37⟩ := Hk3
      have Hkf3 := f8_lift (B := w.heap.size) (fun j hv => b3.frozen nk (by first | omega | (simp; done) | (simp; omega)) (by with_reducible repeat' (first | exact hv | refine zFs ?_ (by omega) _ _ | refine zFa ?_ (by first | omega | (simp; omega)) _ | refine zFn ?_ _ | refine zFd ?_))) kf20 kf21 kf22 kf23 kf24 kf25 kf26 kf27
      obtain ⟨kf30, kf31, kf32, kf33, kf34, kf35, kf36, kf37⟩ := Hkf3
      have y3 : w.heap.size < w3.heap.size := zk3
      have HR3 : Hid (RS w3 R A cap L E st1) := Lib.hid r3
      clear b3 r3 k20 k21 k22 k23 k24 k25 k26 k27 kf20 kf21 kf22 kf23 kf24 kf25 kf26 kf27 zk2
      have HV3 : Hid (TV w3 (fun b => w.heap.size < b) ⟨a0, a1, a2, a3, a4, a5, aw, aA, al, ac⟩ ot1) := Lib.hid (v3.imp fun b hb => by have hb2 : _ ≤ b := hb; first | omega | (simp at hb2; omega))
      clear v3
      dsimp only [V8.val]
      go_wp2_with fail
      exact bodyPost_ret (v := .agg #[.int .i64 a0, .int .i64 a1, .int .i64 a2, .int .i64 a3, .int .i64 a4, .int .i64 a5, .string aw, .slice aA al ac]) (by simp [results, Tryd.results90, go_sem, k30, k31, k32, k33, k34, k35, k36, k37]) rfl ⟨⟨a0, a1, a2, a3, a4, a5, aw, aA, al, ac⟩, rfl, ((HV3.out.kept (by (with_reducible repeat' (first | exact Kept.refl _ _ | refine Kept.set1 ?_ (by omega) _ _ | refine Kept.set2 ?_ (by omega) _ _ | refine Kept.set2o ?_ _ _ | refine Kept.setNew ?_ (by omega) _ _ | refine Kept.alloc ?_ _ | refine Kept.drewN ?_ _ | refine Kept.drew ?_)))).imp fun b (hb : w.heap.size < b) => Nat.le_of_lt hb), by (with_reducible repeat' (first | exact HR3.out | refine zRf ?_ nk _ _ | refine zRa ?_ _ | refine zRn ?_ _ | refine zRd ?_)), by (with_reducible repeat' (first | exact h3 | refine zBr ?_ _ _ | refine zBs ?_ (by omega) _ _ | refine zBa ?_ _ | refine zBn ?_ _ | refine zBd ?_))⟩
end Go.Proofs.YthaoalmhhgllmaaDoor
namespace Go.Proofs.YthaoalmhhgllmaaDoor
open Go.RowKit
def spB (a b c d : Int) : Bool := rightB a b && rightB c d
def spN (x : Bool) (n : Int) : Int := if x = true then n else 0
set_option maxHeartbeats 1000000 in
theorem rspan_any (a b c d : Int) (w : World) :
    Calls Tryd.prog 100 #[.agg #[.int .i64 a, .int .i64 b], .agg #[.int .i64 c, .int .i64 d]] w fun e w' => e = .returned (.tuple #[.agg #[.int .i64 (spN (spB a b c d) (min a c)), .int .i64 (spN (spB a b c d) (min b d)), .int .i64 (spN (spB a b c d) (max a c)), .int .i64 (spN (spB a b c d) (max b d))], .bool (spB a b c d)]) ∧ Below w.heap.size w w' := by
  have HP := Lib.hid (rright_any a b)
  have HQ := Lib.hid (rright_any c d)
  cases hp : rightB a b <;> cases hq : rightB c d
  all_goals
    rw [hp] at HP
    rw [hq] at HQ
    have e0 : spB a b c d = (rightB a b && rightB c d) := rfl
    rw [hp, hq] at e0
    simp only [Bool.and_self, Bool.and_true, Bool.and_false] at e0
    rw [e0]
    clear hp hq e0
    go_enter Tryd.func100, Tryd.ntmps100
    go_wp2_with fail
    refine (HP.out _).mono ?_; rintro e w1 ⟨rfl, b1⟩
    have k0 := keep_cell b1 (p := ⟨w.heap.size + 1 + 1, 0, none⟩) (v := .int .i64 0) (by simp [go_sem])
    have k1 := keep_cell b1 (p := ⟨w.heap.size + 1 + 1, 1, none⟩) (v := .int .i64 0) (by simp [go_sem])
    have k2 := keep_cell b1 (p := ⟨w.heap.size + 1 + 1, 2, none⟩) (v := .int .i64 0) (by simp [go_sem])
    have k3 := keep_cell b1 (p := ⟨w.heap.size + 1 + 1, 3, none⟩) (v := .int .i64 0) (by simp [go_sem])
    have k4 := keep_cell b1 (p := ⟨w.heap.size, 0, none⟩) (v := .int .i64 a) (by simp [go_sem])
    have k5 := keep_cell b1 (p := ⟨w.heap.size, 1, none⟩) (v := .int .i64 b) (by simp [go_sem])
    have k6 := keep_cell b1 (p := ⟨w.heap.size + 1, 0, none⟩) (v := .int .i64 c) (by simp [go_sem])
    have k7 := keep_cell b1 (p := ⟨w.heap.size + 1, 1, none⟩) (v := .int .i64 d) (by simp [go_sem])
    have f0 := keep_frozen b1 (p := ⟨w.heap.size + 1 + 1, 0, none⟩) (by simp) (by simp [go_sem])
    have f1 := keep_frozen b1 (p := ⟨w.heap.size + 1 + 1, 1, none⟩) (by simp) (by simp [go_sem])
    have f2 := keep_frozen b1 (p := ⟨w.heap.size + 1 + 1, 2, none⟩) (by simp) (by simp [go_sem])
    have f3 := keep_frozen b1 (p := ⟨w.heap.size + 1 + 1, 3, none⟩) (by simp) (by simp [go_sem])
    have z1 : w.heap.size + 1 + 1 < w1.heap.size := by have := b1.size; simp at this; omega
    have h1 : Below w.heap.size w w1 := ((((Below.refl _ _).alloc (Nat.le_refl _) _).alloc (by simp) _).alloc (by simp; omega) _).trans (b1.mono (by simp; omega))
    clear b1
    go_wp2_with fail
    refine (HQ.out _).mono ?_; rintro e w2 ⟨rfl, b2⟩
    have m0 := keep_cell b2 k0
    have m1 := keep_cell b2 k1
    have m2 := keep_cell b2 k2
    have m3 := keep_cell b2 k3
    have m4 := keep_cell b2 k4
    have m5 := keep_cell b2 k5
    have m6 := keep_cell b2 k6
    have m7 := keep_cell b2 k7
    have g0 := keep_frozen b2 z1 f0
    have g1 := keep_frozen b2 z1 f1
    have g2 := keep_frozen b2 z1 f2
    have g3 := keep_frozen b2 z1 f3
    have h2 := h1.trans (b2.mono h1.size)
    clear k0 k1 k2 k3 k4 k5 k6 k7 f0 f1 f2 f3 b2
    go_wp2_with fail
    all_goals first
      | exact bodyPost_ret (v := .tuple #[.agg #[.int .i64 0, .int .i64 0, .int .i64 0, .int .i64 0], .bool false]) (by simp [results, Tryd.results100, go_sem, m0, m1, m2, m3]) rfl
          ⟨rfl, (((h2.setCell (by simp; omega) _).setCell (by simp; omega) _).setCell (by simp; omega) _).setCell (by simp; omega) _⟩
      | exact bodyPost_ret (v := .tuple #[.agg #[.int .i64 (min a c), .int .i64 (min b d), .int .i64 (max a c), .int .i64 (max b d)], .bool true]) (by simp [results, Tryd.results100, go_sem, m0, m1, m2, m3] <;> omega) rfl
          ⟨rfl, (((h2.setCell (by simp; omega) _).setCell (by simp; omega) _).setCell (by simp; omega) _).setCell (by simp; omega) _⟩
end Go.Proofs.YthaoalmhhgllmaaDoor
