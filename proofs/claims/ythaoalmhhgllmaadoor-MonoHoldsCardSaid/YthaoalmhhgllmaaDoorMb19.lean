/- Texts joined: TrO. -/
import Derived.Test.YthaoalmhhgllmaaDoorMb18
set_option linter.all false
namespace Go.Proofs.YthaoalmhhgllmaaDoor
open Go.RowKit
theorem TV.or {w : World} {P : Nat → Prop} {x : V8} {ot ou : Option Tr} (h : TV w P x ot) (e : ou = ot ∨ ou = none) : TV w P x ou := by
  rcases e with rfl | rfl
  · exact h
  · trivial
theorem brk_got {L : List Tok} {E : Nat} {a : Option Res} {g : Got} (h : toS (Res.next a fun t q => mustF L E q [41] fun q => some (.ok t q)) = some g) :
    ∃ g1, toS a = some g1 ∧ g.1 = mustS L E [41] g1.1 ∧ (g.2 = g1.2 ∨ g.2 = none) := by
  rcases toS_next h with ⟨t, q, e, e2⟩ | ⟨x, e, rfl⟩
  · refine ⟨_, e, ?_⟩
    rcases toS_must e2 with ⟨q2, m, e3⟩ | ⟨x, m, rfl⟩
    · obtain rfl : (.run q2, some t) = g := Option.some.inj e3
      exact ⟨m.symm, .inl rfl⟩
    · exact ⟨m.symm, .inr rfl⟩
  · exact ⟨_, e, rfl, .inr rfl⟩
set_option maxHeartbeats 2000000 in
set_option maxRecDepth 10000 in
theorem roper_brk (R : Nat) (A : Option Addr) (cap : Nat) (L : List Tok) (E : Nat) (hL : L.length ≤ 1000) (w : World) (p : Nat) (hr : RS w R A cap L E (.run p)) (hk : TK w R A L) {k : Nat} (hP : TreeC R A cap L E 30 #[.pointer (some ⟨R, 0, none⟩), .int .i64 1] (lineF L E k 1)) (g : Got) (hm : isMark L p [40] = true) (hg : toS (Res.next (lineF L E k 1 (p + 1)) fun t q => mustF L E q [41] fun q => some (.ok t q)) = some g) : Calls Tryd.prog 75 #[.pointer (some ⟨R, 0, none⟩)] w fun e w' => ∃ x : V8, e = .returned x.val ∧ TV w' (fun b => w.heap.size ≤ b) x (g.2) ∧ RS w' R A cap L E (g.1) ∧ But R w w' := by
  obtain ⟨g1, hg1, ge1, ge2⟩ := brk_got hg
  obtain ⟨st1, ot1⟩ := g1
  have HP := Lib.hid hP
  have HG := Lib.hid hg1
  have HGE := Lib.hid (And.intro ge1 ge2)
  have hp := mark_lt hm
  have HM := Lib.hid hm
  clear hP hg hg1 ge1 ge2 hm
  have HR := Lib.hid hr
  have HT := Lib.hid hk
  have hlt : R < w.heap.size := hr.lt
  have nk : w.heap.size ≠ R := by omega
  clear hr hk
  go_enter Tryd.func75, Tryd.ntmps75
  go_wp2_with fail
  refine (rmark_any (R := R) (A := A) (cap := cap) (L := L) (E := E) (m := 0) (st := .run p) ⟨#[40]⟩ hL (by omega) (by (with_reducible repeat' (first | exact HR.out | refine zRf ?_ nk _ _ | refine zRa ?_ _ | refine zRn ?_ _ | refine zRd ?_))) (HT.out.but (by (with_reducible repeat' (first | exact But.refl _ _ | refine zBr ?_ _ _ | refine zBs ?_ (by omega) _ _ | refine zBa ?_ _ | refine zBn ?_ _ | refine zBd ?_))))).mono ?_; rintro e w1 ⟨rfl, b1⟩
  have h1 : But R w w1 := But.trans (by (with_reducible repeat' (first | exact But.refl _ _ | refine zBr ?_ _ _ | refine zBs ?_ (by omega) _ _ | refine zBa ?_ _ | refine zBn ?_ _ | refine zBd ?_))) (But.of_below b1)
  have zk1 : w.heap.size < w1.heap.size := by have := b1.size; first | omega | (simp at this; omega)
  have Hk1 : C8 w1 (w.heap.size) (.int .i64 0) (.int .i64 0) (.int .i64 0) (.int .i64 0) (.int .i64 0) (.int .i64 0) (.string ⟨#[]⟩) (.slice none 0 0) := by refine ⟨?_, ?_, ?_, ?_, ?_, ?_, ?_, ?_⟩ <;> exact (But.of_below b1).cell nk (by simp [go_sem])
  obtain ⟨k10, k11, k12, k13, k14, k15, k16, k17⟩ := Hk1
  have Hkf1 : F8 w1 (w.heap.size) := by refine ⟨?_, ?_, ?_, ?_, ?_, ?_, ?_, ?_⟩ <;> exact (But.of_below b1).frozen nk (by first | omega | (simp; done) | (simp; omega)) (by simp [go_sem])
  obtain ⟨kf10, kf11, kf12, kf13, kf14, kf15, kf16, kf17⟩ := Hkf1
  have y1 : w.heap.size < w1.heap.size := zk1
  have HR1 : Hid (RS w1 R A cap L E (.run p)) := Lib.hid (RS.below (by (with_reducible repeat' (first | exact HR.out | refine zRf ?_ nk _ _ | refine zRa ?_ _ | refine zRn ?_ _ | refine zRd ?_))) b1)
  clear b1
  have e1 : markR L 0 [40] (.run p) = true := HM.out
  obtain ⟨_, _, hc⟩ := HR1.out
  have c1 := hc.c1
  have cf1 := hc.f1
  clear hc
  have HS1 : Hid (RS (w1.setCell ⟨R, 1, none⟩ (.int .i64 ((p : Int) + 1))) R A cap L E (.run (p + 1))) := Lib.hid (HR1.out.step hp (by omega))
  go_wp2_with fail
  refine (HP.out _ (.run (p + 1)) (st1, ot1) (by (with_reducible repeat' (first | exact HS1.out | refine zRf ?_ nk _ _ | refine zRa ?_ _ | refine zRn ?_ _ | refine zRd ?_))) (HT.out.but (by (with_reducible repeat' (first | exact h1 | refine zBr ?_ _ _ | refine zBs ?_ (by omega) _ _ | refine zBa ?_ _ | refine zBn ?_ _ | refine zBd ?_)))) HG.out).mono ?_; rintro e w2 ⟨⟨a0, a1, a2, a3, a4, a5, aw, aA, al, ac⟩, rfl, v2, r2, b2⟩
  have h2 : But R w w2 := But.trans (by (with_reducible repeat' (first | exact h1 | refine zBr ?_ _ _ | refine zBs ?_ (by omega) _ _ | refine zBa ?_ _ | refine zBn ?_ _ | refine zBd ?_))) b2
  have zk2 : w.heap.size < w2.heap.size := by have := b2.size; first | omega | (simp at this; omega)
  have Hk2 := c8_lift (B := w.heap.size) (fun j v hv => b2.cell nk (by with_reducible repeat' (first | exact hv | refine zCs ?_ (by omega) _ _ | refine zCa ?_ _ | refine zCn ?_ _ | refine zCd ?_))) k10 k11 k12 k13 k14 k15 k16 k17
  obtain ⟨k20, k21, k22, k23, k24, k25, k26, k27⟩ := Hk2
  have Hkf2 := f8_lift (B := w.heap.size) (fun j hv => b2.frozen nk (by first | omega | (simp; done) | (simp; omega)) (by with_reducible repeat' (first | exact hv | refine zFs ?_ (by omega) _ _ | refine zFa ?_ (by first | omega | (simp; omega)) _ | refine zFn ?_ _ | refine zFd ?_))) kf10 kf11 kf12 kf13 kf14 kf15 kf16 kf17
  obtain ⟨kf20, kf21, kf22, kf23, kf24, kf25, kf26, kf27⟩ := Hkf2
  have y2 : w.heap.size < w2.heap.size := zk2
  have HR2 : Hid (RS w2 R A cap L E st1) := Lib.hid r2
  clear b2 r2 k10 k11 k12 k13 k14 k15 k16 k17 kf10 kf11 kf12 kf13 kf14 kf15 kf16 kf17 zk1
  clear c1 cf1
  have HV2 : Hid (TV w2 (fun b => w.heap.size < b) ⟨a0, a1, a2, a3, a4, a5, aw, aA, al, ac⟩ ot1) := Lib.hid (v2.imp fun b hb => by have hb2 : _ ≤ b := hb; first | omega | (simp at hb2; omega))
  clear v2
  dsimp only [V8.val]
  go_wp2_with fail
  have no : w2.heap.size ≠ R := by omega
  refine (rmust_any (R := R) (A := A) (cap := cap) (L := L) (E := E) (st := st1) ⟨#[41]⟩ hL (by (with_reducible repeat' (first | exact HR2.out | refine zRf ?_ nk _ _ | refine zRf ?_ no _ _ | refine zRa ?_ _ | refine zRn ?_ _ | refine zRd ?_))) (HT.out.but (by (with_reducible repeat' (first | exact h2 | refine zBr ?_ _ _ | refine zBs ?_ (by omega) _ _ | refine zBa ?_ _ | refine zBn ?_ _ | refine zBd ?_))))).mono ?_; rintro e w3 ⟨rfl, r3, b3⟩
  have h3 : But R w w3 := But.trans (by (with_reducible repeat' (first | exact h2 | refine zBr ?_ _ _ | refine zBs ?_ (by omega) _ _ | refine zBa ?_ _ | refine zBn ?_ _ | refine zBd ?_))) b3
  have zk3 : w.heap.size < w3.heap.size := by have := b3.size; first | omega | (simp at this; omega)
  have Hk3 := c8_lift (B := w.heap.size) (fun j v hv => b3.cell nk (by with_reducible repeat' (first | exact hv | refine zCs ?_ (by omega) _ _ | refine zCa ?_ _ | refine zCn ?_ _ | refine zCd ?_))) k20 k21 k22 k23 k24 k25 k26 k27
  obtain ⟨k30, k31, k32, k33, k34, k35, k36, k37⟩ := Hk3
  have Hkf3 := f8_lift (B := w.heap.size) (fun j hv => b3.frozen nk (by first | omega | (simp; done) | (simp; omega)) (by with_reducible repeat' (first | exact hv | refine zFs ?_ (by omega) _ _ | refine zFa ?_ (by first | omega | (simp; omega)) _ | refine zFn ?_ _ | refine zFd ?_))) kf20 kf21 kf22 kf23 kf24 kf25 kf26 kf27
  obtain ⟨kf30, kf31, kf32, kf33, kf34, kf35, kf36, kf37⟩ := Hkf3
  have zo3 : w2.heap.size < w3.heap.size := by have := b3.size; first | omega | (simp at this; omega)
  have Ho3 : C8 w3 (w2.heap.size) (.int .i64 a0) (.int .i64 a1) (.int .i64 a2) (.int .i64 a3) (.int .i64 a4) (.int .i64 a5) (.string aw) (.slice aA al ac) := by refine ⟨?_, ?_, ?_, ?_, ?_, ?_, ?_, ?_⟩ <;> exact b3.cell no (by simp [go_sem])
  obtain ⟨o30, o31, o32, o33, o34, o35, o36, o37⟩ := Ho3
  have y3 : w.heap.size < w3.heap.size := zk3
  have HR3 : Hid (RS w3 R A cap L E (mustS L E [41] st1)) := Lib.hid r3
  have HV3 : Hid (TV w3 (fun b => w.heap.size < b) ⟨a0, a1, a2, a3, a4, a5, aw, aA, al, ac⟩ ot1) := Lib.hid (HV2.out.kept (Kept.but (by (with_reducible repeat' (first | exact Kept.refl _ _ | refine Kept.set1 ?_ (by omega) _ _ | refine Kept.set2 ?_ (by omega) _ _ | refine Kept.set2o ?_ _ _ | refine Kept.setNew ?_ (by omega) _ _ | refine Kept.alloc ?_ _ | refine Kept.drewN ?_ _ | refine Kept.drew ?_))) b3 fun h => by have := h; omega))
  clear b3 r3 k20 k21 k22 k23 k24 k25 k26 k27 kf20 kf21 kf22 kf23 kf24 kf25 kf26 kf27 zk2
  go_wp2_with fail
  have HRg : Hid (RS w3 R A cap L E g.1) := Lib.hid (by rw [HGE.out.1]; exact HR3.out)
  exact bodyPost_ret (v := .agg #[.int .i64 a0, .int .i64 a1, .int .i64 a2, .int .i64 a3, .int .i64 a4, .int .i64 a5, .string aw, .slice aA al ac]) (by simp [results, Tryd.results75, go_sem, k30, k31, k32, k33, k34, k35, k36, k37]) rfl ⟨⟨a0, a1, a2, a3, a4, a5, aw, aA, al, ac⟩, rfl, (((HV3.out.or HGE.out.2).kept (by (with_reducible repeat' (first | exact Kept.refl _ _ | refine Kept.set1 ?_ (by omega) _ _ | refine Kept.set2 ?_ (by omega) _ _ | refine Kept.set2o ?_ _ _ | refine Kept.setNew ?_ (by omega) _ _ | refine Kept.alloc ?_ _ | refine Kept.drewN ?_ _ | refine Kept.drew ?_)))).imp fun b (hb : w.heap.size < b) => Nat.le_of_lt hb), by (with_reducible repeat' (first | exact HRg.out | refine zRf ?_ nk _ _ | refine zRf ?_ no _ _ | refine zRa ?_ _ | refine zRn ?_ _ | refine zRd ?_)), by (with_reducible repeat' (first | exact h3 | refine zBr ?_ _ _ | refine zBs ?_ (by omega) _ _ | refine zBa ?_ _ | refine zBn ?_ _ | refine zBd ?_))⟩
set_option maxHeartbeats 2000000 in
set_option maxRecDepth 10000 in
theorem roper_off (R : Nat) (A : Option Addr) (cap : Nat) (L : List Tok) (E : Nat) (hL : L.length ≤ 1000) (w : World) (p : Nat) (hr : RS w R A cap L E (.run p)) (hk : TK w R A L) (hm : isMark L p [40] = false) (ho : ¬ p < L.length) : Calls Tryd.prog 75 #[.pointer (some ⟨R, 0, none⟩)] w fun e w' => ∃ x : V8, e = .returned x.val ∧ TV w' (fun b => w.heap.size ≤ b) x (none) ∧ RS w' R A cap L E (.out (whr L E p)) ∧ But R w w' := by
  have HR := Lib.hid hr
  have HT := Lib.hid hk
  have hlt : R < w.heap.size := hr.lt
  have nk : w.heap.size ≠ R := by omega
  clear hr hk
  have HM := Lib.hid hm
  have ho' := ho
  clear hm ho
  go_enter Tryd.func75, Tryd.ntmps75
  go_wp2_with fail
  refine (rmark_any (R := R) (A := A) (cap := cap) (L := L) (E := E) (m := 0) (st := .run p) ⟨#[40]⟩ hL (by omega) (by (with_reducible repeat' (first | exact HR.out | refine zRf ?_ nk _ _ | refine zRa ?_ _ | refine zRn ?_ _ | refine zRd ?_))) (HT.out.but (by (with_reducible repeat' (first | exact But.refl _ _ | refine zBr ?_ _ _ | refine zBs ?_ (by omega) _ _ | refine zBa ?_ _ | refine zBn ?_ _ | refine zBd ?_))))).mono ?_; rintro e w1 ⟨rfl, b1⟩
  have h1 : But R w w1 := But.trans (by (with_reducible repeat' (first | exact But.refl _ _ | refine zBr ?_ _ _ | refine zBs ?_ (by omega) _ _ | refine zBa ?_ _ | refine zBn ?_ _ | refine zBd ?_))) (But.of_below b1)
  have zk1 : w.heap.size < w1.heap.size := by have := b1.size; first | omega | (simp at this; omega)
  have Hk1 : C8 w1 (w.heap.size) (.int .i64 0) (.int .i64 0) (.int .i64 0) (.int .i64 0) (.int .i64 0) (.int .i64 0) (.string ⟨#[]⟩) (.slice none 0 0) := by refine ⟨?_, ?_, ?_, ?_, ?_, ?_, ?_, ?_⟩ <;> exact (But.of_below b1).cell nk (by simp [go_sem])
  obtain ⟨k10, k11, k12, k13, k14, k15, k16, k17⟩ := Hk1
  have Hkf1 : F8 w1 (w.heap.size) := by refine ⟨?_, ?_, ?_, ?_, ?_, ?_, ?_, ?_⟩ <;> exact (But.of_below b1).frozen nk (by first | omega | (simp; done) | (simp; omega)) (by simp [go_sem])
  obtain ⟨kf10, kf11, kf12, kf13, kf14, kf15, kf16, kf17⟩ := Hkf1
  have y1 : w.heap.size < w1.heap.size := zk1
  have HR1 : Hid (RS w1 R A cap L E (.run p)) := Lib.hid (RS.below (by (with_reducible repeat' (first | exact HR.out | refine zRf ?_ nk _ _ | refine zRa ?_ _ | refine zRn ?_ _ | refine zRd ?_))) b1)
  clear b1
  have e1 : markR L 0 [40] (.run p) = false := HM.out
  obtain ⟨_, _, hc⟩ := HR1.out
  have c0 := hc.c0
  have c1 := hc.c1
  have c3 := hc.c3
  have cf1 := hc.f1
  clear hc
  have d1 : decide (L.length ≤ p) = true := decide_eq_true (by omega)
  go_wp2_with fail
  go_quiet (fail)
  go_wp2_with fail
  clear c0 c1 c3 cf1
  refine (rfail_any (R := R) (A := A) (cap := cap) (L := L) (E := E) (st := .run p) hL (by (with_reducible repeat' (first | exact HR1.out | refine zRf ?_ nk _ _ | refine zRa ?_ _ | refine zRn ?_ _ | refine zRd ?_))) (HT.out.but (by (with_reducible repeat' (first | exact h1 | refine zBr ?_ _ _ | refine zBs ?_ (by omega) _ _ | refine zBa ?_ _ | refine zBn ?_ _ | refine zBd ?_))))).mono ?_; rintro e w2 ⟨rfl, r2, b2⟩
  have h2 : But R w w2 := But.trans (by (with_reducible repeat' (first | exact h1 | refine zBr ?_ _ _ | refine zBs ?_ (by omega) _ _ | refine zBa ?_ _ | refine zBn ?_ _ | refine zBd ?_))) b2
  have zk2 : w.heap.size < w2.heap.size := by have := b2.size; first | omega | (simp at this; omega)
  have Hk2 := c8_lift (B := w.heap.size) (fun j v hv => b2.cell nk (by with_reducible repeat' (first | exact hv | refine zCs ?_ (by omega) _ _ | refine zCa ?_ _ | refine zCn ?_ _ | refine zCd ?_))) k10 k11 k12 k13 k14 k15 k16 k17
  obtain ⟨k20, k21, k22, k23, k24, k25, k26, k27⟩ := Hk2
  have Hkf2 := f8_lift (B := w.heap.size) (fun j hv => b2.frozen nk (by first | omega | (simp; done) | (simp; omega)) (by with_reducible repeat' (first | exact hv | refine zFs ?_ (by omega) _ _ | refine zFa ?_ (by first | omega | (simp; omega)) _ | refine zFn ?_ _ | refine zFd ?_))) kf10 kf11 kf12 kf13 kf14 kf15 kf16 kf17
  obtain ⟨kf20, kf21, kf22, kf23, kf24, kf25, kf26, kf27⟩ := Hkf2
  have y2 : w.heap.size < w2.heap.size := zk2
  have HR2 : Hid (RS w2 R A cap L E (.out (whr L E p))) := Lib.hid r2
  clear b2 r2 k10 k11 k12 k13 k14 k15 k16 k17 kf10 kf11 kf12 kf13 kf14 kf15 kf16 kf17 zk1
  go_wp2_with fail
  exact bodyPost_ret (v := .agg #[.int .i64 0, .int .i64 0, .int .i64 0, .int .i64 0, .int .i64 0, .int .i64 0, .string ⟨#[]⟩, .slice none 0 0]) (by simp [results, Tryd.results75, go_sem, k20, k21, k22, k23, k24, k25, k26, k27]) rfl ⟨⟨0, 0, 0, 0, 0, 0, ⟨#[]⟩, none, 0, 0⟩, rfl, trivial, by (with_reducible repeat' (first | exact HR2.out | refine zRf ?_ nk _ _ | refine zRa ?_ _ | refine zRn ?_ _ | refine zRd ?_)), by (with_reducible repeat' (first | exact h2 | refine zBr ?_ _ _ | refine zBs ?_ (by omega) _ _ | refine zBa ?_ _ | refine zBn ?_ _ | refine zBd ?_))⟩
set_option maxHeartbeats 2000000 in
set_option maxRecDepth 10000 in
theorem roper_five (R : Nat) (A : Option Addr) (cap : Nat) (L : List Tok) (E : Nat) (hL : L.length ≤ 1000) (w : World) (p : Nat) (hr : RS w R A cap L E (.run p)) (hk : TK w R A L) (hm : isMark L p [40] = false) (t : Tok) (ht : L[p]? = some t) (k5 : (t.kind == 5) = true) : Calls Tryd.prog 75 #[.pointer (some ⟨R, 0, none⟩)] w fun e w' => ∃ x : V8, e = .returned x.val ∧ TV w' (fun b => w.heap.size ≤ b) x (none) ∧ RS w' R A cap L E (.out (whr L E p)) ∧ But R w w' := by
  have HR := Lib.hid hr
  have HT := Lib.hid hk
  have hlt : R < w.heap.size := hr.lt
  have nk : w.heap.size ≠ R := by omega
  clear hr hk
  have HM := Lib.hid hm
  have HX := Lib.hid ht
  have hp : p < L.length := (List.getElem?_eq_some_iff.1 ht).1
  clear hm ht
  go_enter Tryd.func75, Tryd.ntmps75
  go_wp2_with fail
  refine (rmark_any (R := R) (A := A) (cap := cap) (L := L) (E := E) (m := 0) (st := .run p) ⟨#[40]⟩ hL (by omega) (by (with_reducible repeat' (first | exact HR.out | refine zRf ?_ nk _ _ | refine zRa ?_ _ | refine zRn ?_ _ | refine zRd ?_))) (HT.out.but (by (with_reducible repeat' (first | exact But.refl _ _ | refine zBr ?_ _ _ | refine zBs ?_ (by omega) _ _ | refine zBa ?_ _ | refine zBn ?_ _ | refine zBd ?_))))).mono ?_; rintro e w1 ⟨rfl, b1⟩
  have h1 : But R w w1 := But.trans (by (with_reducible repeat' (first | exact But.refl _ _ | refine zBr ?_ _ _ | refine zBs ?_ (by omega) _ _ | refine zBa ?_ _ | refine zBn ?_ _ | refine zBd ?_))) (But.of_below b1)
  have zk1 : w.heap.size < w1.heap.size := by have := b1.size; first | omega | (simp at this; omega)
  have Hk1 : C8 w1 (w.heap.size) (.int .i64 0) (.int .i64 0) (.int .i64 0) (.int .i64 0) (.int .i64 0) (.int .i64 0) (.string ⟨#[]⟩) (.slice none 0 0) := by refine ⟨?_, ?_, ?_, ?_, ?_, ?_, ?_, ?_⟩ <;> exact (But.of_below b1).cell nk (by simp [go_sem])
  obtain ⟨k10, k11, k12, k13, k14, k15, k16, k17⟩ := Hk1
  have Hkf1 : F8 w1 (w.heap.size) := by refine ⟨?_, ?_, ?_, ?_, ?_, ?_, ?_, ?_⟩ <;> exact (But.of_below b1).frozen nk (by first | omega | (simp; done) | (simp; omega)) (by simp [go_sem])
  obtain ⟨kf10, kf11, kf12, kf13, kf14, kf15, kf16, kf17⟩ := Hkf1
  have y1 : w.heap.size < w1.heap.size := zk1
  have HR1 : Hid (RS w1 R A cap L E (.run p)) := Lib.hid (RS.below (by (with_reducible repeat' (first | exact HR.out | refine zRf ?_ nk _ _ | refine zRa ?_ _ | refine zRn ?_ _ | refine zRd ?_))) b1)
  clear b1
  have e1 : markR L 0 [40] (.run p) = false := HM.out
  obtain ⟨_, _, hc⟩ := HR1.out
  have c0 := hc.c0
  have c1 := hc.c1
  have c3 := hc.c3
  have cf1 := hc.f1
  clear hc
  obtain ⟨ga1, hA, hgaR1, hgal1, t0, t1, t2, t3, t4, t5⟩ := (HT.out.but h1).at HX.out
  rw [hA] at c0
  clear hA
  have d11 : decide (L.length ≤ p) = false := decide_eq_false (by omega)
  have zR1 : R < w1.heap.size := by omega
  go_wp2_with fail
  go_quiet (fail)
  go_wp2_with fail
  clear c0 c1 c3 cf1 t0 t1 t2 t3 t4 t5
  refine (rfail_any (R := R) (A := A) (cap := cap) (L := L) (E := E) (st := .run p) hL (by (with_reducible repeat' (first | exact HR1.out | refine zRf ?_ nk _ _ | refine zRa ?_ _ | refine zRn ?_ _ | refine zRd ?_))) (HT.out.but (by (with_reducible repeat' (first | exact h1 | refine zBr ?_ _ _ | refine zBs ?_ (by omega) _ _ | refine zBa ?_ _ | refine zBn ?_ _ | refine zBd ?_))))).mono ?_; rintro e w2 ⟨rfl, r2, b2⟩
  have h2 : But R w w2 := But.trans (by (with_reducible repeat' (first | exact h1 | refine zBr ?_ _ _ | refine zBs ?_ (by omega) _ _ | refine zBa ?_ _ | refine zBn ?_ _ | refine zBd ?_))) b2
  have zk2 : w.heap.size < w2.heap.size := by have := b2.size; first | omega | (simp at this; omega)
  have Hk2 := c8_lift (B := w.heap.size) (fun j v hv => b2.cell nk (by with_reducible repeat' (first | exact hv | refine zCs ?_ (by omega) _ _ | refine zCa ?_ _ | refine zCn ?_ _ | refine zCd ?_))) k10 k11 k12 k13 k14 k15 k16 k17
  obtain ⟨k20, k21, k22, k23, k24, k25, k26, k27⟩ := Hk2
  have Hkf2 := f8_lift (B := w.heap.size) (fun j hv => b2.frozen nk (by first | omega | (simp; done) | (simp; omega)) (by with_reducible repeat' (first | exact hv | refine zFs ?_ (by omega) _ _ | refine zFa ?_ (by first | omega | (simp; omega)) _ | refine zFn ?_ _ | refine zFd ?_))) kf10 kf11 kf12 kf13 kf14 kf15 kf16 kf17
  obtain ⟨kf20, kf21, kf22, kf23, kf24, kf25, kf26, kf27⟩ := Hkf2
  have y2 : w.heap.size < w2.heap.size := zk2
  have HR2 : Hid (RS w2 R A cap L E (.out (whr L E p))) := Lib.hid r2
  clear b2 r2 k10 k11 k12 k13 k14 k15 k16 k17 kf10 kf11 kf12 kf13 kf14 kf15 kf16 kf17 zk1
  go_wp2_with fail
  exact bodyPost_ret (v := .agg #[.int .i64 0, .int .i64 0, .int .i64 0, .int .i64 0, .int .i64 0, .int .i64 0, .string ⟨#[]⟩, .slice none 0 0]) (by simp [results, Tryd.results75, go_sem, k20, k21, k22, k23, k24, k25, k26, k27]) rfl ⟨⟨0, 0, 0, 0, 0, 0, ⟨#[]⟩, none, 0, 0⟩, rfl, trivial, by (with_reducible repeat' (first | exact HR2.out | refine zRf ?_ nk _ _ | refine zRa ?_ _ | refine zRn ?_ _ | refine zRd ?_)), by (with_reducible repeat' (first | exact h2 | refine zBr ?_ _ _ | refine zBs ?_ (by omega) _ _ | refine zBa ?_ _ | refine zBn ?_ _ | refine zBd ?_))⟩
set_option maxHeartbeats 2000000 in
set_option maxRecDepth 10000 in
theorem roper_num (R : Nat) (A : Option Addr) (cap : Nat) (L : List Tok) (E : Nat) (hL : L.length ≤ 1000) (w : World) (p : Nat) (hr : RS w R A cap L E (.run p)) (hk : TK w R A L) (hm : isMark L p [40] = false) (t : Tok) (ht : L[p]? = some t) (k5 : (t.kind == 5) = false) (k1 : (t.kind == 1) = true) : Calls Tryd.prog 75 #[.pointer (some ⟨R, 0, none⟩)] w fun e w' => ∃ x : V8, e = .returned x.val ∧ TV w' (fun b => w.heap.size ≤ b) x (some (numT t.num)) ∧ RS w' R A cap L E (.run (p + 1)) ∧ But R w w' := by
  have HR := Lib.hid hr
  have HT := Lib.hid hk
  have hlt : R < w.heap.size := hr.lt
  have nk : w.heap.size ≠ R := by omega
  clear hr hk
  have HM := Lib.hid hm
  have HX := Lib.hid ht
  have hp : p < L.length := (List.getElem?_eq_some_iff.1 ht).1
  clear hm ht
  go_enter Tryd.func75, Tryd.ntmps75
  go_wp2_with fail
  refine (rmark_any (R := R) (A := A) (cap := cap) (L := L) (E := E) (m := 0) (st := .run p) ⟨#[40]⟩ hL (by omega) (by (with_reducible repeat' (first | exact HR.out | refine zRf ?_ nk _ _ | refine zRa ?_ _ | refine zRn ?_ _ | refine zRd ?_))) (HT.out.but (by (with_reducible repeat' (first | exact But.refl _ _ | refine zBr ?_ _ _ | refine zBs ?_ (by omega) _ _ | refine zBa ?_ _ | refine zBn ?_ _ | refine zBd ?_))))).mono ?_; rintro e w1 ⟨rfl, b1⟩
  have h1 : But R w w1 := But.trans (by (with_reducible repeat' (first | exact But.refl _ _ | refine zBr ?_ _ _ | refine zBs ?_ (by omega) _ _ | refine zBa ?_ _ | refine zBn ?_ _ | refine zBd ?_))) (But.of_below b1)
  have zk1 : w.heap.size < w1.heap.size := by have := b1.size; first | omega | (simp at this; omega)
  have Hk1 : C8 w1 (w.heap.size) (.int .i64 0) (.int .i64 0) (.int .i64 0) (.int .i64 0) (.int .i64 0) (.int .i64 0) (.string ⟨#[]⟩) (.slice none 0 0) := by refine ⟨?_, ?_, ?_, ?_, ?_, ?_, ?_, ?_⟩ <;> exact (But.of_below b1).cell nk (by simp [go_sem])
  obtain ⟨k10, k11, k12, k13, k14, k15, k16, k17⟩ := Hk1
  have Hkf1 : F8 w1 (w.heap.size) := by refine ⟨?_, ?_, ?_, ?_, ?_, ?_, ?_, ?_⟩ <;> exact (But.of_below b1).frozen nk (by first | omega | (simp; done) | (simp; omega)) (by simp [go_sem])
  obtain ⟨kf10, kf11, kf12, kf13, kf14, kf15, kf16, kf17⟩ := Hkf1
  have y1 : w.heap.size < w1.heap.size := zk1
  have HR1 : Hid (RS w1 R A cap L E (.run p)) := Lib.hid (RS.below (by (with_reducible repeat' (first | exact HR.out | refine zRf ?_ nk _ _ | refine zRa ?_ _ | refine zRn ?_ _ | refine zRd ?_))) b1)
  clear b1
  have e1 : markR L 0 [40] (.run p) = false := HM.out
  obtain ⟨_, _, hc⟩ := HR1.out
  have c0 := hc.c0
  have c1 := hc.c1
  have c3 := hc.c3
  have cf1 := hc.f1
  clear hc
  obtain ⟨ga1, hA, hgaR1, hgal1, t0, t1, t2, t3, t4, t5⟩ := (HT.out.but h1).at HX.out
  rw [hA] at c0
  clear hA
  have d11 : decide (L.length ≤ p) = false := decide_eq_false (by omega)
  have zR1 : R < w1.heap.size := by omega
  go_wp2_with fail
  go_quiet (fail)
  clear c0 c1 c3 cf1 t0 t1 t2 t3 t4 t5 zR1
  go_wp2_with fail
  generalize hq2 : w1.drewN nq = w2
  have b2 : Below w1.heap.size w1 w2 := by rw [← hq2]; exact below_drewN (Below.refl _ _) _
  clear hq2
  have h2 : But R w w2 := But.trans (by (with_reducible repeat' (first | exact h1 | refine zBr ?_ _ _ | refine zBs ?_ (by omega) _ _ | refine zBa ?_ _ | refine zBn ?_ _ | refine zBd ?_))) (But.of_below b2)
  have zk2 : w.heap.size < w2.heap.size := by have := b2.size; first | omega | (simp at this; omega)
  have Hk2 := c8_lift (B := w.heap.size) (fun j v hv => (But.of_below b2).cell nk (by with_reducible repeat' (first | exact hv | refine zCs ?_ (by omega) _ _ | refine zCa ?_ _ | refine zCn ?_ _ | refine zCd ?_))) k10 k11 k12 k13 k14 k15 k16 k17
  obtain ⟨k20, k21, k22, k23, k24, k25, k26, k27⟩ := Hk2
  have Hkf2 := f8_lift (B := w.heap.size) (fun j hv => (But.of_below b2).frozen nk (by first | omega | (simp; done) | (simp; omega)) (by with_reducible repeat' (first | exact hv | refine zFs ?_ (by omega) _ _ | refine zFa ?_ (by first | omega | (simp; omega)) _ | refine zFn ?_ _ | refine zFd ?_))) kf10 kf11 kf12 kf13 kf14 kf15 kf16 kf17
  obtain ⟨kf20, kf21, kf22, kf23, kf24, kf25, kf26, kf27⟩ := Hkf2
  have y2 : w.heap.size < w2.heap.size := zk2
  have HR2 : Hid (RS w2 R A cap L E (.run p)) := Lib.hid (RS.below (by (with_reducible repeat' (first | exact HR1.out | refine zRf ?_ nk _ _ | refine zRa ?_ _ | refine zRn ?_ _ | refine zRd ?_))) b2)
  clear b2 k10 k11 k12 k13 k14 k15 k16 k17 kf10 kf11 kf12 kf13 kf14 kf15 kf16 kf17 zk1
  obtain ⟨_, _, hc⟩ := HR2.out
  have c0 := hc.c0
  have c1 := hc.c1
  have c3 := hc.c3
  have cf1 := hc.f1
  clear hc
  obtain ⟨ga2, hA, hgaR2, hgal2, t0, t1, t2, t3, t4, t5⟩ := (HT.out.but h2).at HX.out
  rw [hA] at c0
  clear hA
  have d12 : decide (L.length ≤ p) = false := decide_eq_false (by omega)
  have zR2 : R < w2.heap.size := by omega
  have HS2 : Hid (RS (w2.setCell ⟨R, 1, none⟩ (.int .i64 ((p : Int) + 1))) R A cap L E (.run (p + 1))) := Lib.hid (HR2.out.step hp (by omega))
  go_region
  go_wp2_with fail
  clear c0 c1 c3 cf1 t0 t1 t2 t3 t4 t5
  have na : w2.heap.size ≠ R := by omega
  exact bodyPost_ret (v := .agg #[.int .i64 0, .int .i64 t.num, .int .i64 0, .int .i64 0, .int .i64 0, .int .i64 0, .string ⟨#[]⟩, .slice none 0 0]) (by simp [results, Tryd.results75, go_sem, k20, k21, k22, k23, k24, k25, k26, k27, y2]) rfl ⟨⟨0, t.num, 0, 0, 0, 0, ⟨#[]⟩, none, 0, 0⟩, rfl, TV.leaf (t := numT t.num) rfl, by (with_reducible repeat' (first | exact HS2.out | refine zRf ?_ nk _ _ | refine zRf ?_ na _ _ | refine zRa ?_ _ | refine zRn ?_ _ | refine zRd ?_)), by (with_reducible repeat' (first | exact h2 | refine zBr ?_ _ _ | refine zBs ?_ (by omega) _ _ | refine zBa ?_ _ | refine zBn ?_ _ | refine zBd ?_))⟩
set_option maxHeartbeats 2000000 in
set_option maxRecDepth 10000 in
theorem roper_read (R : Nat) (A : Option Addr) (cap : Nat) (L : List Tok) (E : Nat) (hL : L.length ≤ 1000) (w : World) (p : Nat) (hr : RS w R A cap L E (.run p)) (hk : TK w R A L) (hm : isMark L p [40] = false) (t : Tok) (ht : L[p]? = some t) (k5 : (t.kind == 5) = false) (k1 : (t.kind == 1) = false) (k2 : (t.kind == 2) = true) : Calls Tryd.prog 75 #[.pointer (some ⟨R, 0, none⟩)] w fun e w' => ∃ x : V8, e = .returned x.val ∧ TV w' (fun b => w.heap.size ≤ b) x (some (readT t.col t.row)) ∧ RS w' R A cap L E (.run (p + 1)) ∧ But R w w' := by
  have HR := Lib.hid hr
  have HT := Lib.hid hk
  have hlt : R < w.heap.size := hr.lt
  have nk : w.heap.size ≠ R := by omega
  clear hr hk
  have HM := Lib.hid hm
  have HX := Lib.hid ht
  have hp : p < L.length := (List.getElem?_eq_some_iff.1 ht).1
  clear hm ht
  go_enter Tryd.func75, Tryd.ntmps75
  go_wp2_with fail
  refine (rmark_any (R := R) (A := A) (cap := cap) (L := L) (E := E) (m := 0) (st := .run p) ⟨#[40]⟩ hL (by omega) (by (with_reducible repeat' (first | exact HR.out | refine zRf ?_ nk _ _ | refine zRa ?_ _ | refine zRn ?_ _ | refine zRd ?_))) (HT.out.but (by (with_reducible repeat' (first | exact But.refl _ _ | refine zBr ?_ _ _ | refine zBs ?_ (by omega) _ _ | refine zBa ?_ _ | refine zBn ?_ _ | refine zBd ?_))))).mono ?_; rintro e w1 ⟨rfl, b1⟩
  have h1 : But R w w1 := But.trans (by (with_reducible repeat' (first | exact But.refl _ _ | refine zBr ?_ _ _ | refine zBs ?_ (by omega) _ _ | refine zBa ?_ _ | refine zBn ?_ _ | refine zBd ?_))) (But.of_below b1)
  have zk1 : w.heap.size < w1.heap.size := by have := b1.size; first | omega | (simp at this; omega)
  have Hk1 : C8 w1 (w.heap.size) (.int .i64 0) (.int .i64 0) (.int .i64 0) (.int .i64 0) (.int .i64 0) (.int .i64 0) (.string ⟨#[]⟩) (.slice none 0 0) := by refine ⟨?_, ?_, ?_, ?_, ?_, ?_, ?_, ?_⟩ <;> exact (But.of_below b1).cell nk (by simp [go_sem])
  obtain ⟨k10, k11, k12, k13, k14, k15, k16, k17⟩ := Hk1
  have Hkf1 : F8 w1 (w.heap.size) := by refine ⟨?_, ?_, ?_, ?_, ?_, ?_, ?_, ?_⟩ <;> exact (But.of_below b1).frozen nk (by first | omega | (simp; done) | (simp; omega)) (by simp [go_sem])
  obtain ⟨kf10, kf11, kf12, kf13, kf14, kf15, kf16, kf17⟩ := Hkf1
  have y1 : w.heap.size < w1.heap.size := zk1
  have HR1 : Hid (RS w1 R A cap L E (.run p)) := Lib.hid (RS.below (by (with_reducible repeat' (first | exact HR.out | refine zRf ?_ nk _ _ | refine zRa ?_ _ | refine zRn ?_ _ | refine zRd ?_))) b1)
  clear b1
  have e1 : markR L 0 [40] (.run p) = false := HM.out
  obtain ⟨_, _, hc⟩ := HR1.out
  have c0 := hc.c0
  have c1 := hc.c1
  have c3 := hc.c3
  have cf1 := hc.f1
  clear hc
  obtain ⟨ga1, hA, hgaR1, hgal1, t0, t1, t2, t3, t4, t5⟩ := (HT.out.but h1).at HX.out
  rw [hA] at c0
  clear hA
  have d11 : decide (L.length ≤ p) = false := decide_eq_false (by omega)
  have zR1 : R < w1.heap.size := by omega
  go_wp2_with fail
  go_quiet (fail)
  clear c0 c1 c3 cf1 t0 t1 t2 t3 t4 t5 zR1
  go_wp2_with fail
  generalize hq2 : w1.drewN nq = w2
  have b2 : Below w1.heap.size w1 w2 := by rw [← hq2]; exact below_drewN (Below.refl _ _) _
  clear hq2
  have h2 : But R w w2 := But.trans (by (with_reducible repeat' (first | exact h1 | refine zBr ?_ _ _ | refine zBs ?_ (by omega) _ _ | refine zBa ?_ _ | refine zBn ?_ _ | refine zBd ?_))) (But.of_below b2)
  have zk2 : w.heap.size < w2.heap.size := by have := b2.size; first | omega | (simp at this; omega)
  have Hk2 := c8_lift (B := w.heap.size) (fun j v hv => (But.of_below b2).cell nk (by with_reducible repeat' (first | exact hv | refine zCs ?_ (by omega) _ _ | refine zCa ?_ _ | refine zCn ?_ _ | refine zCd ?_))) k10 k11 k12 k13 k14 k15 k16 k17
  obtain ⟨k20, k21, k22, k23, k24, k25, k26, k27⟩ := Hk2
  have Hkf2 := f8_lift (B := w.heap.size) (fun j hv => (But.of_below b2).frozen nk (by first | omega | (simp; done) | (simp; omega)) (by with_reducible repeat' (first | exact hv | refine zFs ?_ (by omega) _ _ | refine zFa ?_ (by first | omega | (simp; omega)) _ | refine zFn ?_ _ | refine zFd ?_))) kf10 kf11 kf12 kf13 kf14 kf15 kf16 kf17
  obtain ⟨kf20, kf21, kf22, kf23, kf24, kf25, kf26, kf27⟩ := Hkf2
  have y2 : w.heap.size < w2.heap.size := zk2
  have HR2 : Hid (RS w2 R A cap L E (.run p)) := Lib.hid (RS.below (by (with_reducible repeat' (first | exact HR1.out | refine zRf ?_ nk _ _ | refine zRa ?_ _ | refine zRn ?_ _ | refine zRd ?_))) b2)
  clear b2 k10 k11 k12 k13 k14 k15 k16 k17 kf10 kf11 kf12 kf13 kf14 kf15 kf16 kf17 zk1
  obtain ⟨_, _, hc⟩ := HR2.out
  have c0 := hc.c0
  have c1 := hc.c1
  have c3 := hc.c3
  have cf1 := hc.f1
  clear hc
  obtain ⟨ga2, hA, hgaR2, hgal2, t0, t1, t2, t3, t4, t5⟩ := (HT.out.but h2).at HX.out
  rw [hA] at c0
  clear hA
  have d12 : decide (L.length ≤ p) = false := decide_eq_false (by omega)
  have zR2 : R < w2.heap.size := by omega
  have HS2 : Hid (RS (w2.setCell ⟨R, 1, none⟩ (.int .i64 ((p : Int) + 1))) R A cap L E (.run (p + 1))) := Lib.hid (HR2.out.step hp (by omega))
  go_region
  go_wp2_with fail
  clear c0 c1 c3 cf1 t0 t1 t2 t3 t4 t5
  have na : w2.heap.size ≠ R := by omega
  exact bodyPost_ret (v := .agg #[.int .i64 1, .int .i64 0, .int .i64 t.col, .int .i64 t.row, .int .i64 t.col, .int .i64 t.row, .string ⟨#[]⟩, .slice none 0 0]) (by simp [results, Tryd.results75, go_sem, k20, k21, k22, k23, k24, k25, k26, k27, y2]) rfl ⟨⟨1, 0, t.col, t.row, t.col, t.row, ⟨#[]⟩, none, 0, 0⟩, rfl, TV.leaf (t := readT t.col t.row) rfl, by (with_reducible repeat' (first | exact HS2.out | refine zRf ?_ nk _ _ | refine zRf ?_ na _ _ | refine zRa ?_ _ | refine zRn ?_ _ | refine zRd ?_)), by (with_reducible repeat' (first | exact h2 | refine zBr ?_ _ _ | refine zBs ?_ (by omega) _ _ | refine zBa ?_ _ | refine zBn ?_ _ | refine zBd ?_))⟩
set_option maxHeartbeats 2000000 in
set_option maxRecDepth 10000 in
theorem roper_bad (R : Nat) (A : Option Addr) (cap : Nat) (L : List Tok) (E : Nat) (hL : L.length ≤ 1000) (w : World) (p : Nat) (hr : RS w R A cap L E (.run p)) (hk : TK w R A L) (hm : isMark L p [40] = false) (t : Tok) (ht : L[p]? = some t) (k5 : (t.kind == 5) = false) (k1 : (t.kind == 1) = false) (k2 : (t.kind == 2) = false) (k3 : (t.kind == 3) = true) : Calls Tryd.prog 75 #[.pointer (some ⟨R, 0, none⟩)] w fun e w' => ∃ x : V8, e = .returned x.val ∧ TV w' (fun b => w.heap.size ≤ b) x (some (badT)) ∧ RS w' R A cap L E (.run (p + 1)) ∧ But R w w' := by
  have HR := Lib.hid hr
  have HT := Lib.hid hk
  have hlt : R < w.heap.size := hr.lt
  have nk : w.heap.size ≠ R := by omega
  clear hr hk
  have HM := Lib.hid hm
  have HX := Lib.hid ht
  have hp : p < L.length := (List.getElem?_eq_some_iff.1 ht).1
  clear hm ht
  go_enter Tryd.func75, Tryd.ntmps75
  go_wp2_with fail
  refine (rmark_any (R := R) (A := A) (cap := cap) (L := L) (E := E) (m := 0) (st := .run p) ⟨#[40]⟩ hL (by omega) (by (with_reducible repeat' (first | exact HR.out | refine zRf ?_ nk _ _ | refine zRa ?_ _ | refine zRn ?_ _ | refine zRd ?_))) (HT.out.but (by (with_reducible repeat' (first | exact But.refl _ _ | refine zBr ?_ _ _ | refine zBs ?_ (by omega) _ _ | refine zBa ?_ _ | refine zBn ?_ _ | refine zBd ?_))))).mono ?_; rintro e w1 ⟨rfl, b1⟩
  have h1 : But R w w1 := But.trans (by (with_reducible repeat' (first | exact But.refl _ _ | refine zBr ?_ _ _ | refine zBs ?_ (by omega) _ _ | refine zBa ?_ _ | refine zBn ?_ _ | refine zBd ?_))) (But.of_below b1)
  have zk1 : w.heap.size < w1.heap.size := by have := b1.size; first | omega | (simp at this; omega)
  have Hk1 : C8 w1 (w.heap.size) (.int .i64 0) (.int .i64 0) (.int .i64 0) (.int .i64 0) (.int .i64 0) (.int .i64 0) (.string ⟨#[]⟩) (.slice none 0 0) := by refine ⟨?_, ?_, ?_, ?_, ?_, ?_, ?_, ?_⟩ <;> exact (But.of_below b1).cell nk (by simp [go_sem])
  obtain ⟨k10, k11, k12, k13, k14, k15, k16, k17⟩ := Hk1
  have Hkf1 : F8 w1 (w.heap.size) := by refine ⟨?_, ?_, ?_, ?_, ?_, ?_, ?_, ?_⟩ <;> exact (But.of_below b1).frozen nk (by first | omega | (simp; done) | (simp; omega)) (by simp [go_sem])
  obtain ⟨kf10, kf11, kf12, kf13, kf14, kf15, kf16, kf17⟩ := Hkf1
  have y1 : w.heap.size < w1.heap.size := zk1
  have HR1 : Hid (RS w1 R A cap L E (.run p)) := Lib.hid (RS.below (by (with_reducible repeat' (first | exact HR.out | refine zRf ?_ nk _ _ | refine zRa ?_ _ | refine zRn ?_ _ | refine zRd ?_))) b1)
  clear b1
  have e1 : markR L 0 [40] (.run p) = false := HM.out
  obtain ⟨_, _, hc⟩ := HR1.out
  have c0 := hc.c0
  have c1 := hc.c1
  have c3 := hc.c3
  have cf1 := hc.f1
  clear hc
  obtain ⟨ga1, hA, hgaR1, hgal1, t0, t1, t2, t3, t4, t5⟩ := (HT.out.but h1).at HX.out
  rw [hA] at c0
  clear hA
  have d11 : decide (L.length ≤ p) = false := decide_eq_false (by omega)
  have zR1 : R < w1.heap.size := by omega
  go_wp2_with fail
  go_quiet (fail)
  clear c0 c1 c3 cf1 t0 t1 t2 t3 t4 t5 zR1
  go_wp2_with fail
  generalize hq2 : w1.drewN nq = w2
  have b2 : Below w1.heap.size w1 w2 := by rw [← hq2]; exact below_drewN (Below.refl _ _) _
  clear hq2
  have h2 : But R w w2 := But.trans (by (with_reducible repeat' (first | exact h1 | refine zBr ?_ _ _ | refine zBs ?_ (by omega) _ _ | refine zBa ?_ _ | refine zBn ?_ _ | refine zBd ?_))) (But.of_below b2)
  have zk2 : w.heap.size < w2.heap.size := by have := b2.size; first | omega | (simp at this; omega)
  have Hk2 := c8_lift (B := w.heap.size) (fun j v hv => (But.of_below b2).cell nk (by with_reducible repeat' (first | exact hv | refine zCs ?_ (by omega) _ _ | refine zCa ?_ _ | refine zCn ?_ _ | refine zCd ?_))) k10 k11 k12 k13 k14 k15 k16 k17
  obtain ⟨k20, k21, k22, k23, k24, k25, k26, k27⟩ := Hk2
  have Hkf2 := f8_lift (B := w.heap.size) (fun j hv => (But.of_below b2).frozen nk (by first | omega | (simp; done) | (simp; omega)) (by with_reducible repeat' (first | exact hv | refine zFs ?_ (by omega) _ _ | refine zFa ?_ (by first | omega | (simp; omega)) _ | refine zFn ?_ _ | refine zFd ?_))) kf10 kf11 kf12 kf13 kf14 kf15 kf16 kf17
  obtain ⟨kf20, kf21, kf22, kf23, kf24, kf25, kf26, kf27⟩ := Hkf2
  have y2 : w.heap.size < w2.heap.size := zk2
  have HR2 : Hid (RS w2 R A cap L E (.run p)) := Lib.hid (RS.below (by (with_reducible repeat' (first | exact HR1.out | refine zRf ?_ nk _ _ | refine zRa ?_ _ | refine zRn ?_ _ | refine zRd ?_))) b2)
  clear b2 k10 k11 k12 k13 k14 k15 k16 k17 kf10 kf11 kf12 kf13 kf14 kf15 kf16 kf17 zk1
  obtain ⟨_, _, hc⟩ := HR2.out
  have c0 := hc.c0
  have c1 := hc.c1
  have c3 := hc.c3
  have cf1 := hc.f1
  clear hc
  obtain ⟨ga2, hA, hgaR2, hgal2, t0, t1, t2, t3, t4, t5⟩ := (HT.out.but h2).at HX.out
  rw [hA] at c0
  clear hA
  have d12 : decide (L.length ≤ p) = false := decide_eq_false (by omega)
  have zR2 : R < w2.heap.size := by omega
  have HS2 : Hid (RS (w2.setCell ⟨R, 1, none⟩ (.int .i64 ((p : Int) + 1))) R A cap L E (.run (p + 1))) := Lib.hid (HR2.out.step hp (by omega))
  go_region
  go_wp2_with fail
  clear c0 c1 c3 cf1 t0 t1 t2 t3 t4 t5
  have na : w2.heap.size ≠ R := by omega
  exact bodyPost_ret (v := .agg #[.int .i64 2, .int .i64 0, .int .i64 0, .int .i64 0, .int .i64 0, .int .i64 0, .string ⟨#[]⟩, .slice none 0 0]) (by simp [results, Tryd.results75, go_sem, k20, k21, k22, k23, k24, k25, k26, k27, y2]) rfl ⟨⟨2, 0, 0, 0, 0, 0, ⟨#[]⟩, none, 0, 0⟩, rfl, TV.leaf (t := badT) rfl, by (with_reducible repeat' (first | exact HS2.out | refine zRf ?_ nk _ _ | refine zRf ?_ na _ _ | refine zRa ?_ _ | refine zRn ?_ _ | refine zRd ?_)), by (with_reducible repeat' (first | exact h2 | refine zBr ?_ _ _ | refine zBs ?_ (by omega) _ _ | refine zBa ?_ _ | refine zBn ?_ _ | refine zBd ?_))⟩
end Go.Proofs.YthaoalmhhgllmaaDoor
