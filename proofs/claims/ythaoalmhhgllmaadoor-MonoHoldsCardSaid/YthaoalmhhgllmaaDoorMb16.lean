/- Texts joined: TrK. -/
import Derived.Test.YthaoalmhhgllmaaDoorMb15
set_option linter.all false
namespace Go.Proofs.YthaoalmhhgllmaaDoor
open Go.RowKit
set_option maxHeartbeats 2000000 in
set_option maxRecDepth 10000 in
theorem ritem_none_true (R : Nat) (A : Option Addr) (cap : Nat) (L : List Tok) (E : Nat) (hL : L.length ≤ 1000) (w : World) (p : Nat) (hr : RS w R A cap L E (.run p)) (hk : TK w R A L) (he : isEnd L p = false) (hc : isMark L (p + 1) [58] = true) : Calls Tryd.prog 90 #[.pointer (some ⟨R, 0, none⟩), .bool true] w fun e w' => ∃ x : V8, e = .returned x.val ∧ TV w' (fun b => w.heap.size ≤ b) x (none) ∧ RS w' R A cap L E (.out (whr L E p)) ∧ But R w w' := by
  have HR := Lib.hid hr
  have HT := Lib.hid hk
  have hlt : R < w.heap.size := hr.lt
  have nk : w.heap.size ≠ R := by omega
  clear hr hk
  have HE := Lib.hid he
  have HC := Lib.hid hc
  clear he hc
  go_enter Tryd.func90, Tryd.ntmps90
  go_wp2_with fail
  refine (rend_any (R := R) (A := A) (cap := cap) (L := L) (E := E) (st := .run p) hL (by (with_reducible repeat' (first | exact HR.out | refine zRf ?_ nk _ _ | refine zRa ?_ _ | refine zRn ?_ _ | refine zRd ?_))) (HT.out.but (by (with_reducible repeat' (first | exact But.refl _ _ | refine zBr ?_ _ _ | refine zBs ?_ (by omega) _ _ | refine zBa ?_ _ | refine zBn ?_ _ | refine zBd ?_))))).mono ?_; rintro e w1 ⟨rfl, b1⟩
  have h1 : But R w w1 := But.trans (by (with_reducible repeat' (first | exact But.refl _ _ | refine zBr ?_ _ _ | refine zBs ?_ (by omega) _ _ | refine zBa ?_ _ | refine zBn ?_ _ | refine zBd ?_))) (But.of_below b1)
  have zk1 : w.heap.size < w1.heap.size := by have := b1.size; first | omega | (simp at this; omega)
  have Hk1 : C8 w1 (w.heap.size) (.int .i64 0) (.int .i64 0) (.int .i64 0) (.int .i64 0) (.int .i64 0) (.int .i64 0) (.string ⟨#[]⟩) (.slice none 0 0) := by refine ⟨?_, ?_, ?_, ?_, ?_, ?_, ?_, ?_⟩ <;> exact (But.of_below b1).cell nk (by simp [go_sem])
  obtain ⟨k10, k11, k12, k13, k14, k15, k16, k17⟩ := Hk1
  have Hkf1 : F8 w1 (w.heap.size) := by refine ⟨?_, ?_, ?_, ?_, ?_, ?_, ?_, ?_⟩ <;> exact (But.of_below b1).frozen nk (by first | omega | (simp; done) | (simp; omega)) (by simp [go_sem])
  obtain ⟨kf10, kf11, kf12, kf13, kf14, kf15, kf16, kf17⟩ := Hkf1
  have y1 : w.heap.size < w1.heap.size := zk1
  have HR1 : Hid (RS w1 R A cap L E (.run p)) := Lib.hid (RS.below (by (with_reducible repeat' (first | exact HR.out | refine zRf ?_ nk _ _ | refine zRa ?_ _ | refine zRn ?_ _ | refine zRd ?_))) b1)
  clear b1
  go_wp2_with fail
  refine (rmark_any (R := R) (A := A) (cap := cap) (L := L) (E := E) (m := 1) (st := .run p) ⟨#[58]⟩ hL (by omega) (by (with_reducible repeat' (first | exact HR1.out | refine zRf ?_ nk _ _ | refine zRa ?_ _ | refine zRn ?_ _ | refine zRd ?_))) (HT.out.but (by (with_reducible repeat' (first | exact h1 | refine zBr ?_ _ _ | refine zBs ?_ (by omega) _ _ | refine zBa ?_ _ | refine zBn ?_ _ | refine zBd ?_))))).mono ?_; rintro e w2 ⟨rfl, b2⟩
  have h2 : But R w w2 := But.trans (by (with_reducible repeat' (first | exact h1 | refine zBr ?_ _ _ | refine zBs ?_ (by omega) _ _ | refine zBa ?_ _ | refine zBn ?_ _ | refine zBd ?_))) (But.of_below b2)
  have zk2 : w.heap.size < w2.heap.size := by have := b2.size; first | omega | (simp at this; omega)
  have Hk2 := c8_lift (B := w.heap.size) (fun j v hv => (But.of_below b2).cell nk (by with_reducible repeat' (first | exact hv | refine zCs ?_ (by omega) _ _ | refine zCa ?_ _ | refine zCn ?_ _ | refine zCd ?_))) k10 k11 k12 k13 k14 k15 k16 k17
  obtain ⟨k20, k21, k22, k23, k24, k25, k26, k27⟩ := Hk2
  have Hkf2 := f8_lift (B := w.heap.size) (fun j hv => (But.of_below b2).frozen nk (by first | omega | (simp; done) | (simp; omega)) (by with_reducible repeat' (first | exact hv | refine zFs ?_ (by omega) _ _ | refine zFa ?_ (by first | omega | (simp; omega)) _ | refine zFn ?_ _ | refine zFd ?_))) kf10 kf11 kf12 kf13 kf14 kf15 kf16 kf17
  obtain ⟨kf20, kf21, kf22, kf23, kf24, kf25, kf26, kf27⟩ := Hkf2
  have y2 : w.heap.size < w2.heap.size := zk2
  have HR2 : Hid (RS w2 R A cap L E (.run p)) := Lib.hid (RS.below (by (with_reducible repeat' (first | exact HR1.out | refine zRf ?_ nk _ _ | refine zRa ?_ _ | refine zRn ?_ _ | refine zRd ?_))) b2)
  clear b2 k10 k11 k12 k13 k14 k15 k16 k17 kf10 kf11 kf12 kf13 kf14 kf15 kf16 kf17 zk1
  have e0 : endS L (.run p) = false := HE.out
  have e1 : markR L 1 [58] (.run p) = true := HC.out
  go_wp2_with fail
  refine (rfail_any (R := R) (A := A) (cap := cap) (L := L) (E := E) (st := .run p) hL (by (with_reducible repeat' (first | exact HR2.out | refine zRf ?_ nk _ _ | refine zRa ?_ _ | refine zRn ?_ _ | refine zRd ?_))) (HT.out.but (by (with_reducible repeat' (first | exact h2 | refine zBr ?_ _ _ | refine zBs ?_ (by omega) _ _ | refine zBa ?_ _ | refine zBn ?_ _ | refine zBd ?_))))).mono ?_; rintro e w3 ⟨rfl, r3, b3⟩
  have h3 : But R w w3 := But.trans (by (with_reducible repeat' (first | exact h2 | refine zBr ?_ _ _ | refine zBs ?_ (by omega) _ _ | refine zBa ?_ _ | refine zBn ?_ _ | refine zBd ?_))) b3
  have zk3 : w.heap.size < w3.heap.size := by have := b3.size; first | omega | (simp at this; omega)
  have Hk3 := c8_lift (B := w.heap.size) (fun j v hv => b3.cell nk (by with_reducible repeat' (first | exact hv | refine zCs ?_ (by omega) _ _ | refine zCa ?_ _ | refine zCn ?_ _ | refine zCd ?_))) k20 k21 k22 k23 k24 k25 k26 k27
  obtain ⟨k30, k31, k32, k33, k34, k35, k36, k37⟩ := Hk3
  have Hkf3 := f8_lift (B := w.heap.size) (fun j hv => b3.frozen nk (by first | omega | (simp; done) | (simp; omega)) (by with_reducible repeat' (first | exact hv | refine zFs ?_ (by omega) _ _ | refine zFa ?_ (by first | omega | (simp; omega)) _ | refine zFn ?_ _ | refine zFd ?_))) kf20 kf21 kf22 kf23 kf24 kf25 kf26 kf27
  obtain ⟨kf30, kf31, kf32, kf33, kf34, kf35, kf36, kf37⟩ := Hkf3
  have y3 : w.heap.size < w3.heap.size := zk3
  have HR3 : Hid (RS w3 R A cap L E (.out (whr L E p))) := Lib.hid r3
  clear b3 r3 k20 k21 k22 k23 k24 k25 k26 k27 kf20 kf21 kf22 kf23 kf24 kf25 kf26 kf27 zk2
  go_wp2_with fail
  exact bodyPost_ret (v := .agg #[.int .i64 0, .int .i64 0, .int .i64 0, .int .i64 0, .int .i64 0, .int .i64 0, .string ⟨#[]⟩, .slice none 0 0]) (by simp [results, Tryd.results90, go_sem, k30, k31, k32, k33, k34, k35, k36, k37]) rfl ⟨⟨0, 0, 0, 0, 0, 0, ⟨#[]⟩, none, 0, 0⟩, rfl, trivial, by (with_reducible repeat' (first | exact HR3.out | refine zRf ?_ nk _ _ | refine zRa ?_ _ | refine zRn ?_ _ | refine zRd ?_)), by (with_reducible repeat' (first | exact h3 | refine zBr ?_ _ _ | refine zBs ?_ (by omega) _ _ | refine zBa ?_ _ | refine zBn ?_ _ | refine zBd ?_))⟩
set_option maxHeartbeats 2000000 in
set_option maxRecDepth 10000 in
theorem ritem_none_false (R : Nat) (A : Option Addr) (cap : Nat) (L : List Tok) (E : Nat) (hL : L.length ≤ 1000) (w : World) (p : Nat) (hr : RS w R A cap L E (.run p)) (hk : TK w R A L) (he : isEnd L p = false) (hc : isMark L (p + 1) [58] = false) : Calls Tryd.prog 90 #[.pointer (some ⟨R, 0, none⟩), .bool true] w fun e w' => ∃ x : V8, e = .returned x.val ∧ TV w' (fun b => w.heap.size ≤ b) x (none) ∧ RS w' R A cap L E (.out (whr L E p)) ∧ But R w w' := by
  have HR := Lib.hid hr
  have HT := Lib.hid hk
  have hlt : R < w.heap.size := hr.lt
  have nk : w.heap.size ≠ R := by omega
  clear hr hk
  have HE := Lib.hid he
  have HC := Lib.hid hc
  clear he hc
  go_enter Tryd.func90, Tryd.ntmps90
  go_wp2_with fail
  refine (rend_any (R := R) (A := A) (cap := cap) (L := L) (E := E) (st := .run p) hL (by (with_reducible repeat' (first | exact HR.out | refine zRf ?_ nk _ _ | refine zRa ?_ _ | refine zRn ?_ _ | refine zRd ?_))) (HT.out.but (by (with_reducible repeat' (first | exact But.refl _ _ | refine zBr ?_ _ _ | refine zBs ?_ (by omega) _ _ | refine zBa ?_ _ | refine zBn ?_ _ | refine zBd ?_))))).mono ?_; rintro e w1 ⟨rfl, b1⟩
  have h1 : But R w w1 := But.trans (by (with_reducible repeat' (first | exact But.refl _ _ | refine zBr ?_ _ _ | refine zBs ?_ (by omega) _ _ | refine zBa ?_ _ | refine zBn ?_ _ | refine zBd ?_))) (But.of_below b1)
  have zk1 : w.heap.size < w1.heap.size := by have := b1.size; first | omega | (simp at this; omega)
  have Hk1 : C8 w1 (w.heap.size) (.int .i64 0) (.int .i64 0) (.int .i64 0) (.int .i64 0) (.int .i64 0) (.int .i64 0) (.string ⟨#[]⟩) (.slice none 0 0) := by refine ⟨?_, ?_, ?_, ?_, ?_, ?_, ?_, ?_⟩ <;> exact (But.of_below b1).cell nk (by simp [go_sem])
  obtain ⟨k10, k11, k12, k13, k14, k15, k16, k17⟩ := Hk1
  have Hkf1 : F8 w1 (w.heap.size) := by refine ⟨?_, ?_, ?_, ?_, ?_, ?_, ?_, ?_⟩ <;> exact (But.of_below b1).frozen nk (by first | omega | (simp; done) | (simp; omega)) (by simp [go_sem])
  obtain ⟨kf10, kf11, kf12, kf13, kf14, kf15, kf16, kf17⟩ := Hkf1
  have y1 : w.heap.size < w1.heap.size := zk1
  have HR1 : Hid (RS w1 R A cap L E (.run p)) := Lib.hid (RS.below (by (with_reducible repeat' (first | exact HR.out | refine zRf ?_ nk _ _ | refine zRa ?_ _ | refine zRn ?_ _ | refine zRd ?_))) b1)
  clear b1
  go_wp2_with fail
  refine (rmark_any (R := R) (A := A) (cap := cap) (L := L) (E := E) (m := 1) (st := .run p) ⟨#[58]⟩ hL (by omega) (by (with_reducible repeat' (first | exact HR1.out | refine zRf ?_ nk _ _ | refine zRa ?_ _ | refine zRn ?_ _ | refine zRd ?_))) (HT.out.but (by (with_reducible repeat' (first | exact h1 | refine zBr ?_ _ _ | refine zBs ?_ (by omega) _ _ | refine zBa ?_ _ | refine zBn ?_ _ | refine zBd ?_))))).mono ?_; rintro e w2 ⟨rfl, b2⟩
  have h2 : But R w w2 := But.trans (by (with_reducible repeat' (first | exact h1 | refine zBr ?_ _ _ | refine zBs ?_ (by omega) _ _ | refine zBa ?_ _ | refine zBn ?_ _ | refine zBd ?_))) (But.of_below b2)
  have zk2 : w.heap.size < w2.heap.size := by have := b2.size; first | omega | (simp at this; omega)
  have Hk2 := c8_lift (B := w.heap.size) (fun j v hv => (But.of_below b2).cell nk (by with_reducible repeat' (first | exact hv | refine zCs ?_ (by omega) _ _ | refine zCa ?_ _ | refine zCn ?_ _ | refine zCd ?_))) k10 k11 k12 k13 k14 k15 k16 k17
  obtain ⟨k20, k21, k22, k23, k24, k25, k26, k27⟩ := Hk2
  have Hkf2 := f8_lift (B := w.heap.size) (fun j hv => (But.of_below b2).frozen nk (by first | omega | (simp; done) | (simp; omega)) (by with_reducible repeat' (first | exact hv | refine zFs ?_ (by omega) _ _ | refine zFa ?_ (by first | omega | (simp; omega)) _ | refine zFn ?_ _ | refine zFd ?_))) kf10 kf11 kf12 kf13 kf14 kf15 kf16 kf17
  obtain ⟨kf20, kf21, kf22, kf23, kf24, kf25, kf26, kf27⟩ := Hkf2
  have y2 : w.heap.size < w2.heap.size := zk2
  have HR2 : Hid (RS w2 R A cap L E (.run p)) := Lib.hid (RS.below (by (with_reducible repeat' (first | exact HR1.out | refine zRf ?_ nk _ _ | refine zRa ?_ _ | refine zRn ?_ _ | refine zRd ?_))) b2)
  clear b2 k10 k11 k12 k13 k14 k15 k16 k17 kf10 kf11 kf12 kf13 kf14 kf15 kf16 kf17 zk1
  have e0 : endS L (.run p) = false := HE.out
  have e1 : markR L 1 [58] (.run p) = false := HC.out
  go_wp2_with fail
  refine (rfail_any (R := R) (A := A) (cap := cap) (L := L) (E := E) (st := .run p) hL (by (with_reducible repeat' (first | exact HR2.out | refine zRf ?_ nk _ _ | refine zRa ?_ _ | refine zRn ?_ _ | refine zRd ?_))) (HT.out.but (by (with_reducible repeat' (first | exact h2 | refine zBr ?_ _ _ | refine zBs ?_ (by omega) _ _ | refine zBa ?_ _ | refine zBn ?_ _ | refine zBd ?_))))).mono ?_; rintro e w3 ⟨rfl, r3, b3⟩
  have h3 : But R w w3 := But.trans (by (with_reducible repeat' (first | exact h2 | refine zBr ?_ _ _ | refine zBs ?_ (by omega) _ _ | refine zBa ?_ _ | refine zBn ?_ _ | refine zBd ?_))) b3
  have zk3 : w.heap.size < w3.heap.size := by have := b3.size; first | omega | (simp at this; omega)
  have Hk3 := c8_lift (B := w.heap.size) (fun j v hv => b3.cell nk (by with_reducible repeat' (first | exact hv | refine zCs ?_ (by omega) _ _ | refine zCa ?_ _ | refine zCn ?_ _ | refine zCd ?_))) k20 k21 k22 k23 k24 k25 k26 k27
  obtain ⟨k30, k31, k32, k33, k34, k35, k36, k37⟩ := Hk3
  have Hkf3 := f8_lift (B := w.heap.size) (fun j hv => b3.frozen nk (by first | omega | (simp; done) | (simp; omega)) (by with_reducible repeat' (first | exact hv | refine zFs ?_ (by omega) _ _ | refine zFa ?_ (by first | omega | (simp; omega)) _ | refine zFn ?_ _ | refine zFd ?_))) kf20 kf21 kf22 kf23 kf24 kf25 kf26 kf27
  obtain ⟨kf30, kf31, kf32, kf33, kf34, kf35, kf36, kf37⟩ := Hkf3
  have y3 : w.heap.size < w3.heap.size := zk3
  have HR3 : Hid (RS w3 R A cap L E (.out (whr L E p))) := Lib.hid r3
  clear b3 r3 k20 k21 k22 k23 k24 k25 k26 k27 kf20 kf21 kf22 kf23 kf24 kf25 kf26 kf27 zk2
  go_wp2_with fail
  exact bodyPost_ret (v := .agg #[.int .i64 0, .int .i64 0, .int .i64 0, .int .i64 0, .int .i64 0, .int .i64 0, .string ⟨#[]⟩, .slice none 0 0]) (by simp [results, Tryd.results90, go_sem, k30, k31, k32, k33, k34, k35, k36, k37]) rfl ⟨⟨0, 0, 0, 0, 0, 0, ⟨#[]⟩, none, 0, 0⟩, rfl, trivial, by (with_reducible repeat' (first | exact HR3.out | refine zRf ?_ nk _ _ | refine zRa ?_ _ | refine zRn ?_ _ | refine zRd ?_)), by (with_reducible repeat' (first | exact h3 | refine zBr ?_ _ _ | refine zBs ?_ (by omega) _ _ | refine zBa ?_ _ | refine zBn ?_ _ | refine zBd ?_))⟩
theorem TV.leaf {w : World} {P : Nat → Prop} {t : Tr} (h : t.kids = []) : TV w P (tv8 t none 0) (some t) := ⟨none, 0, rfl, KVc.mk' (by rw [h]; exact Nat.le_refl _) (.inl h)⟩
set_option maxHeartbeats 2000000 in
set_option maxRecDepth 10000 in
theorem ritem_bad (R : Nat) (A : Option Addr) (cap : Nat) (L : List Tok) (E : Nat) (hL : L.length ≤ 1000) (w : World) (p : Nat) (hr : RS w R A cap L E (.run p)) (hk : TK w R A L) (he : isEnd L p = true) (hc : isMark L (p + 1) [58] = false) (t : Tok) (ht : L[p]? = some t) (h3 : t.kind = 3) : Calls Tryd.prog 90 #[.pointer (some ⟨R, 0, none⟩), .bool true] w fun e w' => ∃ x : V8, e = .returned x.val ∧ TV w' (fun b => w.heap.size ≤ b) x (some badT) ∧ RS w' R A cap L E (.run (p + 1)) ∧ But R w w' := by
  have HR := Lib.hid hr
  have HT := Lib.hid hk
  have hlt : R < w.heap.size := hr.lt
  have nk : w.heap.size ≠ R := by omega
  clear hr hk
  have HE := Lib.hid he
  have HC := Lib.hid hc
  have HX := Lib.hid ht
  have hp : p < L.length := (List.getElem?_eq_some_iff.1 ht).1
  have k3 : (t.kind == 3) = true := by rw [beq_iff_eq]; exact h3
  clear he hc ht h3
  go_enter Tryd.func90, Tryd.ntmps90
  go_wp2_with fail
  refine (rend_any (R := R) (A := A) (cap := cap) (L := L) (E := E) (st := .run p) hL (by (with_reducible repeat' (first | exact HR.out | refine zRf ?_ nk _ _ | refine zRa ?_ _ | refine zRn ?_ _ | refine zRd ?_))) (HT.out.but (by (with_reducible repeat' (first | exact But.refl _ _ | refine zBr ?_ _ _ | refine zBs ?_ (by omega) _ _ | refine zBa ?_ _ | refine zBn ?_ _ | refine zBd ?_))))).mono ?_; rintro e w1 ⟨rfl, b1⟩
  have h1 : But R w w1 := But.trans (by (with_reducible repeat' (first | exact But.refl _ _ | refine zBr ?_ _ _ | refine zBs ?_ (by omega) _ _ | refine zBa ?_ _ | refine zBn ?_ _ | refine zBd ?_))) (But.of_below b1)
  have zk1 : w.heap.size < w1.heap.size := by have := b1.size; first | omega | (simp at this; omega)
  have Hk1 : C8 w1 (w.heap.size) (.int .i64 0) (.int .i64 0) (.int .i64 0) (.int .i64 0) (.int .i64 0) (.int .i64 0) (.string ⟨#[]⟩) (.slice none 0 0) := by refine ⟨?_, ?_, ?_, ?_, ?_, ?_, ?_, ?_⟩ <;> exact (But.of_below b1).cell nk (by simp [go_sem])
  obtain ⟨k10, k11, k12, k13, k14, k15, k16, k17⟩ := Hk1
  have Hkf1 : F8 w1 (w.heap.size) := by refine ⟨?_, ?_, ?_, ?_, ?_, ?_, ?_, ?_⟩ <;> exact (But.of_below b1).frozen nk (by first | omega | (simp; done) | (simp; omega)) (by simp [go_sem])
  obtain ⟨kf10, kf11, kf12, kf13, kf14, kf15, kf16, kf17⟩ := Hkf1
  have y1 : w.heap.size < w1.heap.size := zk1
  have HR1 : Hid (RS w1 R A cap L E (.run p)) := Lib.hid (RS.below (by (with_reducible repeat' (first | exact HR.out | refine zRf ?_ nk _ _ | refine zRa ?_ _ | refine zRn ?_ _ | refine zRd ?_))) b1)
  clear b1
  go_wp2_with fail
  refine (rmark_any (R := R) (A := A) (cap := cap) (L := L) (E := E) (m := 1) (st := .run p) ⟨#[58]⟩ hL (by omega) (by (with_reducible repeat' (first | exact HR1.out | refine zRf ?_ nk _ _ | refine zRa ?_ _ | refine zRn ?_ _ | refine zRd ?_))) (HT.out.but (by (with_reducible repeat' (first | exact h1 | refine zBr ?_ _ _ | refine zBs ?_ (by omega) _ _ | refine zBa ?_ _ | refine zBn ?_ _ | refine zBd ?_))))).mono ?_; rintro e w2 ⟨rfl, b2⟩
  have h2 : But R w w2 := But.trans (by (with_reducible repeat' (first | exact h1 | refine zBr ?_ _ _ | refine zBs ?_ (by omega) _ _ | refine zBa ?_ _ | refine zBn ?_ _ | refine zBd ?_))) (But.of_below b2)
  have zk2 : w.heap.size < w2.heap.size := by have := b2.size; first | omega | (simp at this; omega)
  have Hk2 := c8_lift (B := w.heap.size) (fun j v hv => (But.of_below b2).cell nk (by with_reducible repeat' (first | exact hv | refine zCs ?_ (by omega) _ _ | refine zCa ?_ _ | refine zCn ?_ _ | refine zCd ?_))) k10 k11 k12 k13 k14 k15 k16 k17
  obtain ⟨k20, k21, k22, k23, k24, k25, k26, k27⟩ := Hk2
  have Hkf2 := f8_lift (B := w.heap.size) (fun j hv => (But.of_below b2).frozen nk (by first | omega | (simp; done) | (simp; omega)) (by with_reducible repeat' (first | exact hv | refine zFs ?_ (by omega) _ _ | refine zFa ?_ (by first | omega | (simp; omega)) _ | refine zFn ?_ _ | refine zFd ?_))) kf10 kf11 kf12 kf13 kf14 kf15 kf16 kf17
  obtain ⟨kf20, kf21, kf22, kf23, kf24, kf25, kf26, kf27⟩ := Hkf2
  have y2 : w.heap.size < w2.heap.size := zk2
  have HR2 : Hid (RS w2 R A cap L E (.run p)) := Lib.hid (RS.below (by (with_reducible repeat' (first | exact HR1.out | refine zRf ?_ nk _ _ | refine zRa ?_ _ | refine zRn ?_ _ | refine zRd ?_))) b2)
  clear b2 k10 k11 k12 k13 k14 k15 k16 k17 kf10 kf11 kf12 kf13 kf14 kf15 kf16 kf17 zk1
  have e0 : endS L (.run p) = true := HE.out
  have e1 : markR L 1 [58] (.run p) = false := HC.out
  have HS2 : Hid (RS (w2.setCell ⟨R, 1, none⟩ (.int .i64 ((p : Int) + 1))) R A cap L E (.run (p + 1))) := Lib.hid (HR2.out.step hp (by omega))
  obtain ⟨_, _, hc⟩ := HR2.out
  have c0 := hc.c0
  have c1 := hc.c1
  have cf1 := hc.f1
  clear hc
  obtain ⟨ga, hA, hgaR, hgal, t0, t1, t2, t3, t4, t5⟩ := (HT.out.but h2).at HX.out
  rw [hA] at c0
  clear hA
  have zR2 : R < w2.heap.size := by omega
  have na : w2.heap.size ≠ R := by omega
  go_wp2_with fail
  go_region
  go_wp2_with fail
  clear c0 c1 cf1 t0 t1 t2 t3 t4 t5
  exact bodyPost_ret (v := .agg #[.int .i64 2, .int .i64 0, .int .i64 0, .int .i64 0, .int .i64 0, .int .i64 0, .string ⟨#[]⟩, .slice none 0 0]) (by simp [results, Tryd.results90, go_sem, k20, k21, k22, k23, k24, k25, k26, k27, y2]) rfl ⟨⟨2, 0, 0, 0, 0, 0, ⟨#[]⟩, none, 0, 0⟩, rfl, TV.leaf (t := badT) rfl, by (with_reducible repeat' (first | exact HS2.out | refine zRf ?_ nk _ _ | refine zRf ?_ na _ _ | refine zRa ?_ _ | refine zRn ?_ _ | refine zRd ?_)), by (with_reducible repeat' (first | exact h2 | refine zBr ?_ _ _ | refine zBs ?_ (by omega) _ _ | refine zBa ?_ _ | refine zBn ?_ _ | refine zBd ?_))⟩
set_option maxHeartbeats 2000000 in
set_option maxRecDepth 10000 in
theorem ritem_miss (R : Nat) (A : Option Addr) (cap : Nat) (L : List Tok) (E : Nat) (hL : L.length ≤ 1000) (w : World) (p : Nat) (hr : RS w R A cap L E (.run p)) (hk : TK w R A L) (he : isEnd L p = true) (hc : isMark L (p + 1) [58] = false) (t : Tok) (ht : L[p]? = some t) (h3 : t.kind ≠ 3) : Calls Tryd.prog 90 #[.pointer (some ⟨R, 0, none⟩), .bool true] w fun e w' => ∃ x : V8, e = .returned x.val ∧ TV w' (fun b => w.heap.size ≤ b) x (none) ∧ RS w' R A cap L E (.out (whr L E (p + 1))) ∧ But R w w' := by
  have HR := Lib.hid hr
  have HT := Lib.hid hk
  have hlt : R < w.heap.size := hr.lt
  have nk : w.heap.size ≠ R := by omega
  clear hr hk
  have HE := Lib.hid he
  have HC := Lib.hid hc
  have HX := Lib.hid ht
  have hp : p < L.length := (List.getElem?_eq_some_iff.1 ht).1
  have k3 : (t.kind == 3) = false := by rw [beq_eq_false_iff_ne]; exact h3
  clear he hc ht h3
  go_enter Tryd.func90, Tryd.ntmps90
  go_wp2_with fail
  refine (rend_any (R := R) (A := A) (cap := cap) (L := L) (E := E) (st := .run p) hL (by (with_reducible repeat' (first | exact HR.out | refine zRf ?_ nk _ _ | refine zRa ?_ _ | refine zRn ?_ _ | refine zRd ?_))) (HT.out.but (by (with_reducible repeat' (first | exact But.refl _ _ | refine zBr ?_ _ _ | refine zBs ?_ (by omega) _ _ | refine zBa ?_ _ | refine zBn ?_ _ | refine zBd ?_))))).mono ?_; rintro e w1 ⟨rfl, b1⟩
  have h1 : But R w w1 := But.trans (by (with_reducible repeat' (first | exact But.refl _ _ | refine zBr ?_ _ _ | refine zBs ?_ (by omega) _ _ | refine zBa ?_ _ | refine zBn ?_ _ | refine zBd ?_))) (But.of_below b1)
  have zk1 : w.heap.size < w1.heap.size := by have := b1.size; first | omega | (simp at this; omega)
  have Hk1 : C8 w1 (w.heap.size) (.int .i64 0) (.int .i64 0) (.int .i64 0) (.int .i64 0) (.int .i64 0) (.int .i64 0) (.string ⟨#[]⟩) (.slice none 0 0) := by refine ⟨?_, ?_, ?_, ?_, ?_, ?_, ?_, ?_⟩ <;> exact (But.of_below b1).cell nk (by simp [go_sem])
  obtain ⟨k10, k11, k12, k13, k14, k15, k16, k17⟩ := Hk1
  have Hkf1 : F8 w1 (w.heap.size) := by refine ⟨?_, ?_, ?_, ?_, ?_, ?_, ?_, ?_⟩ <;> exact (But.of_below b1).frozen nk (by first | omega | (simp; done) | (simp; omega)) (by simp [go_sem])
  obtain ⟨kf10, kf11, kf12, kf13, kf14, kf15, kf16, kf17⟩ := Hkf1
  have y1 : w.heap.size < w1.heap.size := zk1
  have HR1 : Hid (RS w1 R A cap L E (.run p)) := Lib.hid (RS.below (by (with_reducible repeat' (first | exact HR.out | refine zRf ?_ nk _ _ | refine zRa ?_ _ | refine zRn ?_ _ | refine zRd ?_))) b1)
  clear b1
  go_wp2_with fail
  refine (rmark_any (R := R) (A := A) (cap := cap) (L := L) (E := E) (m := 1) (st := .run p) ⟨#[58]⟩ hL (by omega) (by (with_reducible repeat' (first | exact HR1.out | refine zRf ?_ nk _ _ | refine zRa ?_ _ | refine zRn ?_ _ | refine zRd ?_))) (HT.out.but (by (with_reducible repeat' (first | exact h1 | refine zBr ?_ _ _ | refine zBs ?_ (by omega) _ _ | refine zBa ?_ _ | refine zBn ?_ _ | refine zBd ?_))))).mono ?_; rintro e w2 ⟨rfl, b2⟩
  have h2 : But R w w2 := But.trans (by (with_reducible repeat' (first | exact h1 | refine zBr ?_ _ _ | refine zBs ?_ (by omega) _ _ | refine zBa ?_ _ | refine zBn ?_ _ | refine zBd ?_))) (But.of_below b2)
  have zk2 : w.heap.size < w2.heap.size := by have := b2.size; first | omega | (simp at this; omega)
  have Hk2 := c8_lift (B := w.heap.size) (fun j v hv => (But.of_below b2).cell nk (by with_reducible repeat' (first | exact hv | refine zCs ?_ (by omega) _ _ | refine zCa ?_ _ | refine zCn ?_ _ | refine zCd ?_))) k10 k11 k12 k13 k14 k15 k16 k17
  obtain ⟨k20, k21, k22, k23, k24, k25, k26, k27⟩ := Hk2
  have Hkf2 := f8_lift (B := w.heap.size) (fun j hv => (But.of_below b2).frozen nk (by first | omega | (simp; done) | (simp; omega)) (by with_reducible repeat' (first | exact hv | refine zFs ?_ (by omega) _ _ | refine zFa ?_ (by first | omega | (simp; omega)) _ | refine zFn ?_ _ | refine zFd ?_))) kf10 kf11 kf12 kf13 kf14 kf15 kf16 kf17
  obtain ⟨kf20, kf21, kf22, kf23, kf24, kf25, kf26, kf27⟩ := Hkf2
  have y2 : w.heap.size < w2.heap.size := zk2
  have HR2 : Hid (RS w2 R A cap L E (.run p)) := Lib.hid (RS.below (by (with_reducible repeat' (first | exact HR1.out | refine zRf ?_ nk _ _ | refine zRa ?_ _ | refine zRn ?_ _ | refine zRd ?_))) b2)
  clear b2 k10 k11 k12 k13 k14 k15 k16 k17 kf10 kf11 kf12 kf13 kf14 kf15 kf16 kf17 zk1
  have e0 : endS L (.run p) = true := HE.out
  have e1 : markR L 1 [58] (.run p) = false := HC.out
  have HS2 : Hid (RS (w2.setCell ⟨R, 1, none⟩ (.int .i64 ((p : Int) + 1))) R A cap L E (.run (p + 1))) := Lib.hid (HR2.out.step hp (by omega))
  obtain ⟨_, _, hc⟩ := HR2.out
  have c0 := hc.c0
  have c1 := hc.c1
  have cf1 := hc.f1
  clear hc
  obtain ⟨ga, hA, hgaR, hgal, t0, t1, t2, t3, t4, t5⟩ := (HT.out.but h2).at HX.out
  rw [hA] at c0
  clear hA
  have zR2 : R < w2.heap.size := by omega
  have na : w2.heap.size ≠ R := by omega
  go_wp2_with fail
  go_region
  go_wp2_with fail
  clear c0 c1 cf1 t0 t1 t2 t3 t4 t5
  refine (rmust_any (R := R) (A := A) (cap := cap) (L := L) (E := E) (st := .run (p + 1)) ⟨#[58]⟩ hL (by (with_reducible repeat' (first | exact HS2.out | refine zRf ?_ nk _ _ | refine zRf ?_ na _ _ | refine zRa ?_ _ | refine zRn ?_ _ | refine zRd ?_))) (HT.out.but (by (with_reducible repeat' (first | exact h2 | refine zBr ?_ _ _ | refine zBs ?_ (by omega) _ _ | refine zBa ?_ _ | refine zBn ?_ _ | refine zBd ?_))))).mono ?_; rintro e w3 ⟨rfl, r3, b3⟩
  have h3 : But R w w3 := But.trans (by (with_reducible repeat' (first | exact h2 | refine zBr ?_ _ _ | refine zBs ?_ (by omega) _ _ | refine zBa ?_ _ | refine zBn ?_ _ | refine zBd ?_))) b3
  have zk3 : w.heap.size < w3.heap.size := by have := b3.size; first | omega | (simp at this; omega)
  have Hk3 := c8_lift (B := w.heap.size) (fun j v hv => b3.cell nk (by with_reducible repeat' (first | exact hv | refine zCs ?_ (by omega) _ _ | refine zCa ?_ _ | refine zCn ?_ _ | refine zCd ?_))) k20 k21 k22 k23 k24 k25 k26 k27
  obtain ⟨k30, k31, k32, k33, k34, k35, k36, k37⟩ := Hk3
  have Hkf3 := f8_lift (B := w.heap.size) (fun j hv => b3.frozen nk (by first | omega | (simp; done) | (simp; omega)) (by with_reducible repeat' (first | exact hv | refine zFs ?_ (by omega) _ _ | refine zFa ?_ (by first | omega | (simp; omega)) _ | refine zFn ?_ _ | refine zFd ?_))) kf20 kf21 kf22 kf23 kf24 kf25 kf26 kf27
  obtain ⟨kf30, kf31, kf32, kf33, kf34, kf35, kf36, kf37⟩ := Hkf3
  have za3 : w2.heap.size < w3.heap.size := by have := b3.size; first | omega | (simp at this; omega)
  have a30 : w3.cell? ⟨w2.heap.size, 0, none⟩ = some (.int .i64 t.kind) := b3.cell na (by simp [go_sem])
  have a31 : w3.cell? ⟨w2.heap.size, 1, none⟩ = some (.int .i64 t.num) := b3.cell na (by simp [go_sem])
  have a32 : w3.cell? ⟨w2.heap.size, 2, none⟩ = some (.int .i64 t.col) := b3.cell na (by simp [go_sem])
  have a33 : w3.cell? ⟨w2.heap.size, 3, none⟩ = some (.int .i64 t.row) := b3.cell na (by simp [go_sem])
  have a34 : w3.cell? ⟨w2.heap.size, 4, none⟩ = some (.string ⟨t.text.toArray⟩) := b3.cell na (by simp [go_sem])
  have a35 : w3.cell? ⟨w2.heap.size, 5, none⟩ = some (.int .i64 (t.frm : Int)) := b3.cell na (by simp [go_sem])
  have y3 : w.heap.size < w3.heap.size := zk3
  have HR3 : Hid (RS w3 R A cap L E (mustS L E [58] (.run (p + 1)))) := Lib.hid r3
  clear b3 r3 k20 k21 k22 k23 k24 k25 k26 k27 kf20 kf21 kf22 kf23 kf24 kf25 kf26 kf27 zk2
  have y3l : w2.heap.size < w3.heap.size := za3
  have E3 : mustS L E [58] (.run (p + 1)) = .out (whr L E (p + 1)) := if_neg (by rw [HC.out]; decide)
  rw [E3] at HR3
  go_wp2_with fail
  refine (rend_any (R := R) (A := A) (cap := cap) (L := L) (E := E) (st := .out (whr L E (p + 1))) hL (by (with_reducible repeat' (first | exact HR3.out | refine zRf ?_ nk _ _ | refine zRf ?_ na _ _ | refine zRa ?_ _ | refine zRn ?_ _ | refine zRd ?_))) (HT.out.but (by (with_reducible repeat' (first | exact h3 | refine zBr ?_ _ _ | refine zBs ?_ (by omega) _ _ | refine zBa ?_ _ | refine zBn ?_ _ | refine zBd ?_))))).mono ?_; rintro e w4 ⟨rfl, b4⟩
  have h4 : But R w w4 := But.trans (by (with_reducible repeat' (first | exact h3 | refine zBr ?_ _ _ | refine zBs ?_ (by omega) _ _ | refine zBa ?_ _ | refine zBn ?_ _ | refine zBd ?_))) (But.of_below b4)
  have zk4 : w.heap.size < w4.heap.size := by have := b4.size; first | omega | (simp at this; omega)
  have Hk4 := c8_lift (B := w.heap.size) (fun j v hv => (But.of_below b4).cell nk (by with_reducible repeat' (first | exact hv | refine zCs ?_ (by omega) _ _ | refine zCa ?_ _ | refine zCn ?_ _ | refine zCd ?_))) k30 k31 k32 k33 k34 k35 k36 k37
  obtain ⟨k40, k41, k42, k43, k44, k45, k46, k47⟩ := Hk4
  have Hkf4 := f8_lift (B := w.heap.size) (fun j hv => (But.of_below b4).frozen nk (by first | omega | (simp; done) | (simp; omega)) (by with_reducible repeat' (first | exact hv | refine zFs ?_ (by omega) _ _ | refine zFa ?_ (by first | omega | (simp; omega)) _ | refine zFn ?_ _ | refine zFd ?_))) kf30 kf31 kf32 kf33 kf34 kf35 kf36 kf37
  obtain ⟨kf40, kf41, kf42, kf43, kf44, kf45, kf46, kf47⟩ := Hkf4
  have za4 : w2.heap.size < w4.heap.size := by have := b4.size; first | omega | (simp at this; omega)
  have a40 : w4.cell? ⟨w2.heap.size, 0, none⟩ = some (.int .i64 t.kind) := (But.of_below b4).cell na (by with_reducible repeat' (first | exact a30 | refine zCs ?_ (by omega) _ _ | refine zCa ?_ _ | refine zCn ?_ _ | refine zCd ?_))
  have a41 : w4.cell? ⟨w2.heap.size, 1, none⟩ = some (.int .i64 t.num) := (But.of_below b4).cell na (by with_reducible repeat' (first | exact a31 | refine zCs ?_ (by omega) _ _ | refine zCa ?_ _ | refine zCn ?_ _ | refine zCd ?_))
  have a42 : w4.cell? ⟨w2.heap.size, 2, none⟩ = some (.int .i64 t.col) := (But.of_below b4).cell na (by with_reducible repeat' (first | exact a32 | refine zCs ?_ (by omega) _ _ | refine zCa ?_ _ | refine zCn ?_ _ | refine zCd ?_))
  have a43 : w4.cell? ⟨w2.heap.size, 3, none⟩ = some (.int .i64 t.row) := (But.of_below b4).cell na (by with_reducible repeat' (first | exact a33 | refine zCs ?_ (by omega) _ _ | refine zCa ?_ _ | refine zCn ?_ _ | refine zCd ?_))
  have a44 : w4.cell? ⟨w2.heap.size, 4, none⟩ = some (.string ⟨t.text.toArray⟩) := (But.of_below b4).cell na (by with_reducible repeat' (first | exact a34 | refine zCs ?_ (by omega) _ _ | refine zCa ?_ _ | refine zCn ?_ _ | refine zCd ?_))
  have a45 : w4.cell? ⟨w2.heap.size, 5, none⟩ = some (.int .i64 (t.frm : Int)) := (But.of_below b4).cell na (by with_reducible repeat' (first | exact a35 | refine zCs ?_ (by omega) _ _ | refine zCa ?_ _ | refine zCn ?_ _ | refine zCd ?_))
  have y4 : w.heap.size < w4.heap.size := zk4
  have HR4 : Hid (RS w4 R A cap L E (.out (whr L E (p + 1)))) := Lib.hid (RS.below (by (with_reducible repeat' (first | exact HR3.out | refine zRf ?_ nk _ _ | refine zRf ?_ na _ _ | refine zRa ?_ _ | refine zRn ?_ _ | refine zRd ?_))) b4)
  clear b4 k30 k31 k32 k33 k34 k35 k36 k37 kf30 kf31 kf32 kf33 kf34 kf35 kf36 kf37 zk3 a30 a31 a32 a33 a34 a35 za3
  have e4 : endS L (.out (whr L E (p + 1))) = false := rfl
  go_wp2_with fail
  refine (rfail_any (R := R) (A := A) (cap := cap) (L := L) (E := E) (st := .out (whr L E (p + 1))) hL (by (with_reducible repeat' (first | exact HR4.out | refine zRf ?_ nk _ _ | refine zRf ?_ na _ _ | refine zRa ?_ _ | refine zRn ?_ _ | refine zRd ?_))) (HT.out.but (by (with_reducible repeat' (first | exact h4 | refine zBr ?_ _ _ | refine zBs ?_ (by omega) _ _ | refine zBa ?_ _ | refine zBn ?_ _ | refine zBd ?_))))).mono ?_; rintro e w5 ⟨rfl, r5, b5⟩
  have h5 : But R w w5 := But.trans (by (with_reducible repeat' (first | exact h4 | refine zBr ?_ _ _ | refine zBs ?_ (by omega) _ _ | refine zBa ?_ _ | refine zBn ?_ _ | refine zBd ?_))) b5
  have zk5 : w.heap.size < w5.heap.size := by have := b5.size; first | omega | (simp at this; omega)
  have Hk5 := c8_lift (B := w.heap.size) (fun j v hv => b5.cell nk (by with_reducible repeat' (first | exact hv | refine zCs ?_ (by omega) _ _ | refine zCa ?_ _ | refine zCn ?_ _ | refine zCd ?_))) k40 k41 k42 k43 k44 k45 k46 k47
  obtain ⟨k50, k51, k52, k53, k54, k55, k56, k57⟩ := Hk5
  have Hkf5 := f8_lift (B := w.heap.size) (fun j hv => b5.frozen nk (by first | omega | (simp; done) | (simp; omega)) (by with_reducible repeat' (first | exact hv | refine zFs ?_ (by omega) _ _ | refine zFa ?_ (by first | omega | (simp; omega)) _ | refine zFn ?_ _ | refine zFd ?_))) kf40 kf41 kf42 kf43 kf44 kf45 kf46 kf47
  obtain ⟨kf50, kf51, kf52, kf53, kf54, kf55, kf56, kf57⟩ := Hkf5
  have za5 : w2.heap.size < w5.heap.size := by have := b5.size; first | omega | (simp at this; omega)
  have a50 : w5.cell? ⟨w2.heap.size, 0, none⟩ = some (.int .i64 t.kind) := b5.cell na (by with_reducible repeat' (first | exact a40 | refine zCs ?_ (by omega) _ _ | refine zCa ?_ _ | refine zCn ?_ _ | refine zCd ?_))
  have a51 : w5.cell? ⟨w2.heap.size, 1, none⟩ = some (.int .i64 t.num) := b5.cell na (by with_reducible repeat' (first | exact a41 | refine zCs ?_ (by omega) _ _ | refine zCa ?_ _ | refine zCn ?_ _ | refine zCd ?_))
  have a52 : w5.cell? ⟨w2.heap.size, 2, none⟩ = some (.int .i64 t.col) := b5.cell na (by with_reducible repeat' (first | exact a42 | refine zCs ?_ (by omega) _ _ | refine zCa ?_ _ | refine zCn ?_ _ | refine zCd ?_))
  have a53 : w5.cell? ⟨w2.heap.size, 3, none⟩ = some (.int .i64 t.row) := b5.cell na (by with_reducible repeat' (first | exact a43 | refine zCs ?_ (by omega) _ _ | refine zCa ?_ _ | refine zCn ?_ _ | refine zCd ?_))
  have a54 : w5.cell? ⟨w2.heap.size, 4, none⟩ = some (.string ⟨t.text.toArray⟩) := b5.cell na (by with_reducible repeat' (first | exact a44 | refine zCs ?_ (by omega) _ _ | refine zCa ?_ _ | refine zCn ?_ _ | refine zCd ?_))
  have a55 : w5.cell? ⟨w2.heap.size, 5, none⟩ = some (.int .i64 (t.frm : Int)) := b5.cell na (by with_reducible repeat' (first | exact a45 | refine zCs ?_ (by omega) _ _ | refine zCa ?_ _ | refine zCn ?_ _ | refine zCd ?_))
  have y5 : w.heap.size < w5.heap.size := zk5
  have HR5 : Hid (RS w5 R A cap L E (.out (whr L E (p + 1)))) := Lib.hid r5
  clear b5 r5 k40 k41 k42 k43 k44 k45 k46 k47 kf40 kf41 kf42 kf43 kf44 kf45 kf46 kf47 zk4 a40 a41 a42 a43 a44 a45 za4
  go_wp2_with fail
  exact bodyPost_ret (v := .agg #[.int .i64 0, .int .i64 0, .int .i64 0, .int .i64 0, .int .i64 0, .int .i64 0, .string ⟨#[]⟩, .slice none 0 0]) (by simp [results, Tryd.results90, go_sem, k50, k51, k52, k53, k54, k55, k56, k57]) rfl ⟨⟨0, 0, 0, 0, 0, 0, ⟨#[]⟩, none, 0, 0⟩, rfl, trivial, by (with_reducible repeat' (first | exact HR5.out | refine zRf ?_ nk _ _ | refine zRf ?_ na _ _ | refine zRa ?_ _ | refine zRn ?_ _ | refine zRd ?_)), by (with_reducible repeat' (first | exact h5 | refine zBr ?_ _ _ | refine zBs ?_ (by omega) _ _ | refine zBa ?_ _ | refine zBn ?_ _ | refine zBd ?_))⟩
set_option maxHeartbeats 2000000 in
set_option maxRecDepth 10000 in
theorem ritem_off (cb : Bool) (R : Nat) (A : Option Addr) (cap : Nat) (L : List Tok) (E : Nat) (hL : L.length ≤ 1000) (w : World) (p : Nat) (hr : RS w R A cap L E (.run p)) (hk : TK w R A L) (he : isEnd L p = true) (hc : isMark L (p + 1) [58] = true) (t : Tok) (ht : L[p]? = some t) (h2 : isEnd L (p + 2) = false) : Calls Tryd.prog 90 #[.pointer (some ⟨R, 0, none⟩), .bool cb] w fun e w' => ∃ x : V8, e = .returned x.val ∧ TV w' (fun b => w.heap.size ≤ b) x (none) ∧ RS w' R A cap L E (.out (whr L E (p + 2))) ∧ But R w w' := by
  cases cb
  all_goals
    have H2 := Lib.hid h2
    clear h2
    have HR := Lib.hid hr
    have HT := Lib.hid hk
    have hlt : R < w.heap.size := hr.lt
    have nk : w.heap.size ≠ R := by omega
    clear hr hk
    have HE := Lib.hid he
    have HC := Lib.hid hc
    have HX := Lib.hid ht
    have hp : p < L.length := (List.getElem?_eq_some_iff.1 ht).1
    clear he hc ht
    go_enter Tryd.func90, Tryd.ntmps90
    go_wp2_with fail
    refine (rend_any (R := R) (A := A) (cap := cap) (L := L) (E := E) (st := .run p) hL (by (with_reducible repeat' (first | exact HR.out | refine zRf ?_ nk _ _ | refine zRa ?_ _ | refine zRn ?_ _ | refine zRd ?_))) (HT.out.but (by (with_reducible repeat' (first | exact But.refl _ _ | refine zBr ?_ _ _ | refine zBs ?_ (by omega) _ _ | refine zBa ?_ _ | refine zBn ?_ _ | refine zBd ?_))))).mono ?_; rintro e w1 ⟨rfl, b1⟩
    have h1 : But R w w1 := But.trans (by (with_reducible repeat' (first | exact But.refl _ _ | refine zBr ?_ _ _ | refine zBs ?_ (by omega) _ _ | refine zBa ?_ _ | refine zBn ?_ _ | refine zBd ?_))) (But.of_below b1)
    have zk1 : w.heap.size < w1.heap.size := by have := b1.size; first | omega | (simp at this; omega)
    have Hk1 : C8 w1 (w.heap.size) (.int .i64 0) (.int .i64 0) (.int .i64 0) (.int .i64 0) (.int .i64 0) (.int .i64 0) (.string ⟨#[]⟩) (.slice none 0 0) := by refine ⟨?_, ?_, ?_, ?_, ?_, ?_, ?_, ?_⟩ <;> exact (But.of_below b1).cell nk (by simp [go_sem])
    obtain ⟨k10, k11, k12, k13, k14, k15, k16, k17⟩ := Hk1
    have Hkf1 : F8 w1 (w.heap.size) := by refine ⟨?_, ?_, ?_, ?_, ?_, ?_, ?_, ?_⟩ <;> exact (But.of_below b1).frozen nk (by first | omega | (simp; done) | (simp; omega)) (by simp [go_sem])
    obtain ⟨kf10, kf11, kf12, kf13, kf14, kf15, kf16, kf17⟩ := Hkf1
    have y1 : w.heap.size < w1.heap.size := zk1
    have HR1 : Hid (RS w1 R A cap L E (.run p)) := Lib.hid (RS.below (by (with_reducible repeat' (first | exact HR.out | refine zRf ?_ nk _ _ | refine zRa ?_ _ | refine zRn ?_ _ | refine zRd ?_))) b1)
    clear b1
    go_wp2_with fail
    refine (rmark_any (R := R) (A := A) (cap := cap) (L := L) (E := E) (m := 1) (st := .run p) ⟨#[58]⟩ hL (by omega) (by (with_reducible repeat' (first | exact HR1.out | refine zRf ?_ nk _ _ | refine zRa ?_ _ | refine zRn ?_ _ | refine zRd ?_))) (HT.out.but (by (with_reducible repeat' (first | exact h1 | refine zBr ?_ _ _ | refine zBs ?_ (by omega) _ _ | refine zBa ?_ _ | refine zBn ?_ _ | refine zBd ?_))))).mono ?_; rintro e w2 ⟨rfl, b2⟩
    have h2 : But R w w2 := But.trans (by (with_reducible repeat' (first | exact h1 | refine zBr ?_ _ _ | refine zBs ?_ (by omega) _ _ | refine zBa ?_ _ | refine zBn ?_ _ | refine zBd ?_))) (But.of_below b2)
    have zk2 : w.heap.size < w2.heap.size := by have := b2.size; first | omega | (simp at this; omega)
    have Hk2 := c8_lift (B := w.heap.size) (fun j v hv => (But.of_below b2).cell nk (by with_reducible repeat' (first | exact hv | refine zCs ?_ (by omega) _ _ | refine zCa ?_ _ | refine zCn ?_ _ | refine zCd ?_))) k10 k11 k12 k13 k14 k15 k16 k17
    obtain ⟨k20, k21, k22, k23, k24, k25, k26, k27⟩ := Hk2
    have Hkf2 := f8_lift (B := w.heap.size) (fun j hv => (But.of_below b2).frozen nk (by first | omega | (simp; done) | (simp; omega)) (by with_reducible repeat' (first | exact hv | refine zFs ?_ (by omega) _ _ | refine zFa ?_ (by first | omega | (simp; omega)) _ | refine zFn ?_ _ | refine zFd ?_))) kf10 kf11 kf12 kf13 kf14 kf15 kf16 kf17
    obtain ⟨kf20, kf21, kf22, kf23, kf24, kf25, kf26, kf27⟩ := Hkf2
    have y2 : w.heap.size < w2.heap.size := zk2
    have HR2 : Hid (RS w2 R A cap L E (.run p)) := Lib.hid (RS.below (by (with_reducible repeat' (first | exact HR1.out | refine zRf ?_ nk _ _ | refine zRa ?_ _ | refine zRn ?_ _ | refine zRd ?_))) b2)
    clear b2 k10 k11 k12 k13 k14 k15 k16 k17 kf10 kf11 kf12 kf13 kf14 kf15 kf16 kf17 zk1
    have e0 : endS L (.run p) = true := HE.out
    have e1 : markR L 1 [58] (.run p) = true := HC.out
    have HS2 : Hid (RS (w2.setCell ⟨R, 1, none⟩ (.int .i64 ((p : Int) + 1))) R A cap L E (.run (p + 1))) := Lib.hid (HR2.out.step hp (by omega))
    obtain ⟨_, _, hc⟩ := HR2.out
    have c0 := hc.c0
    have c1 := hc.c1
    have cf1 := hc.f1
    clear hc
    obtain ⟨ga, hA, hgaR, hgal, t0, t1, t2, t3, t4, t5⟩ := (HT.out.but h2).at HX.out
    rw [hA] at c0
    clear hA
    have zR2 : R < w2.heap.size := by omega
    have na : w2.heap.size ≠ R := by omega
    go_wp2_with fail
    go_region
    go_wp2_with fail
    clear c0 c1 cf1 t0 t1 t2 t3 t4 t5
    refine (rmust_any (R := R) (A := A) (cap := cap) (L := L) (E := E) (st := .run (p + 1)) ⟨#[58]⟩ hL (by (with_reducible repeat' (first | exact HS2.out | refine zRf ?_ nk _ _ | refine zRf ?_ na _ _ | refine zRa ?_ _ | refine zRn ?_ _ | refine zRd ?_))) (HT.out.but (by (with_reducible repeat' (first | exact h2 | refine zBr ?_ _ _ | refine zBs ?_ (by omega) _ _ | refine zBa ?_ _ | refine zBn ?_ _ | refine zBd ?_))))).mono ?_; rintro e w3 ⟨rfl, r3, b3⟩
    have h3 : But R w w3 := But.trans (by (with_reducible repeat' (first | exact h2 | refine zBr ?_ _ _ | refine zBs ?_ (by omega) _ _ | refine zBa ?_ _ | refine zBn ?_ _ | refine zBd ?_))) b3
    have zk3 : w.heap.size < w3.heap.size := by have := b3.size; first | omega | (simp at this; omega)
    have Hk3 := c8_lift (B := w.heap.size) (fun j v hv => b3.cell nk (by with_reducible repeat' (first | exact hv | refine zCs ?_ (by omega) _ _ | refine zCa ?_ _ | refine zCn ?_ _ | refine zCd ?_))) k20 k21 k22 k23 k24 k25 k26 k27
    obtain ⟨k30, k31, k32, k33, k34, k35, k36, k37⟩ := Hk3
    have Hkf3 := f8_lift (B := w.heap.size) (fun j hv => b3.frozen nk (by first | omega | (simp; done) | (simp; omega)) (by with_reducible repeat' (first | exact hv | refine zFs ?_ (by omega) _ _ | refine zFa ?_ (by first | omega | (simp; omega)) _ | refine zFn ?_ _ | refine zFd ?_))) kf20 kf21 kf22 kf23 kf24 kf25 kf26 kf27
    obtain ⟨kf30, kf31, kf32, kf33, kf34, kf35, kf36, kf37⟩ := Hkf3
    have za3 : w2.heap.size < w3.heap.size := by have := b3.size; first | omega | (simp at this; omega)
    have a30 : w3.cell? ⟨w2.heap.size, 0, none⟩ = some (.int .i64 t.kind) := b3.cell na (by simp [go_sem])
    have a31 : w3.cell? ⟨w2.heap.size, 1, none⟩ = some (.int .i64 t.num) := b3.cell na (by simp [go_sem])
    have a32 : w3.cell? ⟨w2.heap.size, 2, none⟩ = some (.int .i64 t.col) := b3.cell na (by simp [go_sem])
    have a33 : w3.cell? ⟨w2.heap.size, 3, none⟩ = some (.int .i64 t.row) := b3.cell na (by simp [go_sem])
    have a34 : w3.cell? ⟨w2.heap.size, 4, none⟩ = some (.string ⟨t.text.toArray⟩) := b3.cell na (by simp [go_sem])
    have a35 : w3.cell? ⟨w2.heap.size, 5, none⟩ = some (.int .i64 (t.frm : Int)) := b3.cell na (by simp [go_sem])
    have y3 : w.heap.size < w3.heap.size := zk3
    have HR3 : Hid (RS w3 R A cap L E (mustS L E [58] (.run (p + 1)))) := Lib.hid r3
    clear b3 r3 k20 k21 k22 k23 k24 k25 k26 k27 kf20 kf21 kf22 kf23 kf24 kf25 kf26 kf27 zk2
    have y3l : w2.heap.size < w3.heap.size := za3
    have E3 : mustS L E [58] (.run (p + 1)) = .run (p + 2) := if_pos HC.out
    rw [E3] at HR3
    go_wp2_with fail
    refine (rend_any (R := R) (A := A) (cap := cap) (L := L) (E := E) (st := .run (p + 2)) hL (by (with_reducible repeat' (first | exact HR3.out | refine zRf ?_ nk _ _ | refine zRf ?_ na _ _ | refine zRa ?_ _ | refine zRn ?_ _ | refine zRd ?_))) (HT.out.but (by (with_reducible repeat' (first | exact h3 | refine zBr ?_ _ _ | refine zBs ?_ (by omega) _ _ | refine zBa ?_ _ | refine zBn ?_ _ | refine zBd ?_))))).mono ?_; rintro e w4 ⟨rfl, b4⟩
    have h4 : But R w w4 := But.trans (by (with_reducible repeat' (first | exact h3 | refine zBr ?_ _ _ | refine zBs ?_ (by omega) _ _ | refine zBa ?_ _ | refine zBn ?_ _ | refine zBd ?_))) (But.of_below b4)
    have zk4 : w.heap.size < w4.heap.size := by have := b4.size; first | omega | (simp at this; omega)
    have Hk4 := c8_lift (B := w.heap.size) (fun j v hv => (But.of_below b4).cell nk (by with_reducible repeat' (first | exact hv | refine zCs ?_ (by omega) _ _ | refine zCa ?_ _ | refine zCn ?_ _ | refine zCd ?_))) k30 k31 k32 k33 k34 k35 k36 k37
    obtain ⟨k40, k41, k42, k43, k44, k45, k46, k47⟩ := Hk4
    have Hkf4 := f8_lift (B := w.heap.size) (fun j hv => (But.of_below b4).frozen nk (by first | omega | (simp; done) | (simp; omega)) (by with_reducible repeat' (first | exact hv | refine zFs ?_ (by omega) _ _ | refine zFa ?_ (by first | omega | (simp; omega)) _ | refine zFn ?_ _ | refine zFd ?_))) kf30 kf31 kf32 kf33 kf34 kf35 kf36 kf37
    obtain ⟨kf40, kf41, kf42, kf43, kf44, kf45, kf46, kf47⟩ := Hkf4
    have za4 : w2.heap.size < w4.heap.size := by have := b4.size; first | omega | (simp at this; omega)
    have a40 : w4.cell? ⟨w2.heap.size, 0, none⟩ = some (.int .i64 t.kind) := (But.of_below b4).cell na (by with_reducible repeat' (first | exact a30 | refine zCs ?_ (by omega) _ _ | refine zCa ?_ _ | refine zCn ?_ _ | refine zCd ?_))
    have a41 : w4.cell? ⟨w2.heap.size, 1, none⟩ = some (.int .i64 t.num) := (But.of_below b4).cell na (by with_reducible repeat' (first | exact a31 | refine zCs ?_ (by omega) _ _ | refine zCa ?_ _ | refine zCn ?_ _ | refine zCd ?_))
    have a42 : w4.cell? ⟨w2.heap.size, 2, none⟩ = some (.int .i64 t.col) := (But.of_below b4).cell na (by with_reducible repeat' (first | exact a32 | refine zCs ?_ (by omega) _ _ | refine zCa ?_ _ | refine zCn ?_ _ | refine zCd ?_))
    have a43 : w4.cell? ⟨w2.heap.size, 3, none⟩ = some (.int .i64 t.row) := (But.of_below b4).cell na (by with_reducible repeat' (first | exact a33 | refine zCs ?_ (by omega) _ _ | refine zCa ?_ _ | refine zCn ?_ _ | refine zCd ?_))
    have a44 : w4.cell? ⟨w2.heap.size, 4, none⟩ = some (.string ⟨t.text.toArray⟩) := (But.of_below b4).cell na (by with_reducible repeat' (first | exact a34 | refine zCs ?_ (by omega) _ _ | refine zCa ?_ _ | refine zCn ?_ _ | refine zCd ?_))
    have a45 : w4.cell? ⟨w2.heap.size, 5, none⟩ = some (.int .i64 (t.frm : Int)) := (But.of_below b4).cell na (by with_reducible repeat' (first | exact a35 | refine zCs ?_ (by omega) _ _ | refine zCa ?_ _ | refine zCn ?_ _ | refine zCd ?_))
    have y4 : w.heap.size < w4.heap.size := zk4
    have HR4 : Hid (RS w4 R A cap L E (.run (p + 2))) := Lib.hid (RS.below (by (with_reducible repeat' (first | exact HR3.out | refine zRf ?_ nk _ _ | refine zRf ?_ na _ _ | refine zRa ?_ _ | refine zRn ?_ _ | refine zRd ?_))) b4)
    clear b4 k30 k31 k32 k33 k34 k35 k36 k37 kf30 kf31 kf32 kf33 kf34 kf35 kf36 kf37 zk3 a30 a31 a32 a33 a34 a35 za3
    have e4 : endS L (.run (p + 2)) = false := H2.out
    go_wp2_with fail
    refine (rfail_any (R := R) (A := A) (cap := cap) (L := L) (E := E) (st := .run (p + 2)) hL (by (with_reducible repeat' (first | exact HR4.out | refine zRf ?_ nk _ _ | refine zRf ?_ na _ _ | refine zRa ?_ _ | refine zRn ?_ _ | refine zRd ?_))) (HT.out.but (by (with_reducible repeat' (first | exact h4 | refine zBr ?_ _ _ | refine zBs ?_ (by omega) _ _ | refine zBa ?_ _ | refine zBn ?_ _ | refine zBd ?_))))).mono ?_; rintro e w5 ⟨rfl, r5, b5⟩
    have h5 : But R w w5 := But.trans (by (with_reducible repeat' (first | exact h4 | refine zBr ?_ _ _ | refine zBs ?_ (by omega) _ _ | refine zBa ?_ _ | refine zBn ?_ _ | refine zBd ?_))) b5
    have zk5 : w.heap.size < w5.heap.size := by have := b5.size; first | omega | (simp at this; omega)
    have Hk5 := c8_lift (B := w.heap.size) (fun j v hv => b5.cell nk (by with_reducible repeat' (first | exact hv | refine zCs ?_ (by omega) _ _ | refine zCa ?_ _ | refine zCn ?_ _ | refine zCd ?_))) k40 k41 k42 k43 k44 k45 k46 k47
    obtain ⟨k50, k51, k52, k53, k54, k55, k56, k57⟩ := Hk5
    have Hkf5 := f8_lift (B := w.heap.size) (fun j hv => b5.frozen nk (by first | omega | (simp; done) | (simp; omega)) (by with_reducible repeat' (first | exact hv | refine zFs ?_ (by omega) _ _ | refine zFa ?_ (by first | omega | (simp; omega)) _ | refine zFn ?_ _ | refine zFd ?_))) kf40 kf41 kf42 kf43 kf44 kf45 kf46 kf47
    obtain ⟨kf50, kf51, kf52, kf53, kf54, kf55, kf56, kf57⟩ := Hkf5
    have za5 : w2.heap.size < w5.heap.size := by have := b5.size; first | omega | (simp at this; omega)
    have a50 : w5.cell? ⟨w2.heap.size, 0, none⟩ = some (.int .i64 t.kind) := b5.cell na (by with_reducible repeat' (first | exact a40 | refine zCs ?_ (by omega) _ _ | refine zCa ?_ _ | refine zCn ?_ _ | refine zCd ?_))
    have a51 : w5.cell? ⟨w2.heap.size, 1, none⟩ = some (.int .i64 t.num) := b5.cell na (by with_reducible repeat' (first | exact a41 | refine zCs ?_ (by omega) _ _ | refine zCa ?_ _ | refine zCn ?_ _ | refine zCd ?_))
    have a52 : w5.cell? ⟨w2.heap.size, 2, none⟩ = some (.int .i64 t.col) := b5.cell na (by with_reducible repeat' (first | exact a42 | refine zCs ?_ (by omega) _ _ | refine zCa ?_ _ | refine zCn ?_ _ | refine zCd ?_))
    have a53 : w5.cell? ⟨w2.heap.size, 3, none⟩ = some (.int .i64 t.row) := b5.cell na (by with_reducible repeat' (first | exact a43 | refine zCs ?_ (by omega) _ _ | refine zCa ?_ _ | refine zCn ?_ _ | refine zCd ?_))
    have a54 : w5.cell? ⟨w2.heap.size, 4, none⟩ = some (.string ⟨t.text.toArray⟩) := b5.cell na (by with_reducible repeat' (first | exact a44 | refine zCs ?_ (by omega) _ _ | refine zCa ?_ _ | refine zCn ?_ _ | refine zCd ?_))
    have a55 : w5.cell? ⟨w2.heap.size, 5, none⟩ = some (.int .i64 (t.frm : Int)) := b5.cell na (by with_reducible repeat' (first | exact a45 | refine zCs ?_ (by omega) _ _ | refine zCa ?_ _ | refine zCn ?_ _ | refine zCd ?_))
    have y5 : w.heap.size < w5.heap.size := zk5
    have HR5 : Hid (RS w5 R A cap L E (.out (whr L E (p + 2)))) := Lib.hid r5
    clear b5 r5 k40 k41 k42 k43 k44 k45 k46 k47 kf40 kf41 kf42 kf43 kf44 kf45 kf46 kf47 zk4 a40 a41 a42 a43 a44 a45 za4
    go_wp2_with fail
    exact bodyPost_ret (v := .agg #[.int .i64 0, .int .i64 0, .int .i64 0, .int .i64 0, .int .i64 0, .int .i64 0, .string ⟨#[]⟩, .slice none 0 0]) (by simp [results, Tryd.results90, go_sem, k50, k51, k52, k53, k54, k55, k56, k57]) rfl ⟨⟨0, 0, 0, 0, 0, 0, ⟨#[]⟩, none, 0, 0⟩, rfl, trivial, by (with_reducible repeat' (first | exact HR5.out | refine zRf ?_ nk _ _ | refine zRf ?_ na _ _ | refine zRa ?_ _ | refine zRn ?_ _ | refine zRd ?_)), by (with_reducible repeat' (first | exact h5 | refine zBr ?_ _ _ | refine zBs ?_ (by omega) _ _ | refine zBa ?_ _ | refine zBn ?_ _ | refine zBd ?_))⟩
end Go.Proofs.YthaoalmhhgllmaaDoor
