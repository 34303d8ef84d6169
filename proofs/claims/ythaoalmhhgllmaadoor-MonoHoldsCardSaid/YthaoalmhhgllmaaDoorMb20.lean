/- Texts joined: TrP, TrR. -/
import Derived.Test.YthaoalmhhgllmaaDoorMb19
import Derived.Test.YthaoalmhhgllmaaDoorMb13
import Derived.Deep.AppendLies
import Derived.Test.YthaoalmhhgllmaaDoorMb04
set_option linter.all false
namespace Go.Proofs.YthaoalmhhgllmaaDoor
open Go.RowKit
theorem must_q {L : List Tok} {E p : Nat} {s : List UInt8} {F : Nat → Option Res} {g : Got} {Q : St → Prop} (h : toS (mustF L E p s F) = some g) (hr : ∀ q, toS (F q) = some g → Q (.run q)) (ho : ∀ x, g = (.out x, none) → Q (.out x)) : Q (mustS L E s (.run p)) := by
  rcases toS_must h with ⟨q, m, h⟩ | ⟨x, m, h⟩
  · rw [m]; exact hr q h
  · rw [m]; exact ho x h
def Q3 (L : List Tok) (E k : Nat) (f : Tr → Tr) (g : Got) (st : St) : Prop := ∃ gc : Got, goS (lineF L E k 1) st = some gc ∧ g.1 = mustS L E [41] gc.1 ∧ (g.2 = none ∨ ∃ tc, gc.2 = some tc ∧ g.2 = some (f tc))
def Q2 (L : List Tok) (E k : Nat) (f : Tr → Tr → Tr) (g : Got) (st : St) : Prop := ∃ gb : Got, goS (lineF L E k 1) st = some gb ∧ ∃ gc : Got, goS (lineF L E k 1) (mustS L E [44] gb.1) = some gc ∧ g.1 = mustS L E [41] gc.1 ∧ (g.2 = none ∨ ∃ tb tc, gb.2 = some tb ∧ gc.2 = some tc ∧ g.2 = some (f tb tc))
def Q1 (L : List Tok) (E k : Nat) (f : Tr → Tr → Tr → Tr) (g : Got) (st : St) : Prop := ∃ ga : Got, goS (lineF L E k 1) st = some ga ∧ ∃ gb : Got, goS (lineF L E k 1) (mustS L E [44] ga.1) = some gb ∧ ∃ gc : Got, goS (lineF L E k 1) (mustS L E [44] gb.1) = some gc ∧ g.1 = mustS L E [41] gc.1 ∧
  (g.2 = none ∨ ∃ ta tb tc, ga.2 = some ta ∧ gb.2 = some tb ∧ gc.2 = some tc ∧ g.2 = some (f ta tb tc))
theorem q3_of {L : List Tok} {E k q : Nat} {f : Tr → Tr} {g : Got} (h : toS (Res.next (lineF L E k 1 q) fun c q => mustF L E q [41] fun q => some (.ok (f c) q)) = some g) : Q3 L E k f g (.run q) := by
  rcases toS_next h with ⟨c, q2, e, h⟩ | ⟨x, e, rfl⟩
  · refine ⟨(.run q2, some c), e, ?_⟩
    rcases toS_must h with ⟨q, m, h⟩ | ⟨x, m, rfl⟩
    · obtain rfl : (.run q, some (f c)) = g := Option.some.inj h
      exact ⟨m.symm, .inr ⟨c, rfl, rfl⟩⟩
    · exact ⟨m.symm, .inl rfl⟩
  · exact ⟨(.out x, none), e, rfl, .inl rfl⟩
theorem q3_out {L : List Tok} {E k x : Nat} {f : Tr → Tr} : Q3 L E k f (.out x, none) (.out x) := ⟨(.out x, none), rfl, rfl, .inl rfl⟩
theorem q2_of {L : List Tok} {E k q : Nat} {f : Tr → Tr → Tr} {g : Got} (h : toS (Res.next (lineF L E k 1 q) fun b q => mustF L E q [44] fun q => Res.next (lineF L E k 1 q) fun c q => mustF L E q [41] fun q => some (.ok (f b c) q)) = some g) : Q2 L E k f g (.run q) := by
  rcases toS_next h with ⟨b, q2, e, h⟩ | ⟨x, e, rfl⟩
  · obtain ⟨gc, h1, h2, h3⟩ := must_q (Q := Q3 L E k (f b) g) h (fun _ h => q3_of h) (fun _ h => h ▸ q3_out)
    exact ⟨(.run q2, some b), e, gc, h1, h2, h3.imp id fun ⟨tc, a, z⟩ => ⟨b, tc, rfl, a, z⟩⟩
  · exact ⟨(.out x, none), e, (.out x, none), rfl, rfl, .inl rfl⟩
theorem q2_out {L : List Tok} {E k x : Nat} {f : Tr → Tr → Tr} : Q2 L E k f (.out x, none) (.out x) := ⟨(.out x, none), rfl, (.out x, none), rfl, rfl, .inl rfl⟩
theorem q1_of {L : List Tok} {E k q : Nat} {f : Tr → Tr → Tr → Tr} {g : Got} (h : toS (Res.next (lineF L E k 1 q) fun a q => mustF L E q [44] fun q => Res.next (lineF L E k 1 q) fun b q => mustF L E q [44] fun q => Res.next (lineF L E k 1 q) fun c q => mustF L E q [41] fun q => some (.ok (f a b c) q)) = some g) : Q1 L E k f g (.run q) := by
  rcases toS_next h with ⟨a, q2, e, h⟩ | ⟨x, e, rfl⟩
  · obtain ⟨gb, h0, gc, h1, h2, h3⟩ := must_q (Q := Q2 L E k (f a) g) h (fun _ h => q2_of h) (fun _ h => h ▸ q2_out)
    exact ⟨(.run q2, some a), e, gb, h0, gc, h1, h2, h3.imp id fun ⟨tb, tc, y, z, v⟩ => ⟨a, tb, tc, rfl, y, z, v⟩⟩
  · exact ⟨(.out x, none), e, (.out x, none), rfl, (.out x, none), rfl, rfl, .inl rfl⟩
theorem q1_out {L : List Tok} {E k x : Nat} {f : Tr → Tr → Tr → Tr} : Q1 L E k f (.out x, none) (.out x) := ⟨(.out x, none), rfl, (.out x, none), rfl, (.out x, none), rfl, rfl, .inl rfl⟩
theorem if_got {L : List Tok} {E k p : Nat} {g : Got} (h : toS (mustF L E (p + 1) [40] fun q => Res.next (lineF L E k 1 q) fun a q => mustF L E q [44] fun q => Res.next (lineF L E k 1 q) fun b q => mustF L E q [44] fun q => Res.next (lineF L E k 1 q) fun c q => mustF L E q [41] fun q => some (.ok (callT [73, 70] [a, b, c]) q)) = some g) :
    Q1 L E k (fun a b c => callT [73, 70] [a, b, c]) g (mustS L E [40] (.run (p + 1))) :=
  must_q (Q := Q1 L E k (fun a b c => callT [73, 70] [a, b, c]) g) h (fun _ h => q1_of (f := fun a b c => callT [73, 70] [a, b, c]) h) (fun _ h => h ▸ q1_out)
theorem TV.node3 {w : World} {P : Nat → Prop} {G cap : Nat} (k : Int) (wd : List UInt8) (x y z : V8) (t u v : Tr) (hG : P G) (hl : G < w.heap.size) (h8 : At8V w G 0 x) (k8 : At8V w G 8 y) (l8 : At8V w G 16 z) (hx : TV w P x (some t)) (hy : TV w P y (some u)) (hz : TV w P z (some v)) (hcap : 3 ≤ cap := by first | exact Nat.le_refl _ | assumption | omega | (simp; done)) :
    TV w P ⟨k, 0, 0, 0, 0, 0, ⟨wd.toArray⟩, some ⟨G, 0, none⟩, 3, cap⟩ (some (.mk k 0 0 0 0 0 wd [t, u, v])) := by
  refine TV.node k wd [(x, t), (y, u), (z, v)] hG hl (fun i s r hi => ?_) hcap
  match i, hi with
  | 0, hi => simp at hi; obtain ⟨rfl, rfl⟩ := hi; exact ⟨h8, hx⟩
  | 1, hi => simp at hi; obtain ⟨rfl, rfl⟩ := hi; exact ⟨k8, hy⟩
  | 2, hi => simp at hi; obtain ⟨rfl, rfl⟩ := hi; exact ⟨l8, hz⟩
set_option maxHeartbeats 2000000 in
set_option maxRecDepth 10000 in
theorem roper_if (R : Nat) (A : Option Addr) (cap : Nat) (L : List Tok) (E : Nat) (hL : L.length ≤ 1000) (w : World) (p : Nat) (hr : RS w R A cap L E (.run p)) (hk : TK w R A L) (hm : isMark L p [40] = false) (t : Tok) (ht : L[p]? = some t) (k5 : (t.kind == 5) = false) (k1 : (t.kind == 1) = false) (k2 : (t.kind == 2) = false) (k3 : (t.kind == 3) = false) (kw : (t.text == [73, 70]) = true) {k : Nat} (hP : TreeC R A cap L E 30 #[.pointer (some ⟨R, 0, none⟩), .int .i64 1] (lineF L E k 1)) (g : Got) (hg : toS (mustF L E (p + 1) [40] fun q => Res.next (lineF L E k 1 q) fun a q => mustF L E q [44] fun q => Res.next (lineF L E k 1 q) fun b q => mustF L E q [44] fun q => Res.next (lineF L E k 1 q) fun c q => mustF L E q [41] fun q => some (.ok (callT [73, 70] [a, b, c]) q)) = some g) : Calls Tryd.prog 75 #[.pointer (some ⟨R, 0, none⟩)] w fun e w' => ∃ x : V8, e = .returned x.val ∧ TV w' (fun b => w.heap.size ≤ b) x (g.2) ∧ RS w' R A cap L E (g.1) ∧ But R w w' := by
  have HR := Lib.hid hr
  have HT := Lib.hid hk
  have hlt : R < w.heap.size := hr.lt
  have nk : w.heap.size ≠ R := by omega
  clear hr hk
  have HM := Lib.hid hm
  have HX := Lib.hid ht
  have hp : p < L.length := (List.getElem?_eq_some_iff.1 ht).1
  have HP := Lib.hid hP
  obtain ⟨ga, hga, gb, hgb, gc, hgc, ge1, ge2⟩ := if_got hg
  have HGa := Lib.hid hga
  have HGb := Lib.hid hgb
  have HGc := Lib.hid hgc
  have HGE := Lib.hid (And.intro ge1 ge2)
  clear hm ht hP hg hga hgb hgc ge1 ge2
  go_enter Tryd.func75, Tryd.ntmps75
  go_wp2_with fail
  refine (rmark_any (R := R) (A := A) (cap := cap) (L := L) (E := E) (m := 0) (st := .run p) ⟨#[40]⟩ hL (by omega) (by (with_reducible repeat' (first | exact HR.out | refine zRf ?_ nk _ _ | refine zRa ?_ _ | refine zRn ?_ _ | refine zRd ?_))) (HT.out.but (by (with_reducible repeat' (first | exact But.refl _ _ | refine zBr ?_ _ _ | refine zBs ?_ (by omega) _ _ | refine zBa ?_ _ | refine zBn ?_ _ | refine zBd ?_))))).mono ?_; rintro e w1 ⟨rfl, b1⟩
  have h1 : But R w w1 := But.trans (by (with_reducible repeat' (first | exact But.refl _ _ | refine zBr ?_ _ _ | refine zBs ?_ (by omega) _ _ | refine zBa ?_ _ | refine zBn ?_ _ | refine zBd ?_))) (But.of_below b1)
  have zk1 : w.heap.size < w1.heap.size := by have := b1.size; first | omega | (simp at this; omega)
  have Hk1 : C8 w1 (w.heap.size) (.int .i64 0) (.int .i64 0) (.int .i64 0) (.int .i64 0) (.int .i64 0) (.int .i64 0) (.string ⟨#[]⟩) (.slice none 0 0) := by refine ⟨?_, ?_, ?_, ?_, ?_, ?_, ?_, ?_⟩ <;> exact (But.of_below b1).cell nk (by simp [go_sem])
  obtain ⟨k10, k11, k12, k13, k14, k15, k16, k17⟩ := Hk1
  have Hkf1 : F8 w1 (w.heap.size) := by refine ⟨?_, ?_, ?_, ?_, ?_, ?_, ?_, ?_⟩ <;> exact (But.of_below b1).frozen nk (by first | omega | (simp; done) | (simp; omega)) (by simp [go_sem])
  obtain ⟨kf10, kf11, kf12, kf13, kf14, kf15, kf16, kf17⟩ := Hkf1
  have y1 : w.heap.size < w1.heap.size := zk1
  have HR1 : Hid (RS w1 R A cap L E (.run p)) := Lib.hid (RS.below (by (with_reducible repeat' (first | exact HR.out | refine zRf ?_ nk _ _ | refine zRa ?_ _ | refine zRn ?_ _ | refine zRd ?_))) b1)
  clear b1
  have e1 : markR L 0 [40] (.run p) = false := HM.out
  obtain ⟨_, _, hc⟩ := HR1.out
  have c0 := hc.c0
  have c1 := hc.c1
  have c3 := hc.c3
  have cf1 := hc.f1
  clear hc
  obtain ⟨ga1, hA, hgaR1, hgal1, t0, t1, t2, t3, t4, t5⟩ := (HT.out.but h1).at HX.out
  rw [hA] at c0
  clear hA
  have d11 : decide (L.length ≤ p) = false := decide_eq_false (by omega)
  have zR1 : R < w1.heap.size := by omega
  go_wp2_with fail
  go_quiet (fail)
  clear c0 c1 c3 cf1 t0 t1 t2 t3 t4 t5 zR1
  go_wp2_with fail
  generalize hq2 : w1.drewN nq = w2
  have b2 : Below w1.heap.size w1 w2 := by rw [← hq2]; exact below_drewN (Below.refl _ _) _
  clear hq2
  have h2 : But R w w2 := But.trans (by (with_reducible repeat' (first | exact h1 | refine zBr ?_ _ _ | refine zBs ?_ (by omega) _ _ | refine zBa ?_ _ | refine zBn ?_ _ | refine zBd ?_))) (But.of_below b2)
  have zk2 : w.heap.size < w2.heap.size := by have := b2.size; first | omega | (simp at this; omega)
  have Hk2 := c8_lift (B := w.heap.size) (fun j v hv => (But.of_below b2).cell nk (by with_reducible repeat' (first | exact hv | refine zCs ?_ (by omega) _ _ | refine zCa ?_ _ | refine zCn ?_ _ | refine zCd ?_))) k10 k11 k12 k13 k14 k15 k16 k17
  obtain ⟨k20, k21, k22, k23, k24, k25, k26, k27⟩ := Hk2
  have Hkf2 := f8_lift (B := w.heap.size) (fun j hv => (But.of_below b2).frozen nk (by first | omega | (simp; done) | (simp; omega)) (by with_reducible repeat' (first | exact hv | refine zFs ?_ (by omega) _ _ | refine zFa ?_ (by first | omega | (simp; omega)) _ | refine zFn ?_ _ | refine zFd ?_))) kf10 kf11 kf12 kf13 kf14 kf15 kf16 kf17
  obtain ⟨kf20, kf21, kf22, kf23, kf24, kf25, kf26, kf27⟩ := Hkf2
  have y2 : w.heap.size < w2.heap.size := zk2
  have HR2 : Hid (RS w2 R A cap L E (.run p)) := Lib.hid (RS.below (by (with_reducible repeat' (first | exact HR1.out | refine zRf ?_ nk _ _ | refine zRa ?_ _ | refine zRn ?_ _ | refine zRd ?_))) b2)
  clear b2 k10 k11 k12 k13 k14 k15 k16 k17 kf10 kf11 kf12 kf13 kf14 kf15 kf16 kf17 zk1
  obtain ⟨_, _, hc⟩ := HR2.out
  have c0 := hc.c0
  have c1 := hc.c1
  have c3 := hc.c3
  have cf1 := hc.f1
  clear hc
  obtain ⟨ga2, hA, hgaR2, hgal2, t0, t1, t2, t3, t4, t5⟩ := (HT.out.but h2).at HX.out
  rw [hA] at c0
  clear hA
  have d12 : decide (L.length ≤ p) = false := decide_eq_false (by omega)
  have zR2 : R < w2.heap.size := by omega
  have HS2 : Hid (RS (w2.setCell ⟨R, 1, none⟩ (.int .i64 ((p : Int) + 1))) R A cap L E (.run (p + 1))) := Lib.hid (HR2.out.step hp (by omega))
  go_region
  go_wp2_with fail
  clear c0 c1 c3 cf1 t0 t1 t2 t3 t4 t5
  have na : w2.heap.size ≠ R := by omega
  refine (rmust_any (R := R) (A := A) (cap := cap) (L := L) (E := E) (st := (.run (p + 1))) ⟨#[40]⟩ hL (by (with_reducible repeat' (first | exact HS2.out | refine zRf ?_ nk _ _ | refine zRf ?_ na _ _ | refine zRa ?_ _ | refine zRn ?_ _ | refine zRd ?_))) (HT.out.but (by (with_reducible repeat' (first | exact h2 | refine zBr ?_ _ _ | refine zBs ?_ (by omega) _ _ | refine zBa ?_ _ | refine zBn ?_ _ | refine zBd ?_))))).mono ?_; rintro e w3 ⟨rfl, r3, b3⟩
  have h3 : But R w w3 := But.trans (by (with_reducible repeat' (first | exact h2 | refine zBr ?_ _ _ | refine zBs ?_ (by omega) _ _ | refine zBa ?_ _ | refine zBn ?_ _ | refine zBd ?_))) b3
  have zk3 : w.heap.size < w3.heap.size := by have := b3.size; first | omega | (simp at this; omega)
  have Hk3 := c8_lift (B := w.heap.size) (fun j v hv => b3.cell nk (by with_reducible repeat' (first | exact hv | refine zCs ?_ (by omega) _ _ | refine zCa ?_ _ | refine zCn ?_ _ | refine zCd ?_))) k20 k21 k22 k23 k24 k25 k26 k27
  obtain ⟨k30, k31, k32, k33, k34, k35, k36, k37⟩ := Hk3
  have Hkf3 := f8_lift (B := w.heap.size) (fun j hv => b3.frozen nk (by first | omega | (simp; done) | (simp; omega)) (by with_reducible repeat' (first | exact hv | refine zFs ?_ (by omega) _ _ | refine zFa ?_ (by first | omega | (simp; omega)) _ | refine zFn ?_ _ | refine zFd ?_))) kf20 kf21 kf22 kf23 kf24 kf25 kf26 kf27
  obtain ⟨kf30, kf31, kf32, kf33, kf34, kf35, kf36, kf37⟩ := Hkf3
  have za3 : w2.heap.size < w3.heap.size := by have := b3.size; first | omega | (simp at this; omega)
  have a30 : w3.cell? ⟨w2.heap.size, 0, none⟩ = some (.int .i64 t.kind) := b3.cell na (by simp [go_sem])
  have a31 : w3.cell? ⟨w2.heap.size, 1, none⟩ = some (.int .i64 t.num) := b3.cell na (by simp [go_sem])
  have a32 : w3.cell? ⟨w2.heap.size, 2, none⟩ = some (.int .i64 t.col) := b3.cell na (by simp [go_sem])
  have a33 : w3.cell? ⟨w2.heap.size, 3, none⟩ = some (.int .i64 t.row) := b3.cell na (by simp [go_sem])
  have a34 : w3.cell? ⟨w2.heap.size, 4, none⟩ = some (.string ⟨t.text.toArray⟩) := b3.cell na (by simp [go_sem])
  have a35 : w3.cell? ⟨w2.heap.size, 5, none⟩ = some (.int .i64 (t.frm : Int)) := b3.cell na (by simp [go_sem])
  have y3 : w.heap.size < w3.heap.size := zk3
  have HR3 : Hid (RS w3 R A cap L E (mustS L E [40] (.run (p + 1)))) := Lib.hid r3
  clear b3 r3 k20 k21 k22 k23 k24 k25 k26 k27 kf20 kf21 kf22 kf23 kf24 kf25 kf26 kf27 zk2
  go_wp2_with fail
  refine (HP.out _ (mustS L E [40] (.run (p + 1))) ga (by (with_reducible repeat' (first | exact HR3.out | refine zRf ?_ nk _ _ | refine zRf ?_ na _ _ | refine zRa ?_ _ | refine zRn ?_ _ | refine zRd ?_))) (HT.out.but (by (with_reducible repeat' (first | exact h3 | refine zBr ?_ _ _ | refine zBs ?_ (by omega) _ _ | refine zBa ?_ _ | refine zBn ?_ _ | refine zBd ?_)))) HGa.out).mono ?_; rintro e w4 ⟨⟨aa0, aa1, aa2, aa3, aa4, aa5, aaw, aaA, aal, aac⟩, rfl, v4, r4, b4⟩
  have h4 : But R w w4 := But.trans (by (with_reducible repeat' (first | exact h3 | refine zBr ?_ _ _ | refine zBs ?_ (by omega) _ _ | refine zBa ?_ _ | refine zBn ?_ _ | refine zBd ?_))) b4
  have zk4 : w.heap.size < w4.heap.size := by have := b4.size; first | omega | (simp at this; omega)
  have Hk4 := c8_lift (B := w.heap.size) (fun j v hv => b4.cell nk (by with_reducible repeat' (first | exact hv | refine zCs ?_ (by omega) _ _ | refine zCa ?_ _ | refine zCn ?_ _ | refine zCd ?_))) k30 k31 k32 k33 k34 k35 k36 k37
  obtain ⟨k40, k41, k42, k43, k44, k45, k46, k47⟩ := Hk4
  have Hkf4 := f8_lift (B := w.heap.size) (fun j hv => b4.frozen nk (by first | omega | (simp; done) | (simp; omega)) (by with_reducible repeat' (first | exact hv | refine zFs ?_ (by omega) _ _ | refine zFa ?_ (by first | omega | (simp; omega)) _ | refine zFn ?_ _ | refine zFd ?_))) kf30 kf31 kf32 kf33 kf34 kf35 kf36 kf37
  obtain ⟨kf40, kf41, kf42, kf43, kf44, kf45, kf46, kf47⟩ := Hkf4
  have za4 : w2.heap.size < w4.heap.size := by have := b4.size; first | omega | (simp at this; omega)
  have a40 : w4.cell? ⟨w2.heap.size, 0, none⟩ = some (.int .i64 t.kind) := b4.cell na (by with_reducible repeat' (first | exact a30 | refine zCs ?_ (by omega) _ _ | refine zCa ?_ _ | refine zCn ?_ _ | refine zCd ?_))
  have a41 : w4.cell? ⟨w2.heap.size, 1, none⟩ = some (.int .i64 t.num) := b4.cell na (by with_reducible repeat' (first | exact a31 | refine zCs ?_ (by omega) _ _ | refine zCa ?_ _ | refine zCn ?_ _ | refine zCd ?_))
  have a42 : w4.cell? ⟨w2.heap.size, 2, none⟩ = some (.int .i64 t.col) := b4.cell na (by with_reducible repeat' (first | exact a32 | refine zCs ?_ (by omega) _ _ | refine zCa ?_ _ | refine zCn ?_ _ | refine zCd ?_))
  have a43 : w4.cell? ⟨w2.heap.size, 3, none⟩ = some (.int .i64 t.row) := b4.cell na (by with_reducible repeat' (first | exact a33 | refine zCs ?_ (by omega) _ _ | refine zCa ?_ _ | refine zCn ?_ _ | refine zCd ?_))
  have a44 : w4.cell? ⟨w2.heap.size, 4, none⟩ = some (.string ⟨t.text.toArray⟩) := b4.cell na (by with_reducible repeat' (first | exact a34 | refine zCs ?_ (by omega) _ _ | refine zCa ?_ _ | refine zCn ?_ _ | refine zCd ?_))
  have a45 : w4.cell? ⟨w2.heap.size, 5, none⟩ = some (.int .i64 (t.frm : Int)) := b4.cell na (by with_reducible repeat' (first | exact a35 | refine zCs ?_ (by omega) _ _ | refine zCa ?_ _ | refine zCn ?_ _ | refine zCd ?_))
  have y4 : w.heap.size < w4.heap.size := zk4
  have HR4 : Hid (RS w4 R A cap L E ga.1) := Lib.hid r4
  have Haa4 : Hid (TV w4 (fun b => w.heap.size < b) ⟨aa0, aa1, aa2, aa3, aa4, aa5, aaw, aaA, aal, aac⟩ ga.2) := Lib.hid (v4.imp fun b hb => by have hb2 : _ ≤ b := hb; first | omega | (simp at hb2; omega))
  clear v4
  clear b4 r4 k30 k31 k32 k33 k34 k35 k36 k37 kf30 kf31 kf32 kf33 kf34 kf35 kf36 kf37 zk3 a30 a31 a32 a33 a34 a35 za3
  dsimp only [V8.val]
  go_wp2_with fail
  have naa : w4.heap.size ≠ R := by omega
  have qaa : w.heap.size < w4.heap.size := y4
  refine (rmust_any (R := R) (A := A) (cap := cap) (L := L) (E := E) (st := ga.1) ⟨#[44]⟩ hL (by (with_reducible repeat' (first | exact HR4.out | refine zRf ?_ nk _ _ | refine zRf ?_ na _ _ | refine zRf ?_ naa _ _ | refine zRa ?_ _ | refine zRn ?_ _ | refine zRd ?_))) (HT.out.but (by (with_reducible repeat' (first | exact h4 | refine zBr ?_ _ _ | refine zBs ?_ (by omega) _ _ | refine zBa ?_ _ | refine zBn ?_ _ | refine zBd ?_))))).mono ?_; rintro e w5 ⟨rfl, r5, b5⟩
  have h5 : But R w w5 := But.trans (by (with_reducible repeat' (first | exact h4 | refine zBr ?_ _ _ | refine zBs ?_ (by omega) _ _ | refine zBa ?_ _ | refine zBn ?_ _ | refine zBd ?_))) b5
  have zk5 : w.heap.size < w5.heap.size := by have := b5.size; first | omega | (simp at this; omega)
  have Hk5 := c8_lift (B := w.heap.size) (fun j v hv => b5.cell nk (by with_reducible repeat' (first | exact hv | refine zCs ?_ (by omega) _ _ | refine zCa ?_ _ | refine zCn ?_ _ | refine zCd ?_))) k40 k41 k42 k43 k44 k45 k46 k47
  obtain ⟨k50, k51, k52, k53, k54, k55, k56, k57⟩ := Hk5
  have Hkf5 := f8_lift (B := w.heap.size) (fun j hv => b5.frozen nk (by first | omega | (simp; done) | (simp; omega)) (by with_reducible repeat' (first | exact hv | refine zFs ?_ (by omega) _ _ | refine zFa ?_ (by first | omega | (simp; omega)) _ | refine zFn ?_ _ | refine zFd ?_))) kf40 kf41 kf42 kf43 kf44 kf45 kf46 kf47
  obtain ⟨kf50, kf51, kf52, kf53, kf54, kf55, kf56, kf57⟩ := Hkf5
  have za5 : w2.heap.size < w5.heap.size := by have := b5.size; first | omega | (simp at this; omega)
  have a50 : w5.cell? ⟨w2.heap.size, 0, none⟩ = some (.int .i64 t.kind) := b5.cell na (by with_reducible repeat' (first | exact a40 | refine zCs ?_ (by omega) _ _ | refine zCa ?_ _ | refine zCn ?_ _ | refine zCd ?_))
  have a51 : w5.cell? ⟨w2.heap.size, 1, none⟩ = some (.int .i64 t.num) := b5.cell na (by with_reducible repeat' (first | exact a41 | refine zCs ?_ (by omega) _ _ | refine zCa ?_ _ | refine zCn ?_ _ | refine zCd ?_))
  have a52 : w5.cell? ⟨w2.heap.size, 2, none⟩ = some (.int .i64 t.col) := b5.cell na (by with_reducible repeat' (first | exact a42 | refine zCs ?_ (by omega) _ _ | refine zCa ?_ _ | refine zCn ?_ _ | refine zCd ?_))
  have a53 : w5.cell? ⟨w2.heap.size, 3, none⟩ = some (.int .i64 t.row) := b5.cell na (by with_reducible repeat' (first | exact a43 | refine zCs ?_ (by omega) _ _ | refine zCa ?_ _ | refine zCn ?_ _ | refine zCd ?_))
  have a54 : w5.cell? ⟨w2.heap.size, 4, none⟩ = some (.string ⟨t.text.toArray⟩) := b5.cell na (by with_reducible repeat' (first | exact a44 | refine zCs ?_ (by omega) _ _ | refine zCa ?_ _ | refine zCn ?_ _ | refine zCd ?_))
  have a55 : w5.cell? ⟨w2.heap.size, 5, none⟩ = some (.int .i64 (t.frm : Int)) := b5.cell na (by with_reducible repeat' (first | exact a45 | refine zCs ?_ (by omega) _ _ | refine zCa ?_ _ | refine zCn ?_ _ | refine zCd ?_))
  have zaa5 : w4.heap.size < w5.heap.size := by have := b5.size; first | omega | (simp at this; omega)
  have Haa5 : C8 w5 (w4.heap.size) (.int .i64 aa0) (.int .i64 aa1) (.int .i64 aa2) (.int .i64 aa3) (.int .i64 aa4) (.int .i64 aa5) (.string aaw) (.slice aaA aal aac) := by refine ⟨?_, ?_, ?_, ?_, ?_, ?_, ?_, ?_⟩ <;> exact b5.cell naa (by simp [go_sem])
  obtain ⟨aa50, aa51, aa52, aa53, aa54, aa55, aa56, aa57⟩ := Haa5
  have y5 : w.heap.size < w5.heap.size := zk5
  have HR5 : Hid (RS w5 R A cap L E (mustS L E [44] ga.1)) := Lib.hid r5
  have Haa5 : Hid (TV w5 (fun b => w.heap.size < b) ⟨aa0, aa1, aa2, aa3, aa4, aa5, aaw, aaA, aal, aac⟩ ga.2) := Lib.hid (Haa4.out.kept (Kept.but (by (with_reducible repeat' (first | exact Kept.refl _ _ | refine Kept.set1 ?_ (by omega) _ _ | refine Kept.set2 ?_ (by omega) _ _ | refine Kept.set2o ?_ _ _ | refine Kept.setNew ?_ (by omega) _ _ | refine Kept.alloc ?_ _ | refine Kept.drewN ?_ _ | refine Kept.drew ?_))) b5 fun h => by have := h; omega))
  clear b5 r5 k40 k41 k42 k43 k44 k45 k46 k47 kf40 kf41 kf42 kf43 kf44 kf45 kf46 kf47 zk4 a40 a41 a42 a43 a44 a45 za4
  clear Haa4
  go_wp2_with fail
  refine (HP.out _ (mustS L E [44] ga.1) gb (by (with_reducible repeat' (first | exact HR5.out | refine zRf ?_ nk _ _ | refine zRf ?_ na _ _ | refine zRf ?_ naa _ _ | refine zRa ?_ _ | refine zRn ?_ _ | refine zRd ?_))) (HT.out.but (by (with_reducible repeat' (first | exact h5 | refine zBr ?_ _ _ | refine zBs ?_ (by omega) _ _ | refine zBa ?_ _ | refine zBn ?_ _ | refine zBd ?_)))) HGb.out).mono ?_; rintro e w6 ⟨⟨bb0, bb1, bb2, bb3, bb4, bb5, bbw, bbA, bbl, bbc⟩, rfl, v6, r6, b6⟩
  have h6 : But R w w6 := But.trans (by (with_reducible repeat' (first | exact h5 | refine zBr ?_ _ _ | refine zBs ?_ (by omega) _ _ | refine zBa ?_ _ | refine zBn ?_ _ | refine zBd ?_))) b6
  have zk6 : w.heap.size < w6.heap.size := by have := b6.size; first | omega | (simp at this; omega)
  have Hk6 := c8_lift (B := w.heap.size) (fun j v hv => b6.cell nk (by with_reducible repeat' (first | exact hv | refine zCs ?_ (by omega) _ _ | refine zCa ?_ _ | refine zCn ?_ _ | refine zCd ?_))) k50 k51 k52 k53 k54 k55 k56 k57
  obtain ⟨k60, k61, k62, k63, k64, k65, k66, k67⟩ := Hk6
  have Hkf6 := f8_lift (B := w.heap.size) (fun j hv => b6.frozen nk (by first | omega | (simp; done) | (simp; omega)) (by with_reducible repeat' (first | exact hv | refine zFs ?_ (by omega) _ _ | refine zFa ?_ (by first | omega | (simp; omega)) _ | refine zFn ?_ _ | refine zFd ?_))) kf50 kf51 kf52 kf53 kf54 kf55 kf56 kf57
  obtain ⟨kf60, kf61, kf62, kf63, kf64, kf65, kf66, kf67⟩ := Hkf6
  have za6 : w2.heap.size < w6.heap.size := by have := b6.size; first | omega | (simp at this; omega)
  have a60 : w6.cell? ⟨w2.heap.size, 0, none⟩ = some (.int .i64 t.kind) := b6.cell na (by with_reducible repeat' (first | exact a50 | refine zCs ?_ (by omega) _ _ | refine zCa ?_ _ | refine zCn ?_ _ | refine zCd ?_))
  have a61 : w6.cell? ⟨w2.heap.size, 1, none⟩ = some (.int .i64 t.num) := b6.cell na (by with_reducible repeat' (first | exact a51 | refine zCs ?_ (by omega) _ _ | refine zCa ?_ _ | refine zCn ?_ _ | refine zCd ?_))
  have a62 : w6.cell? ⟨w2.heap.size, 2, none⟩ = some (.int .i64 t.col) := b6.cell na (by with_reducible repeat' (first | exact a52 | refine zCs ?_ (by omega) _ _ | refine zCa ?_ _ | refine zCn ?_ _ | refine zCd ?_))
  have a63 : w6.cell? ⟨w2.heap.size, 3, none⟩ = some (.int .i64 t.row) := b6.cell na (by with_reducible repeat' (first | exact a53 | refine zCs ?_ (by omega) _ _ | refine zCa ?_ _ | refine zCn ?_ _ | refine zCd ?_))
  have a64 : w6.cell? ⟨w2.heap.size, 4, none⟩ = some (.string ⟨t.text.toArray⟩) := b6.cell na (by with_reducible repeat' (first | exact a54 | refine zCs ?_ (by omega) _ _ | refine zCa ?_ _ | refine zCn ?_ _ | refine zCd ?_))
  have a65 : w6.cell? ⟨w2.heap.size, 5, none⟩ = some (.int .i64 (t.frm : Int)) := b6.cell na (by with_reducible repeat' (first | exact a55 | refine zCs ?_ (by omega) _ _ | refine zCa ?_ _ | refine zCn ?_ _ | refine zCd ?_))
  have zaa6 : w4.heap.size < w6.heap.size := by have := b6.size; first | omega | (simp at this; omega)
  have Haa6 := c8_lift (B := w4.heap.size) (fun j v hv => b6.cell naa (by with_reducible repeat' (first | exact hv | refine zCs ?_ (by omega) _ _ | refine zCa ?_ _ | refine zCn ?_ _ | refine zCd ?_))) aa50 aa51 aa52 aa53 aa54 aa55 aa56 aa57
  obtain ⟨aa60, aa61, aa62, aa63, aa64, aa65, aa66, aa67⟩ := Haa6
  have y6 : w.heap.size < w6.heap.size := zk6
  have HR6 : Hid (RS w6 R A cap L E gb.1) := Lib.hid r6
  have Haa6 : Hid (TV w6 (fun b => w.heap.size < b) ⟨aa0, aa1, aa2, aa3, aa4, aa5, aaw, aaA, aal, aac⟩ ga.2) := Lib.hid (Haa5.out.kept (Kept.but (by (with_reducible repeat' (first | exact Kept.refl _ _ | refine Kept.set1 ?_ (by omega) _ _ | refine Kept.set2 ?_ (by omega) _ _ | refine Kept.set2o ?_ _ _ | refine Kept.setNew ?_ (by omega) _ _ | refine Kept.alloc ?_ _ | refine Kept.drewN ?_ _ | refine Kept.drew ?_))) b6 fun h => by have := h; omega))
  have Hbb6 : Hid (TV w6 (fun b => w.heap.size < b) ⟨bb0, bb1, bb2, bb3, bb4, bb5, bbw, bbA, bbl, bbc⟩ gb.2) := Lib.hid (v6.imp fun b hb => by have hb2 : _ ≤ b := hb; first | omega | (simp at hb2; omega))
  clear v6
  clear b6 r6 k50 k51 k52 k53 k54 k55 k56 k57 kf50 kf51 kf52 kf53 kf54 kf55 kf56 kf57 zk5 a50 a51 a52 a53 a54 a55 za5 aa50 aa51 aa52 aa53 aa54 aa55 aa56 aa57 zaa5
  clear Haa5
  dsimp only [V8.val]
  go_wp2_with fail
  have nbb : w6.heap.size ≠ R := by omega
  have qbb : w.heap.size < w6.heap.size := y6
  refine (rmust_any (R := R) (A := A) (cap := cap) (L := L) (E := E) (st := gb.1) ⟨#[44]⟩ hL (by (with_reducible repeat' (first | exact HR6.out | refine zRf ?_ nk _ _ | refine zRf ?_ na _ _ | refine zRf ?_ naa _ _ | refine zRf ?_ nbb _ _ | refine zRa ?_ _ | refine zRn ?_ _ | refine zRd ?_))) (HT.out.but (by (with_reducible repeat' (first | exact h6 | refine zBr ?_ _ _ | refine zBs ?_ (by omega) _ _ | refine zBa ?_ _ | refine zBn ?_ _ | refine zBd ?_))))).mono ?_; rintro e w7 ⟨rfl, r7, b7⟩
  have h7 : But R w w7 := But.trans (by (with_reducible repeat' (first | exact h6 | refine zBr ?_ _ _ | refine zBs ?_ (by omega) _ _ | refine zBa ?_ _ | refine zBn ?_ _ | refine zBd ?_))) b7
  have zk7 : w.heap.size < w7.heap.size := by have := b7.size; first | omega | (simp at this; omega)
  have Hk7 := c8_lift (B := w.heap.size) (fun j v hv => b7.cell nk (by with_reducible repeat' (first | exact hv | refine zCs ?_ (by omega) _ _ | refine zCa ?_ _ | refine zCn ?_ _ | refine zCd ?_))) k60 k61 k62 k63 k64 k65 k66 k67
  obtain ⟨k70, k71, k72, k73, k74, k75, k76, k77⟩ := Hk7
  have Hkf7 := f8_lift (B := w.heap.size) (fun j hv => b7.frozen nk (by first | omega | (simp; done) | (simp; omega)) (by with_reducible repeat' (first | exact hv | refine zFs ?_ (by omega) _ _ | refine zFa ?_ (by first | omega | (simp; omega)) _ | refine zFn ?_ _ | refine zFd ?_))) kf60 kf61 kf62 kf63 kf64 kf65 kf66 kf67
  obtain ⟨kf70, kf71, kf72, kf73, kf74, kf75, kf76, kf77⟩ := Hkf7
  have za7 : w2.heap.size < w7.heap.size := by have := b7.size; first | omega | (simp at this; omega)
  have a70 : w7.cell? ⟨w2.heap.size, 0, none⟩ = some (.int .i64 t.kind) := b7.cell na (by with_reducible repeat' (first | exact a60 | refine zCs ?_ (by omega) _ _ | refine zCa ?_ _ | refine zCn ?_ _ | refine zCd ?_))
  have a71 : w7.cell? ⟨w2.heap.size, 1, none⟩ = some (.int .i64 t.num) := b7.cell na (by with_reducible repeat' (first | exact a61 | refine zCs ?_ (by omega) _ _ | refine zCa ?_ _ | refine zCn ?_ _ | refine zCd ?_))
  have a72 : w7.cell? ⟨w2.heap.size, 2, none⟩ = some (.int .i64 t.col) := b7.cell na (by with_reducible repeat' (first | exact a62 | refine zCs ?_ (by omega) _ _ | refine zCa ?_ _ | refine zCn ?_ _ | refine zCd ?_))
  have a73 : w7.cell? ⟨w2.heap.size, 3, none⟩ = some (.int .i64 t.row) := b7.cell na (by with_reducible repeat' (first | exact a63 | refine zCs ?_ (by omega) _ _ | refine zCa ?_ _ | refine zCn ?_ _ | refine zCd ?_))
  have a74 : w7.cell? ⟨w2.heap.size, 4, none⟩ = some (.string ⟨t.text.toArray⟩) := b7.cell na (by with_reducible repeat' (first | exact a64 | refine zCs ?_ (by omega) _ _ | refine zCa ?_ _ | refine zCn ?_ _ | refine zCd ?_))
  have a75 : w7.cell? ⟨w2.heap.size, 5, none⟩ = some (.int .i64 (t.frm : Int)) := b7.cell na (by with_reducible repeat' (first | exact a65 | refine zCs ?_ (by omega) _ _ | refine zCa ?_ _ | refine zCn ?_ _ | refine zCd ?_))
  have zaa7 : w4.heap.size < w7.heap.size := by have := b7.size; first | omega | (simp at this; omega)
  have Haa7 := c8_lift (B := w4.heap.size) (fun j v hv => b7.cell naa (by with_reducible repeat' (first | exact hv | refine zCs ?_ (by omega) _ _ | refine zCa ?_ _ | refine zCn ?_ _ | refine zCd ?_))) aa60 aa61 aa62 aa63 aa64 aa65 aa66 aa67
  obtain ⟨aa70, aa71, aa72, aa73, aa74, aa75, aa76, aa77⟩ := Haa7
  have zbb7 : w6.heap.size < w7.heap.size := by have := b7.size; first | omega | (simp at this; omega)
  have Hbb7 : C8 w7 (w6.heap.size) (.int .i64 bb0) (.int .i64 bb1) (.int .i64 bb2) (.int .i64 bb3) (.int .i64 bb4) (.int .i64 bb5) (.string bbw) (.slice bbA bbl bbc) := by refine ⟨?_, ?_, ?_, ?_, ?_, ?_, ?_, ?_⟩ <;> exact b7.cell nbb (by simp [go_sem])
  obtain ⟨bb70, bb71, bb72, bb73, bb74, bb75, bb76, bb77⟩ := Hbb7
  have y7 : w.heap.size < w7.heap.size := zk7
  have HR7 : Hid (RS w7 R A cap L E (mustS L E [44] gb.1)) := Lib.hid r7
  have Haa7 : Hid (TV w7 (fun b => w.heap.size < b) ⟨aa0, aa1, aa2, aa3, aa4, aa5, aaw, aaA, aal, aac⟩ ga.2) := Lib.hid (Haa6.out.kept (Kept.but (by (with_reducible repeat' (first | exact Kept.refl _ _ | refine Kept.set1 ?_ (by omega) _ _ | refine Kept.set2 ?_ (by omega) _ _ | refine Kept.set2o ?_ _ _ | refine Kept.setNew ?_ (by omega) _ _ | refine Kept.alloc ?_ _ | refine Kept.drewN ?_ _ | refine Kept.drew ?_))) b7 fun h => by have := h; omega))
  have Hbb7 : Hid (TV w7 (fun b => w.heap.size < b) ⟨bb0, bb1, bb2, bb3, bb4, bb5, bbw, bbA, bbl, bbc⟩ gb.2) := Lib.hid (Hbb6.out.kept (Kept.but (by (with_reducible repeat' (first | exact Kept.refl _ _ | refine Kept.set1 ?_ (by omega) _ _ | refine Kept.set2 ?_ (by omega) _ _ | refine Kept.set2o ?_ _ _ | refine Kept.setNew ?_ (by omega) _ _ | refine Kept.alloc ?_ _ | refine Kept.drewN ?_ _ | refine Kept.drew ?_))) b7 fun h => by have := h; omega))
  clear b7 r7 k60 k61 k62 k63 k64 k65 k66 k67 kf60 kf61 kf62 kf63 kf64 kf65 kf66 kf67 zk6 a60 a61 a62 a63 a64 a65 za6 aa60 aa61 aa62 aa63 aa64 aa65 aa66 aa67 zaa6
  clear Haa6 Hbb6
  go_wp2_with fail
  refine (HP.out _ (mustS L E [44] gb.1) gc (by (with_reducible repeat' (first | exact HR7.out | refine zRf ?_ nk _ _ | refine zRf ?_ na _ _ | refine zRf ?_ naa _ _ | refine zRf ?_ nbb _ _ | refine zRa ?_ _ | refine zRn ?_ _ | refine zRd ?_))) (HT.out.but (by (with_reducible repeat' (first | exact h7 | refine zBr ?_ _ _ | refine zBs ?_ (by omega) _ _ | refine zBa ?_ _ | refine zBn ?_ _ | refine zBd ?_)))) HGc.out).mono ?_; rintro e w8 ⟨⟨cc0, cc1, cc2, cc3, cc4, cc5, ccw, ccA, ccl, ccc⟩, rfl, v8, r8, b8⟩
  have h8 : But R w w8 := But.trans (by (with_reducible repeat' (first | exact h7 | refine zBr ?_ _ _ | refine zBs ?_ (by omega) _ _ | refine zBa ?_ _ | refine zBn ?_ _ | refine zBd ?_))) b8
  have zk8 : w.heap.size < w8.heap.size := by have := b8.size; first | omega | (simp at this; omega)
  have Hk8 := c8_lift (B := w.heap.size) (fun j v hv => b8.cell nk (by with_reducible repeat' (first | exact hv | refine zCs ?_ (by omega) _ _ | refine zCa ?_ _ | refine zCn ?_ _ | refine zCd ?_))) k70 k71 k72 k73 k74 k75 k76 k77
  obtain ⟨k80, k81, k82, k83, k84, k85, k86, k87⟩ := Hk8
  have Hkf8 := f8_lift (B := w.heap.size) (fun j hv => b8.frozen nk (by first | omega | (simp; done) | (simp; omega)) (by with_reducible repeat' (first | exact hv | refine zFs ?_ (by omega) _ _ | refine zFa ?_ (by first | omega | (simp; omega)) _ | refine zFn ?_ _ | refine zFd ?_))) kf70 kf71 kf72 kf73 kf74 kf75 kf76 kf77
  obtain ⟨kf80, kf81, kf82, kf83, kf84, kf85, kf86, kf87⟩ := Hkf8
  have za8 : w2.heap.size < w8.heap.size := by have := b8.size; first | omega | (simp at this; omega)
  have a80 : w8.cell? ⟨w2.heap.size, 0, none⟩ = some (.int .i64 t.kind) := b8.cell na (by with_reducible repeat' (first | exact a70 | refine zCs ?_ (by omega) _ _ | refine zCa ?_ _ | refine zCn ?_ _ | refine zCd ?_))
  have a81 : w8.cell? ⟨w2.heap.size, 1, none⟩ = some (.int .i64 t.num) := b8.cell na (by with_reducible repeat' (first | exact a71 | refine zCs ?_ (by omega) _ _ | refine zCa ?_ _ | refine zCn ?_ _ | refine zCd ?_))
  have a82 : w8.cell? ⟨w2.heap.size, 2, none⟩ = some (.int .i64 t.col) := b8.cell na (by with_reducible repeat' (first | exact a72 | refine zCs ?_ (by omega) _ _ | refine zCa ?_ _ | refine zCn ?_ _ | refine zCd ?_))
  have a83 : w8.cell? ⟨w2.heap.size, 3, none⟩ = some (.int .i64 t.row) := b8.cell na (by with_reducible repeat' (first | exact a73 | refine zCs ?_ (by omega) _ _ | refine zCa ?_ _ | refine zCn ?_ _ | refine zCd ?_))
  have a84 : w8.cell? ⟨w2.heap.size, 4, none⟩ = some (.string ⟨t.text.toArray⟩) := b8.cell na (by with_reducible repeat' (first | exact a74 | refine zCs ?_ (by omega) _ _ | refine zCa ?_ _ | refine zCn ?_ _ | refine zCd ?_))
  have a85 : w8.cell? ⟨w2.heap.size, 5, none⟩ = some (.int .i64 (t.frm : Int)) := b8.cell na (by with_reducible repeat' (first | exact a75 | refine zCs ?_ (by omega) _ _ | refine zCa ?_ _ | refine zCn ?_ _ | refine zCd ?_))
  have zaa8 : w4.heap.size < w8.heap.size := by have := b8.size; first | omega | (simp at this; omega)
  have Haa8 := c8_lift (B := w4.heap.size) (fun j v hv => b8.cell naa (by with_reducible repeat' (first | exact hv | refine zCs ?_ (by omega) _ _ | refine zCa ?_ _ | refine zCn ?_ _ | refine zCd ?_))) aa70 aa71 aa72 aa73 aa74 aa75 aa76 aa77
  obtain ⟨aa80, aa81, aa82, aa83, aa84, aa85, aa86, aa87⟩ := Haa8
  have zbb8 : w6.heap.size < w8.heap.size := by have := b8.size; first | omega | (simp at this; omega)
  have Hbb8 := c8_lift (B := w6.heap.size) (fun j v hv => b8.cell nbb (by with_reducible repeat' (first | exact hv | refine zCs ?_ (by omega) _ _ | refine zCa ?_ _ | refine zCn ?_ _ | refine zCd ?_))) bb70 bb71 bb72 bb73 bb74 bb75 bb76 bb77
  obtain ⟨bb80, bb81, bb82, bb83, bb84, bb85, bb86, bb87⟩ := Hbb8
  have y8 : w.heap.size < w8.heap.size := zk8
  have HR8 : Hid (RS w8 R A cap L E gc.1) := Lib.hid r8
  have Haa8 : Hid (TV w8 (fun b => w.heap.size < b) ⟨aa0, aa1, aa2, aa3, aa4, aa5, aaw, aaA, aal, aac⟩ ga.2) := Lib.hid (Haa7.out.kept (Kept.but (by (with_reducible repeat' (first | exact Kept.refl _ _ | refine Kept.set1 ?_ (by omega) _ _ | refine Kept.set2 ?_ (by omega) _ _ | refine Kept.set2o ?_ _ _ | refine Kept.setNew ?_ (by omega) _ _ | refine Kept.alloc ?_ _ | refine Kept.drewN ?_ _ | refine Kept.drew ?_))) b8 fun h => by have := h; omega))
  have Hbb8 : Hid (TV w8 (fun b => w.heap.size < b) ⟨bb0, bb1, bb2, bb3, bb4, bb5, bbw, bbA, bbl, bbc⟩ gb.2) := Lib.hid (Hbb7.out.kept (Kept.but (by (with_reducible repeat' (first | exact Kept.refl _ _ | refine Kept.set1 ?_ (by omega) _ _ | refine Kept.set2 ?_ (by omega) _ _ | refine Kept.set2o ?_ _ _ | refine Kept.setNew ?_ (by omega) _ _ | refine Kept.alloc ?_ _ | refine Kept.drewN ?_ _ | refine Kept.drew ?_))) b8 fun h => by have := h; omega))
  have Hcc8 : Hid (TV w8 (fun b => w.heap.size < b) ⟨cc0, cc1, cc2, cc3, cc4, cc5, ccw, ccA, ccl, ccc⟩ gc.2) := Lib.hid (v8.imp fun b hb => by have hb2 : _ ≤ b := hb; first | omega | (simp at hb2; omega))
  clear v8
  clear b8 r8 k70 k71 k72 k73 k74 k75 k76 k77 kf70 kf71 kf72 kf73 kf74 kf75 kf76 kf77 zk7 a70 a71 a72 a73 a74 a75 za7 aa70 aa71 aa72 aa73 aa74 aa75 aa76 aa77 zaa7 bb70 bb71 bb72 bb73 bb74 bb75 bb76 bb77 zbb7
  clear Haa7 Hbb7
  dsimp only [V8.val]
  go_wp2_with fail
  have ncc : w8.heap.size ≠ R := by omega
  have qcc : w.heap.size < w8.heap.size := y8
  refine (rmust_any (R := R) (A := A) (cap := cap) (L := L) (E := E) (st := gc.1) ⟨#[41]⟩ hL (by (with_reducible repeat' (first | exact HR8.out | refine zRf ?_ nk _ _ | refine zRf ?_ na _ _ | refine zRf ?_ naa _ _ | refine zRf ?_ nbb _ _ | refine zRf ?_ ncc _ _ | refine zRa ?_ _ | refine zRn ?_ _ | refine zRd ?_))) (HT.out.but (by (with_reducible repeat' (first | exact h8 | refine zBr ?_ _ _ | refine zBs ?_ (by omega) _ _ | refine zBa ?_ _ | refine zBn ?_ _ | refine zBd ?_))))).mono ?_; rintro e w9 ⟨rfl, r9, b9⟩
  have h9 : But R w w9 := But.trans (by (with_reducible repeat' (first | exact h8 | refine zBr ?_ _ _ | refine zBs ?_ (by omega) _ _ | refine zBa ?_ _ | refine zBn ?_ _ | refine zBd ?_))) b9
  have zk9 : w.heap.size < w9.heap.size := by have := b9.size; first | omega | (simp at this; omega)
  have Hk9 := c8_lift (B := w.heap.size) (fun j v hv => b9.cell nk (by with_reducible repeat' (first | exact hv | refine zCs ?_ (by omega) _ _ | refine zCa ?_ _ | refine zCn ?_ _ | refine zCd ?_))) k80 k81 k82 k83 k84 k85 k86 k87
  obtain ⟨k90, k91, k92, k93, k94, k95, k96, k97⟩ := Hk9
  have Hkf9 := f8_lift (B := w.heap.size) (fun j hv => b9.frozen nk (by first | omega | (simp; done) | (simp; omega)) (by with_reducible repeat' (first | exact hv | refine zFs ?_ (by omega) _ _ | refine zFa ?_ (by first | omega | (simp; omega)) _ | refine zFn ?_ _ | refine zFd ?_))) kf80 kf81 kf82 kf83 kf84 kf85 kf86 kf87
  obtain ⟨kf90, kf91, kf92, kf93, kf94, kf95, kf96, kf97⟩ := Hkf9
  have za9 : w2.heap.size < w9.heap.size := by have := b9.size; first | omega | (simp at this; omega)
  have a90 : w9.cell? ⟨w2.heap.size, 0, none⟩ = some (.int .i64 t.kind) := b9.cell na (by with_reducible repeat' (first | exact a80 | refine zCs ?_ (by omega) _ _ | refine zCa ?_ _ | refine zCn ?_ _ | refine zCd ?_))
  have a91 : w9.cell? ⟨w2.heap.size, 1, none⟩ = some (.int .i64 t.num) := b9.cell na (by with_reducible repeat' (first | exact a81 | refine zCs ?_ (by omega) _ _ | refine zCa ?_ _ | refine zCn ?_ _ | refine zCd ?_))
  have a92 : w9.cell? ⟨w2.heap.size, 2, none⟩ = some (.int .i64 t.col) := b9.cell na (by with_reducible repeat' (first | exact a82 | refine zCs ?_ (by omega) _ _ | refine zCa ?_ _ | refine zCn ?_ _ | refine zCd ?_))
  have a93 : w9.cell? ⟨w2.heap.size, 3, none⟩ = some (.int .i64 t.row) := b9.cell na (by with_reducible repeat' (first | exact a83 | refine zCs ?_ (by omega) _ _ | refine zCa ?_ _ | refine zCn ?_ _ | refine zCd ?_))
  have a94 : w9.cell? ⟨w2.heap.size, 4, none⟩ = some (.string ⟨t.text.toArray⟩) := b9.cell na (by with_reducible repeat' (first | exact a84 | refine zCs ?_ (by omega) _ _ | refine zCa ?_ _ | refine zCn ?_ _ | refine zCd ?_))
  have a95 : w9.cell? ⟨w2.heap.size, 5, none⟩ = some (.int .i64 (t.frm : Int)) := b9.cell na (by with_reducible repeat' (first | exact a85 | refine zCs ?_ (by omega) _ _ | refine zCa ?_ _ | refine zCn ?_ _ | refine zCd ?_))
  have zaa9 : w4.heap.size < w9.heap.size := by have := b9.size; first | omega | (simp at this; omega)
  have Haa9 := c8_lift (B := w4.heap.size) (fun j v hv => b9.cell naa (by with_reducible repeat' (first | exact hv | refine zCs ?_ (by omega) _ _ | refine zCa ?_ _ | refine zCn ?_ _ | refine zCd ?_))) aa80 aa81 aa82 aa83 aa84 aa85 aa86 aa87
  obtain ⟨aa90, aa91, aa92, aa93, aa94, aa95, aa96, aa97⟩ := Haa9
  have zbb9 : w6.heap.size < w9.heap.size := by have := b9.size; first | omega | (simp at this; omega)
  have Hbb9 := c8_lift (B := w6.heap.size) (fun j v hv => b9.cell nbb (by with_reducible repeat' (first | exact hv | refine zCs ?_ (by omega) _ _ | refine zCa ?_ _ | refine zCn ?_ _ | refine zCd ?_))) bb80 bb81 bb82 bb83 bb84 bb85 bb86 bb87
  obtain ⟨bb90, bb91, bb92, bb93, bb94, bb95, bb96, bb97⟩ := Hbb9
  have zcc9 : w8.heap.size < w9.heap.size := by have := b9.size; first | omega | (simp at this; omega)
  have Hcc9 : C8 w9 (w8.heap.size) (.int .i64 cc0) (.int .i64 cc1) (.int .i64 cc2) (.int .i64 cc3) (.int .i64 cc4) (.int .i64 cc5) (.string ccw) (.slice ccA ccl ccc) := by refine ⟨?_, ?_, ?_, ?_, ?_, ?_, ?_, ?_⟩ <;> exact b9.cell ncc (by simp [go_sem])
  obtain ⟨cc90, cc91, cc92, cc93, cc94, cc95, cc96, cc97⟩ := Hcc9
  have y9 : w.heap.size < w9.heap.size := zk9
  have HR9 : Hid (RS w9 R A cap L E (mustS L E [41] gc.1)) := Lib.hid r9
  have Haa9 : Hid (TV w9 (fun b => w.heap.size < b) ⟨aa0, aa1, aa2, aa3, aa4, aa5, aaw, aaA, aal, aac⟩ ga.2) := Lib.hid (Haa8.out.kept (Kept.but (by (with_reducible repeat' (first | exact Kept.refl _ _ | refine Kept.set1 ?_ (by omega) _ _ | refine Kept.set2 ?_ (by omega) _ _ | refine Kept.set2o ?_ _ _ | refine Kept.setNew ?_ (by omega) _ _ | refine Kept.alloc ?_ _ | refine Kept.drewN ?_ _ | refine Kept.drew ?_))) b9 fun h => by have := h; omega))
  have Hbb9 : Hid (TV w9 (fun b => w.heap.size < b) ⟨bb0, bb1, bb2, bb3, bb4, bb5, bbw, bbA, bbl, bbc⟩ gb.2) := Lib.hid (Hbb8.out.kept (Kept.but (by (with_reducible repeat' (first | exact Kept.refl _ _ | refine Kept.set1 ?_ (by omega) _ _ | refine Kept.set2 ?_ (by omega) _ _ | refine Kept.set2o ?_ _ _ | refine Kept.setNew ?_ (by omega) _ _ | refine Kept.alloc ?_ _ | refine Kept.drewN ?_ _ | refine Kept.drew ?_))) b9 fun h => by have := h; omega))
  have Hcc9 : Hid (TV w9 (fun b => w.heap.size < b) ⟨cc0, cc1, cc2, cc3, cc4, cc5, ccw, ccA, ccl, ccc⟩ gc.2) := Lib.hid (Hcc8.out.kept (Kept.but (by (with_reducible repeat' (first | exact Kept.refl _ _ | refine Kept.set1 ?_ (by omega) _ _ | refine Kept.set2 ?_ (by omega) _ _ | refine Kept.set2o ?_ _ _ | refine Kept.setNew ?_ (by omega) _ _ | refine Kept.alloc ?_ _ | refine Kept.drewN ?_ _ | refine Kept.drew ?_))) b9 fun h => by have := h; omega))
  clear b9 r9 k80 k81 k82 k83 k84 k85 k86 k87 kf80 kf81 kf82 kf83 kf84 kf85 kf86 kf87 zk8 a80 a81 a82 a83 a84 a85 za8 aa80 aa81 aa82 aa83 aa84 aa85 aa86 aa87 zaa8 bb80 bb81 bb82 bb83 bb84 bb85 bb86 bb87 zbb8
  clear Haa8 Hbb8 Hcc8
  go_wp2_with fail
  have HRg : Hid (RS w9 R A cap L E g.1) := Lib.hid (by rw [HGE.out.1]; exact HR9.out)
  exact bodyPost_ret (v := .agg #[.int .i64 5, .int .i64 0, .int .i64 0, .int .i64 0, .int .i64 0, .int .i64 0, .string ⟨#[73, 70]⟩, .slice (some ⟨w9.heap.size, 0, none⟩) 3 3]) (by simp [results, Tryd.results75, go_sem, k90, k91, k92, k93, k94, k95, k96, k97, y9]) rfl ⟨⟨5, 0, 0, 0, 0, 0, ⟨#[73, 70]⟩, some ⟨w9.heap.size, 0, none⟩, 3, 3⟩, rfl, (by
    rcases HGE.out.2 with e | ⟨ta, tb, tc, e1, e2, e3, e⟩
    · rw [e]; trivial
    · rw [e]
      have A1 := Haa9.out; have A2 := Hbb9.out; have A3 := Hcc9.out
      rw [e1] at A1; rw [e2] at A2; rw [e3] at A3
      exact (TV.node3 5 [73, 70] ⟨aa0, aa1, aa2, aa3, aa4, aa5, aaw, aaA, aal, aac⟩ ⟨bb0, bb1, bb2, bb3, bb4, bb5, bbw, bbA, bbl, bbc⟩ ⟨cc0, cc1, cc2, cc3, cc4, cc5, ccw, ccA, ccl, ccc⟩ ta tb tc (by show w.heap.size < _; omega) (by first | (simp; done) | (simp; omega)) ⟨by simp [go_sem], by simp [go_sem], by simp [go_sem], by simp [go_sem], by simp [go_sem], by simp [go_sem], by simp [go_sem], by simp [go_sem]⟩ ⟨by simp [go_sem], by simp [go_sem], by simp [go_sem], by simp [go_sem], by simp [go_sem], by simp [go_sem], by simp [go_sem], by simp [go_sem]⟩ ⟨by simp [go_sem], by simp [go_sem], by simp [go_sem], by simp [go_sem], by simp [go_sem], by simp [go_sem], by simp [go_sem], by simp [go_sem]⟩ (A1.kept (by (with_reducible repeat' (first | exact Kept.refl _ _ | refine Kept.set1 ?_ (by omega) _ _ | refine Kept.set2 ?_ (by omega) _ _ | refine Kept.set2o ?_ _ _ | refine Kept.setNew ?_ (by omega) _ _ | refine Kept.alloc ?_ _ | refine Kept.drewN ?_ _ | refine Kept.drew ?_)))) (A2.kept (by (with_reducible repeat' (first | exact Kept.refl _ _ | refine Kept.set1 ?_ (by omega) _ _ | refine Kept.set2 ?_ (by omega) _ _ | refine Kept.set2o ?_ _ _ | refine Kept.setNew ?_ (by omega) _ _ | refine Kept.alloc ?_ _ | refine Kept.drewN ?_ _ | refine Kept.drew ?_)))) (A3.kept (by (with_reducible repeat' (first | exact Kept.refl _ _ | refine Kept.set1 ?_ (by omega) _ _ | refine Kept.set2 ?_ (by omega) _ _ | refine Kept.set2o ?_ _ _ | refine Kept.setNew ?_ (by omega) _ _ | refine Kept.alloc ?_ _ | refine Kept.drewN ?_ _ | refine Kept.drew ?_))))).imp fun b (hb : w.heap.size < b) => Nat.le_of_lt hb), by (with_reducible repeat' (first | exact HRg.out | refine zRf ?_ nk _ _ | refine zRf ?_ na _ _ | refine zRf ?_ naa _ _ | refine zRf ?_ nbb _ _ | refine zRf ?_ ncc _ _ | refine zRa ?_ _ | refine zRn ?_ _ | refine zRd ?_)), by (with_reducible repeat' (first | exact h9 | refine zBr ?_ _ _ | refine zBs ?_ (by omega) _ _ | refine zBa ?_ _ | refine zBn ?_ _ | refine zBd ?_))⟩
end Go.Proofs.YthaoalmhhgllmaaDoor
namespace Go.Proofs.YthaoalmhhgllmaaDoor
open Go.RowKit
theorem KLc_nil (w : World) (P : Nat → Prop) (g o : Nat) : KLc w P [] g o := by rw [KLc]; trivial
theorem row_of {w : World} {P : Nat → Prop} : ∀ {ks : List Tr} {g o : Nat}, KLc w P ks g o → ∃ news : List Value, news.length = ks.length * 8 ∧ (∀ (j : Nat) (u : Value), news[j]? = some u → w.cell? ⟨g, o + j, none⟩ = some u) ∧ (∀ u ∈ news, u.oneCell' = true) ∧
    ∀ (w' : World) (g' o' : Nat), Kept w w' P → (∀ (j : Nat) (u : Value), news[j]? = some u → w'.cell? ⟨g', o' + j, none⟩ = some u) → KLc w' P ks g' o'
  | [], g, o, _ => ⟨[], rfl, (fun j u h => by simp at h), (fun u h => by simp at h), (fun w' g' o' _ _ => KLc_nil w' P g' o')⟩
  | t :: ts, g, o, h => by
    rw [KLc] at h
    obtain ⟨⟨A, cap, ⟨h0, h1, h2, h3, h4, h5, h6, h7⟩, hv⟩, hl⟩ := h
    obtain ⟨news, n1, n2, n3, n4⟩ := row_of hl
    refine ⟨[.int .i64 t.kind, .int .i64 t.num, .int .i64 t.c1, .int .i64 t.r1, .int .i64 t.c2, .int .i64 t.r2, .string ⟨t.word.toArray⟩, .slice A t.kids.length cap] ++ news, ?_, ?_, ?_, ?_⟩
    · simp only [List.length_append, List.length_cons, List.length_nil, n1]; omega
    · intro j u hj
      by_cases hlt : j < 8
      · have e : j = 0 ∨ j = 1 ∨ j = 2 ∨ j = 3 ∨ j = 4 ∨ j = 5 ∨ j = 6 ∨ j = 7 := by omega
        rcases e with rfl | rfl | rfl | rfl | rfl | rfl | rfl | rfl <;> (simp at hj; subst hj; assumption)
      · rw [List.getElem?_append_right (by simp; omega)] at hj
        have := n2 (j - 8) u (by simpa using hj)
        rwa [show o + 8 + (j - 8) = o + j from by omega] at this
    · intro u hu
      rcases List.mem_append.1 hu with hu | hu
      · simp only [List.mem_cons, List.not_mem_nil, or_false] at hu
        rcases hu with rfl | rfl | rfl | rfl | rfl | rfl | rfl | rfl <;> rfl
      · exact n3 u hu
    · intro w' g' o' hk hc
      rw [KLc]
      refine ⟨⟨A, cap, ⟨?_, ?_, ?_, ?_, ?_, ?_, ?_, ?_⟩, hv.stay hk⟩, n4 w' g' (o' + 8) hk fun j u hj => ?_⟩
      · exact hc 0 _ (by simp)
      · exact hc 1 _ (by simp)
      · exact hc 2 _ (by simp)
      · exact hc 3 _ (by simp)
      · exact hc 4 _ (by simp)
      · exact hc 5 _ (by simp)
      · exact hc 6 _ (by simp)
      · exact hc 7 _ (by simp)
      · have := hc (j + 8) u (by rw [List.getElem?_append_right (by simp)]; simpa using hj)
        rwa [show o' + (j + 8) = o' + 8 + j from by omega] at this
theorem KLc.snoc {w : World} {P : Nat → Prop} {t : Tr} : ∀ {ks : List Tr} {g o : Nat}, KLc w P ks g o → (∃ A cap, At8 w g (o + ks.length * 8) t A cap ∧ KVc w P t A cap) → KLc w P (ks ++ [t]) g o
  | [], g, o, _, h => by
    rw [List.nil_append, KLc, KLc]
    exact ⟨by simpa using h, trivial⟩
  | u :: us, g, o, h, k => by
    rw [KLc] at h
    rw [List.cons_append, KLc]
    refine ⟨h.1, h.2.snoc ?_⟩
    rw [List.length_cons] at k
    rwa [show o + 8 + us.length * 8 = o + (us.length + 1) * 8 from by omega]
theorem own_cell {w : World} {base : Nat} {e : TypeId} {g n cap : Nat} {xs : List Value} (h : w.ownsRow base e 8 (.slice (some ⟨g, 0, none⟩) n cap) n xs) : ∀ (j : Nat) (u : Value), xs[j]? = some u → w.cell? ⟨g, 0 + j, none⟩ = some u := by
  intro j u hj
  rcases h.2 with ⟨e, _⟩ | ⟨g', cap', cur, hv, _, hh, _, _, _, ht⟩
  · cases e
  · simp at hv
    obtain ⟨rfl, rfl⟩ := hv
    have hc := Lib.cell_of_heap hh j
    rw [Nat.zero_add]
    rw [hc]
    rw [← ht] at hj
    rw [List.getElem?_take] at hj
    split at hj
    · simpa using hj
    · cases hj
theorem own_cap {w : World} {base : Nat} {e : TypeId} {g n cap : Nat} {xs : List Value} (h : w.ownsRow base e 8 (.slice (some ⟨g, 0, none⟩) n cap) n xs) : n ≤ cap := by
  rcases h.2 with ⟨e, _⟩ | ⟨g', cap', cur, hv, _, hh, hc, _, _, ht⟩
  · cases e
  · simp at hv
    obtain ⟨rfl, rfl⟩ := hv
    exact hc
theorem own_empty {w : World} {base B : Nat} {e : TypeId} (hb : base ≤ B) (h : w.heap[B]? = some (.cells #[] e (0, 0))) : w.ownsRow base e 8 (.slice (some ⟨B, 0, none⟩) 0 0) 0 [] :=
  ⟨rfl, .inr ⟨B, 0, #[], rfl, hb, h, Nat.le_refl _, Nat.zero_le _, rfl, rfl⟩⟩
theorem kids_grown {w w1 : World} {P Q : Nat → Prop} {acc : List Tr} {news : List Value} {x : V8} {ot : Option Tr} {base G cap : Nat} {e : TypeId}
    (hn : news.length = acc.length * 8) (hre : ∀ (w' : World) (g' o' : Nat), Kept w w' P → (∀ (j : Nat) (u : Value), news[j]? = some u → w'.cell? ⟨g', o' + j, none⟩ = some u) → KLc w' P acc g' o')
    (hx : TV w P x ot) (hk : Kept w w1 P) (hPQ : ∀ b, P b → Q b) (hG : Q G) (hGl : G < w1.heap.size)
    (hown : w1.ownsRow base e 8 (.slice (some ⟨G, 0, none⟩) (acc.length + 1) cap) (acc.length + 1) (news ++ [.int .i64 x.n0, .int .i64 x.n1, .int .i64 x.n2, .int .i64 x.n3, .int .i64 x.n4, .int .i64 x.n5, .string x.s, .slice x.A x.len x.cap])) (wd : List UInt8) :
    TV w1 Q ⟨5, 0, 0, 0, 0, 0, ⟨wd.toArray⟩, some ⟨G, 0, none⟩, acc.length + 1, cap⟩ (ot.map fun t => callT wd (acc ++ [t])) := by
  cases ot with
  | none => trivial
  | some t =>
    obtain ⟨A, ca, hxe, hv⟩ := hx
    subst hxe
    have hc := own_cell hown
    have hkl : KLc w1 P acc G 0 := hre w1 G 0 hk fun j u hj => hc j u (by rw [List.getElem?_append_left (List.getElem?_eq_some_iff.1 hj).1]; exact hj)
    have h8 : ∀ j u, ([.int .i64 t.kind, .int .i64 t.num, .int .i64 t.c1, .int .i64 t.r1, .int .i64 t.c2, .int .i64 t.r2, .string ⟨t.word.toArray⟩, .slice A t.kids.length ca] : List Value)[j]? = some u → w1.cell? ⟨G, 0 + acc.length * 8 + j, none⟩ = some u := fun j u hj => by
      have := hc (acc.length * 8 + j) u (by rw [List.getElem?_append_right (by omega), hn, Nat.add_sub_cancel_left]; exact hj)
      rwa [← Nat.add_assoc] at this
    refine ⟨some ⟨G, 0, none⟩, cap, by simp [tv8, callT, Tr.kind, Tr.num, Tr.c1, Tr.r1, Tr.c2, Tr.r2, Tr.word, Tr.kids], ?_⟩
    refine KVc.mk' (by simp only [callT, Tr.kids, List.length_append, List.length_cons, List.length_nil]; exact own_cap hown) (.inr ⟨G, 0, rfl, hG, hGl, ?_⟩)
    · exact KLc.imp hPQ (hkl.snoc ⟨A, ca, ⟨h8 0 _ rfl, h8 1 _ rfl, h8 2 _ rfl, h8 3 _ rfl, h8 4 _ rfl, h8 5 _ rfl, h8 6 _ rfl, h8 7 _ rfl⟩, hv.stay hk⟩)
theorem tree_infoR : (Tryd.prog.info? 29).map (fun i => (i.zero, i.size, i.bytes)) = some (some (.agg #[.int .i64 0, .int .i64 0, .int .i64 0, .int .i64 0, .int .i64 0, .int .i64 0, .string ⟨#[]⟩, .slice none 0 0]), 8, 88) := by kernel_rfl
theorem run_append_none {P : Program} (w : World) (t ty e : TypeId) (i : TypeInfo) (ht : P.underlying t = some (.slice e)) (hi : P.info? e = some i) (B : Nat) :
    (Builtin.append_ #[t, t] ty #[.slice (some ⟨B, 0, none⟩) 0 0, .slice none 0 0]).run P w = .ok (.slice (some ⟨B, 0, none⟩) 0 0) w := by
  simp [Builtin.append_, run_underlying ht, sizeOf, typeInfo, hi, Builtin.lenOf, Builtin.firstCells, loadCells, loadCellsFrom, storeCells]
theorem step_append_none {P : Program} {w : World} {ops : Array Oper} {o : Oper} {a : Act} {K : Act → World → Prop} {Q : Exit → Act → World → Prop} {E : Prop} (hgd : o.guard = none) (s x : Operand) (t : TypeId)
    (ho : o.op = .call { callee := .builtin .append, args := #[s, x], argTypes := #[t, t] }) (e : TypeId) (i : TypeInfo) (ht : P.underlying t = some (.slice e)) (hi : P.info? e = some i) (B : Nat)
    (hs : a.eval s = .slice (some ⟨B, 0, none⟩) 0 0) (hx : a.eval x = .slice none 0 0) (h : K (a.put o.dst (.slice (some ⟨B, 0, none⟩) 0 0)) w) :
    if Region.wanted o (yielded ops a.tmps) = true then Oper.wp P o a w K Q else E := by
  have hw : Region.wanted o (yielded ops a.tmps) = true := by simp [Region.wanted, hgd]
  rw [if_pos hw]
  unfold Oper.wp execOp
  simp only [ho, resolve, invoke, builtin, Sem.run_bind, Sem.run_pure, Result.andThen_ok, List.map_toArray, List.map_cons, List.map_nil, hs, hx, run_append_none w t o.type e i ht hi B]
  exact h
end Go.Proofs.YthaoalmhhgllmaaDoor
