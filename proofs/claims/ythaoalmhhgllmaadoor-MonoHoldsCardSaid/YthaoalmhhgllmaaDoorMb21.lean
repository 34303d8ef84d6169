/- Texts joined: TrQ, RuA, SyR. -/
import Derived.Test.YthaoalmhhgllmaaDoorMb20
import Derived.Test.YthaoalmhhgllmaaDoorMb18
import Derived.Deep.LoopGhost
import Derived.Deep.RegionLaw
import Derived.Deep.CutRange
import Derived.Test.YthaoalmhhgllmaaDoorMb17
import Derived.Test.YthaoalmhhgllmaaDoorMb05
import Derived.Test.YthaoalmhhgllmaaDoorMb06
set_option linter.all false
namespace Go.Proofs.YthaoalmhhgllmaaDoor
open Go.RowKit
theorem must_goS {L : List Tok} {E p : Nat} {s : List UInt8} {f : Nat → Option Res} {g : Got} (h : toS (mustF L E p s f) = some g) : goS f (mustS L E s (.run p)) = some g := by
  rcases toS_must h with ⟨q, m, h⟩ | ⟨x, m, rfl⟩
  · rw [m]; exact h
  · rw [m]; rfl
theorem c8_liftB {w w' : World} {B : Nat} {v0 v1 v2 v3 v4 v5 v6 v7 : Value} (h : ∀ (j : Nat) (v : Value), w.cell? ⟨B, j, none⟩ = some v → w'.cell? ⟨B, j, none⟩ = some v) (k : C8 w B v0 v1 v2 v3 v4 v5 v6 v7) : C8 w' B v0 v1 v2 v3 v4 v5 v6 v7 := by
  obtain ⟨h0, h1, h2, h3, h4, h5, h6, h7⟩ := k
  exact ⟨h 0 _ h0, h 1 _ h1, h 2 _ h2, h 3 _ h3, h 4 _ h4, h 5 _ h5, h 6 _ h6, h 7 _ h7⟩
theorem f8_liftB {w w' : World} {B : Nat} (h : ∀ (j : Nat), w.frozen? ⟨B, j, none⟩ = false → w'.frozen? ⟨B, j, none⟩ = false) (k : F8 w B) : F8 w' B := by
  obtain ⟨h0, h1, h2, h3, h4, h5, h6, h7⟩ := k
  exact ⟨h 0 h0, h 1 h1, h 2 h2, h 3 h3, h 4 h4, h 5 h5, h 6 h6, h 7 h7⟩
theorem cells8_of' {k : Nat} {v0 v1 v2 v3 v4 v5 v6 v7 : Value} {ty : TypeId} {fz : Nat × Nat} {w : World} (hk : w.heap[k]? = some (.cells #[v0, v1, v2, v3, v4, v5, v6, v7] ty fz)) : C8 w k v0 v1 v2 v3 v4 v5 v6 v7 := by
  have c := fun j => Lib.cell_of_heap hk j
  exact ⟨c 0, c 1, c 2, c 3, c 4, c 5, c 6, c 7⟩
theorem hkvR {w wr : World} {R O : Nat} {t : Tr} {A : Option Addr} (_ : But R w wr) {cap : Nat} (h : KVc wr (fun b => w.heap.size < b ∧ b ≠ O) t A cap) (hR : R < w.heap.size) : KVc wr (fun b => w.heap.size < b ∧ b ≠ O ∧ b ≠ R) t A cap :=
  h.imp fun b hb => ⟨hb.1, hb.2, by have := hb.1; omega⟩
theorem heap2_new (w : World) (X Y : Obj) : ((w.alloc X).alloc Y).heap[w.heap.size + 1]? = some Y := by
  have := heap_alloc_new (w.alloc X) Y
  rwa [show (w.alloc X).heap.size = w.heap.size + 1 from by simp] at this
theorem heap2_old (w : World) (X Y : Obj) : ((w.alloc X).alloc Y).heap[w.heap.size]? = some X := by
  rw [Below.heap_alloc (w.alloc X) Y w.heap.size (by simp)]; exact heap_alloc_new w X
def IC (w w7 : World) (O R : Nat) (wd : List UInt8) (acc : List Tr) (ot : Option Tr) (wx : World) : Prop := ∃ (g2 cap2 : Nat) (w9 : World), wx = w9.setCell ⟨O, 7, none⟩ (.slice (some ⟨g2, 0, none⟩) (acc.length + 1) cap2) ∧ Below w7.heap.size w7 w9 ∧
  TV w9 (fun b => w.heap.size < b ∧ b ≠ O ∧ b ≠ R) ⟨5, 0, 0, 0, 0, 0, ⟨wd.toArray⟩, some ⟨g2, 0, none⟩, acc.length + 1, cap2⟩ (ot.map fun t => callT wd (acc ++ [t]))
theorem frozen_setCell' {w : World} {a p : Addr} {v : Value} : (w.setCell a v).frozen? p = w.frozen? p := by simp
theorem c8_store7 {w : World} {B : Nat} {v0 v1 v2 v3 v4 v5 v6 v7 u : Value} (h : C8 w B v0 v1 v2 v3 v4 v5 v6 v7) : C8 (w.setCell ⟨B, 7, none⟩ u) B v0 v1 v2 v3 v4 v5 v6 u := by
  obtain ⟨h0, h1, h2, h3, h4, h5, h6, h7⟩ := h
  refine ⟨?_, ?_, ?_, ?_, ?_, ?_, ?_, ?_⟩ <;> simp [go_sem, *]
theorem items_step {L : List Tok} {E n : Nat} {wd : List UInt8} {acc : List Tr} {st : St} {g : Got} (h : goS (itemsF L E n wd acc) st = some g) :
    ∃ j g1, j ≤ n ∧ goS (itemF L E j (wd == [67, 79, 85, 78, 84])) st = some g1 ∧
      (markR L 0 [44] g1.1 = true → ∃ q t, g1 = (.run q, some t) ∧ isMark L q [44] = true ∧ goS (itemsF L E j wd (acc ++ [t])) (.run (q + 1)) = some g ∧ j < n) ∧
      (markR L 0 [44] g1.1 = false → g.1 = mustS L E [41] g1.1 ∧ (g.2 = none ∨ g.2 = g1.2.map fun t => callT wd (acc ++ [t]))) := by
  cases st with
  | out x =>
    obtain rfl : (.out x, none) = g := Option.some.inj h
    exact ⟨0, (.out x, none), Nat.zero_le _, rfl, (fun e => by cases e), (fun _ => ⟨rfl, .inl rfl⟩)⟩
  | run p =>
    have h' : toS (itemsF L E n wd acc p) = some g := h
    cases n with
    | zero => rw [itemsF] at h'; cases h'
    | succ n =>
      rw [itemsF] at h'
      rcases toS_next h' with ⟨t, q, e, e2⟩ | ⟨x, e, rfl⟩
      · refine ⟨n, (.run q, some t), by omega, e, (fun hm => ?_), (fun hm => ?_)⟩
        · have hm' : isMark L q [44] = true := hm
          rw [if_pos hm'] at e2
          exact ⟨q, t, rfl, hm', e2, by omega⟩
        · have hm' : isMark L q [44] = false := hm
          rw [if_neg (by rw [hm']; decide)] at e2
          rcases toS_must e2 with ⟨q2, m, h2⟩ | ⟨x, m, rfl⟩
          · obtain rfl : (.run q2, some (callT wd (acc ++ [t]))) = g := Option.some.inj h2
            exact ⟨m.symm, .inr rfl⟩
          · exact ⟨m.symm, .inl rfl⟩
      · exact ⟨n, (.out x, none), by omega, e, (fun hm => by cases hm), (fun _ => ⟨rfl, .inl rfl⟩)⟩
set_option maxHeartbeats 2000000 in
set_option maxRecDepth 10000 in
theorem roper_items (R : Nat) (A : Option Addr) (cap : Nat) (L : List Tok) (E : Nat) (hL : L.length ≤ 1000) (w : World) (p : Nat) (hr : RS w R A cap L E (.run p)) (hk : TK w R A L) (hm : isMark L p [40] = false) (t : Tok) (ht : L[p]? = some t) (k5 : (t.kind == 5) = false) (k1 : (t.kind == 1) = false) (k2 : (t.kind == 2) = false) (k3 : (t.kind == 3) = false) (kw : (t.text == [73, 70]) = false) {k : Nat} (hk9 : k ≤ 100000) (hP : ∀ j, j ≤ k → TreeC R A cap L E 90 #[.pointer (some ⟨R, 0, none⟩), .bool (t.text == [67, 79, 85, 78, 84])] (itemF L E j (t.text == [67, 79, 85, 78, 84]))) (g : Got) (hg : goS (itemsF L E k t.text []) (mustS L E [40] (.run (p + 1))) = some g) : Calls Tryd.prog 75 #[.pointer (some ⟨R, 0, none⟩)] w fun e w' => ∃ x : V8, e = .returned x.val ∧ TV w' (fun b => w.heap.size ≤ b) x (g.2) ∧ RS w' R A cap L E (g.1) ∧ But R w w' := by
  have HR := Lib.hid hr
  have HT := Lib.hid hk
  have hlt : R < w.heap.size := hr.lt
  have nk : w.heap.size ≠ R := by omega
  clear hr hk
  have HM := Lib.hid hm
  have HP := Lib.hid hP
  have HG := Lib.hid hg
  clear hP hg
  have HX := Lib.hid ht
  have hp : p < L.length := (List.getElem?_eq_some_iff.1 ht).1
  clear hm ht
  go_enter Tryd.func75, Tryd.ntmps75
  go_wp2_with fail
  refine (rmark_any (R := R) (A := A) (cap := cap) (L := L) (E := E) (m := 0) (st := .run p) ⟨#[40]⟩ hL (by omega) (by (with_reducible repeat' (first | exact HR.out | refine zRf ?_ nk _ _ | refine zRa ?_ _ | refine zRn ?_ _ | refine zRd ?_))) (HT.out.but (by (with_reducible repeat' (first | exact But.refl _ _ | refine zBr ?_ _ _ | refine zBs ?_ (by omega) _ _ | refine zBa ?_ _ | refine zBn ?_ _ | refine zBd ?_))))).mono ?_; rintro e w1 ⟨rfl, b1⟩
  have h1 : But R w w1 := But.trans (by (with_reducible repeat' (first | exact But.refl _ _ | refine zBr ?_ _ _ | refine zBs ?_ (by omega) _ _ | refine zBa ?_ _ | refine zBn ?_ _ | refine zBd ?_))) (But.of_below b1)
  have zk1 : w.heap.size < w1.heap.size := by have := b1.size; first | omega | (simp at this; omega)
  have Hk1 : C8 w1 (w.heap.size) (.int .i64 0) (.int .i64 0) (.int .i64 0) (.int .i64 0) (.int .i64 0) (.int .i64 0) (.string ⟨#[]⟩) (.slice none 0 0) := by refine ⟨?_, ?_, ?_, ?_, ?_, ?_, ?_, ?_⟩ <;> exact (But.of_below b1).cell nk (by simp [go_sem])
  obtain ⟨k10, k11, k12, k13, k14, k15, k16, k17⟩ := Hk1
  have Hkf1 : F8 w1 (w.heap.size) := by refine ⟨?_, ?_, ?_, ?_, ?_, ?_, ?_, ?_⟩ <;> exact (But.of_below b1).frozen nk (by first | omega | (simp; done) | (simp; omega)) (by simp [go_sem])
  obtain ⟨kf10, kf11, kf12, kf13, kf14, kf15, kf16, kf17⟩ := Hkf1
  have y1 : w.heap.size < w1.heap.size := zk1
  have HR1 : Hid (RS w1 R A cap L E (.run p)) := Lib.hid (RS.below (by (with_reducible repeat' (first | exact HR.out | refine zRf ?_ nk _ _ | refine zRa ?_ _ | refine zRn ?_ _ | refine zRd ?_))) b1)
  clear b1
  have e1 : markR L 0 [40] (.run p) = false := HM.out
  obtain ⟨_, _, hc⟩ := HR1.out
  have c0 := hc.c0
  have c1 := hc.c1
  have c3 := hc.c3
  have cf1 := hc.f1
  clear hc
  obtain ⟨ga1, hA, hgaR1, hgal1, t0, t1, t2, t3, t4, t5⟩ := (HT.out.but h1).at HX.out
  rw [hA] at c0
  clear hA
  have d11 : decide (L.length ≤ p) = false := decide_eq_false (by omega)
  have zR1 : R < w1.heap.size := by omega
  go_wp2_with fail
  go_quiet (fail)
  clear c0 c1 c3 cf1 t0 t1 t2 t3 t4 t5 zR1
  go_wp2_with fail
  generalize hq2 : w1.drewN nq = w2
  have b2 : Below w1.heap.size w1 w2 := by rw [← hq2]; exact below_drewN (Below.refl _ _) _
  clear hq2
  have h2 : But R w w2 := But.trans (by (with_reducible repeat' (first | exact h1 | refine zBr ?_ _ _ | refine zBs ?_ (by omega) _ _ | refine zBa ?_ _ | refine zBn ?_ _ | refine zBd ?_))) (But.of_below b2)
  have zk2 : w.heap.size < w2.heap.size := by have := b2.size; first | omega | (simp at this; omega)
  have Hk2 := c8_lift (B := w.heap.size) (fun j v hv => (But.of_below b2).cell nk (by with_reducible repeat' (first | exact hv | refine zCs ?_ (by omega) _ _ | refine zCa ?_ _ | refine zCn ?_ _ | refine zCd ?_))) k10 k11 k12 k13 k14 k15 k16 k17
  obtain ⟨k20, k21, k22, k23, k24, k25, k26, k27⟩ := Hk2
  have Hkf2 := f8_lift (B := w.heap.size) (fun j hv => (But.of_below b2).frozen nk (by first | omega | (simp; done) | (simp; omega)) (by with_reducible repeat' (first | exact hv | refine zFs ?_ (by omega) _ _ | refine zFa ?_ (by first | omega | (simp; omega)) _ | refine zFn ?_ _ | refine zFd ?_))) kf10 kf11 kf12 kf13 kf14 kf15 kf16 kf17
  obtain ⟨kf20, kf21, kf22, kf23, kf24, kf25, kf26, kf27⟩ := Hkf2
  have y2 : w.heap.size < w2.heap.size := zk2
  have HR2 : Hid (RS w2 R A cap L E (.run p)) := Lib.hid (RS.below (by (with_reducible repeat' (first | exact HR1.out | refine zRf ?_ nk _ _ | refine zRa ?_ _ | refine zRn ?_ _ | refine zRd ?_))) b2)
  clear b2 k10 k11 k12 k13 k14 k15 k16 k17 kf10 kf11 kf12 kf13 kf14 kf15 kf16 kf17 zk1
  obtain ⟨_, _, hc⟩ := HR2.out
  have c0 := hc.c0
  have c1 := hc.c1
  have c3 := hc.c3
  have cf1 := hc.f1
  clear hc
  obtain ⟨ga2, hA, hgaR2, hgal2, t0, t1, t2, t3, t4, t5⟩ := (HT.out.but h2).at HX.out
  rw [hA] at c0
  clear hA
  have d12 : decide (L.length ≤ p) = false := decide_eq_false (by omega)
  have zR2 : R < w2.heap.size := by omega
  have HS2 : Hid (RS (w2.setCell ⟨R, 1, none⟩ (.int .i64 ((p : Int) + 1))) R A cap L E (.run (p + 1))) := Lib.hid (HR2.out.step hp (by omega))
  go_region
  go_wp2_with fail
  clear c0 c1 c3 cf1 t0 t1 t2 t3 t4 t5
  have na : w2.heap.size ≠ R := by omega
  refine (rmust_any (R := R) (A := A) (cap := cap) (L := L) (E := E) (st := .run (p + 1)) ⟨#[40]⟩ hL (by (with_reducible repeat' (first | exact HS2.out | refine zRf ?_ nk _ _ | refine zRf ?_ na _ _ | refine zRa ?_ _ | refine zRn ?_ _ | refine zRd ?_))) (HT.out.but (by (with_reducible repeat' (first | exact h2 | refine zBr ?_ _ _ | refine zBs ?_ (by omega) _ _ | refine zBa ?_ _ | refine zBn ?_ _ | refine zBd ?_))))).mono ?_; rintro e w3 ⟨rfl, r3, b3⟩
  have h3 : But R w w3 := But.trans (by (with_reducible repeat' (first | exact h2 | refine zBr ?_ _ _ | refine zBs ?_ (by omega) _ _ | refine zBa ?_ _ | refine zBn ?_ _ | refine zBd ?_))) b3
  have zk3 : w.heap.size < w3.heap.size := by have := b3.size; first | omega | (simp at this; omega)
  have Hk3 := c8_lift (B := w.heap.size) (fun j v hv => b3.cell nk (by with_reducible repeat' (first | exact hv | refine zCs ?_ (by omega) _ _ | refine zCa ?_ _ | refine zCn ?_ _ | refine zCd ?_))) k20 k21 k22 k23 k24 k25 k26 k27
  obtain ⟨k30, k31, k32, k33, k34, k35, k36, k37⟩ := Hk3
  have Hkf3 := f8_lift (B := w.heap.size) (fun j hv => b3.frozen nk (by first | omega | (simp; done) | (simp; omega)) (by with_reducible repeat' (first | exact hv | refine zFs ?_ (by omega) _ _ | refine zFa ?_ (by first | omega | (simp; omega)) _ | refine zFn ?_ _ | refine zFd ?_))) kf20 kf21 kf22 kf23 kf24 kf25 kf26 kf27
  obtain ⟨kf30, kf31, kf32, kf33, kf34, kf35, kf36, kf37⟩ := Hkf3
  have za3 : w2.heap.size < w3.heap.size := by have := b3.size; first | omega | (simp at this; omega)
  have a30 : w3.cell? ⟨w2.heap.size, 0, none⟩ = some (.int .i64 t.kind) := b3.cell na (by simp [go_sem])
  have a31 : w3.cell? ⟨w2.heap.size, 1, none⟩ = some (.int .i64 t.num) := b3.cell na (by simp [go_sem])
  have a32 : w3.cell? ⟨w2.heap.size, 2, none⟩ = some (.int .i64 t.col) := b3.cell na (by simp [go_sem])
  have a33 : w3.cell? ⟨w2.heap.size, 3, none⟩ = some (.int .i64 t.row) := b3.cell na (by simp [go_sem])
  have a34 : w3.cell? ⟨w2.heap.size, 4, none⟩ = some (.string ⟨t.text.toArray⟩) := b3.cell na (by simp [go_sem])
  have a35 : w3.cell? ⟨w2.heap.size, 5, none⟩ = some (.int .i64 (t.frm : Int)) := b3.cell na (by simp [go_sem])
  have y3 : w.heap.size < w3.heap.size := zk3
  have HR3 : Hid (RS w3 R A cap L E (mustS L E [40] (.run (p + 1)))) := Lib.hid r3
  clear b3 r3 k20 k21 k22 k23 k24 k25 k26 k27 kf20 kf21 kf22 kf23 kf24 kf25 kf26 kf27 zk2
  go_wp2_with fail
  have HT4 : Hid (w3.cell? ⟨w2.heap.size, 4, none⟩ = some (.string ⟨t.text.toArray⟩)) := Lib.hid a34
  have qT : w.heap.size < w2.heap.size := y2
  clear a30 a31 a32 a33 a34 a35
  have nO : w3.heap.size ≠ R := by omega
  go_loopg [11] k (fun n _ wr => ∃ (x : V8) (st : St) (acc : List Tr), acc.length + n ≤ k ∧ (acc = [] → x.A = none ∧ x.cap = 0) ∧ Hid (LR w wr R A cap L E w3.heap.size x st (some (callT t.text acc))) ∧ Hid (wr.cell? ⟨w2.heap.size, 4, none⟩ = some (.string ⟨t.text.toArray⟩)) ∧ w3.heap.size < wr.heap.size ∧ Hid (goS (itemsF L E n t.text acc) st = some g))
  case atStart =>
    refine ⟨⟨5, 0, 0, 0, 0, 0, ⟨t.text.toArray⟩, none, 0, 0⟩, mustS L E [40] (.run (p + 1)), [], by simp, fun _ => ⟨rfl, rfl⟩, Lib.hid ?_, Lib.hid (kc_alloc HT4.out _), by simp, HG⟩
    exact ⟨HR3.out.alloc _, h3.alloc _, by simp, by simp; omega, ⟨none, 0, rfl, KVc.mk' (Nat.le_refl _) (.inl rfl)⟩, kc_alloc k30 _, kc_alloc k31 _, kc_alloc k32 _, kc_alloc k33 _, kc_alloc k34 _, kc_alloc k35 _, kc_alloc k36 _, kc_alloc k37 _, kf_alloc kf30 y3 _, kf_alloc kf31 y3 _, kf_alloc kf32 y3 _, kf_alloc kf33 y3 _, kf_alloc kf34 y3 _, kf_alloc kf35 y3 _, kf_alloc kf36 y3 _, kf_alloc kf37 y3 _, by simp [go_sem], by simp [go_sem], by simp [go_sem], by simp [go_sem], by simp [go_sem], by simp [go_sem], by simp [go_sem], by simp [go_sem], by simp [go_sem], by simp [go_sem], by simp [go_sem], by simp [go_sem], by simp [go_sem], by simp [go_sem], by simp [go_sem], by simp [go_sem]⟩
  case round =>
    obtain ⟨x, st, acc, hn, hnil, HL, HT5, zo5, HN⟩ := hrel
    obtain ⟨j, g1, hj, hg1, hmore, hend⟩ := items_step HN.out
    obtain ⟨A', ca', rfl, hkv⟩ := HL.out.tv
    replace hnil : acc = [] → A' = none ∧ ca' = 0 := hnil
    have lr := HL.out
    have h5 := lr.but
    have o50 := lr.o0
    have o51 := lr.o1
    have o52 := lr.o2
    have o53 := lr.o3
    have o54 := lr.o4
    have o55 := lr.o5
    have o56 := lr.o6
    have o57 := lr.o7
    have HC5 : Hid ((C8 wr w.heap.size (.int .i64 0) (.int .i64 0) (.int .i64 0) (.int .i64 0) (.int .i64 0) (.int .i64 0) (.string ⟨#[]⟩) (.slice none 0 0) ∧ F8 wr w.heap.size) ∧ C8 wr w3.heap.size (.int .i64 5) (.int .i64 0) (.int .i64 0) (.int .i64 0) (.int .i64 0) (.int .i64 0) (.string ⟨t.text.toArray⟩) (.slice A' acc.length ca') ∧ F8 wr w3.heap.size) := Lib.hid ⟨⟨⟨lr.k0, lr.k1, lr.k2, lr.k3, lr.k4, lr.k5, lr.k6, lr.k7⟩, lr.kf0, lr.kf1, lr.kf2, lr.kf3, lr.kf4, lr.kf5, lr.kf6, lr.kf7⟩, ⟨lr.o0, lr.o1, lr.o2, lr.o3, lr.o4, lr.o5, lr.o6, lr.o7⟩, lr.of0, lr.of1, lr.of2, lr.of3, lr.of4, lr.of5, lr.of6, lr.of7⟩
    have HR5 := Lib.hid lr.rs
    have HKV5 := Lib.hid hkv
    have HPj := Lib.hid (HP.out j (by omega))
    have HE1 := Lib.hid hg1
    have HMo := Lib.hid hmore
    have HEn := Lib.hid hend
    have zk5 : w.heap.size < wr.heap.size := lr.hk
    have t5 := HT5.out
    obtain ⟨st1, ot1⟩ := g1
    clear lr HL HN hkv hg1 hmore hend o50 o51 o52 o53 o54 o55 o56 o57
    go_wp2_with fail
    refine (HPj.out _ st (st1, ot1) (by with_reducible repeat' (first | exact HR5.out | refine zRf ?_ nk _ _ | refine zRf ?_ nO _ _ | refine zRa ?_ _ | refine zRn ?_ _ | refine zRd ?_)) (HT.out.but (by with_reducible repeat' (first | exact h5 | refine zBr ?_ _ _ | refine zBs ?_ (by omega) _ _ | refine zBa ?_ _ | refine zBn ?_ _ | refine zBd ?_))) HE1.out).mono ?_; rintro e w6 ⟨⟨c0, c1, c2, c3, c4, c5, cw, cA, cl, cc⟩, rfl, v6, r6, b6⟩
    dsimp only [V8.val]
    go_wp2_with fail
    have hz6 : wr.heap.size ≤ w6.heap.size := b6.size
    obtain ⟨w7, hw7⟩ : ∃ w7, w7 = w6.alloc (.cells #[.int .i64 c0, .int .i64 c1, .int .i64 c2, .int .i64 c3, .int .i64 c4, .int .i64 c5, .string cw, .slice cA cl cc] 29) := ⟨_, rfl⟩
    rw [← hw7]
    have z7 : w7.heap.size = w6.heap.size + 1 := by rw [hw7]; simp
    have hb7 : Below w6.heap.size w6 w7 := by rw [hw7]; exact (Below.refl _ _).alloc (Nat.le_refl _) _
    have hb57 : But R wr w7 := b6.trans (But.of_below hb7)
    have h7 : But R w w7 := h5.trans hb57
    have zR : R < wr.heap.size := by omega
    have HC7 : Hid ((C8 w7 w.heap.size (.int .i64 0) (.int .i64 0) (.int .i64 0) (.int .i64 0) (.int .i64 0) (.int .i64 0) (.string ⟨#[]⟩) (.slice none 0 0) ∧ F8 w7 w.heap.size) ∧ C8 w7 w3.heap.size (.int .i64 5) (.int .i64 0) (.int .i64 0) (.int .i64 0) (.int .i64 0) (.int .i64 0) (.string ⟨t.text.toArray⟩) (.slice A' acc.length ca') ∧ F8 w7 w3.heap.size) := Lib.hid ⟨⟨c8_liftB (fun q v hv => hb57.cell nk hv) HC5.out.1.1, f8_liftB (fun q hv => hb57.frozen nk zk5 hv) HC5.out.1.2⟩, c8_liftB (fun q v hv => hb57.cell nO hv) HC5.out.2.1, f8_liftB (fun q hv => hb57.frozen nO zo5 hv) HC5.out.2.2⟩
    have HT7 : Hid (w7.cell? ⟨w2.heap.size, 4, none⟩ = some (.string ⟨t.text.toArray⟩)) := Lib.hid (hb57.cell na HT5.out)
    have HR7 : Hid (RS w7 R A cap L E st1) := Lib.hid (RS.below r6 (by rw [hw7]; exact (Below.refl _ _).alloc (Nat.le_refl _) _))
    have HKV7 : Hid (KVc w7 (fun b => w.heap.size < b ∧ b ≠ w3.heap.size ∧ b ≠ R) (callT t.text acc) A' ca') := Lib.hid ((hkvR h5 HKV5.out hlt).stay ⟨hb57.size, fun q hp hl => hb57.block q hl hp.2.2⟩)
    have HV7 : Hid (TV w7 (fun b => w.heap.size < b ∧ b ≠ w3.heap.size ∧ b ≠ R) ⟨c0, c1, c2, c3, c4, c5, cw, cA, cl, cc⟩ ot1) := Lib.hid ((v6.kept (Kept.of_below hb7)).imp fun b (hb : wr.heap.size ≤ b) => ⟨by omega, by omega, by omega⟩)
    have HB7 : Hid (C8 w7 w6.heap.size (.int .i64 c0) (.int .i64 c1) (.int .i64 c2) (.int .i64 c3) (.int .i64 c4) (.int .i64 c5) (.string cw) (.slice cA cl cc)) := Lib.hid (by rw [hw7]; exact cells8_of' (heap_alloc_new w6 _))
    have zT7 : w2.heap.size < w7.heap.size := by omega
    have z67 : w6.heap.size < w7.heap.size := by omega
    have zO7 : w3.heap.size < w7.heap.size := by omega
    have zK7 : w.heap.size < w7.heap.size := by omega
    have HZ7 := Lib.hid z7
    clear z7 hb57 hb7 hw7 v6 r6 b6 HC5 HKV5 HR5 HT5 t5 HE1 k30 kf30 k31 kf31 k32 kf32 k33 kf33 k34 kf34 k35 kf35 k36 kf36 k37 kf37
    obtain ⟨q0, q1, q2, q3, q4, q5, q6, q7⟩ := HB7.out
    obtain ⟨_, _, _, _, _, _, _, o7⟩ := HC7.out.2.1
    obtain ⟨_, _, _, _, _, _, _, f7⟩ := HC7.out.2.2
    go_cut [] from 120 to 146 (fun wx => IC w w7 w3.heap.size R t.text acc ot1 wx)
    case first =>
      obtain ⟨i0, hi0, hz0, hz1, hz2⟩ := info_parts tree_infoR
      clear HC7 HT7 HR7 HB7 HMo HEn HPj HR HT HM HP HG HX h1 HR1 h2 HR2 h3 HR3 HT4 h5 h7 HS2
      cases acc with
      | nil =>
        obtain ⟨rfl, rfl⟩ := hnil rfl
        have FIN : Hid (∀ (g2 cap2 : Nat) (w9 : World), w9.ownsRow w7.heap.size 29 8 (.slice (some ⟨g2, 0, none⟩) (0 + 1) cap2) (0 + 1) ([] ++ [.int .i64 c0, .int .i64 c1, .int .i64 c2, .int .i64 c3, .int .i64 c4, .int .i64 c5, .string cw, .slice cA cl cc]) → g2 < w9.heap.size → Below w7.heap.size w7 w9 → w7.heap.size ≤ g2 → IC w w7 w3.heap.size R t.text [] ot1 (w9.setCell ⟨w3.heap.size, 7, none⟩ (.slice (some ⟨g2, 0, none⟩) (0 + 1) cap2))) := Lib.hid fun g2 cap2 w9 ho hl hb hg => by
          exact ⟨g2, cap2, w9, rfl, hb, kids_grown (P := (fun b => w.heap.size < b ∧ b ≠ w3.heap.size ∧ b ≠ R)) (Q := (fun b => w.heap.size < b ∧ b ≠ w3.heap.size ∧ b ≠ R)) (news := []) rfl (fun w' g' o' _ _ => KLc_nil w' _ g' o') HV7.out (Kept.of_below hb) (fun b h => h) ⟨by omega, by omega, by omega⟩ hl (by simpa using ho) t.text⟩
        clear HV7 HKV7
        go_region_law (first
        | (refine step_append_lies _ (by rfl) _ _ _ (by rfl) w7.heap.size 29 i0 _ 8 88 Tryd.underlying27 hi0 hz0 hz1 hz2 rfl (by omega) _ (0) ([]) (by rfl) (own_empty (by first | exact Nat.le_refl _ | omega | (simp; done) | (simp; omega)) (by first | exact heap_alloc_new w7 _ | exact heap2_old w7 _ _ | exact heap2_new w7 _ _))
              ⟨_, 0, none⟩ 1 1 [.int .i64 c0, .int .i64 c1, .int .i64 c2, .int .i64 c3, .int .i64 c4, .int .i64 c5, .string cw, .slice cA cl cc] (by rfl) (by rfl) (World.news_of_block (cs := #[.int .i64 c0, .int .i64 c1, .int .i64 c2, .int .i64 c3, .int .i64 c4, .int .i64 c5, .string cw, .slice cA cl cc]) (t := 29) (fr := (0, 0)) (by first | exact heap_alloc_new w7 _ | exact heap2_old w7 _ _ | exact heap2_new w7 _ _)) (by simp [Value.oneCell'])
              (by omega) (by unfold maxLen; omega) (by omega) (by first | omega | (simp; done) | (simp; omega)) _ rfl ?_; intro g2 cap2 w9 hown2 hgrow2 hat2 hlt2
           have B9 : Below w7.heap.size w7 w9 := Below.grown (by with_reducible repeat' (first | exact Below.refl _ _ | refine Below.alloc ?_ (by first | exact Nat.le_refl _ | omega | (simp; done) | (simp; omega)) _ | refine Below.drew ?_)) hgrow2 (by first | omega | (simp; done) | (simp; omega)) (fun k hk => by simp [Value.ownBlock] at hk; omega)
           have hg2 : w7.heap.size ≤ g2 := (hown2.lt g2 rfl).1
           have m7 := keep_cell B9 o7
           have nf7 := keep_frozen B9 zO7 f7
           have zO9 : w3.heap.size < w9.heap.size := Nat.lt_of_lt_of_le zO7 B9.size
           clear hgrow2 hat2)
        | (refine step_append_none rfl _ _ _ (by rfl) 29 i0 Tryd.underlying27 hi0 _ (by rfl) (by rfl) ?_)
        | fail)
        all_goals (go_wp2_with fail; go_meet; exact FIN.out _ _ _ hown2 hlt2 B9 hg2)
      | cons a0 acc0 =>
        clear hnil
        have HKK := HKV7.out.kids
        obtain ⟨G, og, rfl, hPG, hGl, hkl⟩ : ∃ g o, A' = some ⟨g, o, none⟩ ∧ (w.heap.size < g ∧ g ≠ w3.heap.size ∧ g ≠ R) ∧ g < w7.heap.size ∧ KLc w7 (fun b => w.heap.size < b ∧ b ≠ w3.heap.size ∧ b ≠ R) (a0 :: acc0) g o := by rcases HKK with e | h; exact absurd e (by simp [callT, Tr.kids]); exact h
        clear HKK
        obtain ⟨news, nw1, nw2, nw3, nw4⟩ := row_of hkl
        have HN4 := Lib.hid nw4
        have HN2 := Lib.hid nw2
        clear nw4 nw2 hkl
        have hlen : (a0 :: acc0).length ≤ 1000000 := by omega
        generalize hacc : a0 :: acc0 = acc at *
        have hpos : 0 < acc.length := by rw [← hacc]; simp
        clear hacc
        have FIN : Hid (∀ (g2 cap2 : Nat) (w9 : World), w9.ownsRow w7.heap.size 29 8 (.slice (some ⟨g2, 0, none⟩) (acc.length + 1) cap2) (acc.length + 1) (news ++ [.int .i64 c0, .int .i64 c1, .int .i64 c2, .int .i64 c3, .int .i64 c4, .int .i64 c5, .string cw, .slice cA cl cc]) → g2 < w9.heap.size → Below w7.heap.size w7 w9 → w7.heap.size ≤ g2 → IC w w7 w3.heap.size R t.text acc ot1 (w9.setCell ⟨w3.heap.size, 7, none⟩ (.slice (some ⟨g2, 0, none⟩) (acc.length + 1) cap2))) := Lib.hid fun g2 cap2 w9 ho hl hb hg => by
          exact ⟨g2, cap2, w9, rfl, hb, kids_grown (P := (fun b => w.heap.size < b ∧ b ≠ w3.heap.size ∧ b ≠ R)) (Q := (fun b => w.heap.size < b ∧ b ≠ w3.heap.size ∧ b ≠ R)) (news := news) nw1 HN4.out HV7.out (Kept.of_below hb) (fun b h => h) ⟨by omega, by omega, by omega⟩ hl (by simpa using ho) t.text⟩
        clear HV7 HKV7 HN4
        go_region_law (first
        | (refine step_append_lies _ (by rfl) _ _ _ (by rfl) w7.heap.size 29 i0 _ 8 88 Tryd.underlying27 hi0 hz0 hz1 hz2 rfl (by omega) (.slice (some ⟨g1, 0, none⟩) acc.length cap1) (acc.length) (news) (by rfl) (by first | exact hown1 | exact hown1.alloc _)
              ⟨_, 0, none⟩ 1 1 [.int .i64 c0, .int .i64 c1, .int .i64 c2, .int .i64 c3, .int .i64 c4, .int .i64 c5, .string cw, .slice cA cl cc] (by rfl) (by rfl) (World.news_of_block (cs := #[.int .i64 c0, .int .i64 c1, .int .i64 c2, .int .i64 c3, .int .i64 c4, .int .i64 c5, .string cw, .slice cA cl cc]) (t := 29) (fr := (0, 0)) (by first | exact hbk | exact heap_alloc_new w8 _)) (by simp [Value.oneCell'])
              (by omega) (by unfold maxLen; omega) (by omega) (by first | omega | (simp; done) | (simp; omega)) _ rfl ?_; intro g2 cap2 w9 hown2 hgrow2 hat2 hlt2
           have B9 : Below w7.heap.size w7 w9 := Below.grown (by with_reducible repeat' (first | exact Below.refl _ _ | exact B8 | refine Below.alloc ?_ (by first | exact Nat.le_refl _ | omega | (simp; done) | (simp; omega)) _ | refine Below.drew ?_)) hgrow2 (by first | omega | (simp; done) | (simp; omega)) (fun k hk => by simp [Value.ownBlock] at hk; subst hk; exact (hown1.lt _ rfl).1)
           have hg2 : w7.heap.size ≤ g2 := (hown2.lt g2 rfl).1
           have m7 := keep_cell B9 o7
           have nf7 := keep_frozen B9 zO7 f7
           have zO9 : w3.heap.size < w9.heap.size := Nat.lt_of_lt_of_le zO7 B9.size
           clear hgrow2 hat2; clear hown1 B8)
        | (refine step_append_lies _ (by rfl) _ _ _ (by rfl) w7.heap.size 29 i0 _ 8 88 Tryd.underlying27 hi0 hz0 hz1 hz2 rfl (by omega) _ 0 [] (by rfl) (own_empty (by first | exact Nat.le_refl _ | omega | (simp; done) | (simp; omega)) (by first | exact heap_alloc_new w7 _ | exact heap2_old w7 _ _ | exact heap2_new w7 _ _))
              ⟨G, og, none⟩ acc.length ca' news (by rfl) nw1 (fun j u hj => by rw [Go.WideShapes.add_plain]; with_reducible repeat' (first | exact HN2.out j u hj | refine zCa ?_ _ | refine zCd ?_)) nw3
              hpos (by unfold maxLen; omega) (by omega) (by first | omega | (simp; done) | (simp; omega)) _ rfl ?_; intro g1 cap1 w8 hown1 hgrow1 hat1 hlt1; simp only [Nat.zero_add, List.nil_append] at hown1 ⊢
           have B8 : Below w7.heap.size w7 w8 := Below.grown (by with_reducible repeat' (first | exact Below.refl _ _ | refine Below.alloc ?_ (by first | exact Nat.le_refl _ | omega | (simp; done) | (simp; omega)) _ | refine Below.drew ?_)) hgrow1 (by first | omega | (simp; done) | (simp; omega)) (fun k hk => by simp [Value.ownBlock] at hk; omega)
           have hs8 := B8.size
           try (have hbk : w8.heap[w7.heap.size + 1]? = some (.cells #[.int .i64 c0, .int .i64 c1, .int .i64 c2, .int .i64 c3, .int .i64 c4, .int .i64 c5, .string cw, .slice cA cl cc] 29 : Obj) := (hgrow1.block (w7.heap.size + 1) (by first | (simp; done) | (simp; omega)) (by simp [Value.ownBlock])).trans (heap2_new w7 _ _))
           try (have hbk : w8.heap[w7.heap.size]? = some (.cells #[.int .i64 c0, .int .i64 c1, .int .i64 c2, .int .i64 c3, .int .i64 c4, .int .i64 c5, .string cw, .slice cA cl cc] 29 : Obj) := (hgrow1.block w7.heap.size (by first | (simp; done) | (simp; omega)) (by simp [Value.ownBlock])).trans (heap2_old w7 _ _))
           have r7 := keep_cell B8 o7
           have sf7 := keep_frozen B8 zO7 f7
           have zO8 : w3.heap.size < w8.heap.size := Nat.lt_of_lt_of_le zO7 B8.size
           have z68 : w6.heap.size < w8.heap.size := Nat.lt_of_lt_of_le z67 B8.size
           have s0 := keep_cell B8 q0
           have s1 := keep_cell B8 q1
           have s2 := keep_cell B8 q2
           have s3 := keep_cell B8 q3
           have s4 := keep_cell B8 q4
           have s5 := keep_cell B8 q5
           have s6 := keep_cell B8 q6
           have s7 := keep_cell B8 q7
           clear hgrow1 hat1)
        | fail)
        all_goals (go_wp2_with fail; go_meet; exact FIN.out _ _ _ hown2 hlt2 B9 hg2)
    case rest =>
      obtain ⟨g2, cap2, w9, hwc, B9, hTV⟩ := hcut
      have HTV := Lib.hid hTV
      have nOK : w3.heap.size ≠ w.heap.size := by omega
      have nOT : w3.heap.size ≠ w2.heap.size := by omega
      have h10 : But R w wc := by rw [hwc]; exact (h7.trans (But.of_below B9)).setN (by omega) _ _
      have z10 : w7.heap.size ≤ wc.heap.size := by rw [hwc]; exact ((Below.refl 0 w9).setCell (p := ⟨w3.heap.size, 7, none⟩) (Nat.zero_le _) _).size |> Nat.le_trans B9.size
      have HK10 : Hid ((C8 wc w.heap.size (.int .i64 0) (.int .i64 0) (.int .i64 0) (.int .i64 0) (.int .i64 0) (.int .i64 0) (.string ⟨#[]⟩) (.slice none 0 0)) ∧ F8 wc w.heap.size) := Lib.hid (by rw [hwc]; exact ⟨c8_liftB (fun q v hv => kc_set (keep_cell B9 hv) nOK _ _) HC7.out.1.1, f8_liftB (fun q hv => kf_set (keep_frozen B9 zK7 hv) nOK _ _) HC7.out.1.2⟩)
      have HF10 : Hid (F8 wc w3.heap.size) := Lib.hid (by rw [hwc]; exact f8_liftB (fun q hv => by have := keep_frozen B9 zO7 hv; rwa [frozen_setCell']) HC7.out.2.2)
      have HO10 : Hid (C8 wc w3.heap.size (.int .i64 5) (.int .i64 0) (.int .i64 0) (.int .i64 0) (.int .i64 0) (.int .i64 0) (.string ⟨t.text.toArray⟩) (.slice (some ⟨g2, 0, none⟩) (acc.length + 1) cap2)) := Lib.hid (by rw [hwc]; exact c8_store7 (c8_liftB (fun q v hv => keep_cell B9 hv) HC7.out.2.1))
      have HT10 : Hid (wc.cell? ⟨w2.heap.size, 4, none⟩ = some (.string ⟨t.text.toArray⟩)) := Lib.hid (by rw [hwc]; exact kc_set (keep_cell B9 HT7.out) nOT _ _)
      have HR10 : Hid (RS wc R A cap L E st1) := Lib.hid (by rw [hwc]; exact (RS.below HR7.out B9).far nO _ _)
      have HV10 : Hid (TV wc (fun b => w.heap.size < b ∧ b ≠ w3.heap.size ∧ b ≠ R) ⟨5, 0, 0, 0, 0, 0, ⟨t.text.toArray⟩, some ⟨g2, 0, none⟩, acc.length + 1, cap2⟩ (ot1.map fun t1 => callT t.text (acc ++ [t1]))) := Lib.hid (by rw [hwc]; exact HTV.out.kept ((Kept.refl _ _).set (.inl fun h => h.2.1 rfl) _ _))
      have zKc : w.heap.size < wc.heap.size := by omega
      have zOc : w3.heap.size < wc.heap.size := by omega
      clear hTV HTV hwc HC7 HT7 HR7 HV7 HKV7 HB7 B9 q0 q1 q2 q3 q4 q5 q6 q7 o7 f7
      go_wp2_with fail
      refine (rmark_any (R := R) (A := A) (cap := cap) (L := L) (E := E) (m := 0) (st := st1) ⟨#[44]⟩ hL (by omega) HR10.out (HT.out.but h10)).mono ?_; rintro e w11 ⟨rfl, b11⟩
      have h11 : But R w w11 := h10.trans (But.of_below b11)
      have HK11 : Hid ((C8 w11 w.heap.size (.int .i64 0) (.int .i64 0) (.int .i64 0) (.int .i64 0) (.int .i64 0) (.int .i64 0) (.string ⟨#[]⟩) (.slice none 0 0)) ∧ F8 w11 w.heap.size) := Lib.hid ⟨c8_liftB (fun q v hv => keep_cell b11 hv) HK10.out.1, f8_liftB (fun q hv => keep_frozen b11 zKc hv) HK10.out.2⟩
      have HO11 : Hid ((C8 w11 w3.heap.size (.int .i64 5) (.int .i64 0) (.int .i64 0) (.int .i64 0) (.int .i64 0) (.int .i64 0) (.string ⟨t.text.toArray⟩) (.slice (some ⟨g2, 0, none⟩) (acc.length + 1) cap2)) ∧ F8 w11 w3.heap.size) := Lib.hid ⟨c8_liftB (fun q v hv => keep_cell b11 hv) HO10.out, f8_liftB (fun q hv => keep_frozen b11 zOc hv) HF10.out⟩
      have HT11 : Hid (w11.cell? ⟨w2.heap.size, 4, none⟩ = some (.string ⟨t.text.toArray⟩)) := Lib.hid (keep_cell b11 HT10.out)
      have HR11 := Lib.hid (RS.below HR10.out b11)
      have HV11 := Lib.hid (HV10.out.kept (Kept.of_below b11))
      have zK11 : w.heap.size < w11.heap.size := Nat.lt_of_lt_of_le zKc b11.size
      have zO11 : w3.heap.size < w11.heap.size := Nat.lt_of_lt_of_le zOc b11.size
      clear b11 HK10 HF10 HO10 HT10 HR10 HV10 h10
      cases hv : markR L 0 [44] st1 with
      | false =>
        have HE := Lib.hid (HEn.out hv)
        clear HMo HEn
        go_wp2_with fail
        refine (rmust_any (R := R) (A := A) (cap := cap) (L := L) (E := E) (st := st1) ⟨#[41]⟩ hL HR11.out (HT.out.but h11)).mono ?_; rintro e w12 ⟨rfl, r12, b12⟩
        have h12 : But R w w12 := h11.trans b12
        have HR12 : Hid (RS w12 R A cap L E g.1) := Lib.hid (by rw [HE.out.1]; exact r12)
        have HV12 := Lib.hid (HV11.out.kept (P := fun b => w.heap.size < b ∧ b ≠ w3.heap.size ∧ b ≠ R) ⟨b12.size, fun q hp hl => b12.block q hl hp.2.2⟩)
        have zK12 : w.heap.size < w12.heap.size := Nat.lt_of_lt_of_le zK11 b12.size
        have HK12 : C8 w12 w.heap.size (.int .i64 0) (.int .i64 0) (.int .i64 0) (.int .i64 0) (.int .i64 0) (.int .i64 0) (.string ⟨#[]⟩) (.slice none 0 0) := c8_liftB (fun q v hv => b12.cell nk hv) HK11.out.1
        have HF12 : F8 w12 w.heap.size := f8_liftB (fun q hv => b12.frozen nk zK11 hv) HK11.out.2
        have HO12 : C8 w12 w3.heap.size (.int .i64 5) (.int .i64 0) (.int .i64 0) (.int .i64 0) (.int .i64 0) (.int .i64 0) (.string ⟨t.text.toArray⟩) (.slice (some ⟨g2, 0, none⟩) (acc.length + 1) cap2) := c8_liftB (fun q v hv => b12.cell nO hv) HO11.out.1
        obtain ⟨k0, k1, k2, k3, k4, k5, k6, k7⟩ := HK12
        obtain ⟨kf0, kf1, kf2, kf3, kf4, kf5, kf6, kf7⟩ := HF12
        obtain ⟨o0, o1, o2, o3, o4, o5, o6, o7⟩ := HO12
        clear r12 b12 HK11 HO11 HT11 HR11 HV11 h11
        go_wp2_with fail
        exact bodyPost_ret (v := .agg #[.int .i64 5, .int .i64 0, .int .i64 0, .int .i64 0, .int .i64 0, .int .i64 0, .string ⟨t.text.toArray⟩, (.slice (some ⟨g2, 0, none⟩) (acc.length + 1) cap2)]) (by simp [results, Tryd.results75, go_sem, k0, k1, k2, k3, k4, k5, k6, k7]) rfl ⟨⟨5, 0, 0, 0, 0, 0, ⟨t.text.toArray⟩, some ⟨g2, 0, none⟩, acc.length + 1, cap2⟩, rfl, (by
          rcases HE.out.2 with e | e
          · rw [e]; trivial
          · rw [e]; exact (HV12.out.kept (by (with_reducible repeat' (first | exact Kept.refl _ _ | refine Kept.set ?_ (.inl fun h => absurd h.1 (Nat.lt_irrefl _)) _ _)))).imp fun b hb => Nat.le_of_lt hb.1), (by with_reducible repeat' (first | exact HR12.out | refine zRf ?_ nk _ _ | refine zRf ?_ nO _ _ | refine zRa ?_ _ | refine zRn ?_ _ | refine zRd ?_)), (by with_reducible repeat' (first | exact h12 | refine zBr ?_ _ _ | refine zBs ?_ (by omega) _ _ | refine zBa ?_ _ | refine zBn ?_ _ | refine zBd ?_))⟩
      | true =>
        obtain ⟨q, t1, he, hmk, hnx, hjlt⟩ := HMo.out hv
        obtain ⟨rfl, rfl⟩ := Prod.mk.inj he
        have HNX := Lib.hid hnx
        have hq : q < L.length := mark_lt hmk
        have HS : Hid (RS (w11.setCell ⟨R, 1, none⟩ (.int .i64 ((q : Int) + 1))) R A cap L E (.run (q + 1))) := Lib.hid (HR11.out.step hq (by omega))
        obtain ⟨_, _, hc⟩ := HR11.out
        have c1 := hc.c1
        have cf1 := hc.f1
        clear hc hnx hmk he HMo HEn
        go_wp2_with fail
        go_roundg j
        case measure => omega
        case rel =>
          obtain ⟨⟨k0, k1, k2, k3, k4, k5, k6, k7⟩, kf0, kf1, kf2, kf3, kf4, kf5, kf6, kf7⟩ := HK11.out
          obtain ⟨⟨o0, o1, o2, o3, o4, o5, o6, o7⟩, of0, of1, of2, of3, of4, of5, of6, of7⟩ := HO11.out
          have nKR : R ≠ w.heap.size := by omega
          have nOR : R ≠ w3.heap.size := by omega
          have nTR : R ≠ w2.heap.size := by omega
          refine ⟨⟨5, 0, 0, 0, 0, 0, ⟨t.text.toArray⟩, some ⟨g2, 0, none⟩, acc.length + 1, cap2⟩, .run (q + 1), acc ++ [t1], by simp; omega, (fun e => by simp at e), Lib.hid ?_, Lib.hid (kc_set HT11.out nTR _ _), (Nat.lt_of_lt_of_le zO11 ((Below.refl 0 w11).setCell (p := ⟨R, 1, none⟩) (Nat.zero_le _) _).size), HNX⟩
          exact ⟨HS.out, h11.setR _ _, (Nat.lt_of_lt_of_le zO11 ((Below.refl 0 w11).setCell (p := ⟨R, 1, none⟩) (Nat.zero_le _) _).size), (Nat.lt_of_lt_of_le zK11 ((Below.refl 0 w11).setCell (p := ⟨R, 1, none⟩) (Nat.zero_le _) _).size), (HV11.out.kept ((Kept.refl _ _).set (.inl fun h => h.2.2 rfl) _ _)).imp (fun b hb => ⟨hb.1, hb.2.1⟩), kc_set k0 nKR _ _, kc_set k1 nKR _ _, kc_set k2 nKR _ _, kc_set k3 nKR _ _, kc_set k4 nKR _ _, kc_set k5 nKR _ _, kc_set k6 nKR _ _, kc_set k7 nKR _ _, kf_set kf0 nKR _ _, kf_set kf1 nKR _ _, kf_set kf2 nKR _ _, kf_set kf3 nKR _ _, kf_set kf4 nKR _ _, kf_set kf5 nKR _ _, kf_set kf6 nKR _ _, kf_set kf7 nKR _ _, kc_set o0 nOR _ _, kc_set o1 nOR _ _, kc_set o2 nOR _ _, kc_set o3 nOR _ _, kc_set o4 nOR _ _, kc_set o5 nOR _ _, kc_set o6 nOR _ _, kc_set o7 nOR _ _, kf_set of0 nOR _ _, kf_set of1 nOR _ _, kf_set of2 nOR _ _, kf_set of3 nOR _ _, kf_set of4 nOR _ _, kf_set of5 nOR _ _, kf_set of6 nOR _ _, kf_set of7 nOR _ _⟩
end Go.Proofs.YthaoalmhhgllmaaDoor
namespace Go.Proofs.YthaoalmhhgllmaaDoor
open Go.RowKit
theorem roper_run {R : Nat} {A : Option Addr} {cap : Nat} {L : List Tok} {E k : Nat} (hL : L.length ≤ 1000) (hk9 : k ≤ 100000)
    (hP : TreeC R A cap L E 30 #[.pointer (some ⟨R, 0, none⟩), .int .i64 1] (lineF L E k 1))
    (hI : ∀ c j, j ≤ k → TreeC R A cap L E 90 #[.pointer (some ⟨R, 0, none⟩), .bool c] (itemF L E j c)) :
    TreeC R A cap L E 75 #[.pointer (some ⟨R, 0, none⟩)] (operF L E (k + 1)) := by
  refine TreeC.of (roperand_out hL) fun w p g hr hk hg => ?_
  rw [operF] at hg
  cases hm : isMark L p [40] with
  | true =>
    rw [if_pos hm] at hg
    exact roper_brk R A cap L E hL w p hr hk hP g hm hg
  | false =>
    rw [if_neg (by rw [hm]; decide)] at hg
    cases ht : L[p]? with
    | none =>
      rw [ht] at hg
      obtain rfl : (.out E, none) = g := Option.some.inj hg
      have h := roper_off R A cap L E hL w p hr hk hm (fun h => by rw [List.getElem?_eq_getElem h] at ht; cases ht)
      rw [whr_none ht] at h
      exact h
    | some t =>
      rw [ht] at hg
      have hg2 : toS (if t.kind = 5 then some (.bad t.frm) else if t.kind = 1 then some (.ok (numT t.num) (p + 1)) else if t.kind = 2 then some (.ok (readT t.col t.row) (p + 1)) else if t.kind = 3 then some (.ok badT (p + 1))
        else mustF L E (p + 1) [40] fun q =>
          if t.text = [73, 70] then Res.next (lineF L E k 1 q) fun a q => mustF L E q [44] fun q => Res.next (lineF L E k 1 q) fun b q => mustF L E q [44] fun q => Res.next (lineF L E k 1 q) fun c q => mustF L E q [41] fun q => some (.ok (callT [73, 70] [a, b, c]) q)
          else itemsF L E k t.text [] q) = some g := hg
      clear hg
      by_cases k5 : t.kind = 5
      · rw [if_pos k5] at hg2
        obtain rfl : (.out t.frm, none) = g := Option.some.inj hg2
        have h := roper_five R A cap L E hL w p hr hk hm t ht (by rw [beq_iff_eq]; exact k5)
        rw [whr_some ht] at h
        exact h
      rw [if_neg k5] at hg2
      have b5 : (t.kind == 5) = false := by rw [beq_eq_false_iff_ne]; exact k5
      by_cases k1 : t.kind = 1
      · rw [if_pos k1] at hg2
        obtain rfl : (.run (p + 1), some (numT t.num)) = g := Option.some.inj hg2
        exact roper_num R A cap L E hL w p hr hk hm t ht b5 (by rw [beq_iff_eq]; exact k1)
      rw [if_neg k1] at hg2
      have b1 : (t.kind == 1) = false := by rw [beq_eq_false_iff_ne]; exact k1
      by_cases k2 : t.kind = 2
      · rw [if_pos k2] at hg2
        obtain rfl : (.run (p + 1), some (readT t.col t.row)) = g := Option.some.inj hg2
        exact roper_read R A cap L E hL w p hr hk hm t ht b5 b1 (by rw [beq_iff_eq]; exact k2)
      rw [if_neg k2] at hg2
      have b2 : (t.kind == 2) = false := by rw [beq_eq_false_iff_ne]; exact k2
      by_cases k3 : t.kind = 3
      · rw [if_pos k3] at hg2
        obtain rfl : (.run (p + 1), some badT) = g := Option.some.inj hg2
        exact roper_bad R A cap L E hL w p hr hk hm t ht b5 b1 b2 (by rw [beq_iff_eq]; exact k3)
      rw [if_neg k3] at hg2
      have b3 : (t.kind == 3) = false := by rw [beq_eq_false_iff_ne]; exact k3
      by_cases hw : t.text = [73, 70]
      · simp only [if_pos hw] at hg2
        exact roper_if R A cap L E hL w p hr hk hm t ht b5 b1 b2 b3 (by rw [beq_iff_eq]; exact hw) hP g hg2
      · simp only [if_neg hw] at hg2
        exact roper_items R A cap L E hL w p hr hk hm t ht b5 b1 b2 b3 (by rw [beq_eq_false_iff_ne]; exact hw) hk9 (fun j hj => hI _ j hj) g (must_goS hg2)
structure FamR (R : Nat) (A : Option Addr) (cap : Nat) (L : List Tok) (E k : Nat) : Prop where
  l4 : TreeC R A cap L E 30 #[.pointer (some ⟨R, 0, none⟩), .int .i64 4] (lineF L E k 4)
  l3 : TreeC R A cap L E 30 #[.pointer (some ⟨R, 0, none⟩), .int .i64 3] (lineF L E k 3)
  l2 : TreeC R A cap L E 30 #[.pointer (some ⟨R, 0, none⟩), .int .i64 2] (lineF L E k 2)
  l1 : TreeC R A cap L E 30 #[.pointer (some ⟨R, 0, none⟩), .int .i64 1] (lineF L E k 1)
  pref : TreeC R A cap L E 46 #[.pointer (some ⟨R, 0, none⟩)] (prefF L E k)
  oper : TreeC R A cap L E 75 #[.pointer (some ⟨R, 0, none⟩)] (operF L E k)
  item : ∀ c, TreeC R A cap L E 90 #[.pointer (some ⟨R, 0, none⟩), .bool c] (itemF L E k c)
theorem famR_zero (R : Nat) (A : Option Addr) (cap : Nat) (L : List Tok) (E : Nat) (hL : L.length ≤ 1000) : FamR R A cap L E 0 := by
  refine ⟨?_, ?_, ?_, ?_, ?_, ?_, fun c => ?_⟩
  · exact TreeC.of (rline_out4 hL) fun w p g _ _ hg => by rw [lineF] at hg; cases hg
  · exact TreeC.of (rline_out3 hL) fun w p g _ _ hg => by rw [lineF] at hg; cases hg
  · exact TreeC.of (rline_out2 hL) fun w p g _ _ hg => by rw [lineF] at hg; cases hg
  · exact TreeC.of (rline_out1 hL) fun w p g _ _ hg => by rw [lineF] at hg; cases hg
  · exact TreeC.of (rprefix_out hL) fun w p g _ _ hg => by rw [prefF] at hg; cases hg
  · exact TreeC.of (roperand_out hL) fun w p g _ _ hg => by rw [operF] at hg; cases hg
  · cases c
    · exact TreeC.of (ritem_out_false hL) fun w p g _ _ hg => by rw [itemF] at hg; cases hg
    · exact TreeC.of (ritem_out_true hL) fun w p g _ _ hg => by rw [itemF] at hg; cases hg
theorem famR_all {R : Nat} {A : Option Addr} {cap : Nat} {L : List Tok} {E : Nat} (hL : L.length ≤ 1000) (hG : GoodL L) : ∀ k, k ≤ 100000 → ∀ j, j ≤ k → FamR R A cap L E j
  | 0, _, j, hj => by
    obtain rfl : j = 0 := by omega
    exact famR_zero R A cap L E hL
  | k + 1, hk, j, hj => by
    have H := famR_all (R := R) (A := A) (cap := cap) (E := E) hL hG k (by omega)
    by_cases hjk : j ≤ k
    · exact H j hjk
    obtain rfl : j = k + 1 := by omega
    refine ⟨?_, ?_, ?_, ?_, ?_, ?_, fun c => ?_⟩
    · exact rline_run4 hL (H k (Nat.le_refl _)).pref
    · exact rline_runL 3 (by decide) (by decide) hL (rline_out3 hL) fun j hj => (H j hj).l4
    · exact rline_runL 2 (by decide) (by decide) hL (rline_out2 hL) fun j hj => (H j hj).l3
    · exact rline_runL 1 (by decide) (by decide) hL (rline_out1 hL) fun j hj => (H j hj).l2
    · exact rprefix_run hL (H k (Nat.le_refl _)).pref (H k (Nat.le_refl _)).oper
    · exact roper_run hL (by omega) (H k (Nat.le_refl _)).l1 fun c j hj => (H j hj).item c
    · cases c
      · exact ritem_run0 hL hG (H k (Nat.le_refl _)).l1
      · exact ritem_run1 hL hG
end Go.Proofs.YthaoalmhhgllmaaDoor
namespace Go.Proofs.YthaoalmhhgllmaaDoor
def GivD (D : Nat) (o : Option Res) : Prop := ∀ t q, o = some (.ok t q) → Wid t ∧ deepT t ≤ D
theorem GivD.ok {D : Nat} {t : Tr} {q : Nat} (h : Wid t) (hd : deepT t ≤ D) : GivD D (some (.ok t q)) := fun _ _ e => by cases e; exact ⟨h, hd⟩
theorem GivD.bad {D w : Nat} : GivD D (some (.bad w)) := fun _ _ e => by cases e
theorem GivD.le {D D' : Nat} {o : Option Res} (h : GivD D o) (hd : D ≤ D') : GivD D' o := fun t q e => ⟨(h t q e).1, Nat.le_trans (h t q e).2 hd⟩
theorem GivD.next {D D' : Nat} {a : Option Res} {f : Tr → Nat → Option Res} (h : GivD D a) (hf : ∀ t q, Wid t → deepT t ≤ D → GivD D' (f t q)) : GivD D' (Res.next a f) := fun t q e => by
  cases a with
  | none => cases e
  | some r =>
    cases r with
    | ok u p => exact hf u p (h u p rfl).1 (h u p rfl).2 t q e
    | bad w => cases e
theorem GivD.must {D : Nat} {L : List Tok} {E p : Nat} {s : List UInt8} {f : Nat → Option Res} (hf : ∀ q, GivD D (f q)) : GivD D (mustF L E p s f) := by
  unfold mustF
  split
  · exact hf _
  · exact .bad
theorem wid_leaf (k n c r d s : Int) (w : List UInt8) : Wid (.mk k n c r d s w []) := .mk (Nat.zero_le _) fun t h => by cases h
theorem deep_leaf (k n c r d s : Int) (w : List UInt8) : deepT (.mk k n c r d s w []) = 1 := by rw [deepT, deepL]
theorem wid_node {k n c r d s : Int} {w : List UInt8} {ks : List Tr} (hl : ks.length ≤ 1000000) (h : ∀ t ∈ ks, Wid t) : Wid (.mk k n c r d s w ks) := .mk (Nat.le_trans hl (by decide)) h
structure DAll (L : List Tok) (E k : Nat) : Prop where
  line : ∀ lev p, GivD (k * k + 1) (lineF L E k lev p)
  rest : ∀ lev out p m, Wid out → deepT out ≤ m → k * k + 1 ≤ m → GivD (m + k) (restF L E k lev out p)
  pref : ∀ p, GivD (k * k + 1) (prefF L E k p)
  oper : ∀ p, GivD (k * k + 1) (operF L E k p)
  items : ∀ w acc p m, (∀ t ∈ acc, Wid t) → deepL acc ≤ m → k * k + 1 ≤ m → acc.length + k ≤ 1000000 → GivD (m + 1) (itemsF L E k w acc p)
  item : ∀ c p, GivD (k * k + 1) (itemF L E k c p)
theorem d_all (L : List Tok) (E : Nat) : ∀ k, k ≤ 100000 → DAll L E k
  | 0, _ => by
    constructor <;> intros <;> first | (rw [lineF]; intro _ _ h; cases h) | (rw [restF]; intro _ _ h; cases h) | (rw [prefF]; intro _ _ h; cases h) | (rw [operF]; intro _ _ h; cases h) | (rw [itemsF]; intro _ _ h; cases h) | (rw [itemF]; intro _ _ h; cases h)
  | k + 1, hk => by
    have I := d_all L E k (by omega)
    have e : (k + 1) * (k + 1) + 1 = k * k + 1 + (2 * k + 1) := by rw [Nat.add_mul, Nat.mul_add]; omega
    have leaf : ∀ (a n c r d s : Int) (q : Nat), GivD ((k + 1) * (k + 1) + 1) (some (.ok (.mk a n c r d s [] []) q)) := fun a n c r d s q => .ok (wid_leaf _ _ _ _ _ _ _) (by rw [deep_leaf]; omega)
    constructor
    · intro lev p
      simp only [lineF]
      split
      · exact (I.pref p).le (by omega)
      · exact (I.line _ _).next fun t q hw hd => (I.rest lev t q _ hw hd (Nat.le_refl _)).le (by omega)
    · intro lev out p m hw hd hm
      simp only [restF]
      split
      · refine (I.line _ _).next fun t q hwt hdt => (I.rest lev _ q (m + 1) ?_ ?_ (by omega)).le (by omega)
        · exact wid_node (by simp) fun x hx => by
            simp only [List.mem_cons, List.not_mem_nil, or_false] at hx
            rcases hx with rfl | rfl
            · exact hw
            · exact hwt
        · show deepT (.mk _ _ _ _ _ _ _ [out, t]) ≤ _
          rw [deepT, deepL, deepL, deepL]
          omega
      · exact .ok hw (by omega)
    · intro p
      simp only [prefF]
      split
      · refine (I.pref _).next fun t q hw hd => .ok (wid_node (by simp) fun x hx => ?_) ?_
        · simp only [List.mem_cons, List.not_mem_nil, or_false] at hx
          rw [hx]; exact hw
        · show deepT (.mk _ _ _ _ _ _ _ [t]) ≤ _
          rw [deepT, deepL, deepL]
          omega
      · exact (I.oper p).le (by omega)
    · intro p
      simp only [operF]
      split
      · exact (I.line _ _).next fun t q hw hd => .must fun _ => .ok hw (by omega)
      · split
        · exact .bad
        · rename_i t ht
          split
          · exact .bad
          · split
            · exact leaf _ _ _ _ _ _ _
            · split
              · exact leaf _ _ _ _ _ _ _
              · split
                · exact leaf _ _ _ _ _ _ _
                · refine .must fun q => ?_
                  split
                  · refine (I.line _ _).next fun a q ha hda => .must fun q => (I.line _ _).next fun b q hb hdb => .must fun q => (I.line _ _).next fun c q hc hdc => .must fun q => .ok (wid_node (by simp) fun x hx => ?_) ?_
                    · simp only [List.mem_cons, List.not_mem_nil, or_false] at hx
                      rcases hx with rfl | rfl | rfl
                      · exact ha
                      · exact hb
                      · exact hc
                    · show deepT (.mk _ _ _ _ _ _ _ [a, b, c]) ≤ _
                      rw [deepT, deepL, deepL, deepL, deepL]
                      omega
                  · exact (I.items t.text [] q (k * k + 1) (fun x hx => by cases hx) (by rw [deepL]; omega) (Nat.le_refl _) (by simp; omega)).le (by omega)
    · intro w acc p m ha hd hm hl
      simp only [itemsF]
      refine (I.item _ _).next fun t q hw hdt => ?_
      have hall : ∀ x ∈ acc ++ [t], Wid x := fun x hx => by
        rcases List.mem_append.1 hx with h | h
        · exact ha x h
        · rw [List.mem_singleton.1 h]; exact hw
      have hda : deepL (acc ++ [t]) ≤ m := by rw [deep_snoc]; omega
      split
      · exact I.items w _ _ m hall hda (by omega) (by simp; omega)
      · refine .must fun _ => .ok (wid_node (by simp; omega) hall) ?_
        show deepT (.mk _ _ _ _ _ _ _ (acc ++ [t])) ≤ _
        rw [deepT]
        omega
    · intro c p
      simp only [itemF]
      split
      · exact (I.line 1 p).le (by omega)
      · split
        · exact .bad
        · split
          · exact .bad
          · split
            · exact leaf _ _ _ _ _ _ _
            · refine .must fun q => ?_
              split
              · exact .bad
              · split
                · exact .bad
                · split
                  · exact leaf _ _ _ _ _ _ _
                  · exact leaf _ _ _ _ _ _ _
theorem tree_wid {L : List Tok} {E : Nat} (hL : L.length ≤ 1000) {t : Tr} {q : Nat} (h : treeT L E = some (.ok t q)) : Wid t ∧ deepT t ≤ 1000000000 := by
  obtain ⟨a, b⟩ := (d_all L E (8 * L.length + 6) (by omega)).line 1 0 t q h
  refine ⟨a, Nat.le_trans b ?_⟩
  have : (8 * L.length + 6) * (8 * L.length + 6) ≤ 8006 * 8006 := Nat.mul_le_mul (by omega) (by omega)
  omega
inductive PRes where
  | good (t : Tr)
  | fail (a e : Int)
def parseL (l : List UInt8) : PRes :=
  if ansE l ≠ 0 then .fail (ansP l) (ansE l) else match treeT (ansL l) l.length with
    | none => .fail 0 0
    | some (.bad z) => .fail (z : Int) 2
    | some (.ok t q) => if q < (ansL l).length then .fail (whr (ansL l) l.length q : Int) 2 else if 16 < deepT t then .fail 0 6 else .good t
end Go.Proofs.YthaoalmhhgllmaaDoor
