/- Texts joined: TrN. -/
import Derived.Test.YthaoalmhhgllmaaDoorMb17
import Derived.Deep.LoopGhost
set_option linter.all false
namespace Go.Proofs.YthaoalmhhgllmaaDoor
open Go.RowKit
def restS (L : List Tok) (E n lev : Nat) : Got → Option Got
  | (.out x, _) => some (.out x, none)
  | (.run p, some t) => toS (restF L E n lev t p)
  | (.run _, none) => none
theorem toS_rest {L : List Tok} {E n lev : Nat} {a : Option Res} {g : Got} (h : toS (Res.next a fun t q => restF L E n lev t q) = some g) : ∃ g1, toS a = some g1 ∧ restS L E n lev g1 = some g := by
  rcases toS_next h with ⟨t, q, e, e2⟩ | ⟨x, e, rfl⟩
  · exact ⟨_, e, e2⟩
  · exact ⟨_, e, rfl⟩
theorem rest_end {L : List Tok} {E n lev : Nat} {st : St} {ot : Option Tr} {g : Got} (h : restS L E n lev (st, ot) = some g) (hl : levelS L st ≠ lev) : g.1 = st ∧ (g.2 = ot ∨ g.2 = none) := by
  cases st with
  | out x => obtain rfl := Option.some.inj h; exact ⟨rfl, .inr rfl⟩
  | run p =>
    cases ot with
    | none => cases h
    | some t =>
      have h2 : toS (restF L E n lev t p) = some g := h
      cases n with
      | zero => rw [restF] at h2; cases h2
      | succ n =>
        rw [restF, if_neg (show ¬ levelAt L p = lev from hl)] at h2
        obtain rfl : (.run p, some t) = g := Option.some.inj h2
        exact ⟨rfl, .inl rfl⟩
theorem rest_more {L : List Tok} {E n lev : Nat} {st : St} {ot : Option Tr} {g : Got} (h : restS L E n lev (st, ot) = some g) (hl : levelS L st = lev) (h1 : 1 ≤ lev) :
    ∃ p t n' u g2, st = .run p ∧ ot = some t ∧ n = n' + 1 ∧ L[p]? = some u ∧ toS (lineF L E n' (lev + 1) (p + 1)) = some g2 ∧ restS L E n' lev (g2.1, g2.2.map fun t2 => opT u.text t t2) = some g := by
  cases st with
  | out x => exact absurd hl (by show ¬ (0 = lev); omega)
  | run p =>
    cases ot with
    | none => cases h
    | some t =>
      have h2 : toS (restF L E n lev t p) = some g := h
      cases n with
      | zero => rw [restF] at h2; cases h2
      | succ n =>
        have hp := level_lt (show levelAt L p = lev from hl) h1
        have hu : L[p]? = some (L[p]'hp) := List.getElem?_eq_getElem hp
        have ht : (L.map Tok.text).getD p [] = (L[p]'hp).text := by simp [List.getD_eq_getElem?_getD, hu]
        rw [restF, if_pos (show levelAt L p = lev from hl), ht] at h2
        rcases toS_next h2 with ⟨t2, q, e, e2⟩ | ⟨x, e, rfl⟩
        · exact ⟨p, t, n, L[p]'hp, (.run q, some t2), rfl, rfl, rfl, hu, e, e2⟩
        · exact ⟨p, t, n, L[p]'hp, (.out x, none), rfl, rfl, rfl, hu, e, rfl⟩
structure LR (w wr : World) (R : Nat) (A : Option Addr) (cap : Nat) (L : List Tok) (E O : Nat) (x : V8) (st : St) (ot : Option Tr) : Prop where
  rs : RS wr R A cap L E st
  but : But R w wr
  ho : O < wr.heap.size
  hk : w.heap.size < wr.heap.size
  tv : TV wr (fun b => w.heap.size < b ∧ b ≠ O) x ot
  k0 : wr.cell? ⟨w.heap.size, 0, none⟩ = some (.int .i64 0)
  k1 : wr.cell? ⟨w.heap.size, 1, none⟩ = some (.int .i64 0)
  k2 : wr.cell? ⟨w.heap.size, 2, none⟩ = some (.int .i64 0)
  k3 : wr.cell? ⟨w.heap.size, 3, none⟩ = some (.int .i64 0)
  k4 : wr.cell? ⟨w.heap.size, 4, none⟩ = some (.int .i64 0)
  k5 : wr.cell? ⟨w.heap.size, 5, none⟩ = some (.int .i64 0)
  k6 : wr.cell? ⟨w.heap.size, 6, none⟩ = some (.string ⟨#[]⟩)
  k7 : wr.cell? ⟨w.heap.size, 7, none⟩ = some (.slice none 0 0)
  kf0 : wr.frozen? ⟨w.heap.size, 0, none⟩ = false
  kf1 : wr.frozen? ⟨w.heap.size, 1, none⟩ = false
  kf2 : wr.frozen? ⟨w.heap.size, 2, none⟩ = false
  kf3 : wr.frozen? ⟨w.heap.size, 3, none⟩ = false
  kf4 : wr.frozen? ⟨w.heap.size, 4, none⟩ = false
  kf5 : wr.frozen? ⟨w.heap.size, 5, none⟩ = false
  kf6 : wr.frozen? ⟨w.heap.size, 6, none⟩ = false
  kf7 : wr.frozen? ⟨w.heap.size, 7, none⟩ = false
  o0 : wr.cell? ⟨O, 0, none⟩ = some (.int .i64 x.n0)
  o1 : wr.cell? ⟨O, 1, none⟩ = some (.int .i64 x.n1)
  o2 : wr.cell? ⟨O, 2, none⟩ = some (.int .i64 x.n2)
  o3 : wr.cell? ⟨O, 3, none⟩ = some (.int .i64 x.n3)
  o4 : wr.cell? ⟨O, 4, none⟩ = some (.int .i64 x.n4)
  o5 : wr.cell? ⟨O, 5, none⟩ = some (.int .i64 x.n5)
  o6 : wr.cell? ⟨O, 6, none⟩ = some (.string x.s)
  o7 : wr.cell? ⟨O, 7, none⟩ = some (.slice x.A x.len x.cap)
  of0 : wr.frozen? ⟨O, 0, none⟩ = false
  of1 : wr.frozen? ⟨O, 1, none⟩ = false
  of2 : wr.frozen? ⟨O, 2, none⟩ = false
  of3 : wr.frozen? ⟨O, 3, none⟩ = false
  of4 : wr.frozen? ⟨O, 4, none⟩ = false
  of5 : wr.frozen? ⟨O, 5, none⟩ = false
  of6 : wr.frozen? ⟨O, 6, none⟩ = false
  of7 : wr.frozen? ⟨O, 7, none⟩ = false
set_option maxHeartbeats 2000000 in
set_option maxRecDepth 10000 in
theorem rline_run4 {R : Nat} {A : Option Addr} {cap : Nat} {L : List Tok} {E k : Nat} (hL : L.length ≤ 1000) (hP : TreeC R A cap L E 46 #[.pointer (some ⟨R, 0, none⟩)] (prefF L E k)) : TreeC R A cap L E 30 #[.pointer (some ⟨R, 0, none⟩), .int .i64 4] (lineF L E (k + 1) 4) := by
  refine TreeC.of (rline_out4 hL) fun w p g hr hk hg => ?_
  rw [lineF, if_pos (by decide)] at hg
  obtain ⟨st1, ot1⟩ := g
  have HP := Lib.hid hP
  have HG := Lib.hid hg
  clear hP hg
  have HR := Lib.hid hr
  have HT := Lib.hid hk
  have hlt : R < w.heap.size := hr.lt
  have nk : w.heap.size ≠ R := by omega
  clear hr hk
  go_enter Tryd.func30, Tryd.ntmps30
  go_wp2_with fail
  refine (HP.out _ (.run p) (st1, ot1) (by (with_reducible repeat' (first | exact HR.out | refine zRf ?_ nk _ _ | refine zRa ?_ _ | refine zRn ?_ _ | refine zRd ?_))) (HT.out.but (by (with_reducible repeat' (first | exact But.refl _ _ | refine zBr ?_ _ _ | refine zBs ?_ (by omega) _ _ | refine zBa ?_ _ | refine zBn ?_ _ | refine zBd ?_)))) HG.out).mono ?_; rintro e w1 ⟨⟨a0, a1, a2, a3, a4, a5, aw, aA, al, ac⟩, rfl, v1, r1, b1⟩
  have h1 : But R w w1 := But.trans (by (with_reducible repeat' (first | exact But.refl _ _ | refine zBr ?_ _ _ | refine zBs ?_ (by omega) _ _ | refine zBa ?_ _ | refine zBn ?_ _ | refine zBd ?_))) b1
  have zk1 : w.heap.size < w1.heap.size := by have := b1.size; first | omega | (simp at this; omega)
  have Hk1 : C8 w1 (w.heap.size) (.int .i64 0) (.int .i64 0) (.int .i64 0) (.int .i64 0) (.int .i64 0) (.int .i64 0) (.string ⟨#[]⟩) (.slice none 0 0) := by refine ⟨?_, ?_, ?_, ?_, ?_, ?_, ?_, ?_⟩ <;> exact b1.cell nk (by simp [go_sem])
  obtain ⟨k10, k11, k12, k13, k14, k15, k16, k17⟩ := Hk1
  have Hkf1 : F8 w1 (w.heap.size) := by refine ⟨?_, ?_, ?_, ?_, ?_, ?_, ?_, ?_⟩ <;> exact b1.frozen nk (by first | omega | (simp; done) | (simp; omega)) (by simp [go_sem])
  obtain ⟨kf10, kf11, kf12, kf13, kf14, kf15, kf16, kf17⟩ := Hkf1
  have y1 : w.heap.size < w1.heap.size := zk1
  have HR1 : Hid (RS w1 R A cap L E st1) := Lib.hid r1
  clear b1 r1
  have HV1 : Hid (TV w1 (fun b => w.heap.size < b) ⟨a0, a1, a2, a3, a4, a5, aw, aA, al, ac⟩ ot1) := Lib.hid (v1.imp fun b hb => by have hb2 : _ ≤ b := hb; first | omega | (simp at hb2; omega))
  clear v1
  dsimp only [V8.val]
  go_wp2_with fail
  exact bodyPost_ret (v := .agg #[.int .i64 a0, .int .i64 a1, .int .i64 a2, .int .i64 a3, .int .i64 a4, .int .i64 a5, .string aw, .slice aA al ac]) (by simp [results, Tryd.results30, go_sem, k10, k11, k12, k13, k14, k15, k16, k17]) rfl ⟨⟨a0, a1, a2, a3, a4, a5, aw, aA, al, ac⟩, rfl, ((HV1.out.kept (by (with_reducible repeat' (first | exact Kept.refl _ _ | refine Kept.set1 ?_ (by omega) _ _ | refine Kept.set2 ?_ (by omega) _ _ | refine Kept.set2o ?_ _ _ | refine Kept.setNew ?_ (by omega) _ _ | refine Kept.alloc ?_ _ | refine Kept.drewN ?_ _ | refine Kept.drew ?_)))).imp fun b (hb : w.heap.size < b) => Nat.le_of_lt hb), by (with_reducible repeat' (first | exact HR1.out | refine zRf ?_ nk _ _ | refine zRa ?_ _ | refine zRn ?_ _ | refine zRd ?_)), by (with_reducible repeat' (first | exact h1 | refine zBr ?_ _ _ | refine zBs ?_ (by omega) _ _ | refine zBa ?_ _ | refine zBn ?_ _ | refine zBd ?_))⟩
set_option maxHeartbeats 2000000 in
set_option maxRecDepth 10000 in
theorem rline_runL (lev : Nat) (l1 : 1 ≤ lev) (l3 : lev ≤ 3) {R : Nat} {A : Option Addr} {cap : Nat} {L : List Tok} {E k : Nat} (hL : L.length ≤ 1000) (hO : OutC R A cap L E 30 #[.pointer (some ⟨R, 0, none⟩), .int .i64 (lev : Int)]) (hP : ∀ j, j ≤ k → TreeC R A cap L E 30 #[.pointer (some ⟨R, 0, none⟩), .int .i64 ((lev : Int) + 1)] (lineF L E j (lev + 1))) : TreeC R A cap L E 30 #[.pointer (some ⟨R, 0, none⟩), .int .i64 (lev : Int)] (lineF L E (k + 1) lev) := by
  have dg : decide ((3 : Int) < (lev : Int)) = false := decide_eq_false (by omega)
  refine TreeC.of hO fun w p g hr hk hg => ?_
  rw [lineF, if_neg (by omega)] at hg
  obtain ⟨g1, hg1, hg2⟩ := toS_rest hg
  obtain ⟨st1, ot1⟩ := g1
  have HP := Lib.hid hP
  have HP1 := Lib.hid (hP k (Nat.le_refl _))
  have HG := Lib.hid hg1
  have HG2 := Lib.hid hg2
  clear hP hg hg1 hg2
  have HR := Lib.hid hr
  have HT := Lib.hid hk
  have hlt : R < w.heap.size := hr.lt
  have nk : w.heap.size ≠ R := by omega
  clear hr hk
  go_enter Tryd.func30, Tryd.ntmps30
  go_wp2_with fail
  refine (HP1.out _ (.run p) (st1, ot1) (by (with_reducible repeat' (first | exact HR.out | refine zRf ?_ nk _ _ | refine zRa ?_ _ | refine zRn ?_ _ | refine zRd ?_))) (HT.out.but (by (with_reducible repeat' (first | exact But.refl _ _ | refine zBr ?_ _ _ | refine zBs ?_ (by omega) _ _ | refine zBa ?_ _ | refine zBn ?_ _ | refine zBd ?_)))) HG.out).mono ?_; rintro e w1 ⟨⟨a0, a1, a2, a3, a4, a5, aw, aA, al, ac⟩, rfl, v1, r1, b1⟩
  have h1 : But R w w1 := But.trans (by (with_reducible repeat' (first | exact But.refl _ _ | refine zBr ?_ _ _ | refine zBs ?_ (by omega) _ _ | refine zBa ?_ _ | refine zBn ?_ _ | refine zBd ?_))) b1
  have zk1 : w.heap.size < w1.heap.size := by have := b1.size; first | omega | (simp at this; omega)
  have Hk1 : C8 w1 (w.heap.size) (.int .i64 0) (.int .i64 0) (.int .i64 0) (.int .i64 0) (.int .i64 0) (.int .i64 0) (.string ⟨#[]⟩) (.slice none 0 0) := by refine ⟨?_, ?_, ?_, ?_, ?_, ?_, ?_, ?_⟩ <;> exact b1.cell nk (by simp [go_sem])
  obtain ⟨k10, k11, k12, k13, k14, k15, k16, k17⟩ := Hk1
  have Hkf1 : F8 w1 (w.heap.size) := by refine ⟨?_, ?_, ?_, ?_, ?_, ?_, ?_, ?_⟩ <;> exact b1.frozen nk (by first | omega | (simp; done) | (simp; omega)) (by simp [go_sem])
  obtain ⟨kf10, kf11, kf12, kf13, kf14, kf15, kf16, kf17⟩ := Hkf1
  have y1 : w.heap.size < w1.heap.size := zk1
  have HR1 : Hid (RS w1 R A cap L E st1) := Lib.hid r1
  clear b1 r1
  have HV1 : Hid (TV w1 (fun b => w.heap.size < b) ⟨a0, a1, a2, a3, a4, a5, aw, aA, al, ac⟩ ot1) := Lib.hid (v1.imp fun b hb => by have hb2 : _ ≤ b := hb; first | omega | (simp at hb2; omega))
  clear v1
  dsimp only [V8.val]
  go_wp2_with fail
  have hO : Hid (w1.heap.size = w1.heap.size) := Lib.hid rfl
  go_loopg [6] k (fun n _ wr => ∃ (x : V8) (st : St) (ot : Option Tr), n ≤ k ∧ Hid (LR w wr R A cap L E w1.heap.size x st ot) ∧ Hid (restS L E n lev (st, ot) = some g))
  case atStart =>
    refine ⟨⟨a0, a1, a2, a3, a4, a5, aw, aA, al, ac⟩, st1, ot1, Nat.le_refl _, Lib.hid ?_, HG2⟩
    have no : w1.heap.size ≠ R := by omega
    exact ⟨HR1.out.alloc _, h1.alloc _, by simp, by simp; omega, by
      refine TV.imp (P := fun b => w.heap.size < b ∧ b ≠ w1.heap.size) ?_ fun b hb => hb
      exact (TV.fresh HV1.out).kept ((Kept.refl _ _).alloc _), kc_alloc k10 _, kc_alloc k11 _, kc_alloc k12 _, kc_alloc k13 _, kc_alloc k14 _, kc_alloc k15 _, kc_alloc k16 _, kc_alloc k17 _, kf_alloc kf10 y1 _, kf_alloc kf11 y1 _, kf_alloc kf12 y1 _, kf_alloc kf13 y1 _, kf_alloc kf14 y1 _, kf_alloc kf15 y1 _, kf_alloc kf16 y1 _, kf_alloc kf17 y1 _, by simp [go_sem], by simp [go_sem], by simp [go_sem], by simp [go_sem], by simp [go_sem], by simp [go_sem], by simp [go_sem], by simp [go_sem], by simp [go_sem], by simp [go_sem], by simp [go_sem], by simp [go_sem], by simp [go_sem], by simp [go_sem], by simp [go_sem], by simp [go_sem]⟩
  case round =>
    obtain ⟨x, st, ot, hn, HL, HN⟩ := hrel
    obtain ⟨c0, c1, c2, c3, c4, c5, cw, cA, cl, cc⟩ := x
    have lr := HL.out
    have h2 := lr.but
    have HR2 := Lib.hid lr.rs
    have y2 := lr.hk
    have zo2 := lr.ho
    have zk2 := lr.hk
    have HO2 := Lib.hid lr.tv
    have k20 := lr.k0
    have k21 := lr.k1
    have k22 := lr.k2
    have k23 := lr.k3
    have k24 := lr.k4
    have k25 := lr.k5
    have k26 := lr.k6
    have k27 := lr.k7
    have kf20 := lr.kf0
    have kf21 := lr.kf1
    have kf22 := lr.kf2
    have kf23 := lr.kf3
    have kf24 := lr.kf4
    have kf25 := lr.kf5
    have kf26 := lr.kf6
    have kf27 := lr.kf7
    have o20 := lr.o0
    have o21 := lr.o1
    have o22 := lr.o2
    have o23 := lr.o3
    have o24 := lr.o4
    have o25 := lr.o5
    have o26 := lr.o6
    have o27 := lr.o7
    have of20 := lr.of0
    have of21 := lr.of1
    have of22 := lr.of2
    have of23 := lr.of3
    have of24 := lr.of4
    have of25 := lr.of5
    have of26 := lr.of6
    have of27 := lr.of7
    have no : w1.heap.size ≠ R := by omega
    have nko : w1.heap.size ≠ w.heap.size := by omega
    clear lr HL k10 kf10 k11 kf11 k12 kf12 k13 kf13 k14 kf14 k15 kf15 k16 kf16 k17 kf17 HR1 HV1 hO
    cases hv : decide (levelS L st = lev) with
    | false =>
      have hl : levelS L st ≠ lev := of_decide_eq_false hv
      obtain ⟨ge1, ge2⟩ := rest_end HN.out hl
      have HGE := Lib.hid (And.intro ge1 ge2)
      have d0 : ((levelS L st : Int) != (lev : Int)) = true := by rw [bne_iff_ne]; omega
      clear ge1 ge2 hv hl HN
      go_wp2_with fail
      refine (rlevel_any (R := R) (A := A) (cap := cap) (L := L) (E := E) (st := st) hL (by (with_reducible repeat' (first | exact HR2.out | refine zRf ?_ nk _ _ | refine zRf ?_ no _ _ | refine zRa ?_ _ | refine zRn ?_ _ | refine zRd ?_))) (HT.out.but (by (with_reducible repeat' (first | exact h2 | refine zBr ?_ _ _ | refine zBs ?_ (by omega) _ _ | refine zBa ?_ _ | refine zBn ?_ _ | refine zBd ?_))))).mono ?_; rintro e w3 ⟨rfl, b3⟩
      have h3 : But R w w3 := But.trans (by (with_reducible repeat' (first | exact h2 | refine zBr ?_ _ _ | refine zBs ?_ (by omega) _ _ | refine zBa ?_ _ | refine zBn ?_ _ | refine zBd ?_))) (But.of_below b3)
      have zk3 : w.heap.size < w3.heap.size := by have := b3.size; first | omega | (simp at this; omega)
      have Hk3 := c8_lift (B := w.heap.size) (fun j v hv => (But.of_below b3).cell nk (by with_reducible repeat' (first | exact hv | refine zCs ?_ (by omega) _ _ | refine zCa ?_ _ | refine zCn ?_ _ | refine zCd ?_))) k20 k21 k22 k23 k24 k25 k26 k27
      obtain ⟨k30, k31, k32, k33, k34, k35, k36, k37⟩ := Hk3
      have Hkf3 := f8_lift (B := w.heap.size) (fun j hv => (But.of_below b3).frozen nk (by first | omega | (simp; done) | (simp; omega)) (by with_reducible repeat' (first | exact hv | refine zFs ?_ (by omega) _ _ | refine zFa ?_ (by first | omega | (simp; omega)) _ | refine zFn ?_ _ | refine zFd ?_))) kf20 kf21 kf22 kf23 kf24 kf25 kf26 kf27
      obtain ⟨kf30, kf31, kf32, kf33, kf34, kf35, kf36, kf37⟩ := Hkf3
      have zo3 : w1.heap.size < w3.heap.size := by have := b3.size; first | omega | (simp at this; omega)
      have Ho3 := c8_lift (B := w1.heap.size) (fun j v hv => (But.of_below b3).cell no (by with_reducible repeat' (first | exact hv | refine zCs ?_ (by omega) _ _ | refine zCa ?_ _ | refine zCn ?_ _ | refine zCd ?_))) o20 o21 o22 o23 o24 o25 o26 o27
      obtain ⟨o30, o31, o32, o33, o34, o35, o36, o37⟩ := Ho3
      have Hof3 := f8_lift (B := w1.heap.size) (fun j hv => (But.of_below b3).frozen no (by first | omega | (simp; done) | (simp; omega)) (by with_reducible repeat' (first | exact hv | refine zFs ?_ (by omega) _ _ | refine zFa ?_ (by first | omega | (simp; omega)) _ | refine zFn ?_ _ | refine zFd ?_))) of20 of21 of22 of23 of24 of25 of26 of27
      obtain ⟨of30, of31, of32, of33, of34, of35, of36, of37⟩ := Hof3
      have y3 : w.heap.size < w3.heap.size := zk3
      have HR3 : Hid (RS w3 R A cap L E st) := Lib.hid (RS.below (by (with_reducible repeat' (first | exact HR2.out | refine zRf ?_ nk _ _ | refine zRf ?_ no _ _ | refine zRa ?_ _ | refine zRn ?_ _ | refine zRd ?_))) b3)
      have HO3 := Lib.hid (HO2.out.kept (Kept.of_below b3))
      clear b3 k20 k21 k22 k23 k24 k25 k26 k27 kf20 kf21 kf22 kf23 kf24 kf25 kf26 kf27 zk2 o20 o21 o22 o23 o24 o25 o26 o27 of20 of21 of22 of23 of24 of25 of26 of27 zo2
      go_wp2_with fail
      have HRg : Hid (RS w3 R A cap L E g.1) := Lib.hid (by rw [HGE.out.1]; exact HR3.out)
      exact bodyPost_ret (v := .agg #[.int .i64 c0, .int .i64 c1, .int .i64 c2, .int .i64 c3, .int .i64 c4, .int .i64 c5, .string cw, .slice cA cl cc]) (by simp [results, Tryd.results30, go_sem, k30, k31, k32, k33, k34, k35, k36, k37]) rfl ⟨⟨c0, c1, c2, c3, c4, c5, cw, cA, cl, cc⟩, rfl, (by
        have hx : TV w3 (fun b => w.heap.size < b ∧ b ≠ w1.heap.size) ⟨c0, c1, c2, c3, c4, c5, cw, cA, cl, cc⟩ g.2 := by
          rcases HGE.out.2 with e | e
          · rw [e]; exact HO3.out
          · rw [e]; trivial
        exact (hx.kept (by (with_reducible repeat' (first | exact Kept.refl _ _ | refine Kept.set1 ?_ (by omega) _ _ | refine Kept.set2 ?_ (by omega) _ _ | refine Kept.set2o ?_ _ _ | refine Kept.setNew ?_ (by omega) _ _ | refine Kept.alloc ?_ _ | refine Kept.drewN ?_ _ | refine Kept.drew ?_)))).imp fun b (hb : w.heap.size < b ∧ _) => Nat.le_of_lt hb.1), by (with_reducible repeat' (first | exact HRg.out | refine zRf ?_ nk _ _ | refine zRf ?_ no _ _ | refine zRa ?_ _ | refine zRn ?_ _ | refine zRd ?_)), by (with_reducible repeat' (first | exact h3 | refine zBr ?_ _ _ | refine zBs ?_ (by omega) _ _ | refine zBa ?_ _ | refine zBn ?_ _ | refine zBd ?_))⟩
    | true =>
      have hl : levelS L st = lev := of_decide_eq_true hv
      obtain ⟨p', t, n', u, g2, rfl, rfl, rfl, hu, he, hrest⟩ := rest_more HN.out hl l1
      obtain ⟨st2, ot2⟩ := g2
      have HU := Lib.hid hu
      have HE2 := Lib.hid he
      have HRE := Lib.hid hrest
      have hp' : p' < L.length := (List.getElem?_eq_some_iff.1 hu).1
      have HPn := Lib.hid (HP.out n' (by omega))
      have d0 : ((levelS L (.run p') : Int) != (lev : Int)) = false := by rw [bne_eq_false_iff_eq]; omega
      clear hu he hrest hv hl HN
      go_wp2_with fail
      refine (rlevel_any (R := R) (A := A) (cap := cap) (L := L) (E := E) (st := .run p') hL (by (with_reducible repeat' (first | exact HR2.out | refine zRf ?_ nk _ _ | refine zRf ?_ no _ _ | refine zRa ?_ _ | refine zRn ?_ _ | refine zRd ?_))) (HT.out.but (by (with_reducible repeat' (first | exact h2 | refine zBr ?_ _ _ | refine zBs ?_ (by omega) _ _ | refine zBa ?_ _ | refine zBn ?_ _ | refine zBd ?_))))).mono ?_; rintro e w3 ⟨rfl, b3⟩
      have h3 : But R w w3 := But.trans (by (with_reducible repeat' (first | exact h2 | refine zBr ?_ _ _ | refine zBs ?_ (by omega) _ _ | refine zBa ?_ _ | refine zBn ?_ _ | refine zBd ?_))) (But.of_below b3)
      have zk3 : w.heap.size < w3.heap.size := by have := b3.size; first | omega | (simp at this; omega)
      have Hk3 := c8_lift (B := w.heap.size) (fun j v hv => (But.of_below b3).cell nk (by with_reducible repeat' (first | exact hv | refine zCs ?_ (by omega) _ _ | refine zCa ?_ _ | refine zCn ?_ _ | refine zCd ?_))) k20 k21 k22 k23 k24 k25 k26 k27
      obtain ⟨k30, k31, k32, k33, k34, k35, k36, k37⟩ := Hk3
      have Hkf3 := f8_lift (B := w.heap.size) (fun j hv => (But.of_below b3).frozen nk (by first | omega | (simp; done) | (simp; omega)) (by with_reducible repeat' (first | exact hv | refine zFs ?_ (by omega) _ _ | refine zFa ?_ (by first | omega | (simp; omega)) _ | refine zFn ?_ _ | refine zFd ?_))) kf20 kf21 kf22 kf23 kf24 kf25 kf26 kf27
      obtain ⟨kf30, kf31, kf32, kf33, kf34, kf35, kf36, kf37⟩ := Hkf3
      have zo3 : w1.heap.size < w3.heap.size := by have := b3.size; first | omega | (simp at this; omega)
      have Ho3 := c8_lift (B := w1.heap.size) (fun j v hv => (But.of_below b3).cell no (by with_reducible repeat' (first | exact hv | refine zCs ?_ (by omega) _ _ | refine zCa ?_ _ | refine zCn ?_ _ | refine zCd ?_))) o20 o21 o22 o23 o24 o25 o26 o27
      obtain ⟨o30, o31, o32, o33, o34, o35, o36, o37⟩ := Ho3
      have Hof3 := f8_lift (B := w1.heap.size) (fun j hv => (But.of_below b3).frozen no (by first | omega | (simp; done) | (simp; omega)) (by with_reducible repeat' (first | exact hv | refine zFs ?_ (by omega) _ _ | refine zFa ?_ (by first | omega | (simp; omega)) _ | refine zFn ?_ _ | refine zFd ?_))) of20 of21 of22 of23 of24 of25 of26 of27
      obtain ⟨of30, of31, of32, of33, of34, of35, of36, of37⟩ := Hof3
      have y3 : w.heap.size < w3.heap.size := zk3
      have HR3 : Hid (RS w3 R A cap L E (.run p')) := Lib.hid (RS.below (by (with_reducible repeat' (first | exact HR2.out | refine zRf ?_ nk _ _ | refine zRf ?_ no _ _ | refine zRa ?_ _ | refine zRn ?_ _ | refine zRd ?_))) b3)
      have HO3 := Lib.hid (HO2.out.kept (Kept.of_below b3))
      clear b3 k20 k21 k22 k23 k24 k25 k26 k27 kf20 kf21 kf22 kf23 kf24 kf25 kf26 kf27 zk2 o20 o21 o22 o23 o24 o25 o26 o27 of20 of21 of22 of23 of24 of25 of26 of27 zo2
      have HS3 : Hid (∀ n, RS ((w3.drewN n).setCell ⟨R, 1, none⟩ (.int .i64 ((p' : Int) + 1))) R A cap L E (.run (p' + 1))) := Lib.hid fun n => (HR3.out.drewN n).step hp' (by omega)
      obtain ⟨_, _, hc⟩ := HR3.out
      have c0' := hc.c0
      have c1' := hc.c1
      have cf1' := hc.f1
      clear hc
      obtain ⟨g', hA, hgR, hgl, _, _, _, _, t4, _⟩ := (HT.out.but h3).at HU.out
      rw [hA] at c0'
      clear hA
      have zR3 : R < w3.heap.size := by omega
      have zo3' : w1.heap.size < w3.heap.size := zo3
      go_wp2_with fail
      go_quiet (fail)
      go_wp2_with fail
      refine (HPn.out _ (.run (p' + 1)) (st2, ot2) (by (with_reducible repeat' (first | exact HS3.out _ | refine zRf ?_ nk _ _ | refine zRf ?_ no _ _ | refine zRa ?_ _ | refine zRn ?_ _ | refine zRd ?_))) (HT.out.but (by (with_reducible repeat' (first | exact h3 | refine zBr ?_ _ _ | refine zBs ?_ (by omega) _ _ | refine zBa ?_ _ | refine zBn ?_ _ | refine zBd ?_)))) HE2.out).mono ?_; rintro e w4 ⟨⟨f0, f1, f2, f3, f4, f5, fw, fA, fl, fc⟩, rfl, v4, r4, b4⟩
      have h4 : But R w w4 := But.trans (by (with_reducible repeat' (first | exact h3 | refine zBr ?_ _ _ | refine zBs ?_ (by omega) _ _ | refine zBa ?_ _ | refine zBn ?_ _ | refine zBd ?_))) b4
      have zk4 : w.heap.size < w4.heap.size := by have := b4.size; first | omega | (simp at this; omega)
      have Hk4 := c8_lift (B := w.heap.size) (fun j v hv => b4.cell nk (by with_reducible repeat' (first | exact hv | refine zCs ?_ (by omega) _ _ | refine zCa ?_ _ | refine zCn ?_ _ | refine zCd ?_))) k30 k31 k32 k33 k34 k35 k36 k37
      obtain ⟨k40, k41, k42, k43, k44, k45, k46, k47⟩ := Hk4
      have Hkf4 := f8_lift (B := w.heap.size) (fun j hv => b4.frozen nk (by first | omega | (simp; done) | (simp; omega)) (by with_reducible repeat' (first | exact hv | refine zFs ?_ (by omega) _ _ | refine zFa ?_ (by first | omega | (simp; omega)) _ | refine zFn ?_ _ | refine zFd ?_))) kf30 kf31 kf32 kf33 kf34 kf35 kf36 kf37
      obtain ⟨kf40, kf41, kf42, kf43, kf44, kf45, kf46, kf47⟩ := Hkf4
      have zo4 : w1.heap.size < w4.heap.size := by have := b4.size; first | omega | (simp at this; omega)
      have Ho4 := c8_lift (B := w1.heap.size) (fun j v hv => b4.cell no (by with_reducible repeat' (first | exact hv | refine zCs ?_ (by omega) _ _ | refine zCa ?_ _ | refine zCn ?_ _ | refine zCd ?_))) o30 o31 o32 o33 o34 o35 o36 o37
      obtain ⟨o40, o41, o42, o43, o44, o45, o46, o47⟩ := Ho4
      have Hof4 := f8_lift (B := w1.heap.size) (fun j hv => b4.frozen no (by first | omega | (simp; done) | (simp; omega)) (by with_reducible repeat' (first | exact hv | refine zFs ?_ (by omega) _ _ | refine zFa ?_ (by first | omega | (simp; omega)) _ | refine zFn ?_ _ | refine zFd ?_))) of30 of31 of32 of33 of34 of35 of36 of37
      obtain ⟨of40, of41, of42, of43, of44, of45, of46, of47⟩ := Hof4
      have y4 : w.heap.size < w4.heap.size := zk4
      have HR4 : Hid (RS w4 R A cap L E st2) := Lib.hid r4
      have HO4 : Hid (TV w4 (fun b => w.heap.size < b ∧ b ≠ w1.heap.size) ⟨c0, c1, c2, c3, c4, c5, cw, cA, cl, cc⟩ (some t)) := Lib.hid (HO3.out.kept (Kept.but (by (with_reducible repeat' (first | exact Kept.refl _ _ | refine Kept.set1 ?_ (by omega) _ _ | refine Kept.set2 ?_ (by omega) _ _ | refine Kept.set2o ?_ _ _ | refine Kept.setNew ?_ (by omega) _ _ | refine Kept.alloc ?_ _ | refine Kept.drewN ?_ _ | refine Kept.drew ?_))) b4 fun h => by have := h.1; omega))
      have HV4 : Hid (TV w4 (fun b => w.heap.size < b ∧ b ≠ w1.heap.size) ⟨f0, f1, f2, f3, f4, f5, fw, fA, fl, fc⟩ ot2) := Lib.hid (v4.imp fun b hb => by have hb2 : _ ≤ b := hb; simp at hb2; exact ⟨by omega, by omega⟩)
      clear v4 c0' c1' cf1' t4
      clear b4 r4 k30 k31 k32 k33 k34 k35 k36 k37 kf30 kf31 kf32 kf33 kf34 kf35 kf36 kf37 zk3 o30 o31 o32 o33 o34 o35 o36 o37 of30 of31 of32 of33 of34 of35 of36 of37 zo3
      dsimp only [V8.val]
      go_wp2_with fail
      go_roundg n'
      case measure => omega
      case rel =>
        refine ⟨⟨4, 0, 0, 0, 0, 0, ⟨u.text.toArray⟩, some ⟨w4.heap.size + 1, 0, none⟩, 2, 2⟩, st2, ot2.map fun t2 => opT u.text t t2, by omega, Lib.hid ?_, HRE⟩
        refine ⟨by (with_reducible repeat' (first | exact HR4.out | refine zRf ?_ nk _ _ | refine zRf ?_ no _ _ | refine zRa ?_ _ | refine zRn ?_ _ | refine zRd ?_)), by (with_reducible repeat' (first | exact h4 | refine zBr ?_ _ _ | refine zBs ?_ (by omega) _ _ | refine zBa ?_ _ | refine zBn ?_ _ | refine zBd ?_)), by first | omega | (simp; omega), by first | omega | (simp; omega), ?_, ?_, ?_, ?_, ?_, ?_, ?_, ?_, ?_, ?_, ?_, ?_, ?_, ?_, ?_, ?_, ?_, ?_, ?_, ?_, ?_, ?_, ?_, ?_, ?_, ?_, ?_, ?_, ?_, ?_, ?_, ?_, ?_⟩
        · exact TV.node2 4 u.text ⟨c0, c1, c2, c3, c4, c5, cw, cA, cl, cc⟩ ⟨f0, f1, f2, f3, f4, f5, fw, fA, fl, fc⟩ t ot2 (by exact ⟨by omega, by omega⟩) (by first | (simp; done) | (simp; omega)) ⟨by simp [go_sem], by simp [go_sem], by simp [go_sem], by simp [go_sem], by simp [go_sem], by simp [go_sem], by simp [go_sem], by simp [go_sem]⟩ ⟨by simp [go_sem], by simp [go_sem], by simp [go_sem], by simp [go_sem], by simp [go_sem], by simp [go_sem], by simp [go_sem], by simp [go_sem]⟩ (HO4.out.kept (by (with_reducible repeat' (first | exact Kept.refl _ _ | refine Kept.set1 ?_ (by omega) _ _ | refine Kept.set2 ?_ (by omega) _ _ | refine Kept.set2o ?_ _ _ | refine Kept.setNew ?_ (by omega) _ _ | refine Kept.alloc ?_ _ | refine Kept.drewN ?_ _ | refine Kept.drew ?_)))) (HV4.out.kept (by (with_reducible repeat' (first | exact Kept.refl _ _ | refine Kept.set1 ?_ (by omega) _ _ | refine Kept.set2 ?_ (by omega) _ _ | refine Kept.set2o ?_ _ _ | refine Kept.setNew ?_ (by omega) _ _ | refine Kept.alloc ?_ _ | refine Kept.drewN ?_ _ | refine Kept.drew ?_))))
        · (with_reducible repeat' (first | exact k40 | refine zCs ?_ (by omega) _ _ | refine zCa ?_ _ | refine zCn ?_ _ | refine zCd ?_))
        · (with_reducible repeat' (first | exact k41 | refine zCs ?_ (by omega) _ _ | refine zCa ?_ _ | refine zCn ?_ _ | refine zCd ?_))
        · (with_reducible repeat' (first | exact k42 | refine zCs ?_ (by omega) _ _ | refine zCa ?_ _ | refine zCn ?_ _ | refine zCd ?_))
        · (with_reducible repeat' (first | exact k43 | refine zCs ?_ (by omega) _ _ | refine zCa ?_ _ | refine zCn ?_ _ | refine zCd ?_))
        · (with_reducible repeat' (first | exact k44 | refine zCs ?_ (by omega) _ _ | refine zCa ?_ _ | refine zCn ?_ _ | refine zCd ?_))
        · (with_reducible repeat' (first | exact k45 | refine zCs ?_ (by omega) _ _ | refine zCa ?_ _ | refine zCn ?_ _ | refine zCd ?_))
        · (with_reducible repeat' (first | exact k46 | refine zCs ?_ (by omega) _ _ | refine zCa ?_ _ | refine zCn ?_ _ | refine zCd ?_))
        · (with_reducible repeat' (first | exact k47 | refine zCs ?_ (by omega) _ _ | refine zCa ?_ _ | refine zCn ?_ _ | refine zCd ?_))
        · (with_reducible repeat' (first | exact kf40 | refine zFs ?_ (by omega) _ _ | refine zFa ?_ (by first | omega | (simp; omega)) _ | refine zFn ?_ _ | refine zFd ?_))
        · (with_reducible repeat' (first | exact kf41 | refine zFs ?_ (by omega) _ _ | refine zFa ?_ (by first | omega | (simp; omega)) _ | refine zFn ?_ _ | refine zFd ?_))
        · (with_reducible repeat' (first | exact kf42 | refine zFs ?_ (by omega) _ _ | refine zFa ?_ (by first | omega | (simp; omega)) _ | refine zFn ?_ _ | refine zFd ?_))
        · (with_reducible repeat' (first | exact kf43 | refine zFs ?_ (by omega) _ _ | refine zFa ?_ (by first | omega | (simp; omega)) _ | refine zFn ?_ _ | refine zFd ?_))
        · (with_reducible repeat' (first | exact kf44 | refine zFs ?_ (by omega) _ _ | refine zFa ?_ (by first | omega | (simp; omega)) _ | refine zFn ?_ _ | refine zFd ?_))
        · (with_reducible repeat' (first | exact kf45 | refine zFs ?_ (by omega) _ _ | refine zFa ?_ (by first | omega | (simp; omega)) _ | refine zFn ?_ _ | refine zFd ?_))
        · (with_reducible repeat' (first | exact kf46 | refine zFs ?_ (by omega) _ _ | refine zFa ?_ (by first | omega | (simp; omega)) _ | refine zFn ?_ _ | refine zFd ?_))
        · (with_reducible repeat' (first | exact kf47 | refine zFs ?_ (by omega) _ _ | refine zFa ?_ (by first | omega | (simp; omega)) _ | refine zFn ?_ _ | refine zFd ?_))
        · simp [go_sem, o40, zo4]
        · simp [go_sem, o41, zo4]
        · simp [go_sem, o42, zo4]
        · simp [go_sem, o43, zo4]
        · simp [go_sem, o44, zo4]
        · simp [go_sem, o45, zo4]
        · simp [go_sem, o46, zo4]
        · simp [go_sem, o47, zo4]
        · simp [go_sem, of40, zo4]
        · simp [go_sem, of41, zo4]
        · simp [go_sem, of42, zo4]
        · simp [go_sem, of43, zo4]
        · simp [go_sem, of44, zo4]
        · simp [go_sem, of45, zo4]
        · simp [go_sem, of46, zo4]
        · simp [go_sem, of47, zo4]
end Go.Proofs.YthaoalmhhgllmaaDoor
