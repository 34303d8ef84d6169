/- Texts joined: TrL, TrM. -/
import Derived.Test.YthaoalmhhgllmaaDoorMb16
import Derived.Test.YthaoalmhhgllmaaDoorMb05
set_option linter.all false
namespace Go.Proofs.YthaoalmhhgllmaaDoor
open Go.RowKit
set_option maxHeartbeats 2000000 in
set_option maxRecDepth 10000 in
theorem ritem_bada (cb : Bool) (R : Nat) (A : Option Addr) (cap : Nat) (L : List Tok) (E : Nat) (hL : L.length ≤ 1000) (w : World) (p : Nat) (hr : RS w R A cap L E (.run p)) (hk : TK w R A L) (he : isEnd L p = true) (hc : isMark L (p + 1) [58] = true) (t : Tok) (ht : L[p]? = some t) (h2 : isEnd L (p + 2) = true) (u : Tok) (hu : L[p + 2]? = some u) (k3 : (t.kind == 3) = true) : Calls Tryd.prog 90 #[.pointer (some ⟨R, 0, none⟩), .bool cb] w fun e w' => ∃ x : V8, e = .returned x.val ∧ TV w' (fun b => w.heap.size ≤ b) x (some badT) ∧ RS w' R A cap L E (.run (p + 3)) ∧ But R w w' := by
  cases cb
  all_goals
    have H2 := Lib.hid h2
    have HU := Lib.hid hu
    have hp2 : p + 2 < L.length := (List.getElem?_eq_some_iff.1 hu).1
    clear h2 hu
    have HR := Lib.hid hr
    have HT := Lib.hid hk
    have hlt : R < w.heap.size := hr.lt
    have nk : w.heap.size ≠ R := by omega
    clear hr hk
    have HE := Lib.hid he
    have HC := Lib.hid hc
    have HX := Lib.hid ht
    have hp : p < L.length := (List.getElem?_eq_some_iff.1 ht).1
    clear he hc ht
    go_enter Tryd.func90, Tryd.ntmps90
    go_wp2_with fail
    refine (rend_any (R := R) (A := A) (cap := cap) (L := L) (E := E) (st := .run p) hL (by (with_reducible repeat' (first | exact HR.out | refine zRf ?_ nk _ _ | refine zRa ?_ _ | refine zRn ?_ _ | refine zRd ?_))) (HT.out.but (by (with_reducible repeat' (first | exact But.refl _ _ | refine zBr ?_ _ _ | refine zBs ?_ (by omega) _ _ | refine zBa ?_ _ | refine zBn ?_ _ | refine zBd ?_))))).mono ?_; rintro e w1 ⟨rfl, b1⟩
    have h1 : But R w w1 := But.trans (by (with_reducible repeat' (first | exact But.refl _ _ | refine zBr ?_ _ _ | refine zBs ?_ (by omega) _ _ | refine zBa ?_ _ | refine zBn ?_ _ | refine zBd ?_))) (But.of_below b1)
    have zk1 : w.heap.size < w1.heap.size := by have := b1.size; first | omega | (simp at this; omega)
    have Hk1 : C8 w1 (w.heap.size) (.int .i64 0) (.int .i64 0) (.int .i64 0) (.int .i64 0) (.int .i64 0) (.int .i64 0) (.string ⟨#[]⟩) (.slice none 0 0) := by refine ⟨?_, ?_, ?_, ?_, ?_, ?_, ?_, ?_⟩ <;> exact (But.of_below b1).cell nk (by simp [go_sem])
    obtain ⟨k10, k11, k12, k13, k14, k15, k16, k17⟩ := Hk1
    have Hkf1 : F8 w1 (w.heap.size) := by refine ⟨?_, ?_, ?_, ?_, ?_, ?_, ?_, ?_⟩ <;> exact (But.of_below b1).frozen nk (by first | omega | (simp; done) | (simp; omega)) (by simp [go_sem])
    obtain ⟨kf10, kf11, kf12, kf13, kf14, kf15, kf16, kf17⟩ := Hkf1
    have y1 : w.heap.size < w1.heap.size := zk1
    have HR1 : Hid (RS w1 R A cap L E (.run p)) := Lib.hid (RS.below (by (with_reducible repeat' (first | exact HR.out | refine zRf ?_ nk _ _ | refine zRa ?_ _ | refine zRn ?_ _ | refine zRd ?_))) b1)
    clear b1
    go_wp2_with fail
    refine (rmark_any (R := R) (A := A) (cap := cap) (L := L) (E := E) (m := 1) (st := .run p) ⟨#[58]⟩ hL (by omega) (by (with_reducible repeat' (first | exact HR1.out | refine zRf ?_ nk _ _ | refine zRa ?_ _ | refine zRn ?_ _ | refine zRd ?_))) (HT.out.but (by (with_reducible repeat' (first | exact h1 | refine zBr ?_ _ _ | refine zBs ?_ (by omega) _ _ | refine zBa ?_ _ | refine zBn ?_ _ | refine zBd ?_))))).mono ?_; rintro e w2 ⟨rfl, b2⟩
    have h2 : But R w w2 := But.trans (by (with_reducible repeat' (first | exact h1 | refine zBr ?_ _ _ | refine zBs ?_ (by omega) _ _ | refine zBa ?_ _ | refine zBn ?_ _ | refine zBd ?_))) (But.of_below b2)
    have zk2 : w.heap.size < w2.heap.size := by have := b2.size; first | omega | (simp at this; omega)
    have Hk2 := c8_lift (B := w.heap.size) (fun j v hv => (But.of_below b2).cell nk (by with_reducible repeat' (first | exact hv | refine zCs ?_ (by omega) _ _ | refine zCa ?_ _ | refine zCn ?_ _ | refine zCd ?_))) k10 k11 k12 k13 k14 k15 k16 k17
    obtain ⟨k20, k21, k22, k23, k24, k25, k26, k27⟩ := Hk2
    have Hkf2 := f8_lift (B := w.heap.size) (fun j hv => (But.of_below b2).frozen nk (by first | omega | (simp; done) | (simp; omega)) (by with_reducible repeat' (first | exact hv | refine zFs ?_ (by omega) _ _ | refine zFa ?_ (by first | omega | (simp; omega)) _ | refine zFn ?_ _ | refine zFd ?_))) kf10 kf11 kf12 kf13 kf14 kf15 kf16 kf17
    obtain ⟨kf20, kf21, kf22, kf23, kf24, kf25, kf26, kf27⟩ := Hkf2
    have y2 : w.heap.size < w2.heap.size := zk2
    have HR2 : Hid (RS w2 R A cap L E (.run p)) := Lib.hid (RS.below (by (with_reducible repeat' (first | exact HR1.out | refine zRf ?_ nk _ _ | refine zRa ?_ _ | refine zRn ?_ _ | refine zRd ?_))) b2)
    clear b2 k10 k11 k12 k13 k14 k15 k16 k17 kf10 kf11 kf12 kf13 kf14 kf15 kf16 kf17 zk1
    have e0 : endS L (.run p) = true := HE.out
    have e1 : markR L 1 [58] (.run p) = true := HC.out
    have HS2 : Hid (RS (w2.setCell ⟨R, 1, none⟩ (.int .i64 ((p : Int) + 1))) R A cap L E (.run (p + 1))) := Lib.hid (HR2.out.step hp (by omega))
    obtain ⟨_, _, hc⟩ := HR2.out
    have c0 := hc.c0
    have c1 := hc.c1
    have cf1 := hc.f1
    clear hc
    obtain ⟨ga, hA, hgaR, hgal, t0, t1, t2, t3, t4, t5⟩ := (HT.out.but h2).at HX.out
    rw [hA] at c0
    clear hA
    have zR2 : R < w2.heap.size := by omega
    have na : w2.heap.size ≠ R := by omega
    go_wp2_with fail
    go_region
    go_wp2_with fail
    clear c0 c1 cf1 t0 t1 t2 t3 t4 t5
    refine (rmust_any (R := R) (A := A) (cap := cap) (L := L) (E := E) (st := .run (p + 1)) ⟨#[58]⟩ hL (by (with_reducible repeat' (first | exact HS2.out | refine zRf ?_ nk _ _ | refine zRf ?_ na _ _ | refine zRa ?_ _ | refine zRn ?_ _ | refine zRd ?_))) (HT.out.but (by (with_reducible repeat' (first | exact h2 | refine zBr ?_ _ _ | refine zBs ?_ (by omega) _ _ | refine zBa ?_ _ | refine zBn ?_ _ | refine zBd ?_))))).mono ?_; rintro e w3 ⟨rfl, r3, b3⟩
    have h3 : But R w w3 := But.trans (by (with_reducible repeat' (first | exact h2 | refine zBr ?_ _ _ | refine zBs ?_ (by omega) _ _ | refine zBa ?_ _ | refine zBn ?_ _ | refine zBd ?_))) b3
    have zk3 : w.heap.size < w3.heap.size := by have := b3.size; first | omega | (simp at this; omega)
    have Hk3 := c8_lift (B := w.heap.size) (fun j v hv => b3.cell nk (by with_reducible repeat' (first | exact hv | refine zCs ?_ (by omega) _ _ | refine zCa ?_ _ | refine zCn ?_ _ | refine zCd ?_))) k20 k21 k22 k23 k24 k25 k26 k27
    obtain ⟨k30, k31, k32, k33, k34, k35, k36, k37⟩ := Hk3
    have Hkf3 := f8_lift (B := w.heap.size) (fun j hv => b3.frozen nk (by first | omega | (simp; done) | (simp; omega)) (by with_reducible repeat' (first | exact hv | refine zFs ?_ (by omega) _ _ | refine zFa ?_ (by first | omega | (simp; omega)) _ | refine zFn ?_ _ | refine zFd ?_))) kf20 kf21 kf22 kf23 kf24 kf25 kf26 kf27
    obtain ⟨kf30, kf31, kf32, kf33, kf34, kf35, kf36, kf37⟩ := Hkf3
    have za3 : w2.heap.size < w3.heap.size := by have := b3.size; first | omega | (simp at this; omega)
    have a30 : w3.cell? ⟨w2.heap.size, 0, none⟩ = some (.int .i64 t.kind) := b3.cell na (by simp [go_sem])
    have a31 : w3.cell? ⟨w2.heap.size, 1, none⟩ = some (.int .i64 t.num) := b3.cell na (by simp [go_sem])
    have a32 : w3.cell? ⟨w2.heap.size, 2, none⟩ = some (.int .i64 t.col) := b3.cell na (by simp [go_sem])
    have a33 : w3.cell? ⟨w2.heap.size, 3, none⟩ = some (.int .i64 t.row) := b3.cell na (by simp [go_sem])
    have a34 : w3.cell? ⟨w2.heap.size, 4, none⟩ = some (.string ⟨t.text.toArray⟩) := b3.cell na (by simp [go_sem])
    have a35 : w3.cell? ⟨w2.heap.size, 5, none⟩ = some (.int .i64 (t.frm : Int)) := b3.cell na (by simp [go_sem])
    have y3 : w.heap.size < w3.heap.size := zk3
    have HR3 : Hid (RS w3 R A cap L E (mustS L E [58] (.run (p + 1)))) := Lib.hid r3
    clear b3 r3 k20 k21 k22 k23 k24 k25 k26 k27 kf20 kf21 kf22 kf23 kf24 kf25 kf26 kf27 zk2
    have y3l : w2.heap.size < w3.heap.size := za3
    have E3 : mustS L E [58] (.run (p + 1)) = .run (p + 2) := if_pos HC.out
    rw [E3] at HR3
    go_wp2_with fail
    refine (rend_any (R := R) (A := A) (cap := cap) (L := L) (E := E) (st := .run (p + 2)) hL (by (with_reducible repeat' (first | exact HR3.out | refine zRf ?_ nk _ _ | refine zRf ?_ na _ _ | refine zRa ?_ _ | refine zRn ?_ _ | refine zRd ?_))) (HT.out.but (by (with_reducible repeat' (first | exact h3 | refine zBr ?_ _ _ | refine zBs ?_ (by omega) _ _ | refine zBa ?_ _ | refine zBn ?_ _ | refine zBd ?_))))).mono ?_; rintro e w4 ⟨rfl, b4⟩
    have h4 : But R w w4 := But.trans (by (with_reducible repeat' (first | exact h3 | refine zBr ?_ _ _ | refine zBs ?_ (by omega) _ _ | refine zBa ?_ _ | refine zBn ?_ _ | refine zBd ?_))) (But.of_below b4)
    have zk4 : w.heap.size < w4.heap.size := by have := b4.size; first | omega | (simp at this; omega)
    have Hk4 := c8_lift (B := w.heap.size) (fun j v hv => (But.of_below b4).cell nk (by with_reducible repeat' (first | exact hv | refine zCs ?_ (by omega) _ _ | refine zCa ?_ _ | refine zCn ?_ _ | refine zCd ?_))) k30 k31 k32 k33 k34 k35 k36 k37
    obtain ⟨k40, k41, k42, k43, k44, k45, k46, k47⟩ := Hk4
    have Hkf4 := f8_lift (B := w.heap.size) (fun j hv => (But.of_below b4).frozen nk (by first | omega | (simp; done) | (simp; omega)) (by with_reducible repeat' (first | exact hv | refine zFs ?_ (by omega) _ _ | refine zFa ?_ (by first | omega | (simp; omega)) _ | refine zFn ?_ _ | refine zFd ?_))) kf30 kf31 kf32 kf33 kf34 kf35 kf36 kf37
    obtain ⟨kf40, kf41, kf42, kf43, kf44, kf45, kf46, kf47⟩ := Hkf4
    have za4 : w2.heap.size < w4.heap.size := by have := b4.size; first | omega | (simp at this; omega)
    have a40 : w4.cell? ⟨w2.heap.size, 0, none⟩ = some (.int .i64 t.kind) := (But.of_below b4).cell na (by with_reducible repeat' (first | exact a30 | refine zCs ?_ (by omega) _ _ | refine zCa ?_ _ | refine zCn ?_ _ | refine zCd ?_))
    have a41 : w4.cell? ⟨w2.heap.size, 1, none⟩ = some (.int .i64 t.num) := (But.of_below b4).cell na (by with_reducible repeat' (first | exact a31 | refine zCs ?_ (by omega) _ _ | refine zCa ?_ _ | refine zCn ?_ _ | refine zCd ?_))
    have a42 : w4.cell? ⟨w2.heap.size, 2, none⟩ = some (.int .i64 t.col) := (But.of_below b4).cell na (by with_reducible repeat' (first | exact a32 | refine zCs ?_ (by omega) _ _ | refine zCa ?_ _ | refine zCn ?_ _ | refine zCd ?_))
    have a43 : w4.cell? ⟨w2.heap.size, 3, none⟩ = some (.int .i64 t.row) := (But.of_below b4).cell na (by with_reducible repeat' (first | exact a33 | refine zCs ?_ (by omega) _ _ | refine zCa ?_ _ | refine zCn ?_ _ | refine zCd ?_))
    have a44 : w4.cell? ⟨w2.heap.size, 4, none⟩ = some (.string ⟨t.text.toArray⟩) := (But.of_below b4).cell na (by with_reducible repeat' (first | exact a34 | refine zCs ?_ (by omega) _ _ | refine zCa ?_ _ | refine zCn ?_ _ | refine zCd ?_))
    have a45 : w4.cell? ⟨w2.heap.size, 5, none⟩ = some (.int .i64 (t.frm : Int)) := (But.of_below b4).cell na (by with_reducible repeat' (first | exact a35 | refine zCs ?_ (by omega) _ _ | refine zCa ?_ _ | refine zCn ?_ _ | refine zCd ?_))
    have y4 : w.heap.size < w4.heap.size := zk4
    have HR4 : Hid (RS w4 R A cap L E (.run (p + 2))) := Lib.hid (RS.below (by (with_reducible repeat' (first | exact HR3.out | refine zRf ?_ nk _ _ | refine zRf ?_ na _ _ | refine zRa ?_ _ | refine zRn ?_ _ | refine zRd ?_))) b4)
    clear b4 k30 k31 k32 k33 k34 k35 k36 k37 kf30 kf31 kf32 kf33 kf34 kf35 kf36 kf37 zk3 a30 a31 a32 a33 a34 a35 za3
    have e4 : endS L (.run (p + 2)) = true := H2.out
    have HS4 : Hid (RS (w4.setCell ⟨R, 1, none⟩ (.int .i64 ((p : Int) + 2 + 1))) R A cap L E (.run (p + 3))) := Lib.hid (HR4.out.step hp2 (by omega))
    obtain ⟨_, _, hc⟩ := HR4.out
    have c0 := hc.c0
    have c1 := hc.c1
    have cf1 := hc.f1
    clear hc
    obtain ⟨gb, hA, hgbR, hgbl, t0, t1, t2, t3, t4, t5⟩ := (HT.out.but h4).at HU.out
    rw [hA] at c0
    clear hA
    have zR4 : R < w4.heap.size := by omega
    have nb : w4.heap.size ≠ R := by omega
    go_wp2_with fail
    go_region
    go_wp2_with fail
    clear c0 c1 cf1 t0 t1 t2 t3 t4 t5
    exact bodyPost_ret (v := .agg #[.int .i64 2, .int .i64 0, .int .i64 0, .int .i64 0, .int .i64 0, .int .i64 0, .string ⟨#[]⟩, .slice none 0 0]) (by simp [results, Tryd.results90, go_sem, k40, k41, k42, k43, k44, k45, k46, k47, y4]) rfl ⟨⟨2, 0, 0, 0, 0, 0, ⟨#[]⟩, none, 0, 0⟩, rfl, TV.leaf (t := badT) rfl, by (with_reducible repeat' (first | exact HS4.out | refine zRf ?_ nk _ _ | refine zRf ?_ na _ _ | refine zRf ?_ nb _ _ | refine zRa ?_ _ | refine zRn ?_ _ | refine zRd ?_)), by (with_reducible repeat' (first | exact h4 | refine zBr ?_ _ _ | refine zBs ?_ (by omega) _ _ | refine zBa ?_ _ | refine zBn ?_ _ | refine zBd ?_))⟩
set_option maxHeartbeats 2000000 in
set_option maxRecDepth 10000 in
theorem ritem_badb (cb : Bool) (R : Nat) (A : Option Addr) (cap : Nat) (L : List Tok) (E : Nat) (hL : L.length ≤ 1000) (w : World) (p : Nat) (hr : RS w R A cap L E (.run p)) (hk : TK w R A L) (he : isEnd L p = true) (hc : isMark L (p + 1) [58] = true) (t : Tok) (ht : L[p]? = some t) (h2 : isEnd L (p + 2) = true) (u : Tok) (hu : L[p + 2]? = some u) (k3 : (t.kind == 3) = false) (u3 : (u.kind == 3) = true) : Calls Tryd.prog 90 #[.pointer (some ⟨R, 0, none⟩), .bool cb] w fun e w' => ∃ x : V8, e = .returned x.val ∧ TV w' (fun b => w.heap.size ≤ b) x (some badT) ∧ RS w' R A cap L E (.run (p + 3)) ∧ But R w w' := by
  cases cb
  all_goals
    have H2 := Lib.hid h2
    have HU := Lib.hid hu
    have hp2 : p + 2 < L.length := (List.getElem?_eq_some_iff.1 hu).1
    clear h2 hu
    have HR := Lib.hid hr
    have HT := Lib.hid hk
    have hlt : R < w.heap.size := hr.lt
    have nk : w.heap.size ≠ R := by omega
    clear hr hk
    have HE := Lib.hid he
    have HC := Lib.hid hc
    have HX := Lib.hid ht
    have hp : p < L.length := (List.getElem?_eq_some_iff.1 ht).1
    clear he hc ht
    go_enter Tryd.func90, Tryd.ntmps90
    go_wp2_with fail
    refine (rend_any (R := R) (A := A) (cap := cap) (L := L) (E := E) (st := .run p) hL (by (with_reducible repeat' (first | exact HR.out | refine zRf ?_ nk _ _ | refine zRa ?_ _ | refine zRn ?_ _ | refine zRd ?_))) (HT.out.but (by (with_reducible repeat' (first | exact But.refl _ _ | refine zBr ?_ _ _ | refine zBs ?_ (by omega) _ _ | refine zBa ?_ _ | refine zBn ?_ _ | refine zBd ?_))))).mono ?_; rintro e w1 ⟨rfl, b1⟩
    have h1 : But R w w1 := But.trans (by (with_reducible repeat' (first | exact But.refl _ _ | refine zBr ?_ _ _ | refine zBs ?_ (by omega) _ _ | refine zBa ?_ _ | refine zBn ?_ _ | refine zBd ?_))) (But.of_below b1)
    have zk1 : w.heap.size < w1.heap.size := by have := b1.size; first | omega | (simp at this; omega)
    have Hk1 : C8 w1 (w.heap.size) (.int .i64 0) (.int .i64 0) (.int .i64 0) (.int .i64 0) (.int .i64 0) (.int .i64 0) (.string ⟨#[]⟩) (.slice none 0 0) := by refine ⟨?_, ?_, ?_, ?_, ?_, ?_, ?_, ?_⟩ <;> exact (But.of_below b1).cell nk (by simp [go_sem])
    obtain ⟨k10, k11, k12, k13, k14, k15, k16, k17⟩ := Hk1
    have Hkf1 : F8 w1 (w.heap.size) := by refine ⟨?_, ?_, ?_, ?_, ?_, ?_, ?_, ?_⟩ <;> exact (But.of_below b1).frozen nk (by first | omega | (simp; done) | (simp; omega)) (by simp [go_sem])
    obtain ⟨kf10, kf11, kf12, kf13, kf14, kf15, kf16, kf17⟩ := Hkf1
    have y1 : w.heap.size < w1.heap.size := zk1
    have HR1 : Hid (RS w1 R A cap L E (.run p)) := Lib.hid (RS.below (by (with_reducible repeat' (first | exact HR.out | refine zRf ?_ nk _ _ | refine zRa ?_ _ | refine zRn ?_ _ | refine zRd ?_))) b1)
    clear b1
    go_wp2_with fail
    refine (rmark_any (R := R) (A := A) (cap := cap) (L := L) (E := E) (m := 1) (st := .run p) ⟨#[58]⟩ hL (by omega) (by (with_reducible repeat' (first | exact HR1.out | refine zRf ?_ nk _ _ | refine zRa ?_ _ | refine zRn ?_ _ | refine zRd ?_))) (HT.out.but (by (with_reducible repeat' (first | exact h1 | refine zBr ?_ _ _ | refine zBs ?_ (by omega) _ _ | refine zBa ?_ _ | refine zBn ?_ _ | refine zBd ?_))))).mono ?_; rintro e w2 ⟨rfl, b2⟩
    have h2 : But R w w2 := But.trans (by (with_reducible repeat' (first | exact h1 | refine zBr ?_ _ _ | refine zBs ?_ (by omega) _ _ | refine zBa ?_ _ | refine zBn ?_ _ | refine zBd ?_))) (But.of_below b2)
    have zk2 : w.heap.size < w2.heap.size := by have := b2.size; first | omega | (simp at this; omega)
    have Hk2 := c8_lift (B := w.heap.size) (fun j v hv => (But.of_below b2).cell nk (by with_reducible repeat' (first | exact hv | refine zCs ?_ (by omega) _ _ | refine zCa ?_ _ | refine zCn ?_ _ | refine zCd ?_))) k10 k11 k12 k13 k14 k15 k16 k17
    obtain ⟨k20, k21, k22, k23, k24, k25, k26, k27⟩ := Hk2
    have Hkf2 := f8_lift (B := w.heap.size) (fun j hv => (But.of_below b2).frozen nk (by first | omega | (simp; done) | (simp; omega)) (by with_reducible repeat' (first | exact hv | refine zFs ?_ (by omega) _ _ | refine zFa ?_ (by first | omega | (simp; omega)) _ | refine zFn ?_ _ | refine zFd ?_))) kf10 kf11 kf12 kf13 kf14 kf15 kf16 kf17
    obtain ⟨kf20, kf21, kf22, kf23, kf24, kf25, kf26, kf27⟩ := Hkf2
    have y2 : w.heap.size < w2.heap.size := zk2
    have HR2 : Hid (RS w2 R A cap L E (.run p)) := Lib.hid (RS.below (by (with_reducible repeat' (first | exact HR1.out | refine zRf ?_ nk _ _ | refine zRa ?_ _ | refine zRn ?_ _ | refine zRd ?_))) b2)
    clear b2 k10 k11 k12 k13 k14 k15 k16 k17 kf10 kf11 kf12 kf13 kf14 kf15 kf16 kf17 zk1
    have e0 : endS L (.run p) = true := HE.out
    have e1 : markR L 1 [58] (.run p) = true := HC.out
    have HS2 : Hid (RS (w2.setCell ⟨R, 1, none⟩ (.int .i64 ((p : Int) + 1))) R A cap L E (.run (p + 1))) := Lib.hid (HR2.out.step hp (by omega))
    obtain ⟨_, _, hc⟩ := HR2.out
    have c0 := hc.c0
    have c1 := hc.c1
    have cf1 := hc.f1
    clear hc
    obtain ⟨ga, hA, hgaR, hgal, t0, t1, t2, t3, t4, t5⟩ := (HT.out.but h2).at HX.out
    rw [hA] at c0
    clear hA
    have zR2 : R < w2.heap.size := by omega
    have na : w2.heap.size ≠ R := by omega
    go_wp2_with fail
    go_region
    go_wp2_with fail
    clear c0 c1 cf1 t0 t1 t2 t3 t4 t5
    refine (rmust_any (R := R) (A := A) (cap := cap) (L := L) (E := E) (st := .run (p + 1)) ⟨#[58]⟩ hL (by (with_reducible repeat' (first | exact HS2.out | refine zRf ?_ nk _ _ | refine zRf ?_ na _ _ | refine zRa ?_ _ | refine zRn ?_ _ | refine zRd ?_))) (HT.out.but (by (with_reducible repeat' (first | exact h2 | refine zBr ?_ _ _ | refine zBs ?_ (by omega) _ _ | refine zBa ?_ _ | refine zBn ?_ _ | refine zBd ?_))))).mono ?_; rintro e w3 ⟨rfl, r3, b3⟩
    have h3 : But R w w3 := But.trans (by (with_reducible repeat' (first | exact h2 | refine zBr ?_ _ _ | refine zBs ?_ (by omega) _ _ | refine zBa ?_ _ | refine zBn ?_ _ | refine zBd ?_))) b3
    have zk3 : w.heap.size < w3.heap.size := by have := b3.size; first | omega | (simp at this; omega)
    have Hk3 := c8_lift (B := w.heap.size) (fun j v hv => b3.cell nk (by with_reducible repeat' (first | exact hv | refine zCs ?_ (by omega) _ _ | refine zCa ?_ _ | refine zCn ?_ _ | refine zCd ?_))) k20 k21 k22 k23 k24 k25 k26 k27
    obtain ⟨k30, k31, k32, k33, k34, k35, k36, k37⟩ := Hk3
    have Hkf3 := f8_lift (B := w.heap.size) (fun j hv => b3.frozen nk (by first | omega | (simp; done) | (simp; omega)) (by with_reducible repeat' (first | exact hv | refine zFs ?_ (by omega) _ _ | refine zFa ?_ (by first | omega | (simp; omega)) _ | refine zFn ?_ _ | refine zFd ?_))) kf20 kf21 kf22 kf23 kf24 kf25 kf26 kf27
    obtain ⟨kf30, kf31, kf32, kf33, kf34, kf35, kf36, kf37⟩ := Hkf3
    have za3 : w2.heap.size < w3.heap.size := by have := b3.size; first | omega | (simp at this; omega)
    have a30 : w3.cell? ⟨w2.heap.size, 0, none⟩ = some (.int .i64 t.kind) := b3.cell na (by simp [go_sem])
    have a31 : w3.cell? ⟨w2.heap.size, 1, none⟩ = some (.int .i64 t.num) := b3.cell na (by simp [go_sem])
    have a32 : w3.cell? ⟨w2.heap.size, 2, none⟩ = some (.int .i64 t.col) := b3.cell na (by simp [go_sem])
    have a33 : w3.cell? ⟨w2.heap.size, 3, none⟩ = some (.int .i64 t.row) := b3.cell na (by simp [go_sem])
    have a34 : w3.cell? ⟨w2.heap.size, 4, none⟩ = some (.string ⟨t.text.toArray⟩) := b3.cell na (by simp [go_sem])
    have a35 : w3.cell? ⟨w2.heap.size, 5, none⟩ = some (.int .i64 (t.frm : Int)) := b3.cell na (by simp [go_sem])
    have y3 : w.heap.size < w3.heap.size := zk3
    have HR3 : Hid (RS w3 R A cap L E (mustS L E [58] (.run (p + 1)))) := Lib.hid r3
    clear b3 r3 k20 k21 k22 k23 k24 k25 k26 k27 kf20 kf21 kf22 kf23 kf24 kf25 kf26 kf27 zk2
    have y3l : w2.heap.size < w3.heap.size := za3
    have E3 : mustS L E [58] (.run (p + 1)) = .run (p + 2) := if_pos HC.out
    rw [E3] at HR3
    go_wp2_with fail
    refine (rend_any (R := R) (A := A) (cap := cap) (L := L) (E := E) (st := .run (p + 2)) hL (by (with_reducible repeat' (first | exact HR3.out | refine zRf ?_ nk _ _ | refine zRf ?_ na _ _ | refine zRa ?_ _ | refine zRn ?_ _ | refine zRd ?_))) (HT.out.but (by (with_reducible repeat' (first | exact h3 | refine zBr ?_ _ _ | refine zBs ?_ (by omega) _ _ | refine zBa ?_ _ | refine zBn ?_ _ | refine zBd ?_))))).mono ?_; rintro e w4 ⟨rfl, b4⟩
    have h4 : But R w w4 := But.trans (by (with_reducible repeat' (first | exact h3 | refine zBr ?_ _ _ | refine zBs ?_ (by omega) _ _ | refine zBa ?_ _ | refine zBn ?_ _ | refine zBd ?_))) (But.of_below b4)
    have zk4 : w.heap.size < w4.heap.size := by have := b4.size; first | omega | (simp at this; omega)
    have Hk4 := c8_lift (B := w.heap.size) (fun j v hv => (But.of_below b4).cell nk (by with_reducible repeat' (first | exact hv | refine zCs ?_ (by omega) _ _ | refine zCa ?_ _ | refine zCn ?_ _ | refine zCd ?_))) k30 k31 k32 k33 k34 k35 k36 k37
    obtain ⟨k40, k41, k42, k43, k44, k45, k46, k47⟩ := Hk4
    have Hkf4 := f8_lift (B := w.heap.size) (fun j hv => (But.of_below b4).frozen nk (by first | omega | (simp; done) | (simp; omega)) (by with_reducible repeat' (first | exact hv | refine zFs ?_ (by omega) _ _ | refine zFa ?_ (by first | omega | (simp; omega)) _ | refine zFn ?_ _ | refine zFd ?_))) kf30 kf31 kf32 kf33 kf34 kf35 kf36 kf37
    obtain ⟨kf40, kf41, kf42, kf43, kf44, kf45, kf46, kf47⟩ := Hkf4
    have za4 : w2.heap.size < w4.heap.size := by have := b4.size; first | omega | (simp at this; omega)
    have a40 : w4.cell? ⟨w2.heap.size, 0, none⟩ = some (.int .i64 t.kind) := (But.of_below b4).cell na (by with_reducible repeat' (first | exact a30 | refine zCs ?_ (by omega) _ _ | refine zCa ?_ _ | refine zCn ?_ _ | refine zCd ?_))
    have a41 : w4.cell? ⟨w2.heap.size, 1, none⟩ = some (.int .i64 t.num) := (But.of_below b4).cell na (by with_reducible repeat' (first | exact a31 | refine zCs ?_ (by omega) _ _ | refine zCa ?_ _ | refine zCn ?_ _ | refine zCd ?_))
    have a42 : w4.cell? ⟨w2.heap.size, 2, none⟩ = some (.int .i64 t.col) := (But.of_below b4).cell na (by with_reducible repeat' (first | exact a32 | refine zCs ?_ (by omega) _ _ | refine zCa ?_ _ | refine zCn ?_ _ | refine zCd ?_))
    have a43 : w4.cell? ⟨w2.heap.size, 3, none⟩ = some (.int .i64 t.row) := (But.of_below b4).cell na (by with_reducible repeat' (first | exact a33 | refine zCs ?_ (by omega) _ _ | refine zCa ?_ _ | refine zCn ?_ _ | refine zCd ?_))
    have a44 : w4.cell? ⟨w2.heap.size, 4, none⟩ = some (.string ⟨t.text.toArray⟩) := (But.of_below b4).cell na (by with_reducible repeat' (first | exact a34 | refine zCs ?_ (by omega) _ _ | refine zCa ?_ _ | refine zCn ?_ _ | refine zCd ?_))
    have a45 : w4.cell? ⟨w2.heap.size, 5, none⟩ = some (.int .i64 (t.frm : Int)) := (But.of_below b4).cell na (by with_reducible repeat' (first | exact a35 | refine zCs ?_ (by omega) _ _ | refine zCa ?_ _ | refine zCn ?_ _ | refine zCd ?_))
    have y4 : w.heap.size < w4.heap.size := zk4
    have HR4 : Hid (RS w4 R A cap L E (.run (p + 2))) := Lib.hid (RS.below (by (with_reducible repeat' (first | exact HR3.out | refine zRf ?_ nk _ _ | refine zRf ?_ na _ _ | refine zRa ?_ _ | refine zRn ?_ _ | refine zRd ?_))) b4)
    clear b4 k30 k31 k32 k33 k34 k35 k36 k37 kf30 kf31 kf32 kf33 kf34 kf35 kf36 kf37 zk3 a30 a31 a32 a33 a34 a35 za3
    have e4 : endS L (.run (p + 2)) = true := H2.out
    have HS4 : Hid (RS (w4.setCell ⟨R, 1, none⟩ (.int .i64 ((p : Int) + 2 + 1))) R A cap L E (.run (p + 3))) := Lib.hid (HR4.out.step hp2 (by omega))
    obtain ⟨_, _, hc⟩ := HR4.out
    have c0 := hc.c0
    have c1 := hc.c1
    have cf1 := hc.f1
    clear hc
    obtain ⟨gb, hA, hgbR, hgbl, t0, t1, t2, t3, t4, t5⟩ := (HT.out.but h4).at HU.out
    rw [hA] at c0
    clear hA
    have zR4 : R < w4.heap.size := by omega
    have nb : w4.heap.size ≠ R := by omega
    go_wp2_with fail
    go_region
    go_wp2_with fail
    clear c0 c1 cf1 t0 t1 t2 t3 t4 t5
    exact bodyPost_ret (v := .agg #[.int .i64 2, .int .i64 0, .int .i64 0, .int .i64 0, .int .i64 0, .int .i64 0, .string ⟨#[]⟩, .slice none 0 0]) (by simp [results, Tryd.results90, go_sem, k40, k41, k42, k43, k44, k45, k46, k47, y4]) rfl ⟨⟨2, 0, 0, 0, 0, 0, ⟨#[]⟩, none, 0, 0⟩, rfl, TV.leaf (t := badT) rfl, by (with_reducible repeat' (first | exact HS4.out | refine zRf ?_ nk _ _ | refine zRf ?_ na _ _ | refine zRf ?_ nb _ _ | refine zRa ?_ _ | refine zRn ?_ _ | refine zRd ?_)), by (with_reducible repeat' (first | exact h4 | refine zBr ?_ _ _ | refine zBs ?_ (by omega) _ _ | refine zBa ?_ _ | refine zBn ?_ _ | refine zBd ?_))⟩
set_option maxHeartbeats 2000000 in
set_option maxRecDepth 10000 in
theorem ritem_span (cb : Bool) (R : Nat) (A : Option Addr) (cap : Nat) (L : List Tok) (E : Nat) (hL : L.length ≤ 1000) (w : World) (p : Nat) (hr : RS w R A cap L E (.run p)) (hk : TK w R A L) (he : isEnd L p = true) (hc : isMark L (p + 1) [58] = true) (t : Tok) (ht : L[p]? = some t) (h2 : isEnd L (p + 2) = true) (u : Tok) (hu : L[p + 2]? = some u) (k3 : (t.kind == 3) = false) (u3 : (u.kind == 3) = false) (r1 : rightB t.col t.row = true) (r2 : rightB u.col u.row = true) : Calls Tryd.prog 90 #[.pointer (some ⟨R, 0, none⟩), .bool cb] w fun e w' => ∃ x : V8, e = .returned x.val ∧ TV w' (fun b => w.heap.size ≤ b) x (some (spanT (min t.col u.col) (min t.row u.row) (max t.col u.col) (max t.row u.row))) ∧ RS w' R A cap L E (.run (p + 3)) ∧ But R w w' := by
  cases cb
  all_goals
    have H2 := Lib.hid h2
    have HU := Lib.hid hu
    have hp2 : p + 2 < L.length := (List.getElem?_eq_some_iff.1 hu).1
    clear h2 hu
    have HR := Lib.hid hr
    have HT := Lib.hid hk
    have hlt : R < w.heap.size := hr.lt
    have nk : w.heap.size ≠ R := by omega
    clear hr hk
    have HE := Lib.hid he
    have HC := Lib.hid hc
    have HX := Lib.hid ht
    have hp : p < L.length := (List.getElem?_eq_some_iff.1 ht).1
    clear he hc ht
    go_enter Tryd.func90, Tryd.ntmps90
    go_wp2_with fail
    refine (rend_any (R := R) (A := A) (cap := cap) (L := L) (E := E) (st := .run p) hL (by (with_reducible repeat' (first | exact HR.out | refine zRf ?_ nk _ _ | refine zRa ?_ _ | refine zRn ?_ _ | refine zRd ?_))) (HT.out.but (by (with_reducible repeat' (first | exact But.refl _ _ | refine zBr ?_ _ _ | refine zBs ?_ (by omega) _ _ | refine zBa ?_ _ | refine zBn ?_ _ | refine zBd ?_))))).mono ?_; rintro e w1 ⟨rfl, b1⟩
    have h1 : But R w w1 := But.trans (by (with_reducible repeat' (first | exact But.refl _ _ | refine zBr ?_ _ _ | refine zBs ?_ (by omega) _ _ | refine zBa ?_ _ | refine zBn ?_ _ | refine zBd ?_))) (But.of_below b1)
    have zk1 : w.heap.size < w1.heap.size := by have := b1.size; first | omega | (simp at this; omega)
    have Hk1 : C8 w1 (w.heap.size) (.int .i64 0) (.int .i64 0) (.int .i64 0) (.int .i64 0) (.int .i64 0) (.int .i64 0) (.string ⟨#[]⟩) (.slice none 0 0) := by refine ⟨?_, ?_, ?_, ?_, ?_, ?_, ?_, ?_⟩ <;> exact (But.of_below b1).cell nk (by simp [go_sem])
    obtain ⟨k10, k11, k12, k13, k14, k15, k16, k17⟩ := Hk1
    have Hkf1 : F8 w1 (w.heap.size) := by refine ⟨?_, ?_, ?_, ?_, ?_, ?_, ?_, ?_⟩ <;> exact (But.of_below b1).frozen nk (by first | omega | (simp; done) | (simp; omega)) (by simp [go_sem])
    obtain ⟨kf10, kf11, kf12, kf13, kf14, kf15, kf16, kf17⟩ := Hkf1
    have y1 : w.heap.size < w1.heap.size := zk1
    have HR1 : Hid (RS w1 R A cap L E (.run p)) := Lib.hid (RS.below (by (with_reducible repeat' (first | exact HR.out | refine zRf ?_ nk _ _ | refine zRa ?_ _ | refine zRn ?_ _ | refine zRd ?_))) b1)
    clear b1
    go_wp2_with fail
    refine (rmark_any (R := R) (A := A) (cap := cap) (L := L) (E := E) (m := 1) (st := .run p) ⟨#[58]⟩ hL (by omega) (by (with_reducible repeat' (first | exact HR1.out | refine zRf ?_ nk _ _ | refine zRa ?_ _ | refine zRn ?_ _ | refine zRd ?_))) (HT.out.but (by (with_reducible repeat' (first | exact h1 | refine zBr ?_ _ _ | refine zBs ?_ (by omega) _ _ | refine zBa ?_ _ | refine zBn ?_ _ | refine zBd ?_))))).mono ?_; rintro e w2 ⟨rfl, b2⟩
    have h2 : But R w w2 := But.trans (by (with_reducible repeat' (first | exact h1 | refine zBr ?_ _ _ | refine zBs ?_ (by omega) _ _ | refine zBa ?_ _ | refine zBn ?_ _ | refine zBd ?_))) (But.of_below b2)
    have zk2 : w.heap.size < w2.heap.size := by have := b2.size; first | omega | (simp at this; omega)
    have Hk2 := c8_lift (B := w.heap.size) (fun j v hv => (But.of_below b2).cell nk (by with_reducible repeat' (first | exact hv | refine zCs ?_ (by omega) _ _ | refine zCa ?_ _ | refine zCn ?_ _ | refine zCd ?_))) k10 k11 k12 k13 k14 k15 k16 k17
    obtain ⟨k20, k21, k22, k23, k24, k25, k26, k27⟩ := Hk2
    have Hkf2 := f8_lift (B := w.heap.size) (fun j hv => (But.of_below b2).frozen nk (by first | omega | (simp; done) | (simp; omega)) (by with_reducible repeat' (first | exact hv | refine zFs ?_ (by omega) _ _ | refine zFa ?_ (by first | omega | (simp; omega)) _ | refine zFn ?_ _ | refine zFd ?_))) kf10 kf11 kf12 kf13 kf14 kf15 kf16 kf17
    obtain ⟨kf20, kf21, kf22, kf23, kf24, kf25, kf26, kf27⟩ := Hkf2
    have y2 : w.heap.size < w2.heap.size := zk2
    have HR2 : Hid (RS w2 R A cap L E (.run p)) := Lib.hid (RS.below (by (with_reducible repeat' (first | exact HR1.out | refine zRf ?_ nk _ _ | refine zRa ?_ _ | refine zRn ?_ _ | refine zRd ?_))) b2)
    clear b2 k10 k11 k12 k13 k14 k15 k16 k17 kf10 kf11 kf12 kf13 kf14 kf15 kf16 kf17 zk1
    have e0 : endS L (.run p) = true := HE.out
    have e1 : markR L 1 [58] (.run p) = true := HC.out
    have HS2 : Hid (RS (w2.setCell ⟨R, 1, none⟩ (.int .i64 ((p : Int) + 1))) R A cap L E (.run (p + 1))) := Lib.hid (HR2.out.step hp (by omega))
    obtain ⟨_, _, hc⟩ := HR2.out
    have c0 := hc.c0
    have c1 := hc.c1
    have cf1 := hc.f1
    clear hc
    obtain ⟨ga, hA, hgaR, hgal, t0, t1, t2, t3, t4, t5⟩ := (HT.out.but h2).at HX.out
    rw [hA] at c0
    clear hA
    have zR2 : R < w2.heap.size := by omega
    have na : w2.heap.size ≠ R := by omega
    go_wp2_with fail
    go_region
    go_wp2_with fail
    clear c0 c1 cf1 t0 t1 t2 t3 t4 t5
    refine (rmust_any (R := R) (A := A) (cap := cap) (L := L) (E := E) (st := .run (p + 1)) ⟨#[58]⟩ hL (by (with_reducible repeat' (first | exact HS2.out | refine zRf ?_ nk _ _ | refine zRf ?_ na _ _ | refine zRa ?_ _ | refine zRn ?_ _ | refine zRd ?_))) (HT.out.but (by (with_reducible repeat' (first | exact h2 | refine zBr ?_ _ _ | refine zBs ?_ (by omega) _ _ | refine zBa ?_ _ | refine zBn ?_ _ | refine zBd ?_))))).mono ?_; rintro e w3 ⟨rfl, r3, b3⟩
    have h3 : But R w w3 := But.trans (by (with_reducible repeat' (first | exact h2 | refine zBr ?_ _ _ | refine zBs ?_ (by omega) _ _ | refine zBa ?_ _ | refine zBn ?_ _ | refine zBd ?_))) b3
    have zk3 : w.heap.size < w3.heap.size := by have := b3.size; first | omega | (simp at this; omega)
    have Hk3 := c8_lift (B := w.heap.size) (fun j v hv => b3.cell nk (by with_reducible repeat' (first | exact hv | refine zCs ?_ (by omega) _ _ | refine zCa ?_ _ | refine zCn ?_ _ | refine zCd ?_))) k20 k21 k22 k23 k24 k25 k26 k27
    obtain ⟨k30, k31, k32, k33, k34, k35, k36, k37⟩ := Hk3
    have Hkf3 := f8_lift (B := w.heap.size) (fun j hv => b3.frozen nk (by first | omega | (simp; done) | (simp; omega)) (by with_reducible repeat' (first | exact hv | refine zFs ?_ (by omega) _ _ | refine zFa ?_ (by first | omega | (simp; omega)) _ | refine zFn ?_ _ | refine zFd ?_))) kf20 kf21 kf22 kf23 kf24 kf25 kf26 kf27
    obtain ⟨kf30, kf31, kf32, kf33, kf34, kf35, kf36, kf37⟩ := Hkf3
    have za3 : w2.heap.size < w3.heap.size := by have := b3.size; first | omega | (simp at this; omega)
    have a30 : w3.cell? ⟨w2.heap.size, 0, none⟩ = some (.int .i64 t.kind) := b3.cell na (by simp [go_sem])
    have a31 : w3.cell? ⟨w2.heap.size, 1, none⟩ = some (.int .i64 t.num) := b3.cell na (by simp [go_sem])
    have a32 : w3.cell? ⟨w2.heap.size, 2, none⟩ = some (.int .i64 t.col) := b3.cell na (by simp [go_sem])
    have a33 : w3.cell? ⟨w2.heap.size, 3, none⟩ = some (.int .i64 t.row) := b3.cell na (by simp [go_sem])
    have a34 : w3.cell? ⟨w2.heap.size, 4, none⟩ = some (.string ⟨t.text.toArray⟩) := b3.cell na (by simp [go_sem])
    have a35 : w3.cell? ⟨w2.heap.size, 5, none⟩ = some (.int .i64 (t.frm : Int)) := b3.cell na (by simp [go_sem])
    have y3 : w.heap.size < w3.heap.size := zk3
    have HR3 : Hid (RS w3 R A cap L E (mustS L E [58] (.run (p + 1)))) := Lib.hid r3
    clear b3 r3 k20 k21 k22 k23 k24 k25 k26 k27 kf20 kf21 kf22 kf23 kf24 kf25 kf26 kf27 zk2
    have y3l : w2.heap.size < w3.heap.size := za3
    have E3 : mustS L E [58] (.run (p + 1)) = .run (p + 2) := if_pos HC.out
    rw [E3] at HR3
    go_wp2_with fail
    refine (rend_any (R := R) (A := A) (cap := cap) (L := L) (E := E) (st := .run (p + 2)) hL (by (with_reducible repeat' (first | exact HR3.out | refine zRf ?_ nk _ _ | refine zRf ?_ na _ _ | refine zRa ?_ _ | refine zRn ?_ _ | refine zRd ?_))) (HT.out.but (by (with_reducible repeat' (first | exact h3 | refine zBr ?_ _ _ | refine zBs ?_ (by omega) _ _ | refine zBa ?_ _ | refine zBn ?_ _ | refine zBd ?_))))).mono ?_; rintro e w4 ⟨rfl, b4⟩
    have h4 : But R w w4 := But.trans (by (with_reducible repeat' (first | exact h3 | refine zBr ?_ _ _ | refine zBs ?_ (by omega) _ _ | refine zBa ?_ _ | refine zBn ?_ _ | refine zBd ?_))) (But.of_below b4)
    have zk4 : w.heap.size < w4.heap.size := by have := b4.size; first | omega | (simp at this; omega)
    have Hk4 := c8_lift (B := w.heap.size) (fun j v hv => (But.of_below b4).cell nk (by with_reducible repeat' (first | exact hv | refine zCs ?_ (by omega) _ _ | refine zCa ?_ _ | refine zCn ?_ _ | refine zCd ?_))) k30 k31 k32 k33 k34 k35 k36 k37
    obtain ⟨k40, k41, k42, k43, k44, k45, k46, k47⟩ := Hk4
    have Hkf4 := f8_lift (B := w.heap.size) (fun j hv => (But.of_below b4).frozen nk (by first | omega | (simp; done) | (simp; omega)) (by with_reducible repeat' (first | exact hv | refine zFs ?_ (by omega) _ _ | refine zFa ?_ (by first | omega | (simp; omega)) _ | refine zFn ?_ _ | refine zFd ?_))) kf30 kf31 kf32 kf33 kf34 kf35 kf36 kf37
    obtain ⟨kf40, kf41, kf42, kf43, kf44, kf45, kf46, kf47⟩ := Hkf4
    have za4 : w2.heap.size < w4.heap.size := by have := b4.size; first | omega | (simp at this; omega)
    have a40 : w4.cell? ⟨w2.heap.size, 0, none⟩ = some (.int .i64 t.kind) := (But.of_below b4).cell na (by with_reducible repeat' (first | exact a30 | refine zCs ?_ (by omega) _ _ | refine zCa ?_ _ | refine zCn ?_ _ | refine zCd ?_))
    have a41 : w4.cell? ⟨w2.heap.size, 1, none⟩ = some (.int .i64 t.num) := (But.of_below b4).cell na (by with_reducible repeat' (first | exact a31 | refine zCs ?_ (by omega) _ _ | refine zCa ?_ _ | refine zCn ?_ _ | refine zCd ?_))
    have a42 : w4.cell? ⟨w2.heap.size, 2, none⟩ = some (.int .i64 t.col) := (But.of_below b4).cell na (by with_reducible repeat' (first | exact a32 | refine zCs ?_ (by omega) _ _ | refine zCa ?_ _ | refine zCn ?_ _ | refine zCd ?_))
    have a43 : w4.cell? ⟨w2.heap.size, 3, none⟩ = some (.int .i64 t.row) := (But.of_below b4).cell na (by with_reducible repeat' (first | exact a33 | refine zCs ?_ (by omega) _ _ | refine zCa ?_ _ | refine zCn ?_ _ | refine zCd ?_))
    have a44 : w4.cell? ⟨w2.heap.size, 4, none⟩ = some (.string ⟨t.text.toArray⟩) := (But.of_below b4).cell na (by with_reducible repeat' (first | exact a34 | refine zCs ?_ (by omega) _ _ | refine zCa ?_ _ | refine zCn ?_ _ | refine zCd ?_))
    have a45 : w4.cell? ⟨w2.heap.size, 5, none⟩ = some (.int .i64 (t.frm : Int)) := (But.of_below b4).cell na (by with_reducible repeat' (first | exact a35 | refine zCs ?_ (by omega) _ _ | refine zCa ?_ _ | refine zCn ?_ _ | refine zCd ?_))
    have y4 : w.heap.size < w4.heap.size := zk4
    have HR4 : Hid (RS w4 R A cap L E (.run (p + 2))) := Lib.hid (RS.below (by (with_reducible repeat' (first | exact HR3.out | refine zRf ?_ nk _ _ | refine zRf ?_ na _ _ | refine zRa ?_ _ | refine zRn ?_ _ | refine zRd ?_))) b4)
    clear b4 k30 k31 k32 k33 k34 k35 k36 k37 kf30 kf31 kf32 kf33 kf34 kf35 kf36 kf37 zk3 a30 a31 a32 a33 a34 a35 za3
    have e4 : endS L (.run (p + 2)) = true := H2.out
    have HS4 : Hid (RS (w4.setCell ⟨R, 1, none⟩ (.int .i64 ((p : Int) + 2 + 1))) R A cap L E (.run (p + 3))) := Lib.hid (HR4.out.step hp2 (by omega))
    obtain ⟨_, _, hc⟩ := HR4.out
    have c0 := hc.c0
    have c1 := hc.c1
    have cf1 := hc.f1
    clear hc
    obtain ⟨gb, hA, hgbR, hgbl, t0, t1, t2, t3, t4, t5⟩ := (HT.out.but h4).at HU.out
    rw [hA] at c0
    clear hA
    have zR4 : R < w4.heap.size := by omega
    have nb : w4.heap.size ≠ R := by omega
    go_wp2_with fail
    go_region
    go_wp2_with fail
    clear c0 c1 cf1 t0 t1 t2 t3 t4 t5
    have hB : spB t.col t.row u.col u.row = true := by unfold spB; rw [r1, r2]; rfl
    have hS := rspan_any t.col t.row u.col u.row
    rw [hB] at hS
    have HSp := Lib.hid hS
    clear hS hB
    refine (HSp.out _).mono ?_; rintro e w5 ⟨rfl, b5⟩
    have h5 : But R w w5 := But.trans (by (with_reducible repeat' (first | exact h4 | refine zBr ?_ _ _ | refine zBs ?_ (by omega) _ _ | refine zBa ?_ _ | refine zBn ?_ _ | refine zBd ?_))) (But.of_below b5)
    have zk5 : w.heap.size < w5.heap.size := by have := b5.size; first | omega | (simp at this; omega)
    have Hk5 := c8_lift (B := w.heap.size) (fun j v hv => (But.of_below b5).cell nk (by with_reducible repeat' (first | exact hv | refine zCs ?_ (by omega) _ _ | refine zCa ?_ _ | refine zCn ?_ _ | refine zCd ?_))) k40 k41 k42 k43 k44 k45 k46 k47
    obtain ⟨k50, k51, k52, k53, k54, k55, k56, k57⟩ := Hk5
    have Hkf5 := f8_lift (B := w.heap.size) (fun j hv => (But.of_below b5).frozen nk (by first | omega | (simp; done) | (simp; omega)) (by with_reducible repeat' (first | exact hv | refine zFs ?_ (by omega) _ _ | refine zFa ?_ (by first | omega | (simp; omega)) _ | refine zFn ?_ _ | refine zFd ?_))) kf40 kf41 kf42 kf43 kf44 kf45 kf46 kf47
    obtain ⟨kf50, kf51, kf52, kf53, kf54, kf55, kf56, kf57⟩ := Hkf5
    have za5 : w2.heap.size < w5.heap.size := by have := b5.size; first | omega | (simp at this; omega)
    have a50 : w5.cell? ⟨w2.heap.size, 0, none⟩ = some (.int .i64 t.kind) := (But.of_below b5).cell na (by with_reducible repeat' (first | exact a40 | refine zCs ?_ (by omega) _ _ | refine zCa ?_ _ | refine zCn ?_ _ | refine zCd ?_))
    have a51 : w5.cell? ⟨w2.heap.size, 1, none⟩ = some (.int .i64 t.num) := (But.of_below b5).cell na (by with_reducible repeat' (first | exact a41 | refine zCs ?_ (by omega) _ _ | refine zCa ?_ _ | refine zCn ?_ _ | refine zCd ?_))
    have a52 : w5.cell? ⟨w2.heap.size, 2, none⟩ = some (.int .i64 t.col) := (But.of_below b5).cell na (by with_reducible repeat' (first | exact a42 | refine zCs ?_ (by omega) _ _ | refine zCa ?_ _ | refine zCn ?_ _ | refine zCd ?_))
    have a53 : w5.cell? ⟨w2.heap.size, 3, none⟩ = some (.int .i64 t.row) := (But.of_below b5).cell na (by with_reducible repeat' (first | exact a43 | refine zCs ?_ (by omega) _ _ | refine zCa ?_ _ | refine zCn ?_ _ | refine zCd ?_))
    have a54 : w5.cell? ⟨w2.heap.size, 4, none⟩ = some (.string ⟨t.text.toArray⟩) := (But.of_below b5).cell na (by with_reducible repeat' (first | exact a44 | refine zCs ?_ (by omega) _ _ | refine zCa ?_ _ | refine zCn ?_ _ | refine zCd ?_))
    have a55 : w5.cell? ⟨w2.heap.size, 5, none⟩ = some (.int .i64 (t.frm : Int)) := (But.of_below b5).cell na (by with_reducible repeat' (first | exact a45 | refine zCs ?_ (by omega) _ _ | refine zCa ?_ _ | refine zCn ?_ _ | refine zCd ?_))
    have zb5 : w4.heap.size < w5.heap.size := by have := b5.size; first | omega | (simp at this; omega)
    have b50 : w5.cell? ⟨w4.heap.size, 0, none⟩ = some (.int .i64 u.kind) := (But.of_below b5).cell nb (by simp [go_sem])
    have b51 : w5.cell? ⟨w4.heap.size, 1, none⟩ = some (.int .i64 u.num) := (But.of_below b5).cell nb (by simp [go_sem])
    have b52 : w5.cell? ⟨w4.heap.size, 2, none⟩ = some (.int .i64 u.col) := (But.of_below b5).cell nb (by simp [go_sem])
    have b53 : w5.cell? ⟨w4.heap.size, 3, none⟩ = some (.int .i64 u.row) := (But.of_below b5).cell nb (by simp [go_sem])
    have b54 : w5.cell? ⟨w4.heap.size, 4, none⟩ = some (.string ⟨u.text.toArray⟩) := (But.of_below b5).cell nb (by simp [go_sem])
    have b55 : w5.cell? ⟨w4.heap.size, 5, none⟩ = some (.int .i64 (u.frm : Int)) := (But.of_below b5).cell nb (by simp [go_sem])
    have y5 : w.heap.size < w5.heap.size := zk5
    have HR5 : Hid (RS w5 R A cap L E (.run (p + 3))) := Lib.hid (RS.below (by (with_reducible repeat' (first | exact HS4.out | refine zRf ?_ nk _ _ | refine zRf ?_ na _ _ | refine zRf ?_ nb _ _ | refine zRa ?_ _ | refine zRn ?_ _ | refine zRd ?_))) b5)
    clear b5 k40 k41 k42 k43 k44 k45 k46 k47 kf40 kf41 kf42 kf43 kf44 kf45 kf46 kf47 zk4 a40 a41 a42 a43 a44 a45 za4
    have q1 : ∀ n : Int, spN true n = n := fun n => rfl
    simp only [q1]
    clear q1
    go_wp2_with fail
    exact bodyPost_ret (v := .agg #[.int .i64 6, .int .i64 0, .int .i64 (min t.col u.col), .int .i64 (min t.row u.row), .int .i64 (max t.col u.col), .int .i64 (max t.row u.row), .string ⟨#[]⟩, .slice none 0 0]) (by simp [results, Tryd.results90, go_sem, k50, k51, k52, k53, k54, k55, k56, k57, y5]) rfl ⟨⟨6, 0, min t.col u.col, min t.row u.row, max t.col u.col, max t.row u.row, ⟨#[]⟩, none, 0, 0⟩, rfl, TV.leaf (t := spanT (min t.col u.col) (min t.row u.row) (max t.col u.col) (max t.row u.row)) rfl, by (with_reducible repeat' (first | exact HR5.out | refine zRf ?_ nk _ _ | refine zRf ?_ na _ _ | refine zRf ?_ nb _ _ | refine zRa ?_ _ | refine zRn ?_ _ | refine zRd ?_)), by (with_reducible repeat' (first | exact h5 | refine zBr ?_ _ _ | refine zBs ?_ (by omega) _ _ | refine zBa ?_ _ | refine zBn ?_ _ | refine zBd ?_))⟩
end Go.Proofs.YthaoalmhhgllmaaDoor
namespace Go.Proofs.YthaoalmhhgllmaaDoor
open Go.RowKit
theorem ritem_tail {R : Nat} {A : Option Addr} {cap : Nat} {L : List Tok} {E : Nat} (hL : L.length ≤ 1000) (hG : GoodL L) (c : Bool) {w : World} {p : Nat} {g : Got} (hr : RS w R A cap L E (.run p)) (hk : TK w R A L)
    (he : isEnd L p = true) (hc : isMark L (p + 1) [58] = true) {t : Tok} (ht : L[p]? = some t) (hg : toS (cornerF L E t (p + 2)) = some g) :
    Calls Tryd.prog 90 #[.pointer (some ⟨R, 0, none⟩), .bool c] w fun e w' => ∃ x : V8, e = .returned x.val ∧ TV w' (fun b => w.heap.size ≤ b) x g.2 ∧ RS w' R A cap L E g.1 ∧ But R w w' := by
  have OFF : isEnd L (p + 2) = false → g = (.out (whr L E (p + 2)), none) → Calls Tryd.prog 90 #[.pointer (some ⟨R, 0, none⟩), .bool c] w fun e w' => ∃ x : V8, e = .returned x.val ∧ TV w' (fun b => w.heap.size ≤ b) x g.2 ∧ RS w' R A cap L E g.1 ∧ But R w w' := by
    rintro h rfl
    cases c
    · exact ritem_off false R A cap L E hL w p hr hk he hc t ht h
    · exact ritem_off true R A cap L E hL w p hr hk he hc t ht h
  unfold cornerF at hg
  cases hu : L[p + 2]? with
  | none =>
    rw [hu] at hg
    exact OFF (end_none hu) (by rw [whr_none hu]; exact (Option.some.inj hg).symm)
  | some u =>
    rw [hu] at hg
    have hg2 : toS (if isEnd L (p + 2) = false then some (.bad u.frm) else if t.kind = 3 ∨ u.kind = 3 then some (.ok badT (p + 2 + 1)) else some (.ok (spanT (min t.col u.col) (min t.row u.row) (max t.col u.col) (max t.row u.row)) (p + 2 + 1))) = some g := hg
    clear hg
    by_cases he2 : isEnd L (p + 2) = false
    · rw [if_pos he2] at hg2
      exact OFF he2 (by rw [whr_some hu]; exact (Option.some.inj hg2).symm)
    · have he3 : isEnd L (p + 2) = true := by simpa using he2
      rw [if_neg he2] at hg2
      by_cases h3 : t.kind = 3
      · rw [if_pos (.inl h3)] at hg2
        obtain rfl : (.run (p + 3), some badT) = g := Option.some.inj hg2
        cases c
        · exact ritem_bada false R A cap L E hL w p hr hk he hc t ht he3 u hu (by rw [beq_iff_eq]; exact h3)
        · exact ritem_bada true R A cap L E hL w p hr hk he hc t ht he3 u hu (by rw [beq_iff_eq]; exact h3)
      · have k3 : (t.kind == 3) = false := by rw [beq_eq_false_iff_ne]; exact h3
        by_cases u3 : u.kind = 3
        · rw [if_pos (.inr u3)] at hg2
          obtain rfl : (.run (p + 3), some badT) = g := Option.some.inj hg2
          cases c
          · exact ritem_badb false R A cap L E hL w p hr hk he hc t ht he3 u hu k3 (by rw [beq_iff_eq]; exact u3)
          · exact ritem_badb true R A cap L E hL w p hr hk he hc t ht he3 u hu k3 (by rw [beq_iff_eq]; exact u3)
        · have l3 : (u.kind == 3) = false := by rw [beq_eq_false_iff_ne]; exact u3
          rw [if_neg (by rintro (h | h); exact h3 h; exact u3 h)] at hg2
          obtain rfl : (.run (p + 3), some (spanT (min t.col u.col) (min t.row u.row) (max t.col u.col) (max t.row u.row))) = g := Option.some.inj hg2
          have r1 : rightB t.col t.row = true := by
            obtain ⟨t', e, h⟩ := end_some he
            rw [ht] at e; obtain rfl := Option.some.inj e
            rcases h with h | h
            · exact (hG p t ht).place h
            · exact absurd h h3
          have r2 : rightB u.col u.row = true := by
            obtain ⟨u', e, h⟩ := end_some he3
            rw [hu] at e; obtain rfl := Option.some.inj e
            rcases h with h | h
            · exact (hG (p + 2) u hu).place h
            · exact absurd h u3
          cases c
          · exact ritem_span false R A cap L E hL w p hr hk he hc t ht he3 u hu k3 l3 r1 r2
          · exact ritem_span true R A cap L E hL w p hr hk he hc t ht he3 u hu k3 l3 r1 r2
theorem ritem_run0 {R : Nat} {A : Option Addr} {cap : Nat} {L : List Tok} {E k : Nat} (hL : L.length ≤ 1000) (hG : GoodL L) (hP : TreeC R A cap L E 30 #[.pointer (some ⟨R, 0, none⟩), .int .i64 1] (lineF L E k 1)) :
    TreeC R A cap L E 90 #[.pointer (some ⟨R, 0, none⟩), .bool false] (itemF L E (k + 1) false) := by
  refine TreeC.of (ritem_out_false hL) fun w p g hr hk hg => ?_
  rw [itemF] at hg
  by_cases h : isEnd L p = false ∨ isMark L (p + 1) [58] = false
  · rw [if_pos ⟨rfl, h⟩] at hg
    exact ritem_line hL hP w p g hr hk h hg
  · rw [if_neg (fun x => h x.2)] at hg
    have he : isEnd L p = true := by
      cases e : isEnd L p with
      | true => rfl
      | false => exact absurd (.inl e) h
    have hc : isMark L (p + 1) [58] = true := by
      cases e : isMark L (p + 1) [58] with
      | true => rfl
      | false => exact absurd (.inr e) h
    obtain ⟨t, ht, _⟩ := end_some he
    rw [ht] at hg
    have hg2 : toS (if isEnd L p = false then some (.bad t.frm) else if isMark L (p + 1) [58] = false ∧ t.kind = 3 then some (.ok badT (p + 1)) else mustF L E (p + 1) [58] (cornerF L E t)) = some g := hg
    rw [if_neg (by rw [he]; decide), if_neg (by rw [hc]; rintro ⟨h, _⟩; cases h)] at hg2
    unfold mustF at hg2
    rw [if_pos hc] at hg2
    exact ritem_tail hL hG false hr hk he hc ht hg2
theorem ritem_run1 {R : Nat} {A : Option Addr} {cap : Nat} {L : List Tok} {E k : Nat} (hL : L.length ≤ 1000) (hG : GoodL L) :
    TreeC R A cap L E 90 #[.pointer (some ⟨R, 0, none⟩), .bool true] (itemF L E (k + 1) true) := by
  refine TreeC.of (ritem_out_true hL) fun w p g hr hk hg => ?_
  rw [itemF, if_neg (fun x => by cases x.1)] at hg
  have NONE : isEnd L p = false → g = (.out (whr L E p), none) → Calls Tryd.prog 90 #[.pointer (some ⟨R, 0, none⟩), .bool true] w fun e w' => ∃ x : V8, e = .returned x.val ∧ TV w' (fun b => w.heap.size ≤ b) x g.2 ∧ RS w' R A cap L E g.1 ∧ But R w w' := by
    rintro h rfl
    cases hc : isMark L (p + 1) [58] with
    | true => exact ritem_none_true R A cap L E hL w p hr hk h hc
    | false => exact ritem_none_false R A cap L E hL w p hr hk h hc
  cases ht : L[p]? with
  | none =>
    rw [ht] at hg
    exact NONE (end_none ht) (by rw [whr_none ht]; exact (Option.some.inj hg).symm)
  | some t =>
    rw [ht] at hg
    have hg2 : toS (if isEnd L p = false then some (.bad t.frm) else if isMark L (p + 1) [58] = false ∧ t.kind = 3 then some (.ok badT (p + 1)) else mustF L E (p + 1) [58] (cornerF L E t)) = some g := hg
    cases he : isEnd L p with
    | false =>
      rw [if_pos he] at hg2
      exact NONE he (by rw [whr_some ht]; exact (Option.some.inj hg2).symm)
    | true =>
      rw [if_neg (by rw [he]; decide)] at hg2
      cases hc : isMark L (p + 1) [58] with
      | false =>
        by_cases h3 : t.kind = 3
        · rw [if_pos ⟨hc, h3⟩] at hg2
          obtain rfl : (.run (p + 1), some badT) = g := Option.some.inj hg2
          exact ritem_bad R A cap L E hL w p hr hk he hc t ht h3
        · rw [if_neg (fun x => h3 x.2)] at hg2
          unfold mustF at hg2
          rw [if_neg (by rw [hc]; decide)] at hg2
          obtain rfl : (.out (whr L E (p + 1)), none) = g := Option.some.inj hg2
          exact ritem_miss R A cap L E hL w p hr hk he hc t ht h3
      | true =>
        rw [if_neg (by rw [hc]; rintro ⟨h, _⟩; cases h)] at hg2
        unfold mustF at hg2
        rw [if_pos hc] at hg2
        exact ritem_tail hL hG true hr hk he hc ht hg2
end Go.Proofs.YthaoalmhhgllmaaDoor
