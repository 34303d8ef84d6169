/- Texts joined: ShL, SyS, WrPa, SyQ, WrPe, WrP, RtA. -/
import Derived.Test.YteflmfifhmlpiaaDoorMa24
import Derived.Test.YteflmfifhmlpiaaDoorMa22
import Derived.Test.YteflmfifhmlpiaaDoorMa15
import Derived.Test.YteflmfifhmlpiaaDoorMa13
import Derived.Test.YteflmfifhmlpiaaDoorMa02
import Derived.Test.YteflmfifhmlpiaaDoorMa08
import Derived.Test.YteflmfifhmlpiaaDoorMa19
import Derived.Test.YteflmfifhmlpiaaDoorMa01
import Derived.Laws.Concat
set_option linter.all false
set_option linter.unusedVariables false
set_option linter.unusedSimpArgs false
namespace Go.Proofs.YteflmfifhmlpiaaDoor
open Go.RowKit

def shB (b : Bool) (x y : Int) (t : Tr) : Tr := if b = true then mvT x y t else .mk 0 0 0 0 0 0 [] []
def erB (b : Bool) : Int := if b = true then 0 else 1
set_option maxHeartbeats 4000000 in
set_option maxRecDepth 100000 in
theorem pShift_any (x y : Int) (hx : B63 x) (hy : B63 y) (t : Tr) (hW : Wid t) (hc : cntT t ≤ 1000000)  (w : World) (A : Option Addr) (ca : Nat) (hA : KV w (fun _ => True) t A) {B : Nat} (hSB : B ≤ w.heap.size) (hSt : Strs B B w) :
    Calls Tryd.prog 7 #[tv t A ca, .agg #[.int .i64 x, .int .i64 y]] w fun e w' => (∃ A' cp, e = .returned (.tuple #[tv (shB (rightP t) x y t) A' cp, .int .i64 (erB (rightP t))]) ∧ KV w' (fun b => w.heap.size ≤ b) (shB (rightP t) x y t) A') ∧ Below w.heap.size w w' := by
  have hlen := hW.len
  unfold maxLen at hlen
  have H1 := Lib.hid (fun w1 (hb : Below w.heap.size w w1) => sright_any t hW w1 (fun _ => True) A ca (hA.kept (Kept.of_below hb)) B (Nat.le_trans hSB hb.size) (hSt.later hSB hb))
  have H2 := Lib.hid (fun w1 (hb : Below w.heap.size w w1) => pmoved_any x y hx hy hW hc w1 (fun _ => True) A ca (hA.kept (Kept.of_below hb)))
  have HE : Hid (rightP t = false → shB (rightP t) x y t = .mk 0 0 0 0 0 0 [] [] ∧ erB (rightP t) = 1) := Lib.hid fun h => by rw [h]; exact ⟨rfl, rfl⟩
  have HT : Hid (rightP t = true → shB (rightP t) x y t = mvT x y t ∧ erB (rightP t) = 0) := Lib.hid fun h => by rw [h]; exact ⟨rfl, rfl⟩
  unfold tv at H1
  generalize shB (rightP t) x y t = S at *
  generalize erB (rightP t) = E at *
  clear hA hW hc hx hy hSB hSt
  show Calls Tryd.prog 7 #[.agg #[.int .i64 t.kind, .int .i64 t.num, .int .i64 t.c1, .int .i64 t.r1, .int .i64 t.c2, .int .i64 t.r2, .string ⟨t.word.toArray⟩, .slice A t.kids.length ca], .agg #[.int .i64 x, .int .i64 y]] w _
  cases hR : rightP t
  all_goals
    rw [hR] at H1
    go_enter Tryd.func7, Tryd.ntmps7
    go_wp2_with fail
    refine (H1.out _ (((((Below.refl _ _).alloc (Nat.le_refl _) _).alloc (by simp) _).alloc (by simp; omega) _))).mono ?_; rintro e w1 ⟨rfl, b1⟩
    have k0 : w1.cell? ⟨w.heap.size, 0, none⟩ = some (.int .i64 t.kind) := keep_cell b1 (by simp [go_sem])
    have k1 : w1.cell? ⟨w.heap.size, 1, none⟩ = some (.int .i64 t.num) := keep_cell b1 (by simp [go_sem])
    have k2 : w1.cell? ⟨w.heap.size, 2, none⟩ = some (.int .i64 t.c1) := keep_cell b1 (by simp [go_sem])
    have k3 : w1.cell? ⟨w.heap.size, 3, none⟩ = some (.int .i64 t.r1) := keep_cell b1 (by simp [go_sem])
    have k4 : w1.cell? ⟨w.heap.size, 4, none⟩ = some (.int .i64 t.c2) := keep_cell b1 (by simp [go_sem])
    have k5 : w1.cell? ⟨w.heap.size, 5, none⟩ = some (.int .i64 t.r2) := keep_cell b1 (by simp [go_sem])
    have k6 : w1.cell? ⟨w.heap.size, 6, none⟩ = some (.string ⟨t.word.toArray⟩) := keep_cell b1 (by simp [go_sem])
    have k7 : w1.cell? ⟨w.heap.size, 7, none⟩ = some (.slice A t.kids.length ca) := keep_cell b1 (by simp [go_sem])
    have p0 : w1.cell? ⟨w.heap.size + 1, 0, none⟩ = some (.int .i64 x) := keep_cell b1 (by simp [go_sem])
    have p1 : w1.cell? ⟨w.heap.size + 1, 1, none⟩ = some (.int .i64 y) := keep_cell b1 (by simp [go_sem])
    have r0 : w1.cell? ⟨w.heap.size + 1 + 1, 0, none⟩ = some (.int .i64 0) := keep_cell b1 (by simp [go_sem])
    have r1 : w1.cell? ⟨w.heap.size + 1 + 1, 1, none⟩ = some (.int .i64 0) := keep_cell b1 (by simp [go_sem])
    have r2 : w1.cell? ⟨w.heap.size + 1 + 1, 2, none⟩ = some (.int .i64 0) := keep_cell b1 (by simp [go_sem])
    have r3 : w1.cell? ⟨w.heap.size + 1 + 1, 3, none⟩ = some (.int .i64 0) := keep_cell b1 (by simp [go_sem])
    have r4 : w1.cell? ⟨w.heap.size + 1 + 1, 4, none⟩ = some (.int .i64 0) := keep_cell b1 (by simp [go_sem])
    have r5 : w1.cell? ⟨w.heap.size + 1 + 1, 5, none⟩ = some (.int .i64 0) := keep_cell b1 (by simp [go_sem])
    have r6 : w1.cell? ⟨w.heap.size + 1 + 1, 6, none⟩ = some (.string ⟨#[]⟩) := keep_cell b1 (by simp [go_sem])
    have r7 : w1.cell? ⟨w.heap.size + 1 + 1, 7, none⟩ = some (.slice none 0 0) := keep_cell b1 (by simp [go_sem])
    have f0 : w1.frozen? ⟨w.heap.size + 1 + 1, 0, none⟩ = false := keep_frozen b1 (by simp) (by simp [go_sem])
    have f1 : w1.frozen? ⟨w.heap.size + 1 + 1, 1, none⟩ = false := keep_frozen b1 (by simp) (by simp [go_sem])
    have f2 : w1.frozen? ⟨w.heap.size + 1 + 1, 2, none⟩ = false := keep_frozen b1 (by simp) (by simp [go_sem])
    have f3 : w1.frozen? ⟨w.heap.size + 1 + 1, 3, none⟩ = false := keep_frozen b1 (by simp) (by simp [go_sem])
    have f4 : w1.frozen? ⟨w.heap.size + 1 + 1, 4, none⟩ = false := keep_frozen b1 (by simp) (by simp [go_sem])
    have f5 : w1.frozen? ⟨w.heap.size + 1 + 1, 5, none⟩ = false := keep_frozen b1 (by simp) (by simp [go_sem])
    have f6 : w1.frozen? ⟨w.heap.size + 1 + 1, 6, none⟩ = false := keep_frozen b1 (by simp) (by simp [go_sem])
    have f7 : w1.frozen? ⟨w.heap.size + 1 + 1, 7, none⟩ = false := keep_frozen b1 (by simp) (by simp [go_sem])
    have h1 : Below w.heap.size w w1 := ((((Below.refl _ _).alloc (Nat.le_refl _) _).alloc (by simp) _).alloc (by simp; omega) _).trans (b1.mono (by simp; omega))
    have z1 : w.heap.size + 1 + 1 < w1.heap.size := by have := b1.size; simp at this; omega
    clear b1
    go_wp2_with fail
  · refine bodyPost_ret (v := .tuple #[.agg #[.int .i64 0, .int .i64 0, .int .i64 0, .int .i64 0, .int .i64 0, .int .i64 0, .string ⟨#[]⟩, .slice none 0 0], .int .i64 1]) (by simp [results, Tryd.results7, go_sem, r0, r1, r2, r3, r4, r5, r6, r7]) rfl ⟨?_, by
      repeat' (first | with_reducible exact h1 | with_reducible refine Below.setCell ?_ (by first | omega | (simp <;> omega)) _)⟩
    rw [(HE.out hR).1, (HE.out hR).2]
    exact ⟨none, 0, rfl, KV.mk (.inl rfl)⟩
  · have hs1 := h1.size
    refine (H2.out w1 h1).mono ?_; rintro e w2 ⟨⟨d0, d1, d2, d3, d4, d5, dw, dA, dl, dc⟩, rfl, v2, b2⟩
    have hv : ∃ A' cp, (.agg #[.int .i64 d0, .int .i64 d1, .int .i64 d2, .int .i64 d3, .int .i64 d4, .int .i64 d5, .string dw, .slice dA dl dc] : Value) = tv (mvT x y t) A' cp ∧ KV w2 (fun b => w1.heap.size ≤ b) (mvT x y t) A' := by
      obtain ⟨A', cp, he, hk⟩ := v2
      refine ⟨A', cp, ?_, hk⟩
      rw [← tv8_val, ← he]
      rfl
    obtain ⟨A', cp, he, hk⟩ := hv
    have HV := Lib.hid (And.intro he hk)
    have n2 := b2.size
    replace r0 := keep_cell b2 r0
    replace f0 := keep_frozen b2 z1 f0
    replace r1 := keep_cell b2 r1
    replace f1 := keep_frozen b2 z1 f1
    replace r2 := keep_cell b2 r2
    replace f2 := keep_frozen b2 z1 f2
    replace r3 := keep_cell b2 r3
    replace f3 := keep_frozen b2 z1 f3
    replace r4 := keep_cell b2 r4
    replace f4 := keep_frozen b2 z1 f4
    replace r5 := keep_cell b2 r5
    replace f5 := keep_frozen b2 z1 f5
    replace r6 := keep_cell b2 r6
    replace f6 := keep_frozen b2 z1 f6
    replace r7 := keep_cell b2 r7
    replace f7 := keep_frozen b2 z1 f7
    have h2 : Below w.heap.size w w2 := h1.trans (b2.mono h1.size)
    have z2 : w.heap.size + 1 + 1 < w2.heap.size := by omega
    clear b2 h1 v2 he hk k0 k1 k2 k3 k4 k5 k6 k7 p0 p1
    dsimp only [V8.val]
    go_wp2_with fail
    refine bodyPost_ret (v := .tuple #[.agg #[.int .i64 d0, .int .i64 d1, .int .i64 d2, .int .i64 d3, .int .i64 d4, .int .i64 d5, .string dw, .slice dA dl dc], .int .i64 0]) (by simp [results, Tryd.results7, go_sem, z2, r0, r1, r2, r3, r4, r5, r6, r7]) rfl ⟨?_, by
      repeat' (first | with_reducible exact h2 | with_reducible refine Below.setCell ?_ (by first | omega | (simp <;> omega)) _)⟩
    rw [(HT.out hR).1, (HT.out hR).2]
    refine ⟨A', cp, by rw [HV.out.1], KV.imp (P := fun b => w1.heap.size ≤ b) (fun b hb => by have hb2 : w1.heap.size ≤ b := hb; omega) (HV.out.2.kept ?_)⟩
    repeat' (first | with_reducible exact Kept.refl _ _ | with_reducible refine Kept.set ?_ (.inl (by show ¬ w1.heap.size ≤ _; omega)) _ _)
set_option maxHeartbeats 4000000 in
set_option maxRecDepth 100000 in
theorem rShift_any (x y : Int) (hx : B63 x) (hy : B63 y) (t : Tr) (hW : Wid t) (hc : cntT t ≤ 1000000) (hd : deepT t ≤ 1000000000) (w : World) (A : Option Addr) (ca : Nat) (hA : KV w (fun _ => True) t A) :
    Calls Tryd.prog 8 #[tv t A ca, .agg #[.int .i64 x, .int .i64 y]] w fun e w' => (∃ A' cp, e = .returned (.tuple #[tv (shB (rightT t) x y t) A' cp, .int .i64 (erB (rightT t))]) ∧ KV w' (fun b => w.heap.size ≤ b) (shB (rightT t) x y t) A') ∧ Below w.heap.size w w' := by
  have hlen := hW.len
  unfold maxLen at hlen
  have H1 := Lib.hid (fun w1 (hb : Below w.heap.size w w1) => rRight_any t hd hW w1 (fun _ => True) A ca (hA.kept (Kept.of_below hb)))
  have H2 := Lib.hid (fun w1 (hb : Below w.heap.size w w1) => rmoved_any x y hW hc w1 (fun _ => True) A ca (hA.kept (Kept.of_below hb)))
  have HE : Hid (rightT t = false → shB (rightT t) x y t = .mk 0 0 0 0 0 0 [] [] ∧ erB (rightT t) = 1) := Lib.hid fun h => by rw [h]; exact ⟨rfl, rfl⟩
  have HT : Hid (rightT t = true → shB (rightT t) x y t = mvT x y t ∧ erB (rightT t) = 0) := Lib.hid fun h => by rw [h]; exact ⟨rfl, rfl⟩
  unfold tv at H1
  generalize shB (rightT t) x y t = S at *
  generalize erB (rightT t) = E at *
  clear hA hW hc hx hy hd
  show Calls Tryd.prog 8 #[.agg #[.int .i64 t.kind, .int .i64 t.num, .int .i64 t.c1, .int .i64 t.r1, .int .i64 t.c2, .int .i64 t.r2, .string ⟨t.word.toArray⟩, .slice A t.kids.length ca], .agg #[.int .i64 x, .int .i64 y]] w _
  cases hR : rightT t
  all_goals
    rw [hR] at H1
    go_enter Tryd.func8, Tryd.ntmps8
    go_wp2_with fail
    refine (H1.out _ (((((Below.refl _ _).alloc (Nat.le_refl _) _).alloc (by simp) _).alloc (by simp; omega) _))).mono ?_; rintro e w1 ⟨rfl, b1⟩
    have k0 : w1.cell? ⟨w.heap.size, 0, none⟩ = some (.int .i64 t.kind) := keep_cell b1 (by simp [go_sem])
    have k1 : w1.cell? ⟨w.heap.size, 1, none⟩ = some (.int .i64 t.num) := keep_cell b1 (by simp [go_sem])
    have k2 : w1.cell? ⟨w.heap.size, 2, none⟩ = some (.int .i64 t.c1) := keep_cell b1 (by simp [go_sem])
    have k3 : w1.cell? ⟨w.heap.size, 3, none⟩ = some (.int .i64 t.r1) := keep_cell b1 (by simp [go_sem])
    have k4 : w1.cell? ⟨w.heap.size, 4, none⟩ = some (.int .i64 t.c2) := keep_cell b1 (by simp [go_sem])
    have k5 : w1.cell? ⟨w.heap.size, 5, none⟩ = some (.int .i64 t.r2) := keep_cell b1 (by simp [go_sem])
    have k6 : w1.cell? ⟨w.heap.size, 6, none⟩ = some (.string ⟨t.word.toArray⟩) := keep_cell b1 (by simp [go_sem])
    have k7 : w1.cell? ⟨w.heap.size, 7, none⟩ = some (.slice A t.kids.length ca) := keep_cell b1 (by simp [go_sem])
    have p0 : w1.cell? ⟨w.heap.size + 1, 0, none⟩ = some (.int .i64 x) := keep_cell b1 (by simp [go_sem])
    have p1 : w1.cell? ⟨w.heap.size + 1, 1, none⟩ = some (.int .i64 y) := keep_cell b1 (by simp [go_sem])
    have r0 : w1.cell? ⟨w.heap.size + 1 + 1, 0, none⟩ = some (.int .i64 0) := keep_cell b1 (by simp [go_sem])
    have r1 : w1.cell? ⟨w.heap.size + 1 + 1, 1, none⟩ = some (.int .i64 0) := keep_cell b1 (by simp [go_sem])
    have r2 : w1.cell? ⟨w.heap.size + 1 + 1, 2, none⟩ = some (.int .i64 0) := keep_cell b1 (by simp [go_sem])
    have r3 : w1.cell? ⟨w.heap.size + 1 + 1, 3, none⟩ = some (.int .i64 0) := keep_cell b1 (by simp [go_sem])
    have r4 : w1.cell? ⟨w.heap.size + 1 + 1, 4, none⟩ = some (.int .i64 0) := keep_cell b1 (by simp [go_sem])
    have r5 : w1.cell? ⟨w.heap.size + 1 + 1, 5, none⟩ = some (.int .i64 0) := keep_cell b1 (by simp [go_sem])
    have r6 : w1.cell? ⟨w.heap.size + 1 + 1, 6, none⟩ = some (.string ⟨#[]⟩) := keep_cell b1 (by simp [go_sem])
    have r7 : w1.cell? ⟨w.heap.size + 1 + 1, 7, none⟩ = some (.slice none 0 0) := keep_cell b1 (by simp [go_sem])
    have f0 : w1.frozen? ⟨w.heap.size + 1 + 1, 0, none⟩ = false := keep_frozen b1 (by simp) (by simp [go_sem])
    have f1 : w1.frozen? ⟨w.heap.size + 1 + 1, 1, none⟩ = false := keep_frozen b1 (by simp) (by simp [go_sem])
    have f2 : w1.frozen? ⟨w.heap.size + 1 + 1, 2, none⟩ = false := keep_frozen b1 (by simp) (by simp [go_sem])
    have f3 : w1.frozen? ⟨w.heap.size + 1 + 1, 3, none⟩ = false := keep_frozen b1 (by simp) (by simp [go_sem])
    have f4 : w1.frozen? ⟨w.heap.size + 1 + 1, 4, none⟩ = false := keep_frozen b1 (by simp) (by simp [go_sem])
    have f5 : w1.frozen? ⟨w.heap.size + 1 + 1, 5, none⟩ = false := keep_frozen b1 (by simp) (by simp [go_sem])
    have f6 : w1.frozen? ⟨w.heap.size + 1 + 1, 6, none⟩ = false := keep_frozen b1 (by simp) (by simp [go_sem])
    have f7 : w1.frozen? ⟨w.heap.size + 1 + 1, 7, none⟩ = false := keep_frozen b1 (by simp) (by simp [go_sem])
    have h1 : Below w.heap.size w w1 := ((((Below.refl _ _).alloc (Nat.le_refl _) _).alloc (by simp) _).alloc (by simp; omega) _).trans (b1.mono (by simp; omega))
    have z1 : w.heap.size + 1 + 1 < w1.heap.size := by have := b1.size; simp at this; omega
    clear b1
    go_wp2_with fail
  · refine bodyPost_ret (v := .tuple #[.agg #[.int .i64 0, .int .i64 0, .int .i64 0, .int .i64 0, .int .i64 0, .int .i64 0, .string ⟨#[]⟩, .slice none 0 0], .int .i64 1]) (by simp [results, Tryd.results8, go_sem, r0, r1, r2, r3, r4, r5, r6, r7]) rfl ⟨?_, by
      repeat' (first | with_reducible exact h1 | with_reducible refine Below.setCell ?_ (by first | omega | (simp <;> omega)) _)⟩
    rw [(HE.out hR).1, (HE.out hR).2]
    exact ⟨none, 0, rfl, KV.mk (.inl rfl)⟩
  · have hs1 := h1.size
    refine (H2.out w1 h1).mono ?_; rintro e w2 ⟨⟨d0, d1, d2, d3, d4, d5, dw, dA, dl, dc⟩, rfl, v2, b2⟩
    have hv : ∃ A' cp, (.agg #[.int .i64 d0, .int .i64 d1, .int .i64 d2, .int .i64 d3, .int .i64 d4, .int .i64 d5, .string dw, .slice dA dl dc] : Value) = tv (mvT x y t) A' cp ∧ KV w2 (fun b => w1.heap.size ≤ b) (mvT x y t) A' := by
      obtain ⟨A', cp, he, hk⟩ := v2
      refine ⟨A', cp, ?_, hk⟩
      rw [← tv8_val, ← he]
      rfl
    obtain ⟨A', cp, he, hk⟩ := hv
    have HV := Lib.hid (And.intro he hk)
    have n2 := b2.size
    replace r0 := keep_cell b2 r0
    replace f0 := keep_frozen b2 z1 f0
    replace r1 := keep_cell b2 r1
    replace f1 := keep_frozen b2 z1 f1
    replace r2 := keep_cell b2 r2
    replace f2 := keep_frozen b2 z1 f2
    replace r3 := keep_cell b2 r3
    replace f3 := keep_frozen b2 z1 f3
    replace r4 := keep_cell b2 r4
    replace f4 := keep_frozen b2 z1 f4
    replace r5 := keep_cell b2 r5
    replace f5 := keep_frozen b2 z1 f5
    replace r6 := keep_cell b2 r6
    replace f6 := keep_frozen b2 z1 f6
    replace r7 := keep_cell b2 r7
    replace f7 := keep_frozen b2 z1 f7
    have h2 : Below w.heap.size w w2 := h1.trans (b2.mono h1.size)
    have z2 : w.heap.size + 1 + 1 < w2.heap.size := by omega
    clear b2 h1 v2 he hk k0 k1 k2 k3 k4 k5 k6 k7 p0 p1
    dsimp only [V8.val]
    go_wp2_with fail
    refine bodyPost_ret (v := .tuple #[.agg #[.int .i64 d0, .int .i64 d1, .int .i64 d2, .int .i64 d3, .int .i64 d4, .int .i64 d5, .string dw, .slice dA dl dc], .int .i64 0]) (by simp [results, Tryd.results8, go_sem, z2, r0, r1, r2, r3, r4, r5, r6, r7]) rfl ⟨?_, by
      repeat' (first | with_reducible exact h2 | with_reducible refine Below.setCell ?_ (by first | omega | (simp <;> omega)) _)⟩
    rw [(HT.out hR).1, (HT.out hR).2]
    refine ⟨A', cp, by rw [HV.out.1], KV.imp (P := fun b => w1.heap.size ≤ b) (fun b hb => by have hb2 : w1.heap.size ≤ b := hb; omega) (HV.out.2.kept ?_)⟩
    repeat' (first | with_reducible exact Kept.refl _ _ | with_reducible refine Kept.set ?_ (.inl (by show ¬ w1.heap.size ≤ _; omega)) _ _)
end Go.Proofs.YteflmfifhmlpiaaDoor
namespace Go.Proofs.YteflmfifhmlpiaaDoor

theorem allB_iff {ks : List Tr} {a b : Bool} : allB ks a b = true ↔ ∀ t ∈ ks, mayB t = true ∧ (a = true ∨ t.kind ≠ 6) ∧ (b = false ∨ t.kind = 6 ∨ t.kind = 2) := by
  refine ⟨all_mem, fun h => ?_⟩
  induction ks with
  | nil => rw [allB]
  | cons u r ih =>
    rw [allB]
    obtain ⟨h1, h2, h3⟩ := h u (by simp)
    simp only [Bool.and_eq_true, Bool.or_eq_true, Bool.not_eq_true', bne_iff_ne, beq_iff_eq]
    exact ⟨⟨h1, h2, by rcases h3 with h3 | h3 | h3; exact .inl (.inl h3); exact .inl (.inr h3); exact .inr h3⟩, ih fun t ht => h t (by simp [ht])⟩
theorem deepL_iff {ks : List Tr} {d : Nat} : deepL ks ≤ d ↔ ∀ u ∈ ks, deepT u ≤ d := by
  induction ks with
  | nil => simp [deepL]
  | cons u r ih =>
    rw [deepL]
    constructor
    · intro h v hv
      rcases List.mem_cons.1 hv with rfl | hv
      · omega
      · exact ih.1 (by omega) v hv
    · intro h
      have h1 := h u (by simp)
      have h2 := ih.2 fun v hv => h v (by simp [hv])
      omega
theorem any_span {ks : List Tr} : ks.any (fun t => t.kind == 6) = false ↔ ∀ t ∈ ks, t.kind ≠ 6 := by
  rw [Bool.eq_false_iff]
  simp [List.any_eq_true]
theorem any_unc {ks : List Tr} : ks.any (fun t => (t.kind != 6) && (t.kind != 2)) = false ↔ ∀ t ∈ ks, t.kind = 6 ∨ t.kind = 2 := by
  rw [Bool.eq_false_iff]
  simp [List.any_eq_true]
  constructor
  · intro h t ht
    by_cases h6 : t.kind = 6
    · exact .inl h6
    · exact .inr (h t ht h6)
  · intro h t ht h6
    exact (h t ht).resolve_left h6
theorem allB_span {ks : List Tr} : allB ks false false = true ↔ ks.any (fun t => t.kind == 6) = false ∧ ∀ u ∈ ks, mayB u = true := by
  rw [allB_iff, any_span]
  constructor
  · intro h
    refine ⟨fun t ht => ?_, fun t ht => (h t ht).1⟩
    rcases (h t ht).2.1 with h1 | h1
    · cases h1
    · exact h1
  · intro h t ht
    exact ⟨h.2 t ht, .inr (h.1 t ht), .inl rfl⟩
theorem allB_free {ks : List Tr} : allB ks true false = true ↔ ∀ u ∈ ks, mayB u = true := by
  rw [allB_iff]
  exact ⟨fun h t ht => (h t ht).1, fun h t ht => ⟨h t ht, .inl rfl, .inl rfl⟩⟩
theorem allB_unc {ks : List Tr} : allB ks true true = true ↔ ks.any (fun t => (t.kind != 6) && (t.kind != 2)) = false ∧ ∀ u ∈ ks, mayB u = true := by
  rw [allB_iff, any_unc]
  constructor
  · intro h
    refine ⟨fun t ht => ?_, fun t ht => (h t ht).1⟩
    rcases (h t ht).2.2 with h1 | h1
    · cases h1
    · exact h1
  · intro h t ht
    exact ⟨h.2 t ht, .inl rfl, .inr (h.1 t ht)⟩
theorem only_bool (k : Int) (hk : k = 3 ∨ k = 4 ∨ k = 5) : ∀ a b b2 b3 b4 e l g : Bool, ((k == 0 || a) && ((k == 1 || k == 6 || (b && b2 && b3 && b4)) && ((k == 4 || k == 5 || e) && l))) =
    (!(((!a) && (k != 0)) || (((!(b && b2 && (b3 && b4))) && ((k != 1) && (k != 6))) || (((!e) && ((k != 4) && (k != 5))) || (g && ((k != 3) && ((k != 4) && (k != 5))))))) && l) := by
  rcases hk with rfl | rfl | rfl <;> decide
theorem only_spare (k n c r d s : Int) (w : List UInt8) (ks : List Tr) (m : Nat) (hk : k = 3 ∨ k = 4 ∨ k = 5) :
    onlyB (.mk k n c r d s w ks) m = (!spareB (.mk k n c r d s w ks) && (ks.length == m)) :=
  only_bool k hk (n == 0) (c == 0) (r == 0) (d == 0) (s == 0) (w == []) (ks.length == m) (decide ((0 : Int) < (ks.length : Int)))
theorem rest_bool : ∀ a b b2 b3 b4 e l k0 k1 k6 : Bool, (((!a) && (!k0)) || (((!(b && b2 && (b3 && b4))) && ((!k1) && (!k6))) || (((!e) && ((!false) && (!false))) || ((!l) && ((!false) && ((!false) && (!false)))))) ) =
    !((k0 || a) && ((k1 || k6 || (b && b2 && b3 && b4)) && (e && l))) := by decide
theorem may_level (t : Tr) : mayB t = true ↔ spareB t = false ∧ soundB t = true ∧ ∀ u ∈ t.kids, mayB u = true := by
  cases t with
  | mk k n c r d s w ks =>
    by_cases h3 : k = 3
    · subst h3
      have hm : mayB (.mk 3 n c r d s w ks) = (onlyB (.mk 3 n c r d s w ks) 1 && allB ks false false) := by rw [mayB]; rfl
      have hs : soundB (.mk 3 n c r d s w ks) = ((ks.length == 1) && !ks.any (fun t => t.kind == 6)) := rfl
      rw [hm, hs, only_spare _ _ _ _ _ _ _ _ _ (.inl rfl)]
      show _ ↔ _ ∧ _ ∧ ∀ u ∈ ks, _
      simp only [Bool.and_eq_true, Bool.not_eq_true', allB_span]
      exact ⟨fun h => ⟨h.1.1, ⟨h.1.2, h.2.1⟩, h.2.2⟩, fun h => ⟨⟨h.1, h.2.1.1⟩, h.2.1.2, h.2.2⟩⟩
    · by_cases h4 : k = 4
      · subst h4
        have hm : mayB (.mk 4 n c r d s w ks) = (onlyB (.mk 4 n c r d s w ks) 2 && (allB ks false false && decide (1 ≤ lvl w))) := by rw [mayB]; rfl
        have hs : soundB (.mk 4 n c r d s w ks) = (decide (0 ≤ (lvl w : Int) - 1) && ((ks.length == 2) && !ks.any (fun t => t.kind == 6))) := rfl
        rw [hm, hs, only_spare _ _ _ _ _ _ _ _ _ (.inr (.inl rfl))]
        show _ ↔ _ ∧ _ ∧ ∀ u ∈ ks, _
        simp only [Bool.and_eq_true, Bool.not_eq_true', allB_span, decide_eq_true_eq]
        exact ⟨fun h => ⟨h.1.1, ⟨by omega, h.1.2, h.2.1.1⟩, h.2.1.2⟩, fun h => ⟨⟨h.1, h.2.1.2.1⟩, ⟨h.2.1.2.2, h.2.2⟩, by have := h.2.1.1; omega⟩⟩
      · by_cases h5 : k = 5
        · subst h5
          have hm : mayB (.mk 5 n c r d s w ks) = (onlyB (.mk 5 n c r d s w ks) ks.length && (allB ks (w != [73, 70]) (w == [67, 79, 85, 78, 84]) && (if w = [73, 70] then ks.length == 3 else if w = [83, 85, 77] ∨ w = [77, 73, 78] ∨ w = [77, 65, 88] ∨ w = [67, 79, 85, 78, 84] then decide (0 < ks.length) else false))) := by rw [mayB]; rfl
          have hs : soundB (.mk 5 n c r d s w ks) = (if w = [73, 70] then ((ks.length == 3) && !ks.any (fun t => t.kind == 6)) else if w = [83, 85, 77] ∨ w = [77, 73, 78] ∨ w = [77, 65, 88] then decide ((0 : Int) < (ks.length : Int)) else if w = [67, 79, 85, 78, 84] then decide ((0 : Int) < (ks.length : Int)) && !ks.any (fun t => (t.kind != 6) && (t.kind != 2)) else false) := rfl
          rw [hm, hs, only_spare _ _ _ _ _ _ _ _ _ (.inr (.inr rfl))]
          show _ ↔ _ ∧ _ ∧ ∀ u ∈ ks, _
          clear hm hs
          have hd : (decide (0 < ks.length) = true) ↔ (decide ((0 : Int) < (ks.length : Int)) = true) := by
            rw [decide_eq_true_eq, decide_eq_true_eq]; omega
          by_cases w1 : w = [73, 70]
          · subst w1
            rw [show (([73, 70] : List UInt8) != [73, 70]) = false from by decide, show (([73, 70] : List UInt8) == [67, 79, 85, 78, 84]) = false from by decide, if_pos rfl, if_pos rfl]
            simp only [Bool.and_eq_true, Bool.not_eq_true', allB_span, beq_self_eq_true, and_true]
            exact ⟨fun h => ⟨h.1, ⟨h.2.2, h.2.1.1⟩, h.2.1.2⟩, fun h => ⟨h.1, ⟨h.2.1.2, h.2.2⟩, h.2.1.1⟩⟩
          · rw [if_neg w1, if_neg w1, show (w != [73, 70]) = true from by simp [w1]]
            by_cases w2 : w = [83, 85, 77] ∨ w = [77, 73, 78] ∨ w = [77, 65, 88]
            · rw [if_pos w2, if_pos (by rcases w2 with h | h | h; exact .inl h; exact .inr (.inl h); exact .inr (.inr (.inl h))), show (w == [67, 79, 85, 78, 84]) = false from by rcases w2 with rfl | rfl | rfl <;> decide]
              simp only [Bool.and_eq_true, Bool.not_eq_true', allB_free, beq_self_eq_true, and_true, hd]
              exact ⟨fun h => ⟨h.1, h.2.2, h.2.1⟩, fun h => ⟨h.1, h.2.2, h.2.1⟩⟩
            · rw [if_neg w2]
              by_cases w3 : w = [67, 79, 85, 78, 84]
              · subst w3
                rw [if_pos (.inr (.inr (.inr rfl))), if_pos rfl, show (([67, 79, 85, 78, 84] : List UInt8) == [67, 79, 85, 78, 84]) = true from by decide]
                simp only [Bool.and_eq_true, Bool.not_eq_true', allB_unc, beq_self_eq_true, and_true, hd]
                exact ⟨fun h => ⟨h.1, ⟨h.2.2, h.2.1.1⟩, h.2.1.2⟩, fun h => ⟨h.1, ⟨h.2.1.2, h.2.2⟩, h.2.1.1⟩⟩
              · rw [if_neg w3, if_neg (by rintro (h | h | h | h); exact w2 (.inl h); exact w2 (.inr (.inl h)); exact w2 (.inr (.inr h)); exact w3 h)]
                simp
        · have hs : ∀ m, onlyB (.mk k n c r d s w ks) m = ((k == 0 || n == 0) && ((k == 1 || k == 6 || (c == 0 && r == 0 && d == 0 && s == 0)) && ((w == []) && ks.length == m))) := by
            intro m
            show ((k == 0 || n == 0) && ((k == 1 || k == 6 || (c == 0 && r == 0 && d == 0 && s == 0)) && ((k == 4 || k == 5 || w == []) && ks.length == m))) = _
            rw [show (k == 4) = false from by simp [h4], show (k == 5) = false from by simp [h5]]
            rfl
          have hs0 : ∀ x : Bool, (x = true → True) := fun _ _ => trivial
          have hsp : spareB (.mk k n c r d s w ks) = !onlyB (.mk k n c r d s w ks) 0 := by
            rw [hs]
            have hl : decide ((0 : Int) < (ks.length : Int)) = !(ks.length == 0) := by
              cases ks <;> simp
            have hu : spareB (.mk k n c r d s w ks) = (((!(n == 0)) && (!(k == 0))) || (((!((c == 0) && (r == 0) && ((d == 0) && (s == 0)))) && ((!(k == 1)) && (!(k == 6)))) || (((!(w == [])) && ((!(k == 4)) && (!(k == 5)))) || ((decide ((0 : Int) < (ks.length : Int))) && ((!(k == 3)) && ((!(k == 4)) && (!(k == 5)))))))) := rfl
            rw [hu, hl, show (k == 3) = false from by simp [h3], show (k == 4) = false from by simp [h4], show (k == 5) = false from by simp [h5]]
            exact rest_bool _ _ _ _ _ _ _ _ _ _
          have hk : onlyB (.mk k n c r d s w ks) 0 = true → ∀ u ∈ ks, mayB u = true := by
            intro h u hu
            rw [hs] at h
            simp only [Bool.and_eq_true, beq_iff_eq, List.length_eq_zero_iff] at h
            rw [h.2.2.2] at hu; cases hu
          rw [hsp, mayB]
          generalize ho : onlyB (.mk k n c r d s w ks) 0 = o at *
          rw [if_neg h3, if_neg h4, if_neg h5]
          have hsd : soundB (.mk k n c r d s w ks) = (if k = 0 then decide (0 ≤ n) else if k = 1 then rightB c r && (c == d && r == s) else if k = 2 then true
  else if k = 3 then exprsB ks 1 else if k = 4 then decide (0 ≤ (lvl w : Int) - 1) && exprsB ks 2 else if k = 5 then calledB w ks
  else if k = 6 then wholeB c r d s else false) := rfl
          rw [hsd, if_neg h3, if_neg h4, if_neg h5]
          show _ ↔ _ ∧ _ ∧ ∀ u ∈ ks, _
          have hw : wholeB c r d s = (rightB c r && rightB d s && decide (c ≤ d) && decide (r ≤ s)) := by
            rw [Bool.eq_iff_iff, wholeB_iff]
            simp only [Bool.and_eq_true, decide_eq_true_eq, rightB_iff]
            omega
          rw [hw]
          cases o with
          | false =>
            have : ∀ p q r s : Prop, ∀ [Decidable p] [Decidable q] [Decidable r] [Decidable s], ∀ x y z : Bool, (if p then false && x else if q then false && y else if r then false else if s then false && z else false) = false := by
              intro p q r s _ _ _ _ x y z
              split
              · rfl
              · split
                · rfl
                · split
                  · rfl
                  · split <;> rfl
            rw [this]
            simp
          | true =>
            simp only [Bool.true_and, Bool.not_true, true_and]
            by_cases h0 : k = 0
            · rw [if_pos h0]
              exact ⟨fun h => ⟨h, hk rfl⟩, fun h => h.1⟩
            · by_cases h1 : k = 1
              · rw [if_neg h0, if_pos h1]
                exact ⟨fun h => ⟨h, hk rfl⟩, fun h => h.1⟩
              · by_cases h2 : k = 2
                · rw [if_neg h0, if_neg h1, if_pos h2]
                  exact ⟨fun h => ⟨h, hk rfl⟩, fun h => h.1⟩
                · rw [if_neg h0, if_neg h1, if_neg h2]
                  by_cases h6 : k = 6
                  · rw [if_pos h6]
                    exact ⟨fun h => ⟨h, hk rfl⟩, fun h => h.1⟩
                  · rw [if_neg h6]
                    exact ⟨fun h => ⟨h, hk rfl⟩, fun h => h.1⟩
theorem fit_may : ∀ (d : Nat) (t : Tr), fitB d t = true ↔ deepT t ≤ d ∧ mayB t = true := by
  intro d
  induction d with
  | zero =>
    intro t
    unfold fitB
    cases t
    rw [deepT]
    simp
  | succ d ih =>
    intro t
    rw [may_level]
    unfold fitB
    simp only [Bool.and_eq_true, Bool.not_eq_true', List.all_eq_true]
    cases t with
    | mk k n c r e s w ks =>
      rw [deepT]
      simp only [Tr.kids]
      have hd : deepL ks + 1 ≤ d + 1 ↔ ∀ u ∈ ks, deepT u ≤ d := by rw [← deepL_iff]; omega
      rw [hd]
      exact ⟨fun h => ⟨fun u hu => ((ih u).1 (h.2.2 u hu)).1, h.1, h.2.1, fun u hu => ((ih u).1 (h.2.2 u hu)).2⟩, fun h => ⟨h.2.1, h.2.2.1, fun u hu => (ih u).2 ⟨h.1 u hu, h.2.2.2 u hu⟩⟩⟩
end Go.Proofs.YteflmfifhmlpiaaDoor
namespace Go.Proofs.YteflmfifhmlpiaaDoor
open Go.RowKit

theorem blk_below {k : Nat} {o : Obj} {w w' : World} (hk : w.heap[k]? = some o) (hb : Below w.heap.size w w') : w'.heap[k]? = some o := by
  rw [hb.block k (Array.getElem?_eq_some_iff.1 hk).1]; exact hk
theorem cells8_of {k : Nat} {v0 v1 v2 v3 v4 v5 v6 v7 : Value} {fz : Nat × Nat} {w : World} (hk : w.heap[k]? = some (.cells #[v0, v1, v2, v3, v4, v5, v6, v7] 29 fz)) :
    w.cell? ⟨k, 0, none⟩ = some v0 ∧ w.cell? ⟨k, 1, none⟩ = some v1 ∧ w.cell? ⟨k, 2, none⟩ = some v2 ∧ w.cell? ⟨k, 3, none⟩ = some v3 ∧ w.cell? ⟨k, 4, none⟩ = some v4 ∧ w.cell? ⟨k, 5, none⟩ = some v5 ∧ w.cell? ⟨k, 6, none⟩ = some v6 ∧ w.cell? ⟨k, 7, none⟩ = some v7 := by
  have c := fun j => Lib.cell_of_heap hk j
  exact ⟨c 0, c 1, c 2, c 3, c 4, c 5, c 6, c 7⟩
end Go.Proofs.YteflmfifhmlpiaaDoor
namespace Go.Proofs.YteflmfifhmlpiaaDoor

def MoM (t : Tr) : Mode → Prop
  | .tree => mayB t = true ∧ t.kind ≠ 6
  | .wi _ => mayB t = true ∧ t.kind ≠ 6
  | .item k => mayB t = true ∧ (k = true → t.kind = 6 ∨ t.kind = 2)
  | .its k => t.kids ≠ [] ∧ allB t.kids true k = true
theorem pr_may {md : Mode} {t : Tr} {s : List UInt8} {ts : List Tok} (h : Pr md t s ts) : MoM t md := by
  induction h with
  | @num n _ => exact ⟨by unfold numT; rw [mayB]; simp [onlyB], by simp [numT, Tr.kind]⟩
  | @read c r h => exact ⟨by unfold readT; rw [mayB]; simp [onlyB, h], by simp [readT, Tr.kind]⟩
  | bad => exact ⟨by unfold badT; rw [mayB]; simp [onlyB], by simp [badT, Tr.kind]⟩
  | @neg a s ts _ ih => exact ⟨by unfold negT; rw [mayB, allB, allB]; simp [onlyB, ih.1, ih.2], by simp [negT, Tr.kind]⟩
  | @op w sa sb a b ta tb hw _ _ iha ihb => exact ⟨by unfold opT; rw [mayB, allB, allB, allB]; simp [onlyB, iha.1, iha.2, ihb.1, ihb.2, hw], by simp [opT, Tr.kind]⟩
  | plain _ _ ih => exact ih
  | brk _ _ _ ih => exact ih
  | @cif a b c sa sb sc ta tb tc _ _ _ iha ihb ihc =>
    have H : allB [a, b, c] false false = true := by rw [allB, allB, allB, allB]; simp [iha.1, iha.2, ihb.1, ihb.2, ihc.1, ihc.2]
    exact ⟨by unfold callT; rw [mayB]; simp [onlyB, H], by simp [callT, Tr.kind]⟩
  | @call w s ks ts hw _ ih =>
    have hne : ks ≠ [] := ih.1
    have ha : allB ks true (w == [67, 79, 85, 78, 84]) = true := ih.2
    have hp : 0 < ks.length := List.length_pos_iff.2 hne
    refine ⟨?_, by simp [callT, Tr.kind]⟩
    unfold callT
    have e1 : (w != [73, 70]) = true := by rcases hw with rfl | rfl | rfl | rfl <;> decide
    have e2 : ¬ w = [73, 70] := by rcases hw with rfl | rfl | rfl | rfl <;> decide
    rw [mayB, e1, ha, if_neg e2, if_pos hw, decide_eq_true hp]
    simp [onlyB]
  | itT _ ih => exact ⟨ih.1, fun h => by cases h⟩
  | itBad => exact ⟨by unfold badT; rw [mayB]; simp [onlyB], fun _ => .inr (by simp [badT, Tr.kind])⟩
  | @itSpan k c r d s h1 h2 h3 h4 => exact ⟨by unfold spanT; rw [mayB]; simp [onlyB, h1, h2, h3, h4], fun _ => .inl (by simp [spanT, Tr.kind])⟩
  | @last k t s ts _ ih =>
    refine ⟨by simp [callT, Tr.kids], ?_⟩
    show allB [t] true k = true
    rw [allB, allB]
    cases k with
    | false => simp [ih.1]
    | true => rcases ih.2 rfl with e | e <;> simp [ih.1, e]
  | @more k t ks s s' ts ts' _ _ ih ih' =>
    have ha : allB ks true k = true := ih'.2
    refine ⟨by simp [callT, Tr.kids], ?_⟩
    show allB (t :: ks) true k = true
    rw [allB]
    cases k with
    | false => simp [ih.1, ha]
    | true => rcases ih.2 rfl with e | e <;> simp [ih.1, e, ha]
end Go.Proofs.YteflmfifhmlpiaaDoor
namespace Go.Proofs.YteflmfifhmlpiaaDoor
open Go.RowKit

theorem place_len (c r : Int) : (placeText c r).length ≤ 100 := by
  unfold placeText
  by_cases h : rightB c r = true
  · rw [if_pos h]
    obtain ⟨_, _, r0, r1⟩ := (rightB_iff c r).1 h
    have := itoa_len (r + 1) (by unfold B64; omega)
    simp; omega
  · rw [if_neg h]; simp
theorem two_of {ks : List Tr} (h : ks.length = 2) : ∃ u v, ks = [u, v] := by
  match ks, h with
  | [u, v], _ => exact ⟨u, v, rfl⟩
theorem one_elem {ks : List Tr} (h : ks.length = 1) : ∃ u, ks = [u] := by
  match ks, h with
  | [u], _ => exact ⟨u, rfl⟩
end Go.Proofs.YteflmfifhmlpiaaDoor
namespace Go.Proofs.YteflmfifhmlpiaaDoor
open Go.RowKit

def txK : List (List UInt8) → List UInt8
  | [] => []
  | s :: r => (44 :: s) ++ txK r
theorem txJ_txK : ∀ (s : List UInt8) (r : List (List UInt8)), txJ (s :: r) = s ++ (txK r ++ [41])
  | s, [] => by simp [txJ, txK]
  | s, t :: r => by
    show s ++ 44 :: txJ (t :: r) = _
    rw [txJ_txK t r]
    simp [txK]
def txH : List (List UInt8) → List UInt8
  | [] => []
  | s :: r => 40 :: (s ++ txK r)
theorem txH_all : ∀ (l : List (List UInt8)), l ≠ [] → txH l ++ [41] = 40 :: txJ l
  | [], h => absurd rfl h
  | s :: r, _ => by rw [txJ_txK]; simp [txH]
theorem txK_snoc : ∀ (l : List (List UInt8)) (s : List UInt8), txK (l ++ [s]) = txK l ++ 44 :: s
  | [], s => by simp [txK]
  | x :: r, s => by simp only [List.cons_append, txK, txK_snoc r s, List.append_assoc]
def mkB (i : Nat) : UInt8 := if i = 0 then 40 else 44
theorem txH_snoc : ∀ (l : List (List UInt8)) (s : List UInt8), txH (l ++ [s]) = txH l ++ mkB l.length :: s
  | [], s => by simp [txH, txK, mkB]
  | x :: r, s => by simp only [List.cons_append, txH, txK_snoc]; simp [mkB]
theorem txL_map : ∀ ks : List Tr, txL ks = ks.map txT
  | [] => by rw [txL_nil]; rfl
  | t :: ts => by rw [txL_cons, txL_map ts]; rfl
theorem txH_take {ks : List Tr} {i : Nat} {u : Tr} (h : ks[i]? = some u) : txH (txL (ks.take (i + 1))) = txH (txL (ks.take i)) ++ mkB i :: txT u := by
  have hl : (ks.take i).length = i := by have := (List.getElem?_eq_some_iff.1 h).1; simp; omega
  rw [List.take_add_one, h]
  show txH (txL (ks.take i ++ [u])) = _
  rw [txL_map, List.map_append, ← txL_map]
  show txH (txL (ks.take i) ++ [txT u]) = _
  rw [txH_snoc, txL_map, List.length_map, hl]
theorem txK_len : ∀ (l m : List (List UInt8)), (txK l).length ≤ (txK (l ++ m)).length
  | [], m => by simp [txK]
  | x :: r, m => by simp only [List.cons_append, txK, List.length_append, List.length_cons]; have := txK_len r m; omega
theorem txH_len : ∀ (l m : List (List UInt8)), (txH l).length ≤ (txH (l ++ m)).length
  | [], m => by simp [txH]
  | x :: r, m => by simp only [List.cons_append, txH, List.length_append, List.length_cons]; have := txK_len r m; omega
theorem txH_take_le (ks : List Tr) (i : Nat) : (txH (txL (ks.take i))).length ≤ (txH (txL ks)).length := by
  have h : ks = ks.take i ++ ks.drop i := (List.take_append_drop i ks).symm
  have h2 : txL ks = txL (ks.take i) ++ txL (ks.drop i) := by rw [txL_map, txL_map, txL_map, ← List.map_append, ← h]
  rw [h2]
  exact txH_len _ _
end Go.Proofs.YteflmfifhmlpiaaDoor
namespace Go.Proofs.YteflmfifhmlpiaaDoor
open Go.RowKit

def TextC (t : Tr) : Prop := (txT t).length ≤ 140737488355328 → ∀ (w : World) (A : Option Addr) (ca : Nat), KV w (fun _ => True) t A →
  Calls Tryd.prog 43 #[.agg #[.int .i64 t.kind, .int .i64 t.num, .int .i64 t.c1, .int .i64 t.r1, .int .i64 t.c2, .int .i64 t.r2, .string ⟨t.word.toArray⟩, .slice A t.kids.length ca]] w fun e w' => e = .returned (.string ⟨(txT t).toArray⟩) ∧ Below w.heap.size w w'
theorem brk_bytes (l : List UInt8) : ((⟨#[40]⟩ : ByteArray) ++ ⟨l.toArray⟩ ++ (⟨#[41]⟩ : ByteArray)) = ⟨(40 :: (l ++ [41])).toArray⟩ := by
  apply ByteArray.ext; simp [ByteArray.data_append]
set_option maxHeartbeats 1000000 in
set_option maxRecDepth 10000 in
theorem rwithin_plain (t : Tr) (hT : TextC t) (hlen : t.kids.length ≤ maxLen) (hl : (txT t).length ≤ 140737488355328) (m : Int) (h4 : (t.kind == 4) = false) (w : World) (A : Option Addr) (ca : Nat) (hA : KV w (fun _ => True) t A) :
    Calls Tryd.prog 65 #[.agg #[.int .i64 t.kind, .int .i64 t.num, .int .i64 t.c1, .int .i64 t.r1, .int .i64 t.c2, .int .i64 t.r2, .string ⟨t.word.toArray⟩, .slice A t.kids.length ca], .int .i64 m] w fun e w' => e = .returned (.string ⟨(txT t).toArray⟩) ∧ Below w.heap.size w w' := by
  have h0 : ∀ ob, Below w.heap.size w (w.alloc ob) := fun ob => (Below.refl _ _).alloc (Nat.le_refl _) ob
  have H := Lib.hid (fun ob => hT hl (w.alloc ob) A ca (hA.kept (Kept.of_below (h0 ob))))
  unfold maxLen at hlen
  have hsz : (⟨(txT t).toArray⟩ : ByteArray).size ≤ 140737488355328 := by simpa [ByteArray.size] using hl
  generalize (⟨(txT t).toArray⟩ : ByteArray) = S at *
  clear hT hA h0 hl
  go_enter Tryd.func65, Tryd.ntmps65
  go_wp2_with fail
  refine (H.out _).mono ?_; rintro e w1 ⟨rfl, b1⟩
  have k10 := keep_fresh b1 0 (v := .int .i64 t.kind) rfl
  have k16 := keep_fresh b1 6 (v := .string ⟨t.word.toArray⟩) rfl
  have h1 : Below w.heap.size w w1 := ((Below.refl _ _).alloc (Nat.le_refl _) _).trans (b1.mono (by simp))
  clear b1
  go_wp2_with fail
  go_ret
  exact ⟨rfl, h1⟩
set_option maxHeartbeats 1000000 in
set_option maxRecDepth 10000 in
theorem rwithin_op (t : Tr) (hT : TextC t) (hlen : t.kids.length ≤ maxLen) (hl : (txT t).length ≤ 140737488355328) (m : Int) (h4 : (t.kind == 4) = true) (b : Bool) (hb : decide ((lvl t.word : Int) < m) = b) (w : World) (A : Option Addr) (ca : Nat) (hA : KV w (fun _ => True) t A) :
    Calls Tryd.prog 65 #[.agg #[.int .i64 t.kind, .int .i64 t.num, .int .i64 t.c1, .int .i64 t.r1, .int .i64 t.c2, .int .i64 t.r2, .string ⟨t.word.toArray⟩, .slice A t.kids.length ca], .int .i64 m] w fun e w' => e = .returned (.string (if b = true then (⟨#[40]⟩ : ByteArray) ++ ⟨(txT t).toArray⟩ ++ (⟨#[41]⟩ : ByteArray) else ⟨(txT t).toArray⟩)) ∧ Below w.heap.size w w' := by
  have h0 : ∀ ob, Below w.heap.size w (w.alloc ob) := fun ob => (Below.refl _ _).alloc (Nat.le_refl _) ob
  have H := Lib.hid (fun ob => hT hl (w.alloc ob) A ca (hA.kept (Kept.of_below (h0 ob))))
  have HL := Lib.hid (fun w => rLevel_any ⟨t.word.toArray⟩ w)
  have hw : (⟨t.word.toArray⟩ : ByteArray).data.toList = t.word := by simp
  rw [hw] at HL
  have hlv := lvl_le t.word
  unfold maxLen at hlen
  have hsz : (⟨(txT t).toArray⟩ : ByteArray).size ≤ 140737488355328 := by simpa [ByteArray.size] using hl
  generalize (⟨(txT t).toArray⟩ : ByteArray) = S at *
  clear hT hA h0 hl
  cases b with
  | true =>
    go_enter Tryd.func65, Tryd.ntmps65
    go_wp2_with fail
    refine (H.out _).mono ?_; rintro e w1 ⟨rfl, b1⟩
    have k10 := keep_fresh b1 0 (v := .int .i64 t.kind) rfl
    have k16 := keep_fresh b1 6 (v := .string ⟨t.word.toArray⟩) rfl
    have h1 : Below w.heap.size w w1 := ((Below.refl _ _).alloc (Nat.le_refl _) _).trans (b1.mono (by simp))
    clear b1
    go_wp2_with fail
    refine Calls.mono (HL.out _) ?_; rintro e w2 ⟨rfl, rfl⟩
    have h2 := h1
    clear h1
    go_wp2_with fail
    go_ret
    exact ⟨rfl, h2⟩
  | false =>
    go_enter Tryd.func65, Tryd.ntmps65
    go_wp2_with fail
    refine (H.out _).mono ?_; rintro e w1 ⟨rfl, b1⟩
    have k10 := keep_fresh b1 0 (v := .int .i64 t.kind) rfl
    have k16 := keep_fresh b1 6 (v := .string ⟨t.word.toArray⟩) rfl
    have h1 : Below w.heap.size w w1 := ((Below.refl _ _).alloc (Nat.le_refl _) _).trans (b1.mono (by simp))
    clear b1
    go_wp2_with fail
    refine Calls.mono (HL.out _) ?_; rintro e w2 ⟨rfl, rfl⟩
    have h2 := h1
    clear h1
    go_wp2_with fail
    go_ret
    exact ⟨rfl, h2⟩
theorem rwithin_any (t : Tr) (hT : TextC t) (hlen : t.kids.length ≤ maxLen) (hl : (txT t).length ≤ 140737488355328) (m : Nat) (w : World) (A : Option Addr) (ca : Nat) (hA : KV w (fun _ => True) t A) :
    Calls Tryd.prog 65 #[.agg #[.int .i64 t.kind, .int .i64 t.num, .int .i64 t.c1, .int .i64 t.r1, .int .i64 t.c2, .int .i64 t.r2, .string ⟨t.word.toArray⟩, .slice A t.kids.length ca], .int .i64 (m : Int)] w fun e w' => e = .returned (.string ⟨(txW m t (txT t)).toArray⟩) ∧ Below w.heap.size w w' := by
  unfold txW
  cases h4 : (t.kind == 4) with
  | false =>
    rw [if_neg (fun h => by rw [h.1] at h4; cases h4)]
    exact rwithin_plain t hT hlen hl m h4 w A ca hA
  | true =>
    have e4 : t.kind = 4 := by simpa using h4
    have h := rwithin_op t hT hlen hl m h4 _ rfl w A ca hA
    by_cases hm : lvl t.word < m
    · rw [if_pos ⟨e4, hm⟩]
      rw [decide_eq_true (show (lvl t.word : Int) < (m : Int) by omega), if_pos rfl, brk_bytes] at h
      exact h
    · rw [if_neg (fun h => hm h.2)]
      rw [decide_eq_false (show ¬ (lvl t.word : Int) < (m : Int) by omega), if_neg (by decide)] at h
      exact h
end Go.Proofs.YteflmfifhmlpiaaDoor
