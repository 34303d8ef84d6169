/- place's own Meet: what two ranges have together. -/
import Derived.Test.YtmophlfpoehopaaDoorPlD
import Derived.Test.YtmophlfpoehopaaDoorRefJ
import Derived.Deep.RegionHeld3
import Derived.Deep.CutRange
namespace Go.Proofs.YtmophlfpoehopaaDoor
open Go.RowKit

/-- the eight numbers of two ranges, where Meet holds them -/
def Two (w : World) (B : Nat) (a b c d e f g h : Int) : Prop :=
  (w.cell? ⟨B, 0, none⟩ = some (.int .i64 a) ∧ w.cell? ⟨B, 1, none⟩ = some (.int .i64 b) ∧ w.cell? ⟨B, 2, none⟩ = some (.int .i64 c) ∧ w.cell? ⟨B, 3, none⟩ = some (.int .i64 d)) ∧
  (w.cell? ⟨B + 1, 0, none⟩ = some (.int .i64 e) ∧ w.cell? ⟨B + 1, 1, none⟩ = some (.int .i64 f) ∧ w.cell? ⟨B + 1, 2, none⟩ = some (.int .i64 g) ∧ w.cell? ⟨B + 1, 3, none⟩ = some (.int .i64 h))
theorem Two.keep {W w1 : World} {B : Nat} {a b c d e f g h : Int} (hb : Below W.heap.size W w1) (t : Two W B a b c d e f g h) : Two w1 B a b c d e f g h :=
  ⟨⟨keep_cell hb t.1.1, keep_cell hb t.1.2.1, keep_cell hb t.1.2.2.1, keep_cell hb t.1.2.2.2⟩, ⟨keep_cell hb t.2.1, keep_cell hb t.2.2.1, keep_cell hb t.2.2.2.1, keep_cell hb t.2.2.2.2⟩⟩
/-- a place in memory for a range's result -/
def Res (w : World) (B : Nat) : Prop :=
  (w.cell? ⟨B, 0, none⟩ = some (.int .i64 0) ∧ w.cell? ⟨B, 1, none⟩ = some (.int .i64 0) ∧ w.cell? ⟨B, 2, none⟩ = some (.int .i64 0) ∧ w.cell? ⟨B, 3, none⟩ = some (.int .i64 0)) ∧
  (w.frozen? ⟨B, 0, none⟩ = false ∧ w.frozen? ⟨B, 1, none⟩ = false ∧ w.frozen? ⟨B, 2, none⟩ = false ∧ w.frozen? ⟨B, 3, none⟩ = false) ∧ B < w.heap.size
theorem Res.keep {W w1 : World} {B : Nat} (hb : Below W.heap.size W w1) (t : Res W B) : Res w1 B :=
  ⟨⟨keep_cell hb t.1.1, keep_cell hb t.1.2.1, keep_cell hb t.1.2.2.1, keep_cell hb t.1.2.2.2⟩, ⟨keep_frozen hb t.2.2 t.2.1.1, keep_frozen hb t.2.2 t.2.1.2.1, keep_frozen hb t.2.2 t.2.1.2.2.1, keep_frozen hb t.2.2 t.2.1.2.2.2⟩, Nat.lt_of_lt_of_le t.2.2 hb.size⟩

theorem fresh_frozen {W w1 : World} {cs : Array Value} {T : TypeId} (hb : Below (W.alloc (.cells cs T)).heap.size (W.alloc (.cells cs T)) w1) (i : Nat) : w1.frozen? ⟨W.heap.size, i, none⟩ = false :=
  keep_frozen hb (by simp) (by simp [go_sem])
theorem below_up {W0 W w1 : World} (B : Below W0.heap.size W0 W) (b : Below W.heap.size W w1) : Below W0.heap.size W0 w1 := B.trans (b.mono B.size)
theorem below_alloc {W0 W w1 : World} {o : Obj} (B : Below W0.heap.size W0 W) (b : Below (W.alloc o).heap.size (W.alloc o) w1) : Below W0.heap.size W0 w1 :=
  (B.alloc B.size o).trans (b.mono (by have := B.size; simp; omega))
/-- Meet's own range, laid down -/
def Own (w0 wx : World) (v : Value) (X0 X1 X2 X3 : Int) : Prop :=
  ∃ p : Nat, v = .pointer (some ⟨p, 0, none⟩) ∧ (wx.cell? ⟨p, 0, none⟩ = some (.int .i64 X0) ∧ wx.cell? ⟨p, 1, none⟩ = some (.int .i64 X1) ∧ wx.cell? ⟨p, 2, none⟩ = some (.int .i64 X2) ∧ wx.cell? ⟨p, 3, none⟩ = some (.int .i64 X3)) ∧ Below w0.heap.size w0 wx

set_option maxHeartbeats 2000000 in
theorem pmeet_core (a b c d e f g h : Int) (w : World) (X0 X1 X2 X3 : Int) (W1 W2 W3 : Bool) (hx0 : max a e = X0) (hx1 : max b f = X1) (hx2 : min c g = X2) (hx3 : min d h = X3)
    (h1 : wholeB a b c d = W1) (h2 : wholeB e f g h = W2) (h3 : wholeB X0 X1 X2 X3 = W3) :
    Calls Tryd.prog 23 #[.agg #[.int .i64 a, .int .i64 b, .int .i64 c, .int .i64 d], .agg #[.int .i64 e, .int .i64 f, .int .i64 g, .int .i64 h]] w fun en w' =>
      en = .returned (.tuple #[.agg #[.int .i64 (spN (W1 && W2 && W3) X0), .int .i64 (spN (W1 && W2 && W3) X1), .int .i64 (spN (W1 && W2 && W3) X2), .int .i64 (spN (W1 && W2 && W3) X3)], .bool (W1 && W2 && W3)]) ∧ Below w.heap.size w w' := by
  have HU := Lib.hid (pupper_any a b e f)
  have HL := Lib.hid (plower_any c d g h)
  have HA := Lib.hid (pwhole_any a b c d)
  have HB := Lib.hid (pwhole_any e f g h)
  have HC := Lib.hid (pwhole_any X0 X1 X2 X3)
  rw [hx0, hx1] at HU
  rw [hx2, hx3] at HL
  rw [h1] at HA
  rw [h2] at HB
  rw [h3] at HC
  clear hx0 hx1 hx2 hx3 h1 h2 h3
  go_enter Tryd.func23, Tryd.ntmps23
  go_wp2_with fail
  have T0 : Two (((w.alloc (.cells #[.int .i64 a, .int .i64 b, .int .i64 c, .int .i64 d] 37)).alloc (.cells #[.int .i64 e, .int .i64 f, .int .i64 g, .int .i64 h] 37)).alloc (.cells #[.int .i64 0, .int .i64 0, .int .i64 0, .int .i64 0] 37)) w.heap.size a b c d e f g h := by
    refine ⟨⟨?_, ?_, ?_, ?_⟩, ⟨?_, ?_, ?_, ?_⟩⟩ <;> simp [go_sem]
  have R0 : Res (((w.alloc (.cells #[.int .i64 a, .int .i64 b, .int .i64 c, .int .i64 d] 37)).alloc (.cells #[.int .i64 e, .int .i64 f, .int .i64 g, .int .i64 h] 37)).alloc (.cells #[.int .i64 0, .int .i64 0, .int .i64 0, .int .i64 0] 37)) (w.heap.size + 1 + 1) := by
    refine ⟨⟨?_, ?_, ?_, ?_⟩, ⟨?_, ?_, ?_, ?_⟩, ?_⟩ <;> simp [go_sem]
  have H0 := ((((Below.refl w.heap.size w).alloc (Nat.le_refl _) (.cells #[.int .i64 a, .int .i64 b, .int .i64 c, .int .i64 d] 37)).alloc (by simp) (.cells #[.int .i64 e, .int .i64 f, .int .i64 g, .int .i64 h] 37)).alloc (by simp; omega) (.cells #[.int .i64 0, .int .i64 0, .int .i64 0, .int .i64 0] 37))
  generalize ((w.alloc (.cells #[.int .i64 a, .int .i64 b, .int .i64 c, .int .i64 d] 37)).alloc (.cells #[.int .i64 e, .int .i64 f, .int .i64 g, .int .i64 h] 37)).alloc (.cells #[.int .i64 0, .int .i64 0, .int .i64 0, .int .i64 0] 37) = w0 at *
  go_cut [6] from 7 to 17 (fun v wx => Own w0 wx v X0 X1 X2 X3)
  case first =>
    obtain ⟨⟨k0, k1, k2, k3⟩, ⟨k4, k5, k6, k7⟩⟩ := T0
    have R0z := R0.2.2
    have R0d := Lib.hid R0
    clear R0
    have z0 : w0.heap.size ≠ w.heap.size := by omega
    have z1 : w0.heap.size ≠ w.heap.size + 1 := by omega
    go_region_held3 (fun w' => w'.cell? ⟨w.heap.size, 0, none⟩ = some (.int .i64 a) ∧ w'.cell? ⟨w.heap.size, 1, none⟩ = some (.int .i64 b) ∧ w'.cell? ⟨w.heap.size, 2, none⟩ = some (.int .i64 c) ∧ w'.cell? ⟨w.heap.size, 3, none⟩ = some (.int .i64 d) ∧ w'.cell? ⟨w.heap.size + 1, 0, none⟩ = some (.int .i64 e) ∧ w'.cell? ⟨w.heap.size + 1, 1, none⟩ = some (.int .i64 f) ∧ w'.cell? ⟨w.heap.size + 1, 2, none⟩ = some (.int .i64 g) ∧ w'.cell? ⟨w.heap.size + 1, 3, none⟩ = some (.int .i64 h))
      (first | (simp only [World.cell?_drew]; with_reducible exact ⟨k0, k1, k2, k3, k4, k5, k6, k7⟩) | with_reducible exact ⟨m0, m1, m2, m3, m4, m5, m6, m7⟩ | with_reducible exact ⟨n0, n1, n2, n3, n4, n5, n6, n7⟩ | go_keep)
      (first
      | (go_at_call 40; refine (HU.out _).mono ?_; rintro en w1 ⟨rfl, b1⟩
         have B1 : Below w0.heap.size w0 w1 := by first | exact below_up (Below.refl _ w0).drew b1 | exact below_alloc (Below.refl _ w0).drew b1
         have m0 := keep_cell B1 k0
         have m1 := keep_cell B1 k1
         have m2 := keep_cell B1 k2
         have m3 := keep_cell B1 k3
         have m4 := keep_cell B1 k4
         have m5 := keep_cell B1 k5
         have m6 := keep_cell B1 k6
         have m7 := keep_cell B1 k7
         have z2 : w1.heap.size ≠ w.heap.size := by have := B1.size; omega
         have z3 : w1.heap.size ≠ w.heap.size + 1 := by have := B1.size; omega
         try (have p0 : w1.cell? ⟨w0.heap.size, 0, none⟩ = some (.int .i64 0) := keep_fresh (W := w0.drew) b1 0 (v := .int .i64 0) rfl
              have p1 : w1.cell? ⟨w0.heap.size, 1, none⟩ = some (.int .i64 0) := keep_fresh (W := w0.drew) b1 1 (v := .int .i64 0) rfl
              have p2 : w1.cell? ⟨w0.heap.size, 2, none⟩ = some (.int .i64 0) := keep_fresh (W := w0.drew) b1 2 (v := .int .i64 0) rfl
              have p3 : w1.cell? ⟨w0.heap.size, 3, none⟩ = some (.int .i64 0) := keep_fresh (W := w0.drew) b1 3 (v := .int .i64 0) rfl
              have f0 : w1.frozen? ⟨w0.heap.size, 0, none⟩ = false := fresh_frozen (W := w0.drew) b1 0
              have f1 : w1.frozen? ⟨w0.heap.size, 1, none⟩ = false := fresh_frozen (W := w0.drew) b1 1
              have f2 : w1.frozen? ⟨w0.heap.size, 2, none⟩ = false := fresh_frozen (W := w0.drew) b1 2
              have f3 : w1.frozen? ⟨w0.heap.size, 3, none⟩ = false := fresh_frozen (W := w0.drew) b1 3
              have zz : w0.heap.size < w1.heap.size := by have := b1.size; simp at this; omega))
      | (go_at_call 39; refine (HL.out _).mono ?_; rintro en w2 ⟨rfl, b2⟩
         have B2 : Below w0.heap.size w0 w2 := by first | exact below_up B1 b2 | exact below_alloc B1 b2
         have n0 := keep_cell B2 k0
         have n1 := keep_cell B2 k1
         have n2 := keep_cell B2 k2
         have n3 := keep_cell B2 k3
         have n4 := keep_cell B2 k4
         have n5 := keep_cell B2 k5
         have n6 := keep_cell B2 k6
         have n7 := keep_cell B2 k7
         have z4 : w2.heap.size ≠ w.heap.size := by have := B2.size; omega
         have z5 : w2.heap.size ≠ w.heap.size + 1 := by have := B2.size; omega
         try (have q0 := keep_cell b2 p0
              have q1 := keep_cell b2 p1
              have q2 := keep_cell b2 p2
              have q3 := keep_cell b2 p3
              have g0 := keep_frozen b2 zz f0
              have g1 := keep_frozen b2 zz f1
              have g2 := keep_frozen b2 zz f2
              have g3 := keep_frozen b2 zz f3)
         try (have q0 := keep_fresh (W := w1) b2 0 (v := .int .i64 0) rfl
              have q1 := keep_fresh (W := w1) b2 1 (v := .int .i64 0) rfl
              have q2 := keep_fresh (W := w1) b2 2 (v := .int .i64 0) rfl
              have q3 := keep_fresh (W := w1) b2 3 (v := .int .i64 0) rfl
              have g0 := fresh_frozen (W := w1) b2 0
              have g1 := fresh_frozen (W := w1) b2 1
              have g2 := fresh_frozen (W := w1) b2 2
              have g3 := fresh_frozen (W := w1) b2 3)))
    all_goals
      go_wp2
      go_meet
    · exact ⟨_, rfl, ⟨by simp [go_sem], by simp [go_sem], by simp [go_sem], by simp [go_sem]⟩, B2.alloc B2.size _⟩
    · exact ⟨_, rfl, ⟨by simp [go_sem, q0], by simp [go_sem, q1], by simp [go_sem, q2], by simp [go_sem, q3]⟩,
        (((B2.setCell B1.size _).setCell B1.size _).setCell B1.size _).setCell B1.size _⟩
    · exact ⟨_, rfl, ⟨by simp [go_sem, q0], by simp [go_sem, q1], by simp [go_sem, q2], by simp [go_sem, q3]⟩,
        (((B2.setCell (Nat.le_refl _) _).setCell (Nat.le_refl _) _).setCell (Nat.le_refl _) _).setCell (Nat.le_refl _) _⟩
  case rest =>
    obtain ⟨p, rfl, ⟨c0, c1, c2, c3⟩, BB⟩ := hcut
    have T1 := T0.keep BB
    have R1 := R0.keep BB
    have H1 := H0.trans (BB.mono H0.size)
    clear T0 R0 H0
    obtain ⟨⟨k0, k1, k2, k3⟩, ⟨k4, k5, k6, k7⟩⟩ := T1
    cases W1 with
    | false =>
      go_wp2_with fail
      refine (HA.out _).mono ?_; rintro en w3 ⟨rfl, b3⟩
      have R3 := R1.keep b3
      have H3 := H1.trans (b3.mono H1.size)
      obtain ⟨⟨r0, r1, r2, r3⟩, ⟨f0, f1, f2, f3⟩, rz⟩ := R3
      clear R1 H1 k0 k1 k2 k3 k4 k5 k6 k7 b3
      go_wp2_with fail
      exact bodyPost_ret (v := .tuple #[.agg #[.int .i64 0, .int .i64 0, .int .i64 0, .int .i64 0], .bool false]) (by simp [results, Tryd.results23, go_sem, r0, r1, r2, r3]) rfl
        ⟨rfl, (((H3.setCell (by simp; omega) _).setCell (by simp; omega) _).setCell (by simp; omega) _).setCell (by simp; omega) _⟩
    | true =>
      go_wp2_with fail
      refine (HA.out _).mono ?_; rintro en w3 ⟨rfl, b3⟩
      have R3 := R1.keep b3
      have H3 := H1.trans (b3.mono H1.size)
      have m4 := keep_cell b3 k4
      have m5 := keep_cell b3 k5
      have m6 := keep_cell b3 k6
      have m7 := keep_cell b3 k7
      have d0 := keep_cell b3 c0
      have d1 := keep_cell b3 c1
      have d2 := keep_cell b3 c2
      have d3 := keep_cell b3 c3
      clear R1 H1 k0 k1 k2 k3 k4 k5 k6 k7 c0 c1 c2 c3 b3
      cases W2 with
      | false =>
        go_wp2_with fail
        refine (HB.out _).mono ?_; rintro en w4 ⟨rfl, b4⟩
        have R4 := R3.keep b4
        have H4 := H3.trans (b4.mono H3.size)
        obtain ⟨⟨r0, r1, r2, r3⟩, ⟨f0, f1, f2, f3⟩, rz⟩ := R4
        clear R3 H3 m4 m5 m6 m7 d0 d1 d2 d3 b4
        go_wp2_with fail
        exact bodyPost_ret (v := .tuple #[.agg #[.int .i64 0, .int .i64 0, .int .i64 0, .int .i64 0], .bool false]) (by simp [results, Tryd.results23, go_sem, r0, r1, r2, r3]) rfl
          ⟨rfl, (((H4.setCell (by simp; omega) _).setCell (by simp; omega) _).setCell (by simp; omega) _).setCell (by simp; omega) _⟩
      | true =>
        go_wp2_with fail
        refine (HB.out _).mono ?_; rintro en w4 ⟨rfl, b4⟩
        have R4 := R3.keep b4
        have H4 := H3.trans (b4.mono H3.size)
        have e0 := keep_cell b4 d0
        have e1 := keep_cell b4 d1
        have e2 := keep_cell b4 d2
        have e3 := keep_cell b4 d3
        clear R3 H3 m4 m5 m6 m7 d0 d1 d2 d3 b4
        cases W3 with
        | false =>
          go_wp2_with fail
          refine (HC.out _).mono ?_; rintro en w5 ⟨rfl, b5⟩
          have R5 := R4.keep b5
          have H5 := H4.trans (b5.mono H4.size)
          obtain ⟨⟨r0, r1, r2, r3⟩, ⟨f0, f1, f2, f3⟩, rz⟩ := R5
          clear R4 H4 e0 e1 e2 e3 b5
          go_wp2_with fail
          exact bodyPost_ret (v := .tuple #[.agg #[.int .i64 0, .int .i64 0, .int .i64 0, .int .i64 0], .bool false]) (by simp [results, Tryd.results23, go_sem, r0, r1, r2, r3]) rfl
            ⟨rfl, (((H5.setCell (by simp; omega) _).setCell (by simp; omega) _).setCell (by simp; omega) _).setCell (by simp; omega) _⟩
        | true =>
          go_wp2_with fail
          refine (HC.out _).mono ?_; rintro en w5 ⟨rfl, b5⟩
          have R5 := R4.keep b5
          have H5 := H4.trans (b5.mono H4.size)
          have d0 := keep_cell b5 e0
          have d1 := keep_cell b5 e1
          have d2 := keep_cell b5 e2
          have d3 := keep_cell b5 e3
          obtain ⟨⟨r0, r1, r2, r3⟩, ⟨f0, f1, f2, f3⟩, rz⟩ := R5
          clear R4 H4 e0 e1 e2 e3 b5
          go_wp2_with fail
          exact bodyPost_ret (v := .tuple #[.agg #[.int .i64 X0, .int .i64 X1, .int .i64 X2, .int .i64 X3], .bool true]) (by simp [results, Tryd.results23, go_sem, r0, r1, r2, r3]) rfl
            ⟨rfl, (((H5.setCell (by simp; omega) _).setCell (by simp; omega) _).setCell (by simp; omega) _).setCell (by simp; omega) _⟩

theorem pmeet_any (a b c d e f g h : Int) (w : World) :
    Calls Tryd.prog 23 #[.agg #[.int .i64 a, .int .i64 b, .int .i64 c, .int .i64 d], .agg #[.int .i64 e, .int .i64 f, .int .i64 g, .int .i64 h]] w fun en w' =>
      en = .returned (.tuple #[.agg #[.int .i64 (spN (meetB a b c d e f g h) (max a e)), .int .i64 (spN (meetB a b c d e f g h) (max b f)), .int .i64 (spN (meetB a b c d e f g h) (min c g)), .int .i64 (spN (meetB a b c d e f g h) (min d h))], .bool (meetB a b c d e f g h)]) ∧ Below w.heap.size w w' := by
  have hm : (wholeB a b c d && wholeB e f g h && wholeB (max a e) (max b f) (min c g) (min d h)) = meetB a b c d e f g h := by
    unfold meetB
    rw [Bool.eq_iff_iff]
    simp only [Bool.and_eq_true, wholeB_iff, decide_eq_true_eq]
    omega
  have hc := pmeet_core a b c d e f g h w _ _ _ _ _ _ _ rfl rfl rfl rfl rfl rfl rfl
  rw [hm] at hc
  exact hc
end Go.Proofs.YtmophlfpoehopaaDoor
