/- The walk of the statement on the order of values: the case gt. -/
import Derived.Test.YtpnmefkbfonhpaaDoorLawV3
namespace Go.Proofs.YtpnmefkbfonhpaaDoor
open Go.RowKit

set_option maxHeartbeats 4000000 in
set_option maxRecDepth 100000 in
theorem vorder_gt (n m : Int) (h : m < n) (w : World) (hn : B64 n) (hm : B64 m) (hE : EnvV w) :
    Calls Tryd.prog 5 #[.agg #[.int .i64 n, .int .i64 0], .agg #[.int .i64 m, .int .i64 0]] w fun e w' => e = .returned (.bool true) ∧ Below w.heap.size w w' := by
  have eL : mostV gLow [(n, 0), (m, 0)] = (m, 0) := by rw [fine_low]; rw [if_pos h]
  have eT : mostV gTop [(n, 0), (m, 0)] = (n, 0) := by rw [fine_top]; rw [if_neg (by omega)]
  have eS : allV gAdd (0, 0) [(n, 0), (m, 0)] = gAdd n m := fine_sum hn
  obtain ⟨g0, g1, g2, g3, g4, g5, g6, g7⟩ := fine_got n m
  obtain ⟨t0, t1, t2, t3, t4, t5⟩ := got_gt h
  rw [t0] at g0
  rw [t1] at g1
  rw [t2] at g2
  rw [t3] at g3
  rw [t4] at g4
  rw [t5] at g5
  have HG := Lib.hid (And.intro g0 (And.intro g1 (And.intro g2 (And.intro g3 (And.intro g4 (And.intro g5 (And.intro g6 g7)))))))
  clear t0 t1 t2 t3 t4 t5 g0 g1 g2 g3 g4 g5 g6 g7
  have HE := Lib.hid hE
  have HD := Lib.hid fun i h => got_any i h n 0 m 0 hn hm
  have HO := Lib.hid (ord_start n 0 m 0 w)
  have HL0 := (a_low2 n 0 m 0 hn hm)
  have HT0 := (a_top2 n 0 m 0 hn hm)
  have HS0 := (a_sum2 n 0 m 0 hn hm)
  simp only [eL] at HL0
  simp only [eT] at HT0
  simp only [eS] at HS0
  generalize hSN : (gAdd n m).1 = SN at *
  generalize hSF : (gAdd n m).2 = SF at *
  clear hSN hSF
  have HL := Lib.hid HL0
  have HT := Lib.hid HT0
  have HS := Lib.hid HS0
  clear HL0 HT0 HS0 eL eT eS
  clear hE hn hm
  go_enter Tryd.func5, Tryd.ntmps5
  go_wp2_with fail
  have h0 : Below w.heap.size w ((((w.alloc (.cells #[.int .i64 n, .int .i64 0] 24)).alloc (.cells #[.int .i64 m, .int .i64 0] 24)).alloc (.cells #[.int .i64 0, .int .i64 0, .int .i64 0, .int .i64 0, .int .i64 0, .int .i64 0, .int .i64 0, .int .i64 0, .int .i64 0, .int .i64 0, .int .i64 0, .int .i64 0, .int .i64 0, .int .i64 0, .int .i64 0, .int .i64 0, .int .i64 0, .int .i64 0, .int .i64 0, .int .i64 0] 38)).alloc (.cells #[.string ⟨#[60]⟩, .string ⟨#[61]⟩, .string ⟨#[62]⟩, .string ⟨#[60, 61]⟩, .string ⟨#[62, 61]⟩, .string ⟨#[60, 62]⟩, .string ⟨#[43]⟩, .string ⟨#[45]⟩, .string ⟨#[42]⟩, .string ⟨#[47]⟩] 9)) := ((((Below.refl _ _).alloc (Nat.le_refl _) _).alloc (by simp) _).alloc (by simp; omega) _).alloc (by simp; omega) _
  have z0 : w.heap.size + 1 + 1 + 1 < ((((w.alloc (.cells #[.int .i64 n, .int .i64 0] 24)).alloc (.cells #[.int .i64 m, .int .i64 0] 24)).alloc (.cells #[.int .i64 0, .int .i64 0, .int .i64 0, .int .i64 0, .int .i64 0, .int .i64 0, .int .i64 0, .int .i64 0, .int .i64 0, .int .i64 0, .int .i64 0, .int .i64 0, .int .i64 0, .int .i64 0, .int .i64 0, .int .i64 0, .int .i64 0, .int .i64 0, .int .i64 0, .int .i64 0] 38)).alloc (.cells #[.string ⟨#[60]⟩, .string ⟨#[61]⟩, .string ⟨#[62]⟩, .string ⟨#[60, 61]⟩, .string ⟨#[62, 61]⟩, .string ⟨#[60, 62]⟩, .string ⟨#[43]⟩, .string ⟨#[45]⟩, .string ⟨#[42]⟩, .string ⟨#[47]⟩] 9)).heap.size := by simp
  generalize (((w.alloc (.cells #[.int .i64 n, .int .i64 0] 24)).alloc (.cells #[.int .i64 m, .int .i64 0] 24)).alloc (.cells #[.int .i64 0, .int .i64 0, .int .i64 0, .int .i64 0, .int .i64 0, .int .i64 0, .int .i64 0, .int .i64 0, .int .i64 0, .int .i64 0, .int .i64 0, .int .i64 0, .int .i64 0, .int .i64 0, .int .i64 0, .int .i64 0, .int .i64 0, .int .i64 0, .int .i64 0, .int .i64 0] 38)).alloc (.cells #[.string ⟨#[60]⟩, .string ⟨#[61]⟩, .string ⟨#[62]⟩, .string ⟨#[60, 61]⟩, .string ⟨#[62, 61]⟩, .string ⟨#[60, 62]⟩, .string ⟨#[43]⟩, .string ⟨#[45]⟩, .string ⟨#[42]⟩, .string ⟨#[47]⟩] 9) = w0 at *
  go_loopw [7] (fun v wr => ∃ i : Nat, i ≤ 10 ∧ v = .int .i64 i ∧ Below w.heap.size w wr ∧ w.heap.size + 1 + 1 + 1 < wr.heap.size ∧ Hid (OrdW wr (w.heap.size) (w.heap.size + 1) (w.heap.size + 1 + 1) (w.heap.size + 1 + 1 + 1) n 0 m 0 i)) (fun v _ => leftC 10 v)
  case atStart => exact ⟨0, by omega, rfl, h0, z0, HO⟩
  case round =>
    clear h0 z0 HO
    obtain ⟨i, hi, rfl, hb, z1, HO⟩ := hrel
    by_cases hlt : i < 10
    · have HC := Lib.hid (HD.out i hlt)
      have a0 := HO.out.a0
      have a1 := HO.out.a1
      have c0 := HO.out.b0
      have c1 := HO.out.b1
      have s0 := HO.out.os i hlt
      have x0 := HO.out.r0 i hlt
      have x1 := HO.out.r1 i hlt
      have f0 := HO.out.fr (i * 2) (by omega)
      have f1 := HO.out.fr (i * 2 + 1) (by omega)
      have n0 : wr.heap.size ≠ w.heap.size := by omega
      have n1 : wr.heap.size ≠ w.heap.size + 1 := by omega
      have n2 : wr.heap.size ≠ w.heap.size + 1 + 1 := by omega
      have n3 : wr.heap.size ≠ w.heap.size + 1 + 1 + 1 := by omega
      have zR : w.heap.size + 1 + 1 < wr.heap.size := by omega
      go_wp2_with fail
      go_region_held3 (fun w' => w'.cell? ⟨w.heap.size, 0, none⟩ = some (.int .i64 n) ∧ w'.cell? ⟨w.heap.size, 1, none⟩ = some (.int .i64 0) ∧ w'.cell? ⟨w.heap.size + 1, 0, none⟩ = some (.int .i64 m) ∧ w'.cell? ⟨w.heap.size + 1, 1, none⟩ = some (.int .i64 0) ∧ w'.cell? ⟨w.heap.size + 1 + 1 + 1, i, none⟩ = some (.string (opB i)))
        (first | (simp only [World.cell?_drew]; with_reducible exact ⟨a0, a1, c0, c1, s0⟩) | with_reducible exact ⟨m0, m1, m2, m3, m4⟩ | go_keep)
        (first
        | (go_at_call 9; refine (HC.out _).mono ?_; rintro e w1 ⟨rfl, b1⟩
           have B1 : Below wr.heap.size wr w1 := by first | exact below_up (Below.refl _ wr).drew b1 | exact below_alloc (Below.refl _ wr).drew b1
           have m0 := keep_cell B1 a0
           have m1 := keep_cell B1 a1
           have m2 := keep_cell B1 c0
           have m3 := keep_cell B1 c1
           have m4 := keep_cell B1 s0
           have r0 := keep_cell B1 x0
           have r1 := keep_cell B1 x1
           have t0 := keep_frozen B1 zR f0
           have t1 := keep_frozen B1 zR f1
           have yR : w.heap.size + 1 + 1 < w1.heap.size := Lib.lt_of_cell r0
           have n4 : w1.heap.size ≠ w.heap.size := by omega
           have n5 : w1.heap.size ≠ w.heap.size + 1 := by omega
           have n6 : w1.heap.size ≠ w.heap.size + 1 + 1 := by omega
           have n7 : w1.heap.size ≠ w.heap.size + 1 + 1 + 1 := by have := B1.size; omega
           try (have p0 : w1.cell? ⟨wr.heap.size, 0, none⟩ = some (.int .i64 0) := keep_fresh (W := wr.drew) b1 0 (v := .int .i64 0) rfl
                have p1 : w1.cell? ⟨wr.heap.size, 1, none⟩ = some (.int .i64 0) := keep_fresh (W := wr.drew) b1 1 (v := .int .i64 0) rfl
                have q0 : w1.frozen? ⟨wr.heap.size, 0, none⟩ = false := fresh_frozen (W := wr.drew) b1 0
                have q1 : w1.frozen? ⟨wr.heap.size, 1, none⟩ = false := fresh_frozen (W := wr.drew) b1 1
                have zz : wr.heap.size < w1.heap.size := by have := b1.size; simp at this; omega)))
      all_goals (try clear a0 a1 c0 c1 s0 x0 x1 f0 f1)
      all_goals go_wp2_with fail
      all_goals
        have h2 := hb.trans (B1.mono hb.size)
        go_roundw
        case rel =>
          refine ⟨i + 1, by omega, by go_num, ?_, by simp; omega, Lib.hid ?_⟩
          · repeat' (first | (with_reducible exact h2) | (with_reducible refine Below.alloc ?_ ?_ _) | (with_reducible refine Below.setCell ?_ ?_ _))
            all_goals (first | (simp; done) | (simp; omega) | (simpa using h2.size) | (simpa using hb.size))
          · first
            | with_reducible exact ((HO.out.keep B1).store hlt (by omega) (by omega) (by omega)).keep ((Below.refl _ _).alloc (Nat.le_refl _) _)
            | with_reducible exact (((HO.out.keep B1).set n0 n1 n2 n3 _).set n0 n1 n2 n3 _).store hlt (by omega) (by omega) (by omega)
        case measure => simp [leftC, intOf]; omega
    · have e10 : i = 10 := by omega
      subst e10
      clear HD hi hlt
      have h0 := hb
      clear hb
      have c0_p0 := HO.out.a0
      have c0_p1 := HO.out.a1
      have z0_p : w.heap.size < wr.heap.size := Lib.lt_of_cell c0_p0
      have c0_q0 := HO.out.b0
      have c0_q1 := HO.out.b1
      have z0_q : w.heap.size + 1 < wr.heap.size := Lib.lt_of_cell c0_q0
      have O0 := HO
      clear HO z1
      go_wp2_with fail
      refine (HL.out _ _ rfl).mono ?_; rintro e w1 ⟨rfl, b1⟩
      have B1 : Below wr.heap.size wr w1 := below_alloc (Below.refl _ _) b1
      have c1_p0 := keep_cell B1 c0_p0
      have c1_p1 := keep_cell B1 c0_p1
      have c1_q0 := keep_cell B1 c0_q0
      have c1_q1 := keep_cell B1 c0_q1
      have c1_l0 := keep_fresh b1 0 (v := .int .i64 n) rfl
      have c1_l1 := keep_fresh b1 1 (v := .int .i64 0) rfl
      have c1_l2 := keep_fresh b1 2 (v := .int .i64 m) rfl
      have c1_l3 := keep_fresh b1 3 (v := .int .i64 0) rfl
      have z1_p : w.heap.size < w1.heap.size := Lib.lt_of_cell c1_p0
      have z1_q : w.heap.size + 1 < w1.heap.size := Lib.lt_of_cell c1_q0
      have z1_l : wr.heap.size < w1.heap.size := Lib.lt_of_cell c1_l0
      have h1 := h0.trans (B1.mono h0.size)
      have O1 := Lib.hid (O0.out.keep B1)
      clear b1 B1 h0
      clear c1_l0 c1_l1 c1_l2 c1_l3 z1_l
      go_wp2_with fail
      have S2 : (w1.alloc (.cells #[.int .i64 m, .int .i64 0] 24)).heap.size = w1.heap.size + 1 := by simp
      have OO := Lib.hid (O1.out.keep ((Below.refl _ w1).alloc (Nat.le_refl _) (.cells #[.int .i64 m, .int .i64 0] 24)))
      have B2 : Below w1.heap.size w1 (w1.alloc (.cells #[.int .i64 m, .int .i64 0] 24)) := (Below.refl _ _).alloc (Nat.le_refl _) _
      have c2_p0 := keep_cell B2 c1_p0
      have c2_p1 := keep_cell B2 c1_p1
      have c2_q0 := keep_cell B2 c1_q0
      have c2_q1 := keep_cell B2 c1_q1
      have c2_lo0 : (w1.alloc (.cells #[.int .i64 m, .int .i64 0] 24)).cell? ⟨w1.heap.size, 0, none⟩ = some (.int .i64 m) := by simp [go_sem]
      have c2_lo1 : (w1.alloc (.cells #[.int .i64 m, .int .i64 0] 24)).cell? ⟨w1.heap.size, 1, none⟩ = some (.int .i64 0) := by simp [go_sem]
      have z2_p : w.heap.size < (w1.alloc (.cells #[.int .i64 m, .int .i64 0] 24)).heap.size := Lib.lt_of_cell c2_p0
      have z2_q : w.heap.size + 1 < (w1.alloc (.cells #[.int .i64 m, .int .i64 0] 24)).heap.size := Lib.lt_of_cell c2_q0
      have z2_lo : w1.heap.size < (w1.alloc (.cells #[.int .i64 m, .int .i64 0] 24)).heap.size := Lib.lt_of_cell c2_lo0
      have h2 := h1.trans (B2.mono h1.size)
      clear B2 h1
      generalize w1.alloc (.cells #[.int .i64 m, .int .i64 0] 24) = w2 at *
      have O2 := OO
      refine (HT.out _ _ S2).mono ?_; rintro e w3 ⟨rfl, b3⟩
      have B3 : Below w2.heap.size w2 w3 := below_alloc (Below.refl _ _) b3
      have c3_p0 := keep_cell B3 c2_p0
      have c3_p1 := keep_cell B3 c2_p1
      have c3_q0 := keep_cell B3 c2_q0
      have c3_q1 := keep_cell B3 c2_q1
      have c3_lo0 := keep_cell B3 c2_lo0
      have c3_lo1 := keep_cell B3 c2_lo1
      have c3_l0 := keep_fresh b3 0 (v := .int .i64 n) rfl
      have c3_l1 := keep_fresh b3 1 (v := .int .i64 0) rfl
      have c3_l2 := keep_fresh b3 2 (v := .int .i64 m) rfl
      have c3_l3 := keep_fresh b3 3 (v := .int .i64 0) rfl
      have z3_p : w.heap.size < w3.heap.size := Lib.lt_of_cell c3_p0
      have z3_q : w.heap.size + 1 < w3.heap.size := Lib.lt_of_cell c3_q0
      have z3_lo : w1.heap.size < w3.heap.size := Lib.lt_of_cell c3_lo0
      have z3_l : w2.heap.size < w3.heap.size := Lib.lt_of_cell c3_l0
      have h3 := h2.trans (B3.mono h2.size)
      have O3 := Lib.hid (O2.out.keep B3)
      clear b3 B3 h2
      clear c3_l0 c3_l1 c3_l2 c3_l3 z3_l
      clear HL HT OO S2 O0 O1 O2
      have c3_r0 : w3.cell? ⟨w.heap.size + 1 + 1, 0, none⟩ = some (.int .i64 0) := by have hr := O3.out.r0 0 (by omega); rw [if_pos (by omega), HG.out.1] at hr; exact hr
      have c3_r2 : w3.cell? ⟨w.heap.size + 1 + 1, 2, none⟩ = some (.int .i64 0) := by have hr := O3.out.r0 1 (by omega); rw [if_pos (by omega), HG.out.2.1] at hr; exact hr
      have c3_r4 : w3.cell? ⟨w.heap.size + 1 + 1, 4, none⟩ = some (.int .i64 1) := by have hr := O3.out.r0 2 (by omega); rw [if_pos (by omega), HG.out.2.2.1] at hr; exact hr
      have c3_r6 : w3.cell? ⟨w.heap.size + 1 + 1, 6, none⟩ = some (.int .i64 0) := by have hr := O3.out.r0 3 (by omega); rw [if_pos (by omega), HG.out.2.2.2.1] at hr; exact hr
      have c3_r8 : w3.cell? ⟨w.heap.size + 1 + 1, 8, none⟩ = some (.int .i64 1) := by have hr := O3.out.r0 4 (by omega); rw [if_pos (by omega), HG.out.2.2.2.2.1] at hr; exact hr
      have c3_r10 : w3.cell? ⟨w.heap.size + 1 + 1, 10, none⟩ = some (.int .i64 1) := by have hr := O3.out.r0 5 (by omega); rw [if_pos (by omega), HG.out.2.2.2.2.2.1] at hr; exact hr
      have c3_r12 : w3.cell? ⟨w.heap.size + 1 + 1, 12, none⟩ = some (.int .i64 SN) := by have hr := O3.out.r0 6 (by omega); rw [if_pos (by omega), HG.out.2.2.2.2.2.2.1] at hr; exact hr
      have c3_r13 : w3.cell? ⟨w.heap.size + 1 + 1, 13, none⟩ = some (.int .i64 SF) := by have hr := O3.out.r1 6 (by omega); rw [if_pos (by omega), HG.out.2.2.2.2.2.2.2] at hr; exact hr
      have z3_r : w.heap.size + 1 + 1 < w3.heap.size := Lib.lt_of_cell c3_r0
      clear O3 HG
      have e0 := fun W => eql_vself n 0 W
      have v0 := fun op X Y W => guard_val op X Y #[.int .i64 n, .int .i64 0] #[.int .i64 n, .int .i64 0] W
      have e1 := fun W => eql_vself m 0 W
      have v1 := fun op X Y W => guard_val op X Y #[.int .i64 m, .int .i64 0] #[.int .i64 m, .int .i64 0] W
      have e2 := fun W => eql_vself SN SF W
      have v2 := fun op X Y W => guard_val op X Y #[.int .i64 SN, .int .i64 SF] #[.int .i64 SN, .int .i64 SF] W
      have e9 : ∀ W : World, (binOp .eql 24 (.agg #[.int .i64 m, .int .i64 0]) (.agg #[.int .i64 n, .int .i64 0])).run Tryd.prog W = .ok (.bool false) W := fun W => by rw [eql_val, show (m == n) = false from by rw [beq_eq_false_iff_ne]; omega]; rfl
      have v9 := fun op X Y W => guard_val op X Y #[.int .i64 m, .int .i64 0] #[.int .i64 n, .int .i64 0] W
      have d1 : (n == m) = false := by rw [beq_eq_false_iff_ne]; omega
      have d2 : decide (n < m) = false := decide_eq_false (by omega)
      go_wp2_with fail
      have B4 : Below w3.heap.size w3 (w3.alloc (.cells #[.int .i64 n, .int .i64 0] 24)) := (Below.refl _ _).alloc (Nat.le_refl _) _
      have h4 := h3.trans (B4.mono h3.size)
      have k0 := keep_cell B4 c3_r0
      have k1 := keep_cell B4 c3_r2
      have k2 := keep_cell B4 c3_r12
      have k3 := keep_cell B4 c3_r13
      have k4 := keep_cell B4 c3_p0
      have k5 := keep_cell B4 c3_p1
      have k6 := keep_cell B4 c3_q0
      have k7 := keep_cell B4 c3_q1
      have HEd := Lib.hid (HE.out.below h4.drew)
      clear B4 h3 c3_r0 c3_r2 c3_r4 c3_r6 c3_r8 c3_r10 c3_r12 c3_r13 z3_r c3_p0 c3_p1 c3_q0 c3_q1 c3_lo0 c3_lo1 z3_p z3_q z3_lo
      generalize w3.alloc (.cells #[.int .i64 n, .int .i64 0] 24) = wz at *
      have y0 : wz.heap.size ≠ w.heap.size + 1 + 1 := by have := Lib.lt_of_cell k0; simp at this; omega
      have y1 : wz.heap.size ≠ w.heap.size := by have := Lib.lt_of_cell k4; simp at this; omega
      have y2 : wz.heap.size ≠ w.heap.size + 1 := by have := Lib.lt_of_cell k6; simp at this; omega
      go_region_held3 (fun w' => w'.cell? ⟨w.heap.size + 1 + 1, 0, none⟩ = some (.int .i64 0) ∧ w'.cell? ⟨w.heap.size + 1 + 1, 2, none⟩ = some (.int .i64 0) ∧ w'.cell? ⟨w.heap.size + 1 + 1, 12, none⟩ = some (.int .i64 SN) ∧ w'.cell? ⟨w.heap.size + 1 + 1, 13, none⟩ = some (.int .i64 SF) ∧ w'.cell? ⟨w.heap.size, 0, none⟩ = some (.int .i64 n) ∧ w'.cell? ⟨w.heap.size, 1, none⟩ = some (.int .i64 0) ∧ w'.cell? ⟨w.heap.size + 1, 0, none⟩ = some (.int .i64 m) ∧ w'.cell? ⟨w.heap.size + 1, 1, none⟩ = some (.int .i64 0))
        (first | (simp only [World.cell?_drew]; with_reducible exact ⟨k0, k1, k2, k3, k4, k5, k6, k7⟩) | with_reducible exact ⟨m0, m1, m2, m3, m4, m5, m6, m7⟩ | with_reducible exact ⟨o0, o1, o2, o3, o4, o5, o6, o7⟩ | go_keep)
        (first
        | (go_at_call 6; refine (valive_any _ HEd.out).mono ?_; rintro e wa ⟨rfl, ba⟩
           have Ba : Below wz.heap.size wz wa := (Below.refl _ wz).drew.trans ba
           have m0 := keep_cell Ba k0
           have m1 := keep_cell Ba k1
           have m2 := keep_cell Ba k2
           have m3 := keep_cell Ba k3
           have m4 := keep_cell Ba k4
           have m5 := keep_cell Ba k5
           have m6 := keep_cell Ba k6
           have m7 := keep_cell Ba k7
           have x0 : wa.heap.size ≠ w.heap.size + 1 + 1 := by have := Ba.size; have := Lib.lt_of_cell k0; simp at this; omega
           have x1 : wa.heap.size ≠ w.heap.size := by have := Ba.size; have := Lib.lt_of_cell k4; simp at this; omega
           have x2 : wa.heap.size ≠ w.heap.size + 1 := by have := Ba.size; have := Lib.lt_of_cell k6; simp at this; omega
           have Ha := h4.trans (Ba.mono h4.size))
        | (go_at_call 17; refine (HS.out _ _ rfl).mono ?_; rintro e wb ⟨rfl, bb⟩
           have Bb : Below wa.heap.size wa wb := below_alloc (Below.refl _ wa) bb
           have o0 := keep_cell Bb m0
           have o1 := keep_cell Bb m1
           have o2 := keep_cell Bb m2
           have o3 := keep_cell Bb m3
           have o4 := keep_cell Bb m4
           have o5 := keep_cell Bb m5
           have o6 := keep_cell Bb m6
           have o7 := keep_cell Bb m7
           have Hb := Ha.trans (Bb.mono Ha.size)))
      go_wp2_with fail
      go_ret
      exact ⟨rfl, Hb⟩
end Go.Proofs.YtpnmefkbfonhpaaDoor
