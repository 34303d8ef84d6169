/- The walk of the statement that holds values, their texts, ops and 0 less one against the document's own answers. -/
import Derived.Test.YtpnmefkbfonhpaaDoorUaI
import Derived.Test.YtpnmefkbfonhpaaDoorVaE
import Derived.Deep.RegionHeld3
namespace Go.Proofs.YtpnmefkbfonhpaaDoor
open Go.RowKit

theorem itoa_len (n : Int) (hn : B64 n) : (Lib.itoa n).length ≤ 300 := by
  have h := digits_len n.natAbs (by unfold B64 at hn; omega)
  unfold Lib.itoa
  split
  · simp; omega
  · rename_i h0
    have e : n.toNat = n.natAbs := by omega
    rw [e]; omega
theorem itoa_fault (n : Int) (hn : B64 n) : vpF (Lib.itoa n) = 0 := by
  have hp := (p_some hn rfl).2
  have no : ∀ l : List UInt8, Lib.decFrom 0 (rest l) = none → Lib.itoa n ≠ l := fun l hl e => by
    have := (p_bad (l := l) (.inr (.inr (.inr hl)))).2
    rw [e] at hp
    rw [this] at hp
    cases hp
  unfold vpF
  rw [if_neg (no _ (by decide)), if_neg (no _ (by decide)), if_neg (no _ (by decide)), if_neg (no _ (by decide))]
/-- the text of a value that may be: how long, and what is parsed from it -/
theorem text_back {n f : Int} (hn : B64 n) (h : vRight n f = true) : (vText n f).length ≤ 300 ∧ vpN (vText n f) = n ∧ vpF (vText n f) = f ∧ vpB (vText n f) = true := by
  have hq : f = 0 ∨ 1 ≤ f ∧ f ≤ 4 ∧ n = 0 := of_decide_eq_true h
  by_cases h0 : f = 0
  · subst h0
    have e : vText n 0 = Lib.itoa n := if_pos h
    rw [e]
    have hF := itoa_fault n hn
    have hp := p_some hn (l := Lib.itoa n) rfl
    unfold vpN vpB
    rw [hF]
    exact ⟨itoa_len n hn, hp.1, rfl, hp.2⟩
  · have hn0 : n = 0 := by omega
    subst hn0
    have hf : f = 1 ∨ f = 2 ∨ f = 3 ∨ f = 4 := by omega
    rcases hf with rfl | rfl | rfl | rfl <;> exact ⟨by decide, rfl, rfl, rfl⟩

set_option maxHeartbeats 400000 in
theorem vtells_long (n f m g : Int) (s : ByteArray) (w : World) (hl : 300 < s.size) (hs : s.size ≤ 9223372036854775807) (hE : EnvV w) :
    Calls Tryd.prog 3 #[.agg #[.int .i64 n, .int .i64 f], .agg #[.int .i64 m, .int .i64 g], .string s] w fun e w' => e = .returned (.bool true) ∧ Below w.heap.size w w' := by
  have HE := Lib.hid hE
  have d0 : decide ((300 : Int) < (s.size : Int)) = true := decide_eq_true (by omega)
  clear hE hl
  go_enter Tryd.func3, Tryd.ntmps3
  go_wp2_with fail
  have h0 := (((Below.refl w.heap.size w).alloc (Nat.le_refl _) (.cells #[.int .i64 n, .int .i64 f] 24)).alloc (by simp) (.cells #[.int .i64 m, .int .i64 g] 24))
  have HE0 := Lib.hid (HE.out.below h0)
  refine (valive_any _ HE0.out).mono ?_; rintro e w1 ⟨rfl, b1⟩
  go_wp2_with fail
  go_ret
  exact ⟨rfl, h0.trans (b1.mono h0.size)⟩

set_option maxHeartbeats 4000000 in
set_option maxRecDepth 100000 in
theorem vtells_short (n f m g : Int) (s : ByteArray) (w : World) (hl : s.size ≤ 300) (hn : B64 n) (hm : B64 m) (hE : EnvV w) :
    Calls Tryd.prog 3 #[.agg #[.int .i64 n, .int .i64 f], .agg #[.int .i64 m, .int .i64 g], .string s] w fun e w' => e = .returned (.bool true) ∧ Below w.heap.size w w' := by
  have HE := Lib.hid hE
  have H1 := Lib.hid (uparse_any s hl)
  have H2 := Lib.hid (vparse_any s hl)
  have H3 := Lib.hid (udo_any s (by unfold maxLen; omega) n f m g hn hm)
  have H4 := Lib.hid (vdo_any s n f m g hn hm)
  have H5 := Lib.hid (vright_any n f)
  have H6 := Lib.hid (uright_any n f)
  have H7 := Lib.hid (utext_any n f hn)
  have H8 := Lib.hid (vtext_any n f hn)
  have H9 := Lib.hid (uneg_any n f hn)
  have H10 := Lib.hid (vneg_any n f hn)
  have H11 : vRight n f = true → Hid (∀ (w : World), EnvV w → Calls Tryd.prog 7 #[.string ⟨(vText n f).toArray⟩] w fun e w' => e = .returned (.tuple #[.agg #[.int .i64 n, .int .i64 f], .bool true]) ∧ Below w.heap.size w w') := fun hr => Lib.hid fun W hW => by
    obtain ⟨t0, t1, t2, t3⟩ := text_back hn hr
    have := uparse_any ⟨(vText n f).toArray⟩ (by show (vText n f).toArray.size ≤ 300; simpa using t0) W hW
    rw [show (⟨(vText n f).toArray⟩ : ByteArray).data.toList = vText n f from rfl, t1, t2, t3] at this
    exact this
  have d0 : decide ((300 : Int) < (s.size : Int)) = false := decide_eq_false (by omega)
  clear hE hl hn hm
  generalize vpN s.data.toList = PN at *
  generalize vpF s.data.toList = PF at *
  generalize vpB s.data.toList = PB at *
  generalize doNum s.data.toList n f m g = DN at *
  generalize doFault s.data.toList n f m g = DF at *
  generalize (vOp s.data.toList n m).isSome = DB at *
  generalize doNum [45] 0 0 n f = NN at *
  generalize doFault [45] 0 0 n f = NF at *
  generalize vText n f = TX at *
  generalize vRight n f = RB at *
  have hN1 := neq_vself PN PF
  have hG1 := fun op X Y W => guard_val op X Y #[.int .i64 PN, .int .i64 PF] #[.int .i64 PN, .int .i64 PF] W
  have hN2 := neq_vself DN DF
  have hG2 := fun op X Y W => guard_val op X Y #[.int .i64 DN, .int .i64 DF] #[.int .i64 DN, .int .i64 DF] W
  have hN3 := neq_vself NN NF
  have hG3 := fun op X Y W => guard_val op X Y #[.int .i64 NN, .int .i64 NF] #[.int .i64 NN, .int .i64 NF] W
  have hN4 := eql_vself n f
  have hG4 := fun op X Y W => guard_val op X Y #[.int .i64 n, .int .i64 f] #[.int .i64 n, .int .i64 f] W
  go_enter Tryd.func3, Tryd.ntmps3
  go_wp2_with fail
  have h0 := (((Below.refl w.heap.size w).alloc (Nat.le_refl _) (.cells #[.int .i64 n, .int .i64 f] 24)).alloc (by simp) (.cells #[.int .i64 m, .int .i64 g] 24))
  have c0_p0 : ((w.alloc (.cells #[.int .i64 n, .int .i64 f] 24)).alloc (.cells #[.int .i64 m, .int .i64 g] 24)).cell? ⟨w.heap.size, 0, none⟩ = some (.int .i64 n) := by simp [go_sem]
  have c0_p1 : ((w.alloc (.cells #[.int .i64 n, .int .i64 f] 24)).alloc (.cells #[.int .i64 m, .int .i64 g] 24)).cell? ⟨w.heap.size, 1, none⟩ = some (.int .i64 f) := by simp [go_sem]
  have z0_p : w.heap.size < ((w.alloc (.cells #[.int .i64 n, .int .i64 f] 24)).alloc (.cells #[.int .i64 m, .int .i64 g] 24)).heap.size := Lib.lt_of_cell c0_p0
  have c0_v0 : ((w.alloc (.cells #[.int .i64 n, .int .i64 f] 24)).alloc (.cells #[.int .i64 m, .int .i64 g] 24)).cell? ⟨w.heap.size + 1, 0, none⟩ = some (.int .i64 m) := by simp [go_sem]
  have c0_v1 : ((w.alloc (.cells #[.int .i64 n, .int .i64 f] 24)).alloc (.cells #[.int .i64 m, .int .i64 g] 24)).cell? ⟨w.heap.size + 1, 1, none⟩ = some (.int .i64 g) := by simp [go_sem]
  have z0_v : w.heap.size + 1 < ((w.alloc (.cells #[.int .i64 n, .int .i64 f] 24)).alloc (.cells #[.int .i64 m, .int .i64 g] 24)).heap.size := Lib.lt_of_cell c0_v0
  generalize (w.alloc (.cells #[.int .i64 n, .int .i64 f] 24)).alloc (.cells #[.int .i64 m, .int .i64 g] 24) = w0 at *
  have HE0 := Lib.hid (HE.out.below h0)
  refine (H1.out _ HE0.out).mono ?_; rintro e w1 ⟨rfl, b1⟩
  have B1 : Below w0.heap.size w0 w1 := b1
  have c1_p0 := keep_cell B1 c0_p0
  have c1_p1 := keep_cell B1 c0_p1
  have c1_v0 := keep_cell B1 c0_v0
  have c1_v1 := keep_cell B1 c0_v1
  have z1_p : w.heap.size < w1.heap.size := Lib.lt_of_cell c1_p0
  have z1_v : w.heap.size + 1 < w1.heap.size := Lib.lt_of_cell c1_v0
  have h1 := h0.trans (B1.mono h0.size)
  clear b1 B1 h0
  go_wp2_with fail
  refine (H2.out _).mono ?_; rintro e w2 ⟨rfl, b2⟩
  have B2 : Below w1.heap.size w1 w2 := below_alloc (Below.refl _ _) b2
  have c2_p0 := keep_cell B2 c1_p0
  have c2_p1 := keep_cell B2 c1_p1
  have c2_v0 := keep_cell B2 c1_v0
  have c2_v1 := keep_cell B2 c1_v1
  have c2_a0 := keep_fresh b2 0 (v := .int .i64 PN) rfl
  have c2_a1 := keep_fresh b2 1 (v := .int .i64 PF) rfl
  have z2_p : w.heap.size < w2.heap.size := Lib.lt_of_cell c2_p0
  have z2_v : w.heap.size + 1 < w2.heap.size := Lib.lt_of_cell c2_v0
  have z2_a : w1.heap.size < w2.heap.size := Lib.lt_of_cell c2_a0
  have h2 := h1.trans (B2.mono h1.size)
  clear b2 B2 h1
  go_wp2_with fail
  refine (H3.out _).mono ?_; rintro e w3 ⟨rfl, b3⟩
  have B3 : Below w2.heap.size w2 w3 := below_alloc (Below.refl _ _) b3
  have c3_p0 := keep_cell B3 c2_p0
  have c3_p1 := keep_cell B3 c2_p1
  have c3_v0 := keep_cell B3 c2_v0
  have c3_v1 := keep_cell B3 c2_v1
  have c3_a0 := keep_cell B3 c2_a0
  have c3_a1 := keep_cell B3 c2_a1
  have c3_b0 := keep_fresh b3 0 (v := .int .i64 PN) rfl
  have c3_b1 := keep_fresh b3 1 (v := .int .i64 PF) rfl
  have z3_p : w.heap.size < w3.heap.size := Lib.lt_of_cell c3_p0
  have z3_v : w.heap.size + 1 < w3.heap.size := Lib.lt_of_cell c3_v0
  have z3_a : w1.heap.size < w3.heap.size := Lib.lt_of_cell c3_a0
  have z3_b : w2.heap.size < w3.heap.size := Lib.lt_of_cell c3_b0
  have h3 := h2.trans (B3.mono h2.size)
  clear b3 B3 h2
  go_wp2_with fail
  refine (H4.out _).mono ?_; rintro e w4 ⟨rfl, b4⟩
  have B4 : Below w3.heap.size w3 w4 := below_alloc (Below.refl _ _) b4
  have c4_p0 := keep_cell B4 c3_p0
  have c4_p1 := keep_cell B4 c3_p1
  have c4_v0 := keep_cell B4 c3_v0
  have c4_v1 := keep_cell B4 c3_v1
  have c4_a0 := keep_cell B4 c3_a0
  have c4_a1 := keep_cell B4 c3_a1
  have c4_b0 := keep_cell B4 c3_b0
  have c4_b1 := keep_cell B4 c3_b1
  have c4_c0 := keep_fresh b4 0 (v := .int .i64 DN) rfl
  have c4_c1 := keep_fresh b4 1 (v := .int .i64 DF) rfl
  have z4_p : w.heap.size < w4.heap.size := Lib.lt_of_cell c4_p0
  have z4_v : w.heap.size + 1 < w4.heap.size := Lib.lt_of_cell c4_v0
  have z4_a : w1.heap.size < w4.heap.size := Lib.lt_of_cell c4_a0
  have z4_b : w2.heap.size < w4.heap.size := Lib.lt_of_cell c4_b0
  have z4_c : w3.heap.size < w4.heap.size := Lib.lt_of_cell c4_c0
  have h4 := h3.trans (B4.mono h3.size)
  clear b4 B4 h3
  go_wp2_with fail
  have B5 : Below w4.heap.size w4 (w4.alloc (.cells #[.int .i64 DN, .int .i64 DF] 24)) := (Below.refl _ _).alloc (Nat.le_refl _) _
  have c5_p0 := keep_cell B5 c4_p0
  have c5_p1 := keep_cell B5 c4_p1
  have c5_v0 := keep_cell B5 c4_v0
  have c5_v1 := keep_cell B5 c4_v1
  have c5_a0 := keep_cell B5 c4_a0
  have c5_a1 := keep_cell B5 c4_a1
  have c5_b0 := keep_cell B5 c4_b0
  have c5_b1 := keep_cell B5 c4_b1
  have c5_c0 := keep_cell B5 c4_c0
  have c5_c1 := keep_cell B5 c4_c1
  have c5_d0 : (w4.alloc (.cells #[.int .i64 DN, .int .i64 DF] 24)).cell? ⟨w4.heap.size, 0, none⟩ = some (.int .i64 DN) := by simp [go_sem]
  have c5_d1 : (w4.alloc (.cells #[.int .i64 DN, .int .i64 DF] 24)).cell? ⟨w4.heap.size, 1, none⟩ = some (.int .i64 DF) := by simp [go_sem]
  have z5_p : w.heap.size < (w4.alloc (.cells #[.int .i64 DN, .int .i64 DF] 24)).heap.size := Lib.lt_of_cell c5_p0
  have z5_v : w.heap.size + 1 < (w4.alloc (.cells #[.int .i64 DN, .int .i64 DF] 24)).heap.size := Lib.lt_of_cell c5_v0
  have z5_a : w1.heap.size < (w4.alloc (.cells #[.int .i64 DN, .int .i64 DF] 24)).heap.size := Lib.lt_of_cell c5_a0
  have z5_b : w2.heap.size < (w4.alloc (.cells #[.int .i64 DN, .int .i64 DF] 24)).heap.size := Lib.lt_of_cell c5_b0
  have z5_c : w3.heap.size < (w4.alloc (.cells #[.int .i64 DN, .int .i64 DF] 24)).heap.size := Lib.lt_of_cell c5_c0
  have z5_d : w4.heap.size < (w4.alloc (.cells #[.int .i64 DN, .int .i64 DF] 24)).heap.size := Lib.lt_of_cell c5_d0
  have h5 := h4.trans (B5.mono h4.size)
  clear B5 h4
  generalize w4.alloc (.cells #[.int .i64 DN, .int .i64 DF] 24) = w5 at *
  clear c5_v0 c5_v1 z5_v
  refine (H5.out _).mono ?_; rintro e w6 ⟨rfl, b6⟩
  have B6 : Below w5.heap.size w5 w6 := b6
  have c6_p0 := keep_cell B6 c5_p0
  have c6_p1 := keep_cell B6 c5_p1
  have c6_a0 := keep_cell B6 c5_a0
  have c6_a1 := keep_cell B6 c5_a1
  have c6_b0 := keep_cell B6 c5_b0
  have c6_b1 := keep_cell B6 c5_b1
  have c6_c0 := keep_cell B6 c5_c0
  have c6_c1 := keep_cell B6 c5_c1
  have c6_d0 := keep_cell B6 c5_d0
  have c6_d1 := keep_cell B6 c5_d1
  have z6_p : w.heap.size < w6.heap.size := Lib.lt_of_cell c6_p0
  have z6_a : w1.heap.size < w6.heap.size := Lib.lt_of_cell c6_a0
  have z6_b : w2.heap.size < w6.heap.size := Lib.lt_of_cell c6_b0
  have z6_c : w3.heap.size < w6.heap.size := Lib.lt_of_cell c6_c0
  have z6_d : w4.heap.size < w6.heap.size := Lib.lt_of_cell c6_d0
  have h6 := h5.trans (B6.mono h5.size)
  clear b6 B6 h5
  have HEa := Lib.hid (HE.out.below h6)
  go_wp2_with fail
  go_region_held3 (fun w' => w'.cell? ⟨w.heap.size, 0, none⟩ = some (.int .i64 n) ∧ w'.cell? ⟨w.heap.size, 1, none⟩ = some (.int .i64 f) ∧ w'.cell? ⟨w1.heap.size, 0, none⟩ = some (.int .i64 PN) ∧ w'.cell? ⟨w1.heap.size, 1, none⟩ = some (.int .i64 PF) ∧ w'.cell? ⟨w2.heap.size, 0, none⟩ = some (.int .i64 PN) ∧ w'.cell? ⟨w2.heap.size, 1, none⟩ = some (.int .i64 PF) ∧ w'.cell? ⟨w3.heap.size, 0, none⟩ = some (.int .i64 DN) ∧ w'.cell? ⟨w3.heap.size, 1, none⟩ = some (.int .i64 DF) ∧ w'.cell? ⟨w4.heap.size, 0, none⟩ = some (.int .i64 DN) ∧ w'.cell? ⟨w4.heap.size, 1, none⟩ = some (.int .i64 DF))
    (first | (simp only [World.cell?_drew]; with_reducible exact ⟨c6_p0, c6_p1, c6_a0, c6_a1, c6_b0, c6_b1, c6_c0, c6_c1, c6_d0, c6_d1⟩) | with_reducible exact ⟨c7_p0, c7_p1, c7_a0, c7_a1, c7_b0, c7_b1, c7_c0, c7_c1, c7_d0, c7_d1⟩ | with_reducible exact ⟨c8_p0, c8_p1, c8_a0, c8_a1, c8_b0, c8_b1, c8_c0, c8_c1, c8_d0, c8_d1⟩ | with_reducible exact ⟨c9_p0, c9_p1, c9_a0, c9_a1, c9_b0, c9_b1, c9_c0, c9_c1, c9_d0, c9_d1⟩ | with_reducible exact ⟨c10_p0, c10_p1, c10_a0, c10_a1, c10_b0, c10_b1, c10_c0, c10_c1, c10_d0, c10_d1⟩ | with_reducible exact ⟨c11_p0, c11_p1, c11_a0, c11_a1, c11_b0, c11_b1, c11_c0, c11_c1, c11_d0, c11_d1⟩ | fail)
    (first
    | (go_at_call 12; refine (H6.out _).mono ?_; rintro e w7 ⟨rfl, b7⟩
       have B7 : Below w6.heap.size w6 w7 := (Below.refl _ w6).drew.trans b7
       have c7_p0 := keep_cell B7 c6_p0
       have c7_p1 := keep_cell B7 c6_p1
       have c7_a0 := keep_cell B7 c6_a0
       have c7_a1 := keep_cell B7 c6_a1
       have c7_b0 := keep_cell B7 c6_b0
       have c7_b1 := keep_cell B7 c6_b1
       have c7_c0 := keep_cell B7 c6_c0
       have c7_c1 := keep_cell B7 c6_c1
       have c7_d0 := keep_cell B7 c6_d0
       have c7_d1 := keep_cell B7 c6_d1
       have HEb := Lib.hid (HEa.out.below B7)
       have h7 := h6.trans (B7.mono h6.size))
    | (go_at_call 13; refine (H7.out _ HEb.out).mono ?_; rintro e w8 ⟨rfl, b8⟩
       have B8 : Below w7.heap.size w7 w8 := b8
       have c8_p0 := keep_cell B8 c7_p0
       have c8_p1 := keep_cell B8 c7_p1
       have c8_a0 := keep_cell B8 c7_a0
       have c8_a1 := keep_cell B8 c7_a1
       have c8_b0 := keep_cell B8 c7_b0
       have c8_b1 := keep_cell B8 c7_b1
       have c8_c0 := keep_cell B8 c7_c0
       have c8_c1 := keep_cell B8 c7_c1
       have c8_d0 := keep_cell B8 c7_d0
       have c8_d1 := keep_cell B8 c7_d1
       have h8 := h7.trans (B8.mono h7.size))
    | (go_at_call 14; refine (H8.out _).mono ?_; rintro e w9 ⟨rfl, b9⟩
       have B9 : Below w8.heap.size w8 w9 := b9
       have c9_p0 := keep_cell B9 c8_p0
       have c9_p1 := keep_cell B9 c8_p1
       have c9_a0 := keep_cell B9 c8_a0
       have c9_a1 := keep_cell B9 c8_a1
       have c9_b0 := keep_cell B9 c8_b0
       have c9_b1 := keep_cell B9 c8_b1
       have c9_c0 := keep_cell B9 c8_c0
       have c9_c1 := keep_cell B9 c8_c1
       have c9_d0 := keep_cell B9 c8_d0
       have c9_d1 := keep_cell B9 c8_d1
       have h9 := h8.trans (B9.mono h8.size))
    | (go_at_call 15; refine (H9.out _).mono ?_; rintro e w10 ⟨rfl, b10⟩
       have B10 : Below w9.heap.size w9 w10 := b10
       have c10_p0 := keep_cell B10 c9_p0
       have c10_p1 := keep_cell B10 c9_p1
       have c10_a0 := keep_cell B10 c9_a0
       have c10_a1 := keep_cell B10 c9_a1
       have c10_b0 := keep_cell B10 c9_b0
       have c10_b1 := keep_cell B10 c9_b1
       have c10_c0 := keep_cell B10 c9_c0
       have c10_c1 := keep_cell B10 c9_c1
       have c10_d0 := keep_cell B10 c9_d0
       have c10_d1 := keep_cell B10 c9_d1
       have h10 := h9.trans (B10.mono h9.size))
    | (go_at_call 16; refine (H10.out _).mono ?_; rintro e w11 ⟨rfl, b11⟩
       have B11 : Below w10.heap.size w10 w11 := b11
       have c11_p0 := keep_cell B11 c10_p0
       have c11_p1 := keep_cell B11 c10_p1
       have c11_a0 := keep_cell B11 c10_a0
       have c11_a1 := keep_cell B11 c10_a1
       have c11_b0 := keep_cell B11 c10_b0
       have c11_b1 := keep_cell B11 c10_b1
       have c11_c0 := keep_cell B11 c10_c0
       have c11_c1 := keep_cell B11 c10_c1
       have c11_d0 := keep_cell B11 c10_d0
       have c11_d1 := keep_cell B11 c10_d1
       have h11 := h10.trans (B11.mono h10.size)))
  have z11_p : w.heap.size < w11.heap.size := Lib.lt_of_cell c11_p0
  have z11_a : w1.heap.size < w11.heap.size := Lib.lt_of_cell c11_a0
  have z11_b : w2.heap.size < w11.heap.size := Lib.lt_of_cell c11_b0
  have z11_c : w3.heap.size < w11.heap.size := Lib.lt_of_cell c11_c0
  have z11_d : w4.heap.size < w11.heap.size := Lib.lt_of_cell c11_d0
  clear c6_p0 c6_p1 c6_a0 c6_a1 c6_b0 c6_b1 c6_c0 c6_c1 c6_d0 c6_d1 c7_p0 c7_p1 c7_a0 c7_a1 c7_b0 c7_b1 c7_c0 c7_c1 c7_d0 c7_d1 c8_p0 c8_p1 c8_a0 c8_a1 c8_b0 c8_b1 c8_c0 c8_c1 c8_d0 c8_d1 c9_p0 c9_p1 c9_a0 c9_a1 c9_b0 c9_b1 c9_c0 c9_c1 c9_d0 c9_d1 c10_p0 c10_p1 c10_a0 c10_a1 c10_b0 c10_b1 c10_c0 c10_c1 c10_d0 c10_d1 z6_p z6_a z6_b z6_c z6_d h6 h7 h8 h9 h10 b7 b8 b9 b10 b11 B7 B8 B9 B10 B11
  clear c11_a0 c11_a1 z11_a
  clear c11_b0 c11_b1 z11_b
  clear c11_c0 c11_c1 z11_c
  clear c11_d0 c11_d1 z11_d
  have HEc := Lib.hid (HE.out.below h11)
  cases RB with
  | false =>
    go_wp2_with fail
    refine (valive_any _ HEc.out).mono ?_; rintro e w12 ⟨rfl, b12⟩
    have B12 : Below w11.heap.size w11 w12 := b12
    have c12_p0 := keep_cell B12 c11_p0
    have c12_p1 := keep_cell B12 c11_p1
    have z12_p : w.heap.size < w12.heap.size := Lib.lt_of_cell c12_p0
    have h12 := h11.trans (B12.mono h11.size)
    clear b12 B12 h11
    go_wp2_with fail
    go_ret
    exact ⟨rfl, h12⟩
  | true =>
    have HP := H11 rfl
    clear H11
    go_wp2_with fail
    refine (H7.out _ HEc.out).mono ?_; rintro e w12 ⟨rfl, b12⟩
    have B12 : Below w11.heap.size w11 w12 := b12
    have c12_p0 := keep_cell B12 c11_p0
    have c12_p1 := keep_cell B12 c11_p1
    have z12_p : w.heap.size < w12.heap.size := Lib.lt_of_cell c12_p0
    have h12 := h11.trans (B12.mono h11.size)
    have HEd := Lib.hid (HE.out.below h12)
    clear b12 B12 h11
    go_wp2_with fail
    refine (HP.out _ HEd.out).mono ?_; rintro e w13 ⟨rfl, b13⟩
    have B13 : Below w12.heap.size w12 w13 := b13
    have c13_p0 := keep_cell B13 c12_p0
    have c13_p1 := keep_cell B13 c12_p1
    have z13_p : w.heap.size < w13.heap.size := Lib.lt_of_cell c13_p0
    have h13 := h12.trans (B13.mono h12.size)
    clear b13 B13 h12
    go_wp2_with fail
    have B14 : Below w13.heap.size w13 (w13.alloc (.cells #[.int .i64 n, .int .i64 f] 24)) := (Below.refl _ _).alloc (Nat.le_refl _) _
    have c14_p0 := keep_cell B14 c13_p0
    have c14_p1 := keep_cell B14 c13_p1
    have c14_z0 : (w13.alloc (.cells #[.int .i64 n, .int .i64 f] 24)).cell? ⟨w13.heap.size, 0, none⟩ = some (.int .i64 n) := by simp [go_sem]
    have c14_z1 : (w13.alloc (.cells #[.int .i64 n, .int .i64 f] 24)).cell? ⟨w13.heap.size, 1, none⟩ = some (.int .i64 f) := by simp [go_sem]
    have z14_p : w.heap.size < (w13.alloc (.cells #[.int .i64 n, .int .i64 f] 24)).heap.size := Lib.lt_of_cell c14_p0
    have z14_z : w13.heap.size < (w13.alloc (.cells #[.int .i64 n, .int .i64 f] 24)).heap.size := Lib.lt_of_cell c14_z0
    have h14 := h13.trans (B14.mono h13.size)
    clear B14 h13
    generalize w13.alloc (.cells #[.int .i64 n, .int .i64 f] 24) = w14 at *
    have HEz := Lib.hid (HE.out.below h14)
    refine (valive_any _ HEz.out).mono ?_; rintro e w15 ⟨rfl, b15⟩
    have B15 : Below w14.heap.size w14 w15 := b15
    have c15_p0 := keep_cell B15 c14_p0
    have c15_p1 := keep_cell B15 c14_p1
    have c15_z0 := keep_cell B15 c14_z0
    have c15_z1 := keep_cell B15 c14_z1
    have z15_p : w.heap.size < w15.heap.size := Lib.lt_of_cell c15_p0
    have z15_z : w13.heap.size < w15.heap.size := Lib.lt_of_cell c15_z0
    have h15 := h14.trans (B15.mono h14.size)
    clear b15 B15 h14
    go_wp2_with fail
    go_ret
    exact ⟨rfl, h15⟩

theorem vtells_any (n f m g : Int) (s : ByteArray) (w : World) (hs : s.size ≤ 9223372036854775807) (hn : B64 n) (hm : B64 m) (hE : EnvV w) :
    Calls Tryd.prog 3 #[.agg #[.int .i64 n, .int .i64 f], .agg #[.int .i64 m, .int .i64 g], .string s] w fun e w' => e = .returned (.bool true) ∧ Below w.heap.size w w' := by
  by_cases hl : s.size ≤ 300
  · exact vtells_short n f m g s w hl hn hm hE
  · exact vtells_long n f m g s w (by omega) hs hE
end Go.Proofs.YtpnmefkbfonhpaaDoor
