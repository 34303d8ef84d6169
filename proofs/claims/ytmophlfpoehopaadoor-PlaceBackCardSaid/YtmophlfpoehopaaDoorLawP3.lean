/- The statement that goes there and back: what its calls come to, and its walk. -/
import Derived.Test.YtmophlfpoehopaaDoorBackM
import Derived.Test.YtmophlfpoehopaaDoorBackN
namespace Go.Proofs.YtmophlfpoehopaaDoor
open Go.RowKit

theorem u16_of_wf {a : Int} (h : (Lit.int .u16 a).wf = true) : 0 ≤ a ∧ a ≤ 65535 := by
  have e1 : IntKind.u16.min = 0 := rfl
  have e2 : IntKind.u16.max = 65535 := rfl
  simp [Lit.wf, e1, e2] at h
  exact h

/-! A range's cells, counted. -/
theorem cells_e0 {a b c d : Nat} (hW : wholeB a b c d = true) : cellsTo a b c d (16 * b) = [] := by
  have hq := (wholeB_iff _ _ _ _).1 hW
  exact (cellsTo_eq (i := 0) (Nat.zero_le _) fun j _ h2 => has_not (by omega) (by omega)).symm
theorem cells_ed {a b c d : Nat} (hW : wholeB a b c d = true) : cellsTo a b c d (16 * (d + 1)) = cellsTo a b c d 1024 := by
  have hq := (wholeB_iff _ _ _ _).1 hW
  exact cellsTo_eq (by omega) fun j h1 h2 => has_not (by omega) (by omega)
theorem cells_es {a b c d row : Nat} (hW : wholeB a b c d = true) (h2 : row ≤ d) : cellsTo a b c d (16 * row) = cellsTo a b c d (16 * row + a) := by
  have hq := (wholeB_iff _ _ _ _).1 hW
  exact cellsTo_eq (by omega) fun j h3 h4 => has_not (by omega) (by omega)
theorem cells_ee {a b c d row : Nat} (hW : wholeB a b c d = true) (h2 : row ≤ d) : cellsTo a b c d (16 * row + (c + 1)) = cellsTo a b c d (16 * (row + 1)) := by
  have hq := (wholeB_iff _ _ _ _).1 hW
  exact cellsTo_eq (by omega) fun j h3 h4 => has_not (by omega) (by omega)
theorem cells_ey {a b c d row col : Nat} (hW : wholeB a b c d = true) (h1 : b ≤ row) (h2 : row ≤ d) (h3 : a ≤ col) (h4 : col ≤ c) : (cellsTo a b c d (16 * row + (col + 1))).length = (cellsTo a b c d (16 * row + col)).length + 1 := by
  have hq := (wholeB_iff _ _ _ _).1 hW
  have hj : 16 * row + col < 1024 := by omega
  have hh : hasB a b c d (atC ((16 * row + col : Nat) : Int)) (atR ((16 * row + col : Nat) : Int)) = true := by
    rw [atC_of _ hj, atR_of _ hj]
    exact (hasB_iff _ _ _ _ _ _).2 ⟨hW, by omega, by omega, by omega, by omega⟩
  have h := cellsTo_yes hh
  show (cellsTo a b c d (16 * row + col + 1)).length = _
  rw [h, List.length_append]
  rfl
theorem row_len {a b c d row : Nat} (hW : wholeB a b c d = true) (h1 : b ≤ row) (h2 : row ≤ d) : ∀ n, n ≤ c + 1 - a → (cellsTo a b c d (16 * row + (a + n))).length = (cellsTo a b c d (16 * row)).length + n
  | 0, _ => by rw [cells_es hW h2]; rfl
  | n + 1, hn => by
    have hq := (wholeB_iff _ _ _ _).1 hW
    have ih := row_len hW h1 h2 n (by omega)
    have := cells_ey (col := a + n) hW h1 h2 (by omega) (by omega)
    rw [show a + (n + 1) = a + n + 1 by omega, this, ih]
    omega
theorem rows_len {a b c d : Nat} (hW : wholeB a b c d = true) : ∀ t, t ≤ d + 1 - b → (cellsTo a b c d (16 * (b + t))).length = t * (c + 1 - a)
  | 0, _ => by rw [Nat.add_zero, cells_e0 hW, Nat.zero_mul]; rfl
  | t + 1, ht => by
    have hq := (wholeB_iff _ _ _ _).1 hW
    have ih := rows_len hW t (by omega)
    have h1 := row_len (row := b + t) hW (by omega) (by omega) (c + 1 - a) (Nat.le_refl _)
    rw [show a + (c + 1 - a) = c + 1 by omega, cells_ee hW (by omega)] at h1
    rw [show b + (t + 1) = b + t + 1 by omega, h1, ih, Nat.succ_mul]
theorem cells_len {a b c d : Nat} (hW : wholeB a b c d = true) : (cellsTo a b c d 1024).length = (d + 1 - b) * (c + 1 - a) := by
  have hq := (wholeB_iff _ _ _ _).1 hW
  have h := rows_len hW (d + 1 - b) (Nat.le_refl _)
  rw [show b + (d + 1 - b) = d + 1 by omega, cells_ed hW] at h
  exact h
theorem cells_num {a b c d : Int} (hW : wholeB a b c d = true) : IntKind.i64.wrap ((c - a + 1) * (d - b + 1)) = ((cellsTo a b c d 1024).length : Int) := by
  have hq := (wholeB_iff _ _ _ _).1 hW
  obtain ⟨a, rfl⟩ := Int.eq_ofNat_of_zero_le hq.1.1
  obtain ⟨b, rfl⟩ := Int.eq_ofNat_of_zero_le hq.1.2.2.1
  obtain ⟨c, rfl⟩ := Int.eq_ofNat_of_zero_le hq.2.1.1
  obtain ⟨d, rfl⟩ := Int.eq_ofNat_of_zero_le hq.2.1.2.2.1
  rw [cells_len hW]
  have e1 : ((c : Int) - a + 1) = ((c + 1 - a : Nat) : Int) := by omega
  have e2 : ((d : Int) - b + 1) = ((d + 1 - b : Nat) : Int) := by omega
  rw [e1, e2, ← Int.natCast_mul, Nat.mul_comm]
  have h1 : d + 1 - b ≤ 64 := by omega
  have h2 : c + 1 - a ≤ 16 := by omega
  have h3 := Nat.mul_le_mul h1 h2
  exact IntWalk.i64_in _ (by omega)

/-! A place's text, parsed. -/
/-- a row's figures: one or two, the first of which is not 0 -/
def rowFigs (r : Nat) : List UInt8 := if r < 9 then [UInt8.ofNat (48 + (r + 1))] else [UInt8.ofNat (48 + (r + 1) / 10), UInt8.ofNat (48 + (r + 1) % 10)]
theorem figs_all : ∀ r : Fin 64, Lib.decFrom 0 (rowFigs r.val) = some (r.val + 1) ∧ rowFigs r.val ≠ [] ∧ (rowFigs r.val).head? ≠ some 48 := by decide +kernel
theorem figs_is (r : Nat) (h : r < 64) : Lib.decDigits (r + 1) = rowFigs r := by
  obtain ⟨h1, h2, h3⟩ := figs_all ⟨r, h⟩
  exact digits_of_dec (rowFigs r).length (rowFigs r) (r + 1) rfl h1 h2 (.inl h3)
theorem form_all : ∀ c : Fin 16, ∀ r : Fin 64, formedB (UInt8.ofNat (65 + c.val) :: rowFigs r.val) = true := by decide +kernel
theorem parse_text {c r : Int} (h : rightB c r = true) : prC (placeText c r) = c ∧ prR (placeText c r) = r ∧ prE (placeText c r) = 0 := by
  obtain ⟨c0, c1, r0, r1⟩ := (rightB_iff c r).1 h
  have e : placeText c r = letter c :: Lib.itoa (r + 1) := if_pos h
  have e2 : r + 1 = ((r.toNat + 1 : Nat) : Int) := by omega
  rw [e, e2, Lib.itoa_nonneg, figs_is r.toNat (by omega)]
  have hf : formedB (letter c :: rowFigs r.toNat) = true := form_all ⟨c.toNat, by omega⟩ ⟨r.toNat, by omega⟩
  have hl := letter_toNat c c0 c1
  obtain ⟨p1, p2, p3⟩ := parse_yes hf (by omega) (by omega) (u := r.toNat + 1) (by omega) (by omega) (figs_is r.toNat (by omega))
  exact ⟨by rw [p1]; omega, by rw [p2]; omega, p3⟩

/-! What the calls come to. -/
theorem ret_pp {f a b a' b' : Int} {t t' : Bool} (h0 : a = a') (h1 : b = b') (h2 : t = t') (_ : f = f) : Ending.returned (.tuple #[.agg #[.int .i64 a, .int .i64 b], .bool t]) = .returned (.tuple #[.agg #[.int .i64 a', .int .i64 b'], .bool t']) := by rw [h0, h1, h2]
theorem at_is {I : Int} (h0 : 0 ≤ I) (h1 : I ≤ 1023) : AtC I (I % 16) (I / 16) := fun w =>
  (pat_any I w).mono fun _ _ ⟨he, hb⟩ => ⟨he.trans (ret_pp (f := 0) (if_pos ⟨h0, h1⟩) (if_pos ⟨h0, h1⟩) (decide_eq_true ⟨h0, h1⟩) rfl), hb⟩
theorem parse_is {c r : Int} (h : rightB c r = true) : ParseC (placeText c r) c r := fun w =>
  have hs : (⟨(placeText c r).toArray⟩ : ByteArray).size ≤ 9223372036854775807 := by
    obtain ⟨c0, c1, r0, r1⟩ := (rightB_iff c r).1 h
    have e : placeText c r = letter c :: Lib.itoa (r + 1) := if_pos h
    have hl := itoa_len (r + 1) (by unfold B64; omega)
    show (placeText c r).toArray.size ≤ _
    rw [e]
    simp
    omega
  (pparse_any ⟨(placeText c r).toArray⟩ hs w).mono fun _ _ ⟨he, hb⟩ => ⟨he.trans (ret_place (parse_text h).1 (parse_text h).2.1 (parse_text h).2.2), hb⟩
theorem move_yes {a b x y : Int} (hx : B64 x) (hy : B64 y) (h : mvB a b x y = true) : MoveC a b x y (a + x) (b + y) true := fun w =>
  (pmove_any a b x y w hx hy).mono fun _ _ ⟨he, hb⟩ => ⟨he.trans (ret_pp (f := 0) (if_pos h) (if_pos h) h rfl), hb⟩
theorem move_no {a b x y : Int} (hx : B64 x) (hy : B64 y) (h : mvB a b x y = false) : MoveC a b x y 0 0 false := fun w =>
  (pmove_any a b x y w hx hy).mono fun _ _ ⟨he, hb⟩ => ⟨he.trans (ret_pp (f := 0) (if_neg (by rw [h]; decide)) (if_neg (by rw [h]; decide)) h rfl), hb⟩
theorem mir_yes {a b : Int} (h : mirB a b = true) : MirC a b b a true := fun w =>
  (pmirror_any a b w).mono fun _ _ ⟨he, hb⟩ => ⟨he.trans (ret_pp (f := 0) (if_pos h) (if_pos h) h rfl), hb⟩
theorem mir_no {a b : Int} (h : mirB a b = false) : MirC a b 0 0 false := fun w =>
  (pmirror_any a b w).mono fun _ _ ⟨he, hb⟩ => ⟨he.trans (ret_pp (f := 0) (if_neg (by rw [h]; decide)) (if_neg (by rw [h]; decide)) h rfl), hb⟩
theorem cells_is {a b c d : Int} : CellsC a b c d (cellsTo a b c d 1024).length := fun w =>
  (pcells_any a b c d w).mono fun _ _ ⟨v, he, ho, hb⟩ => by
    obtain ⟨A, cap, rfl, _⟩ := own_shape ho
    exact ⟨A, cap, he, hb⟩

theorem back_any (i x y k : Int) (w : World) (hi : 0 ≤ i ∧ i ≤ 65535) (hx : B64 x) (hy : B64 y) (hk : 0 ≤ k ∧ k ≤ 65535) (hE : EnvI w) :
    Calls Tryd.prog 5 #[.int .u16 i, .agg #[.int .i64 x, .int .i64 y], .int .u16 k] w fun e w' => e = .returned (.bool true) ∧ Below w.heap.size w w' := by
  obtain ⟨I, hI⟩ : ∃ I, i % 1024 = I := ⟨_, rfl⟩
  obtain ⟨K, hK⟩ : ∃ K, k % 1024 = K := ⟨_, rfl⟩
  have I0 : 0 ≤ I := by omega
  have I1 : I ≤ 1023 := by omega
  have K0 : 0 ≤ K := by omega
  have K1 : K ≤ 1023 := by omega
  have C1 := at_is I0 I1
  have C2 := at_is K0 K1
  obtain ⟨pc, hpc⟩ : ∃ pc, I % 16 = pc := ⟨_, rfl⟩
  obtain ⟨pr, hpr⟩ : ∃ pr, I / 16 = pr := ⟨_, rfl⟩
  obtain ⟨qc, hqc⟩ : ∃ qc, K % 16 = qc := ⟨_, rfl⟩
  obtain ⟨qr, hqr⟩ : ∃ qr, K / 16 = qr := ⟨_, rfl⟩
  rw [hpc, hpr] at C1
  rw [hqc, hqr] at C2
  have hp : rightB pc pr = true := (rightB_iff _ _).2 (by omega)
  have hq : rightB qc qr = true := (rightB_iff _ _).2 (by omega)
  have hpb := (rightB_iff _ _).1 hp
  have hqb := (rightB_iff _ _).1 hq
  have C3 : TextC pc pr (placeText pc pr) := fun w hE => ptext_any pc pr w hE
  have C4 := parse_is hp
  have C5 : IndexC pc pr I := fun w => (pindex_any pc pr w).mono fun _ _ ⟨he, hb⟩ => ⟨he.trans (ret_int (by rw [show idxN pc pr = 16 * pr + pc from if_pos hp]; omega)), hb⟩
  have hsp : spB pc pr qc qr = true := by unfold spB; rw [hp, hq]; rfl
  have C10 : SpanC pc pr qc qr (min pc qc) (min pr qr) (max pc qc) (max pr qr) := fun w => (pspan_any pc pr qc qr w).mono fun _ _ ⟨he, hb⟩ => ⟨he.trans (by rw [hsp]; rfl), hb⟩
  have hwh : wholeB (min pc qc) (min pr qr) (max pc qc) (max pr qr) = true := (wholeB_iff _ _ _ _).2 (by omega)
  have C11 : HasC (min pc qc) (min pr qr) (max pc qc) (max pr qr) pc pr := fun w => (phas_any _ _ _ _ _ _ w).mono fun _ _ ⟨he, hb⟩ => ⟨he.trans (ret_bool ((hasB_iff _ _ _ _ _ _).2 ⟨hwh, by omega, by omega, by omega, by omega⟩)), hb⟩
  have C12 : HasC (min pc qc) (min pr qr) (max pc qc) (max pr qr) qc qr := fun w => (phas_any _ _ _ _ _ _ w).mono fun _ _ ⟨he, hb⟩ => ⟨he.trans (ret_bool ((hasB_iff _ _ _ _ _ _).2 ⟨hwh, by omega, by omega, by omega, by omega⟩)), hb⟩
  have C13 := cells_is (a := min pc qc) (b := min pr qr) (c := max pc qc) (d := max pr qr)
  have hN := cells_num hwh
  generalize (cellsTo (min pc qc) (min pr qr) (max pc qc) (max pr qr) 1024).length = N at *
  have s0 : 0 ≤ min pc qc := by omega
  have s1 : 0 ≤ min pr qr := by omega
  have s2 : max pc qc ≤ 15 := by omega
  have s3 : max pr qr ≤ 63 := by omega
  have s4 : min pc qc ≤ max pc qc := by omega
  have s5 : min pr qr ≤ max pr qr := by omega
  obtain ⟨pc0, pc1, pr0, pr1⟩ := hpb
  have hmir : mirB pc pr = decide (pr < 16) := by
    unfold mirB
    rw [hp, Bool.true_and, Bool.eq_iff_iff, rightB_iff, decide_eq_true_eq]
    omega
  cases hm : mvB pc pr x y with
  | true =>
    have hr : rightB (pc + x) (pr + y) = true := by unfold mvB at hm; rw [hp, Bool.true_and] at hm; exact hm
    have hrb := (rightB_iff _ _).1 hr
    have C6 := move_yes hx hy hm
    have hback : mvB (pc + x) (pr + y) (-x) (-y) = true := by
      unfold mvB
      rw [hr, Bool.true_and, show pc + x + -x = pc by omega, show pr + y + -y = pr by omega]
      exact hp
    have C7 := move_yes (x := -x) (y := -y) (by unfold B64; omega) (by unfold B64; omega) hback
    rw [show pc + x + -x = pc by omega, show pr + y + -y = pr by omega] at C7
    by_cases h16 : pr < 16
    · have C8 := mir_yes (a := pc) (b := pr) (by rw [hmir]; exact decide_eq_true h16)
      have C9 := mir_yes (a := pr) (b := pc) (by unfold mirB; rw [Bool.and_comm]; exact (hmir.trans (decide_eq_true h16)))
      exact back_mc i k I K x y pc pr qc qr (pc + x) (pr + y) _ _ _ _ (placeText pc pr) N w hI hK hi.1 hi.2 hk.1 hk.2 I0 I1 K0 K1 pc0 pc1 pr0 pr1 s0 s1 s2 s3 s4 s5 C1 C2 C3 C4 C5
        (by omega) (by omega) (by omega) (by omega) (by omega) (by omega) (by omega) (by omega) (by omega) (by omega) C6 C7 h16 C8 C9 C10 C11 C12 C13 hN hE
    · have C8 := mir_no (a := pc) (b := pr) (by rw [hmir]; exact decide_eq_false h16)
      have C9 := mir_yes (a := 0) (b := 0) (by decide)
      exact back_md i k I K x y pc pr qc qr (pc + x) (pr + y) _ _ _ _ (placeText pc pr) N w hI hK hi.1 hi.2 hk.1 hk.2 I0 I1 K0 K1 pc0 pc1 pr0 pr1 s0 s1 s2 s3 s4 s5 C1 C2 C3 C4 C5
        (by omega) (by omega) (by omega) (by omega) (by omega) (by omega) (by omega) (by omega) (by omega) (by omega) C6 C7 (by omega) C8 C9 C10 C11 C12 C13 hN hE
  | false =>
    have C6 := move_no hx hy hm
    by_cases h16 : pr < 16
    · have C8 := mir_yes (a := pc) (b := pr) (by rw [hmir]; exact decide_eq_true h16)
      have C9 := mir_yes (a := pr) (b := pc) (by unfold mirB; rw [Bool.and_comm]; exact (hmir.trans (decide_eq_true h16)))
      exact back_nc i k I K x y pc pr qc qr 0 0 _ _ _ _ (placeText pc pr) N w hI hK hi.1 hi.2 hk.1 hk.2 I0 I1 K0 K1 pc0 pc1 pr0 pr1 s0 s1 s2 s3 s4 s5 C1 C2 C3 C4 C5 C6 h16 C8 C9 C10 C11 C12 C13 hN hE
    · have C8 := mir_no (a := pc) (b := pr) (by rw [hmir]; exact decide_eq_false h16)
      have C9 := mir_yes (a := 0) (b := 0) (by decide)
      exact back_nd i k I K x y pc pr qc qr 0 0 _ _ _ _ (placeText pc pr) N w hI hK hi.1 hi.2 hk.1 hk.2 I0 I1 K0 K1 pc0 pc1 pr0 pr1 s0 s1 s2 s3 s4 s5 C1 C2 C3 C4 C5 C6 (by omega) C8 C9 C10 C11 C12 C13 hN hE
end Go.Proofs.YtmophlfpoehopaaDoor
