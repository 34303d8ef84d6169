/- Texts joined: Tx, NumD, RefA, RefBw, RefB, RefGa, LxA, RefC, RefD, LxB. -/
import Derived.Test.YthaoalmhhgllmaaDoorMb01
import Derived.Lib.Atoi
import Derived.Lib.AtoiAll
import Derived.Lib.AtoiAllCases
import Derived.Lib.ItoaNum
import Derived.Lib.ItoaMem
import Derived.Laws.Strings
import Derived.Lib.ConvBytes
import Derived.Deep.CutRange
import Derived.WalkSmall
import Derived.Lib.AtoiErrMem
import Derived.OwnWalk
import Derived.Deep.Onto
import Derived.WalkSpells
import Derived.WalkLawsBesides
import Derived.Deep.RegionWith
import Derived.Deep.RegionHeld3
set_option linter.all false
namespace Go.Proofs.YthaoalmhhgllmaaDoor
open Go.Lib
theorem digitVal_of {d : Nat} (h : d < 10) : digitVal (UInt8.ofNat (48 + d)) = some d := by
  have e : (UInt8.ofNat (48 + d)).toNat = 48 + d := by rw [UInt8.toNat_ofNat']; omega
  unfold digitVal
  rw [e, if_pos (by omega)]
  congr 1
  omega
theorem decFrom_append (l : List UInt8) (b : UInt8) : ∀ acc, decFrom acc (l ++ [b]) = (decFrom acc l).bind fun n => (digitVal b).map fun d => n * 10 + d := by
  induction l with
  | nil => intro acc; simp only [List.nil_append, decFrom, Option.bind_some]; cases digitVal b <;> rfl
  | cons a t ih =>
    intro acc
    simp only [List.cons_append, decFrom]
    cases digitVal a with
    | none => rfl
    | some d => exact ih _
theorem decFrom_le : ∀ (l : List UInt8) (acc u : Nat), decFrom acc l = some u → acc ≤ u
  | [], acc, u, h => by simp only [decFrom, Option.some.injEq] at h; omega
  | c :: r, acc, u, h => by
    simp only [decFrom] at h
    split at h
    · have := decFrom_le r _ u h; omega
    · cases h
theorem nDigits_le (u : Nat) (h : u ≤ 9223372036854775808) : nDigits u ≤ 19 := by
  by_cases h1 : u < 10 ^ 18
  · have := lt_pow_nDigits u
    rcases Nat.lt_or_ge (nDigits u) 20 with h2 | h2
    · omega
    · exfalso
      have h3 : 10 ^ 19 ≤ u := by
        by_cases h0 : u < 10
        · rw [nDigits_small h0] at h2; omega
        · obtain ⟨k, hk⟩ : ∃ k, nDigits u = k + 20 := ⟨nDigits u - 20, by omega⟩
          exfalso
          have hu : nDigits u ≤ 18 := by
            clear hk h2 this
            have aux : ∀ k v, v < 10 ^ k → 1 ≤ k → nDigits v ≤ k := by
              intro k
              induction k with
              | zero => intro v _ h; omega
              | succ k ih =>
                intro v hv _
                by_cases hv0 : v < 10
                · rw [nDigits_small hv0]; omega
                · rw [nDigits_big hv0]
                  rcases Nat.eq_zero_or_pos k with hk | hk
                  · subst hk; omega
                  · have := ih (v / 10) (by rw [Nat.pow_succ] at hv; omega) hk
                    omega
            exact aux 18 u h1 (by omega)
          omega
      omega
  · have := nDigits_unique 18 u (by omega) (by omega)
    omega

def minusB (l : List UInt8) : Bool := decide (l.head? = some 45)
def rest (l : List UInt8) : List UInt8 := if minusB l = true then l.tail else l
end Go.Proofs.YthaoalmhhgllmaaDoor
namespace Go.Proofs.YthaoalmhhgllmaaDoor
open Go.RowKit
def dig (d : Nat) : UInt8 := UInt8.ofNat (48 + d)
theorem conv_one (W : World) (d : Nat) (hd : d < 10) (b : Nat) (hb : W.heap.size = b) :
    Sem.run Tryd.prog (convert 145 9 (.slice (some ⟨b, 0, none⟩) 1 1)) (W.alloc (.cells #[.int .u8 (48 + (d : Int))] 5)) =
      .ok (.string ⟨#[dig d]⟩) (W.alloc (.cells #[.int .u8 (48 + (d : Int))] 5)) := by
  refine run_convert_bytes_back (W.alloc (.cells #[.int .u8 (48 + (d : Int))] 5)) 145 9 5 ⟨b, 0, none⟩ 1 [dig d] Tryd.underlying145 Tryd.underlying5 Tryd.underlying9 ?_
  intro j hj
  have hj0 : j = 0 := by simpa using hj
  subst hj0
  subst hb
  have e : (dig d).toNat = 48 + d := by unfold dig; rw [UInt8.toNat_ofNat']; omega
  simp only [List.getElem_cons_zero, e]
  have h := cell_of_row (W.alloc (.cells #[.int .u8 (48 + (d : Int))] 5)) W.heap.size 0 #[.int .u8 (48 + (d : Int))] 5 (0, 0) (heap_alloc_new W _)
  rw [show ((48 + d : Nat) : Int) = 48 + (d : Int) from by omega]
  exact h

theorem digits_len (u : Nat) (h : u < 18446744073709551616) : (Lib.decDigits u).length ≤ 30 := by
  rw [Lib.decDigits_length]
  by_cases h1 : u ≤ 9223372036854775808
  · have := nDigits_le u h1; omega
  · have : Lib.nDigits u = Lib.nDigits (u / 10) + 1 := Lib.nDigits_big (by omega)
    have := nDigits_le (u / 10) (by omega)
    omega
set_option maxHeartbeats 400000 in
set_option maxRecDepth 10000 in
theorem figures_any (u : Nat) : u < 18446744073709551616 → ∀ w : World,
    Calls Tryd.prog 103 #[.int .u64 u] w fun e w' => e = .returned (.string ⟨(Lib.decDigits u).toArray⟩) ∧ Below w.heap.size w w' := by
  induction u using Nat.strongRecOn with
  | _ u ih =>
    intro hu w
    have hc := conv_one w (u % 10) (by omega) w.heap.size rfl
    rw [show ((u % 10 : Nat) : Int) = (u : Int) % 10 from by omega] at hc
    by_cases h : u < 10
    · have HR : Hid (Lib.decDigits u = [dig u]) := Lib.hid (Lib.decDigits_one h)
      have hm : u % 10 = u := by omega
      rw [hm] at hc
      clear hm ih
      go_enter Tryd.func103, Tryd.ntmps103
      go_wp2_with fail
      go_ret
      exact ⟨ret_str (by rw [HR.out]), (Below.refl _ _).alloc (Nat.le_refl _) _⟩
    · have IH := Lib.hid (ih (u / 10) (by omega) (by omega))
      have HR : Hid (Lib.decDigits u = Lib.decDigits (u / 10) ++ [dig (u % 10)]) := Lib.hid (by rw [Lib.decDigits, dif_neg h]; rfl)
      have hlen := digits_len (u / 10) (by omega)
      rw [show ((u / 10 : Nat) : Int) = (u : Int) / 10 from by omega] at IH
      clear ih
      go_enter Tryd.func103, Tryd.ntmps103
      go_wp2_with fail
      refine (IH.out _).mono ?_
      rintro e w1 ⟨rfl, h1⟩
      go_wp2_with fail
      go_ret
      exact ⟨ret_str (by rw [HR.out, ByteArray.mk_append_mk]), ((Below.refl _ _).alloc (Nat.le_refl _) _).trans (h1.mono (by simp))⟩
set_option maxHeartbeats 400000 in
set_option maxRecDepth 10000 in
theorem rtext_any (a : Int) (ha : B64 a) (w : World) :
    Calls Tryd.prog 98 #[.int .i64 a] w fun e w' => e = .returned (.string ⟨(Lib.itoa a).toArray⟩) ∧ Below w.heap.size w w' := by
  have hn : absI a = (a.natAbs : Int) := by unfold absI; split <;> omega
  have HS := Lib.hid (size_any a ha)
  have HF := Lib.hid (figures_any a.natAbs (by unfold B64 at ha; omega))
  have hlen := digits_len a.natAbs (by unfold B64 at ha; omega)
  rw [hn] at HS
  clear hn ha
  obtain ⟨D, hD⟩ : ∃ D, D = Lib.decDigits a.natAbs := ⟨_, rfl⟩
  rw [← hD] at HF hlen
  by_cases h : a < 0
  · have HR : Hid (Lib.itoa a = 45 :: D) := Lib.hid (by unfold Lib.itoa; rw [if_pos h, hD])
    clear hD
    go_enter Tryd.func98, Tryd.ntmps98
    go_wp2_with fail
    refine (HS.out _).mono ?_; rintro e w1 ⟨rfl, rfl⟩
    go_wp2_with fail
    refine (HF.out _).mono ?_; rintro e w1 ⟨rfl, h1⟩
    go_wp2_with fail
    go_ret
    exact ⟨ret_str (by rw [HR.out, ByteArray.mk_append_mk]; simp), h1⟩
  · have HR : Hid (Lib.itoa a = D) := Lib.hid (by unfold Lib.itoa; rw [if_neg h, hD]; congr 1; omega)
    clear hD
    go_enter Tryd.func98, Tryd.ntmps98
    go_wp2_with fail
    refine (HS.out _).mono ?_; rintro e w1 ⟨rfl, rfl⟩
    go_wp2_with fail
    refine (HF.out _).mono ?_; rintro e w1 ⟨rfl, h1⟩
    go_wp2_with fail
    go_ret
    exact ⟨ret_str (by rw [HR.out]), h1⟩
end Go.Proofs.YthaoalmhhgllmaaDoor
namespace Go.Proofs.YthaoalmhhgllmaaDoor
open Go.RowKit
def rightB (c r : Int) : Bool := decide (0 ≤ c ∧ c ≤ 15 ∧ 0 ≤ r ∧ r ≤ 63)
theorem rightB_iff (c r : Int) : rightB c r = true ↔ 0 ≤ c ∧ c ≤ 15 ∧ 0 ≤ r ∧ r ≤ 63 := by unfold rightB; simp
theorem rightB_not (c r : Int) : rightB c r = false ↔ ¬ (0 ≤ c ∧ c ≤ 15 ∧ 0 ≤ r ∧ r ≤ 63) := by unfold rightB; simp

set_option maxHeartbeats 400000 in
theorem rright_any (c r : Int) (w : World) :
    Calls Tryd.prog 56 #[.agg #[.int .i64 c, .int .i64 r]] w fun e w' => e = .returned (.bool (rightB c r)) ∧ Below w.heap.size w w' := by
  go_enter Tryd.func56, Tryd.ntmps56
  go_wp2_with fail
  all_goals go_ret
  · exact ⟨ret_bool (bool_iff (by rw [rightB_iff]; simp; omega)), (Below.refl _ _).alloc (Nat.le_refl _) _⟩
  · exact ⟨ret_bool ((rightB_not _ _).2 (by omega)).symm, (Below.refl _ _).alloc (Nat.le_refl _) _⟩
  · exact ⟨ret_bool ((rightB_not _ _).2 (by omega)).symm, (Below.refl _ _).alloc (Nat.le_refl _) _⟩
  · exact ⟨ret_bool ((rightB_not _ _).2 (by omega)).symm, (Below.refl _ _).alloc (Nat.le_refl _) _⟩

def idxB (i : Int) : Bool := decide (0 ≤ i ∧ i ≤ 1023)
def atC (i : Int) : Int := if 0 ≤ i ∧ i ≤ 1023 then i % 16 else 0
def atR (i : Int) : Int := if 0 ≤ i ∧ i ≤ 1023 then i / 16 else 0
set_option maxHeartbeats 400000 in
theorem rat_any (i : Int) (w : World) :
    Calls Tryd.prog 62 #[.int .i64 i] w fun e w' => e = .returned (.tuple #[.agg #[.int .i64 (atC i), .int .i64 (atR i)], .bool (idxB i)]) ∧ Below w.heap.size w w' := by
  by_cases h : 0 ≤ i ∧ i ≤ 1023
  · have e1 := Lib.hid (show atC i = i % 16 from if_pos h)
    have e2 := Lib.hid (show atR i = i / 16 from if_pos h)
    have e3 := Lib.hid (show idxB i = true from decide_eq_true h)
    obtain ⟨h1, h2⟩ := h
    go_enter Tryd.func62, Tryd.ntmps62
    go_wp2_with fail
    exact bodyPost_ret (v := .tuple #[.agg #[.int .i64 (i % 16), .int .i64 (i / 16)], .bool true]) (by simp [results, Tryd.results62, go_sem]) rfl
      ⟨by rw [e1.out, e2.out, e3.out], (Below.refl _ _).alloc (Nat.le_refl _) _⟩
  · have e1 := Lib.hid (show atC i = 0 from if_neg h)
    have e2 := Lib.hid (show atR i = 0 from if_neg h)
    have e3 := Lib.hid (show idxB i = false from decide_eq_false h)
    by_cases h1 : i < 0
    · clear h
      go_enter Tryd.func62, Tryd.ntmps62
      go_wp2_with fail
      exact bodyPost_ret (v := .tuple #[.agg #[.int .i64 0, .int .i64 0], .bool false]) (by simp [results, Tryd.results62, go_sem]) rfl
        ⟨by rw [e1.out, e2.out, e3.out], (Below.refl _ _).alloc (Nat.le_refl _) _⟩
    · have h2 : 1023 < i := by omega
      clear h
      go_enter Tryd.func62, Tryd.ntmps62
      go_wp2_with fail
      exact bodyPost_ret (v := .tuple #[.agg #[.int .i64 0, .int .i64 0], .bool false]) (by simp [results, Tryd.results62, go_sem]) rfl
        ⟨by rw [e1.out, e2.out, e3.out], (Below.refl _ _).alloc (Nat.le_refl _) _⟩

theorem atC_of (j : Nat) (h : j < 1024) : atC (j : Int) = (j : Int) % 16 := if_pos (by omega)
theorem atR_of (j : Nat) (h : j < 1024) : atR (j : Int) = (j : Int) / 16 := if_pos (by omega)
end Go.Proofs.YthaoalmhhgllmaaDoor
namespace Go.Proofs.YthaoalmhhgllmaaDoor
open Go.RowKit
def wholeB (a b c d : Int) : Bool := rightB a b && rightB c d && (decide (a ≤ c) && decide (b ≤ d))
theorem wholeB_iff (a b c d : Int) : wholeB a b c d = true ↔ (0 ≤ a ∧ a ≤ 15 ∧ 0 ≤ b ∧ b ≤ 63) ∧ (0 ≤ c ∧ c ≤ 15 ∧ 0 ≤ d ∧ d ≤ 63) ∧ a ≤ c ∧ b ≤ d := by
  unfold wholeB rightB; simp [and_assoc]
set_option maxHeartbeats 1000000 in
theorem rwhole_any (a b c d : Int) (w : World) :
    Calls Tryd.prog 57 #[.agg #[.int .i64 a, .int .i64 b, .int .i64 c, .int .i64 d]] w fun e w' => e = .returned (.bool (wholeB a b c d)) ∧ Below w.heap.size w w' := by
  have HF := Lib.hid (rright_any a b)
  have HT := Lib.hid (rright_any c d)
  cases hf : rightB a b with
  | false =>
    have e1 := Lib.hid (show wholeB a b c d = false from by unfold wholeB; rw [hf]; rfl)
    rw [hf] at HF
    clear hf
    go_enter Tryd.func57, Tryd.ntmps57
    go_wp2_with fail
    refine (HF.out _).mono ?_; rintro e w1 ⟨rfl, b1⟩
    have k2 := keep_fresh b1 2 (v := .int .i64 c) rfl
    have k3 := keep_fresh b1 3 (v := .int .i64 d) rfl
    go_wp2_with fail
    refine (HT.out _).mono ?_; rintro e w2 ⟨rfl, b2⟩
    have h1 : Below w.heap.size w w1 := ((Below.refl _ _).alloc (Nat.le_refl _) _).trans (b1.mono (by simp))
    have h2 := h1.trans (b2.mono h1.size)
    clear k2 k3 b1 b2
    go_wp2_with fail
    go_ret
    exact ⟨ret_bool e1.out.symm, h2⟩
  | true =>
    rw [hf] at HF
    cases ht : rightB c d with
    | false =>
      have e1 := Lib.hid (show wholeB a b c d = false from by unfold wholeB; rw [hf, ht]; rfl)
      rw [ht] at HT
      clear hf ht
      go_enter Tryd.func57, Tryd.ntmps57
      go_wp2_with fail
      refine (HF.out _).mono ?_; rintro e w1 ⟨rfl, b1⟩
      have k2 := keep_fresh b1 2 (v := .int .i64 c) rfl
      have k3 := keep_fresh b1 3 (v := .int .i64 d) rfl
      go_wp2_with fail
      refine (HT.out _).mono ?_; rintro e w2 ⟨rfl, b2⟩
      have h1 : Below w.heap.size w w1 := ((Below.refl _ _).alloc (Nat.le_refl _) _).trans (b1.mono (by simp))
      have h2 := h1.trans (b2.mono h1.size)
      clear k2 k3 b1 b2
      go_wp2_with fail
      go_ret
      exact ⟨ret_bool e1.out.symm, h2⟩
    | true =>
      have e1 := Lib.hid (show wholeB a b c d = (decide (a ≤ c) && decide (b ≤ d)) from by unfold wholeB; rw [hf, ht]; rfl)
      rw [ht] at HT
      clear hf ht
      go_enter Tryd.func57, Tryd.ntmps57
      go_wp2_with fail
      refine (HF.out _).mono ?_; rintro e w1 ⟨rfl, b1⟩
      have j0 := keep_fresh b1 0 (v := .int .i64 a) rfl
      have j1 := keep_fresh b1 1 (v := .int .i64 b) rfl
      have j2 := keep_fresh b1 2 (v := .int .i64 c) rfl
      have j3 := keep_fresh b1 3 (v := .int .i64 d) rfl
      go_wp2_with fail
      refine (HT.out _).mono ?_; rintro e w2 ⟨rfl, b2⟩
      have k0 := keep_cell b2 j0
      have k1 := keep_cell b2 j1
      have k2 := keep_cell b2 j2
      have k3 := keep_cell b2 j3
      have h1 : Below w.heap.size w w1 := ((Below.refl _ _).alloc (Nat.le_refl _) _).trans (b1.mono (by simp))
      have h2 := h1.trans (b2.mono h1.size)
      clear j0 j1 j2 j3 b1 b2
      by_cases hac : a ≤ c
      · have d1 : decide (a ≤ c) = true := decide_eq_true hac
        rw [d1, Bool.true_and] at e1
        clear hac
        go_wp2_with fail
        go_ret
        exact ⟨ret_bool e1.out.symm, h2⟩
      · have d1 : decide (a ≤ c) = false := decide_eq_false hac
        rw [d1, Bool.false_and] at e1
        clear hac
        go_wp2_with fail
        go_ret
        exact ⟨ret_bool e1.out.symm, h2⟩
end Go.Proofs.YthaoalmhhgllmaaDoor
namespace Go.Proofs.YthaoalmhhgllmaaDoor
open Go.RowKit
def hasB (a b c d x y : Int) : Bool := wholeB a b c d && decide (a ≤ x ∧ x ≤ c ∧ b ≤ y ∧ y ≤ d)
set_option maxHeartbeats 1000000 in
theorem rhas_any (a b c d x y : Int) (w : World) :
    Calls Tryd.prog 63 #[.agg #[.int .i64 a, .int .i64 b, .int .i64 c, .int .i64 d], .agg #[.int .i64 x, .int .i64 y]] w fun e w' => e = .returned (.bool (hasB a b c d x y)) ∧ Below w.heap.size w w' := by
  have HW := Lib.hid (rwhole_any a b c d)
  cases hw : wholeB a b c d with
  | false =>
    have e1 := Lib.hid (show hasB a b c d x y = false from by unfold hasB; rw [hw]; rfl)
    rw [hw] at HW
    clear hw
    go_enter Tryd.func63, Tryd.ntmps63
    go_wp2_with fail
    refine (HW.out _).mono ?_; rintro e w1 ⟨rfl, b1⟩
    have h1 : Below w.heap.size w w1 := (((Below.refl _ _).alloc (Nat.le_refl _) _).alloc (by simp) _).trans (b1.mono (by simp; omega))
    go_wp2_with fail
    go_ret
    exact ⟨ret_bool e1.out.symm, h1⟩
  | true =>
    have e1 := Lib.hid (show hasB a b c d x y = decide (a ≤ x ∧ x ≤ c ∧ b ≤ y ∧ y ≤ d) from by unfold hasB; rw [hw]; rfl)
    rw [hw] at HW
    clear hw
    go_enter Tryd.func63, Tryd.ntmps63
    go_wp2_with fail
    refine (HW.out _).mono ?_; rintro e w1 ⟨rfl, b1⟩
    have k0 := keep_cell b1 (p := ⟨w.heap.size, 0, none⟩) (v := .int .i64 a) (by simp [go_sem])
    have k1 := keep_cell b1 (p := ⟨w.heap.size, 1, none⟩) (v := .int .i64 b) (by simp [go_sem])
    have k2 := keep_cell b1 (p := ⟨w.heap.size, 2, none⟩) (v := .int .i64 c) (by simp [go_sem])
    have k3 := keep_cell b1 (p := ⟨w.heap.size, 3, none⟩) (v := .int .i64 d) (by simp [go_sem])
    have k4 := keep_cell b1 (p := ⟨w.heap.size + 1, 0, none⟩) (v := .int .i64 x) (by simp [go_sem])
    have k5 := keep_cell b1 (p := ⟨w.heap.size + 1, 1, none⟩) (v := .int .i64 y) (by simp [go_sem])
    have h1 : Below w.heap.size w w1 := (((Below.refl _ _).alloc (Nat.le_refl _) _).alloc (by simp) _).trans (b1.mono (by simp; omega))
    clear b1
    go_wp2_with fail
    all_goals go_ret
    · exact ⟨ret_bool (Eq.trans (decide_eq_decide.2 (by omega)) e1.out.symm), h1⟩
    · exact ⟨ret_bool (Eq.trans (decide_eq_false (by omega)).symm e1.out.symm), h1⟩
    · exact ⟨ret_bool (Eq.trans (decide_eq_false (by omega)).symm e1.out.symm), h1⟩
    · exact ⟨ret_bool (Eq.trans (decide_eq_false (by omega)).symm e1.out.symm), h1⟩
end Go.Proofs.YthaoalmhhgllmaaDoor
namespace Go.Proofs.YthaoalmhhgllmaaDoor
open Go.RowKit
theorem grown_of_below {w w' : World} (h : Below w.heap.size w w') (row : Option Nat) : w.grownBy w' row := ⟨h.os, h.tape, h.output, h.size, fun i hi _ => h.block i hi⟩
theorem own_below {w w' : World} {base : Nat} {e : TypeId} {size : Nat} {v : Value} {n : Nat} {xs : List Value} (h : w.ownsRow base e size v n xs) (hb : Below w.heap.size w w') : w'.ownsRow base e size v n xs :=
  h.kept (grown_of_below hb none) (by cases v.ownBlock <;> simp)
def cells2 (l : List (Int × Int)) : List Value := l.flatMap fun p => [.int .i64 p.1, .int .i64 p.2]
theorem cells2_snoc (l : List (Int × Int)) (x y : Int) : cells2 (l ++ [(x, y)]) = cells2 l ++ [.int .i64 x, .int .i64 y] := by
  unfold cells2; rw [List.flatMap_append]; rfl
def cellsTo (a b c d : Int) (i : Nat) : List (Int × Int) := ((List.range i).filter fun (j : Nat) => hasB a b c d (atC (j : Int)) (atR (j : Int))).map fun (j : Nat) => (atC (j : Int), atR (j : Int))
theorem cellsTo_zero (a b c d : Int) : cellsTo a b c d 0 = [] := rfl
theorem cellsTo_yes {a b c d : Int} {i : Nat} (h : hasB a b c d (atC i) (atR i) = true) : cellsTo a b c d (i + 1) = cellsTo a b c d i ++ [(atC i, atR i)] := by
  unfold cellsTo; rw [List.range_succ, List.filter_append, List.map_append]; simp [h]
theorem cellsTo_no {a b c d : Int} {i : Nat} (h : hasB a b c d (atC i) (atR i) = false) : cellsTo a b c d (i + 1) = cellsTo a b c d i := by
  unfold cellsTo; rw [List.range_succ, List.filter_append, List.map_append]; simp [h]
theorem cellsTo_le (a b c d : Int) (i : Nat) : (cellsTo a b c d i).length ≤ i := by
  unfold cellsTo; rw [List.length_map]; exact Nat.le_trans (List.length_filter_le _ _) (by simp)

theorem place_info : (Tryd.prog.info? 24).map (fun i => (i.zero, i.size, i.bytes)) = some (some (.agg #[.int .i64 0, .int .i64 0]), 2, 16) := by kernel_rfl

def leftG (v : Value) : Nat := 1024 - (intOf v).toNat
end Go.Proofs.YthaoalmhhgllmaaDoor
namespace Go.Proofs.YthaoalmhhgllmaaDoor
open Go.RowKit
def isFig (c : UInt8) : Bool := decide (48 ≤ c.toNat ∧ c.toNat ≤ 57)
def isNam (c : UInt8) : Bool := decide (65 ≤ c.toNat ∧ c.toNat ≤ 90 ∨ 48 ≤ c.toNat ∧ c.toNat ≤ 57)
set_option maxHeartbeats 400000 in
theorem lfigure_at (c : Int) (w : World) (b0 b1 : Bool) (h0 : decide ((48 : Int) ≤ c) = b0) (h1 : decide (c ≤ 57) = b1) :
    Calls Tryd.prog 68 #[.int .u8 c] w fun e w' => e = .returned (.bool (b0 && b1)) ∧ w = w' := by
  cases b0 <;> cases b1
  all_goals
    go_enter Tryd.func68, Tryd.ntmps68
    go_wp2_with fail
    go_ret
    exact ⟨rfl, rfl⟩
theorem lfigure_any (c : UInt8) (w : World) :
    Calls Tryd.prog 68 #[.int .u8 (c.toNat : Int)] w fun e w' => e = .returned (.bool (isFig c)) ∧ w = w' :=
  (lfigure_at c.toNat w _ _ rfl rfl).mono fun _ _ ⟨he, hb⟩ => ⟨he.trans (ret_bool (by
    unfold isFig
    rw [Bool.eq_iff_iff]
    simp only [Bool.and_eq_true, decide_eq_true_eq]
    omega)), hb⟩
set_option maxHeartbeats 400000 in
theorem lnamed_at (c : Int) (w : World) (b0 b1 b2 b3 : Bool) (h0 : decide ((65 : Int) ≤ c) = b0) (h1 : decide (c ≤ 90) = b1) (h2 : decide ((48 : Int) ≤ c) = b2) (h3 : decide (c ≤ 57) = b3) :
    Calls Tryd.prog 70 #[.int .u8 c] w fun e w' => e = .returned (.bool (b0 && b1 || b2 && b3)) ∧ w = w' := by
  cases b0 <;> cases b1 <;> cases b2 <;> cases b3
  all_goals
    go_enter Tryd.func70, Tryd.ntmps70
    go_wp2_with fail
    go_ret
    exact ⟨rfl, rfl⟩
theorem lnamed_any (c : UInt8) (w : World) :
    Calls Tryd.prog 70 #[.int .u8 (c.toNat : Int)] w fun e w' => e = .returned (.bool (isNam c)) ∧ w = w' :=
  (lnamed_at c.toNat w _ _ _ _ rfl rfl rfl rfl).mono fun _ _ ⟨he, hb⟩ => ⟨he.trans (ret_bool (by
    unfold isNam
    rw [Bool.eq_iff_iff]
    simp only [Bool.or_eq_true, Bool.and_eq_true, decide_eq_true_eq]
    omega)), hb⟩

def wordB (l : List UInt8) : Bool := l == [73, 70] || l == [83, 85, 77] || l == [77, 73, 78] || l == [77, 65, 88] || l == [67, 79, 85, 78, 84]
set_option maxHeartbeats 400000 in
theorem lword_at (s : ByteArray) (w : World) (b0 b1 b2 b3 b4 : Bool) (h0 : (s.toList == [73, 70]) = b0) (h1 : (s.toList == [83, 85, 77]) = b1) (h2 : (s.toList == [77, 73, 78]) = b2) (h3 : (s.toList == [77, 65, 88]) = b3) (h4 : (s.toList == [67, 79, 85, 78, 84]) = b4) :
    Calls Tryd.prog 72 #[.string s] w fun e w' => e = .returned (.bool (b0 || b1 || b2 || b3 || b4)) ∧ w = w' := by
  cases b0 with
  | true =>
    go_enter Tryd.func72, Tryd.ntmps72
    go_wp2_with fail
    go_ret
    exact ⟨rfl, rfl⟩
  | false =>
    cases b1 with
    | true =>
      go_enter Tryd.func72, Tryd.ntmps72
      go_wp2_with fail
      go_ret
      exact ⟨rfl, rfl⟩
    | false =>
      cases b2 <;> cases b3 <;> cases b4
      all_goals
        go_enter Tryd.func72, Tryd.ntmps72
        go_wp2_with fail
        go_ret
        exact ⟨rfl, rfl⟩
theorem lword_any (s : ByteArray) (w : World) :
    Calls Tryd.prog 72 #[.string s] w fun e w' => e = .returned (.bool (wordB s.data.toList)) ∧ w = w' :=
  (lword_at s w _ _ _ _ _ rfl rfl rfl rfl rfl).mono fun _ _ ⟨he, hb⟩ => ⟨he.trans (ret_bool (by rw [ByteArray.toList_eq]; rfl)), hb⟩
end Go.Proofs.YthaoalmhhgllmaaDoor
namespace Go.Proofs.YthaoalmhhgllmaaDoor
open Go.RowKit
def letter (c : Int) : UInt8 := UInt8.ofNat (65 + c.toNat)
def letters : ByteArray := ⟨#[65, 66, 67, 68, 69, 70, 71, 72, 73, 74, 75, 76, 77, 78, 79, 80]⟩
theorem letters_at : ∀ k : Fin 16, (letters.extract k.val (k.val + 1)).data.toList = [UInt8.ofNat (65 + k.val)] := by decide +kernel
theorem letter_is (c : Int) (c0 : 0 ≤ c) (c1 : c ≤ 15) : (⟨#[65, 66, 67, 68, 69, 70, 71, 72, 73, 74, 75, 76, 77, 78, 79, 80]⟩ : ByteArray).extract c.toNat (c + 1).toNat = ⟨#[letter c]⟩ := by
  have e := letters_at ⟨c.toNat, by omega⟩
  have e2 : (c + 1).toNat = c.toNat + 1 := by omega
  rw [e2]
  have e4 : ∀ (a : ByteArray) (x : UInt8), a.data.toList = [x] → a = ⟨#[x]⟩ := fun a x hx => by
    obtain ⟨d⟩ := a
    congr
    exact Array.toList_inj.1 hx
  exact e4 _ _ e

theorem itoa_len (n : Int) (h : B64 n) : (Lib.itoa n).length ≤ 31 := by
  have h1 := digits_len n.natAbs (by unfold B64 at h; omega)
  have h2 := digits_len n.toNat (by unfold B64 at h; omega)
  unfold Lib.itoa
  split
  · simp; omega
  · omega
def placeText (c r : Int) : List UInt8 := if rightB c r = true then letter c :: Lib.itoa (r + 1) else []
set_option maxHeartbeats 1000000 in
theorem rtext2_yes (c r : Int) (w : World) (hr : rightB c r = true) :
    Calls Tryd.prog 88 #[.agg #[.int .i64 c, .int .i64 r]] w fun e w' => e = .returned (.string ⟨(placeText c r).toArray⟩) ∧ Below w.heap.size w w' := by
  have HR := Lib.hid (rright_any c r)
  obtain ⟨c0, c1, r0, r1⟩ := (rightB_iff c r).1 hr
  rw [hr] at HR
  have e1 := Lib.hid (show placeText c r = letter c :: Lib.itoa (r + 1) from if_pos hr)
  clear hr
  have hl := letter_is c c0 c1
  have hw1 : IntKind.i64.wrap (c + 1) = c + 1 := IntWalk.i64_in _ (by omega)
  have hw2 : IntKind.i64.wrap (r + 1) = r + 1 := IntWalk.i64_in _ (by omega)
  have hc1 : 0 ≤ c + 1 := by omega
  have hc2 : c + 1 ≤ 16 := by omega
  have HT := Lib.hid (rtext_any (r + 1) (by unfold B64; omega))
  have hlen := itoa_len (r + 1) (by unfold B64; omega)
  obtain ⟨D, hD⟩ : ∃ D, D = Lib.itoa (r + 1) := ⟨_, rfl⟩
  rw [← hD] at HT hlen e1
  clear hD
  go_enter Tryd.func88, Tryd.ntmps88
  go_wp2_with fail
  refine (HR.out _).mono ?_; rintro e w1 ⟨rfl, b1⟩
  have k0 := keep_fresh b1 0 (v := .int .i64 c) rfl
  have k1 := keep_fresh b1 1 (v := .int .i64 r) rfl
  go_wp2_with fail
  go_region_with ((first
    | (go_at_call 98; refine (HT.out _).mono ?_; rintro e w2 ⟨rfl, b2⟩; have m0 := keep_cell (W := w1.drew) b2 k0; have m1 := keep_cell (W := w1.drew) b2 k1)))
  all_goals
    go_wp2
    go_ret
    have h1 : Below w.heap.size w w1 := ((Below.refl _ _).alloc (Nat.le_refl _) _).trans (b1.mono (by simp))
    exact ⟨ret_str (by rw [e1.out, ByteArray.mk_append_mk]; simp), h1.drew.trans (b2.mono h1.size)⟩
set_option maxHeartbeats 400000 in
theorem rtext2_no (c r : Int) (w : World) (hr : rightB c r = false) :
    Calls Tryd.prog 88 #[.agg #[.int .i64 c, .int .i64 r]] w fun e w' => e = .returned (.string ⟨(placeText c r).toArray⟩) ∧ Below w.heap.size w w' := by
  have HR := Lib.hid (rright_any c r)
  have e1 := Lib.hid (show placeText c r = [] from if_neg (by rw [hr]; decide))
  rw [hr] at HR
  clear hr
  go_enter Tryd.func88, Tryd.ntmps88
  go_wp2_with fail
  refine (HR.out _).mono ?_; rintro e w1 ⟨rfl, b1⟩
  have h1 : Below w.heap.size w w1 := ((Below.refl _ _).alloc (Nat.le_refl _) _).trans (b1.mono (by simp))
  go_wp2_with fail
  go_ret
  exact ⟨ret_str (by rw [e1.out]), h1⟩
theorem rtext2_any (c r : Int) (w : World) :
    Calls Tryd.prog 88 #[.agg #[.int .i64 c, .int .i64 r]] w fun e w' => e = .returned (.string ⟨(placeText c r).toArray⟩) ∧ Below w.heap.size w w' := by
  cases hr : rightB c r with
  | true => exact rtext2_yes c r w hr
  | false => exact rtext2_no c r w hr
end Go.Proofs.YthaoalmhhgllmaaDoor
namespace Go.Proofs.YthaoalmhhgllmaaDoor
open Go.RowKit
theorem byte_at (s : ByteArray) (i : Nat) (h : i < s.size) : s.data.toList[i]? = some (s[i]'h) := by
  have h1 : i < s.data.toList.length := by rw [Array.length_toList]; exact h
  rw [List.getElem?_eq_getElem h1]
  rfl
theorem byte_getD (s : ByteArray) (i : Nat) (h : i < s.size) : s.data.toList.getD i 0 = (s[i]'h) := by
  rw [List.getD_eq_getElem?_getD, byte_at s i h]; rfl
theorem len_of (s : ByteArray) : s.data.toList.length = s.size := Array.length_toList

def formedB (l : List UInt8) : Bool := decide (2 ≤ l.length ∧ l.length ≤ 4 ∧ 65 ≤ (l.getD 0 0).toNat ∧ (l.getD 0 0).toNat ≤ 90 ∧ (l.getD 1 0).toNat ≠ 48) &&
  decide (∀ i, i < l.length → 1 ≤ i → 48 ≤ (l.getD i 0).toNat ∧ (l.getD i 0).toNat ≤ 57)

set_option maxHeartbeats 1000000 in
theorem rformed_any (s : ByteArray) (hs : s.size ≤ 9223372036854775807) (w : World) :
    Calls Tryd.prog 87 #[.string s] w fun e w' => e = .returned (.bool (formedB s.data.toList)) ∧ w = w' := by
  by_cases h2 : s.size < 2
  · have e1 := Lib.hid (show formedB s.data.toList = false from by
      unfold formedB; rw [len_of, decide_eq_false (by omega)]; rfl)
    have d1 : decide ((s.size : Int) < 2) = true := decide_eq_true (by omega)
    clear h2
    go_enter Tryd.func87, Tryd.ntmps87
    go_wp2_with fail
    go_ret
    exact ⟨ret_bool e1.out.symm, rfl⟩
  · have d1 : decide ((s.size : Int) < 2) = false := decide_eq_false (by omega)
    by_cases h4 : 4 < s.size
    · have e1 := Lib.hid (show formedB s.data.toList = false from by
        unfold formedB; rw [len_of, decide_eq_false (by omega)]; rfl)
      have d2 : decide ((4 : Int) < (s.size : Int)) = true := decide_eq_true (by omega)
      clear h2 h4
      go_enter Tryd.func87, Tryd.ntmps87
      go_wp2_with fail
      go_ret
      exact ⟨ret_bool e1.out.symm, rfl⟩
    · have d2 : decide ((4 : Int) < (s.size : Int)) = false := decide_eq_false (by omega)
      have s0 : 0 < s.size := by omega
      have s1 : 1 < s.size := by omega
      have g0 := Lib.hid (byte_getD s 0 s0)
      have g1 := Lib.hid (byte_getD s 1 s1)
      by_cases ha : 65 ≤ (s[0]'s0).toNat ∧ (s[0]'s0).toNat ≤ 90 ∧ (s[1]'s1).toNat ≠ 48
      · obtain ⟨a1, a2, a3⟩ := ha
        have d3 : decide (((s[0]'s0).toNat : Int) < 65) = false := decide_eq_false (by omega)
        have d4 : decide ((90 : Int) < ((s[0]'s0).toNat : Int)) = false := decide_eq_false (by omega)
        have d5 : (((s[1]'s1).toNat : Int) == 48) = false := by rw [beq_eq_false_iff_ne]; omega
        have e0 := Lib.hid (show formedB s.data.toList = decide (∀ i, i < s.data.toList.length → 1 ≤ i → 48 ≤ (s.data.toList.getD i 0).toNat ∧ (s.data.toList.getD i 0).toNat ≤ 57) from by
          unfold formedB
          rw [g0.out, g1.out, len_of, decide_eq_true (p := 2 ≤ s.size ∧ _) (by omega), Bool.true_and])
        clear a1 a2 a3 h2
        go_enter Tryd.func87, Tryd.ntmps87
        go_wp2_with fail
        go_loop [3] (fun v => ∃ i : Nat, 1 ≤ i ∧ i ≤ s.size ∧ v = .int .i64 i ∧ Hid (∀ j, j < i → 1 ≤ j → 48 ≤ (s.data.toList.getD j 0).toNat ∧ (s.data.toList.getD j 0).toNat ≤ 57)) (fun v => s.size - (intOf v).toNat)
        case atStart => exact ⟨1, Nat.le_refl _, by omega, rfl, Lib.hid fun j hj hj1 => by omega⟩
        case round =>
          obtain ⟨i, hi1, hi, rfl, HU⟩ := hrel
          by_cases hlt : i < s.size
          · have gi := Lib.hid (byte_getD s i hlt)
            by_cases hdig : 48 ≤ (s[i]'hlt).toNat ∧ (s[i]'hlt).toNat ≤ 57
            · have HS : Hid (∀ j, j < i + 1 → 1 ≤ j → 48 ≤ (s.data.toList.getD j 0).toNat ∧ (s.data.toList.getD j 0).toNat ≤ 57) := Lib.hid fun j hj hj1 => by
                by_cases e : j = i
                · subst e; rw [gi.out]; exact hdig
                · exact HU.out j (by omega) hj1
              obtain ⟨q1, q2⟩ := hdig
              have t1 : decide (((s[i]'hlt).toNat : Int) < 48) = false := decide_eq_false (by omega)
              have t2 : decide ((57 : Int) < ((s[i]'hlt).toNat : Int)) = false := decide_eq_false (by omega)
              clear q1 q2
              go_wp2_with fail
              go_round
              case rel => exact ⟨i + 1, by omega, by omega, by go_num, HS⟩
              case measure => simp [intOf]; omega
            · have e1 := Lib.hid (show formedB s.data.toList = false from by
                rw [e0.out]
                refine decide_eq_false fun h => hdig ?_
                have := h i (by rw [len_of]; exact hlt) hi1
                rwa [gi.out] at this)
              by_cases q1 : (s[i]'hlt).toNat < 48
              · have t1 : decide (((s[i]'hlt).toNat : Int) < 48) = true := decide_eq_true (by omega)
                clear hdig q1
                go_wp2_with fail
                go_ret
                exact ⟨ret_bool e1.out.symm, rfl⟩
              · have t1 : decide (((s[i]'hlt).toNat : Int) < 48) = false := decide_eq_false (by omega)
                have t2 : decide ((57 : Int) < ((s[i]'hlt).toNat : Int)) = true := decide_eq_true (by omega)
                clear hdig q1
                go_wp2_with fail
                go_ret
                exact ⟨ret_bool e1.out.symm, rfl⟩
          · have e1 := Lib.hid (show formedB s.data.toList = true from by
              rw [e0.out]
              refine decide_eq_true fun j hj hj1 => HU.out j (by rw [len_of] at hj; omega) hj1)
            go_wp2_with fail
            go_ret
            exact ⟨ret_bool e1.out.symm, rfl⟩
      · have e1 := Lib.hid (show formedB s.data.toList = false from by
          unfold formedB
          rw [g0.out, g1.out, len_of, decide_eq_false (p := 2 ≤ s.size ∧ _) (by omega), Bool.false_and])
        by_cases a1 : (s[0]'s0).toNat < 65
        · have d3 : decide (((s[0]'s0).toNat : Int) < 65) = true := decide_eq_true (by omega)
          clear a1 ha h2 h4
          go_enter Tryd.func87, Tryd.ntmps87
          go_wp2_with fail
          go_ret
          exact ⟨ret_bool e1.out.symm, rfl⟩
        · have d3 : decide (((s[0]'s0).toNat : Int) < 65) = false := decide_eq_false (by omega)
          by_cases a2 : 90 < (s[0]'s0).toNat
          · have d4 : decide ((90 : Int) < ((s[0]'s0).toNat : Int)) = true := decide_eq_true (by omega)
            clear a1 a2 ha h2 h4
            go_enter Tryd.func87, Tryd.ntmps87
            go_wp2_with fail
            go_ret
            exact ⟨ret_bool e1.out.symm, rfl⟩
          · have d4 : decide ((90 : Int) < ((s[0]'s0).toNat : Int)) = false := decide_eq_false (by omega)
            have d5 : (((s[1]'s1).toNat : Int) == 48) = true := by rw [beq_iff_eq]; omega
            clear a1 a2 ha h2 h4
            go_enter Tryd.func87, Tryd.ntmps87
            go_wp2_with fail
            go_ret
            exact ⟨ret_bool e1.out.symm, rfl⟩
end Go.Proofs.YthaoalmhhgllmaaDoor
namespace Go.Proofs.YthaoalmhhgllmaaDoor
open Go.RowKit
def numV (l : List UInt8) : Option Nat := match Lib.decFrom 0 l with | some u => if u ≤ 9223372036854775807 then some u else none | none => none
def numN (l : List UInt8) : Int := match numV l with | some u => (u : Int) | none => 0
theorem dec_snoc {l : List UInt8} {i n : Nat} {c : UInt8} (h : Lib.decFrom 0 (l.take i) = some n) (hc : l[i]? = some c) (hf : isFig c = true) : Lib.decFrom 0 (l.take (i + 1)) = some (n * 10 + (c.toNat - 48)) := by
  have hd : Lib.digitVal c = some (c.toNat - 48) := by
    have hq : 48 ≤ c.toNat ∧ c.toNat ≤ 57 := of_decide_eq_true hf
    have := digitVal_of (d := c.toNat - 48) (by omega)
    rwa [show 48 + (c.toNat - 48) = c.toNat from by omega, show UInt8.ofNat c.toNat = c from by simp] at this
  rw [List.take_add_one, hc]
  show Lib.decFrom 0 (l.take i ++ [c]) = _
  rw [decFrom_append, h]
  simp [hd]
theorem dec_split {l : List UInt8} {i n u : Nat} (h : Lib.decFrom 0 (l.take i) = some n) (hu : Lib.decFrom 0 l = some u) : n ≤ u := by
  have e : l = l.take i ++ l.drop i := (List.take_append_drop i l).symm
  have h2 : ∀ (a b : List UInt8) (x y : Nat), Lib.decFrom x a = some y → Lib.decFrom x (a ++ b) = Lib.decFrom y b := by
    intro a
    induction a with
    | nil => intro b x y h; simp [Lib.decFrom] at h; subst h; rfl
    | cons c r ih =>
      intro b x y h
      simp only [List.cons_append, Lib.decFrom] at h ⊢
      cases hd : Lib.digitVal c with
      | none => rw [hd] at h; cases h
      | some d => rw [hd] at h; exact ih b _ y h
  rw [e, h2 _ _ _ _ h] at hu
  exact decFrom_le _ _ _ hu

set_option maxHeartbeats 1000000 in
theorem lnumber_any (s : ByteArray) (hs : s.size ≤ 9223372036854775807) (hf : ∀ i (h : i < s.size), isFig (s[i]'h) = true) (w : World) :
    Calls Tryd.prog 69 #[.string s] w fun e w' => e = .returned (.tuple #[.int .i64 (numN s.data.toList), .bool (numV s.data.toList).isSome]) ∧ w = w' := by
  have HF := Lib.hid hf
  clear hf
  go_enter Tryd.func69, Tryd.ntmps69
  go_wp2_with fail
  go_loop [4, 5] (fun vn vi => ∃ i n : Nat, i ≤ s.size ∧ n ≤ 9223372036854775807 ∧ vi = .int .i64 i ∧ vn = .int .i64 n ∧ Hid (Lib.decFrom 0 (s.data.toList.take i) = some n)) (fun _ vi => s.size - (intOf vi).toNat)
  case atStart => exact ⟨0, 0, Nat.zero_le _, Nat.zero_le _, rfl, rfl, Lib.hid (by simp [Lib.decFrom])⟩
  case round =>
    obtain ⟨i, n, hi, hn, rfl, rfl, HU⟩ := hrel
    by_cases hlt : i < s.size
    · have hc := HF.out i hlt
      have hb : 48 ≤ (s[i]'hlt).toNat ∧ (s[i]'hlt).toNat ≤ 57 := of_decide_eq_true hc
      have HS := Lib.hid (dec_snoc HU.out (byte_at s i hlt) hc)
      obtain ⟨b1, b2⟩ := hb
      clear hc
      by_cases hq : (9223372036854775807 - (((s[i]'hlt).toNat : Int) - 48)) / 10 < (n : Int)
      · have hN : numV s.data.toList = none := by
          unfold numV
          cases hu : Lib.decFrom 0 s.data.toList with
          | none => rfl
          | some u =>
            have h1 := dec_split HS.out hu
            have h2 : 9223372036854775807 < u := by omega
            show (if u ≤ 9223372036854775807 then some u else none) = none
            rw [if_neg (by omega)]
        have HN := Lib.hid hN
        clear hN
        go_wp2_with fail
        go_ret2
        exact ⟨ret_pair (by unfold numN; rw [HN.out]) (by rw [HN.out]; rfl), rfl⟩
      · have hm : n * 10 + ((s[i]'hlt).toNat - 48) ≤ 9223372036854775807 := by omega
        go_wp2_with fail
        go_round
        case rel => exact ⟨i + 1, n * 10 + ((s[i]'hlt).toNat - 48), by omega, hm, by go_num, by first | go_num | (congr 1; omega), HS⟩
        case measure => simp [intOf]; omega
    · have hN : numV s.data.toList = some n := by
        have h1 := HU.out
        rw [List.take_of_length_le (by rw [len_of]; omega)] at h1
        unfold numV
        rw [h1]
        exact if_pos hn
      have HN := Lib.hid hN
      clear hN
      go_wp2_with fail
      go_ret2
      exact ⟨ret_pair (by unfold numN; rw [HN.out]) (by rw [HN.out]; rfl), rfl⟩
end Go.Proofs.YthaoalmhhgllmaaDoor
