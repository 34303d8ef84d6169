/- Texts joined: TrY, SyS, PrAp, RtS, CeE, TrH, Eig. -/
import Derived.Test.YthaoalmhhgllmaaDoorMb12
import Derived.Test.YthaoalmhhgllmaaDoorMb06
import Derived.Test.YthaoalmhhgllmaaDoorMb02
import Derived.Test.YthaoalmhhgllmaaDoorMb05
import Derived.Test.YthaoalmhhgllmaaDoorMb11
import Derived.Test.YthaoalmhhgllmaaDoorMb10
set_option linter.all false
namespace Go.Proofs.YthaoalmhhgllmaaDoor
open Go.RowKit
set_option maxHeartbeats 2000000 in
set_option maxRecDepth 10000 in
theorem rmay_none (t : Tr) (w : World) (A : Option Addr) (cap : Nat) (h0 : t.kind ≠ 0) (h1 : t.kind ≠ 1) (h2 : t.kind ≠ 2) (h6 : t.kind ≠ 6) (h3 : t.kind ≠ 3) (h4 : t.kind ≠ 4) (h5 : t.kind ≠ 5) :
    Calls Tryd.prog 38 #[tv t A cap] w fun e w' => e = .returned (.bool (mayB t)) ∧ Below w.heap.size w w' := by
  unfold tv
  have HM := Lib.hid (may_no h0 h1 h2 h6 h3 h4 h5)
  have s0 : (t.kind == 0) = false := by rw [beq_eq_false_iff_ne]; exact h0
  have s1 : (t.kind == 1) = false := by rw [beq_eq_false_iff_ne]; exact h1
  have s2 : (t.kind == 2) = false := by rw [beq_eq_false_iff_ne]; exact h2
  have s6 : (t.kind == 6) = false := by rw [beq_eq_false_iff_ne]; exact h6
  have s3 : (t.kind == 3) = false := by rw [beq_eq_false_iff_ne]; exact h3
  have s4 : (t.kind == 4) = false := by rw [beq_eq_false_iff_ne]; exact h4
  have s5 : (t.kind == 5) = false := by rw [beq_eq_false_iff_ne]; exact h5
  clear h0 h1 h2 h6 h3 h4 h5
  go_enter Tryd.func38, Tryd.ntmps38
  go_wp2_with fail
  go_ret
  exact ⟨by rw [HM.out]; rfl, (Below.refl _ _).alloc (Nat.le_refl _) _⟩
theorem rmay_any : ∀ d, MayC d
  | 0 => fun t h => by rw [deep_eq] at h; omega
  | d + 1 => by
    have ih := rmay_any d
    intro t hd hw w P A cap hk
    have hdl := kids_deep hd
    by_cases h0 : t.kind = 0
    · exact rmay_0 t w A cap h0
    by_cases h1 : t.kind = 1
    · exact rmay_1 t w A cap h1
    by_cases h2 : t.kind = 2
    · exact rmay_2 t w A cap h2
    by_cases h6 : t.kind = 6
    · exact rmay_6 t w A cap h6
    by_cases h3 : t.kind = 3
    · exact rmay_3 t w A cap ih hdl hw P hk h3
    by_cases h4 : t.kind = 4
    · exact rmay_4 t w A cap ih hdl hw P hk h4
    by_cases h5 : t.kind = 5
    · by_cases e1 : t.word = [73, 70]
      · exact rmay_5IF t w A cap ih hdl hw P hk e1 h5
      by_cases e2 : t.word = [83, 85, 77]
      · exact rmay_5SUM t w A cap ih hdl hw P hk e2 h5
      by_cases e3 : t.word = [77, 73, 78]
      · exact rmay_5MIN t w A cap ih hdl hw P hk e3 h5
      by_cases e4 : t.word = [77, 65, 88]
      · exact rmay_5MAX t w A cap ih hdl hw P hk e4 h5
      by_cases e5 : t.word = [67, 79, 85, 78, 84]
      · exact rmay_5COUNT t w A cap ih hdl hw P hk e5 h5
      exact rmay_5no t w A cap ih hdl hw P hk e1 e2 e3 e4 e5 h5
    exact rmay_none t w A cap h0 h1 h2 h6 h3 h4 h5
def rightT (t : Tr) : Bool := decide (deepT t ≤ 16) && (t.kind != 6 && mayB t)
set_option maxHeartbeats 2000000 in
set_option maxRecDepth 10000 in
theorem rRight_any (t : Tr) (hd : deepT t ≤ 1000000000) (hw : Wid t) (w : World) (P : Nat → Prop) (A : Option Addr) (cap : Nat) (hk : KV w P t A) :
    Calls Tryd.prog 22 #[tv t A cap] w fun e w' => e = .returned (.bool (rightT t)) ∧ Below w.heap.size w w' := by
  have HD := Lib.hid fun (w : World) (P : Nat → Prop) hk => rdeep_any _ t hd (Nat.le_refl _) hw w P A cap hk
  have HM := Lib.hid fun (w : World) (P : Nat → Prop) hk => rmay_any _ t hd hw w P A cap hk
  have HK := Lib.hid hk
  unfold tv at HD HM
  unfold tv
  have HR : Hid (rightT t = (decide (deepT t ≤ 16) && (t.kind != 6 && mayB t))) := Lib.hid rfl
  clear hk hw
  have hm6 : (t.kind != 6) = !(t.kind == 6) := rfl
  by_cases hq : deepT t ≤ 16
  · have d0 : decide (16 < deepT t) = false := decide_eq_false (by omega)
    rw [decide_eq_true hq] at HR
    cases h6 : (t.kind == 6) with
    | true =>
      rw [hm6, h6] at HR
      clear hm6
      go_enter Tryd.func22, Tryd.ntmps22
      go_wp2_with fail
      refine (HD.out _ _ (HK.out.kept ((Kept.refl _ _).alloc _))).mono ?_; rintro e w1 ⟨rfl, b1⟩
      have k0 := keep_fresh b1 0 (v := .int .i64 t.kind) rfl
      have h1 : Below w.heap.size w w1 := ((Below.refl _ _).alloc (Nat.le_refl _) _).trans (b1.mono (by simp))
      clear b1
      go_wp2_with fail
      go_ret
      exact ⟨by rw [HR.out]; rfl, h1⟩
    | false =>
      rw [hm6, h6] at HR
      clear hm6
      go_enter Tryd.func22, Tryd.ntmps22
      go_wp2_with fail
      refine (HD.out _ _ (HK.out.kept ((Kept.refl _ _).alloc _))).mono ?_; rintro e w1 ⟨rfl, b1⟩
      have k0 := keep_fresh b1 0 (v := .int .i64 t.kind) rfl
      have k1 := keep_fresh b1 1 (v := .int .i64 t.num) rfl
      have k2 := keep_fresh b1 2 (v := .int .i64 t.c1) rfl
      have k3 := keep_fresh b1 3 (v := .int .i64 t.r1) rfl
      have k4 := keep_fresh b1 4 (v := .int .i64 t.c2) rfl
      have k5 := keep_fresh b1 5 (v := .int .i64 t.r2) rfl
      have k6 := keep_fresh b1 6 (v := .string ⟨t.word.toArray⟩) rfl
      have k7 := keep_fresh b1 7 (v := .slice A t.kids.length cap) rfl
      have h1 : Below w.heap.size w w1 := ((Below.refl _ _).alloc (Nat.le_refl _) _).trans (b1.mono (by simp))
      clear b1
      go_wp2_with fail
      refine (HM.out _ _ (HK.out.kept (Kept.of_below h1))).mono ?_; rintro e w2 ⟨rfl, b2⟩
      go_wp2_with fail
      go_ret
      exact ⟨by rw [HR.out]; rfl, h1.trans (b2.mono h1.size)⟩
  · have d0 : decide (16 < deepT t) = true := decide_eq_true (by omega)
    rw [decide_eq_false hq] at HR
    clear hm6
    go_enter Tryd.func22, Tryd.ntmps22
    go_wp2_with fail
    refine (HD.out _ _ (HK.out.kept ((Kept.refl _ _).alloc _))).mono ?_; rintro e w1 ⟨rfl, b1⟩
    have k0 := keep_fresh b1 0 (v := .int .i64 t.kind) rfl
    have h1 : Below w.heap.size w w1 := ((Below.refl _ _).alloc (Nat.le_refl _) _).trans (b1.mono (by simp))
    clear b1
    go_wp2_with fail
    go_ret
    exact ⟨by rw [HR.out]; rfl, h1⟩
end Go.Proofs.YthaoalmhhgllmaaDoor
namespace Go.Proofs.YthaoalmhhgllmaaDoor
theorem allB_iff {ks : List Tr} {a b : Bool} : allB ks a b = true ↔ ∀ t ∈ ks, mayB t = true ∧ (a = true ∨ t.kind ≠ 6) ∧ (b = false ∨ t.kind = 6 ∨ t.kind = 2) := by
  refine ⟨all_mem, fun h => ?_⟩
  induction ks with
  | nil => rw [allB]
  | cons u r ih =>
    rw [allB]
    obtain ⟨h1, h2, h3⟩ := h u (by simp)
    simp only [Bool.and_eq_true, Bool.or_eq_true, Bool.not_eq_true', bne_iff_ne, beq_iff_eq]
    exact ⟨⟨h1, h2, by rcases h3 with h3 | h3 | h3; exact .inl (.inl h3); exact .inl (.inr h3); exact .inr h3⟩, ih fun t ht => h t (by simp [ht])⟩
theorem deepL_iff {ks : List Tr} {d : Nat} : deepL ks ≤ d ↔ ∀ u ∈ ks, deepT u ≤ d := by
  induction ks with
  | nil => simp [deepL]
  | cons u r ih =>
    rw [deepL]
    constructor
    · intro h v hv
      rcases List.mem_cons.1 hv with rfl | hv
      · omega
      · exact ih.1 (by omega) v hv
    · intro h
      have h1 := h u (by simp)
      have h2 := ih.2 fun v hv => h v (by simp [hv])
      omega
theorem any_span {ks : List Tr} : ks.any (fun t => t.kind == 6) = false ↔ ∀ t ∈ ks, t.kind ≠ 6 := by
  rw [Bool.eq_false_iff]
  simp [List.any_eq_true]
theorem any_unc {ks : List Tr} : ks.any (fun t => (t.kind != 6) && (t.kind != 2)) = false ↔ ∀ t ∈ ks, t.kind = 6 ∨ t.kind = 2 := by
  rw [Bool.eq_false_iff]
  simp [List.any_eq_true]
  constructor
  · intro h t ht
    by_cases h6 : t.kind = 6
    · exact .inl h6
    · exact .inr (h t ht h6)
  · intro h t ht h6
    exact (h t ht).resolve_left h6
theorem allB_span {ks : List Tr} : allB ks false false = true ↔ ks.any (fun t => t.kind == 6) = false ∧ ∀ u ∈ ks, mayB u = true := by
  rw [allB_iff, any_span]
  constructor
  · intro h
    refine ⟨fun t ht => ?_, fun t ht => (h t ht).1⟩
    rcases (h t ht).2.1 with h1 | h1
    · cases h1
    · exact h1
  · intro h t ht
    exact ⟨h.2 t ht, .inr (h.1 t ht), .inl rfl⟩
theorem allB_free {ks : List Tr} : allB ks true false = true ↔ ∀ u ∈ ks, mayB u = true := by
  rw [allB_iff]
  exact ⟨fun h t ht => (h t ht).1, fun h t ht => ⟨h t ht, .inl rfl, .inl rfl⟩⟩
theorem allB_unc {ks : List Tr} : allB ks true true = true ↔ ks.any (fun t => (t.kind != 6) && (t.kind != 2)) = false ∧ ∀ u ∈ ks, mayB u = true := by
  rw [allB_iff, any_unc]
  constructor
  · intro h
    refine ⟨fun t ht => ?_, fun t ht => (h t ht).1⟩
    rcases (h t ht).2.2 with h1 | h1
    · cases h1
    · exact h1
  · intro h t ht
    exact ⟨h.2 t ht, .inl rfl, .inr (h.1 t ht)⟩
theorem only_bool (k : Int) (hk : k = 3 ∨ k = 4 ∨ k = 5) : ∀ a b b2 b3 b4 e l g : Bool, ((k == 0 || a) && ((k == 1 || k == 6 || (b && b2 && b3 && b4)) && ((k == 4 || k == 5 || e) && l))) =
    (!(((!a) && (k != 0)) || (((!(b && b2 && (b3 && b4))) && ((k != 1) && (k != 6))) || (((!e) && ((k != 4) && (k != 5))) || (g && ((k != 3) && ((k != 4) && (k != 5))))))) && l) := by
  rcases hk with rfl | rfl | rfl <;> decide
theorem only_spare (k n c r d s : Int) (w : List UInt8) (ks : List Tr) (m : Nat) (hk : k = 3 ∨ k = 4 ∨ k = 5) :
    onlyB (.mk k n c r d s w ks) m = (!spareB (.mk k n c r d s w ks) && (ks.length == m)) :=
  only_bool k hk (n == 0) (c == 0) (r == 0) (d == 0) (s == 0) (w == []) (ks.length == m) (decide ((0 : Int) < (ks.length : Int)))
theorem rest_bool : ∀ a b b2 b3 b4 e l k0 k1 k6 : Bool, (((!a) && (!k0)) || (((!(b && b2 && (b3 && b4))) && ((!k1) && (!k6))) || (((!e) && ((!false) && (!false))) || ((!l) && ((!false) && ((!false) && (!false)))))) ) =
    !((k0 || a) && ((k1 || k6 || (b && b2 && b3 && b4)) && (e && l))) := by decide
theorem may_level (t : Tr) : mayB t = true ↔ spareB t = false ∧ soundB t = true ∧ ∀ u ∈ t.kids, mayB u = true := by
  cases t with
  | mk k n c r d s w ks =>
    by_cases h3 : k = 3
    · subst h3
      have hm : mayB (.mk 3 n c r d s w ks) = (onlyB (.mk 3 n c r d s w ks) 1 && allB ks false false) := by rw [mayB]; rfl
      have hs : soundB (.mk 3 n c r d s w ks) = ((ks.length == 1) && !ks.any (fun t => t.kind == 6)) := rfl
      rw [hm, hs, only_spare _ _ _ _ _ _ _ _ _ (.inl rfl)]
      show _ ↔ _ ∧ _ ∧ ∀ u ∈ ks, _
      simp only [Bool.and_eq_true, Bool.not_eq_true', allB_span]
      exact ⟨fun h => ⟨h.1.1, ⟨h.1.2, h.2.1⟩, h.2.2⟩, fun h => ⟨⟨h.1, h.2.1.1⟩, h.2.1.2, h.2.2⟩⟩
    · by_cases h4 : k = 4
      · subst h4
        have hm : mayB (.mk 4 n c r d s w ks) = (onlyB (.mk 4 n c r d s w ks) 2 && (allB ks false false && decide (1 ≤ lvl w))) := by rw [mayB]; rfl
        have hs : soundB (.mk 4 n c r d s w ks) = (decide (0 ≤ (lvl w : Int) - 1) && ((ks.length == 2) && !ks.any (fun t => t.kind == 6))) := rfl
        rw [hm, hs, only_spare _ _ _ _ _ _ _ _ _ (.inr (.inl rfl))]
        show _ ↔ _ ∧ _ ∧ ∀ u ∈ ks, _
        simp only [Bool.and_eq_true, Bool.not_eq_true', allB_span, decide_eq_true_eq]
        exact ⟨fun h => ⟨h.1.1, ⟨by omega, h.1.2, h.2.1.1⟩, h.2.1.2⟩, fun h => ⟨⟨h.1, h.2.1.2.1⟩, ⟨h.2.1.2.2, h.2.2⟩, by have := h.2.1.1; omega⟩⟩
      · by_cases h5 : k = 5
        · subst h5
          have hm : mayB (.mk 5 n c r d s w ks) = (onlyB (.mk 5 n c r d s w ks) ks.length && (allB ks (w != [73, 70]) (w == [67, 79, 85, 78, 84]) && (if w = [73, 70] then ks.length == 3 else if w = [83, 85, 77] ∨ w = [77, 73, 78] ∨ w = [77, 65, 88] ∨ w = [67, 79, 85, 78, 84] then decide (0 < ks.length) else false))) := by rw [mayB]; rfl
          have hs : soundB (.mk 5 n c r d s w ks) = (if w = [73, 70] then ((ks.length == 3) && !ks.any (fun t => t.kind == 6)) else if w = [83, 85, 77] ∨ w = [77, 73, 78] ∨ w = [77, 65, 88] then decide ((0 : Int) < (ks.length : Int)) else if w = [67, 79, 85, 78, 84] then decide ((0 : Int) < (ks.length : Int)) && !ks.any (fun t => (t.kind != 6) && (t.kind != 2)) else false) := rfl
          rw [hm, hs, only_spare _ _ _ _ _ _ _ _ _ (.inr (.inr rfl))]
          show _ ↔ _ ∧ _ ∧ ∀ u ∈ ks, _
          clear hm hs
          have hd : (decide (0 < ks.length) = true) ↔ (decide ((0 : Int) < (ks.length : Int)) = true) := by
            rw [decide_eq_true_eq, decide_eq_true_eq]; omega
          by_cases w1 : w = [73, 70]
          · subst w1
            rw [show (([73, 70] : List UInt8) != [73, 70]) = false from by decide, show (([73, 70] : List UInt8) == [67, 79, 85, 78, 84]) = false from by decide, if_pos rfl, if_pos rfl]
            simp only [Bool.and_eq_true, Bool.not_eq_true', allB_span, beq_self_eq_true, and_true]
            exact ⟨fun h => ⟨h.1, ⟨h.2.2, h.2.1.1⟩, h.2.1.2⟩, fun h => ⟨h.1, ⟨h.2.1.2, h.2.2⟩, h.2.1.1⟩⟩
          · rw [if_neg w1, if_neg w1, show (w != [73, 70]) = true from by simp [w1]]
            by_cases w2 : w = [83, 85, 77] ∨ w = [77, 73, 78] ∨ w = [77, 65, 88]
            · rw [if_pos w2, if_pos (by rcases w2 with h | h | h; exact .inl h; exact .inr (.inl h); exact .inr (.inr (.inl h))), show (w == [67, 79, 85, 78, 84]) = false from by rcases w2 with rfl | rfl | rfl <;> decide]
              simp only [Bool.and_eq_true, Bool.not_eq_true', allB_free, beq_self_eq_true, and_true, hd]
              exact ⟨fun h => ⟨h.1, h.2.2, h.2.1⟩, fun h => ⟨h.1, h.2.2, h.2.1⟩⟩
            · rw [if_neg w2]
              by_cases w3 : w = [67, 79, 85, 78, 84]
              · subst w3
                rw [if_pos (.inr (.inr (.inr rfl))), if_pos rfl, show (([67, 79, 85, 78, 84] : List UInt8) == [67, 79, 85, 78, 84]) = true from by decide]
                simp only [Bool.and_eq_true, Bool.not_eq_true', allB_unc, beq_self_eq_true, and_true, hd]
                exact ⟨fun h => ⟨h.1, ⟨h.2.2, h.2.1.1⟩, h.2.1.2⟩, fun h => ⟨h.1, ⟨h.2.1.2, h.2.2⟩, h.2.1.1⟩⟩
              · rw [if_neg w3, if_neg (by rintro (h | h | h | h); exact w2 (.inl h); exact w2 (.inr (.inl h)); exact w2 (.inr (.inr h)); exact w3 h)]
                simp
        · have hs : ∀ m, onlyB (.mk k n c r d s w ks) m = ((k == 0 || n == 0) && ((k == 1 || k == 6 || (c == 0 && r == 0 && d == 0 && s == 0)) && ((w == []) && ks.length == m))) := by
            intro m
            show ((k == 0 || n == 0) && ((k == 1 || k == 6 || (c == 0 && r == 0 && d == 0 && s == 0)) && ((k == 4 || k == 5 || w == []) && ks.length == m))) = _
            rw [show (k == 4) = false from by simp [h4], show (k == 5) = false from by simp [h5]]
            rfl
          have hs0 : ∀ x : Bool, (x = true → True) := fun _ _ => trivial
          have hsp : spareB (.mk k n c r d s w ks) = !onlyB (.mk k n c r d s w ks) 0 := by
            rw [hs]
            have hl : decide ((0 : Int) < (ks.length : Int)) = !(ks.length == 0) := by
              cases ks <;> simp
            have hu : spareB (.mk k n c r d s w ks) = (((!(n == 0)) && (!(k == 0))) || (((!((c == 0) && (r == 0) && ((d == 0) && (s == 0)))) && ((!(k == 1)) && (!(k == 6)))) || (((!(w == [])) && ((!(k == 4)) && (!(k == 5)))) || ((decide ((0 : Int) < (ks.length : Int))) && ((!(k == 3)) && ((!(k == 4)) && (!(k == 5)))))))) := rfl
            rw [hu, hl, show (k == 3) = false from by simp [h3], show (k == 4) = false from by simp [h4], show (k == 5) = false from by simp [h5]]
            exact rest_bool _ _ _ _ _ _ _ _ _ _
          have hk : onlyB (.mk k n c r d s w ks) 0 = true → ∀ u ∈ ks, mayB u = true := by
            intro h u hu
            rw [hs] at h
            simp only [Bool.and_eq_true, beq_iff_eq, List.length_eq_zero_iff] at h
            rw [h.2.2.2] at hu; cases hu
          rw [hsp, mayB]
          generalize ho : onlyB (.mk k n c r d s w ks) 0 = o at *
          rw [if_neg h3, if_neg h4, if_neg h5]
          have hsd : soundB (.mk k n c r d s w ks) = (if k = 0 then decide (0 ≤ n) else if k = 1 then rightB c r && (c == d && r == s) else if k = 2 then true
  else if k = 3 then exprsB ks 1 else if k = 4 then decide (0 ≤ (lvl w : Int) - 1) && exprsB ks 2 else if k = 5 then calledB w ks
  else if k = 6 then wholeB c r d s else false) := rfl
          rw [hsd, if_neg h3, if_neg h4, if_neg h5]
          show _ ↔ _ ∧ _ ∧ ∀ u ∈ ks, _
          have hw : wholeB c r d s = (rightB c r && rightB d s && decide (c ≤ d) && decide (r ≤ s)) := by
            rw [Bool.eq_iff_iff, wholeB_iff]
            simp only [Bool.and_eq_true, decide_eq_true_eq, rightB_iff]
            omega
          rw [hw]
          cases o with
          | false =>
            have : ∀ p q r s : Prop, ∀ [Decidable p] [Decidable q] [Decidable r] [Decidable s], ∀ x y z : Bool, (if p then false && x else if q then false && y else if r then false else if s then false && z else false) = false := by
              intro p q r s _ _ _ _ x y z
              split
              · rfl
              · split
                · rfl
                · split
                  · rfl
                  · split <;> rfl
            rw [this]
            simp
          | true =>
            simp only [Bool.true_and, Bool.not_true, true_and]
            by_cases h0 : k = 0
            · rw [if_pos h0]
              exact ⟨fun h => ⟨h, hk rfl⟩, fun h => h.1⟩
            · by_cases h1 : k = 1
              · rw [if_neg h0, if_pos h1]
                exact ⟨fun h => ⟨h, hk rfl⟩, fun h => h.1⟩
              · by_cases h2 : k = 2
                · rw [if_neg h0, if_neg h1, if_pos h2]
                  exact ⟨fun h => ⟨h, hk rfl⟩, fun h => h.1⟩
                · rw [if_neg h0, if_neg h1, if_neg h2]
                  by_cases h6 : k = 6
                  · rw [if_pos h6]
                    exact ⟨fun h => ⟨h, hk rfl⟩, fun h => h.1⟩
                  · rw [if_neg h6]
                    exact ⟨fun h => ⟨h, hk rfl⟩, fun h => h.1⟩
theorem fit_may : ∀ (d : Nat) (t : Tr), fitB d t = true ↔ deepT t ≤ d ∧ mayB t = true := by
  intro d
  induction d with
  | zero =>
    intro t
    unfold fitB
    cases t
    rw [deepT]
    simp
  | succ d ih =>
    intro t
    rw [may_level]
    unfold fitB
    simp only [Bool.and_eq_true, Bool.not_eq_true', List.all_eq_true]
    cases t with
    | mk k n c r e s w ks =>
      rw [deepT]
      simp only [Tr.kids]
      have hd : deepL ks + 1 ≤ d + 1 ↔ ∀ u ∈ ks, deepT u ≤ d := by rw [← deepL_iff]; omega
      rw [hd]
      exact ⟨fun h => ⟨fun u hu => ((ih u).1 (h.2.2 u hu)).1, h.1, h.2.1, fun u hu => ((ih u).1 (h.2.2 u hu)).2⟩, fun h => ⟨h.2.1, h.2.2.1, fun u hu => (ih u).2 ⟨h.1 u hu, h.2.2.2 u hu⟩⟩⟩
end Go.Proofs.YthaoalmhhgllmaaDoor
namespace Go.Proofs.YthaoalmhhgllmaaDoor
open Go.RowKit
theorem right_iff (t : Tr) : rightP t = true ↔ t.kind ≠ 6 ∧ deepT t ≤ 16 ∧ mayB t = true := by
  unfold rightP
  rw [Bool.and_eq_true, fit_may, bne_iff_ne]
end Go.Proofs.YthaoalmhhgllmaaDoor
namespace Go.Proofs.YthaoalmhhgllmaaDoor
open Go.RowKit
theorem right_same (t : Tr) : rightT t = rightP t := by
  rw [Bool.eq_iff_iff, right_iff]
  unfold rightT
  simp only [Bool.and_eq_true, decide_eq_true_eq, bne_iff_ne]
  exact ⟨fun h => ⟨h.2.1, h.1, h.2.2⟩, fun h => ⟨h.2.1, h.1, h.2.2⟩⟩
end Go.Proofs.YthaoalmhhgllmaaDoor
namespace Go.Proofs.YthaoalmhhgllmaaDoor
open Go.RowKit
set_option maxHeartbeats 4000000 in
set_option maxRecDepth 10000 in
theorem rOf_any {l : List Cel} (hl : l.length ≤ maxLen) (hcb : ∀ q ∈ l, B64 q.n) (t : Tr) (hW : Wid t) (hf : Fit t) (hcn : cntT t ≤ 1000000) (hd : deepT t ≤ 1000000000) (w : World) (A : Option Addr) (ca : Nat) (LA : Option Addr) (lc : Nat) (hA : KV w (fun _ => True) t A) (hc : ListC w LA l) :
    Calls Tryd.prog 15 #[tv t A ca, .slice LA l.length lc] w fun e w' => e = .returned (.agg #[.int .i64 (ofV l t).1, .int .i64 (ofV l t).2]) ∧ Below w.heap.size w w' := by
  have hlen := hW.len
  unfold maxLen at hlen
  have H1 := Lib.hid (fun w1 (hb : Below w.heap.size w w1) => rRight_any t hd hW w1 (fun _ => True) A ca (hA.kept (Kept.of_below hb)))
  have HL := Lib.hid hl
  have H2 : Hid (rightT t = true → ofV l t = cmT l t ∧ ∀ w1 (hb : Below w.heap.size w w1), Calls Tryd.prog 28 #[.agg #[.int .i64 t.kind, .int .i64 t.num, .int .i64 t.c1, .int .i64 t.r1, .int .i64 t.c2, .int .i64 t.r2, .string ⟨t.word.toArray⟩, .slice A t.kids.length ca], .slice LA l.length lc] w1 fun e w' => e = .returned (.agg #[.int .i64 (cmT l t).1, .int .i64 (cmT l t).2]) ∧ Below w1.heap.size w1 w') := Lib.hid fun hr => by
    rw [right_same] at hr
    refine ⟨by unfold ofV; rw [if_pos hr], fun w1 hb => ?_⟩
    exact rcome_any hl hcb hW ⟨((right_iff t).1 hr).2.2, hf, hcn⟩ w1 (fun _ => True) A ca LA lc (hA.kept (Kept.of_below hb)) (hc.below hb)
  have H3 : Hid (rightT t = false → ofV l t = (0, 3)) := Lib.hid fun hr => by
    rw [right_same] at hr
    unfold ofV; rw [if_neg (by rw [hr]; decide)]
  unfold tv at *
  clear hA hW hd hf hcn hcb hc hl
  cases hR : rightT t
  all_goals
    rw [hR] at H1
  · have HE := Lib.hid (H3.out hR)
    clear H2 H3 hR
    go_enter Tryd.func15, Tryd.ntmps15
    go_wp2_with fail
    refine (H1.out _ (by first | exact ((Below.refl _ _).alloc (Nat.le_refl _) _) | exact (((Below.refl _ _).alloc (Nat.le_refl _) _).alloc (by simp) _))).mono ?_; rintro e w1 ⟨rfl, b1⟩
    have hb1 := Below.trans (Below.alloc (Below.alloc (Below.refl w.heap.size w) (Nat.le_refl _) (.cells #[.int .i64 t.kind, .int .i64 t.num, .int .i64 t.c1, .int .i64 t.r1, .int .i64 t.c2, .int .i64 t.r2, .string ⟨t.word.toArray⟩, .slice A t.kids.length ca] 29)) (by simp) (.cells #[.int .i64 0, .int .i64 0] 53)) (b1.mono (by simp; omega))
    obtain ⟨⟨k0, k1, k2, k3, k4, k5, k6, k7⟩, ⟨r0, r1, f0, f1⟩, z0, z1, b0⟩ := par8 ((Below.refl _ _ : Below (w.heap.size + 1 + 1) _ _).trans (b1.mono (by simp)))
    clear b1 hb1 k0 k1 k2 k3 k4 k5 k6 k7
    go_wp2_with fail
    exact bodyPost_ret (v := .agg #[.int .i64 0, .int .i64 3]) (by simp [results, Tryd.results15, go_sem, r0, r1, z1, f0, f1]) rfl
      ⟨by rw [HE.out], (by repeat' (first | with_reducible assumption | exact Nat.le_succ _ | with_reducible exact Nat.le_refl _ | with_reducible refine Below.setCell ?_ ?_ _ | with_reducible refine Below.alloc ?_ ?_ _ | (simp; omega)))⟩
  · obtain ⟨he, hcm⟩ := H2.out hR
    have HE := Lib.hid he
    have HC := Lib.hid hcm
    clear H2 H3 hR he hcm
    generalize cmT l t = X at *
    go_enter Tryd.func15, Tryd.ntmps15
    go_wp2_with fail
    refine (H1.out _ (by first | exact ((Below.refl _ _).alloc (Nat.le_refl _) _) | exact (((Below.refl _ _).alloc (Nat.le_refl _) _).alloc (by simp) _))).mono ?_; rintro e w1 ⟨rfl, b1⟩
    have hb1 := (Below.refl _ _ : Below (w.heap.size + 1 + 1) _ _).trans (b1.mono (by simp))
    obtain ⟨⟨k0, k1, k2, k3, k4, k5, k6, k7⟩, ⟨r0, r1, f0, f1⟩, z0, z1, b0⟩ := par8 hb1
    clear b1
    go_wp2_with fail
    refine (HC.out w1 b0).mono ?_; rintro e w2 ⟨rfl, b2⟩
    have hb2 := hb1.trans (b2.mono (by have := hb1.size; simpa using this))
    clear k0 k1 k2 k3 k4 k5 k6 k7 r0 r1 f0 f1 z0 z1
    obtain ⟨_, ⟨r0, r1, f0, f1⟩, z0, z1, b0'⟩ := par8 hb2
    clear b2 hb1 hb2
    go_wp2_with fail
    exact bodyPost_ret (v := .agg #[.int .i64 X.1, .int .i64 X.2]) (by simp [results, Tryd.results15, go_sem, r0, r1, z1, f0, f1]) rfl
      ⟨by rw [HE.out], (by repeat' (first | with_reducible assumption | exact Nat.le_succ _ | with_reducible exact Nat.le_refl _ | with_reducible refine Below.setCell ?_ ?_ _ | with_reducible refine Below.alloc ?_ ?_ _ | (simp; omega)))⟩
end Go.Proofs.YthaoalmhhgllmaaDoor
namespace Go.Proofs.YthaoalmhhgllmaaDoor
open Go.RowKit
def TreeC (R : Nat) (A : Option Addr) (cap : Nat) (L : List Tok) (E : Nat) (F : Nat) (args : Array Value) (f : Nat → Option Res) : Prop :=
  ∀ (w : World) (st : St) (g : Got), RS w R A cap L E st → TK w R A L → goS f st = some g →
    Calls Tryd.prog F args w fun e w' => ∃ x : V8, e = .returned x.val ∧ TV w' (fun b => w.heap.size ≤ b) x g.2 ∧ RS w' R A cap L E g.1 ∧ But R w w'
def OutC (R : Nat) (A : Option Addr) (cap : Nat) (L : List Tok) (E : Nat) (F : Nat) (args : Array Value) : Prop :=
  ∀ (w : World) (x : Nat), RS w R A cap L E (.out x) → TK w R A L →
    Calls Tryd.prog F args w fun e w' => ∃ v : V8, e = .returned v.val ∧ RS w' R A cap L E (.out x) ∧ But R w w'
theorem TreeC.of {R : Nat} {A : Option Addr} {cap : Nat} {L : List Tok} {E : Nat} {F : Nat} {args : Array Value} {f : Nat → Option Res} (ho : OutC R A cap L E F args)
    (h : ∀ (w : World) (p : Nat) (g : Got), RS w R A cap L E (.run p) → TK w R A L → toS (f p) = some g →
      Calls Tryd.prog F args w fun e w' => ∃ x : V8, e = .returned x.val ∧ TV w' (fun b => w.heap.size ≤ b) x g.2 ∧ RS w' R A cap L E g.1 ∧ But R w w') : TreeC R A cap L E F args f := by
  intro w st g hr hk hg
  cases st with
  | out x =>
    obtain rfl : (.out x, none) = g := Option.some.inj hg
    exact (ho w x hr hk).mono fun _ _ ⟨v, he, hs, hb⟩ => ⟨v, he, trivial, hs, hb⟩
  | run p => exact h w p g hr hk hg
theorem TreeC.out {R : Nat} {A : Option Addr} {cap : Nat} {L : List Tok} {E : Nat} {F : Nat} {args : Array Value} {f : Nat → Option Res} (h : TreeC R A cap L E F args f) : OutC R A cap L E F args :=
  fun w x hr hk => (h w (.out x) (.out x, none) hr hk rfl).mono fun _ _ ⟨v, he, _, hs, hb⟩ => ⟨v, he, hs, hb⟩

theorem RC.sameR {w w' : World} {R : Nat} {A : Option Addr} {cap : Nat} {L : List Tok} {E : Nat} {p : Int} {f : Bool} {x : Int} (h : RC w R A cap L E p f x) (hb : w'.heap[R]? = w.heap[R]?) : RC w' R A cap L E p f x := by
  have hc : ∀ o v, w.cell? ⟨R, o, none⟩ = some v → w'.cell? ⟨R, o, none⟩ = some v := fun o v hv => by rw [World.cell?_of_block (w := w) (a := ⟨R, o, none⟩) hb]; exact hv
  have hf : ∀ o, w.frozen? ⟨R, o, none⟩ = false → w'.frozen? ⟨R, o, none⟩ = false := fun o hv => by rw [World.frozen?_of_block (w := w) (a := ⟨R, o, none⟩) hb]; exact hv
  exact ⟨hc _ _ h.c0, hc _ _ h.c1, hc _ _ h.c2, hc _ _ h.c3, hc _ _ h.c4, hf _ h.f1, hf _ h.f3, hf _ h.f4⟩
theorem RS.lt {w : World} {R : Nat} {A : Option Addr} {cap : Nat} {L : List Tok} {E : Nat} {st : St} (h : RS w R A cap L E st) : R < w.heap.size := by
  cases st with
  | run p => obtain ⟨_, _, h⟩ := h; exact h.lt
  | out x => obtain ⟨_, h⟩ := h; exact h.lt
theorem RS.sameR {w w' : World} {R : Nat} {A : Option Addr} {cap : Nat} {L : List Tok} {E : Nat} {st : St} (h : RS w R A cap L E st) (hb : w'.heap[R]? = w.heap[R]?) : RS w' R A cap L E st := by
  cases st with
  | run p => obtain ⟨a, x, h⟩ := h; exact ⟨a, x, h.sameR hb⟩
  | out x => obtain ⟨p, h⟩ := h; exact ⟨p, h.sameR hb⟩
theorem RS.far {w : World} {R : Nat} {A : Option Addr} {cap : Nat} {L : List Tok} {E : Nat} {st : St} (h : RS w R A cap L E st) {g : Nat} (hg : g ≠ R) (o : Nat) (u : Value) : RS (w.setCell ⟨g, o, none⟩ u) R A cap L E st :=
  h.sameR (Below.heap_setCell w ⟨g, o, none⟩ u R fun e => hg e.symm)
theorem RS.alloc {w : World} {R : Nat} {A : Option Addr} {cap : Nat} {L : List Tok} {E : Nat} {st : St} (h : RS w R A cap L E st) (ob : Obj) : RS (w.alloc ob) R A cap L E st :=
  h.sameR (Below.heap_alloc w ob R h.lt)
theorem RS.drew {w : World} {R : Nat} {A : Option Addr} {cap : Nat} {L : List Tok} {E : Nat} {st : St} (h : RS w R A cap L E st) : RS w.drew R A cap L E st := h.sameR rfl
theorem RS.drewN {w : World} {R : Nat} {A : Option Addr} {cap : Nat} {L : List Tok} {E : Nat} {st : St} (h : RS w R A cap L E st) (n : Nat) : RS (w.drewN n) R A cap L E st := h.sameR rfl

set_option maxHeartbeats 1000000 in
set_option maxRecDepth 10000 in
theorem roperand_out {R : Nat} {A : Option Addr} {cap : Nat} {L : List Tok} {E : Nat} (hL : L.length ≤ 1000) : OutC R A cap L E 75 #[.pointer (some ⟨R, 0, none⟩)] := by
  intro w x hr hk
  have HR := Lib.hid (And.intro hr hk)
  clear hr hk
  have hlt : R < w.heap.size := by obtain ⟨p, h⟩ := HR.out.1; exact h.lt
  have nR : w.heap.size ≠ R := by omega
  have b0 : Below w.heap.size w (w.alloc (.cells #[.int .i64 0, .int .i64 0, .int .i64 0, .int .i64 0, .int .i64 0, .int .i64 0, .string ⟨#[]⟩, .slice none 0 0] 29)) := (Below.refl _ _).alloc (Nat.le_refl _) _
  have H1 := Lib.hid (rmark_any (m := 0) ⟨#[40]⟩ hL (by omega) (HR.out.1.below b0) (HR.out.2.but (But.of_below b0)))
  clear b0
  go_enter Tryd.func75, Tryd.ntmps75
  go_wp2_with fail
  refine H1.out.mono ?_; rintro e w1 ⟨rfl, b1⟩
  have k10 := keep_fresh b1 0 (v := .int .i64 0) rfl
  have k11 := keep_fresh b1 1 (v := .int .i64 0) rfl
  have k12 := keep_fresh b1 2 (v := .int .i64 0) rfl
  have k13 := keep_fresh b1 3 (v := .int .i64 0) rfl
  have k14 := keep_fresh b1 4 (v := .int .i64 0) rfl
  have k15 := keep_fresh b1 5 (v := .int .i64 0) rfl
  have k16 := keep_fresh b1 6 (v := .string ⟨#[]⟩) rfl
  have k17 := keep_fresh b1 7 (v := .slice none 0 0) rfl
  have f10 := fresh_frozen b1 0
  have f11 := fresh_frozen b1 1
  have f12 := fresh_frozen b1 2
  have f13 := fresh_frozen b1 3
  have f14 := fresh_frozen b1 4
  have f15 := fresh_frozen b1 5
  have f16 := fresh_frozen b1 6
  have f17 := fresh_frozen b1 7
  have h1 : Below w.heap.size w w1 := ((Below.refl _ _).alloc (Nat.le_refl _) _).trans (b1.mono (by simp))
  have z1 : w.heap.size < w1.heap.size := by have := b1.size; simp at this; omega
  have RS1 := HR.out.1.below h1
  have HT1 := Lib.hid (HR.out.2.but (But.of_below h1))
  obtain ⟨q, hq⟩ := RS1
  have c3 := hq.c3
  have HQ := Lib.hid hq
  clear b1 hq
  go_wp2_with fail
  go_quiet (fail)
  go_wp2_with fail
  have H2 := Lib.hid fun n => rfail_any (st := .out x) hL ⟨q, HQ.out.below (below_drewN (Below.refl _ _) n)⟩ (HT1.out.but (But.of_below (below_drewN (Below.refl _ _) n)))
  refine (H2.out _).mono ?_; rintro e w2 ⟨rfl, r2, b2⟩
  have HR2 : Hid (RS w2 R A cap L E (.out x)) := Lib.hid r2
  have h2 : But R w w2 := ((But.of_below h1).drewN _).trans b2
  have k20 := b2.cell nR k10
  have k21 := b2.cell nR k11
  have k22 := b2.cell nR k12
  have k23 := b2.cell nR k13
  have k24 := b2.cell nR k14
  have k25 := b2.cell nR k15
  have k26 := b2.cell nR k16
  have k27 := b2.cell nR k17
  have f20 := b2.frozen nR z1 f10
  have f21 := b2.frozen nR z1 f11
  have f22 := b2.frozen nR z1 f12
  have f23 := b2.frozen nR z1 f13
  have f24 := b2.frozen nR z1 f14
  have f25 := b2.frozen nR z1 f15
  have f26 := b2.frozen nR z1 f16
  have f27 := b2.frozen nR z1 f17
  clear r2 b2 k10 f10 k11 f11 k12 f12 k13 f13 k14 f14 k15 f15 k16 f16 k17 f17
  go_wp2_with fail
  exact bodyPost_ret (v := .agg #[.int .i64 0, .int .i64 0, .int .i64 0, .int .i64 0, .int .i64 0, .int .i64 0, .string ⟨#[]⟩, .slice none 0 0]) (by simp [results, Tryd.results75, go_sem, k20, k21, k22, k23, k24, k25, k26, k27]) rfl ⟨⟨0, 0, 0, 0, 0, 0, ⟨#[]⟩, none, 0, 0⟩, rfl, by
    with_reducible repeat' (first | exact HR2.out | refine RS.far ?_ nR _ _), by
    with_reducible repeat' (first | exact h2 | refine But.setN ?_ (Nat.le_refl _) _ _)⟩
theorem zRf {w : World} {R : Nat} {A : Option Addr} {cap : Nat} {L : List Tok} {E : Nat} {st : St} (h : RS w R A cap L E st) {g : Nat} (hg : g ≠ R) (o : Nat) (u : Value) : RS (w.setCell ⟨g, o, none⟩ u) R A cap L E st := h.far hg o u
theorem zRa {w : World} {R : Nat} {A : Option Addr} {cap : Nat} {L : List Tok} {E : Nat} {st : St} (h : RS w R A cap L E st) (ob : Obj) : RS (w.alloc ob) R A cap L E st := h.alloc ob
theorem zRd {w : World} {R : Nat} {A : Option Addr} {cap : Nat} {L : List Tok} {E : Nat} {st : St} (h : RS w R A cap L E st) : RS w.drew R A cap L E st := h.drew
theorem zRn {w : World} {R : Nat} {A : Option Addr} {cap : Nat} {L : List Tok} {E : Nat} {st : St} (h : RS w R A cap L E st) (n : Nat) : RS (w.drewN n) R A cap L E st := h.drewN n
end Go.Proofs.YthaoalmhhgllmaaDoor
namespace Go.Proofs.YthaoalmhhgllmaaDoor
open Go.RowKit
def C8 (w : World) (B : Nat) (v0 v1 v2 v3 v4 v5 v6 v7 : Value) : Prop :=
  w.cell? ⟨B, 0, none⟩ = some v0 ∧ w.cell? ⟨B, 1, none⟩ = some v1 ∧ w.cell? ⟨B, 2, none⟩ = some v2 ∧ w.cell? ⟨B, 3, none⟩ = some v3 ∧
  w.cell? ⟨B, 4, none⟩ = some v4 ∧ w.cell? ⟨B, 5, none⟩ = some v5 ∧ w.cell? ⟨B, 6, none⟩ = some v6 ∧ w.cell? ⟨B, 7, none⟩ = some v7
def F8 (w : World) (B : Nat) : Prop :=
  w.frozen? ⟨B, 0, none⟩ = false ∧ w.frozen? ⟨B, 1, none⟩ = false ∧ w.frozen? ⟨B, 2, none⟩ = false ∧ w.frozen? ⟨B, 3, none⟩ = false ∧
  w.frozen? ⟨B, 4, none⟩ = false ∧ w.frozen? ⟨B, 5, none⟩ = false ∧ w.frozen? ⟨B, 6, none⟩ = false ∧ w.frozen? ⟨B, 7, none⟩ = false
theorem c8_lift {w w' : World} {B : Nat} {v0 v1 v2 v3 v4 v5 v6 v7 : Value} (h : ∀ (j : Nat) (v : Value), w.cell? ⟨B, j, none⟩ = some v → w'.cell? ⟨B, j, none⟩ = some v)
    (h0 : w.cell? ⟨B, 0, none⟩ = some v0) (h1 : w.cell? ⟨B, 1, none⟩ = some v1) (h2 : w.cell? ⟨B, 2, none⟩ = some v2) (h3 : w.cell? ⟨B, 3, none⟩ = some v3)
    (h4 : w.cell? ⟨B, 4, none⟩ = some v4) (h5 : w.cell? ⟨B, 5, none⟩ = some v5) (h6 : w.cell? ⟨B, 6, none⟩ = some v6) (h7 : w.cell? ⟨B, 7, none⟩ = some v7) :
    w'.cell? ⟨B, 0, none⟩ = some v0 ∧ w'.cell? ⟨B, 1, none⟩ = some v1 ∧ w'.cell? ⟨B, 2, none⟩ = some v2 ∧ w'.cell? ⟨B, 3, none⟩ = some v3 ∧
    w'.cell? ⟨B, 4, none⟩ = some v4 ∧ w'.cell? ⟨B, 5, none⟩ = some v5 ∧ w'.cell? ⟨B, 6, none⟩ = some v6 ∧ w'.cell? ⟨B, 7, none⟩ = some v7 :=
  ⟨h _ _ h0, h _ _ h1, h _ _ h2, h _ _ h3, h _ _ h4, h _ _ h5, h _ _ h6, h _ _ h7⟩
theorem f8_lift {w w' : World} {B : Nat} (h : ∀ j : Nat, w.frozen? ⟨B, j, none⟩ = false → w'.frozen? ⟨B, j, none⟩ = false)
    (h0 : w.frozen? ⟨B, 0, none⟩ = false) (h1 : w.frozen? ⟨B, 1, none⟩ = false) (h2 : w.frozen? ⟨B, 2, none⟩ = false) (h3 : w.frozen? ⟨B, 3, none⟩ = false)
    (h4 : w.frozen? ⟨B, 4, none⟩ = false) (h5 : w.frozen? ⟨B, 5, none⟩ = false) (h6 : w.frozen? ⟨B, 6, none⟩ = false) (h7 : w.frozen? ⟨B, 7, none⟩ = false) :
    w'.frozen? ⟨B, 0, none⟩ = false ∧ w'.frozen? ⟨B, 1, none⟩ = false ∧ w'.frozen? ⟨B, 2, none⟩ = false ∧ w'.frozen? ⟨B, 3, none⟩ = false ∧
    w'.frozen? ⟨B, 4, none⟩ = false ∧ w'.frozen? ⟨B, 5, none⟩ = false ∧ w'.frozen? ⟨B, 6, none⟩ = false ∧ w'.frozen? ⟨B, 7, none⟩ = false :=
  ⟨h _ h0, h _ h1, h _ h2, h _ h3, h _ h4, h _ h5, h _ h6, h _ h7⟩
end Go.Proofs.YthaoalmhhgllmaaDoor
