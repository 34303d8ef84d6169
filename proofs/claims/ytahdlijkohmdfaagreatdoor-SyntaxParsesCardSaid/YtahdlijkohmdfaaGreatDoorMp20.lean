/- Texts joined: SyS, SyQ, WrE, RdK, RdL. -/
import Derived.Test.YtahdlijkohmdfaaGreatDoorMp19
import Derived.Test.YtahdlijkohmdfaaGreatDoorMp09
import Derived.Test.YtahdlijkohmdfaaGreatDoorMp17
import Derived.Shelf.Abstract
import Derived.Test.YtahdlijkohmdfaaGreatDoorMp07
import Derived.Recover
import Derived.Defers
import Derived.Tactics2
import Derived.Laws.Pointers
set_option linter.all false
set_option linter.unusedVariables false
set_option linter.unusedSimpArgs false
namespace Go.Proofs.YtahdlijkohmdfaaGreatDoor

theorem allB_iff {ks : List Tr} {a b : Bool} : allB ks a b = true ↔ ∀ t ∈ ks, mayB t = true ∧ (a = true ∨ t.kind ≠ 6) ∧ (b = false ∨ t.kind = 6 ∨ t.kind = 2) := by
  refine ⟨all_mem, fun h => ?_⟩
  induction ks with
  | nil => rw [allB]
  | cons u r ih =>
    rw [allB]
    obtain ⟨h1, h2, h3⟩ := h u (by simp)
    simp only [Bool.and_eq_true, Bool.or_eq_true, Bool.not_eq_true', bne_iff_ne, beq_iff_eq]
    exact ⟨⟨h1, h2, by rcases h3 with h3 | h3 | h3; exact .inl (.inl h3); exact .inl (.inr h3); exact .inr h3⟩, ih fun t ht => h t (by simp [ht])⟩
theorem deepL_iff {ks : List Tr} {d : Nat} : deepL ks ≤ d ↔ ∀ u ∈ ks, deepT u ≤ d := by
  induction ks with
  | nil => simp [deepL]
  | cons u r ih =>
    rw [deepL]
    constructor
    · intro h v hv
      rcases List.mem_cons.1 hv with rfl | hv
      · omega
      · exact ih.1 (by omega) v hv
    · intro h
      have h1 := h u (by simp)
      have h2 := ih.2 fun v hv => h v (by simp [hv])
      omega
theorem any_span {ks : List Tr} : ks.any (fun t => t.kind == 6) = false ↔ ∀ t ∈ ks, t.kind ≠ 6 := by
  rw [Bool.eq_false_iff]
  simp [List.any_eq_true]
theorem any_unc {ks : List Tr} : ks.any (fun t => (t.kind != 6) && (t.kind != 2)) = false ↔ ∀ t ∈ ks, t.kind = 6 ∨ t.kind = 2 := by
  rw [Bool.eq_false_iff]
  simp [List.any_eq_true]
  constructor
  · intro h t ht
    by_cases h6 : t.kind = 6
    · exact .inl h6
    · exact .inr (h t ht h6)
  · intro h t ht h6
    exact (h t ht).resolve_left h6
theorem allB_span {ks : List Tr} : allB ks false false = true ↔ ks.any (fun t => t.kind == 6) = false ∧ ∀ u ∈ ks, mayB u = true := by
  rw [allB_iff, any_span]
  constructor
  · intro h
    refine ⟨fun t ht => ?_, fun t ht => (h t ht).1⟩
    rcases (h t ht).2.1 with h1 | h1
    · cases h1
    · exact h1
  · intro h t ht
    exact ⟨h.2 t ht, .inr (h.1 t ht), .inl rfl⟩
theorem allB_free {ks : List Tr} : allB ks true false = true ↔ ∀ u ∈ ks, mayB u = true := by
  rw [allB_iff]
  exact ⟨fun h t ht => (h t ht).1, fun h t ht => ⟨h t ht, .inl rfl, .inl rfl⟩⟩
theorem allB_unc {ks : List Tr} : allB ks true true = true ↔ ks.any (fun t => (t.kind != 6) && (t.kind != 2)) = false ∧ ∀ u ∈ ks, mayB u = true := by
  rw [allB_iff, any_unc]
  constructor
  · intro h
    refine ⟨fun t ht => ?_, fun t ht => (h t ht).1⟩
    rcases (h t ht).2.2 with h1 | h1
    · cases h1
    · exact h1
  · intro h t ht
    exact ⟨h.2 t ht, .inl rfl, .inr (h.1 t ht)⟩
theorem only_bool (k : Int) (hk : k = 3 ∨ k = 4 ∨ k = 5) : ∀ a b b2 b3 b4 e l g : Bool, ((k == 0 || a) && ((k == 1 || k == 6 || (b && b2 && b3 && b4)) && ((k == 4 || k == 5 || e) && l))) =
    (!(((!a) && (k != 0)) || (((!(b && b2 && (b3 && b4))) && ((k != 1) && (k != 6))) || (((!e) && ((k != 4) && (k != 5))) || (g && ((k != 3) && ((k != 4) && (k != 5))))))) && l) := by
  rcases hk with rfl | rfl | rfl <;> decide
theorem only_spare (k n c r d s : Int) (w : List UInt8) (ks : List Tr) (m : Nat) (hk : k = 3 ∨ k = 4 ∨ k = 5) :
    onlyB (.mk k n c r d s w ks) m = (!spareB (.mk k n c r d s w ks) && (ks.length == m)) :=
  only_bool k hk (n == 0) (c == 0) (r == 0) (d == 0) (s == 0) (w == []) (ks.length == m) (decide ((0 : Int) < (ks.length : Int)))
theorem rest_bool : ∀ a b b2 b3 b4 e l k0 k1 k6 : Bool, (((!a) && (!k0)) || (((!(b && b2 && (b3 && b4))) && ((!k1) && (!k6))) || (((!e) && ((!false) && (!false))) || ((!l) && ((!false) && ((!false) && (!false)))))) ) =
    !((k0 || a) && ((k1 || k6 || (b && b2 && b3 && b4)) && (e && l))) := by decide
theorem may_level (t : Tr) : mayB t = true ↔ spareB t = false ∧ soundB t = true ∧ ∀ u ∈ t.kids, mayB u = true := by
  cases t with
  | mk k n c r d s w ks =>
    by_cases h3 : k = 3
    · subst h3
      have hm : mayB (.mk 3 n c r d s w ks) = (onlyB (.mk 3 n c r d s w ks) 1 && allB ks false false) := by rw [mayB]; rfl
      have hs : soundB (.mk 3 n c r d s w ks) = ((ks.length == 1) && !ks.any (fun t => t.kind == 6)) := rfl
      rw [hm, hs, only_spare _ _ _ _ _ _ _ _ _ (.inl rfl)]
      show _ ↔ _ ∧ _ ∧ ∀ u ∈ ks, _
      simp only [Bool.and_eq_true, Bool.not_eq_true', allB_span]
      exact ⟨fun h => ⟨h.1.1, ⟨h.1.2, h.2.1⟩, h.2.2⟩, fun h => ⟨⟨h.1, h.2.1.1⟩, h.2.1.2, h.2.2⟩⟩
    · by_cases h4 : k = 4
      · subst h4
        have hm : mayB (.mk 4 n c r d s w ks) = (onlyB (.mk 4 n c r d s w ks) 2 && (allB ks false false && decide (1 ≤ lvl w))) := by rw [mayB]; rfl
        have hs : soundB (.mk 4 n c r d s w ks) = (decide (0 ≤ (lvl w : Int) - 1) && ((ks.length == 2) && !ks.any (fun t => t.kind == 6))) := rfl
        rw [hm, hs, only_spare _ _ _ _ _ _ _ _ _ (.inr (.inl rfl))]
        show _ ↔ _ ∧ _ ∧ ∀ u ∈ ks, _
        simp only [Bool.and_eq_true, Bool.not_eq_true', allB_span, decide_eq_true_eq]
        exact ⟨fun h => ⟨h.1.1, ⟨by omega, h.1.2, h.2.1.1⟩, h.2.1.2⟩, fun h => ⟨⟨h.1, h.2.1.2.1⟩, ⟨h.2.1.2.2, h.2.2⟩, by have := h.2.1.1; omega⟩⟩
      · by_cases h5 : k = 5
        · subst h5
          have hm : mayB (.mk 5 n c r d s w ks) = (onlyB (.mk 5 n c r d s w ks) ks.length && (allB ks (w != [73, 70]) (w == [67, 79, 85, 78, 84]) && (if w = [73, 70] then ks.length == 3 else if w = [83, 85, 77] ∨ w = [77, 73, 78] ∨ w = [77, 65, 88] ∨ w = [67, 79, 85, 78, 84] then decide (0 < ks.length) else false))) := by rw [mayB]; rfl
          have hs : soundB (.mk 5 n c r d s w ks) = (if w = [73, 70] then ((ks.length == 3) && !ks.any (fun t => t.kind == 6)) else if w = [83, 85, 77] ∨ w = [77, 73, 78] ∨ w = [77, 65, 88] then decide ((0 : Int) < (ks.length : Int)) else if w = [67, 79, 85, 78, 84] then decide ((0 : Int) < (ks.length : Int)) && !ks.any (fun t => (t.kind != 6) && (t.kind != 2)) else false) := rfl
          rw [hm, hs, only_spare _ _ _ _ _ _ _ _ _ (.inr (.inr rfl))]
          show _ ↔ _ ∧ _ ∧ ∀ u ∈ ks, _
          clear hm hs
          have hd : (decide (0 < ks.length) = true) ↔ (decide ((0 : Int) < (ks.length : Int)) = true) := by
            rw [decide_eq_true_eq, decide_eq_true_eq]; omega
          by_cases w1 : w = [73, 70]
          · subst w1
            rw [show (([73, 70] : List UInt8) != [73, 70]) = false from by decide, show (([73, 70] : List UInt8) == [67, 79, 85, 78, 84]) = false from by decide, if_pos rfl, if_pos rfl]
            simp only [Bool.and_eq_true, Bool.not_eq_true', allB_span, beq_self_eq_true, and_true]
            exact ⟨fun h => ⟨h.1, ⟨h.2.2, h.2.1.1⟩, h.2.1.2⟩, fun h => ⟨h.1, ⟨h.2.1.2, h.2.2⟩, h.2.1.1⟩⟩
          · rw [if_neg w1, if_neg w1, show (w != [73, 70]) = true from by simp [w1]]
            by_cases w2 : w = [83, 85, 77] ∨ w = [77, 73, 78] ∨ w = [77, 65, 88]
            · rw [if_pos w2, if_pos (by rcases w2 with h | h | h; exact .inl h; exact .inr (.inl h); exact .inr (.inr (.inl h))), show (w == [67, 79, 85, 78, 84]) = false from by rcases w2 with rfl | rfl | rfl <;> decide]
              simp only [Bool.and_eq_true, Bool.not_eq_true', allB_free, beq_self_eq_true, and_true, hd]
              exact ⟨fun h => ⟨h.1, h.2.2, h.2.1⟩, fun h => ⟨h.1, h.2.2, h.2.1⟩⟩
            · rw [if_neg w2]
              by_cases w3 : w = [67, 79, 85, 78, 84]
              · subst w3
                rw [if_pos (.inr (.inr (.inr rfl))), if_pos rfl, show (([67, 79, 85, 78, 84] : List UInt8) == [67, 79, 85, 78, 84]) = true from by decide]
                simp only [Bool.and_eq_true, Bool.not_eq_true', allB_unc, beq_self_eq_true, and_true, hd]
                exact ⟨fun h => ⟨h.1, ⟨h.2.2, h.2.1.1⟩, h.2.1.2⟩, fun h => ⟨h.1, ⟨h.2.1.2, h.2.2⟩, h.2.1.1⟩⟩
              · rw [if_neg w3, if_neg (by rintro (h | h | h | h); exact w2 (.inl h); exact w2 (.inr (.inl h)); exact w2 (.inr (.inr h)); exact w3 h)]
                simp
        · have hs : ∀ m, onlyB (.mk k n c r d s w ks) m = ((k == 0 || n == 0) && ((k == 1 || k == 6 || (c == 0 && r == 0 && d == 0 && s == 0)) && ((w == []) && ks.length == m))) := by
            intro m
            show ((k == 0 || n == 0) && ((k == 1 || k == 6 || (c == 0 && r == 0 && d == 0 && s == 0)) && ((k == 4 || k == 5 || w == []) && ks.length == m))) = _
            rw [show (k == 4) = false from by simp [h4], show (k == 5) = false from by simp [h5]]
            rfl
          have hs0 : ∀ x : Bool, (x = true → True) := fun _ _ => trivial
          have hsp : spareB (.mk k n c r d s w ks) = !onlyB (.mk k n c r d s w ks) 0 := by
            rw [hs]
            have hl : decide ((0 : Int) < (ks.length : Int)) = !(ks.length == 0) := by
              cases ks <;> simp
            have hu : spareB (.mk k n c r d s w ks) = (((!(n == 0)) && (!(k == 0))) || (((!((c == 0) && (r == 0) && ((d == 0) && (s == 0)))) && ((!(k == 1)) && (!(k == 6)))) || (((!(w == [])) && ((!(k == 4)) && (!(k == 5)))) || ((decide ((0 : Int) < (ks.length : Int))) && ((!(k == 3)) && ((!(k == 4)) && (!(k == 5)))))))) := rfl
            rw [hu, hl, show (k == 3) = false from by simp [h3], show (k == 4) = false from by simp [h4], show (k == 5) = false from by simp [h5]]
            exact rest_bool _ _ _ _ _ _ _ _ _ _
          have hk : onlyB (.mk k n c r d s w ks) 0 = true → ∀ u ∈ ks, mayB u = true := by
            intro h u hu
            rw [hs] at h
            simp only [Bool.and_eq_true, beq_iff_eq, List.length_eq_zero_iff] at h
            rw [h.2.2.2] at hu; cases hu
          rw [hsp, mayB]
          generalize ho : onlyB (.mk k n c r d s w ks) 0 = o at *
          rw [if_neg h3, if_neg h4, if_neg h5]
          have hsd : soundB (.mk k n c r d s w ks) = (if k = 0 then decide (0 ≤ n) else if k = 1 then rightB c r && (c == d && r == s) else if k = 2 then true
  else if k = 3 then exprsB ks 1 else if k = 4 then decide (0 ≤ (lvl w : Int) - 1) && exprsB ks 2 else if k = 5 then calledB w ks
  else if k = 6 then wholeB c r d s else false) := rfl
          rw [hsd, if_neg h3, if_neg h4, if_neg h5]
          show _ ↔ _ ∧ _ ∧ ∀ u ∈ ks, _
          have hw : wholeB c r d s = (rightB c r && rightB d s && decide (c ≤ d) && decide (r ≤ s)) := by
            rw [Bool.eq_iff_iff, wholeB_iff]
            simp only [Bool.and_eq_true, decide_eq_true_eq, rightB_iff]
            omega
          rw [hw]
          cases o with
          | false =>
            have : ∀ p q r s : Prop, ∀ [Decidable p] [Decidable q] [Decidable r] [Decidable s], ∀ x y z : Bool, (if p then false && x else if q then false && y else if r then false else if s then false && z else false) = false := by
              intro p q r s _ _ _ _ x y z
              split
              · rfl
              · split
                · rfl
                · split
                  · rfl
                  · split <;> rfl
            rw [this]
            simp
          | true =>
            simp only [Bool.true_and, Bool.not_true, true_and]
            by_cases h0 : k = 0
            · rw [if_pos h0]
              exact ⟨fun h => ⟨h, hk rfl⟩, fun h => h.1⟩
            · by_cases h1 : k = 1
              · rw [if_neg h0, if_pos h1]
                exact ⟨fun h => ⟨h, hk rfl⟩, fun h => h.1⟩
              · by_cases h2 : k = 2
                · rw [if_neg h0, if_neg h1, if_pos h2]
                  exact ⟨fun h => ⟨h, hk rfl⟩, fun h => h.1⟩
                · rw [if_neg h0, if_neg h1, if_neg h2]
                  by_cases h6 : k = 6
                  · rw [if_pos h6]
                    exact ⟨fun h => ⟨h, hk rfl⟩, fun h => h.1⟩
                  · rw [if_neg h6]
                    exact ⟨fun h => ⟨h, hk rfl⟩, fun h => h.1⟩
theorem fit_may : ∀ (d : Nat) (t : Tr), fitB d t = true ↔ deepT t ≤ d ∧ mayB t = true := by
  intro d
  induction d with
  | zero =>
    intro t
    unfold fitB
    cases t
    rw [deepT]
    simp
  | succ d ih =>
    intro t
    rw [may_level]
    unfold fitB
    simp only [Bool.and_eq_true, Bool.not_eq_true', List.all_eq_true]
    cases t with
    | mk k n c r e s w ks =>
      rw [deepT]
      simp only [Tr.kids]
      have hd : deepL ks + 1 ≤ d + 1 ↔ ∀ u ∈ ks, deepT u ≤ d := by rw [← deepL_iff]; omega
      rw [hd]
      exact ⟨fun h => ⟨fun u hu => ((ih u).1 (h.2.2 u hu)).1, h.1, h.2.1, fun u hu => ((ih u).1 (h.2.2 u hu)).2⟩, fun h => ⟨h.2.1, h.2.2.1, fun u hu => (ih u).2 ⟨h.1 u hu, h.2.2.2 u hu⟩⟩⟩
end Go.Proofs.YtahdlijkohmdfaaGreatDoor
namespace Go.Proofs.YtahdlijkohmdfaaGreatDoor

def MoM (t : Tr) : Mode → Prop
  | .tree => mayB t = true ∧ t.kind ≠ 6
  | .wi _ => mayB t = true ∧ t.kind ≠ 6
  | .item k => mayB t = true ∧ (k = true → t.kind = 6 ∨ t.kind = 2)
  | .its k => t.kids ≠ [] ∧ allB t.kids true k = true
theorem pr_may {md : Mode} {t : Tr} {s : List UInt8} {ts : List Tok} (h : Pr md t s ts) : MoM t md := by
  induction h with
  | @num n _ => exact ⟨by unfold numT; rw [mayB]; simp [onlyB], by simp [numT, Tr.kind]⟩
  | @read c r h => exact ⟨by unfold readT; rw [mayB]; simp [onlyB, h], by simp [readT, Tr.kind]⟩
  | bad => exact ⟨by unfold badT; rw [mayB]; simp [onlyB], by simp [badT, Tr.kind]⟩
  | @neg a s ts _ ih => exact ⟨by unfold negT; rw [mayB, allB, allB]; simp [onlyB, ih.1, ih.2], by simp [negT, Tr.kind]⟩
  | @op w sa sb a b ta tb hw _ _ iha ihb => exact ⟨by unfold opT; rw [mayB, allB, allB, allB]; simp [onlyB, iha.1, iha.2, ihb.1, ihb.2, hw], by simp [opT, Tr.kind]⟩
  | plain _ _ ih => exact ih
  | brk _ _ _ ih => exact ih
  | @cif a b c sa sb sc ta tb tc _ _ _ iha ihb ihc =>
    have H : allB [a, b, c] false false = true := by rw [allB, allB, allB, allB]; simp [iha.1, iha.2, ihb.1, ihb.2, ihc.1, ihc.2]
    exact ⟨by unfold callT; rw [mayB]; simp [onlyB, H], by simp [callT, Tr.kind]⟩
  | @call w s ks ts hw _ ih =>
    have hne : ks ≠ [] := ih.1
    have ha : allB ks true (w == [67, 79, 85, 78, 84]) = true := ih.2
    have hp : 0 < ks.length := List.length_pos_iff.2 hne
    refine ⟨?_, by simp [callT, Tr.kind]⟩
    unfold callT
    have e1 : (w != [73, 70]) = true := by rcases hw with rfl | rfl | rfl | rfl <;> decide
    have e2 : ¬ w = [73, 70] := by rcases hw with rfl | rfl | rfl | rfl <;> decide
    rw [mayB, e1, ha, if_neg e2, if_pos hw, decide_eq_true hp]
    simp [onlyB]
  | itT _ ih => exact ⟨ih.1, fun h => by cases h⟩
  | itBad => exact ⟨by unfold badT; rw [mayB]; simp [onlyB], fun _ => .inr (by simp [badT, Tr.kind])⟩
  | @itSpan k c r d s h1 h2 h3 h4 => exact ⟨by unfold spanT; rw [mayB]; simp [onlyB, h1, h2, h3, h4], fun _ => .inl (by simp [spanT, Tr.kind])⟩
  | @last k t s ts _ ih =>
    refine ⟨by simp [callT, Tr.kids], ?_⟩
    show allB [t] true k = true
    rw [allB, allB]
    cases k with
    | false => simp [ih.1]
    | true => rcases ih.2 rfl with e | e <;> simp [ih.1, e]
  | @more k t ks s s' ts ts' _ _ ih ih' =>
    have ha : allB ks true k = true := ih'.2
    refine ⟨by simp [callT, Tr.kids], ?_⟩
    show allB (t :: ks) true k = true
    rw [allB]
    cases k with
    | false => simp [ih.1, ha]
    | true => rcases ih.2 rfl with e | e <;> simp [ih.1, e, ha]
end Go.Proofs.YtahdlijkohmdfaaGreatDoor
namespace Go.Proofs.YtahdlijkohmdfaaGreatDoor
open Go.RowKit

theorem place_len (c r : Int) : (placeText c r).length ≤ 100 := by
  unfold placeText
  by_cases h : rightB c r = true
  · rw [if_pos h]
    obtain ⟨_, _, r0, r1⟩ := (rightB_iff c r).1 h
    have := itoa_len (r + 1) (by unfold B64; omega)
    simp; omega
  · rw [if_neg h]; simp
def WritesT (w0 : World) (b : Nat) (t : Tr) : Prop := ∀ (A : Option Addr) (ca : Nat), KV w0 (fun _ => True) t A → WriteC w0 b 22 #[.pointer (some ⟨b, 0, none⟩), tv t A ca] (txT t)
theorem two_of {ks : List Tr} (h : ks.length = 2) : ∃ u v, ks = [u, v] := by
  match ks, h with
  | [u, v], _ => exact ⟨u, v, rfl⟩
theorem one_elem {ks : List Tr} (h : ks.length = 1) : ∃ u, ks = [u] := by
  match ks, h with
  | [u], _ => exact ⟨u, rfl⟩
theorem write_level {w0 : World} {b : Nat} (hE : EnvI w0) (hS : Strs w0.heap.size w0.heap.size w0) (hB : w0.heap.size ≤ b) (t : Tr) (hW : Wid t) (hF : Fit t) (hM : mayB t = true) (ih : ∀ u ∈ t.kids, WritesT w0 b u) : WritesT w0 b t := by
  intro A ca hA
  have hlen := hW.len
  obtain ⟨hsp, hso, _⟩ := (may_level t).1 hM
  by_cases h0 : t.kind = 0
  · have hn : 0 ≤ t.num ∧ t.num ≤ 9223372036854775807 := by
      cases hF with
      | @mk k n c r d s w ks hn _ =>
        obtain rfl : k = 0 := h0
        refine ⟨?_, hn⟩
        have : soundB (.mk 0 n c r d s w ks) = decide (0 ≤ n) := rfl
        exact of_decide_eq_true (this.symm.trans hso)
    have e : txT t = Lib.itoa t.num := by
      cases t with
      | mk k n c r d s w ks =>
        obtain rfl : k = 0 := h0
        rw [txT, if_pos rfl]
        obtain ⟨m, rfl⟩ := Int.eq_ofNat_of_zero_le hn.1
        exact (Lib.itoa_nonneg m).symm
    rw [e]
    exact wleaf_num hE t hlen A ca (by rw [h0]; rfl) (by unfold B64; omega)
  have n0 : (t.kind == 0) = false := by simpa using h0
  by_cases h1 : t.kind = 1
  · have e : txT t = placeText t.c1 t.r1 := by
      cases t with
      | mk k n c r d s w ks =>
        obtain rfl : k = 1 := h1
        rw [txT, if_neg (by decide), if_pos rfl]
        rfl
    rw [e]
    exact wleaf_read hE t hlen A ca n0 (by rw [h1]; rfl)
  have n1 : (t.kind == 1) = false := by simpa using h1
  by_cases h2 : t.kind = 2
  · have e : txT t = [35, 82, 69, 70] := by
      cases t with
      | mk k n c r d s w ks =>
        obtain rfl : k = 2 := h2
        rw [txT, if_neg (by decide), if_neg (by decide), if_neg (by decide), if_neg (by decide), if_neg (by decide), if_neg (by decide)]
    rw [e]
    exact wleaf_bad hE t hlen A ca n0 n1 (by rw [h2]; rfl)
  have n2 : (t.kind == 2) = false := by simpa using h2
  by_cases h3 : t.kind = 3
  · have hks : t.kids.length = 1 := by
      cases t with
      | mk k n c r d s w ks =>
        obtain rfl : k = 3 := h3
        have : soundB (.mk 3 n c r d s w ks) = exprsB ks 1 := rfl
        rw [this] at hso
        unfold exprsB at hso
        simp at hso
        exact hso.1
    obtain ⟨u, hu⟩ := one_elem hks
    have hi : t.kids[0]? = some u := by rw [hu]; rfl
    obtain ⟨g, o, rfl⟩ := hA.addr hi
    obtain ⟨_, _, A', c', h8, hkv⟩ := hA.kid hi
    have hP := wpart_any u (hW.kid hi).len A' c' (ih u (by rw [hu]; simp) A' c' hkv) 4 hS
    have e : txT t = 45 :: txW 4 u (txT u) := by
      cases t with
      | mk k n c r d s w ks =>
        obtain rfl : k = 3 := h3
        obtain rfl : ks = [u] := hu
        rw [txT, if_neg (by decide), if_neg (by decide), if_neg (by decide), if_pos rfl, txL_cons]
        rfl
    rw [e]
    exact wneg_any t hlen hks g o ca n0 n1 n2 (by rw [h3]; rfl) (by simpa using h8) hP
  have n3 : (t.kind == 3) = false := by simpa using h3
  by_cases h4 : t.kind = 4
  · have hks : t.kids.length = 2 := by
      cases t with
      | mk k n c r d s w ks =>
        obtain rfl : k = 4 := h4
        have : soundB (.mk 4 n c r d s w ks) = (decide (0 ≤ (lvl w : Int) - 1) && exprsB ks 2) := rfl
        rw [this] at hso
        unfold exprsB at hso
        simp at hso
        exact hso.2.1
    obtain ⟨u, v, hu⟩ := two_of hks
    have hi : t.kids[0]? = some u := by rw [hu]; rfl
    have hj : t.kids[1]? = some v := by rw [hu]; rfl
    obtain ⟨g, o, rfl⟩ := hA.addr hi
    obtain ⟨_, _, A', c', h8, hkv⟩ := hA.kid hi
    obtain ⟨_, _, B', d', k8, hkv2⟩ := hA.kid hj
    have hP1 := wpart_any u (hW.kid hi).len A' c' (ih u (by rw [hu]; simp) A' c' hkv) (lvl t.word) hS
    have hP2 := wpart_any v (hW.kid hj).len B' d' (ih v (by rw [hu]; simp) B' d' hkv2) (lvl t.word + 1) hS
    have e : txT t = txW (lvl t.word) u (txT u) ++ (t.word ++ txW (lvl t.word + 1) v (txT v)) := by
      cases t with
      | mk k n c r d s w ks =>
        obtain rfl : k = 4 := h4
        obtain rfl : ks = [u, v] := hu
        rw [txT, if_neg (by decide), if_neg (by decide), if_neg (by decide), if_neg (by decide), if_pos rfl, txL_cons, txL_cons]
        rfl
    rw [e]
    exact wop_any t hlen hks g o ca n0 n1 n2 n3 (by rw [h4]; rfl) hS (by simpa using h8) (by simpa using k8) hP1 hP2
  have n4 : (t.kind == 4) = false := by simpa using h4
  by_cases h5 : t.kind = 5
  · have hne : t.kids ≠ [] := by
      cases t with
      | mk k n c r d s w ks =>
        obtain rfl : k = 5 := h5
        rintro (rfl : ks = [])
        have : soundB (.mk 5 n c r d s w []) = calledB w [] := rfl
        rw [this] at hso
        unfold calledB exprsB at hso
        simp at hso
    have e : txT t = t.word ++ (txH (txL t.kids) ++ [41]) := by
      rw [txH_all _ (by rw [txL_map]; simpa using hne)]
      cases t with
      | mk k n c r d s w ks =>
        obtain rfl : k = 5 := h5
        rw [txT, if_neg (by decide), if_neg (by decide), if_neg (by decide), if_neg (by decide), if_neg (by decide), if_pos rfl]
        rfl
    rw [e]
    exact wcall_any t hlen A ca n0 n1 n2 n3 n4 (by rw [h5]; rfl) (wcallp_any t hlen A ca hA hB ih)
  have n5 : (t.kind == 5) = false := by simpa using h5
  by_cases h6 : t.kind = 6
  · have e : txT t = placeText t.c1 t.r1 ++ 58 :: placeText t.c2 t.r2 := by
      cases t with
      | mk k n c r d s w ks =>
        obtain rfl : k = 6 := h6
        rw [txT, if_neg (by decide), if_neg (by decide), if_pos rfl]
        rfl
    rw [e]
    exact wleaf_span hE t hlen A ca n0 n1 n2 n3 n4 n5 (by rw [h6]; rfl) (place_len _ _) (place_len _ _)
  · exfalso
    cases t with
    | mk k n c r d s w ks =>
      have : soundB (.mk k n c r d s w ks) = (if k = 0 then decide (0 ≤ n) else if k = 1 then rightB c r && (c == d && r == s) else if k = 2 then true
  else if k = 3 then exprsB ks 1 else if k = 4 then decide (0 ≤ (lvl w : Int) - 1) && exprsB ks 2 else if k = 5 then calledB w ks
  else if k = 6 then wholeB c r d s else false) := rfl
      change ¬ k = 0 at h0
      change ¬ k = 1 at h1
      change ¬ k = 2 at h2
      change ¬ k = 3 at h3
      change ¬ k = 4 at h4
      change ¬ k = 5 at h5
      change ¬ k = 6 at h6
      rw [this, if_neg h0, if_neg h1, if_neg h2, if_neg h3, if_neg h4, if_neg h5, if_neg h6] at hso
      cases hso
theorem write_any {w0 : World} {b : Nat} (hE : EnvI w0) (hS : Strs w0.heap.size w0.heap.size w0) (hB : w0.heap.size ≤ b) : ∀ {t : Tr}, Wid t → Fit t → mayB t = true → WritesT w0 b t := by
  intro t hW
  induction hW with
  | @mk k n c r d s w ks hl hk ih =>
    intro hF hM
    refine write_level hE hS hB _ (.mk hl hk) hF hM fun u hu => ih u hu ?_ ?_
    · cases hF with
      | mk _ h => exact h u hu
    · exact ((may_level _).1 hM).2.2 u hu
end Go.Proofs.YtahdlijkohmdfaaGreatDoor
namespace Go.Proofs.YtahdlijkohmdfaaGreatDoor
open Go.RowKit Go.Shelf

set_option maxHeartbeats 2000000 in
set_option maxRecDepth 10000 in
theorem poperand_word {w : World} {R g cap B : Nat} {L : List Tok} {E p : Nat} (hL : L.length ≤ 1000) (hc : cap ≤ maxLen) (hr : RL w R g cap B L E p) (hl : p < L.length) (h1 : ((tokAt L E p).kind == 1) = false) (h2 : ((tokAt L E p).kind == 2) = false) (h3 : ((tokAt L E p).kind == 3) = false) (h4 : ((tokAt L E p).kind == 4) = true) {res : Res} (hN : ∀ w', RL w' R g cap B L E (p + 1) → Calls Tryz.prog 103 #[.pointer (some ⟨R, 0, none⟩), .string ⟨(tokAt L E p).text.toArray⟩] w' (PostP w' R g cap B L E res)) :
    Calls Tryz.prog 85 #[.pointer (some ⟨R, 0, none⟩)] w (PostP w R g cap B L E res) := by
  have hNx := Lib.hid (fun w hr => pnext_any (w := w) (R := R) (g := g) (cap := cap) (B := B) (L := L) (E := E) (p := p) hL hc hr)
  have HN := Lib.hid hN
  clear hN
  generalize tokAt L E p = a at *
  unfold tokV at *
  have HR := Lib.hid hr
  have lR := hr.lo.1
  have lB := hr.lo.2.2
  clear hr
  go_enter Tryz.func85, Tryz.ntmps85
  go_wp2_with fail
  refine (hNx.out _ (by with_reducible repeat' (first | exact HR.out | refine RL.far ?_ (by omega) _ _ | refine RL.alloc ?_ _ | refine RL.drewN ?_ _ | refine RL.drew ?_))).mono ?_; rintro e w1 ⟨rfl, r1, b1⟩
  have HR1 : Hid (RL w1 R g cap B L E (p + 1)) := Lib.hid (r1 hl)
  clear r1
  have h1 : But R w w1 := But.trans (by (with_reducible repeat' (first | exact But.refl _ _ | refine zBr ?_ _ _ | refine zBs ?_ (by omega) _ _ | refine zBa ?_ _ | refine zBn ?_ _ | refine zBd ?_))) b1
  have y1 : w.heap.size ≤ w1.heap.size := h1.size
  have zk1 : w.heap.size < w1.heap.size := by have := b1.size; first | omega | (simp at this; omega)
  have Hk1 : C8 w1 (w.heap.size) (.int .i64 0) (.int .i64 0) (.int .i64 0) (.int .i64 0) (.int .i64 0) (.int .i64 0) (.string ⟨#[]⟩) (.slice none 0 0) := by refine ⟨?_, ?_, ?_, ?_, ?_, ?_, ?_, ?_⟩ <;> exact b1.cell (show w.heap.size ≠ R by omega) (by simp [go_sem])
  obtain ⟨k10, k11, k12, k13, k14, k15, k16, k17⟩ := Hk1
  have Hkf1 : F8 w1 (w.heap.size) := by refine ⟨?_, ?_, ?_, ?_, ?_, ?_, ?_, ?_⟩ <;> exact b1.frozen (show w.heap.size ≠ R by omega) (by first | omega | (simp; done) | (simp; omega)) (by simp [go_sem])
  obtain ⟨kf10, kf11, kf12, kf13, kf14, kf15, kf16, kf17⟩ := Hkf1
  clear b1
  go_wp2_with fail
  refine (HN.out _ (by with_reducible repeat' (first | exact HR1.out | refine RL.far ?_ (by omega) _ _ | refine RL.alloc ?_ _ | refine RL.drewN ?_ _ | refine RL.drew ?_))).mono ?_; rintro e w2 H2
  cases res with
  | bad z =>
    obtain ⟨rfl, b2⟩ := H2
    exact ⟨rfl, rfl, But.trans (by (with_reducible repeat' (first | exact h1 | refine zBr ?_ _ _ | refine zBs ?_ (by omega) _ _ | refine zBa ?_ _ | refine zBn ?_ _ | refine zBd ?_))) b2⟩
  | ok t q =>
    obtain ⟨⟨x0, x1, x2, x3, x4, x5, xw, xA, xl, xc⟩, rfl, v2, r2, b2⟩ := H2
    have HR2 : Hid (RL w2 R g cap B L E q) := Lib.hid r2
    clear r2
    have HVx2 : Hid (TV w2 (fun b => w.heap.size < b) ⟨x0, x1, x2, x3, x4, x5, xw, xA, xl, xc⟩ (some t)) := Lib.hid (v2.imp fun b hb => by have hb2 : _ ≤ b := hb; first | omega | (simp at hb2; omega))
    clear v2
    have h2 : But R w w2 := But.trans (by (with_reducible repeat' (first | exact h1 | refine zBr ?_ _ _ | refine zBs ?_ (by omega) _ _ | refine zBa ?_ _ | refine zBn ?_ _ | refine zBd ?_))) b2
    have y2 : w.heap.size ≤ w2.heap.size := h2.size
    have zk2 : w.heap.size < w2.heap.size := by have := b2.size; first | omega | (simp at this; omega)
    have Hk2 := c8_lift (B := w.heap.size) (fun j v hv => b2.cell (show w.heap.size ≠ R by omega) (by with_reducible repeat' (first | exact hv | refine zCs ?_ (by omega) _ _ | refine zCa ?_ _ | refine zCn ?_ _ | refine zCd ?_))) k10 k11 k12 k13 k14 k15 k16 k17
    obtain ⟨k20, k21, k22, k23, k24, k25, k26, k27⟩ := Hk2
    have Hkf2 := f8_lift (B := w.heap.size) (fun j hv => b2.frozen (show w.heap.size ≠ R by omega) (by first | omega | (simp; done) | (simp; omega)) (by with_reducible repeat' (first | exact hv | refine zFs ?_ (by omega) _ _ | refine zFa ?_ (by first | omega | (simp; omega)) _ | refine zFn ?_ _ | refine zFd ?_))) kf10 kf11 kf12 kf13 kf14 kf15 kf16 kf17
    obtain ⟨kf20, kf21, kf22, kf23, kf24, kf25, kf26, kf27⟩ := Hkf2
    clear b2 k10 k11 k12 k13 k14 k15 k16 k17 kf10 kf11 kf12 kf13 kf14 kf15 kf16 kf17 zk1
    dsimp only [V8.val]
    go_wp2_with fail
    exact bodyPost_ret (v := .agg #[.int .i64 x0, .int .i64 x1, .int .i64 x2, .int .i64 x3, .int .i64 x4, .int .i64 x5, .string xw, .slice xA xl xc]) (by simp [results, Tryz.results85, go_sem, k20, k21, k22, k23, k24, k25, k26, k27, zk2]) rfl ⟨⟨x0, x1, x2, x3, x4, x5, xw, xA, xl, xc⟩, rfl, ((HVx2.out.kept (by (with_reducible repeat' (first | exact Kept.refl _ _ | refine Kept.set1 ?_ (by omega) _ _ | refine Kept.setNew ?_ (by omega) _ _ | refine Kept.alloc ?_ _ | refine Kept.drewN ?_ _ | refine Kept.drew ?_)))).imp fun b (hb : w.heap.size < b) => Nat.le_of_lt hb), (by with_reducible repeat' (first | exact HR2.out | refine RL.far ?_ (by omega) _ _ | refine RL.alloc ?_ _ | refine RL.drewN ?_ _ | refine RL.drew ?_)), by (with_reducible repeat' (first | exact h2 | refine zBr ?_ _ _ | refine zBs ?_ (by omega) _ _ | refine zBa ?_ _ | refine zBn ?_ _ | refine zBd ?_))⟩
structure Fam (R g cap B : Nat) (L : List Tok) (E k : Nat) : Prop where
  line1 : TreeP R g cap B L E 32 #[.pointer (some ⟨R, 0, none⟩), .int .i64 0] (lineF L E k 1)
  line2 : TreeP R g cap B L E 32 #[.pointer (some ⟨R, 0, none⟩), .int .i64 1] (lineF L E k 2)
  line3 : TreeP R g cap B L E 32 #[.pointer (some ⟨R, 0, none⟩), .int .i64 2] (lineF L E k 3)
  line4 : TreeP R g cap B L E 32 #[.pointer (some ⟨R, 0, none⟩), .int .i64 3] (lineF L E k 4)
  pref : TreeP R g cap B L E 61 #[.pointer (some ⟨R, 0, none⟩)] (prefF L E k)
  oper : TreeP R g cap B L E 85 #[.pointer (some ⟨R, 0, none⟩)] (operF L E k)
  item : TreeP R g cap B L E 118 #[.pointer (some ⟨R, 0, none⟩)] (itemF L E k false)
  corn : TreeP R g cap B L E 117 #[.pointer (some ⟨R, 0, none⟩)] (itemF L E k true)
theorem pcalls_any {R g cap B : Nat} {L : List Tok} {E k : Nat} (hL : L.length ≤ 1000) (hc : cap ≤ maxLen) (hG : GoodXL L) (hk : k ≤ 100000) (H : ∀ j, j ≤ k → Fam R g cap B L E j) {wd : List UInt8} (hw : wordB wd = true)
    (w : World) (p : Nat) (res : Res) (hr : RL w R g cap B L E p) (hf : callF L E k wd p = some res) :
    Calls Tryz.prog 103 #[.pointer (some ⟨R, 0, none⟩), .string ⟨wd.toArray⟩] w (PostP w R g cap B L E res) := by
  unfold callF at hf
  cases hm : isMark L p [40] with
  | false =>
    unfold mustF at hf
    rw [if_neg (by rw [hm]; decide)] at hf
    obtain rfl := Option.some.inj hf
    exact pcall_off hL hc hG hr wd hm
  | true =>
    have hf0 := hf
    clear hf
    have hf : (if wd = [73, 70] then Res.next (lineF L E k 1 (p + 1)) fun a q => mustF L E q [44] fun q => Res.next (lineF L E k 1 q) fun b q => mustF L E q [44] fun q => Res.next (lineF L E k 1 q) fun c q => mustF L E q [41] fun q => some (.ok (callT [73, 70] [a, b, c]) q) else itemsF L E k wd [] (p + 1)) = some res := by
      unfold mustF at hf0
      rw [if_pos hm] at hf0
      exact hf0
    by_cases hi : wd = [73, 70]
    · subst hi
      rw [if_pos rfl] at hf
      have key : ∃ lr, threeA L E k (p + 1) = some lr ∧ CallR L E [73, 70] lr res := by
        obtain ⟨r1, e1, h1⟩ := next_some hf
        unfold threeA
        rw [e1]
        cases r1 with
        | bad z => exact ⟨_, rfl, h1⟩
        | ok a q =>
          have h1' : mustF L E q [44] (fun q => Res.next (lineF L E k 1 q) fun b q => mustF L E q [44] fun q => Res.next (lineF L E k 1 q) fun c q => mustF L E q [41] fun q => some (.ok (callT [73, 70] [a, b, c]) q)) = some res := h1
          unfold mustF at h1'
          show ∃ lr, threeF L E k 2 [a] q = some lr ∧ _
          rw [threeF]
          by_cases m1 : isMark L q [44] = true
          · rw [if_pos m1] at h1' ⊢
            obtain ⟨r2, e2, h2⟩ := next_some h1'
            rw [e2]
            cases r2 with
            | bad z => exact ⟨_, rfl, h2⟩
            | ok b q =>
              have h2' : mustF L E q [44] (fun q => Res.next (lineF L E k 1 q) fun c q => mustF L E q [41] fun q => some (.ok (callT [73, 70] [a, b, c]) q)) = some res := h2
              unfold mustF at h2'
              show ∃ lr, threeF L E k 1 [a, b] q = some lr ∧ _
              rw [threeF]
              by_cases m2 : isMark L q [44] = true
              · rw [if_pos m2] at h2' ⊢
                obtain ⟨r3, e3, h3⟩ := next_some h2'
                rw [e3]
                cases r3 with
                | bad z => exact ⟨_, rfl, h3⟩
                | ok c q =>
                  refine ⟨.ok [a, b, c] q, ?_, h3⟩
                  show threeF L E k 0 [a, b, c] q = _
                  rw [threeF]
              · rw [if_neg m2] at h2' ⊢
                exact ⟨_, rfl, (Option.some.inj h2').symm⟩
          · rw [if_neg m1] at h1' ⊢
            exact ⟨_, rfl, (Option.some.inj h1').symm⟩
      obtain ⟨lr, hlr, hcr⟩ := key
      exact pcall_if hL hc hG hr hm (fun w' hr' => pthree_any hL hc hG (H k (Nat.le_refl _)).line1 w' _ lr hr' hlr) hcr
    · rw [if_neg hi] at hf
      obtain ⟨lr, hlr, hcr⟩ := items_list hf
      have hcr' : CallR L E wd lr res := by
        cases lr with
        | bad z => exact hcr
        | ok ks q => exact hcr
      by_cases h2 : wd = [67, 79, 85, 78, 84]
      · subst h2
        refine pcall_count hL hc hG hr hm (fun w' hr' => ?_) hcr'
        exact plist_any (c := true) hL hc hG (fun args w => enters_of Tryz.func117 (by kernel_rfl) rfl args w) (fun j hj => (H j hj).corn) w' _ lr hr' hlr hk
      · have e2 : (wd == [67, 79, 85, 78, 84]) = false := by rw [beq_eq_false_iff_ne]; exact h2
        rw [e2] at hlr
        refine pcall_other hL hc hG hr (by rw [beq_eq_false_iff_ne]; exact hi) e2 hm (fun w' hr' => ?_) hcr'
        exact plist_any (c := false) hL hc hG (fun args w => enters_of Tryz.func118 (by kernel_rfl) rfl args w) (fun j hj => (H j hj).item) w' _ lr hr' hlr hk
theorem poperand_any {R g cap B : Nat} {L : List Tok} {E k : Nat} (hL : L.length ≤ 1000) (hc : cap ≤ maxLen) (hG : GoodXL L) (hk : k ≤ 100000) (H : ∀ j, j ≤ k → Fam R g cap B L E j) :
    TreeP R g cap B L E 85 #[.pointer (some ⟨R, 0, none⟩)] (operF L E (k + 1)) := by
  intro w p res hr hf
  rw [operF] at hf
  cases hm : isMark L p [40] with
  | true =>
    rw [if_pos hm] at hf
    have hl := mark_lt hm
    have ht : L[p]? = some (L[p]'hl) := List.getElem?_eq_getElem hl
    have hta : tokAt L E p = L[p]'hl := tokAt_in ht
    have h5 : (tokAt L E p).kind = 5 := by
      unfold isMark at hm
      rw [ht] at hm
      have : ((L[p]'hl).kind == 5 && (L[p]'hl).text == [40]) = true := hm
      rw [Bool.and_eq_true] at this
      rw [hta]; exact eq_of_beq this.1
    exact poperand_brk hL hc hG hr hl (by rw [h5]; rfl) (by rw [h5]; rfl) (by rw [h5]; rfl) (by rw [h5]; rfl) hm (H k (Nat.le_refl _)).line1 hf
  | false =>
    rw [if_neg (by rw [hm]; decide)] at hf
    cases ht : L[p]? with
    | none =>
      rw [ht] at hf
      obtain rfl : .bad E = res := Option.some.inj hf
      have hta : tokAt L E p = endTok E := tokAt_out ht
      have := poperand_none hL hc hG hr (by rw [hta]; rfl) (by rw [hta]; rfl) (by rw [hta]; rfl) (by rw [hta]; rfl) hm
      rwa [whr_none ht] at this
    | some t =>
      rw [ht] at hf
      have hta : tokAt L E p = t := tokAt_in ht
      have hl := (List.getElem?_eq_some_iff.1 ht).1
      have hg := (hG p t ht).good
      have hf2 : (if t.kind = 5 then some (.bad t.frm) else if t.kind = 1 then some (.ok (numT t.num) (p + 1)) else if t.kind = 2 then some (.ok (readT t.col t.row) (p + 1)) else if t.kind = 3 then some (.ok badT (p + 1)) else callF L E k t.text (p + 1)) = some res := hf
      clear hf
      have NE : ∀ i : Int, t.kind ≠ i → ((tokAt L E p).kind == i) = false := fun i h => by rw [hta, beq_eq_false_iff_ne]; exact h
      have EQ : ∀ i : Int, t.kind = i → ((tokAt L E p).kind == i) = true := fun i h => by rw [hta, beq_iff_eq]; exact h
      by_cases h5 : t.kind = 5
      · rw [if_pos h5] at hf2
        obtain rfl := Option.some.inj hf2
        have := poperand_none hL hc hG hr (NE 1 (by omega)) (NE 2 (by omega)) (NE 3 (by omega)) (NE 4 (by omega)) hm
        rwa [whr_some ht] at this
      · rw [if_neg h5] at hf2
        by_cases h1 : t.kind = 1
        · rw [if_pos h1] at hf2
          obtain rfl := Option.some.inj hf2
          have := poperand_num hL hc hG hr hl (EQ 1 h1)
          rwa [hta] at this
        · rw [if_neg h1] at hf2
          by_cases h2 : t.kind = 2
          · rw [if_pos h2] at hf2
            obtain rfl := Option.some.inj hf2
            have := poperand_read hL hc hG hr hl (NE 1 h1) (EQ 2 h2)
            rwa [hta] at this
          · rw [if_neg h2] at hf2
            by_cases h3 : t.kind = 3
            · rw [if_pos h3] at hf2
              obtain rfl := Option.some.inj hf2
              exact poperand_bad hL hc hG hr hl (NE 1 h1) (NE 2 h2) (EQ 3 h3)
            · rw [if_neg h3] at hf2
              have h4 : t.kind = 4 := by have := hg.kind; omega
              refine poperand_word hL hc hr hl (NE 1 h1) (NE 2 h2) (NE 3 h3) (EQ 4 h4) fun w' hr' => ?_
              rw [hta]
              exact pcalls_any hL hc hG hk H (hg.word h4) w' (p + 1) res hr' hf2
theorem pprefix_any {R g cap B : Nat} {L : List Tok} {E k : Nat} (hL : L.length ≤ 1000) (hc : cap ≤ maxLen) (hG : GoodXL L) (H : Fam R g cap B L E k) :
    TreeP R g cap B L E 61 #[.pointer (some ⟨R, 0, none⟩)] (prefF L E (k + 1)) := by
  intro w p res hr hf
  rw [prefF] at hf
  cases hm : isMark L p [45] with
  | true =>
    rw [if_pos hm] at hf
    exact pprefix_true hL hc hG hr hm H.pref hf
  | false =>
    rw [if_neg (by rw [hm]; decide)] at hf
    exact pprefix_false hL hc hG hr hm H.oper hf
theorem fam_zero (R g cap B : Nat) (L : List Tok) (E : Nat) : Fam R g cap B L E 0 := by
  constructor <;> intro w p res hr hf
  · rw [lineF] at hf; cases hf
  · rw [lineF] at hf; cases hf
  · rw [lineF] at hf; cases hf
  · rw [lineF] at hf; cases hf
  · rw [prefF] at hf; cases hf
  · rw [operF] at hf; cases hf
  · rw [itemF] at hf; cases hf
  · rw [itemF] at hf; cases hf
theorem fam_all {R g cap B : Nat} {L : List Tok} {E : Nat} (hL : L.length ≤ 1000) (hc : cap ≤ maxLen) (hG : GoodXL L) : ∀ k, k ≤ 100000 → ∀ j, j ≤ k → Fam R g cap B L E j := by
  intro k
  induction k with
  | zero => intro _ j hj; obtain rfl : j = 0 := by omega
            exact fam_zero R g cap B L E
  | succ k ih =>
    intro hk j hj
    by_cases hj2 : j ≤ k
    · exact ih (by omega) j hj2
    · obtain rfl : j = k + 1 := by omega
      have H := ih (by omega)
      have Hk := H k (Nat.le_refl _)
      exact ⟨pexpr_1 hL hc hG fun j hj => (H j hj).line2, pexpr_2 hL hc hG fun j hj => (H j hj).line3, pexpr_3 hL hc hG fun j hj => (H j hj).line4, pexpr_top hL hc hG Hk.pref,
        pprefix_any hL hc hG Hk, poperand_any hL hc hG (by omega) H, pitem_any hL hc hG Hk.line1, pcorners_any hL hc hG⟩
theorem pexpr_any {R g cap B : Nat} {L : List Tok} {E : Nat} (hL : L.length ≤ 1000) (hc : cap ≤ maxLen) (hG : GoodXL L) (w : World) (res : Res) (hr : RL w R g cap B L E 0) (hf : treeT L E = some res) :
    Calls Tryz.prog 32 #[.pointer (some ⟨R, 0, none⟩), .int .i64 0] w (PostP w R g cap B L E res) :=
  (fam_all hL hc hG (8 * L.length + 6) (by omega) _ (Nat.le_refl _)).line1 w 0 res hr hf
end Go.Proofs.YtahdlijkohmdfaaGreatDoor
namespace Go.Proofs.YtahdlijkohmdfaaGreatDoor
open Go.RowKit

set_option maxHeartbeats 2000000 in
set_option maxRecDepth 10000 in
theorem fcatch_idle (a b c : Value) (w : World) :
    CallsD Tryz.prog 31 #[a, b, c] .returning w fun e u' w' => e = .returned (.tuple #[]) ∧ u' = .returning ∧ w' = w := by
  refine callsD_of_wpS Tryz.func31 rfl fun c₀ cs hu => ?_
  apply wpS_seq
  apply wpS_region
  simp [wpOpsS, go_sem, recoverD, hu, Tryz.ntmps31, Exit.thenS]
  apply wpS_seq
  apply wpS_region
  simp [wpOpsS, go_sem, recoverD, hu, Exit.thenS]
  refine wpS_cond (t := false) (by simp [Act.eval, Array.replicate]) ?_
  simp only [Bool.false_eq_true, if_false]
  refine wpS_of_wp (wp_skip ?_)
  cases c₀
  simp_all [bodyPostS, results, Tryz.results31]
theorem drew_set (w : World) (a : Addr) (v : Value) : (w.setCell a v).drew = w.drew.setCell a v := rfl
def caughtW (w : World) (T F E : Nat) (z : Int) : World :=
  ((((((((((w.setCell ⟨T, 0, none⟩ (.int .i64 0)).setCell ⟨T, 1, none⟩ (.int .i64 0)).setCell ⟨T, 2, none⟩ (.int .i64 0)).setCell ⟨T, 3, none⟩ (.int .i64 0)).setCell ⟨T, 4, none⟩ (.int .i64 0)).setCell ⟨T, 5, none⟩ (.int .i64 0)).setCell ⟨T, 6, none⟩ (.string ⟨#[]⟩)).setCell ⟨T, 7, none⟩ (.slice none 0 0)).setCell ⟨F, 0, none⟩ (.int .i64 z)).setCell ⟨E, 0, none⟩ (.int .i64 2))
set_option maxHeartbeats 2000000 in
set_option maxRecDepth 10000 in
theorem fcatch_panic (T F E : Nat) (z : Int) (older : List PanicEntry) (w : World) (x : V8) (f e : Int)
    (t0 : w.cell? ⟨T, 0, none⟩ = some (.int .i64 x.n0)) (t1 : w.cell? ⟨T, 1, none⟩ = some (.int .i64 x.n1)) (t2 : w.cell? ⟨T, 2, none⟩ = some (.int .i64 x.n2)) (t3 : w.cell? ⟨T, 3, none⟩ = some (.int .i64 x.n3)) (t4 : w.cell? ⟨T, 4, none⟩ = some (.int .i64 x.n4)) (t5 : w.cell? ⟨T, 5, none⟩ = some (.int .i64 x.n5)) (t6 : w.cell? ⟨T, 6, none⟩ = some (.string x.s)) (t7 : w.cell? ⟨T, 7, none⟩ = some (.slice x.A x.len x.cap))
    (hf : w.cell? ⟨F, 0, none⟩ = some (.int .i64 f)) (he : w.cell? ⟨E, 0, none⟩ = some (.int .i64 e)) (z0 : ∀ j, w.frozen? ⟨T, j, none⟩ = false) (zf : w.frozen? ⟨F, 0, none⟩ = false) (ze : w.frozen? ⟨E, 0, none⟩ = false) (n1 : T ≠ F) (n2 : T ≠ E) (n3 : F ≠ E) :
    CallsD Tryz.prog 31 #[.pointer (some ⟨T, 0, none⟩), .pointer (some ⟨F, 0, none⟩), .pointer (some ⟨E, 0, none⟩)] (.panicking ({ v := .iface 64 (.int .i64 z), recovered := false } :: older)) w fun e u' w' =>
      e = .returned (.tuple #[]) ∧ u' = .panicking ({ v := .iface 64 (.int .i64 z), recovered := true } :: older) ∧ w' = caughtW w.drew T F E z := by
  refine callsD_of_wpS Tryz.func31 rfl fun c₀ cs hu => ?_
  have f0 := z0 0
  have f1 := z0 1
  have f2 := z0 2
  have f3 := z0 3
  have f4 := z0 4
  have f5 := z0 5
  have f6 := z0 6
  have f7 := z0 7
  apply wpS_seq
  apply wpS_region
  simp [wpOpsS, go_sem, recoverD, hu, Tryz.ntmps31, Exit.thenS]
  apply wpS_seq
  apply wpS_region
  simp [wpOpsS, go_sem, recoverD, hu, Exit.thenS]
  refine wpS_cond (t := true) (by simp [Act.eval, Array.replicate]) ?_
  simp only [if_true]
  refine wpS_of_wp ?_
  have hA : (#[Value.pointer (some ⟨T, 0, none⟩), .pointer (some ⟨F, 0, none⟩), .pointer (some ⟨E, 0, none⟩)] ++ ((((Array.replicate 7 undef).setIfInBounds 1 (Value.iface 64 (.int .i64 z))).setIfInBounds 0 (.iface 64 (.int .i64 z))).setIfInBounds 2 (.iface 64 (.int .i64 z))).setIfInBounds 3 (.bool true) : Array Value) =
      #[.pointer (some ⟨T, 0, none⟩), .pointer (some ⟨F, 0, none⟩), .pointer (some ⟨E, 0, none⟩), .iface 64 (.int .i64 z), .iface 64 (.int .i64 z), .iface 64 (.int .i64 z), .bool true, undef, undef, undef] := rfl
  rw [hA]
  clear hA
  have hTA : ∀ w : World, (Instr.typeAssert (.iface 64 (.int .i64 z)) 20 64 false).run Tryz.prog w = .ok (.int .i64 z) w := fun _ => by kernel_rfl
  go_region
  all_goals
    refine ⟨rfl, _, rfl, .tuple #[], ?_, rfl, rfl, ?_⟩
    · simp [results, Tryz.results31, go_sem]
    · simp only [drew_set, caughtW]
end Go.Proofs.YtahdlijkohmdfaaGreatDoor
