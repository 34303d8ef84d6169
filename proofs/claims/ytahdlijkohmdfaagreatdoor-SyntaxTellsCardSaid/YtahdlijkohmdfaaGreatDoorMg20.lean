/- Texts joined: SyS, SyQ, WrE. -/
import Derived.Test.YtahdlijkohmdfaaGreatDoorMg19
import Derived.Test.YtahdlijkohmdfaaGreatDoorMg09
set_option linter.all false
set_option linter.unusedVariables false
set_option linter.unusedSimpArgs false
/- Which trees may be: the program's test down to a depth is the document's. -/
namespace Go.Proofs.YtahdlijkohmdfaaGreatDoor

theorem allB_iff {ks : List Tr} {a b : Bool} : allB ks a b = true ↔ ∀ t ∈ ks, mayB t = true ∧ (a = true ∨ t.kind ≠ 6) ∧ (b = false ∨ t.kind = 6 ∨ t.kind = 2) := by
  refine ⟨all_mem, fun h => ?_⟩
  induction ks with
  | nil => rw [allB]
  | cons u r ih =>
    rw [allB]
    obtain ⟨h1, h2, h3⟩ := h u (by simp)
    simp only [Bool.and_eq_true, Bool.or_eq_true, Bool.not_eq_true', bne_iff_ne, beq_iff_eq]
    exact ⟨⟨h1, h2, by rcases h3 with h3 | h3 | h3; exact .inl (.inl h3); exact .inl (.inr h3); exact .inr h3⟩, ih fun t ht => h t (by simp [ht])⟩
theorem deepL_iff {ks : List Tr} {d : Nat} : deepL ks ≤ d ↔ ∀ u ∈ ks, deepT u ≤ d := by
  induction ks with
  | nil => simp [deepL]
  | cons u r ih =>
    rw [deepL]
    constructor
    · intro h v hv
      rcases List.mem_cons.1 hv with rfl | hv
      · omega
      · exact ih.1 (by omega) v hv
    · intro h
      have h1 := h u (by simp)
      have h2 := ih.2 fun v hv => h v (by simp [hv])
      omega
theorem any_span {ks : List Tr} : ks.any (fun t => t.kind == 6) = false ↔ ∀ t ∈ ks, t.kind ≠ 6 := by
  rw [Bool.eq_false_iff]
  simp [List.any_eq_true]
theorem any_unc {ks : List Tr} : ks.any (fun t => (t.kind != 6) && (t.kind != 2)) = false ↔ ∀ t ∈ ks, t.kind = 6 ∨ t.kind = 2 := by
  rw [Bool.eq_false_iff]
  simp [List.any_eq_true]
  constructor
  · intro h t ht
    by_cases h6 : t.kind = 6
    · exact .inl h6
    · exact .inr (h t ht h6)
  · intro h t ht h6
    exact (h t ht).resolve_left h6
theorem allB_span {ks : List Tr} : allB ks false false = true ↔ ks.any (fun t => t.kind == 6) = false ∧ ∀ u ∈ ks, mayB u = true := by
  rw [allB_iff, any_span]
  constructor
  · intro h
    refine ⟨fun t ht => ?_, fun t ht => (h t ht).1⟩
    rcases (h t ht).2.1 with h1 | h1
    · cases h1
    · exact h1
  · intro h t ht
    exact ⟨h.2 t ht, .inr (h.1 t ht), .inl rfl⟩
theorem allB_free {ks : List Tr} : allB ks true false = true ↔ ∀ u ∈ ks, mayB u = true := by
  rw [allB_iff]
  exact ⟨fun h t ht => (h t ht).1, fun h t ht => ⟨h t ht, .inl rfl, .inl rfl⟩⟩
theorem allB_unc {ks : List Tr} : allB ks true true = true ↔ ks.any (fun t => (t.kind != 6) && (t.kind != 2)) = false ∧ ∀ u ∈ ks, mayB u = true := by
  rw [allB_iff, any_unc]
  constructor
  · intro h
    refine ⟨fun t ht => ?_, fun t ht => (h t ht).1⟩
    rcases (h t ht).2.2 with h1 | h1
    · cases h1
    · exact h1
  · intro h t ht
    exact ⟨h.2 t ht, .inl rfl, .inr (h.1 t ht)⟩
theorem only_bool (k : Int) (hk : k = 3 ∨ k = 4 ∨ k = 5) : ∀ a b b2 b3 b4 e l g : Bool, ((k == 0 || a) && ((k == 1 || k == 6 || (b && b2 && b3 && b4)) && ((k == 4 || k == 5 || e) && l))) =
    (!(((!a) && (k != 0)) || (((!(b && b2 && (b3 && b4))) && ((k != 1) && (k != 6))) || (((!e) && ((k != 4) && (k != 5))) || (g && ((k != 3) && ((k != 4) && (k != 5))))))) && l) := by
  rcases hk with rfl | rfl | rfl <;> decide
theorem only_spare (k n c r d s : Int) (w : List UInt8) (ks : List Tr) (m : Nat) (hk : k = 3 ∨ k = 4 ∨ k = 5) :
    onlyB (.mk k n c r d s w ks) m = (!spareB (.mk k n c r d s w ks) && (ks.length == m)) :=
  only_bool k hk (n == 0) (c == 0) (r == 0) (d == 0) (s == 0) (w == []) (ks.length == m) (decide ((0 : Int) < (ks.length : Int)))
theorem rest_bool : ∀ a b b2 b3 b4 e l k0 k1 k6 : Bool, (((!a) && (!k0)) || (((!(b && b2 && (b3 && b4))) && ((!k1) && (!k6))) || (((!e) && ((!false) && (!false))) || ((!l) && ((!false) && ((!false) && (!false)))))) ) =
    !((k0 || a) && ((k1 || k6 || (b && b2 && b3 && b4)) && (e && l))) := by decide
/-- one level: the kids may, and the rest is fine -/
theorem may_level (t : Tr) : mayB t = true ↔ spareB t = false ∧ soundB t = true ∧ ∀ u ∈ t.kids, mayB u = true := by
  cases t with
  | mk k n c r d s w ks =>
    by_cases h3 : k = 3
    · subst h3
      have hm : mayB (.mk 3 n c r d s w ks) = (onlyB (.mk 3 n c r d s w ks) 1 && allB ks false false) := by rw [mayB]; rfl
      have hs : soundB (.mk 3 n c r d s w ks) = ((ks.length == 1) && !ks.any (fun t => t.kind == 6)) := rfl
      rw [hm, hs, only_spare _ _ _ _ _ _ _ _ _ (.inl rfl)]
      show _ ↔ _ ∧ _ ∧ ∀ u ∈ ks, _
      simp only [Bool.and_eq_true, Bool.not_eq_true', allB_span]
      exact ⟨fun h => ⟨h.1.1, ⟨h.1.2, h.2.1⟩, h.2.2⟩, fun h => ⟨⟨h.1, h.2.1.1⟩, h.2.1.2, h.2.2⟩⟩
    · by_cases h4 : k = 4
      · subst h4
        have hm : mayB (.mk 4 n c r d s w ks) = (onlyB (.mk 4 n c r d s w ks) 2 && (allB ks false false && decide (1 ≤ lvl w))) := by rw [mayB]; rfl
        have hs : soundB (.mk 4 n c r d s w ks) = (decide (0 ≤ (lvl w : Int) - 1) && ((ks.length == 2) && !ks.any (fun t => t.kind == 6))) := rfl
        rw [hm, hs, only_spare _ _ _ _ _ _ _ _ _ (.inr (.inl rfl))]
        show _ ↔ _ ∧ _ ∧ ∀ u ∈ ks, _
        simp only [Bool.and_eq_true, Bool.not_eq_true', allB_span, decide_eq_true_eq]
        exact ⟨fun h => ⟨h.1.1, ⟨by omega, h.1.2, h.2.1.1⟩, h.2.1.2⟩, fun h => ⟨⟨h.1, h.2.1.2.1⟩, ⟨h.2.1.2.2, h.2.2⟩, by have := h.2.1.1; omega⟩⟩
      · by_cases h5 : k = 5
        · subst h5
          have hm : mayB (.mk 5 n c r d s w ks) = (onlyB (.mk 5 n c r d s w ks) ks.length && (allB ks (w != [73, 70]) (w == [67, 79, 85, 78, 84]) && (if w = [73, 70] then ks.length == 3 else if w = [83, 85, 77] ∨ w = [77, 73, 78] ∨ w = [77, 65, 88] ∨ w = [67, 79, 85, 78, 84] then decide (0 < ks.length) else false))) := by rw [mayB]; rfl
          have hs : soundB (.mk 5 n c r d s w ks) = (if w = [73, 70] then ((ks.length == 3) && !ks.any (fun t => t.kind == 6)) else if w = [83, 85, 77] ∨ w = [77, 73, 78] ∨ w = [77, 65, 88] then decide ((0 : Int) < (ks.length : Int)) else if w = [67, 79, 85, 78, 84] then decide ((0 : Int) < (ks.length : Int)) && !ks.any (fun t => (t.kind != 6) && (t.kind != 2)) else false) := rfl
          rw [hm, hs, only_spare _ _ _ _ _ _ _ _ _ (.inr (.inr rfl))]
          show _ ↔ _ ∧ _ ∧ ∀ u ∈ ks, _
          clear hm hs
          have hd : (decide (0 < ks.length) = true) ↔ (decide ((0 : Int) < (ks.length : Int)) = true) := by
            rw [decide_eq_true_eq, decide_eq_true_eq]; omega
          by_cases w1 : w = [73, 70]
          · subst w1
            rw [show (([73, 70] : List UInt8) != [73, 70]) = false from by decide, show (([73, 70] : List UInt8) == [67, 79, 85, 78, 84]) = false from by decide, if_pos rfl, if_pos rfl]
            simp only [Bool.and_eq_true, Bool.not_eq_true', allB_span, beq_self_eq_true, and_true]
            exact ⟨fun h => ⟨h.1, ⟨h.2.2, h.2.1.1⟩, h.2.1.2⟩, fun h => ⟨h.1, ⟨h.2.1.2, h.2.2⟩, h.2.1.1⟩⟩
          · rw [if_neg w1, if_neg w1, show (w != [73, 70]) = true from by simp [w1]]
            by_cases w2 : w = [83, 85, 77] ∨ w = [77, 73, 78] ∨ w = [77, 65, 88]
            · rw [if_pos w2, if_pos (by rcases w2 with h | h | h; exact .inl h; exact .inr (.inl h); exact .inr (.inr (.inl h))), show (w == [67, 79, 85, 78, 84]) = false from by rcases w2 with rfl | rfl | rfl <;> decide]
              simp only [Bool.and_eq_true, Bool.not_eq_true', allB_free, beq_self_eq_true, and_true, hd]
              exact ⟨fun h => ⟨h.1, h.2.2, h.2.1⟩, fun h => ⟨h.1, h.2.2, h.2.1⟩⟩
            · rw [if_neg w2]
              by_cases w3 : w = [67, 79, 85, 78, 84]
              · subst w3
                rw [if_pos (.inr (.inr (.inr rfl))), if_pos rfl, show (([67, 79, 85, 78, 84] : List UInt8) == [67, 79, 85, 78, 84]) = true from by decide]
                simp only [Bool.and_eq_true, Bool.not_eq_true', allB_unc, beq_self_eq_true, and_true, hd]
                exact ⟨fun h => ⟨h.1, ⟨h.2.2, h.2.1.1⟩, h.2.1.2⟩, fun h => ⟨h.1, ⟨h.2.1.2, h.2.2⟩, h.2.1.1⟩⟩
              · rw [if_neg w3, if_neg (by rintro (h | h | h | h); exact w2 (.inl h); exact w2 (.inr (.inl h)); exact w2 (.inr (.inr h)); exact w3 h)]
                simp
        · have hs : ∀ m, onlyB (.mk k n c r d s w ks) m = ((k == 0 || n == 0) && ((k == 1 || k == 6 || (c == 0 && r == 0 && d == 0 && s == 0)) && ((w == []) && ks.length == m))) := by
            intro m
            show ((k == 0 || n == 0) && ((k == 1 || k == 6 || (c == 0 && r == 0 && d == 0 && s == 0)) && ((k == 4 || k == 5 || w == []) && ks.length == m))) = _
            rw [show (k == 4) = false from by simp [h4], show (k == 5) = false from by simp [h5]]
            rfl
          have hs0 : ∀ x : Bool, (x = true → True) := fun _ _ => trivial
          have hsp : spareB (.mk k n c r d s w ks) = !onlyB (.mk k n c r d s w ks) 0 := by
            rw [hs]
            have hl : decide ((0 : Int) < (ks.length : Int)) = !(ks.length == 0) := by
              cases ks <;> simp
            have hu : spareB (.mk k n c r d s w ks) = (((!(n == 0)) && (!(k == 0))) || (((!((c == 0) && (r == 0) && ((d == 0) && (s == 0)))) && ((!(k == 1)) && (!(k == 6)))) || (((!(w == [])) && ((!(k == 4)) && (!(k == 5)))) || ((decide ((0 : Int) < (ks.length : Int))) && ((!(k == 3)) && ((!(k == 4)) && (!(k == 5)))))))) := rfl
            rw [hu, hl, show (k == 3) = false from by simp [h3], show (k == 4) = false from by simp [h4], show (k == 5) = false from by simp [h5]]
            exact rest_bool _ _ _ _ _ _ _ _ _ _
          have hk : onlyB (.mk k n c r d s w ks) 0 = true → ∀ u ∈ ks, mayB u = true := by
            intro h u hu
            rw [hs] at h
            simp only [Bool.and_eq_true, beq_iff_eq, List.length_eq_zero_iff] at h
            rw [h.2.2.2] at hu; cases hu
          rw [hsp, mayB]
          generalize ho : onlyB (.mk k n c r d s w ks) 0 = o at *
          rw [if_neg h3, if_neg h4, if_neg h5]
          have hsd : soundB (.mk k n c r d s w ks) = (if k = 0 then decide (0 ≤ n) else if k = 1 then rightB c r && (c == d && r == s) else if k = 2 then true
  else if k = 3 then exprsB ks 1 else if k = 4 then decide (0 ≤ (lvl w : Int) - 1) && exprsB ks 2 else if k = 5 then calledB w ks
  else if k = 6 then wholeB c r d s else false) := rfl
          rw [hsd, if_neg h3, if_neg h4, if_neg h5]
          show _ ↔ _ ∧ _ ∧ ∀ u ∈ ks, _
          have hw : wholeB c r d s = (rightB c r && rightB d s && decide (c ≤ d) && decide (r ≤ s)) := by
            rw [Bool.eq_iff_iff, wholeB_iff]
            simp only [Bool.and_eq_true, decide_eq_true_eq, rightB_iff]
            omega
          rw [hw]
          cases o with
          | false =>
            have : ∀ p q r s : Prop, ∀ [Decidable p] [Decidable q] [Decidable r] [Decidable s], ∀ x y z : Bool, (if p then false && x else if q then false && y else if r then false else if s then false && z else false) = false := by
              intro p q r s _ _ _ _ x y z
              split
              · rfl
              · split
                · rfl
                · split
                  · rfl
                  · split <;> rfl
            rw [this]
            simp
          | true =>
            simp only [Bool.true_and, Bool.not_true, true_and]
            by_cases h0 : k = 0
            · rw [if_pos h0]
              exact ⟨fun h => ⟨h, hk rfl⟩, fun h => h.1⟩
            · by_cases h1 : k = 1
              · rw [if_neg h0, if_pos h1]
                exact ⟨fun h => ⟨h, hk rfl⟩, fun h => h.1⟩
              · by_cases h2 : k = 2
                · rw [if_neg h0, if_neg h1, if_pos h2]
                  exact ⟨fun h => ⟨h, hk rfl⟩, fun h => h.1⟩
                · rw [if_neg h0, if_neg h1, if_neg h2]
                  by_cases h6 : k = 6
                  · rw [if_pos h6]
                    exact ⟨fun h => ⟨h, hk rfl⟩, fun h => h.1⟩
                  · rw [if_neg h6]
                    exact ⟨fun h => ⟨h, hk rfl⟩, fun h => h.1⟩
/-- down to a depth: the test is the document's, and the depth is enough -/
theorem fit_may : ∀ (d : Nat) (t : Tr), fitB d t = true ↔ deepT t ≤ d ∧ mayB t = true := by
  intro d
  induction d with
  | zero =>
    intro t
    unfold fitB
    cases t
    rw [deepT]
    simp
  | succ d ih =>
    intro t
    rw [may_level]
    unfold fitB
    simp only [Bool.and_eq_true, Bool.not_eq_true', List.all_eq_true]
    cases t with
    | mk k n c r e s w ks =>
      rw [deepT]
      simp only [Tr.kids]
      have hd : deepL ks + 1 ≤ d + 1 ↔ ∀ u ∈ ks, deepT u ≤ d := by rw [← deepL_iff]; omega
      rw [hd]
      exact ⟨fun h => ⟨fun u hu => ((ih u).1 (h.2.2 u hu)).1, h.1, h.2.1, fun u hu => ((ih u).1 (h.2.2 u hu)).2⟩, fun h => ⟨h.2.1, h.2.2.1, fun u hu => (ih u).2 ⟨h.1 u hu, h.2.2.2 u hu⟩⟩⟩
end Go.Proofs.YtahdlijkohmdfaaGreatDoor
/- A tree that may be passes the document's own test. -/
namespace Go.Proofs.YtahdlijkohmdfaaGreatDoor

def MoM (t : Tr) : Mode → Prop
  | .tree => mayB t = true ∧ t.kind ≠ 6
  | .wi _ => mayB t = true ∧ t.kind ≠ 6
  | .item k => mayB t = true ∧ (k = true → t.kind = 6 ∨ t.kind = 2)
  | .its k => t.kids ≠ [] ∧ allB t.kids true k = true
theorem pr_may {md : Mode} {t : Tr} {s : List UInt8} {ts : List Tok} (h : Pr md t s ts) : MoM t md := by
  induction h with
  | @num n _ => exact ⟨by unfold numT; rw [mayB]; simp [onlyB], by simp [numT, Tr.kind]⟩
  | @read c r h => exact ⟨by unfold readT; rw [mayB]; simp [onlyB, h], by simp [readT, Tr.kind]⟩
  | bad => exact ⟨by unfold badT; rw [mayB]; simp [onlyB], by simp [badT, Tr.kind]⟩
  | @neg a s ts _ ih => exact ⟨by unfold negT; rw [mayB, allB, allB]; simp [onlyB, ih.1, ih.2], by simp [negT, Tr.kind]⟩
  | @op w sa sb a b ta tb hw _ _ iha ihb => exact ⟨by unfold opT; rw [mayB, allB, allB, allB]; simp [onlyB, iha.1, iha.2, ihb.1, ihb.2, hw], by simp [opT, Tr.kind]⟩
  | plain _ _ ih => exact ih
  | brk _ _ _ ih => exact ih
  | @cif a b c sa sb sc ta tb tc _ _ _ iha ihb ihc =>
    have H : allB [a, b, c] false false = true := by rw [allB, allB, allB, allB]; simp [iha.1, iha.2, ihb.1, ihb.2, ihc.1, ihc.2]
    exact ⟨by unfold callT; rw [mayB]; simp [onlyB, H], by simp [callT, Tr.kind]⟩
  | @call w s ks ts hw _ ih =>
    have hne : ks ≠ [] := ih.1
    have ha : allB ks true (w == [67, 79, 85, 78, 84]) = true := ih.2
    have hp : 0 < ks.length := List.length_pos_iff.2 hne
    refine ⟨?_, by simp [callT, Tr.kind]⟩
    unfold callT
    have e1 : (w != [73, 70]) = true := by rcases hw with rfl | rfl | rfl | rfl <;> decide
    have e2 : ¬ w = [73, 70] := by rcases hw with rfl | rfl | rfl | rfl <;> decide
    rw [mayB, e1, ha, if_neg e2, if_pos hw, decide_eq_true hp]
    simp [onlyB]
  | itT _ ih => exact ⟨ih.1, fun h => by cases h⟩
  | itBad => exact ⟨by unfold badT; rw [mayB]; simp [onlyB], fun _ => .inr (by simp [badT, Tr.kind])⟩
  | @itSpan k c r d s h1 h2 h3 h4 => exact ⟨by unfold spanT; rw [mayB]; simp [onlyB, h1, h2, h3, h4], fun _ => .inl (by simp [spanT, Tr.kind])⟩
  | @last k t s ts _ ih =>
    refine ⟨by simp [callT, Tr.kids], ?_⟩
    show allB [t] true k = true
    rw [allB, allB]
    cases k with
    | false => simp [ih.1]
    | true => rcases ih.2 rfl with e | e <;> simp [ih.1, e]
  | @more k t ks s s' ts ts' _ _ ih ih' =>
    have ha : allB ks true k = true := ih'.2
    refine ⟨by simp [callT, Tr.kids], ?_⟩
    show allB (t :: ks) true k = true
    rw [allB]
    cases k with
    | false => simp [ih.1, ha]
    | true => rcases ih.2 rfl with e | e <;> simp [ih.1, e, ha]
end Go.Proofs.YtahdlijkohmdfaaGreatDoor
/- The program's own text of a tree: write, of any tree that may be. -/
namespace Go.Proofs.YtahdlijkohmdfaaGreatDoor
open Go.RowKit

theorem place_len (c r : Int) : (placeText c r).length ≤ 100 := by
  unfold placeText
  by_cases h : rightB c r = true
  · rw [if_pos h]
    obtain ⟨_, _, r0, r1⟩ := (rightB_iff c r).1 h
    have := itoa_len (r + 1) (by unfold B64; omega)
    simp; omega
  · rw [if_neg h]; simp
/-- what the program's write is to do with a tree -/
def WritesT (w0 : World) (b : Nat) (t : Tr) : Prop := ∀ (A : Option Addr) (ca : Nat), KV w0 (fun _ => True) t A → WriteC w0 b 22 #[.pointer (some ⟨b, 0, none⟩), tv t A ca] (txT t)
theorem two_of {ks : List Tr} (h : ks.length = 2) : ∃ u v, ks = [u, v] := by
  match ks, h with
  | [u, v], _ => exact ⟨u, v, rfl⟩
theorem one_elem {ks : List Tr} (h : ks.length = 1) : ∃ u, ks = [u] := by
  match ks, h with
  | [u], _ => exact ⟨u, rfl⟩
theorem write_level {w0 : World} {b : Nat} (hE : EnvI w0) (hS : Strs w0.heap.size w0.heap.size w0) (hB : w0.heap.size ≤ b) (t : Tr) (hW : Wid t) (hF : Fit t) (hM : mayB t = true) (ih : ∀ u ∈ t.kids, WritesT w0 b u) : WritesT w0 b t := by
  intro A ca hA
  have hlen := hW.len
  obtain ⟨hsp, hso, _⟩ := (may_level t).1 hM
  by_cases h0 : t.kind = 0
  · have hn : 0 ≤ t.num ∧ t.num ≤ 9223372036854775807 := by
      cases hF with
      | @mk k n c r d s w ks hn _ =>
        obtain rfl : k = 0 := h0
        refine ⟨?_, hn⟩
        have : soundB (.mk 0 n c r d s w ks) = decide (0 ≤ n) := rfl
        exact of_decide_eq_true (this.symm.trans hso)
    have e : txT t = Lib.itoa t.num := by
      cases t with
      | mk k n c r d s w ks =>
        obtain rfl : k = 0 := h0
        rw [txT, if_pos rfl]
        obtain ⟨m, rfl⟩ := Int.eq_ofNat_of_zero_le hn.1
        exact (Lib.itoa_nonneg m).symm
    rw [e]
    exact wleaf_num hE t hlen A ca (by rw [h0]; rfl) (by unfold B64; omega)
  have n0 : (t.kind == 0) = false := by simpa using h0
  by_cases h1 : t.kind = 1
  · have e : txT t = placeText t.c1 t.r1 := by
      cases t with
      | mk k n c r d s w ks =>
        obtain rfl : k = 1 := h1
        rw [txT, if_neg (by decide), if_pos rfl]
        rfl
    rw [e]
    exact wleaf_read hE t hlen A ca n0 (by rw [h1]; rfl)
  have n1 : (t.kind == 1) = false := by simpa using h1
  by_cases h2 : t.kind = 2
  · have e : txT t = [35, 82, 69, 70] := by
      cases t with
      | mk k n c r d s w ks =>
        obtain rfl : k = 2 := h2
        rw [txT, if_neg (by decide), if_neg (by decide), if_neg (by decide), if_neg (by decide), if_neg (by decide), if_neg (by decide)]
    rw [e]
    exact wleaf_bad hE t hlen A ca n0 n1 (by rw [h2]; rfl)
  have n2 : (t.kind == 2) = false := by simpa using h2
  by_cases h3 : t.kind = 3
  · have hks : t.kids.length = 1 := by
      cases t with
      | mk k n c r d s w ks =>
        obtain rfl : k = 3 := h3
        have : soundB (.mk 3 n c r d s w ks) = exprsB ks 1 := rfl
        rw [this] at hso
        unfold exprsB at hso
        simp at hso
        exact hso.1
    obtain ⟨u, hu⟩ := one_elem hks
    have hi : t.kids[0]? = some u := by rw [hu]; rfl
    obtain ⟨g, o, rfl⟩ := hA.addr hi
    obtain ⟨_, _, A', c', h8, hkv⟩ := hA.kid hi
    have hP := wpart_any u (hW.kid hi).len A' c' (ih u (by rw [hu]; simp) A' c' hkv) 4 hS
    have e : txT t = 45 :: txW 4 u (txT u) := by
      cases t with
      | mk k n c r d s w ks =>
        obtain rfl : k = 3 := h3
        obtain rfl : ks = [u] := hu
        rw [txT, if_neg (by decide), if_neg (by decide), if_neg (by decide), if_pos rfl, txL_cons]
        rfl
    rw [e]
    exact wneg_any t hlen hks g o ca n0 n1 n2 (by rw [h3]; rfl) (by simpa using h8) hP
  have n3 : (t.kind == 3) = false := by simpa using h3
  by_cases h4 : t.kind = 4
  · have hks : t.kids.length = 2 := by
      cases t with
      | mk k n c r d s w ks =>
        obtain rfl : k = 4 := h4
        have : soundB (.mk 4 n c r d s w ks) = (decide (0 ≤ (lvl w : Int) - 1) && exprsB ks 2) := rfl
        rw [this] at hso
        unfold exprsB at hso
        simp at hso
        exact hso.2.1
    obtain ⟨u, v, hu⟩ := two_of hks
    have hi : t.kids[0]? = some u := by rw [hu]; rfl
    have hj : t.kids[1]? = some v := by rw [hu]; rfl
    obtain ⟨g, o, rfl⟩ := hA.addr hi
    obtain ⟨_, _, A', c', h8, hkv⟩ := hA.kid hi
    obtain ⟨_, _, B', d', k8, hkv2⟩ := hA.kid hj
    have hP1 := wpart_any u (hW.kid hi).len A' c' (ih u (by rw [hu]; simp) A' c' hkv) (lvl t.word) hS
    have hP2 := wpart_any v (hW.kid hj).len B' d' (ih v (by rw [hu]; simp) B' d' hkv2) (lvl t.word + 1) hS
    have e : txT t = txW (lvl t.word) u (txT u) ++ (t.word ++ txW (lvl t.word + 1) v (txT v)) := by
      cases t with
      | mk k n c r d s w ks =>
        obtain rfl : k = 4 := h4
        obtain rfl : ks = [u, v] := hu
        rw [txT, if_neg (by decide), if_neg (by decide), if_neg (by decide), if_neg (by decide), if_pos rfl, txL_cons, txL_cons]
        rfl
    rw [e]
    exact wop_any t hlen hks g o ca n0 n1 n2 n3 (by rw [h4]; rfl) hS (by simpa using h8) (by simpa using k8) hP1 hP2
  have n4 : (t.kind == 4) = false := by simpa using h4
  by_cases h5 : t.kind = 5
  · have hne : t.kids ≠ [] := by
      cases t with
      | mk k n c r d s w ks =>
        obtain rfl : k = 5 := h5
        rintro (rfl : ks = [])
        have : soundB (.mk 5 n c r d s w []) = calledB w [] := rfl
        rw [this] at hso
        unfold calledB exprsB at hso
        simp at hso
    have e : txT t = t.word ++ (txH (txL t.kids) ++ [41]) := by
      rw [txH_all _ (by rw [txL_map]; simpa using hne)]
      cases t with
      | mk k n c r d s w ks =>
        obtain rfl : k = 5 := h5
        rw [txT, if_neg (by decide), if_neg (by decide), if_neg (by decide), if_neg (by decide), if_neg (by decide), if_pos rfl]
        rfl
    rw [e]
    exact wcall_any t hlen A ca n0 n1 n2 n3 n4 (by rw [h5]; rfl) (wcallp_any t hlen A ca hA hB ih)
  have n5 : (t.kind == 5) = false := by simpa using h5
  by_cases h6 : t.kind = 6
  · have e : txT t = placeText t.c1 t.r1 ++ 58 :: placeText t.c2 t.r2 := by
      cases t with
      | mk k n c r d s w ks =>
        obtain rfl : k = 6 := h6
        rw [txT, if_neg (by decide), if_neg (by decide), if_pos rfl]
        rfl
    rw [e]
    exact wleaf_span hE t hlen A ca n0 n1 n2 n3 n4 n5 (by rw [h6]; rfl) (place_len _ _) (place_len _ _)
  · exfalso
    cases t with
    | mk k n c r d s w ks =>
      have : soundB (.mk k n c r d s w ks) = (if k = 0 then decide (0 ≤ n) else if k = 1 then rightB c r && (c == d && r == s) else if k = 2 then true
  else if k = 3 then exprsB ks 1 else if k = 4 then decide (0 ≤ (lvl w : Int) - 1) && exprsB ks 2 else if k = 5 then calledB w ks
  else if k = 6 then wholeB c r d s else false) := rfl
      change ¬ k = 0 at h0
      change ¬ k = 1 at h1
      change ¬ k = 2 at h2
      change ¬ k = 3 at h3
      change ¬ k = 4 at h4
      change ¬ k = 5 at h5
      change ¬ k = 6 at h6
      rw [this, if_neg h0, if_neg h1, if_neg h2, if_neg h3, if_neg h4, if_neg h5, if_neg h6] at hso
      cases hso
theorem write_any {w0 : World} {b : Nat} (hE : EnvI w0) (hS : Strs w0.heap.size w0.heap.size w0) (hB : w0.heap.size ≤ b) : ∀ {t : Tr}, Wid t → Fit t → mayB t = true → WritesT w0 b t := by
  intro t hW
  induction hW with
  | @mk k n c r d s w ks hl hk ih =>
    intro hF hM
    refine write_level hE hS hB _ (.mk hl hk) hF hM fun u hu => ih u hu ?_ ?_
    · cases hF with
      | mk _ h => exact h u hu
    · exact ((may_level _).1 hM).2.2 u hu
end Go.Proofs.YtahdlijkohmdfaaGreatDoor
