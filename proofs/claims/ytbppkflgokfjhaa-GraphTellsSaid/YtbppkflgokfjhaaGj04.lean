/- Texts joined: GpK. -/
import Derived.Test.YtbppkflgokfjhaaGj03
set_option linter.all false
namespace Go.Proofs.Ytbppkflgokfjhaa
open Go.RowKit Go.Maps
theorem own_ofG {v : Value} {g k : Nat} (hv : v.ownBlock = some g) (h : v.ownBlock = some k) : k = g := Option.some.inj (h.symm.trans hv)
set_option maxHeartbeats 8000000 in
set_option maxRecDepth 10000 in
theorem pclone_full (l : List Int) (A : Option Addr) (ca : Nat) (w : World) (P : Nat → Prop) (hA : RowI w P A l) (hl : l.length ≤ 100000) :
    Calls Try.prog 40 #[.slice A l.length ca] w fun e w' => ∃ O co, e = .returned (.slice O l.length co) ∧ (l = [] ∨ ∃ g, O = some ⟨g, 0, none⟩ ∧ w.heap.size ≤ g ∧ g < w'.heap.size ∧ OwnR 3 1 inW w.heap.size w' (.slice (some ⟨g, 0, none⟩) l.length co) l) ∧ Below w.heap.size w w' ∧ (O = none ∨ ∃ g, O = some ⟨g, 0, none⟩) := by
  obtain ⟨i0, hi0, hz0, hz1, hz2⟩ := info_parts gint_info
  by_cases hn : l = []
  · subst hn
    cases A with
    | none =>
      have hq : ∀ (w : World) (n c : Nat), (binOp .eql 23 (.slice none n c) (.slice none 0 0)).run Try.prog w = .ok (.bool true) w := fun w n c => Lib.run_eql_slice_nil w _ _ none n c 0 0 Try.underlying23
      go_enter Try.func40, Try.ntmps40
      go_wp2_with fail
      go_ret
      refine ⟨none, 0, rfl, ?_, Below.refl _ _, .inl rfl⟩
      simp
    | some a =>
      have hq : ∀ (w : World) (n c : Nat), (binOp .eql 23 (.slice (some a) n c) (.slice none 0 0)).run Try.prog w = .ok (.bool false) w := fun w n c => Lib.run_eql_slice_nil w _ _ (some a) n c 0 0 Try.underlying23
      go_enter Try.func40, Try.ntmps40
      go_wp2_with (at_builtin; refine of_stop ?_)
      refine stop_of ?_
      refine wpList_append_nothing rfl _ _ 23 rfl 3 i0 Try.underlying23 hi0 w.heap.size (some a) ca rfl rfl ?_
      go_wp2_with fail
      go_ret
      refine ⟨_, _, rfl, ?_, (Below.refl _ _).alloc (Nat.le_refl _) _, .inr ⟨_, rfl⟩⟩
      simp
  · rcases hA with h | ⟨g, o, rfl, _, hg, hc⟩
    · exact absurd h hn
    · have hpos : 0 < l.length := List.length_pos_iff.2 hn
      have HC := Lib.hid hc
      have hba : Below w.heap.size w (w.alloc (.cells #[] 3)) := (Below.refl _ _).alloc (Nat.le_refl _) _
      have HBa := Lib.hid hba
      have hq : ∀ (w : World) (n c : Nat), (binOp .eql 23 (.slice (some ⟨g, o, none⟩) n c) (.slice none 0 0)).run Try.prog w = .ok (.bool false) w := fun w n c => Lib.run_eql_slice_nil w _ _ (some ⟨g, o, none⟩) n c 0 0 Try.underlying23
      clear hc hba
      go_enter Try.func40, Try.ntmps40
      go_wp2_with (at_builtin; refine of_stop ?_)
      refine stop_of ?_
      refine wpList_append_rows (f := inW) (n := 1) (E := 3) (nb := 8) (X := ([] : List Int)) (base := w.heap.size) rfl _ _ rfl rfl (own_lit0 w w.heap.size (Nat.le_refl _)) (L2 := l) rfl (fun i x hi j u hj => ?_) hpos (N := l.length) (by simp) (Z := l) rfl Try.underlying23 hi0 hz0 hz1 hz2 rfl (by decide) (by decide) (fun _ => rfl) inW_one (by omega) (by simp) ?_
      · have := keep_cell HBa.out (HC.out i x hi)
        cases j with
        | zero => rw [← Option.some.inj hj, Nat.mul_one]; exact this
        | succ j => simp [inW] at hj
      · intro g2 k2 w2 ho2 hg2 hat2 hl2
        have hb2 : Below w.heap.size w w2 := HBa.out.grown hg2 (by simp) (fun k hk => by have := own_ofG (g := w.heap.size) rfl hk; omega)
        have hle : w.heap.size ≤ g2 := by rcases hat2 with e | e; exact Nat.le_of_eq (own_ofG (g := w.heap.size) rfl e).symm; simp at e; omega
        have HF := Lib.hid (⟨hle, hl2, ho2, hb2⟩ : w.heap.size ≤ g2 ∧ g2 < w2.heap.size ∧ _ ∧ Below w.heap.size w w2)
        clear ho2 hg2 hat2 hl2 hb2 hle
        go_wp2_with fail
        go_ret
        exact ⟨_, _, rfl, .inr ⟨g2, rfl, HF.out.1, HF.out.2.1, HF.out.2.2.1⟩, HF.out.2.2.2, .inr ⟨_, rfl⟩⟩
theorem pclone_any (l : List Int) (A : Option Addr) (ca : Nat) (w : World) (P : Nat → Prop) (hA : RowI w P A l) (hl : l.length ≤ 100000) :
    Calls Try.prog 40 #[.slice A l.length ca] w fun e w' => ∃ O co, e = .returned (.slice O l.length co) ∧ (l = [] ∨ ∃ g, O = some ⟨g, 0, none⟩ ∧ w.heap.size ≤ g ∧ g < w'.heap.size ∧ OwnR 3 1 inW w.heap.size w' (.slice (some ⟨g, 0, none⟩) l.length co) l) ∧ Below w.heap.size w w' :=
  (pclone_full l A ca w P hA hl).mono fun e w' ⟨O, co, he, h, hb, _⟩ => ⟨O, co, he, h, hb⟩
end Go.Proofs.Ytbppkflgokfjhaa
