/- The walk of the statement that holds tokens against the document's own, over what Scan answers. -/
import Derived.Test.YtjfmmnebhmlkeaaDoorLxI
import Derived.Test.YtjfmmnebhmlkeaaDoorEnvS
namespace Go.Proofs.YtjfmmnebhmlkeaaDoor
open Go.RowKit

/-- SCAN's CONTRACT: what the document's own Scan answers, in a row of its own. -/
def ScanC : Prop := ∀ (s : ByteArray), s.size ≤ 300 → ∀ w, EnvL w → Calls Tryd.prog 6 #[.string s] w fun e w' => ∃ v, e = .returned (.tuple #[v, .int .i64 (ansP s.data.toList), .int .i64 (ansE s.data.toList)]) ∧
  w'.ownsRow w.heap.size 37 6 v (ansL s.data.toList).length (toksC (ansL s.data.toList)) ∧ Below w.heap.size w w'
/-- THE LIVE QUESTION's CONTRACT. -/
def AliveC : Prop := ∀ w, EnvL w → Calls Tryd.prog 5 #[] w fun e w' => e = .returned (.bool true) ∧ Below w.heap.size w w'

/-- the shape of an owned row of tokens: its value, and where its tokens stand -/
theorem tok_shape {w : World} {base T : Nat} {v : Value} {l : List Tok} (h : w.ownsRow base T 6 v l.length (toksC l)) :
    ∃ A cap, v = .slice A l.length cap ∧ (l ≠ [] → ∃ g, A = some ⟨g, 0, none⟩ ∧ g < w.heap.size ∧ base ≤ g ∧ AtT w g l) ∧ l.length ≤ maxLen := by
  have h' := h
  obtain ⟨_, h⟩ := h
  rcases h with ⟨rfl, hl⟩ | ⟨g, cap, cur, rfl, _, _, hlc, hcm, _⟩
  · have e := List.eq_nil_of_length_eq_zero hl
    subst e
    exact ⟨none, 0, rfl, fun h => absurd rfl h, Nat.zero_le _⟩
  · refine ⟨some ⟨g, 0, none⟩, cap, rfl, fun _ => ⟨g, rfl, (h'.lt g rfl).2, (h'.lt g rfl).1, ?_⟩, by omega⟩
    intro i t hi
    have hlt : i < l.length := (List.getElem?_eq_some_iff.1 hi).1
    have c := fun k (hk : k < 6) => (h'.cellAt (i * 6 + k) (by omega)).trans (toks_at l i k t hi hk)
    exact ⟨c 0 (by omega), c 1 (by omega), c 2 (by omega), c 3 (by omega), c 4 (by omega), c 5 (by omega)⟩
set_option maxHeartbeats 400000 in
theorem lsame_nil (A B : Option Addr) (ca cb : Nat) (w : World) :
    Calls Tryd.prog 8 #[.slice A 0 ca, .slice B 0 cb] w fun e w' => e = .returned (.bool true) ∧ ∃ n, w' = w.drewN n := by
  go_enter Tryd.func8, Tryd.ntmps8
  go_wp2_with fail
  go_loopw [5] (fun v wr => v = .int .i64 0 ∧ wr = w) (fun _ _ => 0)
  case atStart => exact ⟨rfl, rfl⟩
  case round =>
    obtain ⟨rfl, rfl⟩ := hrel
    go_wp2_with fail
    go_ret
    exact ⟨rfl, 0, by simp [World.drewN_zero]⟩
theorem lsame_self {w : World} {base base' T T' : Nat} {va vb : Value} (l : List Tok) (ha : w.ownsRow base T 6 va l.length (toksC l)) (hb : w.ownsRow base' T' 6 vb l.length (toksC l)) :
    Calls Tryd.prog 8 #[va, vb] w fun e w' => e = .returned (.bool true) ∧ ∃ n, w' = w.drewN n := by
  obtain ⟨A, ca, rfl, hA, hm⟩ := tok_shape ha
  obtain ⟨B, cb, rfl, hB, _⟩ := tok_shape hb
  by_cases h : l = []
  · subst h
    exact lsame_nil A B ca cb w
  · obtain ⟨g, rfl, _, _, h1⟩ := hA h
    obtain ⟨k, rfl, _, _, h2⟩ := hB h
    refine (lsame_core l l g k ca cb w hm hm h1 h2).mono fun e w' ⟨⟨b, he, hb⟩, hw⟩ => ⟨?_, hw⟩
    rw [he, hb.2 rfl]
theorem lof_any {w : World} {base T : Nat} {v : Value} (l : List Tok) (hl : l.length ≤ 1000) (h : w.ownsRow base T 6 v l.length (toksC l)) :
    Calls Tryd.prog 9 #[v] w fun e w' => ∃ v', e = .returned v' ∧ w'.ownsRow w.heap.size 42 6 v' l.length (toksC l) ∧ Below w.heap.size w w' := by
  obtain ⟨A, ca, rfl, hA, _⟩ := tok_shape h
  by_cases h0 : l = []
  · subst h0
    exact (lof_nil A ca w).mono fun e w' ⟨he, hw⟩ => ⟨_, he, World.ownsRow_nil _ _ _ _, hw ▸ Below.refl _ _⟩
  · obtain ⟨g, rfl, hg, _, h1⟩ := hA h0
    exact lof_core l g ca w hl h1 hg
end Go.Proofs.YtjfmmnebhmlkeaaDoor
