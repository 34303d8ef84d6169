/- The statements' own copy of tokens. -/
import Derived.Test.YtjfmmnebhmlkeaaDoorLxH
import Derived.Deep.RegionHeld3
import Derived.Deep.AppendLies
import Derived.StillTactics
import Derived.Laws.Pointers
namespace Go.Proofs.YtjfmmnebhmlkeaaDoor
open Go.RowKit

set_option maxHeartbeats 4000000 in
set_option maxRecDepth 100000 in
theorem lof_core (l : List Tok) (g ca : Nat) (w : World) (hl : l.length ≤ 1000) (ha : AtT w g l) (hg : g < w.heap.size) :
    Calls Tryd.prog 9 #[.slice (some ⟨g, 0, none⟩) l.length ca] w fun e w' => ∃ v, e = .returned v ∧ w'.ownsRow w.heap.size 42 6 v l.length (toksC l) ∧ Below w.heap.size w w' := by
  obtain ⟨i0, hi0, hz0, hz1, hz2⟩ := info_parts tok_info
  have HA := Lib.hid ha
  clear ha
  go_enter Tryd.func9, Tryd.ntmps9
  go_wp2_with fail
  go_loopw [3, 4] (fun v a wr => ∃ i : Nat, i ≤ l.length ∧ a = .int .i64 i ∧ wr.ownsRow w.heap.size 42 6 v i (toksC (l.take i)) ∧ Below w.heap.size w wr) (fun _ a _ => l.length - (intOf a).toNat)
  case atStart => exact ⟨0, Nat.zero_le _, rfl, World.ownsRow_nil _ _ _ _, Below.refl _ _⟩
  case round =>
    obtain ⟨i, hi, rfl, hown, hb⟩ := hrel
    by_cases hlt : i < l.length
    · obtain ⟨t, ht⟩ : ∃ t, l[i]? = some t := ⟨_, List.getElem?_eq_getElem hlt⟩
      obtain ⟨c0, c1, c2, c3, c4, c5⟩ := HA.out i t ht
      have a0 := (hb.cell (p := ⟨g, i * 6, none⟩) hg).trans c0
      have a1 := (hb.cell (p := ⟨g, i * 6 + 1, none⟩) hg).trans c1
      have a2 := (hb.cell (p := ⟨g, i * 6 + 2, none⟩) hg).trans c2
      have a3 := (hb.cell (p := ⟨g, i * 6 + 3, none⟩) hg).trans c3
      have a4 := (hb.cell (p := ⟨g, i * 6 + 4, none⟩) hg).trans c4
      have a5 := (hb.cell (p := ⟨g, i * 6 + 5, none⟩) hg).trans c5
      have hS : toksC (l.take (i + 1)) = toksC (l.take i) ++ tokL t := by
        rw [List.take_add_one, ht]; exact toksC_snoc _ _
      have HS := Lib.hid hS
      have ag : u3.ownBlock ≠ some g := fun e => by have := (hown.lt g e).1; omega
      have lg : g < wr.heap.size := Nat.lt_of_lt_of_le hg hb.size
      have hbs := hb.size
      have n0 : wr.heap.size ≠ g := by omega
      obtain ⟨kd, nu, co, ro, te, fr⟩ := t
      simp only at a0 a1 a2 a3 a4 a5
      clear c0 c1 c2 c3 c4 c5 ht hS
      go_wp2_with fail
      go_region_held3 (fun w' => w'.cell? ⟨g, i * 6, none⟩ = some (.int .i64 kd) ∧ w'.cell? ⟨g, i * 6 + 1, none⟩ = some (.int .i64 nu) ∧ w'.cell? ⟨g, i * 6 + 2, none⟩ = some (.int .i64 co) ∧
          w'.cell? ⟨g, i * 6 + 3, none⟩ = some (.int .i64 ro) ∧ w'.cell? ⟨g, i * 6 + 4, none⟩ = some (.string ⟨te.toArray⟩) ∧ w'.cell? ⟨g, i * 6 + 5, none⟩ = some (.int .i64 (fr : Int)))
        (first
        | (simp only [World.cell?_drew]; with_reducible exact ⟨a0, a1, a2, a3, a4, a5⟩)
        | go_keep
        | (go_split_ands
           refine ⟨?_, ?_, ?_, ?_, ?_, ?_⟩
           · (rw [hgrow.cell_far _ (by simp; omega) (Ne.symm ag)]; assumption)
           · (rw [hgrow.cell_far _ (by simp; omega) (Ne.symm ag)]; assumption)
           · (rw [hgrow.cell_far _ (by simp; omega) (Ne.symm ag)]; assumption)
           · (rw [hgrow.cell_far _ (by simp; omega) (Ne.symm ag)]; assumption)
           · (rw [hgrow.cell_far _ (by simp; omega) (Ne.symm ag)]; assumption)
           · (rw [hgrow.cell_far _ (by simp; omega) (Ne.symm ag)]; assumption)))
        ((refine step_append_lies _ (by rfl) _ _ _ (by rfl) w.heap.size 42 i0 _ 6 56 Tryd.underlying27 hi0 hz0 hz1 hz2 rfl (by omega) u3 i (toksC (l.take i)) (by rfl) ((hown.alloc _).drew)
            ⟨wr.heap.size, 0, none⟩ 1 1 (tokL ⟨kd, nu, co, ro, te, fr⟩) (by rfl) (by rfl) (World.news_of_block (cs := #[.int .i64 kd, .int .i64 nu, .int .i64 co, .int .i64 ro, .string ⟨te.toArray⟩, .int .i64 (fr : Int)]) (t := 42) (fr := (0, 0)) (heap_alloc_new wr _)) (by simp [tokL, Value.oneCell'])
            (by omega) (by unfold maxLen; omega) (by omega) (by simp; omega) (wr.heap.size + 1) (by simp) ?_; intro gg cap w1 hown1 hgrow hat hlt1))
      have hown2 := hown1
      rw [← HS.out] at hown2
      have hb1 : Below w.heap.size w w1 := ((hb.alloc hb.size _).drew).grown hgrow (by simp; omega) (fun k hk => (hown.lt k hk).1)
      clear hown1 hgrow hat hown
      go_wp2_with fail
      go_roundw
      case rel => exact ⟨i + 1, by omega, by go_num, hown2, hb1⟩
      case measure => simp [intOf]; omega
    · have hi2 : i = l.length := by omega
      subst hi2
      go_wp2_with fail
      go_ret
      exact ⟨_, rfl, by rw [List.take_length] at hown; exact hown, hb⟩
theorem lof_nil (A : Option Addr) (ca : Nat) (w : World) :
    Calls Tryd.prog 9 #[.slice A 0 ca] w fun e w' => e = .returned (.slice none 0 0) ∧ w = w' := by
  go_enter Tryd.func9, Tryd.ntmps9
  go_wp2_with fail
  go_loopw [3, 4] (fun v a wr => v = .slice none 0 0 ∧ a = .int .i64 0 ∧ wr = w) (fun _ _ _ => 0)
  case atStart => exact ⟨rfl, rfl, rfl⟩
  case round =>
    obtain ⟨rfl, rfl, rfl⟩ := hrel
    go_wp2_with fail
    go_ret
    exact ⟨rfl, rfl⟩
end Go.Proofs.YtjfmmnebhmlkeaaDoor
