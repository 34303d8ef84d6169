/- Texts joined: ShH. -/
import Derived.Test.YteflmfifhmlpiaaDoorMa13
import Derived.Test.YteflmfifhmlpiaaDoorMa10
import Derived.Deep.AppendLies
import Derived.Deep.RegionHeld3
set_option linter.all false
set_option linter.unusedVariables false
set_option linter.unusedSimpArgs false
namespace Go.Proofs.YteflmfifhmlpiaaDoor
open Go.RowKit

theorem c8_set7 {w : World} {B : Nat} {v0 v1 v2 v3 v4 v5 v6 v7 : Value} (h : C8 w B v0 v1 v2 v3 v4 v5 v6 v7) (u : Value) : C8 (w.setCell ⟨B, 7, none⟩ u) B v0 v1 v2 v3 v4 v5 v6 u := by
  obtain ⟨h0, h1, h2, h3, h4, h5, h6, h7⟩ := h
  refine ⟨?_, ?_, ?_, ?_, ?_, ?_, ?_, ?_⟩ <;> simp [go_sem, h0, h1, h2, h3, h4, h5, h6, h7]
theorem c8_world {w w' : World} {B : Nat} {v0 v1 v2 v3 v4 v5 v6 v7 : Value} (h : C8 w B v0 v1 v2 v3 v4 v5 v6 v7) (hb : w'.heap[B]? = w.heap[B]?) : C8 w' B v0 v1 v2 v3 v4 v5 v6 v7 := by
  obtain ⟨h0, h1, h2, h3, h4, h5, h6, h7⟩ := h
  exact c8_lift (fun j v hv => by rw [World.cell?_of_block (w := w) (a := ⟨B, j, none⟩) hb]; exact hv) h0 h1 h2 h3 h4 h5 h6 h7
theorem But.grown {R : Nat} {a w w' : World} {row : Option Nat} (h : But R a w) (hg : w.grownBy w' row) (hr : ∀ k, row = some k → a.heap.size ≤ k) : But R a w' :=
  ⟨hg.os.trans h.os, hg.tape.trans h.tape, hg.output.trans h.output, Nat.le_trans h.size hg.size, fun k hk hn => (hg.block k (Nat.lt_of_lt_of_le hk h.size) (fun e => by have := hr k e.symm; omega)).trans (h.block k hk hn)⟩
set_option maxHeartbeats 8000000 in
set_option maxRecDepth 100000 in
theorem rmoved_no (x y : Int) (t : Tr) (hlen : t.kids.length ≤ 1000000) (ih : ∀ u ∈ t.kids, PMvC 27 x y u) (e1 : (t.kind == 1) = false) (e6 : (t.kind == 6) = false) : PMvC 27 x y t := by
  intro w P A ca hk
  have HK := Lib.hid hk
  have HI := Lib.hid ih
  obtain ⟨i0, hi0, hz0, hz1, hz2⟩ := info_parts tree_info
  have HI0 := Lib.hid hi0
  have HZ0 := Lib.hid hz0
  have HZ1 := Lib.hid hz1
  have HZ2 := Lib.hid hz2
  clear hi0 hz0 hz1 hz2 hk ih
  have hmv : mvT x y t = .mk t.kind t.num t.c1 t.r1 t.c2 t.r2 t.word (mvL x y t.kids) := by rw [← mv8_is]; exact if_neg (by unfold rdr; rw [e1, e6]; decide)
  have HTV := Lib.hid hmv
  clear hmv
  go_enter Tryd.func27, Tryd.ntmps27
  go_wp2_with fail
  obtain ⟨wk, hwk⟩ : ∃ wk, ((((w.alloc (.cells #[.int .i64 t.kind, .int .i64 t.num, .int .i64 t.c1, .int .i64 t.r1, .int .i64 t.c2, .int .i64 t.r2, .string ⟨t.word.toArray⟩, .slice A t.kids.length ca] 29)).alloc (.cells #[.int .i64 x, .int .i64 y] 24)).alloc (.cells #[.int .i64 0, .int .i64 0, .int .i64 0, .int .i64 0, .int .i64 0, .int .i64 0, .string ⟨#[]⟩, .slice none 0 0] 29)).alloc (.cells #[.int .i64 t.kind, .int .i64 t.num, .int .i64 t.c1, .int .i64 t.r1, .int .i64 t.c2, .int .i64 t.r2, .string ⟨t.word.toArray⟩, .slice none 0 0] 29)) = wk := ⟨_, rfl⟩
  have hT : wk.cell? ⟨w.heap.size, 7, none⟩ = some (.slice A t.kids.length ca) := by rw [← hwk]; simp [go_sem]
  have hP : wk.cell? ⟨w.heap.size + 1, 0, none⟩ = some (.int .i64 x) ∧ wk.cell? ⟨w.heap.size + 1, 1, none⟩ = some (.int .i64 y) := by rw [← hwk]; constructor <;> simp [go_sem]
  have hR : C8 wk (w.heap.size + 1 + 1) (.int .i64 0) (.int .i64 0) (.int .i64 0) (.int .i64 0) (.int .i64 0) (.int .i64 0) (.string ⟨#[]⟩) (.slice none 0 0) := by rw [← hwk]; refine ⟨?_, ?_, ?_, ?_, ?_, ?_, ?_, ?_⟩ <;> simp [go_sem]
  have hF : F8 wk (w.heap.size + 1 + 1) := by rw [← hwk]; refine ⟨?_, ?_, ?_, ?_, ?_, ?_, ?_, ?_⟩ <;> simp [go_sem]
  have hO : C8 wk (w.heap.size + 1 + 1 + 1) (.int .i64 t.kind) (.int .i64 t.num) (.int .i64 t.c1) (.int .i64 t.r1) (.int .i64 t.c2) (.int .i64 t.r2) (.string ⟨t.word.toArray⟩) (.slice none 0 0) := by rw [← hwk]; refine ⟨?_, ?_, ?_, ?_, ?_, ?_, ?_, ?_⟩ <;> simp [go_sem]
  have hO7 : wk.frozen? ⟨w.heap.size + 1 + 1 + 1, 7, none⟩ = false := by rw [← hwk]; simp [go_sem]
  have hB : Below w.heap.size w wk := by
    rw [← hwk]
    exact ((((Below.refl _ _).alloc (Nat.le_refl _) _).alloc (by simp) _).alloc (by simp; omega) _).alloc (by simp; omega) _
  have zk : w.heap.size + 1 + 1 + 1 < wk.heap.size := by rw [← hwk]; simp
  rw [hwk]
  clear hwk
  have HT := Lib.hid hT
  have HP := Lib.hid hP
  have HR := Lib.hid hR
  have HF := Lib.hid hF
  have HO := Lib.hid (And.intro hO hO7)
  have HB := Lib.hid hB
  clear hT hP hR hF hO hO7 hB
  go_loopw [10] (fun n wr => ∃ (i : Nat) (xs : List (V8 × Tr)) (v : Value), i ≤ t.kids.length ∧ xs.length = i ∧ n = .int .i64 (i : Int) ∧ Hid (xs.map Prod.snd = mvL x y (t.kids.take i)) ∧ Hid (Row wk.heap.size wr v xs) ∧ Hid (C8 wr (w.heap.size + 1 + 1 + 1) (.int .i64 (t.kind)) (.int .i64 (t.num)) (.int .i64 (t.c1)) (.int .i64 (t.r1)) (.int .i64 (t.c2)) (.int .i64 (t.r2)) (.string ⟨t.word.toArray⟩) v ∧ wr.frozen? ⟨w.heap.size + 1 + 1 + 1, 7, none⟩ = false) ∧ But (w.heap.size + 1 + 1 + 1) wk wr) (fun n _ => t.kids.length - (intOf n).toNat)
  case atStart => exact ⟨0, [], .slice none 0 0, Nat.zero_le _, rfl, rfl, Lib.hid (by rw [List.take_zero, mvL]; rfl), Lib.hid ⟨World.ownsRow_nil _ _ _ _, fun i x t h => by simp at h⟩, HO, But.refl _ _⟩
  case round =>
    obtain ⟨i, xs, rv, hi, hxl, rfl, HX, HW, HOut, hbk⟩ := hrel
    have hsz := hbk.size
    have zO : w.heap.size + 1 + 1 + 1 < wr.heap.size := by omega
    have zH : w.heap.size < wr.heap.size := by omega
    have zB : w.heap.size + 1 < wr.heap.size := by omega
    have hbel : Below w.heap.size w wr := HB.out.trans (hbk.below (by omega) (by omega))
    have t7 : wr.cell? ⟨w.heap.size, 7, none⟩ = some (.slice A t.kids.length ca) := hbk.cell (p := ⟨w.heap.size, 7, none⟩) (by show w.heap.size ≠ _; omega) HT.out
    by_cases hlt : i < t.kids.length
    · have hu : t.kids[i]? = some (t.kids[i]'hlt) := List.getElem?_eq_getElem hlt
      obtain ⟨g, o, rfl⟩ := HK.out.addr hu
      obtain ⟨hg, A', cap', h8, hkv⟩ := HK.out.kidAt hbel hu
      obtain ⟨_, _, h8w, _⟩ := HK.out.kidAt HB.out hu |>.2
      have HM := Lib.hid (mvL_take (x := x) (y := y) hu)
      have HC := Lib.hid (HI.out _ (List.getElem_mem hlt) wr.drew _ A' cap' (hkv.kept (Kept.of_below (Below.refl _ wr).drew)))
      generalize t.kids[i]'hlt = u at *
      have p0 : wr.cell? ⟨w.heap.size + 1, 0, none⟩ = some (.int .i64 x) := hbk.cell (p := ⟨w.heap.size + 1, 0, none⟩) (by show w.heap.size + 1 ≠ _; omega) HP.out.1
      have p1 : wr.cell? ⟨w.heap.size + 1, 1, none⟩ = some (.int .i64 y) := hbk.cell (p := ⟨w.heap.size + 1, 1, none⟩) (by show w.heap.size + 1 ≠ _; omega) HP.out.2
      obtain ⟨q0, q1, q2, q3, q4, q5, q6, q7⟩ := h8
      have HS : Hid (∀ w', But (w.heap.size + 1 + 1 + 1) wk w' → w'.cell? ⟨g, o + i * 8, none⟩ = some (.int .i64 u.kind) ∧ w'.cell? ⟨g, o + i * 8 + 1, none⟩ = some (.int .i64 u.num) ∧ w'.cell? ⟨g, o + i * 8 + 2, none⟩ = some (.int .i64 u.c1) ∧ w'.cell? ⟨g, o + i * 8 + 3, none⟩ = some (.int .i64 u.r1) ∧ w'.cell? ⟨g, o + i * 8 + 4, none⟩ = some (.int .i64 u.c2) ∧ w'.cell? ⟨g, o + i * 8 + 5, none⟩ = some (.int .i64 u.r2) ∧ w'.cell? ⟨g, o + i * 8 + 6, none⟩ = some (.string ⟨u.word.toArray⟩) ∧ w'.cell? ⟨g, o + i * 8 + 7, none⟩ = some ((.slice A' u.kids.length cap')) ∧ w'.cell? ⟨w.heap.size, 7, none⟩ = some (.slice (some ⟨g, o, none⟩) t.kids.length ca) ∧ w'.cell? ⟨w.heap.size + 1, 0, none⟩ = some (.int .i64 x) ∧ w'.cell? ⟨w.heap.size + 1, 1, none⟩ = some (.int .i64 y)) := Lib.hid fun w' hw => by
        have hc : ∀ {b j : Nat} {v : Value}, wr.cell? ⟨b, j, none⟩ = some v → b < wk.heap.size → b ≠ w.heap.size + 1 + 1 + 1 → w'.cell? ⟨b, j, none⟩ = some v := fun {b j v} hv hl hn =>
          (World.cell?_of_block (w := wk) (a := ⟨b, j, none⟩) (hw.block b hl hn)).trans ((World.cell?_of_block (w := wk) (a := ⟨b, j, none⟩) (hbk.block b hl hn)).symm.trans hv)
        have ng : g ≠ w.heap.size + 1 + 1 + 1 := by omega
        have nH : w.heap.size ≠ w.heap.size + 1 + 1 + 1 := by omega
        have nB : w.heap.size + 1 ≠ w.heap.size + 1 + 1 + 1 := by omega
        have lg : g < wk.heap.size := by omega
        have lH : w.heap.size < wk.heap.size := by omega
        have lB : w.heap.size + 1 < wk.heap.size := by omega
        exact ⟨hc q0 lg ng, hc q1 lg ng, hc q2 lg ng, hc q3 lg ng, hc q4 lg ng, hc q5 lg ng, hc q6 lg ng, hc q7 lg ng, hc t7 lH nH, hc p0 lB nB, hc p1 lB nB⟩
      have hgw : g < wr.heap.size := by omega
      have o7 := HOut.out.1.2.2.2.2.2.2.2
      clear hkv hu h8w
      go_wp2_with fail
      refine wp_region_held_drew (S := fun w' => w'.cell? ⟨g, o + i * 8, none⟩ = some (.int .i64 u.kind) ∧ w'.cell? ⟨g, o + i * 8 + 1, none⟩ = some (.int .i64 u.num) ∧ w'.cell? ⟨g, o + i * 8 + 2, none⟩ = some (.int .i64 u.c1) ∧ w'.cell? ⟨g, o + i * 8 + 3, none⟩ = some (.int .i64 u.r1) ∧ w'.cell? ⟨g, o + i * 8 + 4, none⟩ = some (.int .i64 u.c2) ∧ w'.cell? ⟨g, o + i * 8 + 5, none⟩ = some (.int .i64 u.r2) ∧ w'.cell? ⟨g, o + i * 8 + 6, none⟩ = some (.string ⟨u.word.toArray⟩) ∧ w'.cell? ⟨g, o + i * 8 + 7, none⟩ = some ((.slice A' u.kids.length cap')) ∧ w'.cell? ⟨w.heap.size, 7, none⟩ = some (.slice (some ⟨g, o, none⟩) t.kids.length ca) ∧ w'.cell? ⟨w.heap.size + 1, 0, none⟩ = some (.int .i64 x) ∧ w'.cell? ⟨w.heap.size + 1, 1, none⟩ = some (.int .i64 y)) (by kernel_rfl) ?_ (fun hHeld => ?_)
      · try dsimp only
        (with_reducible exact HS.out _ (by repeat' (first | with_reducible exact hbk | with_reducible exact h4 | with_reducible exact h5 | with_reducible refine zBa ?_ _ | with_reducible refine zBr ?_ _ _ | with_reducible refine zBd ?_)))
      refine wpAnyH_take (i := 0) (oi := ⟨some 62, .fieldAddr 29 (.tmp 5) 4, 0, "ref.go:57", #[], none⟩) (v := ?_) rfl (by kernel_rfl) (by kernel_rfl) (by kernel_rfl) (fun _ _ _ h => h) (Or.inl ⟨by rfl, ?_⟩) (by assumption) ?_
      rotate_left
      · (intro w hSw; (try dsimp only at hSw); go_simp)
        try with_reducible rfl
      try simp only [Act.put, List.setIfInBounds_toArray, List.set_cons_zero, List.set_cons_succ]
      refine wpAnyH_take (i := 2) (oi := ⟨some 64, .fieldAddr 29 (.tmp 2) 4, 0, "ref.go:57", #[], none⟩) (v := ?_) rfl (by kernel_rfl) (by kernel_rfl) (by kernel_rfl) (fun _ _ _ h => h) (Or.inl ⟨by rfl, ?_⟩) (by assumption) ?_
      rotate_left
      · (intro w hSw; (try dsimp only at hSw); go_simp)
        try with_reducible rfl
      try simp only [Act.put, List.setIfInBounds_toArray, List.set_cons_zero, List.set_cons_succ]
      refine wpAnyH_take (i := 3) (oi := ⟨some 65, .load 27 (.tmp 64), 27, "ref.go:57", #[⟨2, .data⟩], none⟩) (v := ?_) rfl (by kernel_rfl) (by kernel_rfl) (by kernel_rfl) (fun _ _ _ h => h) (Or.inl ⟨by rfl, ?_⟩) (by assumption) ?_
      rotate_left
      · (intro w hSw; (try dsimp only at hSw); go_simp)
        try with_reducible rfl
      try simp only [Act.put, List.setIfInBounds_toArray, List.set_cons_zero, List.set_cons_succ]
      refine wpAnyH_take (i := 4) (oi := ⟨some 66, .move (.tmp 10), 3, "ref.go:57", #[], none⟩) (v := ?_) rfl (by kernel_rfl) (by kernel_rfl) (by kernel_rfl) (fun _ _ _ h => h) (Or.inl ⟨by rfl, ?_⟩) (by assumption) ?_
      rotate_left
      · (intro w hSw; (try dsimp only at hSw); go_simp)
        try with_reducible rfl
      try simp only [Act.put, List.setIfInBounds_toArray, List.set_cons_zero, List.set_cons_succ]
      refine wpAnyH_take (i := 5) (oi := ⟨some 67, .indexAddr 27 (.tmp 65) (.tmp 66), 0, "ref.go:57", #[⟨3, .data⟩, ⟨4, .data⟩], none⟩) (v := ?_) rfl (by kernel_rfl) (by kernel_rfl) (by kernel_rfl) (fun _ _ _ h => h) (Or.inl ⟨by rfl, ?_⟩) (by assumption) ?_
      rotate_left
      · (intro w hSw; (try dsimp only at hSw); go_simp)
        try with_reducible rfl
      try simp only [Act.put, List.setIfInBounds_toArray, List.set_cons_zero, List.set_cons_succ]
      refine wpAnyH_take (i := 6) (oi := ⟨some 68, .load 29 (.tmp 67), 29, "ref.go:57", #[⟨5, .data⟩], none⟩) (v := ?_) rfl (by kernel_rfl) (by kernel_rfl) (by kernel_rfl) (fun _ _ _ h => h) (Or.inl ⟨by rfl, ?_⟩) (by assumption) ?_
      rotate_left
      · (intro w hSw; (try dsimp only at hSw); go_simp)
        try with_reducible rfl
      try simp only [Act.put, List.setIfInBounds_toArray, List.set_cons_zero, List.set_cons_succ]
      refine wpAnyH_take (i := 7) (oi := ⟨some 69, .load 24 (.tmp 3), 24, "ref.go:57", #[], none⟩) (v := ?_) rfl (by kernel_rfl) (by kernel_rfl) (by kernel_rfl) (fun _ _ _ h => h) (Or.inl ⟨by rfl, ?_⟩) (by assumption) ?_
      rotate_left
      · (intro w hSw; (try dsimp only at hSw); go_simp)
        try with_reducible rfl
      try simp only [Act.put, List.setIfInBounds_toArray, List.set_cons_zero, List.set_cons_succ]
      refine wpAnyH_ready (rs := [1, 8]) (by kernel_rfl) (by simp) ?_
      refine AllReadyH.cons (o := ⟨some 63, .load 27 (.tmp 62), 27, "ref.go:57", #[⟨0, .data⟩], none⟩) rfl (fun K hK => ?_) ?_
      go_simp
      refine hK.out _ _ ?_ (fun hHeld => ?_)
      · try dsimp only
        (with_reducible exact HS.out _ (by repeat' (first | with_reducible exact hbk | with_reducible exact h4 | with_reducible exact h5 | with_reducible refine zBa ?_ _ | with_reducible refine zBr ?_ _ _ | with_reducible refine zBd ?_)))
      clear hK K
      try simp only [Act.put, List.setIfInBounds_toArray, List.set_cons_zero, List.set_cons_succ]
      refine wpAnyH_ready (rs := [8]) (by kernel_rfl) (by simp) ?_
      refine AllReadyH.cons (o := ⟨some 70, .call { callee := .value (.func 27), args := #[.tmp 68, .tmp 69], argTypes := #[29, 24] }, 29, "ref.go:57", #[⟨6, .data⟩, ⟨7, .data⟩], none⟩) rfl (fun K hK => ?_) AllReadyH.nil
      go_simp
      (go_at_call 27; refine Calls.mono HC.out ?_; rintro e w4 ⟨⟨d0, d1, d2, d3, d4, d5, dw, dA, dl, dc⟩, rfl, v4, b4⟩
       have b4' : Below wr.heap.size wr w4 := (Below.refl _ wr).drew.trans b4
       have h4 : But (w.heap.size + 1 + 1 + 1) wk w4 := hbk.trans (But.of_below b4')
       have hs4 : wr.heap.size ≤ w4.heap.size := b4'.size
       have HW4 := Lib.hid (HW.out.but (But.of_below (R := w.heap.size + 1 + 1 + 1) b4') (by omega))
       have hlt5 : ∀ k, rv.ownBlock = some k → k < wr.heap.size := fun k hk => (HW.out.own.lt k hk).2
       have HVV : Hid (TV w4 (fun b => wk.heap.size ≤ b ∧ some b ≠ rv.ownBlock) ⟨d0, d1, d2, d3, d4, d5, dw, dA, dl, dc⟩ (some (mvT x y u))) := Lib.hid (v4.imp fun b hb => ⟨by have hb2 : wr.heap.size ≤ b := hb; omega, fun e => by have := hlt5 b e.symm; have hb2 : wr.heap.size ≤ b := hb; omega⟩)
       have HO4 : Hid (C8 w4 (w.heap.size + 1 + 1 + 1) (.int .i64 (t.kind)) (.int .i64 (t.num)) (.int .i64 (t.c1)) (.int .i64 (t.r1)) (.int .i64 (t.c2)) (.int .i64 (t.r2)) (.string ⟨t.word.toArray⟩) rv ∧ w4.frozen? ⟨w.heap.size + 1 + 1 + 1, 7, none⟩ = false) := Lib.hid ⟨c8_world HOut.out.1 (b4'.block _ zO), keep_frozen b4' zO HOut.out.2⟩
       have e7 := HO4.out.1.2.2.2.2.2.2.2
       have HWA : ∀ ob, Hid (Row wk.heap.size (w4.alloc ob) rv xs) := fun ob => Lib.hid (HW4.out.but (But.of_below (R := w.heap.size + 1 + 1 + 1) ((Below.refl _ _).alloc (Nat.le_refl _) ob)) (by omega))
       have zO4 : w.heap.size + 1 + 1 + 1 < w4.heap.size := by omega
       have zk4 : wk.heap.size ≤ w4.heap.size := by omega
       clear v4 b4 b4' hlt5
       dsimp only [V8.val])
      go_wp2_with fail
      refine hK.out _ _ ?_ (fun hHeld => ?_)
      · try dsimp only
        (with_reducible exact HS.out _ (by repeat' (first | with_reducible exact hbk | with_reducible exact h4 | with_reducible exact h5 | with_reducible refine zBa ?_ _ | with_reducible refine zBr ?_ _ _ | with_reducible refine zBd ?_)))
      clear hK K
      try simp only [Act.put, List.setIfInBounds_toArray, List.set_cons_zero, List.set_cons_succ]
      refine wpAnyH_ready (rs := [9]) (by kernel_rfl) (by simp) ?_
      refine AllReadyH.cons (o := ⟨some 71, .buildSlice 27 1 #[(0, .tmp 70)], 27, "ref.go:57", #[⟨8, .data⟩], none⟩) rfl (fun K hK => ?_) AllReadyH.nil
      go_simp
      refine hK.out _ _ ?_ (fun hHeld => ?_)
      · try dsimp only
        (with_reducible exact HS.out _ (by repeat' (first | with_reducible exact hbk | with_reducible exact h4 | with_reducible exact h5 | with_reducible refine zBa ?_ _ | with_reducible refine zBr ?_ _ _ | with_reducible refine zBd ?_)))
      clear hK K
      try simp only [Act.put, List.setIfInBounds_toArray, List.set_cons_zero, List.set_cons_succ]
      refine wpAnyH_ready (rs := [10]) (by kernel_rfl) (by simp) ?_
      refine AllReadyH.cons (o := ⟨some 72, .call { callee := .builtin .append, args := #[.tmp 63, .tmp 71], argTypes := #[27, 27] }, 27, "ref.go:57", #[⟨1, .data⟩, ⟨9, .data⟩, ⟨8, .chain⟩], none⟩) rfl (fun K hK => ?_) AllReadyH.nil
      (refine step_append_lies _ (by rfl) _ _ _ (by rfl) wk.heap.size 29 i0 _ 8 88 Tryd.underlying27 HI0.out HZ0.out HZ1.out HZ2.out rfl (by omega) rv xs.length (rowC xs) (by rfl) (HWA _).out.own
          ⟨w4.heap.size, 0, none⟩ 1 1 (cells8 ⟨d0, d1, d2, d3, d4, d5, dw, dA, dl, dc⟩) (by rfl) (by rfl) (World.news_of_block (cs := #[.int .i64 d0, .int .i64 d1, .int .i64 d2, .int .i64 d3, .int .i64 d4, .int .i64 d5, .string dw, .slice dA dl dc]) (t := 29) (fr := (0, 0)) (heap_alloc_new w4 _)) (by simp [cells8, Value.oneCell'])
          (by omega) (by unfold maxLen; omega) (by omega) (by simp <;> omega) (w4.heap.size + 1) (by simp) ?_; intro gg cap w5 hown5 hg5 hat5 hlt5
       have HW5 := Lib.hid ((HWA _).out.push (HVV.out.kept (Kept.of_below ((Below.refl _ _).alloc (Nat.le_refl _) _))) hown5 hg5 (by rcases hat5 with h | h; exact .inl h.symm; exact .inr (by rw [h]; simp [Value.ownBlock])))
       have hr5 : ∀ k, rv.ownBlock = some k → wk.heap.size ≤ k := fun k hk => (HW4.out.own.lt k hk).1
       have h5 : But (w.heap.size + 1 + 1 + 1) wk w5 := (zBa h4 _).grown hg5 hr5
       have HO5 : Hid (C8 w5 (w.heap.size + 1 + 1 + 1) (.int .i64 (t.kind)) (.int .i64 (t.num)) (.int .i64 (t.c1)) (.int .i64 (t.r1)) (.int .i64 (t.c2)) (.int .i64 (t.r2)) (.string ⟨t.word.toArray⟩) rv ∧ w5.frozen? ⟨w.heap.size + 1 + 1 + 1, 7, none⟩ = false) := Lib.hid (by
         have hb : w5.heap[w.heap.size + 1 + 1 + 1]? = w4.heap[w.heap.size + 1 + 1 + 1]? := by rw [hg5.block (w.heap.size + 1 + 1 + 1) (by simp; omega) (fun e => by have := hr5 _ e.symm; omega), Below.heap_alloc w4 _ _ zO4]
         exact ⟨c8_world HO4.out.1 hb, by rw [World.frozen?_of_block (w := w4) (a := ⟨w.heap.size + 1 + 1 + 1, 7, none⟩) hb]; exact HO4.out.2⟩)
       have o57 := HO5.out.1.2.2.2.2.2.2.2
       have f57 := HO5.out.2
       clear hown5 hat5)
      refine hK.out _ _ ?_ (fun hHeld => ?_)
      · try dsimp only
        (with_reducible exact HS.out _ (by repeat' (first | with_reducible exact hbk | with_reducible exact h4 | with_reducible exact h5 | with_reducible refine zBa ?_ _ | with_reducible refine zBr ?_ _ _ | with_reducible refine zBd ?_)))
      clear hK K
      try simp only [Act.put, List.setIfInBounds_toArray, List.set_cons_zero, List.set_cons_succ]
      refine wpAnyH_take (i := 11) (oi := ⟨some 73, .fieldAddr 29 (.tmp 5) 4, 0, "ref.go:57", #[⟨0, .phase⟩, ⟨1, .phase⟩, ⟨2, .phase⟩, ⟨3, .phase⟩, ⟨4, .phase⟩, ⟨5, .phase⟩, ⟨6, .phase⟩, ⟨7, .phase⟩, ⟨8, .phase⟩, ⟨9, .phase⟩, ⟨10, .phase⟩], none⟩) (v := ?_) rfl (by kernel_rfl) (by kernel_rfl) (by kernel_rfl) (fun _ _ _ h => h) (Or.inl ⟨by rfl, ?_⟩) (by assumption) ?_
      rotate_left
      · (intro w hSw; (try dsimp only at hSw); go_simp)
        try with_reducible rfl
      try simp only [Act.put, List.setIfInBounds_toArray, List.set_cons_zero, List.set_cons_succ]
      refine wpAnyH_ready (rs := [12]) (by kernel_rfl) (by simp) ?_
      refine AllReadyH.cons (o := ⟨none, .store 27 (.tmp 73) (.tmp 72), 0, "ref.go:57", #[⟨11, .data⟩, ⟨10, .data⟩, ⟨10, .chain⟩, ⟨0, .phase⟩, ⟨1, .phase⟩, ⟨2, .phase⟩, ⟨3, .phase⟩, ⟨4, .phase⟩, ⟨5, .phase⟩, ⟨6, .phase⟩, ⟨7, .phase⟩, ⟨8, .phase⟩, ⟨9, .phase⟩, ⟨10, .phase⟩], none⟩) rfl (fun K hK => ?_) AllReadyH.nil
      go_simp
      refine hK.out _ _ ?_ (fun hHeld => ?_)
      · try dsimp only
        (with_reducible exact HS.out _ (by repeat' (first | with_reducible exact hbk | with_reducible exact h4 | with_reducible exact h5 | with_reducible refine zBa ?_ _ | with_reducible refine zBr ?_ _ _ | with_reducible refine zBd ?_)))
      clear hK K
      try simp only [Act.put, List.setIfInBounds_toArray, List.set_cons_zero, List.set_cons_succ]
      refine wpAnyH_done (by kernel_rfl) ?_ _
      rotate_left
      refine AllReadyH.cons (o := ⟨some 70, .call { callee := .value (.func 27), args := #[.tmp 68, .tmp 69], argTypes := #[29, 24] }, 29, "ref.go:57", #[⟨6, .data⟩, ⟨7, .data⟩], none⟩) rfl (fun K hK => ?_) AllReadyH.nil
      go_simp
      (go_at_call 27; refine Calls.mono HC.out ?_; rintro e w4 ⟨⟨d0, d1, d2, d3, d4, d5, dw, dA, dl, dc⟩, rfl, v4, b4⟩
       have b4' : Below wr.heap.size wr w4 := (Below.refl _ wr).drew.trans b4
       have h4 : But (w.heap.size + 1 + 1 + 1) wk w4 := hbk.trans (But.of_below b4')
       have hs4 : wr.heap.size ≤ w4.heap.size := b4'.size
       have HW4 := Lib.hid (HW.out.but (But.of_below (R := w.heap.size + 1 + 1 + 1) b4') (by omega))
       have hlt5 : ∀ k, rv.ownBlock = some k → k < wr.heap.size := fun k hk => (HW.out.own.lt k hk).2
       have HVV : Hid (TV w4 (fun b => wk.heap.size ≤ b ∧ some b ≠ rv.ownBlock) ⟨d0, d1, d2, d3, d4, d5, dw, dA, dl, dc⟩ (some (mvT x y u))) := Lib.hid (v4.imp fun b hb => ⟨by have hb2 : wr.heap.size ≤ b := hb; omega, fun e => by have := hlt5 b e.symm; have hb2 : wr.heap.size ≤ b := hb; omega⟩)
       have HO4 : Hid (C8 w4 (w.heap.size + 1 + 1 + 1) (.int .i64 (t.kind)) (.int .i64 (t.num)) (.int .i64 (t.c1)) (.int .i64 (t.r1)) (.int .i64 (t.c2)) (.int .i64 (t.r2)) (.string ⟨t.word.toArray⟩) rv ∧ w4.frozen? ⟨w.heap.size + 1 + 1 + 1, 7, none⟩ = false) := Lib.hid ⟨c8_world HOut.out.1 (b4'.block _ zO), keep_frozen b4' zO HOut.out.2⟩
       have e7 := HO4.out.1.2.2.2.2.2.2.2
       have HWA : ∀ ob, Hid (Row wk.heap.size (w4.alloc ob) rv xs) := fun ob => Lib.hid (HW4.out.but (But.of_below (R := w.heap.size + 1 + 1 + 1) ((Below.refl _ _).alloc (Nat.le_refl _) ob)) (by omega))
       have zO4 : w.heap.size + 1 + 1 + 1 < w4.heap.size := by omega
       have zk4 : wk.heap.size ≤ w4.heap.size := by omega
       clear v4 b4 b4' hlt5
       dsimp only [V8.val])
      go_wp2_with fail
      refine hK.out _ _ ?_ (fun hHeld => ?_)
      · try dsimp only
        (with_reducible exact HS.out _ (by repeat' (first | with_reducible exact hbk | with_reducible exact h4 | with_reducible exact h5 | with_reducible refine zBa ?_ _ | with_reducible refine zBr ?_ _ _ | with_reducible refine zBd ?_)))
      clear hK K
      try simp only [Act.put, List.setIfInBounds_toArray, List.set_cons_zero, List.set_cons_succ]
      refine wpAnyH_ready (rs := [1, 9]) (by kernel_rfl) (by simp) ?_
      refine AllReadyH.cons (o := ⟨some 63, .load 27 (.tmp 62), 27, "ref.go:57", #[⟨0, .data⟩], none⟩) rfl (fun K hK => ?_) ?_
      go_simp
      refine hK.out _ _ ?_ (fun hHeld => ?_)
      · try dsimp only
        (with_reducible exact HS.out _ (by repeat' (first | with_reducible exact hbk | with_reducible exact h4 | with_reducible exact h5 | with_reducible refine zBa ?_ _ | with_reducible refine zBr ?_ _ _ | with_reducible refine zBd ?_)))
      clear hK K
      try simp only [Act.put, List.setIfInBounds_toArray, List.set_cons_zero, List.set_cons_succ]
      refine wpAnyH_ready (rs := [9]) (by kernel_rfl) (by simp) ?_
      refine AllReadyH.cons (o := ⟨some 71, .buildSlice 27 1 #[(0, .tmp 70)], 27, "ref.go:57", #[⟨8, .data⟩], none⟩) rfl (fun K hK => ?_) AllReadyH.nil
      go_simp
      refine hK.out _ _ ?_ (fun hHeld => ?_)
      · try dsimp only
        (with_reducible exact HS.out _ (by repeat' (first | with_reducible exact hbk | with_reducible exact h4 | with_reducible exact h5 | with_reducible refine zBa ?_ _ | with_reducible refine zBr ?_ _ _ | with_reducible refine zBd ?_)))
      clear hK K
      try simp only [Act.put, List.setIfInBounds_toArray, List.set_cons_zero, List.set_cons_succ]
      refine wpAnyH_ready (rs := [10]) (by kernel_rfl) (by simp) ?_
      refine AllReadyH.cons (o := ⟨some 72, .call { callee := .builtin .append, args := #[.tmp 63, .tmp 71], argTypes := #[27, 27] }, 27, "ref.go:57", #[⟨1, .data⟩, ⟨9, .data⟩, ⟨8, .chain⟩], none⟩) rfl (fun K hK => ?_) AllReadyH.nil
      (refine step_append_lies _ (by rfl) _ _ _ (by rfl) wk.heap.size 29 i0 _ 8 88 Tryd.underlying27 HI0.out HZ0.out HZ1.out HZ2.out rfl (by omega) rv xs.length (rowC xs) (by rfl) (HWA _).out.own
          ⟨w4.heap.size, 0, none⟩ 1 1 (cells8 ⟨d0, d1, d2, d3, d4, d5, dw, dA, dl, dc⟩) (by rfl) (by rfl) (World.news_of_block (cs := #[.int .i64 d0, .int .i64 d1, .int .i64 d2, .int .i64 d3, .int .i64 d4, .int .i64 d5, .string dw, .slice dA dl dc]) (t := 29) (fr := (0, 0)) (heap_alloc_new w4 _)) (by simp [cells8, Value.oneCell'])
          (by omega) (by unfold maxLen; omega) (by omega) (by simp <;> omega) (w4.heap.size + 1) (by simp) ?_; intro gg cap w5 hown5 hg5 hat5 hlt5
       have HW5 := Lib.hid ((HWA _).out.push (HVV.out.kept (Kept.of_below ((Below.refl _ _).alloc (Nat.le_refl _) _))) hown5 hg5 (by rcases hat5 with h | h; exact .inl h.symm; exact .inr (by rw [h]; simp [Value.ownBlock])))
       have hr5 : ∀ k, rv.ownBlock = some k → wk.heap.size ≤ k := fun k hk => (HW4.out.own.lt k hk).1
       have h5 : But (w.heap.size + 1 + 1 + 1) wk w5 := (zBa h4 _).grown hg5 hr5
       have HO5 : Hid (C8 w5 (w.heap.size + 1 + 1 + 1) (.int .i64 (t.kind)) (.int .i64 (t.num)) (.int .i64 (t.c1)) (.int .i64 (t.r1)) (.int .i64 (t.c2)) (.int .i64 (t.r2)) (.string ⟨t.word.toArray⟩) rv ∧ w5.frozen? ⟨w.heap.size + 1 + 1 + 1, 7, none⟩ = false) := Lib.hid (by
         have hb : w5.heap[w.heap.size + 1 + 1 + 1]? = w4.heap[w.heap.size + 1 + 1 + 1]? := by rw [hg5.block (w.heap.size + 1 + 1 + 1) (by simp; omega) (fun e => by have := hr5 _ e.symm; omega), Below.heap_alloc w4 _ _ zO4]
         exact ⟨c8_world HO4.out.1 hb, by rw [World.frozen?_of_block (w := w4) (a := ⟨w.heap.size + 1 + 1 + 1, 7, none⟩) hb]; exact HO4.out.2⟩)
       have o57 := HO5.out.1.2.2.2.2.2.2.2
       have f57 := HO5.out.2
       clear hown5 hat5)
      refine hK.out _ _ ?_ (fun hHeld => ?_)
      · try dsimp only
        (with_reducible exact HS.out _ (by repeat' (first | with_reducible exact hbk | with_reducible exact h4 | with_reducible exact h5 | with_reducible refine zBa ?_ _ | with_reducible refine zBr ?_ _ _ | with_reducible refine zBd ?_)))
      clear hK K
      try simp only [Act.put, List.setIfInBounds_toArray, List.set_cons_zero, List.set_cons_succ]
      refine wpAnyH_take (i := 11) (oi := ⟨some 73, .fieldAddr 29 (.tmp 5) 4, 0, "ref.go:57", #[⟨0, .phase⟩, ⟨1, .phase⟩, ⟨2, .phase⟩, ⟨3, .phase⟩, ⟨4, .phase⟩, ⟨5, .phase⟩, ⟨6, .phase⟩, ⟨7, .phase⟩, ⟨8, .phase⟩, ⟨9, .phase⟩, ⟨10, .phase⟩], none⟩) (v := ?_) rfl (by kernel_rfl) (by kernel_rfl) (by kernel_rfl) (fun _ _ _ h => h) (Or.inl ⟨by rfl, ?_⟩) (by assumption) ?_
      rotate_left
      · (intro w hSw; (try dsimp only at hSw); go_simp)
        try with_reducible rfl
      try simp only [Act.put, List.setIfInBounds_toArray, List.set_cons_zero, List.set_cons_succ]
      refine wpAnyH_ready (rs := [12]) (by kernel_rfl) (by simp) ?_
      refine AllReadyH.cons (o := ⟨none, .store 27 (.tmp 73) (.tmp 72), 0, "ref.go:57", #[⟨11, .data⟩, ⟨10, .data⟩, ⟨10, .chain⟩, ⟨0, .phase⟩, ⟨1, .phase⟩, ⟨2, .phase⟩, ⟨3, .phase⟩, ⟨4, .phase⟩, ⟨5, .phase⟩, ⟨6, .phase⟩, ⟨7, .phase⟩, ⟨8, .phase⟩, ⟨9, .phase⟩, ⟨10, .phase⟩], none⟩) rfl (fun K hK => ?_) AllReadyH.nil
      go_simp
      refine hK.out _ _ ?_ (fun hHeld => ?_)
      · try dsimp only
        (with_reducible exact HS.out _ (by repeat' (first | with_reducible exact hbk | with_reducible exact h4 | with_reducible exact h5 | with_reducible refine zBa ?_ _ | with_reducible refine zBr ?_ _ _ | with_reducible refine zBd ?_)))
      clear hK K
      try simp only [Act.put, List.setIfInBounds_toArray, List.set_cons_zero, List.set_cons_succ]
      refine wpAnyH_done (by kernel_rfl) ?_ _
      rotate_left
      refine AllReadyH.cons (o := ⟨some 71, .buildSlice 27 1 #[(0, .tmp 70)], 27, "ref.go:57", #[⟨8, .data⟩], none⟩) rfl (fun K hK => ?_) AllReadyH.nil
      go_simp
      refine hK.out _ _ ?_ (fun hHeld => ?_)
      · try dsimp only
        (with_reducible exact HS.out _ (by repeat' (first | with_reducible exact hbk | with_reducible exact h4 | with_reducible exact h5 | with_reducible refine zBa ?_ _ | with_reducible refine zBr ?_ _ _ | with_reducible refine zBd ?_)))
      clear hK K
      try simp only [Act.put, List.setIfInBounds_toArray, List.set_cons_zero, List.set_cons_succ]
      refine wpAnyH_ready (rs := [1]) (by kernel_rfl) (by simp) ?_
      refine AllReadyH.cons (o := ⟨some 63, .load 27 (.tmp 62), 27, "ref.go:57", #[⟨0, .data⟩], none⟩) rfl (fun K hK => ?_) AllReadyH.nil
      go_simp
      refine hK.out _ _ ?_ (fun hHeld => ?_)
      · try dsimp only
        (with_reducible exact HS.out _ (by repeat' (first | with_reducible exact hbk | with_reducible exact h4 | with_reducible exact h5 | with_reducible refine zBa ?_ _ | with_reducible refine zBr ?_ _ _ | with_reducible refine zBd ?_)))
      clear hK K
      try simp only [Act.put, List.setIfInBounds_toArray, List.set_cons_zero, List.set_cons_succ]
      refine wpAnyH_ready (rs := [10]) (by kernel_rfl) (by simp) ?_
      refine AllReadyH.cons (o := ⟨some 72, .call { callee := .builtin .append, args := #[.tmp 63, .tmp 71], argTypes := #[27, 27] }, 27, "ref.go:57", #[⟨1, .data⟩, ⟨9, .data⟩, ⟨8, .chain⟩], none⟩) rfl (fun K hK => ?_) AllReadyH.nil
      (refine step_append_lies _ (by rfl) _ _ _ (by rfl) wk.heap.size 29 i0 _ 8 88 Tryd.underlying27 HI0.out HZ0.out HZ1.out HZ2.out rfl (by omega) rv xs.length (rowC xs) (by rfl) (HWA _).out.own
          ⟨w4.heap.size, 0, none⟩ 1 1 (cells8 ⟨d0, d1, d2, d3, d4, d5, dw, dA, dl, dc⟩) (by rfl) (by rfl) (World.news_of_block (cs := #[.int .i64 d0, .int .i64 d1, .int .i64 d2, .int .i64 d3, .int .i64 d4, .int .i64 d5, .string dw, .slice dA dl dc]) (t := 29) (fr := (0, 0)) (heap_alloc_new w4 _)) (by simp [cells8, Value.oneCell'])
          (by omega) (by unfold maxLen; omega) (by omega) (by simp <;> omega) (w4.heap.size + 1) (by simp) ?_; intro gg cap w5 hown5 hg5 hat5 hlt5
       have HW5 := Lib.hid ((HWA _).out.push (HVV.out.kept (Kept.of_below ((Below.refl _ _).alloc (Nat.le_refl _) _))) hown5 hg5 (by rcases hat5 with h | h; exact .inl h.symm; exact .inr (by rw [h]; simp [Value.ownBlock])))
       have hr5 : ∀ k, rv.ownBlock = some k → wk.heap.size ≤ k := fun k hk => (HW4.out.own.lt k hk).1
       have h5 : But (w.heap.size + 1 + 1 + 1) wk w5 := (zBa h4 _).grown hg5 hr5
       have HO5 : Hid (C8 w5 (w.heap.size + 1 + 1 + 1) (.int .i64 (t.kind)) (.int .i64 (t.num)) (.int .i64 (t.c1)) (.int .i64 (t.r1)) (.int .i64 (t.c2)) (.int .i64 (t.r2)) (.string ⟨t.word.toArray⟩) rv ∧ w5.frozen? ⟨w.heap.size + 1 + 1 + 1, 7, none⟩ = false) := Lib.hid (by
         have hb : w5.heap[w.heap.size + 1 + 1 + 1]? = w4.heap[w.heap.size + 1 + 1 + 1]? := by rw [hg5.block (w.heap.size + 1 + 1 + 1) (by simp; omega) (fun e => by have := hr5 _ e.symm; omega), Below.heap_alloc w4 _ _ zO4]
         exact ⟨c8_world HO4.out.1 hb, by rw [World.frozen?_of_block (w := w4) (a := ⟨w.heap.size + 1 + 1 + 1, 7, none⟩) hb]; exact HO4.out.2⟩)
       have o57 := HO5.out.1.2.2.2.2.2.2.2
       have f57 := HO5.out.2
       clear hown5 hat5)
      refine hK.out _ _ ?_ (fun hHeld => ?_)
      · try dsimp only
        (with_reducible exact HS.out _ (by repeat' (first | with_reducible exact hbk | with_reducible exact h4 | with_reducible exact h5 | with_reducible refine zBa ?_ _ | with_reducible refine zBr ?_ _ _ | with_reducible refine zBd ?_)))
      clear hK K
      try simp only [Act.put, List.setIfInBounds_toArray, List.set_cons_zero, List.set_cons_succ]
      refine wpAnyH_take (i := 11) (oi := ⟨some 73, .fieldAddr 29 (.tmp 5) 4, 0, "ref.go:57", #[⟨0, .phase⟩, ⟨1, .phase⟩, ⟨2, .phase⟩, ⟨3, .phase⟩, ⟨4, .phase⟩, ⟨5, .phase⟩, ⟨6, .phase⟩, ⟨7, .phase⟩, ⟨8, .phase⟩, ⟨9, .phase⟩, ⟨10, .phase⟩], none⟩) (v := ?_) rfl (by kernel_rfl) (by kernel_rfl) (by kernel_rfl) (fun _ _ _ h => h) (Or.inl ⟨by rfl, ?_⟩) (by assumption) ?_
      rotate_left
      · (intro w hSw; (try dsimp only at hSw); go_simp)
        try with_reducible rfl
      try simp only [Act.put, List.setIfInBounds_toArray, List.set_cons_zero, List.set_cons_succ]
      refine wpAnyH_ready (rs := [12]) (by kernel_rfl) (by simp) ?_
      refine AllReadyH.cons (o := ⟨none, .store 27 (.tmp 73) (.tmp 72), 0, "ref.go:57", #[⟨11, .data⟩, ⟨10, .data⟩, ⟨10, .chain⟩, ⟨0, .phase⟩, ⟨1, .phase⟩, ⟨2, .phase⟩, ⟨3, .phase⟩, ⟨4, .phase⟩, ⟨5, .phase⟩, ⟨6, .phase⟩, ⟨7, .phase⟩, ⟨8, .phase⟩, ⟨9, .phase⟩, ⟨10, .phase⟩], none⟩) rfl (fun K hK => ?_) AllReadyH.nil
      go_simp
      refine hK.out _ _ ?_ (fun hHeld => ?_)
      · try dsimp only
        (with_reducible exact HS.out _ (by repeat' (first | with_reducible exact hbk | with_reducible exact h4 | with_reducible exact h5 | with_reducible refine zBa ?_ _ | with_reducible refine zBr ?_ _ _ | with_reducible refine zBd ?_)))
      clear hK K
      try simp only [Act.put, List.setIfInBounds_toArray, List.set_cons_zero, List.set_cons_succ]
      refine wpAnyH_done (by kernel_rfl) ?_ _
      rotate_left
      all_goals
        have hb6 : But (w.heap.size + 1 + 1 + 1) wk (w5.setCell ⟨w.heap.size + 1 + 1 + 1, 7, none⟩ (.slice (some ⟨gg, 0, none⟩) (xs.length + 1) cap)) := zBr h5 _ _
        have HW6 : Hid (Row wk.heap.size (w5.setCell ⟨w.heap.size + 1 + 1 + 1, 7, none⟩ (.slice (some ⟨gg, 0, none⟩) (xs.length + 1) cap)) (.slice (some ⟨gg, 0, none⟩) (xs.length + 1) cap) (xs ++ [((⟨d0, d1, d2, d3, d4, d5, dw, dA, dl, dc⟩ : V8), mvT x y u)])) := Lib.hid (HW5.out.but (zBr (But.refl _ _) _ _) (by omega))
        have HO6 : Hid (C8 (w5.setCell ⟨w.heap.size + 1 + 1 + 1, 7, none⟩ (.slice (some ⟨gg, 0, none⟩) (xs.length + 1) cap)) (w.heap.size + 1 + 1 + 1) (.int .i64 (t.kind)) (.int .i64 (t.num)) (.int .i64 (t.c1)) (.int .i64 (t.r1)) (.int .i64 (t.c2)) (.int .i64 (t.r2)) (.string ⟨t.word.toArray⟩) (.slice (some ⟨gg, 0, none⟩) (xs.length + 1) cap) ∧ (w5.setCell ⟨w.heap.size + 1 + 1 + 1, 7, none⟩ (.slice (some ⟨gg, 0, none⟩) (xs.length + 1) cap)).frozen? ⟨w.heap.size + 1 + 1 + 1, 7, none⟩ = false) := Lib.hid ⟨c8_set7 HO5.out.1 _, by rw [World.frozen?_setCell]; exact HO5.out.2⟩
        have HX6 : Hid ((xs ++ [((⟨d0, d1, d2, d3, d4, d5, dw, dA, dl, dc⟩ : V8), mvT x y u)]).map Prod.snd = mvL x y (t.kids.take (i + 1))) := Lib.hid (by rw [HM.out, List.map_append, HX.out]; rfl)
        clear HW5 HO5 h5 o57 f57 hg5 HVV HW4 HO4 h4 HX HM HWA HS HC HOut HW
        rw [hxl] at HW6 HO6 hb6
        go_wp2_with fail
        go_roundw
        case rel => exact ⟨i + 1, _, _, by omega, by simp; omega, by go_num, HX6, HW6, HO6, hb6⟩
        case measure => simp [intOf]; omega
    · have hii : i = t.kids.length := by omega
      have HX2 : Hid (xs.map Prod.snd = mvL x y t.kids) := Lib.hid (by have h := HX.out; rwa [hii, List.take_length] at h)
      obtain ⟨Ax, cp, rfl, hkl⟩ := HW.out.shut
      have HKL := Lib.hid hkl
      obtain ⟨c0, c1, c2, c3, c4, c5, c6, c7⟩ := HOut.out.1
      obtain ⟨r0, r1, r2, r3, r4, r5, r6, r7⟩ := c8_lift (w' := wr) (fun j v (hv : wk.cell? ⟨w.heap.size + 1 + 1, j, none⟩ = some v) => hbk.cell (p := ⟨w.heap.size + 1 + 1, j, none⟩) (by show w.heap.size + 1 + 1 ≠ _; omega) hv) HR.out.1 HR.out.2.1 HR.out.2.2.1 HR.out.2.2.2.1 HR.out.2.2.2.2.1 HR.out.2.2.2.2.2.1 HR.out.2.2.2.2.2.2.1 HR.out.2.2.2.2.2.2.2
      obtain ⟨f0, f1, f2, f3, f4, f5, f6, f7⟩ := f8_lift (w' := wr) (fun j (hv : wk.frozen? ⟨w.heap.size + 1 + 1, j, none⟩ = false) => hbk.frozen (p := ⟨w.heap.size + 1 + 1, j, none⟩) (by show w.heap.size + 1 + 1 ≠ _; omega) (by show w.heap.size + 1 + 1 < _; omega) hv) HF.out.1 HF.out.2.1 HF.out.2.2.1 HF.out.2.2.2.1 HF.out.2.2.2.2.1 HF.out.2.2.2.2.2.1 HF.out.2.2.2.2.2.2.1 HF.out.2.2.2.2.2.2.2
      have hsw : w.heap.size ≤ wr.heap.size := hbel.size
      clear hbk HW HX hkl HOut
      go_wp2_with fail
      refine bodyPost_ret (v := .agg #[.int .i64 (t.kind), .int .i64 (t.num), .int .i64 (t.c1), .int .i64 (t.r1), .int .i64 (t.c2), .int .i64 (t.r2), .string ⟨t.word.toArray⟩, .slice Ax t.kids.length cp]) (by simp [results, Tryd.results27, go_sem, r0, r1, r2, r3, r4, r5, r6, r7]) rfl ⟨⟨t.kind, t.num, t.c1, t.r1, t.c2, t.r2, ⟨t.word.toArray⟩, Ax, t.kids.length, cp⟩, rfl, ?_, by
        repeat' (first | with_reducible exact hbel | with_reducible refine Below.alloc ?_ (by first | omega | (simp <;> omega)) _ | with_reducible refine Below.setCell ?_ (by first | omega | (simp <;> omega)) _)⟩
      rw [HTV.out]
      refine ⟨Ax, cp, by simp [tv8, Tr.kind, Tr.num, Tr.c1, Tr.r1, Tr.c2, Tr.r2, Tr.word, Tr.kids, len_mv], KV.mk ?_⟩
      show mvL x y t.kids = [] ∨ _
      rw [← HX2.out]
      rcases HKL.out with h | ⟨g, o, e, hb, hl, hk⟩
      · exact .inl h
      · refine .inr ⟨g, o, e, by omega, Nat.lt_of_lt_of_le hl (Kept.size (P := fun b => wk.heap.size ≤ b) ?_), KL.imp (P := fun b => wk.heap.size ≤ b) (fun b hb => by have hb2 : wk.heap.size ≤ b := hb; omega) (KL.kept ?_ hb hk)⟩
        all_goals
          repeat' (first | with_reducible exact Kept.refl _ _ | with_reducible refine Kept.alloc ?_ _ | with_reducible refine Kept.set ?_ (.inl (by show ¬ wk.heap.size ≤ _; omega)) _ _)
set_option maxHeartbeats 8000000 in
set_option maxRecDepth 100000 in
theorem rmoved_out (x y : Int) (t : Tr) (_hlen : t.kids.length ≤ 1000000) (ih : ∀ u ∈ t.kids, PMvC 27 x y u) (b1 : Bool) (e1 : (t.kind == 1) = b1) (e6 : b1 = false → (t.kind == 6) = true) (v1 v2 : Bool) (m1 : mvB t.c1 t.r1 x y = v1) (m2 : mvB t.c2 t.r2 x y = v2) (hm : (v1 && v2) = false) : PMvC 27 x y t := by
  intro w P A ca hk
  have HK := Lib.hid hk
  have HI := Lib.hid ih
  obtain ⟨i0, hi0, hz0, hz1, hz2⟩ := info_parts tree_info
  have HI0 := Lib.hid hi0
  have HZ0 := Lib.hid hz0
  have HZ1 := Lib.hid hz1
  have HZ2 := Lib.hid hz2
  clear hi0 hz0 hz1 hz2 hk ih
  have hrd : rdr t = true := by
    unfold rdr
    cases hb : (t.kind == 1) with
    | true => rfl
    | false => rw [hb] at e1; rw [e6 e1.symm]; rfl
  have HTV : Hid (mvT x y t = badT) := Lib.hid (by rw [← mv8_is]; unfold mv8; rw [if_pos hrd, if_neg (by rw [m1, m2, hm]; decide)])
  have H1 := Lib.hid (fun w => rmove_any t.c1 t.r1 x y w)
  have H2 := Lib.hid (fun w => rmove_any t.c2 t.r2 x y w)
  rw [m1] at H1
  rw [m2] at H2
  clear m1 m2 hrd
  generalize mvC t.c1 t.r1 x y = u1 at *
  generalize mvR t.c1 t.r1 x y = u2 at *
  generalize mvC t.c2 t.r2 x y = u3 at *
  generalize mvR t.c2 t.r2 x y = u4 at *
  cases b1
  all_goals
    first | have k6 := e6 rfl | have k6 := e1
    clear e6
    go_enter Tryd.func27, Tryd.ntmps27
    go_wp2_with fail
    refine (H1.out _).mono ?_; rintro e w1 ⟨rfl, q1⟩
    have t7 : w1.cell? ⟨w.heap.size, 7, none⟩ = some (.slice A t.kids.length ca) := keep_cell q1 (by simp [go_sem])
    have t4 : w1.cell? ⟨w.heap.size, 4, none⟩ = some (.int .i64 t.c2) := keep_cell q1 (by simp [go_sem])
    have t5 : w1.cell? ⟨w.heap.size, 5, none⟩ = some (.int .i64 t.r2) := keep_cell q1 (by simp [go_sem])
    have p0 : w1.cell? ⟨w.heap.size + 1, 0, none⟩ = some (.int .i64 x) := keep_cell q1 (by simp [go_sem])
    have p1 : w1.cell? ⟨w.heap.size + 1, 1, none⟩ = some (.int .i64 y) := keep_cell q1 (by simp [go_sem])
    have r0 : w1.cell? ⟨w.heap.size + 1 + 1, 0, none⟩ = some (.int .i64 0) := keep_cell q1 (by simp [go_sem])
    have r1 : w1.cell? ⟨w.heap.size + 1 + 1, 1, none⟩ = some (.int .i64 0) := keep_cell q1 (by simp [go_sem])
    have r2 : w1.cell? ⟨w.heap.size + 1 + 1, 2, none⟩ = some (.int .i64 0) := keep_cell q1 (by simp [go_sem])
    have r3 : w1.cell? ⟨w.heap.size + 1 + 1, 3, none⟩ = some (.int .i64 0) := keep_cell q1 (by simp [go_sem])
    have r4 : w1.cell? ⟨w.heap.size + 1 + 1, 4, none⟩ = some (.int .i64 0) := keep_cell q1 (by simp [go_sem])
    have r5 : w1.cell? ⟨w.heap.size + 1 + 1, 5, none⟩ = some (.int .i64 0) := keep_cell q1 (by simp [go_sem])
    have r6 : w1.cell? ⟨w.heap.size + 1 + 1, 6, none⟩ = some (.string ⟨#[]⟩) := keep_cell q1 (by simp [go_sem])
    have r7 : w1.cell? ⟨w.heap.size + 1 + 1, 7, none⟩ = some (.slice none 0 0) := keep_cell q1 (by simp [go_sem])
    have o0 : w1.cell? ⟨w.heap.size + 1 + 1 + 1, 0, none⟩ = some (.int .i64 t.kind) := keep_cell q1 (by simp [go_sem])
    have o1 : w1.cell? ⟨w.heap.size + 1 + 1 + 1, 1, none⟩ = some (.int .i64 t.num) := keep_cell q1 (by simp [go_sem])
    have o2 : w1.cell? ⟨w.heap.size + 1 + 1 + 1, 2, none⟩ = some (.int .i64 t.c1) := keep_cell q1 (by simp [go_sem])
    have o3 : w1.cell? ⟨w.heap.size + 1 + 1 + 1, 3, none⟩ = some (.int .i64 t.r1) := keep_cell q1 (by simp [go_sem])
    have o4 : w1.cell? ⟨w.heap.size + 1 + 1 + 1, 4, none⟩ = some (.int .i64 t.c2) := keep_cell q1 (by simp [go_sem])
    have o5 : w1.cell? ⟨w.heap.size + 1 + 1 + 1, 5, none⟩ = some (.int .i64 t.r2) := keep_cell q1 (by simp [go_sem])
    have o6 : w1.cell? ⟨w.heap.size + 1 + 1 + 1, 6, none⟩ = some (.string ⟨t.word.toArray⟩) := keep_cell q1 (by simp [go_sem])
    have o7 : w1.cell? ⟨w.heap.size + 1 + 1 + 1, 7, none⟩ = some (.slice none 0 0) := keep_cell q1 (by simp [go_sem])
    have f0 : w1.frozen? ⟨w.heap.size + 1 + 1, 0, none⟩ = false := keep_frozen q1 (by simp) (by simp [go_sem])
    have f1 : w1.frozen? ⟨w.heap.size + 1 + 1, 1, none⟩ = false := keep_frozen q1 (by simp) (by simp [go_sem])
    have f2 : w1.frozen? ⟨w.heap.size + 1 + 1, 2, none⟩ = false := keep_frozen q1 (by simp) (by simp [go_sem])
    have f3 : w1.frozen? ⟨w.heap.size + 1 + 1, 3, none⟩ = false := keep_frozen q1 (by simp) (by simp [go_sem])
    have f4 : w1.frozen? ⟨w.heap.size + 1 + 1, 4, none⟩ = false := keep_frozen q1 (by simp) (by simp [go_sem])
    have f5 : w1.frozen? ⟨w.heap.size + 1 + 1, 5, none⟩ = false := keep_frozen q1 (by simp) (by simp [go_sem])
    have f6 : w1.frozen? ⟨w.heap.size + 1 + 1, 6, none⟩ = false := keep_frozen q1 (by simp) (by simp [go_sem])
    have f7 : w1.frozen? ⟨w.heap.size + 1 + 1, 7, none⟩ = false := keep_frozen q1 (by simp) (by simp [go_sem])
    have g0 : w1.frozen? ⟨w.heap.size + 1 + 1 + 1, 0, none⟩ = false := keep_frozen q1 (by simp) (by simp [go_sem])
    have g1 : w1.frozen? ⟨w.heap.size + 1 + 1 + 1, 1, none⟩ = false := keep_frozen q1 (by simp) (by simp [go_sem])
    have g2 : w1.frozen? ⟨w.heap.size + 1 + 1 + 1, 2, none⟩ = false := keep_frozen q1 (by simp) (by simp [go_sem])
    have g3 : w1.frozen? ⟨w.heap.size + 1 + 1 + 1, 3, none⟩ = false := keep_frozen q1 (by simp) (by simp [go_sem])
    have g4 : w1.frozen? ⟨w.heap.size + 1 + 1 + 1, 4, none⟩ = false := keep_frozen q1 (by simp) (by simp [go_sem])
    have g5 : w1.frozen? ⟨w.heap.size + 1 + 1 + 1, 5, none⟩ = false := keep_frozen q1 (by simp) (by simp [go_sem])
    have g6 : w1.frozen? ⟨w.heap.size + 1 + 1 + 1, 6, none⟩ = false := keep_frozen q1 (by simp) (by simp [go_sem])
    have g7 : w1.frozen? ⟨w.heap.size + 1 + 1 + 1, 7, none⟩ = false := keep_frozen q1 (by simp) (by simp [go_sem])
    have h1 : Below w.heap.size w w1 := (((((Below.refl _ _).alloc (Nat.le_refl _) _).alloc (by simp) _).alloc (by simp; omega) _).alloc (by simp; omega) _).trans (q1.mono (by simp; omega))
    have z1 : w.heap.size + 1 + 1 + 1 < w1.heap.size := by have := q1.size; simp at this; omega
    have za : w.heap.size < w1.heap.size := by omega
    have zb : w.heap.size + 1 < w1.heap.size := by omega
    have zc : w.heap.size + 1 + 1 < w1.heap.size := by omega
    clear q1
    go_wp2_with fail
    refine (H2.out _).mono ?_; rintro e w2 ⟨rfl, q2⟩
    have n0 := q2.size
    rw [World.size_alloc] at n0
    have s0 := keep_fresh q2 0 (v := .int .i64 u1) rfl
    have s1 := keep_fresh q2 1 (v := .int .i64 u2) rfl
    replace t7 := keep_cell q2 (kc_alloc t7 _)
    replace p0 := keep_cell q2 (kc_alloc p0 _)
    replace p1 := keep_cell q2 (kc_alloc p1 _)
    replace r0 := keep_cell q2 (kc_alloc r0 _)
    replace r1 := keep_cell q2 (kc_alloc r1 _)
    replace r2 := keep_cell q2 (kc_alloc r2 _)
    replace r3 := keep_cell q2 (kc_alloc r3 _)
    replace r4 := keep_cell q2 (kc_alloc r4 _)
    replace r5 := keep_cell q2 (kc_alloc r5 _)
    replace r6 := keep_cell q2 (kc_alloc r6 _)
    replace r7 := keep_cell q2 (kc_alloc r7 _)
    replace o0 := keep_cell q2 (kc_alloc o0 _)
    replace o1 := keep_cell q2 (kc_alloc o1 _)
    replace o2 := keep_cell q2 (kc_alloc o2 _)
    replace o3 := keep_cell q2 (kc_alloc o3 _)
    replace o4 := keep_cell q2 (kc_alloc o4 _)
    replace o5 := keep_cell q2 (kc_alloc o5 _)
    replace o6 := keep_cell q2 (kc_alloc o6 _)
    replace o7 := keep_cell q2 (kc_alloc o7 _)
    replace f0 := keep_frozen q2 (by simp; omega) (kf_alloc f0 zc _)
    replace f1 := keep_frozen q2 (by simp; omega) (kf_alloc f1 zc _)
    replace f2 := keep_frozen q2 (by simp; omega) (kf_alloc f2 zc _)
    replace f3 := keep_frozen q2 (by simp; omega) (kf_alloc f3 zc _)
    replace f4 := keep_frozen q2 (by simp; omega) (kf_alloc f4 zc _)
    replace f5 := keep_frozen q2 (by simp; omega) (kf_alloc f5 zc _)
    replace f6 := keep_frozen q2 (by simp; omega) (kf_alloc f6 zc _)
    replace f7 := keep_frozen q2 (by simp; omega) (kf_alloc f7 zc _)
    replace g0 := keep_frozen q2 (by simp; omega) (kf_alloc g0 z1 _)
    replace g1 := keep_frozen q2 (by simp; omega) (kf_alloc g1 z1 _)
    replace g2 := keep_frozen q2 (by simp; omega) (kf_alloc g2 z1 _)
    replace g3 := keep_frozen q2 (by simp; omega) (kf_alloc g3 z1 _)
    replace g4 := keep_frozen q2 (by simp; omega) (kf_alloc g4 z1 _)
    replace g5 := keep_frozen q2 (by simp; omega) (kf_alloc g5 z1 _)
    replace g6 := keep_frozen q2 (by simp; omega) (kf_alloc g6 z1 _)
    replace g7 := keep_frozen q2 (by simp; omega) (kf_alloc g7 z1 _)
    have h2 : Below w.heap.size w w2 := (h1.alloc (by omega) _).trans (q2.mono (by simp; omega))
    have z2 : w.heap.size + 1 + 1 + 1 < w2.heap.size := by omega
    have zd : w.heap.size < w2.heap.size := by omega
    have ze : w.heap.size + 1 < w2.heap.size := by omega
    have zf : w.heap.size + 1 + 1 < w2.heap.size := by omega
    have zg : w1.heap.size < w2.heap.size := by omega
    clear q2 h1 za zb zc t4 t5
    cases v1
    · go_wp2_with fail
      refine bodyPost_ret (v := .agg #[.int .i64 2, .int .i64 0, .int .i64 0, .int .i64 0, .int .i64 0, .int .i64 0, .string ⟨#[]⟩, .slice none 0 0]) (by simp [results, Tryd.results27, go_sem, zf, r0, r1, r2, r3, r4, r5, r6, r7]) rfl ⟨⟨2, 0, 0, 0, 0, 0, ⟨#[]⟩, none, 0, 0⟩, rfl, ?_, by
        repeat' (first | with_reducible exact h2 | with_reducible refine Below.alloc ?_ (by first | omega | (simp <;> omega)) _ | with_reducible refine Below.setCell ?_ (by first | omega | (simp <;> omega)) _)⟩
      rw [HTV.out]
      exact ⟨none, 0, rfl, KV.mk (.inl rfl)⟩
    · simp only [Bool.true_and] at hm
      subst hm
      go_wp2_with fail
      refine bodyPost_ret (v := .agg #[.int .i64 2, .int .i64 0, .int .i64 0, .int .i64 0, .int .i64 0, .int .i64 0, .string ⟨#[]⟩, .slice none 0 0]) (by simp [results, Tryd.results27, go_sem, zf, r0, r1, r2, r3, r4, r5, r6, r7]) rfl ⟨⟨2, 0, 0, 0, 0, 0, ⟨#[]⟩, none, 0, 0⟩, rfl, ?_, by
        repeat' (first | with_reducible exact h2 | with_reducible refine Below.alloc ?_ (by first | omega | (simp <;> omega)) _ | with_reducible refine Below.setCell ?_ (by first | omega | (simp <;> omega)) _)⟩
      rw [HTV.out]
      exact ⟨none, 0, rfl, KV.mk (.inl rfl)⟩
set_option maxHeartbeats 8000000 in
set_option maxRecDepth 100000 in
theorem rmoved_in (x y : Int) (t : Tr) (hlen : t.kids.length ≤ 1000000) (ih : ∀ u ∈ t.kids, PMvC 27 x y u) (b1 : Bool) (e1 : (t.kind == 1) = b1) (e6 : b1 = false → (t.kind == 6) = true) (v1 v2 : Bool) (m1 : mvB t.c1 t.r1 x y = v1) (m2 : mvB t.c2 t.r2 x y = v2) (hm : v1 = true) (hm2 : v2 = true) : PMvC 27 x y t := by
  intro w P A ca hk
  have HK := Lib.hid hk
  have HI := Lib.hid ih
  obtain ⟨i0, hi0, hz0, hz1, hz2⟩ := info_parts tree_info
  have HI0 := Lib.hid hi0
  have HZ0 := Lib.hid hz0
  have HZ1 := Lib.hid hz1
  have HZ2 := Lib.hid hz2
  clear hi0 hz0 hz1 hz2 hk ih
  subst hm
  subst hm2
  have hrd : rdr t = true := by
    unfold rdr
    cases hb : (t.kind == 1) with
    | true => rfl
    | false => rw [hb] at e1; rw [e6 e1.symm]; rfl
  have hmv : mvT x y t = .mk t.kind t.num (mvC t.c1 t.r1 x y) (mvR t.c1 t.r1 x y) (mvC t.c2 t.r2 x y) (mvR t.c2 t.r2 x y) t.word (mvL x y t.kids) := by rw [← mv8_is]; unfold mv8; rw [if_pos hrd, if_pos (by rw [m1, m2]; rfl)]
  have HTV := Lib.hid hmv
  clear hmv
  have H1 := Lib.hid (fun w => rmove_any t.c1 t.r1 x y w)
  have H2 := Lib.hid (fun w => rmove_any t.c2 t.r2 x y w)
  rw [m1] at H1
  rw [m2] at H2
  clear m1 m2 hrd
  generalize mvC t.c1 t.r1 x y = u1 at *
  generalize mvR t.c1 t.r1 x y = u2 at *
  generalize mvC t.c2 t.r2 x y = u3 at *
  generalize mvR t.c2 t.r2 x y = u4 at *
  cases b1
  all_goals
    first | have k6 := e6 rfl | have k6 := e1
    clear e6
    go_enter Tryd.func27, Tryd.ntmps27
    go_wp2_with fail
    refine (H1.out _).mono ?_; rintro e w1 ⟨rfl, q1⟩
    have t7 : w1.cell? ⟨w.heap.size, 7, none⟩ = some (.slice A t.kids.length ca) := keep_cell q1 (by simp [go_sem])
    have t4 : w1.cell? ⟨w.heap.size, 4, none⟩ = some (.int .i64 t.c2) := keep_cell q1 (by simp [go_sem])
    have t5 : w1.cell? ⟨w.heap.size, 5, none⟩ = some (.int .i64 t.r2) := keep_cell q1 (by simp [go_sem])
    have p0 : w1.cell? ⟨w.heap.size + 1, 0, none⟩ = some (.int .i64 x) := keep_cell q1 (by simp [go_sem])
    have p1 : w1.cell? ⟨w.heap.size + 1, 1, none⟩ = some (.int .i64 y) := keep_cell q1 (by simp [go_sem])
    have r0 : w1.cell? ⟨w.heap.size + 1 + 1, 0, none⟩ = some (.int .i64 0) := keep_cell q1 (by simp [go_sem])
    have r1 : w1.cell? ⟨w.heap.size + 1 + 1, 1, none⟩ = some (.int .i64 0) := keep_cell q1 (by simp [go_sem])
    have r2 : w1.cell? ⟨w.heap.size + 1 + 1, 2, none⟩ = some (.int .i64 0) := keep_cell q1 (by simp [go_sem])
    have r3 : w1.cell? ⟨w.heap.size + 1 + 1, 3, none⟩ = some (.int .i64 0) := keep_cell q1 (by simp [go_sem])
    have r4 : w1.cell? ⟨w.heap.size + 1 + 1, 4, none⟩ = some (.int .i64 0) := keep_cell q1 (by simp [go_sem])
    have r5 : w1.cell? ⟨w.heap.size + 1 + 1, 5, none⟩ = some (.int .i64 0) := keep_cell q1 (by simp [go_sem])
    have r6 : w1.cell? ⟨w.heap.size + 1 + 1, 6, none⟩ = some (.string ⟨#[]⟩) := keep_cell q1 (by simp [go_sem])
    have r7 : w1.cell? ⟨w.heap.size + 1 + 1, 7, none⟩ = some (.slice none 0 0) := keep_cell q1 (by simp [go_sem])
    have o0 : w1.cell? ⟨w.heap.size + 1 + 1 + 1, 0, none⟩ = some (.int .i64 t.kind) := keep_cell q1 (by simp [go_sem])
    have o1 : w1.cell? ⟨w.heap.size + 1 + 1 + 1, 1, none⟩ = some (.int .i64 t.num) := keep_cell q1 (by simp [go_sem])
    have o2 : w1.cell? ⟨w.heap.size + 1 + 1 + 1, 2, none⟩ = some (.int .i64 t.c1) := keep_cell q1 (by simp [go_sem])
    have o3 : w1.cell? ⟨w.heap.size + 1 + 1 + 1, 3, none⟩ = some (.int .i64 t.r1) := keep_cell q1 (by simp [go_sem])
    have o4 : w1.cell? ⟨w.heap.size + 1 + 1 + 1, 4, none⟩ = some (.int .i64 t.c2) := keep_cell q1 (by simp [go_sem])
    have o5 : w1.cell? ⟨w.heap.size + 1 + 1 + 1, 5, none⟩ = some (.int .i64 t.r2) := keep_cell q1 (by simp [go_sem])
    have o6 : w1.cell? ⟨w.heap.size + 1 + 1 + 1, 6, none⟩ = some (.string ⟨t.word.toArray⟩) := keep_cell q1 (by simp [go_sem])
    have o7 : w1.cell? ⟨w.heap.size + 1 + 1 + 1, 7, none⟩ = some (.slice none 0 0) := keep_cell q1 (by simp [go_sem])
    have f0 : w1.frozen? ⟨w.heap.size + 1 + 1, 0, none⟩ = false := keep_frozen q1 (by simp) (by simp [go_sem])
    have f1 : w1.frozen? ⟨w.heap.size + 1 + 1, 1, none⟩ = false := keep_frozen q1 (by simp) (by simp [go_sem])
    have f2 : w1.frozen? ⟨w.heap.size + 1 + 1, 2, none⟩ = false := keep_frozen q1 (by simp) (by simp [go_sem])
    have f3 : w1.frozen? ⟨w.heap.size + 1 + 1, 3, none⟩ = false := keep_frozen q1 (by simp) (by simp [go_sem])
    have f4 : w1.frozen? ⟨w.heap.size + 1 + 1, 4, none⟩ = false := keep_frozen q1 (by simp) (by simp [go_sem])
    have f5 : w1.frozen? ⟨w.heap.size + 1 + 1, 5, none⟩ = false := keep_frozen q1 (by simp) (by simp [go_sem])
    have f6 : w1.frozen? ⟨w.heap.size + 1 + 1, 6, none⟩ = false := keep_frozen q1 (by simp) (by simp [go_sem])
    have f7 : w1.frozen? ⟨w.heap.size + 1 + 1, 7, none⟩ = false := keep_frozen q1 (by simp) (by simp [go_sem])
    have g0 : w1.frozen? ⟨w.heap.size + 1 + 1 + 1, 0, none⟩ = false := keep_frozen q1 (by simp) (by simp [go_sem])
    have g1 : w1.frozen? ⟨w.heap.size + 1 + 1 + 1, 1, none⟩ = false := keep_frozen q1 (by simp) (by simp [go_sem])
    have g2 : w1.frozen? ⟨w.heap.size + 1 + 1 + 1, 2, none⟩ = false := keep_frozen q1 (by simp) (by simp [go_sem])
    have g3 : w1.frozen? ⟨w.heap.size + 1 + 1 + 1, 3, none⟩ = false := keep_frozen q1 (by simp) (by simp [go_sem])
    have g4 : w1.frozen? ⟨w.heap.size + 1 + 1 + 1, 4, none⟩ = false := keep_frozen q1 (by simp) (by simp [go_sem])
    have g5 : w1.frozen? ⟨w.heap.size + 1 + 1 + 1, 5, none⟩ = false := keep_frozen q1 (by simp) (by simp [go_sem])
    have g6 : w1.frozen? ⟨w.heap.size + 1 + 1 + 1, 6, none⟩ = false := keep_frozen q1 (by simp) (by simp [go_sem])
    have g7 : w1.frozen? ⟨w.heap.size + 1 + 1 + 1, 7, none⟩ = false := keep_frozen q1 (by simp) (by simp [go_sem])
    have h1 : Below w.heap.size w w1 := (((((Below.refl _ _).alloc (Nat.le_refl _) _).alloc (by simp) _).alloc (by simp; omega) _).alloc (by simp; omega) _).trans (q1.mono (by simp; omega))
    have z1 : w.heap.size + 1 + 1 + 1 < w1.heap.size := by have := q1.size; simp at this; omega
    have za : w.heap.size < w1.heap.size := by omega
    have zb : w.heap.size + 1 < w1.heap.size := by omega
    have zc : w.heap.size + 1 + 1 < w1.heap.size := by omega
    clear q1
    go_wp2_with fail
    refine (H2.out _).mono ?_; rintro e w2 ⟨rfl, q2⟩
    have n0 := q2.size
    rw [World.size_alloc] at n0
    have s0 := keep_fresh q2 0 (v := .int .i64 u1) rfl
    have s1 := keep_fresh q2 1 (v := .int .i64 u2) rfl
    replace t7 := keep_cell q2 (kc_alloc t7 _)
    replace p0 := keep_cell q2 (kc_alloc p0 _)
    replace p1 := keep_cell q2 (kc_alloc p1 _)
    replace r0 := keep_cell q2 (kc_alloc r0 _)
    replace r1 := keep_cell q2 (kc_alloc r1 _)
    replace r2 := keep_cell q2 (kc_alloc r2 _)
    replace r3 := keep_cell q2 (kc_alloc r3 _)
    replace r4 := keep_cell q2 (kc_alloc r4 _)
    replace r5 := keep_cell q2 (kc_alloc r5 _)
    replace r6 := keep_cell q2 (kc_alloc r6 _)
    replace r7 := keep_cell q2 (kc_alloc r7 _)
    replace o0 := keep_cell q2 (kc_alloc o0 _)
    replace o1 := keep_cell q2 (kc_alloc o1 _)
    replace o2 := keep_cell q2 (kc_alloc o2 _)
    replace o3 := keep_cell q2 (kc_alloc o3 _)
    replace o4 := keep_cell q2 (kc_alloc o4 _)
    replace o5 := keep_cell q2 (kc_alloc o5 _)
    replace o6 := keep_cell q2 (kc_alloc o6 _)
    replace o7 := keep_cell q2 (kc_alloc o7 _)
    replace f0 := keep_frozen q2 (by simp; omega) (kf_alloc f0 zc _)
    replace f1 := keep_frozen q2 (by simp; omega) (kf_alloc f1 zc _)
    replace f2 := keep_frozen q2 (by simp; omega) (kf_alloc f2 zc _)
    replace f3 := keep_frozen q2 (by simp; omega) (kf_alloc f3 zc _)
    replace f4 := keep_frozen q2 (by simp; omega) (kf_alloc f4 zc _)
    replace f5 := keep_frozen q2 (by simp; omega) (kf_alloc f5 zc _)
    replace f6 := keep_frozen q2 (by simp; omega) (kf_alloc f6 zc _)
    replace f7 := keep_frozen q2 (by simp; omega) (kf_alloc f7 zc _)
    replace g0 := keep_frozen q2 (by simp; omega) (kf_alloc g0 z1 _)
    replace g1 := keep_frozen q2 (by simp; omega) (kf_alloc g1 z1 _)
    replace g2 := keep_frozen q2 (by simp; omega) (kf_alloc g2 z1 _)
    replace g3 := keep_frozen q2 (by simp; omega) (kf_alloc g3 z1 _)
    replace g4 := keep_frozen q2 (by simp; omega) (kf_alloc g4 z1 _)
    replace g5 := keep_frozen q2 (by simp; omega) (kf_alloc g5 z1 _)
    replace g6 := keep_frozen q2 (by simp; omega) (kf_alloc g6 z1 _)
    replace g7 := keep_frozen q2 (by simp; omega) (kf_alloc g7 z1 _)
    have h2 : Below w.heap.size w w2 := (h1.alloc (by omega) _).trans (q2.mono (by simp; omega))
    have z2 : w.heap.size + 1 + 1 + 1 < w2.heap.size := by omega
    have zd : w.heap.size < w2.heap.size := by omega
    have ze : w.heap.size + 1 < w2.heap.size := by omega
    have zf : w.heap.size + 1 + 1 < w2.heap.size := by omega
    have zg : w1.heap.size < w2.heap.size := by omega
    clear q2 h1 za zb zc t4 t5
    go_wp2_with fail
    obtain ⟨wk, hwk⟩ : ∃ wk, (((((w2.setCell ⟨w.heap.size + 1 + 1 + 1, 2, none⟩ (.int .i64 u1)).setCell ⟨w.heap.size + 1 + 1 + 1, 3, none⟩ (.int .i64 u2)).setCell ⟨w.heap.size + 1 + 1 + 1, 4, none⟩ (.int .i64 u3)).setCell ⟨w.heap.size + 1 + 1 + 1, 5, none⟩ (.int .i64 u4)).alloc (.cells #[.int .i64 u3, .int .i64 u4] 24)) = wk := ⟨_, rfl⟩
    have nR : w.heap.size + 1 + 1 + 1 ≠ w.heap.size + 1 + 1 := by omega
    have nB : w.heap.size + 1 + 1 + 1 ≠ w.heap.size + 1 := by omega
    have nH : w.heap.size + 1 + 1 + 1 ≠ w.heap.size := by omega
    have hT : wk.cell? ⟨w.heap.size, 7, none⟩ = some (.slice A t.kids.length ca) := by
      rw [← hwk]
      exact kc_alloc (kc_set (kc_set (kc_set (kc_set t7 nH _ _) nH _ _) nH _ _) nH _ _) _
    have hP : wk.cell? ⟨w.heap.size + 1, 0, none⟩ = some (.int .i64 x) ∧ wk.cell? ⟨w.heap.size + 1, 1, none⟩ = some (.int .i64 y) := by
      rw [← hwk]
      refine ⟨?_, ?_⟩ <;> refine kc_alloc (kc_set (kc_set (kc_set (kc_set ?_ nB _ _) nB _ _) nB _ _) nB _ _) _ <;> assumption
    have hR : C8 wk (w.heap.size + 1 + 1) (.int .i64 0) (.int .i64 0) (.int .i64 0) (.int .i64 0) (.int .i64 0) (.int .i64 0) (.string ⟨#[]⟩) (.slice none 0 0) := by
      rw [← hwk]
      refine ⟨?_, ?_, ?_, ?_, ?_, ?_, ?_, ?_⟩ <;> refine kc_alloc (kc_set (kc_set (kc_set (kc_set ?_ nR _ _) nR _ _) nR _ _) nR _ _) _ <;> assumption
    have hF : F8 wk (w.heap.size + 1 + 1) := by
      rw [← hwk]
      refine ⟨?_, ?_, ?_, ?_, ?_, ?_, ?_, ?_⟩ <;> refine kf_alloc (kf_set (kf_set (kf_set (kf_set ?_ nR _ _) nR _ _) nR _ _) nR _ _) (by simp <;> omega) _ <;> assumption
    have hO : C8 wk (w.heap.size + 1 + 1 + 1) (.int .i64 t.kind) (.int .i64 t.num) (.int .i64 u1) (.int .i64 u2) (.int .i64 u3) (.int .i64 u4) (.string ⟨t.word.toArray⟩) (.slice none 0 0) := by
      rw [← hwk]
      refine ⟨?_, ?_, ?_, ?_, ?_, ?_, ?_, ?_⟩ <;> refine kc_alloc ?_ _ <;> simp [go_sem, o0, o1, o2, o3, o4, o5, o6, o7]
    have hO7 : wk.frozen? ⟨w.heap.size + 1 + 1 + 1, 7, none⟩ = false := by
      rw [← hwk]
      refine kf_alloc ?_ (by simp <;> omega) _
      simp [go_sem, g7]
    have hB : Below w.heap.size w wk := by
      rw [← hwk]
      repeat' (first | with_reducible exact h2 | with_reducible refine Below.alloc ?_ (by first | omega | (simp <;> omega)) _ | with_reducible refine Below.setCell ?_ (by first | omega | (simp <;> omega)) _)
    have zk : w.heap.size + 1 + 1 + 1 < wk.heap.size := by rw [← hwk]; simp <;> omega
    rw [hwk]
    have HT := Lib.hid hT
    have HP := Lib.hid hP
    have HR := Lib.hid hR
    have HF := Lib.hid hF
    have HO := Lib.hid (And.intro hO hO7)
    have HB := Lib.hid hB
    clear hT hP hR hF hO hO7 hB hwk nR nB nH h2 z2 zd ze zf zg z1 n0 s0 s1 t7 p0 p1 r0 r1 r2 r3 r4 r5 r6 r7 o0 o1 o2 o3 o4 o5 o6 o7 f0 f1 f2 f3 f4 f5 f6 f7 g0 g1 g2 g3 g4 g5 g6 g7 H1 H2
    go_loopw [10] (fun n wr => ∃ (i : Nat) (xs : List (V8 × Tr)) (v : Value), i ≤ t.kids.length ∧ xs.length = i ∧ n = .int .i64 (i : Int) ∧ Hid (xs.map Prod.snd = mvL x y (t.kids.take i)) ∧ Hid (Row wk.heap.size wr v xs) ∧ Hid (C8 wr (w.heap.size + 1 + 1 + 1) (.int .i64 (t.kind)) (.int .i64 (t.num)) (.int .i64 (u1)) (.int .i64 (u2)) (.int .i64 (u3)) (.int .i64 (u4)) (.string ⟨t.word.toArray⟩) v ∧ wr.frozen? ⟨w.heap.size + 1 + 1 + 1, 7, none⟩ = false) ∧ But (w.heap.size + 1 + 1 + 1) wk wr) (fun n _ => t.kids.length - (intOf n).toNat)
    case atStart => exact ⟨0, [], .slice none 0 0, Nat.zero_le _, rfl, rfl, Lib.hid (by rw [List.take_zero, mvL]; rfl), Lib.hid ⟨World.ownsRow_nil _ _ _ _, fun i x t h => by simp at h⟩, HO, But.refl _ _⟩
    case round =>
      obtain ⟨i, xs, rv, hi, hxl, rfl, HX, HW, HOut, hbk⟩ := hrel
      have hsz := hbk.size
      have zO : w.heap.size + 1 + 1 + 1 < wr.heap.size := by omega
      have zH : w.heap.size < wr.heap.size := by omega
      have zB : w.heap.size + 1 < wr.heap.size := by omega
      have hbel : Below w.heap.size w wr := HB.out.trans (hbk.below (by omega) (by omega))
      have t7 : wr.cell? ⟨w.heap.size, 7, none⟩ = some (.slice A t.kids.length ca) := hbk.cell (p := ⟨w.heap.size, 7, none⟩) (by show w.heap.size ≠ _; omega) HT.out
      by_cases hlt : i < t.kids.length
      · have hu : t.kids[i]? = some (t.kids[i]'hlt) := List.getElem?_eq_getElem hlt
        obtain ⟨g, o, rfl⟩ := HK.out.addr hu
        obtain ⟨hg, A', cap', h8, hkv⟩ := HK.out.kidAt hbel hu
        obtain ⟨_, _, h8w, _⟩ := HK.out.kidAt HB.out hu |>.2
        have HM := Lib.hid (mvL_take (x := x) (y := y) hu)
        have HC := Lib.hid (HI.out _ (List.getElem_mem hlt) wr.drew _ A' cap' (hkv.kept (Kept.of_below (Below.refl _ wr).drew)))
        generalize t.kids[i]'hlt = u at *
        have p0 : wr.cell? ⟨w.heap.size + 1, 0, none⟩ = some (.int .i64 x) := hbk.cell (p := ⟨w.heap.size + 1, 0, none⟩) (by show w.heap.size + 1 ≠ _; omega) HP.out.1
        have p1 : wr.cell? ⟨w.heap.size + 1, 1, none⟩ = some (.int .i64 y) := hbk.cell (p := ⟨w.heap.size + 1, 1, none⟩) (by show w.heap.size + 1 ≠ _; omega) HP.out.2
        obtain ⟨q0, q1, q2, q3, q4, q5, q6, q7⟩ := h8
        have HS : Hid (∀ w', But (w.heap.size + 1 + 1 + 1) wk w' → w'.cell? ⟨g, o + i * 8, none⟩ = some (.int .i64 u.kind) ∧ w'.cell? ⟨g, o + i * 8 + 1, none⟩ = some (.int .i64 u.num) ∧ w'.cell? ⟨g, o + i * 8 + 2, none⟩ = some (.int .i64 u.c1) ∧ w'.cell? ⟨g, o + i * 8 + 3, none⟩ = some (.int .i64 u.r1) ∧ w'.cell? ⟨g, o + i * 8 + 4, none⟩ = some (.int .i64 u.c2) ∧ w'.cell? ⟨g, o + i * 8 + 5, none⟩ = some (.int .i64 u.r2) ∧ w'.cell? ⟨g, o + i * 8 + 6, none⟩ = some (.string ⟨u.word.toArray⟩) ∧ w'.cell? ⟨g, o + i * 8 + 7, none⟩ = some ((.slice A' u.kids.length cap')) ∧ w'.cell? ⟨w.heap.size, 7, none⟩ = some (.slice (some ⟨g, o, none⟩) t.kids.length ca) ∧ w'.cell? ⟨w.heap.size + 1, 0, none⟩ = some (.int .i64 x) ∧ w'.cell? ⟨w.heap.size + 1, 1, none⟩ = some (.int .i64 y)) := Lib.hid fun w' hw => by
          have hc : ∀ {b j : Nat} {v : Value}, wr.cell? ⟨b, j, none⟩ = some v → b < wk.heap.size → b ≠ w.heap.size + 1 + 1 + 1 → w'.cell? ⟨b, j, none⟩ = some v := fun {b j v} hv hl hn =>
            (World.cell?_of_block (w := wk) (a := ⟨b, j, none⟩) (hw.block b hl hn)).trans ((World.cell?_of_block (w := wk) (a := ⟨b, j, none⟩) (hbk.block b hl hn)).symm.trans hv)
          have ng : g ≠ w.heap.size + 1 + 1 + 1 := by omega
          have nH : w.heap.size ≠ w.heap.size + 1 + 1 + 1 := by omega
          have nB : w.heap.size + 1 ≠ w.heap.size + 1 + 1 + 1 := by omega
          have lg : g < wk.heap.size := by omega
          have lH : w.heap.size < wk.heap.size := by omega
          have lB : w.heap.size + 1 < wk.heap.size := by omega
          exact ⟨hc q0 lg ng, hc q1 lg ng, hc q2 lg ng, hc q3 lg ng, hc q4 lg ng, hc q5 lg ng, hc q6 lg ng, hc q7 lg ng, hc t7 lH nH, hc p0 lB nB, hc p1 lB nB⟩
        have hgw : g < wr.heap.size := by omega
        have o7 := HOut.out.1.2.2.2.2.2.2.2
        clear hkv hu h8w
        go_wp2_with fail
        refine wp_region_held_drew (S := fun w' => w'.cell? ⟨g, o + i * 8, none⟩ = some (.int .i64 u.kind) ∧ w'.cell? ⟨g, o + i * 8 + 1, none⟩ = some (.int .i64 u.num) ∧ w'.cell? ⟨g, o + i * 8 + 2, none⟩ = some (.int .i64 u.c1) ∧ w'.cell? ⟨g, o + i * 8 + 3, none⟩ = some (.int .i64 u.r1) ∧ w'.cell? ⟨g, o + i * 8 + 4, none⟩ = some (.int .i64 u.c2) ∧ w'.cell? ⟨g, o + i * 8 + 5, none⟩ = some (.int .i64 u.r2) ∧ w'.cell? ⟨g, o + i * 8 + 6, none⟩ = some (.string ⟨u.word.toArray⟩) ∧ w'.cell? ⟨g, o + i * 8 + 7, none⟩ = some ((.slice A' u.kids.length cap')) ∧ w'.cell? ⟨w.heap.size, 7, none⟩ = some (.slice (some ⟨g, o, none⟩) t.kids.length ca) ∧ w'.cell? ⟨w.heap.size + 1, 0, none⟩ = some (.int .i64 x) ∧ w'.cell? ⟨w.heap.size + 1, 1, none⟩ = some (.int .i64 y)) (by kernel_rfl) ?_ (fun hHeld => ?_)
        · try dsimp only
          (with_reducible exact HS.out _ (by repeat' (first | with_reducible exact hbk | with_reducible exact h4 | with_reducible exact h5 | with_reducible refine zBa ?_ _ | with_reducible refine zBr ?_ _ _ | with_reducible refine zBd ?_)))
        refine wpAnyH_take (i := 0) (oi := ⟨some 62, .fieldAddr 29 (.tmp 5) 4, 0, "ref.go:57", #[], none⟩) (v := ?_) rfl (by kernel_rfl) (by kernel_rfl) (by kernel_rfl) (fun _ _ _ h => h) (Or.inl ⟨by rfl, ?_⟩) (by assumption) ?_
        rotate_left
        · (intro w hSw; (try dsimp only at hSw); go_simp)
          try with_reducible rfl
        try simp only [Act.put, List.setIfInBounds_toArray, List.set_cons_zero, List.set_cons_succ]
        refine wpAnyH_take (i := 2) (oi := ⟨some 64, .fieldAddr 29 (.tmp 2) 4, 0, "ref.go:57", #[], none⟩) (v := ?_) rfl (by kernel_rfl) (by kernel_rfl) (by kernel_rfl) (fun _ _ _ h => h) (Or.inl ⟨by rfl, ?_⟩) (by assumption) ?_
        rotate_left
        · (intro w hSw; (try dsimp only at hSw); go_simp)
          try with_reducible rfl
        try simp only [Act.put, List.setIfInBounds_toArray, List.set_cons_zero, List.set_cons_succ]
        refine wpAnyH_take (i := 3) (oi := ⟨some 65, .load 27 (.tmp 64), 27, "ref.go:57", #[⟨2, .data⟩], none⟩) (v := ?_) rfl (by kernel_rfl) (by kernel_rfl) (by kernel_rfl) (fun _ _ _ h => h) (Or.inl ⟨by rfl, ?_⟩) (by assumption) ?_
        rotate_left
        · (intro w hSw; (try dsimp only at hSw); go_simp)
          try with_reducible rfl
        try simp only [Act.put, List.setIfInBounds_toArray, List.set_cons_zero, List.set_cons_succ]
        refine wpAnyH_take (i := 4) (oi := ⟨some 66, .move (.tmp 10), 3, "ref.go:57", #[], none⟩) (v := ?_) rfl (by kernel_rfl) (by kernel_rfl) (by kernel_rfl) (fun _ _ _ h => h) (Or.inl ⟨by rfl, ?_⟩) (by assumption) ?_
        rotate_left
        · (intro w hSw; (try dsimp only at hSw); go_simp)
          try with_reducible rfl
        try simp only [Act.put, List.setIfInBounds_toArray, List.set_cons_zero, List.set_cons_succ]
        refine wpAnyH_take (i := 5) (oi := ⟨some 67, .indexAddr 27 (.tmp 65) (.tmp 66), 0, "ref.go:57", #[⟨3, .data⟩, ⟨4, .data⟩], none⟩) (v := ?_) rfl (by kernel_rfl) (by kernel_rfl) (by kernel_rfl) (fun _ _ _ h => h) (Or.inl ⟨by rfl, ?_⟩) (by assumption) ?_
        rotate_left
        · (intro w hSw; (try dsimp only at hSw); go_simp)
          try with_reducible rfl
        try simp only [Act.put, List.setIfInBounds_toArray, List.set_cons_zero, List.set_cons_succ]
        refine wpAnyH_take (i := 6) (oi := ⟨some 68, .load 29 (.tmp 67), 29, "ref.go:57", #[⟨5, .data⟩], none⟩) (v := ?_) rfl (by kernel_rfl) (by kernel_rfl) (by kernel_rfl) (fun _ _ _ h => h) (Or.inl ⟨by rfl, ?_⟩) (by assumption) ?_
        rotate_left
        · (intro w hSw; (try dsimp only at hSw); go_simp)
          try with_reducible rfl
        try simp only [Act.put, List.setIfInBounds_toArray, List.set_cons_zero, List.set_cons_succ]
        refine wpAnyH_take (i := 7) (oi := ⟨some 69, .load 24 (.tmp 3), 24, "ref.go:57", #[], none⟩) (v := ?_) rfl (by kernel_rfl) (by kernel_rfl) (by kernel_rfl) (fun _ _ _ h => h) (Or.inl ⟨by rfl, ?_⟩) (by assumption) ?_
        rotate_left
        · (intro w hSw; (try dsimp only at hSw); go_simp)
          try with_reducible rfl
        try simp only [Act.put, List.setIfInBounds_toArray, List.set_cons_zero, List.set_cons_succ]
        refine wpAnyH_ready (rs := [1, 8]) (by kernel_rfl) (by simp) ?_
        refine AllReadyH.cons (o := ⟨some 63, .load 27 (.tmp 62), 27, "ref.go:57", #[⟨0, .data⟩], none⟩) rfl (fun K hK => ?_) ?_
        go_simp
        refine hK.out _ _ ?_ (fun hHeld => ?_)
        · try dsimp only
          (with_reducible exact HS.out _ (by repeat' (first | with_reducible exact hbk | with_reducible exact h4 | with_reducible exact h5 | with_reducible refine zBa ?_ _ | with_reducible refine zBr ?_ _ _ | with_reducible refine zBd ?_)))
        clear hK K
        try simp only [Act.put, List.setIfInBounds_toArray, List.set_cons_zero, List.set_cons_succ]
        refine wpAnyH_ready (rs := [8]) (by kernel_rfl) (by simp) ?_
        refine AllReadyH.cons (o := ⟨some 70, .call { callee := .value (.func 27), args := #[.tmp 68, .tmp 69], argTypes := #[29, 24] }, 29, "ref.go:57", #[⟨6, .data⟩, ⟨7, .data⟩], none⟩) rfl (fun K hK => ?_) AllReadyH.nil
        go_simp
        (go_at_call 27; refine Calls.mono HC.out ?_; rintro e w4 ⟨⟨d0, d1, d2, d3, d4, d5, dw, dA, dl, dc⟩, rfl, v4, b4⟩
         have b4' : Below wr.heap.size wr w4 := (Below.refl _ wr).drew.trans b4
         have h4 : But (w.heap.size + 1 + 1 + 1) wk w4 := hbk.trans (But.of_below b4')
         have hs4 : wr.heap.size ≤ w4.heap.size := b4'.size
         have HW4 := Lib.hid (HW.out.but (But.of_below (R := w.heap.size + 1 + 1 + 1) b4') (by omega))
         have hlt5 : ∀ k, rv.ownBlock = some k → k < wr.heap.size := fun k hk => (HW.out.own.lt k hk).2
         have HVV : Hid (TV w4 (fun b => wk.heap.size ≤ b ∧ some b ≠ rv.ownBlock) ⟨d0, d1, d2, d3, d4, d5, dw, dA, dl, dc⟩ (some (mvT x y u))) := Lib.hid (v4.imp fun b hb => ⟨by have hb2 : wr.heap.size ≤ b := hb; omega, fun e => by have := hlt5 b e.symm; have hb2 : wr.heap.size ≤ b := hb; omega⟩)
         have HO4 : Hid (C8 w4 (w.heap.size + 1 + 1 + 1) (.int .i64 (t.kind)) (.int .i64 (t.num)) (.int .i64 (u1)) (.int .i64 (u2)) (.int .i64 (u3)) (.int .i64 (u4)) (.string ⟨t.word.toArray⟩) rv ∧ w4.frozen? ⟨w.heap.size + 1 + 1 + 1, 7, none⟩ = false) := Lib.hid ⟨c8_world HOut.out.1 (b4'.block _ zO), keep_frozen b4' zO HOut.out.2⟩
         have e7 := HO4.out.1.2.2.2.2.2.2.2
         have HWA : ∀ ob, Hid (Row wk.heap.size (w4.alloc ob) rv xs) := fun ob => Lib.hid (HW4.out.but (But.of_below (R := w.heap.size + 1 + 1 + 1) ((Below.refl _ _).alloc (Nat.le_refl _) ob)) (by omega))
         have zO4 : w.heap.size + 1 + 1 + 1 < w4.heap.size := by omega
         have zk4 : wk.heap.size ≤ w4.heap.size := by omega
         clear v4 b4 b4' hlt5
         dsimp only [V8.val])
        go_wp2_with fail
        refine hK.out _ _ ?_ (fun hHeld => ?_)
        · try dsimp only
          (with_reducible exact HS.out _ (by repeat' (first | with_reducible exact hbk | with_reducible exact h4 | with_reducible exact h5 | with_reducible refine zBa ?_ _ | with_reducible refine zBr ?_ _ _ | with_reducible refine zBd ?_)))
        clear hK K
        try simp only [Act.put, List.setIfInBounds_toArray, List.set_cons_zero, List.set_cons_succ]
        refine wpAnyH_ready (rs := [9]) (by kernel_rfl) (by simp) ?_
        refine AllReadyH.cons (o := ⟨some 71, .buildSlice 27 1 #[(0, .tmp 70)], 27, "ref.go:57", #[⟨8, .data⟩], none⟩) rfl (fun K hK => ?_) AllReadyH.nil
        go_simp
        refine hK.out _ _ ?_ (fun hHeld => ?_)
        · try dsimp only
          (with_reducible exact HS.out _ (by repeat' (first | with_reducible exact hbk | with_reducible exact h4 | with_reducible exact h5 | with_reducible refine zBa ?_ _ | with_reducible refine zBr ?_ _ _ | with_reducible refine zBd ?_)))
        clear hK K
        try simp only [Act.put, List.setIfInBounds_toArray, List.set_cons_zero, List.set_cons_succ]
        refine wpAnyH_ready (rs := [10]) (by kernel_rfl) (by simp) ?_
        refine AllReadyH.cons (o := ⟨some 72, .call { callee := .builtin .append, args := #[.tmp 63, .tmp 71], argTypes := #[27, 27] }, 27, "ref.go:57", #[⟨1, .data⟩, ⟨9, .data⟩, ⟨8, .chain⟩], none⟩) rfl (fun K hK => ?_) AllReadyH.nil
        (refine step_append_lies _ (by rfl) _ _ _ (by rfl) wk.heap.size 29 i0 _ 8 88 Tryd.underlying27 HI0.out HZ0.out HZ1.out HZ2.out rfl (by omega) rv xs.length (rowC xs) (by rfl) (HWA _).out.own
            ⟨w4.heap.size, 0, none⟩ 1 1 (cells8 ⟨d0, d1, d2, d3, d4, d5, dw, dA, dl, dc⟩) (by rfl) (by rfl) (World.news_of_block (cs := #[.int .i64 d0, .int .i64 d1, .int .i64 d2, .int .i64 d3, .int .i64 d4, .int .i64 d5, .string dw, .slice dA dl dc]) (t := 29) (fr := (0, 0)) (heap_alloc_new w4 _)) (by simp [cells8, Value.oneCell'])
            (by omega) (by unfold maxLen; omega) (by omega) (by simp <;> omega) (w4.heap.size + 1) (by simp) ?_; intro gg cap w5 hown5 hg5 hat5 hlt5
         have HW5 := Lib.hid ((HWA _).out.push (HVV.out.kept (Kept.of_below ((Below.refl _ _).alloc (Nat.le_refl _) _))) hown5 hg5 (by rcases hat5 with h | h; exact .inl h.symm; exact .inr (by rw [h]; simp [Value.ownBlock])))
         have hr5 : ∀ k, rv.ownBlock = some k → wk.heap.size ≤ k := fun k hk => (HW4.out.own.lt k hk).1
         have h5 : But (w.heap.size + 1 + 1 + 1) wk w5 := (zBa h4 _).grown hg5 hr5
         have HO5 : Hid (C8 w5 (w.heap.size + 1 + 1 + 1) (.int .i64 (t.kind)) (.int .i64 (t.num)) (.int .i64 (u1)) (.int .i64 (u2)) (.int .i64 (u3)) (.int .i64 (u4)) (.string ⟨t.word.toArray⟩) rv ∧ w5.frozen? ⟨w.heap.size + 1 + 1 + 1, 7, none⟩ = false) := Lib.hid (by
           have hb : w5.heap[w.heap.size + 1 + 1 + 1]? = w4.heap[w.heap.size + 1 + 1 + 1]? := by rw [hg5.block (w.heap.size + 1 + 1 + 1) (by simp; omega) (fun e => by have := hr5 _ e.symm; omega), Below.heap_alloc w4 _ _ zO4]
           exact ⟨c8_world HO4.out.1 hb, by rw [World.frozen?_of_block (w := w4) (a := ⟨w.heap.size + 1 + 1 + 1, 7, none⟩) hb]; exact HO4.out.2⟩)
         have o57 := HO5.out.1.2.2.2.2.2.2.2
         have f57 := HO5.out.2
         clear hown5 hat5)
        refine hK.out _ _ ?_ (fun hHeld => ?_)
        · try dsimp only
          (with_reducible exact HS.out _ (by repeat' (first | with_reducible exact hbk | with_reducible exact h4 | with_reducible exact h5 | with_reducible refine zBa ?_ _ | with_reducible refine zBr ?_ _ _ | with_reducible refine zBd ?_)))
        clear hK K
        try simp only [Act.put, List.setIfInBounds_toArray, List.set_cons_zero, List.set_cons_succ]
        refine wpAnyH_take (i := 11) (oi := ⟨some 73, .fieldAddr 29 (.tmp 5) 4, 0, "ref.go:57", #[⟨0, .phase⟩, ⟨1, .phase⟩, ⟨2, .phase⟩, ⟨3, .phase⟩, ⟨4, .phase⟩, ⟨5, .phase⟩, ⟨6, .phase⟩, ⟨7, .phase⟩, ⟨8, .phase⟩, ⟨9, .phase⟩, ⟨10, .phase⟩], none⟩) (v := ?_) rfl (by kernel_rfl) (by kernel_rfl) (by kernel_rfl) (fun _ _ _ h => h) (Or.inl ⟨by rfl, ?_⟩) (by assumption) ?_
        rotate_left
        · (intro w hSw; (try dsimp only at hSw); go_simp)
          try with_reducible rfl
        try simp only [Act.put, List.setIfInBounds_toArray, List.set_cons_zero, List.set_cons_succ]
        refine wpAnyH_ready (rs := [12]) (by kernel_rfl) (by simp) ?_
        refine AllReadyH.cons (o := ⟨none, .store 27 (.tmp 73) (.tmp 72), 0, "ref.go:57", #[⟨11, .data⟩, ⟨10, .data⟩, ⟨10, .chain⟩, ⟨0, .phase⟩, ⟨1, .phase⟩, ⟨2, .phase⟩, ⟨3, .phase⟩, ⟨4, .phase⟩, ⟨5, .phase⟩, ⟨6, .phase⟩, ⟨7, .phase⟩, ⟨8, .phase⟩, ⟨9, .phase⟩, ⟨10, .phase⟩], none⟩) rfl (fun K hK => ?_) AllReadyH.nil
        go_simp
        refine hK.out _ _ ?_ (fun hHeld => ?_)
        · try dsimp only
          (with_reducible exact HS.out _ (by repeat' (first | with_reducible exact hbk | with_reducible exact h4 | with_reducible exact h5 | with_reducible refine zBa ?_ _ | with_reducible refine zBr ?_ _ _ | with_reducible refine zBd ?_)))
        clear hK K
        try simp only [Act.put, List.setIfInBounds_toArray, List.set_cons_zero, List.set_cons_succ]
        refine wpAnyH_done (by kernel_rfl) ?_ _
        rotate_left
        refine AllReadyH.cons (o := ⟨some 70, .call { callee := .value (.func 27), args := #[.tmp 68, .tmp 69], argTypes := #[29, 24] }, 29, "ref.go:57", #[⟨6, .data⟩, ⟨7, .data⟩], none⟩) rfl (fun K hK => ?_) AllReadyH.nil
        go_simp
        (go_at_call 27; refine Calls.mono HC.out ?_; rintro e w4 ⟨⟨d0, d1, d2, d3, d4, d5, dw, dA, dl, dc⟩, rfl, v4, b4⟩
         have b4' : Below wr.heap.size wr w4 := (Below.refl _ wr).drew.trans b4
         have h4 : But (w.heap.size + 1 + 1 + 1) wk w4 := hbk.trans (But.of_below b4')
         have hs4 : wr.heap.size ≤ w4.heap.size := b4'.size
         have HW4 := Lib.hid (HW.out.but (But.of_below (R := w.heap.size + 1 + 1 + 1) b4') (by omega))
         have hlt5 : ∀ k, rv.ownBlock = some k → k < wr.heap.size := fun k hk => (HW.out.own.lt k hk).2
         have HVV : Hid (TV w4 (fun b => wk.heap.size ≤ b ∧ some b ≠ rv.ownBlock) ⟨d0, d1, d2, d3, d4, d5, dw, dA, dl, dc⟩ (some (mvT x y u))) := Lib.hid (v4.imp fun b hb => ⟨by have hb2 : wr.heap.size ≤ b := hb; omega, fun e => by have := hlt5 b e.symm; have hb2 : wr.heap.size ≤ b := hb; omega⟩)
         have HO4 : Hid (C8 w4 (w.heap.size + 1 + 1 + 1) (.int .i64 (t.kind)) (.int .i64 (t.num)) (.int .i64 (u1)) (.int .i64 (u2)) (.int .i64 (u3)) (.int .i64 (u4)) (.string ⟨t.word.toArray⟩) rv ∧ w4.frozen? ⟨w.heap.size + 1 + 1 + 1, 7, none⟩ = false) := Lib.hid ⟨c8_world HOut.out.1 (b4'.block _ zO), keep_frozen b4' zO HOut.out.2⟩
         have e7 := HO4.out.1.2.2.2.2.2.2.2
         have HWA : ∀ ob, Hid (Row wk.heap.size (w4.alloc ob) rv xs) := fun ob => Lib.hid (HW4.out.but (But.of_below (R := w.heap.size + 1 + 1 + 1) ((Below.refl _ _).alloc (Nat.le_refl _) ob)) (by omega))
         have zO4 : w.heap.size + 1 + 1 + 1 < w4.heap.size := by omega
         have zk4 : wk.heap.size ≤ w4.heap.size := by omega
         clear v4 b4 b4' hlt5
         dsimp only [V8.val])
        go_wp2_with fail
        refine hK.out _ _ ?_ (fun hHeld => ?_)
        · try dsimp only
          (with_reducible exact HS.out _ (by repeat' (first | with_reducible exact hbk | with_reducible exact h4 | with_reducible exact h5 | with_reducible refine zBa ?_ _ | with_reducible refine zBr ?_ _ _ | with_reducible refine zBd ?_)))
        clear hK K
        try simp only [Act.put, List.setIfInBounds_toArray, List.set_cons_zero, List.set_cons_succ]
        refine wpAnyH_ready (rs := [1, 9]) (by kernel_rfl) (by simp) ?_
        refine AllReadyH.cons (o := ⟨some 63, .load 27 (.tmp 62), 27, "ref.go:57", #[⟨0, .data⟩], none⟩) rfl (fun K hK => ?_) ?_
        go_simp
        refine hK.out _ _ ?_ (fun hHeld => ?_)
        · try dsimp only
          (with_reducible exact HS.out _ (by repeat' (first | with_reducible exact hbk | with_reducible exact h4 | with_reducible exact h5 | with_reducible refine zBa ?_ _ | with_reducible refine zBr ?_ _ _ | with_reducible refine zBd ?_)))
        clear hK K
        try simp only [Act.put, List.setIfInBounds_toArray, List.set_cons_zero, List.set_cons_succ]
        refine wpAnyH_ready (rs := [9]) (by kernel_rfl) (by simp) ?_
        refine AllReadyH.cons (o := ⟨some 71, .buildSlice 27 1 #[(0, .tmp 70)], 27, "ref.go:57", #[⟨8, .data⟩], none⟩) rfl (fun K hK => ?_) AllReadyH.nil
        go_simp
        refine hK.out _ _ ?_ (fun hHeld => ?_)
        · try dsimp only
          (with_reducible exact HS.out _ (by repeat' (first | with_reducible exact hbk | with_reducible exact h4 | with_reducible exact h5 | with_reducible refine zBa ?_ _ | with_reducible refine zBr ?_ _ _ | with_reducible refine zBd ?_)))
        clear hK K
        try simp only [Act.put, List.setIfInBounds_toArray, List.set_cons_zero, List.set_cons_succ]
        refine wpAnyH_ready (rs := [10]) (by kernel_rfl) (by simp) ?_
        refine AllReadyH.cons (o := ⟨some 72, .call { callee := .builtin .append, args := #[.tmp 63, .tmp 71], argTypes := #[27, 27] }, 27, "ref.go:57", #[⟨1, .data⟩, ⟨9, .data⟩, ⟨8, .chain⟩], none⟩) rfl (fun K hK => ?_) AllReadyH.nil
        (refine step_append_lies _ (by rfl) _ _ _ (by rfl) wk.heap.size 29 i0 _ 8 88 Tryd.underlying27 HI0.out HZ0.out HZ1.out HZ2.out rfl (by omega) rv xs.length (rowC xs) (by rfl) (HWA _).out.own
            ⟨w4.heap.size, 0, none⟩ 1 1 (cells8 ⟨d0, d1, d2, d3, d4, d5, dw, dA, dl, dc⟩) (by rfl) (by rfl) (World.news_of_block (cs := #[.int .i64 d0, .int .i64 d1, .int .i64 d2, .int .i64 d3, .int .i64 d4, .int .i64 d5, .string dw, .slice dA dl dc]) (t := 29) (fr := (0, 0)) (heap_alloc_new w4 _)) (by simp [cells8, Value.oneCell'])
            (by omega) (by unfold maxLen; omega) (by omega) (by simp <;> omega) (w4.heap.size + 1) (by simp) ?_; intro gg cap w5 hown5 hg5 hat5 hlt5
         have HW5 := Lib.hid ((HWA _).out.push (HVV.out.kept (Kept.of_below ((Below.refl _ _).alloc (Nat.le_refl _) _))) hown5 hg5 (by rcases hat5 with h | h; exact .inl h.symm; exact .inr (by rw [h]; simp [Value.ownBlock])))
         have hr5 : ∀ k, rv.ownBlock = some k → wk.heap.size ≤ k := fun k hk => (HW4.out.own.lt k hk).1
         have h5 : But (w.heap.size + 1 + 1 + 1) wk w5 := (zBa h4 _).grown hg5 hr5
         have HO5 : Hid (C8 w5 (w.heap.size + 1 + 1 + 1) (.int .i64 (t.kind)) (.int .i64 (t.num)) (.int .i64 (u1)) (.int .i64 (u2)) (.int .i64 (u3)) (.int .i64 (u4)) (.string ⟨t.word.toArray⟩) rv ∧ w5.frozen? ⟨w.heap.size + 1 + 1 + 1, 7, none⟩ = false) := Lib.hid (by
           have hb : w5.heap[w.heap.size + 1 + 1 + 1]? = w4.heap[w.heap.size + 1 + 1 + 1]? := by rw [hg5.block (w.heap.size + 1 + 1 + 1) (by simp; omega) (fun e => by have := hr5 _ e.symm; omega), Below.heap_alloc w4 _ _ zO4]
           exact ⟨c8_world HO4.out.1 hb, by rw [World.frozen?_of_block (w := w4) (a := ⟨w.heap.size + 1 + 1 + 1, 7, none⟩) hb]; exact HO4.out.2⟩)
         have o57 := HO5.out.1.2.2.2.2.2.2.2
         have f57 := HO5.out.2
         clear hown5 hat5)
        refine hK.out _ _ ?_ (fun hHeld => ?_)
        · try dsimp only
          (with_reducible exact HS.out _ (by repeat' (first | with_reducible exact hbk | with_reducible exact h4 | with_reducible exact h5 | with_reducible refine zBa ?_ _ | with_reducible refine zBr ?_ _ _ | with_reducible refine zBd ?_)))
        clear hK K
        try simp only [Act.put, List.setIfInBounds_toArray, List.set_cons_zero, List.set_cons_succ]
        refine wpAnyH_take (i := 11) (oi := ⟨some 73, .fieldAddr 29 (.tmp 5) 4, 0, "ref.go:57", #[⟨0, .phase⟩, ⟨1, .phase⟩, ⟨2, .phase⟩, ⟨3, .phase⟩, ⟨4, .phase⟩, ⟨5, .phase⟩, ⟨6, .phase⟩, ⟨7, .phase⟩, ⟨8, .phase⟩, ⟨9, .phase⟩, ⟨10, .phase⟩], none⟩) (v := ?_) rfl (by kernel_rfl) (by kernel_rfl) (by kernel_rfl) (fun _ _ _ h => h) (Or.inl ⟨by rfl, ?_⟩) (by assumption) ?_
        rotate_left
        · (intro w hSw; (try dsimp only at hSw); go_simp)
          try with_reducible rfl
        try simp only [Act.put, List.setIfInBounds_toArray, List.set_cons_zero, List.set_cons_succ]
        refine wpAnyH_ready (rs := [12]) (by kernel_rfl) (by simp) ?_
        refine AllReadyH.cons (o := ⟨none, .store 27 (.tmp 73) (.tmp 72), 0, "ref.go:57", #[⟨11, .data⟩, ⟨10, .data⟩, ⟨10, .chain⟩, ⟨0, .phase⟩, ⟨1, .phase⟩, ⟨2, .phase⟩, ⟨3, .phase⟩, ⟨4, .phase⟩, ⟨5, .phase⟩, ⟨6, .phase⟩, ⟨7, .phase⟩, ⟨8, .phase⟩, ⟨9, .phase⟩, ⟨10, .phase⟩], none⟩) rfl (fun K hK => ?_) AllReadyH.nil
        go_simp
        refine hK.out _ _ ?_ (fun hHeld => ?_)
        · try dsimp only
          (with_reducible exact HS.out _ (by repeat' (first | with_reducible exact hbk | with_reducible exact h4 | with_reducible exact h5 | with_reducible refine zBa ?_ _ | with_reducible refine zBr ?_ _ _ | with_reducible refine zBd ?_)))
        clear hK K
        try simp only [Act.put, List.setIfInBounds_toArray, List.set_cons_zero, List.set_cons_succ]
        refine wpAnyH_done (by kernel_rfl) ?_ _
        rotate_left
        refine AllReadyH.cons (o := ⟨some 71, .buildSlice 27 1 #[(0, .tmp 70)], 27, "ref.go:57", #[⟨8, .data⟩], none⟩) rfl (fun K hK => ?_) AllReadyH.nil
        go_simp
        refine hK.out _ _ ?_ (fun hHeld => ?_)
        · try dsimp only
          (with_reducible exact HS.out _ (by repeat' (first | with_reducible exact hbk | with_reducible exact h4 | with_reducible exact h5 | with_reducible refine zBa ?_ _ | with_reducible refine zBr ?_ _ _ | with_reducible refine zBd ?_)))
        clear hK K
        try simp only [Act.put, List.setIfInBounds_toArray, List.set_cons_zero, List.set_cons_succ]
        refine wpAnyH_ready (rs := [1]) (by kernel_rfl) (by simp) ?_
        refine AllReadyH.cons (o := ⟨some 63, .load 27 (.tmp 62), 27, "ref.go:57", #[⟨0, .data⟩], none⟩) rfl (fun K hK => ?_) AllReadyH.nil
        go_simp
        refine hK.out _ _ ?_ (fun hHeld => ?_)
        · try dsimp only
          (with_reducible exact HS.out _ (by repeat' (first | with_reducible exact hbk | with_reducible exact h4 | with_reducible exact h5 | with_reducible refine zBa ?_ _ | with_reducible refine zBr ?_ _ _ | with_reducible refine zBd ?_)))
        clear hK K
        try simp only [Act.put, List.setIfInBounds_toArray, List.set_cons_zero, List.set_cons_succ]
        refine wpAnyH_ready (rs := [10]) (by kernel_rfl) (by simp) ?_
        refine AllReadyH.cons (o := ⟨some 72, .call { callee := .builtin .append, args := #[.tmp 63, .tmp 71], argTypes := #[27, 27] }, 27, "ref.go:57", #[⟨1, .data⟩, ⟨9, .data⟩, ⟨8, .chain⟩], none⟩) rfl (fun K hK => ?_) AllReadyH.nil
        (refine step_append_lies _ (by rfl) _ _ _ (by rfl) wk.heap.size 29 i0 _ 8 88 Tryd.underlying27 HI0.out HZ0.out HZ1.out HZ2.out rfl (by omega) rv xs.length (rowC xs) (by rfl) (HWA _).out.own
            ⟨w4.heap.size, 0, none⟩ 1 1 (cells8 ⟨d0, d1, d2, d3, d4, d5, dw, dA, dl, dc⟩) (by rfl) (by rfl) (World.news_of_block (cs := #[.int .i64 d0, .int .i64 d1, .int .i64 d2, .int .i64 d3, .int .i64 d4, .int .i64 d5, .string dw, .slice dA dl dc]) (t := 29) (fr := (0, 0)) (heap_alloc_new w4 _)) (by simp [cells8, Value.oneCell'])
            (by omega) (by unfold maxLen; omega) (by omega) (by simp <;> omega) (w4.heap.size + 1) (by simp) ?_; intro gg cap w5 hown5 hg5 hat5 hlt5
         have HW5 := Lib.hid ((HWA _).out.push (HVV.out.kept (Kept.of_below ((Below.refl _ _).alloc (Nat.le_refl _) _))) hown5 hg5 (by rcases hat5 with h | h; exact .inl h.symm; exact .inr (by rw [h]; simp [Value.ownBlock])))
         have hr5 : ∀ k, rv.ownBlock = some k → wk.heap.size ≤ k := fun k hk => (HW4.out.own.lt k hk).1
         have h5 : But (w.heap.size + 1 + 1 + 1) wk w5 := (zBa h4 _).grown hg5 hr5
         have HO5 : Hid (C8 w5 (w.heap.size + 1 + 1 + 1) (.int .i64 (t.kind)) (.int .i64 (t.num)) (.int .i64 (u1)) (.int .i64 (u2)) (.int .i64 (u3)) (.int .i64 (u4)) (.string ⟨t.word.toArray⟩) rv ∧ w5.frozen? ⟨w.heap.size + 1 + 1 + 1, 7, none⟩ = false) := Lib.hid (by
           have hb : w5.heap[w.heap.size + 1 + 1 + 1]? = w4.heap[w.heap.size + 1 + 1 + 1]? := by rw [hg5.block (w.heap.size + 1 + 1 + 1) (by simp; omega) (fun e => by have := hr5 _ e.symm; omega), Below.heap_alloc w4 _ _ zO4]
           exact ⟨c8_world HO4.out.1 hb, by rw [World.frozen?_of_block (w := w4) (a := ⟨w.heap.size + 1 + 1 + 1, 7, none⟩) hb]; exact HO4.out.2⟩)
         have o57 := HO5.out.1.2.2.2.2.2.2.2
         have f57 := HO5.out.2
         clear hown5 hat5)
        refine hK.out _ _ ?_ (fun hHeld => ?_)
        · try dsimp only
          (with_reducible exact HS.out _ (by repeat' (first | with_reducible exact hbk | with_reducible exact h4 | with_reducible exact h5 | with_reducible refine zBa ?_ _ | with_reducible refine zBr ?_ _ _ | with_reducible refine zBd ?_)))
        clear hK K
        try simp only [Act.put, List.setIfInBounds_toArray, List.set_cons_zero, List.set_cons_succ]
        refine wpAnyH_take (i := 11) (oi := ⟨some 73, .fieldAddr 29 (.tmp 5) 4, 0, "ref.go:57", #[⟨0, .phase⟩, ⟨1, .phase⟩, ⟨2, .phase⟩, ⟨3, .phase⟩, ⟨4, .phase⟩, ⟨5, .phase⟩, ⟨6, .phase⟩, ⟨7, .phase⟩, ⟨8, .phase⟩, ⟨9, .phase⟩, ⟨10, .phase⟩], none⟩) (v := ?_) rfl (by kernel_rfl) (by kernel_rfl) (by kernel_rfl) (fun _ _ _ h => h) (Or.inl ⟨by rfl, ?_⟩) (by assumption) ?_
        rotate_left
        · (intro w hSw; (try dsimp only at hSw); go_simp)
          try with_reducible rfl
        try simp only [Act.put, List.setIfInBounds_toArray, List.set_cons_zero, List.set_cons_succ]
        refine wpAnyH_ready (rs := [12]) (by kernel_rfl) (by simp) ?_
        refine AllReadyH.cons (o := ⟨none, .store 27 (.tmp 73) (.tmp 72), 0, "ref.go:57", #[⟨11, .data⟩, ⟨10, .data⟩, ⟨10, .chain⟩, ⟨0, .phase⟩, ⟨1, .phase⟩, ⟨2, .phase⟩, ⟨3, .phase⟩, ⟨4, .phase⟩, ⟨5, .phase⟩, ⟨6, .phase⟩, ⟨7, .phase⟩, ⟨8, .phase⟩, ⟨9, .phase⟩, ⟨10, .phase⟩], none⟩) rfl (fun K hK => ?_) AllReadyH.nil
        go_simp
        refine hK.out _ _ ?_ (fun hHeld => ?_)
        · try dsimp only
          (with_reducible exact HS.out _ (by repeat' (first | with_reducible exact hbk | with_reducible exact h4 | with_reducible exact h5 | with_reducible refine zBa ?_ _ | with_reducible refine zBr ?_ _ _ | with_reducible refine zBd ?_)))
        clear hK K
        try simp only [Act.put, List.setIfInBounds_toArray, List.set_cons_zero, List.set_cons_succ]
        refine wpAnyH_done (by kernel_rfl) ?_ _
        rotate_left
        all_goals
          have hb6 : But (w.heap.size + 1 + 1 + 1) wk (w5.setCell ⟨w.heap.size + 1 + 1 + 1, 7, none⟩ (.slice (some ⟨gg, 0, none⟩) (xs.length + 1) cap)) := zBr h5 _ _
          have HW6 : Hid (Row wk.heap.size (w5.setCell ⟨w.heap.size + 1 + 1 + 1, 7, none⟩ (.slice (some ⟨gg, 0, none⟩) (xs.length + 1) cap)) (.slice (some ⟨gg, 0, none⟩) (xs.length + 1) cap) (xs ++ [((⟨d0, d1, d2, d3, d4, d5, dw, dA, dl, dc⟩ : V8), mvT x y u)])) := Lib.hid (HW5.out.but (zBr (But.refl _ _) _ _) (by omega))
          have HO6 : Hid (C8 (w5.setCell ⟨w.heap.size + 1 + 1 + 1, 7, none⟩ (.slice (some ⟨gg, 0, none⟩) (xs.length + 1) cap)) (w.heap.size + 1 + 1 + 1) (.int .i64 (t.kind)) (.int .i64 (t.num)) (.int .i64 (u1)) (.int .i64 (u2)) (.int .i64 (u3)) (.int .i64 (u4)) (.string ⟨t.word.toArray⟩) (.slice (some ⟨gg, 0, none⟩) (xs.length + 1) cap) ∧ (w5.setCell ⟨w.heap.size + 1 + 1 + 1, 7, none⟩ (.slice (some ⟨gg, 0, none⟩) (xs.length + 1) cap)).frozen? ⟨w.heap.size + 1 + 1 + 1, 7, none⟩ = false) := Lib.hid ⟨c8_set7 HO5.out.1 _, by rw [World.frozen?_setCell]; exact HO5.out.2⟩
          have HX6 : Hid ((xs ++ [((⟨d0, d1, d2, d3, d4, d5, dw, dA, dl, dc⟩ : V8), mvT x y u)]).map Prod.snd = mvL x y (t.kids.take (i + 1))) := Lib.hid (by rw [HM.out, List.map_append, HX.out]; rfl)
          clear HW5 HO5 h5 o57 f57 hg5 HVV HW4 HO4 h4 HX HM HWA HS HC HOut HW
          rw [hxl] at HW6 HO6 hb6
          go_wp2_with fail
          go_roundw
          case rel => exact ⟨i + 1, _, _, by omega, by simp; omega, by go_num, HX6, HW6, HO6, hb6⟩
          case measure => simp [intOf]; omega
      · have hii : i = t.kids.length := by omega
        have HX2 : Hid (xs.map Prod.snd = mvL x y t.kids) := Lib.hid (by have h := HX.out; rwa [hii, List.take_length] at h)
        obtain ⟨Ax, cp, rfl, hkl⟩ := HW.out.shut
        have HKL := Lib.hid hkl
        obtain ⟨c0, c1, c2, c3, c4, c5, c6, c7⟩ := HOut.out.1
        obtain ⟨r0, r1, r2, r3, r4, r5, r6, r7⟩ := c8_lift (w' := wr) (fun j v (hv : wk.cell? ⟨w.heap.size + 1 + 1, j, none⟩ = some v) => hbk.cell (p := ⟨w.heap.size + 1 + 1, j, none⟩) (by show w.heap.size + 1 + 1 ≠ _; omega) hv) HR.out.1 HR.out.2.1 HR.out.2.2.1 HR.out.2.2.2.1 HR.out.2.2.2.2.1 HR.out.2.2.2.2.2.1 HR.out.2.2.2.2.2.2.1 HR.out.2.2.2.2.2.2.2
        obtain ⟨f0, f1, f2, f3, f4, f5, f6, f7⟩ := f8_lift (w' := wr) (fun j (hv : wk.frozen? ⟨w.heap.size + 1 + 1, j, none⟩ = false) => hbk.frozen (p := ⟨w.heap.size + 1 + 1, j, none⟩) (by show w.heap.size + 1 + 1 ≠ _; omega) (by show w.heap.size + 1 + 1 < _; omega) hv) HF.out.1 HF.out.2.1 HF.out.2.2.1 HF.out.2.2.2.1 HF.out.2.2.2.2.1 HF.out.2.2.2.2.2.1 HF.out.2.2.2.2.2.2.1 HF.out.2.2.2.2.2.2.2
        have hsw : w.heap.size ≤ wr.heap.size := hbel.size
        clear hbk HW HX hkl HOut
        go_wp2_with fail
        refine bodyPost_ret (v := .agg #[.int .i64 (t.kind), .int .i64 (t.num), .int .i64 (u1), .int .i64 (u2), .int .i64 (u3), .int .i64 (u4), .string ⟨t.word.toArray⟩, .slice Ax t.kids.length cp]) (by simp [results, Tryd.results27, go_sem, r0, r1, r2, r3, r4, r5, r6, r7]) rfl ⟨⟨t.kind, t.num, u1, u2, u3, u4, ⟨t.word.toArray⟩, Ax, t.kids.length, cp⟩, rfl, ?_, by
          repeat' (first | with_reducible exact hbel | with_reducible refine Below.alloc ?_ (by first | omega | (simp <;> omega)) _ | with_reducible refine Below.setCell ?_ (by first | omega | (simp <;> omega)) _)⟩
        rw [HTV.out]
        refine ⟨Ax, cp, by simp [tv8, Tr.kind, Tr.num, Tr.c1, Tr.r1, Tr.c2, Tr.r2, Tr.word, Tr.kids, len_mv], KV.mk ?_⟩
        show mvL x y t.kids = [] ∨ _
        rw [← HX2.out]
        rcases HKL.out with h | ⟨g, o, e, hb, hl, hk⟩
        · exact .inl h
        · refine .inr ⟨g, o, e, by omega, Nat.lt_of_lt_of_le hl (Kept.size (P := fun b => wk.heap.size ≤ b) ?_), KL.imp (P := fun b => wk.heap.size ≤ b) (fun b hb => by have hb2 : wk.heap.size ≤ b := hb; omega) (KL.kept ?_ hb hk)⟩
          all_goals
            repeat' (first | with_reducible exact Kept.refl _ _ | with_reducible refine Kept.alloc ?_ _ | with_reducible refine Kept.set ?_ (.inl (by show ¬ wk.heap.size ≤ _; omega)) _ _)
theorem rmoved_any (x y : Int) : ∀ {t : Tr}, Wid t → cntT t ≤ 1000000 → PMvC 27 x y t := by
  intro t hW
  induction hW with
  | @mk k n c r d s w ks hl hk ih =>
    intro hc
    have hlen := cnt_kids (.mk k n c r d s w ks)
    have hi : ∀ u ∈ ks, PMvC 27 x y u := fun u hu => ih u hu (Nat.le_trans (cnt_mem (t := .mk k n c r d s w ks) hu) hc)
    cases hb : rdr (.mk k n c r d s w ks) with
    | false =>
      have h := hb
      unfold rdr at h
      rw [Bool.or_eq_false_iff] at h
      exact rmoved_no x y _ (by omega) hi h.1 h.2
    | true =>
      have h6 : ((Tr.mk k n c r d s w ks).kind == 1) = false → ((Tr.mk k n c r d s w ks).kind == 6) = true := fun e => by
        have h := hb
        unfold rdr at h
        rw [e, Bool.false_or] at h
        exact h
      cases h1 : mvB (Tr.mk k n c r d s w ks).c1 (Tr.mk k n c r d s w ks).r1 x y with
      | false => exact rmoved_out x y _ (by omega) hi _ rfl h6 false _ h1 rfl rfl
      | true =>
        cases h2 : mvB (Tr.mk k n c r d s w ks).c2 (Tr.mk k n c r d s w ks).r2 x y with
        | false => exact rmoved_out x y _ (by omega) hi _ rfl h6 true false h1 h2 rfl
        | true => exact rmoved_in x y _ (by omega) hi _ rfl h6 true true h1 h2 rfl rfl
end Go.Proofs.YteflmfifhmlpiaaDoor
