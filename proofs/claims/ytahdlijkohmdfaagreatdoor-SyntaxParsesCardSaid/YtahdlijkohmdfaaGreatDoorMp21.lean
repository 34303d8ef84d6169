/- Texts joined: RdM. -/
import Derived.Test.YtahdlijkohmdfaaGreatDoorMp20
set_option linter.all false
set_option linter.unusedVariables false
set_option linter.unusedSimpArgs false
namespace Go.Proofs.YtahdlijkohmdfaaGreatDoor
open Go.RowKit

theorem utok_info2 : (Tryz.prog.info? 61).map (fun i => (i.zero, i.size, i.bytes)) = some (some (.agg #[.int .i64 0, .int .i64 0, .int .i64 0, .int .i64 0, .string ⟨#[]⟩, .int .i64 0]), 6, 56) := by kernel_rfl
theorem Strs.up {base R B : Nat} {w : World} (h : Strs base base w) (hR : base ≤ R) (hB : base ≤ B) : Strs R B w := by
  refine ⟨⟨by have := h.1.2; omega, Nat.lt_of_lt_of_le h.1.2 hB⟩, fun i hi => ?_⟩
  obtain ⟨g, o, cap, hg, hc, hs⟩ := h.2 i hi
  exact ⟨g, o, cap, ⟨by omega, by omega⟩, hc, hs⟩
theorem tok_shape2 {w : World} {base T : Nat} {v : Value} {l : List Tok} (h : w.ownsRow base T 6 v l.length (toksC l)) (hne : l ≠ []) :
    ∃ g cap, v = .slice (some ⟨g, 0, none⟩) l.length cap ∧ base ≤ g ∧ g < w.heap.size ∧ l.length ≤ cap ∧ cap ≤ maxLen ∧ AtT w g l := by
  obtain ⟨A, cp, hv, hA, _⟩ := tok_shape h
  obtain ⟨g, rfl, hl, hb, ha⟩ := hA hne
  rcases h.2 with ⟨hv2, _⟩ | ⟨g2, cap, cur, hv2, _, _, hn, hm, _⟩
  · rw [hv] at hv2; cases hv2
  · rw [hv] at hv2
    cases hv2
    exact ⟨g, cp, hv, hb, hl, hn, hm, ha⟩
theorem RLS.set {w : World} {R g cap B base : Nat} {L : List Tok} {E p : Nat} (h : RL w R g cap B L E p ∧ Strs base base w) {b : Nat} (hb : base ≤ b) (hR : b ≠ R) (hg : b ≠ g) (h1 : base ≤ R) (h2 : base ≤ B) (o : Nat) (u : Value) :
    RL (w.setCell ⟨b, o, none⟩ u) R g cap B L E p ∧ Strs base base (w.setCell ⟨b, o, none⟩ u) := by
  have hs : Strs base base (w.setCell ⟨b, o, none⟩ u) := h.2.keep fun p v _ hl hv => by
    rw [World.cell?_setCell_far w ⟨b, o, none⟩ p u (by show b ≠ p.block; omega)]; exact hv
  exact ⟨h.1.keep (Below.heap_setCell w ⟨b, o, none⟩ u R fun e => hR e.symm) (Below.heap_setCell w ⟨b, o, none⟩ u g fun e => hg e.symm) (by simp) (hs.up h1 h2), hs⟩
theorem caught_cells {w : World} {T F E : Nat} {z : Int} {x : V8} {f e : Int}
    (t0 : w.cell? ⟨T, 0, none⟩ = some (.int .i64 x.n0)) (t1 : w.cell? ⟨T, 1, none⟩ = some (.int .i64 x.n1)) (t2 : w.cell? ⟨T, 2, none⟩ = some (.int .i64 x.n2)) (t3 : w.cell? ⟨T, 3, none⟩ = some (.int .i64 x.n3)) (t4 : w.cell? ⟨T, 4, none⟩ = some (.int .i64 x.n4)) (t5 : w.cell? ⟨T, 5, none⟩ = some (.int .i64 x.n5)) (t6 : w.cell? ⟨T, 6, none⟩ = some (.string x.s)) (t7 : w.cell? ⟨T, 7, none⟩ = some (.slice x.A x.len x.cap))
    (hf : w.cell? ⟨F, 0, none⟩ = some (.int .i64 f)) (he : w.cell? ⟨E, 0, none⟩ = some (.int .i64 e)) (n1 : T ≠ F) (n2 : T ≠ E) (n3 : F ≠ E) :
    (caughtW w T F E z).cell? ⟨T, 0, none⟩ = some (.int .i64 0) ∧ (caughtW w T F E z).cell? ⟨T, 1, none⟩ = some (.int .i64 0) ∧ (caughtW w T F E z).cell? ⟨T, 2, none⟩ = some (.int .i64 0) ∧ (caughtW w T F E z).cell? ⟨T, 3, none⟩ = some (.int .i64 0) ∧
    (caughtW w T F E z).cell? ⟨T, 4, none⟩ = some (.int .i64 0) ∧ (caughtW w T F E z).cell? ⟨T, 5, none⟩ = some (.int .i64 0) ∧ (caughtW w T F E z).cell? ⟨T, 6, none⟩ = some (.string ⟨#[]⟩) ∧ (caughtW w T F E z).cell? ⟨T, 7, none⟩ = some (.slice none 0 0) ∧
    (caughtW w T F E z).cell? ⟨F, 0, none⟩ = some (.int .i64 z) ∧ (caughtW w T F E z).cell? ⟨E, 0, none⟩ = some (.int .i64 2) := by
  have m1 := n1.symm
  have m2 := n2.symm
  have m3 := n3.symm
  unfold caughtW
  refine ⟨?_, ?_, ?_, ?_, ?_, ?_, ?_, ?_, ?_, ?_⟩ <;> simp [go_sem, t0, t1, t2, t3, t4, t5, t6, t7, hf, he, n1, n2, n3, m1, m2, m3]
set_option maxHeartbeats 4000000 in
set_option maxRecDepth 100000 in
theorem pformula_bad {base : Nat} {w : World} (hB : base ≤ w.heap.size) (hS : Strs base base w) {L : List Tok} {E : Nat} (hL : L.length ≤ 300) (hG : GoodXL L) {v : Value} (hrow : w.ownsRow base 61 6 v L.length (toksC L)) {z : Nat} (ht : treeT L E = some (.bad z)) :
    Calls Tryz.prog 18 #[v, .int .i64 (E : Int)] w fun e w' => e = .returned (.tuple #[.agg #[.int .i64 0, .int .i64 0, .int .i64 0, .int .i64 0, .int .i64 0, .int .i64 0, .string ⟨#[]⟩, .slice none 0 0], .int .i64 (z : Int), .int .i64 2]) ∧ Below base w w' := by
  obtain ⟨i0, hi0, hz0, hz1, hz2⟩ := info_parts utok_info2
  have HI := Lib.hid hi0
  have HZ0 := Lib.hid hz0
  have HZ1 := Lib.hid hz1
  have HZ2 := Lib.hid hz2
  have HRow := Lib.hid hrow
  have HS := Lib.hid hS
  have HT := Lib.hid ht
  have HBN := Lib.hid hB
  clear hi0 hz0 hz1 hz2 hrow hS ht
  have hmf : ∀ (fn : Fn) (first cap : Array Value) (w : World), (Instr.makeFunc fn first cap).run Tryz.prog w = .ok (.func fn first cap) w := fun _ _ _ _ => rfl
  go_enter_defers Tryz.func18, Tryz.ntmps18
  go_wp2_with (at_builtin
               refine wpList_append_own_at _ rfl _ _ 39 rfl base 61 i0 (.agg #[.int .i64 0, .int .i64 0, .int .i64 0, .int .i64 0, .string ⟨#[]⟩, .int .i64 0]) 6 56 Tryz.underlying39 HI.out HZ0.out HZ1.out HZ2.out rfl (by decide) _ _ _ rfl ((((HRow.out.alloc _).alloc _).alloc _).alloc _)
                 ⟨w.heap.size + 1 + 1 + 1, 0, none⟩ 1 1 (tokL (endTok E)) rfl rfl ?c1 ?c2 ?c3 ?c4 ?c5 ?_)
  case c1 =>
    intro j u hj
    match j, hj with
    | 0, hj => simp [tokL, endTok] at hj; subst hj; simp [Addr.add, go_sem]
    | 1, hj => simp [tokL, endTok] at hj; subst hj; simp [Addr.add, go_sem]
    | 2, hj => simp [tokL, endTok] at hj; subst hj; simp [Addr.add, go_sem]
    | 3, hj => simp [tokL, endTok] at hj; subst hj; simp [Addr.add, go_sem]
    | 4, hj => simp [tokL, endTok] at hj; subst hj; simp [Addr.add, go_sem]
    | 5, hj => simp [tokL, endTok] at hj; subst hj; simp [Addr.add, go_sem]
  case c2 => intro u hu; simp [tokL, endTok] at hu; rcases hu with rfl | rfl | rfl | rfl | rfl | rfl <;> rfl
  case c3 => unfold maxLen; omega
  case c4 => omega
  case c5 => simp; omega
  intro v' w5 hown5 hg5 _ hat5
  have hob : ∀ k, v.ownBlock = some k → base ≤ k ∧ k < w.heap.size := HRow.out.lt
  rw [← toksC_snoc] at hown5
  have hown6 : w5.ownsRow base 61 6 v' (withEnd L E).length (toksC (withEnd L E)) := by rw [withEnd_len]; exact hown5
  obtain ⟨g, cap, hv', hbg, hgl, hcl, hcm, hat⟩ := tok_shape2 hown6 (by simp [withEnd])
  rw [withEnd_len] at hv' hcl
  subst hv'
  clear hown5 hown6
  have hs5 : w.heap.size + 4 ≤ w5.heap.size := by have := hg5.size; simp at this; omega
  have hne : ∀ k, w.heap.size ≤ k → some k ≠ v.ownBlock := fun k hk e => by have := (hob k e.symm).2; omega
  have t0 := hg5.cell (a := ⟨w.heap.size, 0, none⟩) (v := .int .i64 0) (by simp [go_sem]) (hne _ (by first | omega | simp))
  have t1 := hg5.cell (a := ⟨w.heap.size, 1, none⟩) (v := .int .i64 0) (by simp [go_sem]) (hne _ (by first | omega | simp))
  have t2 := hg5.cell (a := ⟨w.heap.size, 2, none⟩) (v := .int .i64 0) (by simp [go_sem]) (hne _ (by first | omega | simp))
  have t3 := hg5.cell (a := ⟨w.heap.size, 3, none⟩) (v := .int .i64 0) (by simp [go_sem]) (hne _ (by first | omega | simp))
  have t4 := hg5.cell (a := ⟨w.heap.size, 4, none⟩) (v := .int .i64 0) (by simp [go_sem]) (hne _ (by first | omega | simp))
  have t5 := hg5.cell (a := ⟨w.heap.size, 5, none⟩) (v := .int .i64 0) (by simp [go_sem]) (hne _ (by first | omega | simp))
  have t6 := hg5.cell (a := ⟨w.heap.size, 6, none⟩) (v := .string ⟨#[]⟩) (by simp [go_sem]) (hne _ (by first | omega | simp))
  have t7 := hg5.cell (a := ⟨w.heap.size, 7, none⟩) (v := .slice none 0 0) (by simp [go_sem]) (hne _ (by first | omega | simp))
  have tf := hg5.cell (a := ⟨w.heap.size + 1, 0, none⟩) (v := .int .i64 0) (by simp [go_sem]) (hne _ (by first | omega | simp))
  have te := hg5.cell (a := ⟨w.heap.size + 1 + 1, 0, none⟩) (v := .int .i64 0) (by simp [go_sem]) (hne _ (by first | omega | (simp; omega)))
  have tz : ∀ j, w5.frozen? ⟨w.heap.size, j, none⟩ = false := fun j => by
    rw [World.frozen?_of_block (a := ⟨w.heap.size, j, none⟩) (hg5.block w.heap.size (by first | omega | (simp; omega)) (hne _ (by first | omega | simp)))]; simp [go_sem]
  have fz : w5.frozen? ⟨w.heap.size + 1, 0, none⟩ = false := by
    rw [World.frozen?_of_block (a := ⟨w.heap.size + 1, 0, none⟩) (hg5.block (w.heap.size + 1) (by first | omega | simp | (simp; omega)) (hne _ (by first | omega | simp)))]; simp [go_sem]
  have ez : w5.frozen? ⟨w.heap.size + 1 + 1, 0, none⟩ = false := by
    rw [World.frozen?_of_block (a := ⟨w.heap.size + 1 + 1, 0, none⟩) (hg5.block (w.heap.size + 1 + 1) (by first | omega | simp | (simp; omega)) (hne _ (by first | omega | (simp; omega))))]; simp [go_sem]
  have hb5 : Below base w w5 := by
    refine ((((((Below.refl _ _).alloc hB _).alloc (by simp; omega) _).alloc (by simp; omega) _).alloc (by simp; omega) _).grown hg5 (by simp; omega) (fun k hk => ?_))
    exact (hob k hk).1
  have HS5 : Hid (Strs w5.heap.size (w5.heap.size + 1) (w5.alloc (.cells #[.slice (some ⟨g, 0, none⟩) (L.length + 1) cap] 66))) := Lib.hid ((HS.out.keep fun p u _ hl hv => kc_alloc' (by rw [hb5.cell hl]; exact hv)).up (by omega) (by omega))
  have HRL : Hid (RL (w5.alloc (.cells #[.slice (some ⟨g, 0, none⟩) (L.length + 1) cap] 66)) w5.heap.size g cap (w5.heap.size + 1) L E 0) := Lib.hid
    ⟨by simp [go_sem], by simp [go_sem], by omega, by simp; omega, Nat.zero_le _, hcl, fun i t hi => by
      obtain ⟨a, b, c, d, e, f⟩ := hat i t hi
      exact ⟨kc_alloc a _, kc_alloc b _, kc_alloc c _, kc_alloc d _, kc_alloc e _, kc_alloc f _⟩, HS5.out, by omega, by omega, by simp⟩
  have hgT : g ≠ w.heap.size := by
    rintro rfl
    rcases hat5 with h | h
    · exact hne _ (Nat.le_refl _) h
    · have h2 := Option.some.inj h
      simp at h2
      omega
  have HgT := Lib.hid hgT
  have HB5 := Lib.hid hb5
  clear hgT hg5 hat5 hat hb5 hne hob HRow HI HZ0 HZ1 HZ2 HS5
  have hL2 : L.length ≤ 1000 := by omega
  go_wp2_with fail
  refine (pexpr_any hL2 hcm hG _ _ HRL.out HT.out).mono ?_; rintro e w6 ⟨rfl, b6⟩
  have t60 := b6.cell (show w.heap.size ≠ w5.heap.size by omega) (kc_alloc t0 _)
  have t61 := b6.cell (show w.heap.size ≠ w5.heap.size by omega) (kc_alloc t1 _)
  have t62 := b6.cell (show w.heap.size ≠ w5.heap.size by omega) (kc_alloc t2 _)
  have t63 := b6.cell (show w.heap.size ≠ w5.heap.size by omega) (kc_alloc t3 _)
  have t64 := b6.cell (show w.heap.size ≠ w5.heap.size by omega) (kc_alloc t4 _)
  have t65 := b6.cell (show w.heap.size ≠ w5.heap.size by omega) (kc_alloc t5 _)
  have t66 := b6.cell (show w.heap.size ≠ w5.heap.size by omega) (kc_alloc t6 _)
  have t67 := b6.cell (show w.heap.size ≠ w5.heap.size by omega) (kc_alloc t7 _)
  have tf6 := b6.cell (show w.heap.size + 1 ≠ w5.heap.size by omega) (kc_alloc tf _)
  have te6 := b6.cell (show w.heap.size + 1 + 1 ≠ w5.heap.size by omega) (kc_alloc te _)
  have tz6 : ∀ j, w6.frozen? ⟨w.heap.size, j, none⟩ = false := fun j => b6.frozen (show w.heap.size ≠ w5.heap.size by omega) (by simp; omega) (kf_alloc (tz j) (by omega) _)
  have fz6 := b6.frozen (show w.heap.size + 1 ≠ w5.heap.size by omega) (by simp; omega) (kf_alloc fz (by omega) _)
  have ez6 := b6.frozen (show w.heap.size + 1 + 1 ≠ w5.heap.size by omega) (by simp; omega) (kf_alloc ez (by omega) _)
  have HB6 : Hid (Below base w w6) := Lib.hid (HB5.out.trans (((Below.refl _ _).alloc (by omega) _).trans (b6.below (by omega) (by simp; omega))))
  clear t0 t1 t2 t3 t4 t5 t6 t7 tf te tz fz ez b6 HRL HB5 HT
  refine leaves_cons (f := 31) (args := #[.pointer (some ⟨w.heap.size, 0, none⟩), .pointer (some ⟨w.heap.size + 1, 0, none⟩), .pointer (some ⟨w.heap.size + 1 + 1, 0, none⟩)]) (by simp) (by simp [go_sem]) ?_
  refine (fcatch_panic w.heap.size (w.heap.size + 1) (w.heap.size + 1 + 1) z [] w6 ⟨0, 0, 0, 0, 0, 0, ⟨#[]⟩, none, 0, 0⟩ 0 0 t60 t61 t62 t63 t64 t65 t66 t67 tf6 te6 tz6 fz6 ez6 (by omega) (by omega) (by omega)).mono ?_
  rintro e u' w7 ⟨rfl, rfl, rfl⟩
  obtain ⟨q0, q1, q2, q3, q4, q5, q6, q7, q8, q9⟩ := caught_cells (w := w6.drew) (T := w.heap.size) (F := w.heap.size + 1) (E := w.heap.size + 1 + 1) (z := (z : Int)) (x := ⟨0, 0, 0, 0, 0, 0, ⟨#[]⟩, none, 0, 0⟩) (f := 0) (e := 0) t60 t61 t62 t63 t64 t65 t66 t67 tf6 te6 (by omega) (by omega) (by omega)
  have HBf : Below base w (caughtW w6.drew w.heap.size (w.heap.size + 1) (w.heap.size + 1 + 1) (z : Int)) := by
    unfold caughtW
    have hd := HB6.out.drew
    with_reducible repeat' (first | exact hd | refine Below.setCell ?_ (by first | exact hB | (show base ≤ _ + 1; omega) | (show base ≤ _ + 1 + 1; omega)) _)
  simp [Leaves, settle, results, Tryz.results18, go_sem, q0, q1, q2, q3, q4, q5, q6, q7, q8, q9]
  exact HBf
set_option maxHeartbeats 4000000 in
set_option maxRecDepth 100000 in
theorem pformula_left {base : Nat} {w : World} (hB : base ≤ w.heap.size) (hS : Strs base base w) {L : List Tok} {E : Nat} (hL : L.length ≤ 300) (hG : GoodXL L) {v : Value} (hrow : w.ownsRow base 61 6 v L.length (toksC L)) {t : Tr} {q : Nat} (ht : treeT L E = some (.ok t q)) {d : Tok} (hd : tokAt L E q = d) (hk0 : (d.kind != 0) = true) :
    Calls Tryz.prog 18 #[v, .int .i64 (E : Int)] w fun e w' => e = .returned (.tuple #[.agg #[.int .i64 0, .int .i64 0, .int .i64 0, .int .i64 0, .int .i64 0, .int .i64 0, .string ⟨#[]⟩, .slice none 0 0], .int .i64 (d.frm : Int), .int .i64 2]) ∧ Below base w w' := by
  obtain ⟨i0, hi0, hz0, hz1, hz2⟩ := info_parts utok_info2
  have HI := Lib.hid hi0
  have HZ0 := Lib.hid hz0
  have HZ1 := Lib.hid hz1
  have HZ2 := Lib.hid hz2
  have HRow := Lib.hid hrow
  have HS := Lib.hid hS
  have HT := Lib.hid ht
  have HBN := Lib.hid hB
  clear hi0 hz0 hz1 hz2 hrow hS ht
  have hmf : ∀ (fn : Fn) (first cap : Array Value) (w : World), (Instr.makeFunc fn first cap).run Tryz.prog w = .ok (.func fn first cap) w := fun _ _ _ _ => rfl
  go_enter_defers Tryz.func18, Tryz.ntmps18
  go_wp2_with (at_builtin
               refine wpList_append_own_at _ rfl _ _ 39 rfl base 61 i0 (.agg #[.int .i64 0, .int .i64 0, .int .i64 0, .int .i64 0, .string ⟨#[]⟩, .int .i64 0]) 6 56 Tryz.underlying39 HI.out HZ0.out HZ1.out HZ2.out rfl (by decide) _ _ _ rfl ((((HRow.out.alloc _).alloc _).alloc _).alloc _)
                 ⟨w.heap.size + 1 + 1 + 1, 0, none⟩ 1 1 (tokL (endTok E)) rfl rfl ?c1 ?c2 ?c3 ?c4 ?c5 ?_)
  case c1 =>
    intro j u hj
    match j, hj with
    | 0, hj => simp [tokL, endTok] at hj; subst hj; simp [Addr.add, go_sem]
    | 1, hj => simp [tokL, endTok] at hj; subst hj; simp [Addr.add, go_sem]
    | 2, hj => simp [tokL, endTok] at hj; subst hj; simp [Addr.add, go_sem]
    | 3, hj => simp [tokL, endTok] at hj; subst hj; simp [Addr.add, go_sem]
    | 4, hj => simp [tokL, endTok] at hj; subst hj; simp [Addr.add, go_sem]
    | 5, hj => simp [tokL, endTok] at hj; subst hj; simp [Addr.add, go_sem]
  case c2 => intro u hu; simp [tokL, endTok] at hu; rcases hu with rfl | rfl | rfl | rfl | rfl | rfl <;> rfl
  case c3 => unfold maxLen; omega
  case c4 => omega
  case c5 => simp; omega
  intro v' w5 hown5 hg5 _ hat5
  have hob : ∀ k, v.ownBlock = some k → base ≤ k ∧ k < w.heap.size := HRow.out.lt
  rw [← toksC_snoc] at hown5
  have hown6 : w5.ownsRow base 61 6 v' (withEnd L E).length (toksC (withEnd L E)) := by rw [withEnd_len]; exact hown5
  obtain ⟨g, cap, hv', hbg, hgl, hcl, hcm, hat⟩ := tok_shape2 hown6 (by simp [withEnd])
  rw [withEnd_len] at hv' hcl
  subst hv'
  clear hown5 hown6
  have hs5 : w.heap.size + 4 ≤ w5.heap.size := by have := hg5.size; simp at this; omega
  have hne : ∀ k, w.heap.size ≤ k → some k ≠ v.ownBlock := fun k hk e => by have := (hob k e.symm).2; omega
  have t0 := hg5.cell (a := ⟨w.heap.size, 0, none⟩) (v := .int .i64 0) (by simp [go_sem]) (hne _ (by first | omega | simp))
  have t1 := hg5.cell (a := ⟨w.heap.size, 1, none⟩) (v := .int .i64 0) (by simp [go_sem]) (hne _ (by first | omega | simp))
  have t2 := hg5.cell (a := ⟨w.heap.size, 2, none⟩) (v := .int .i64 0) (by simp [go_sem]) (hne _ (by first | omega | simp))
  have t3 := hg5.cell (a := ⟨w.heap.size, 3, none⟩) (v := .int .i64 0) (by simp [go_sem]) (hne _ (by first | omega | simp))
  have t4 := hg5.cell (a := ⟨w.heap.size, 4, none⟩) (v := .int .i64 0) (by simp [go_sem]) (hne _ (by first | omega | simp))
  have t5 := hg5.cell (a := ⟨w.heap.size, 5, none⟩) (v := .int .i64 0) (by simp [go_sem]) (hne _ (by first | omega | simp))
  have t6 := hg5.cell (a := ⟨w.heap.size, 6, none⟩) (v := .string ⟨#[]⟩) (by simp [go_sem]) (hne _ (by first | omega | simp))
  have t7 := hg5.cell (a := ⟨w.heap.size, 7, none⟩) (v := .slice none 0 0) (by simp [go_sem]) (hne _ (by first | omega | simp))
  have tf := hg5.cell (a := ⟨w.heap.size + 1, 0, none⟩) (v := .int .i64 0) (by simp [go_sem]) (hne _ (by first | omega | simp))
  have te := hg5.cell (a := ⟨w.heap.size + 1 + 1, 0, none⟩) (v := .int .i64 0) (by simp [go_sem]) (hne _ (by first | omega | (simp; omega)))
  have tz : ∀ j, w5.frozen? ⟨w.heap.size, j, none⟩ = false := fun j => by
    rw [World.frozen?_of_block (a := ⟨w.heap.size, j, none⟩) (hg5.block w.heap.size (by first | omega | (simp; omega)) (hne _ (by first | omega | simp)))]; simp [go_sem]
  have fz : w5.frozen? ⟨w.heap.size + 1, 0, none⟩ = false := by
    rw [World.frozen?_of_block (a := ⟨w.heap.size + 1, 0, none⟩) (hg5.block (w.heap.size + 1) (by first | omega | simp | (simp; omega)) (hne _ (by first | omega | simp)))]; simp [go_sem]
  have ez : w5.frozen? ⟨w.heap.size + 1 + 1, 0, none⟩ = false := by
    rw [World.frozen?_of_block (a := ⟨w.heap.size + 1 + 1, 0, none⟩) (hg5.block (w.heap.size + 1 + 1) (by first | omega | simp | (simp; omega)) (hne _ (by first | omega | (simp; omega))))]; simp [go_sem]
  have hb5 : Below base w w5 := by
    refine ((((((Below.refl _ _).alloc hB _).alloc (by simp; omega) _).alloc (by simp; omega) _).alloc (by simp; omega) _).grown hg5 (by simp; omega) (fun k hk => ?_))
    exact (hob k hk).1
  have HS5 : Hid (Strs w5.heap.size (w5.heap.size + 1) (w5.alloc (.cells #[.slice (some ⟨g, 0, none⟩) (L.length + 1) cap] 66))) := Lib.hid ((HS.out.keep fun p u _ hl hv => kc_alloc' (by rw [hb5.cell hl]; exact hv)).up (by omega) (by omega))
  have HRL : Hid (RL (w5.alloc (.cells #[.slice (some ⟨g, 0, none⟩) (L.length + 1) cap] 66)) w5.heap.size g cap (w5.heap.size + 1) L E 0) := Lib.hid
    ⟨by simp [go_sem], by simp [go_sem], by omega, by simp; omega, Nat.zero_le _, hcl, fun i t hi => by
      obtain ⟨a, b, c, d, e, f⟩ := hat i t hi
      exact ⟨kc_alloc a _, kc_alloc b _, kc_alloc c _, kc_alloc d _, kc_alloc e _, kc_alloc f _⟩, HS5.out, by omega, by omega, by simp⟩
  have hgT : g ≠ w.heap.size := by
    rintro rfl
    rcases hat5 with h | h
    · exact hne _ (Nat.le_refl _) h
    · have h2 := Option.some.inj h
      simp at h2
      omega
  have HgT := Lib.hid hgT
  have HB5 := Lib.hid hb5
  clear hgT hg5 hat5 hat hb5 hne hob HRow HI HZ0 HZ1 HZ2 HS5
  have hL2 : L.length ≤ 1000 := by omega
  go_wp2_with fail
  refine (pexpr_any hL2 hcm hG _ _ HRL.out HT.out).mono ?_; rintro e w6 ⟨⟨x0, x1, x2, x3, x4, x5, xw, xA, xl, xc⟩, rfl, v6, r6, b6⟩
  have t60 := b6.cell (show w.heap.size ≠ w5.heap.size by omega) (kc_alloc t0 _)
  have t61 := b6.cell (show w.heap.size ≠ w5.heap.size by omega) (kc_alloc t1 _)
  have t62 := b6.cell (show w.heap.size ≠ w5.heap.size by omega) (kc_alloc t2 _)
  have t63 := b6.cell (show w.heap.size ≠ w5.heap.size by omega) (kc_alloc t3 _)
  have t64 := b6.cell (show w.heap.size ≠ w5.heap.size by omega) (kc_alloc t4 _)
  have t65 := b6.cell (show w.heap.size ≠ w5.heap.size by omega) (kc_alloc t5 _)
  have t66 := b6.cell (show w.heap.size ≠ w5.heap.size by omega) (kc_alloc t6 _)
  have t67 := b6.cell (show w.heap.size ≠ w5.heap.size by omega) (kc_alloc t7 _)
  have tf6 := b6.cell (show w.heap.size + 1 ≠ w5.heap.size by omega) (kc_alloc tf _)
  have te6 := b6.cell (show w.heap.size + 1 + 1 ≠ w5.heap.size by omega) (kc_alloc te _)
  have tz6 : ∀ j, w6.frozen? ⟨w.heap.size, j, none⟩ = false := fun j => b6.frozen (show w.heap.size ≠ w5.heap.size by omega) (by simp; omega) (kf_alloc (tz j) (by omega) _)
  have fz6 := b6.frozen (show w.heap.size + 1 ≠ w5.heap.size by omega) (by simp; omega) (kf_alloc fz (by omega) _)
  have ez6 := b6.frozen (show w.heap.size + 1 + 1 ≠ w5.heap.size by omega) (by simp; omega) (kf_alloc ez (by omega) _)
  have HB6 : Hid (Below base w w6) := Lib.hid (HB5.out.trans (((Below.refl _ _).alloc (by omega) _).trans (b6.below (by omega) (by simp; omega))))
  have HV6 : Hid (TV w6 (fun b => w5.heap.size < b) ⟨x0, x1, x2, x3, x4, x5, xw, xA, xl, xc⟩ (some t)) := Lib.hid (v6.imp fun b hb => by have hb2 : _ ≤ b := hb; simp at hb2; omega)
  have hs6 : Strs base base w6 := HS.out.keep fun p u _ hl hv => by rw [HB6.out.cell hl]; exact hv
  have HR6 := Lib.hid (And.intro r6 hs6)
  have HRS : Hid (RL (((((((((w6).setCell ⟨w.heap.size, 0, none⟩ (.int .i64 x0)).setCell ⟨w.heap.size, 1, none⟩ (.int .i64 x1)).setCell ⟨w.heap.size, 2, none⟩ (.int .i64 x2)).setCell ⟨w.heap.size, 3, none⟩ (.int .i64 x3)).setCell ⟨w.heap.size, 4, none⟩ (.int .i64 x4)).setCell ⟨w.heap.size, 5, none⟩ (.int .i64 x5)).setCell ⟨w.heap.size, 6, none⟩ (.string xw)).setCell ⟨w.heap.size, 7, none⟩ (.slice xA xl xc)) w5.heap.size g cap (w5.heap.size + 1) L E q ∧ Strs base base (((((((((w6).setCell ⟨w.heap.size, 0, none⟩ (.int .i64 x0)).setCell ⟨w.heap.size, 1, none⟩ (.int .i64 x1)).setCell ⟨w.heap.size, 2, none⟩ (.int .i64 x2)).setCell ⟨w.heap.size, 3, none⟩ (.int .i64 x3)).setCell ⟨w.heap.size, 4, none⟩ (.int .i64 x4)).setCell ⟨w.heap.size, 5, none⟩ (.int .i64 x5)).setCell ⟨w.heap.size, 6, none⟩ (.string xw)).setCell ⟨w.heap.size, 7, none⟩ (.slice xA xl xc))) := Lib.hid (by
    with_reducible repeat' (first | exact HR6.out | refine RLS.set ?_ hB (by omega) (Ne.symm HgT.out) (by omega) (by omega) _ _))
  have HN := Lib.hid (pnext_any hL2 hcm HRS.out.1)
  clear hs6
  have hl6 := b6.size
  simp at hl6
  clear t0 t1 t2 t3 t4 t5 t6 t7 tf te tz fz ez b6 HRL HB5 HT r6 v6
  have z60 := tz6 0
  have z61 := tz6 1
  have z62 := tz6 2
  have z63 := tz6 3
  have z64 := tz6 4
  have z65 := tz6 5
  have z66 := tz6 6
  have z67 := tz6 7
  dsimp only [V8.val]
  go_wp2_with fail
  rw [hd] at HN
  unfold tokV at HN
  refine HN.out.mono ?_; rintro e w7 ⟨rfl, _, b7⟩
  have Ht7 : C8 w7 (w.heap.size) (.int .i64 x0) (.int .i64 x1) (.int .i64 x2) (.int .i64 x3) (.int .i64 x4) (.int .i64 x5) (.string xw) (.slice xA xl xc) := by refine ⟨?_, ?_, ?_, ?_, ?_, ?_, ?_, ?_⟩ <;> exact b7.cell (show w.heap.size ≠ w5.heap.size by omega) (by simp [go_sem, t60, t61, t62, t63, t64, t65, t66, t67])
  obtain ⟨t70, t71, t72, t73, t74, t75, t76, t77⟩ := Ht7
  have tf7 := b7.cell (show w.heap.size + 1 ≠ w5.heap.size by omega) (show (((((((((w6).setCell ⟨w.heap.size, 0, none⟩ (.int .i64 x0)).setCell ⟨w.heap.size, 1, none⟩ (.int .i64 x1)).setCell ⟨w.heap.size, 2, none⟩ (.int .i64 x2)).setCell ⟨w.heap.size, 3, none⟩ (.int .i64 x3)).setCell ⟨w.heap.size, 4, none⟩ (.int .i64 x4)).setCell ⟨w.heap.size, 5, none⟩ (.int .i64 x5)).setCell ⟨w.heap.size, 6, none⟩ (.string xw)).setCell ⟨w.heap.size, 7, none⟩ (.slice xA xl xc)).cell? ⟨w.heap.size + 1, 0, none⟩ = some (.int .i64 0) by (with_reducible repeat' (first | exact tf6 | refine zCs ?_ (by omega) _ _)))
  have te7 := b7.cell (show w.heap.size + 1 + 1 ≠ w5.heap.size by omega) (show (((((((((w6).setCell ⟨w.heap.size, 0, none⟩ (.int .i64 x0)).setCell ⟨w.heap.size, 1, none⟩ (.int .i64 x1)).setCell ⟨w.heap.size, 2, none⟩ (.int .i64 x2)).setCell ⟨w.heap.size, 3, none⟩ (.int .i64 x3)).setCell ⟨w.heap.size, 4, none⟩ (.int .i64 x4)).setCell ⟨w.heap.size, 5, none⟩ (.int .i64 x5)).setCell ⟨w.heap.size, 6, none⟩ (.string xw)).setCell ⟨w.heap.size, 7, none⟩ (.slice xA xl xc)).cell? ⟨w.heap.size + 1 + 1, 0, none⟩ = some (.int .i64 0) by (with_reducible repeat' (first | exact te6 | refine zCs ?_ (by omega) _ _)))
  have tz7 : ∀ j, w7.frozen? ⟨w.heap.size, j, none⟩ = false := fun j => b7.frozen (show w.heap.size ≠ w5.heap.size by omega) (by simp; omega) (by simp [tz6])
  have fz7 : w7.frozen? ⟨w.heap.size + 1, 0, none⟩ = false := b7.frozen (show w.heap.size + 1 ≠ w5.heap.size by omega) (by simp; omega) (by simp [fz6])
  have ez7 : w7.frozen? ⟨w.heap.size + 1 + 1, 0, none⟩ = false := b7.frozen (show w.heap.size + 1 + 1 ≠ w5.heap.size by omega) (by simp; omega) (by simp [ez6])
  have hl7 := b7.size
  simp at hl7
  have HB7 : Hid (Below base w w7) := Lib.hid (by
    refine Below.trans ?_ (b7.below (n := base) (by omega) (by simp; have := HB6.out.size; omega))
    with_reducible repeat' (first | exact HB6.out | refine Below.setCell ?_ hB _))
  clear b7 HRS HR6 t60 z60 t61 z61 t62 z62 t63 z63 t64 z64 t65 z65 t66 z66 t67 z67 tf6 te6 tz6 fz6 ez6 HN HB6
  go_wp2_with fail
  refine leaves_cons (f := 31) (args := #[.pointer (some ⟨w.heap.size, 0, none⟩), .pointer (some ⟨w.heap.size + 1, 0, none⟩), .pointer (some ⟨w.heap.size + 1 + 1, 0, none⟩)]) (by simp) (by simp [go_sem]) ?_
  refine (fcatch_panic w.heap.size (w.heap.size + 1) (w.heap.size + 1 + 1) (d.frm : Int) [] _ ⟨x0, x1, x2, x3, x4, x5, xw, xA, xl, xc⟩ 0 0 (kc_alloc t70 _) (kc_alloc t71 _) (kc_alloc t72 _) (kc_alloc t73 _) (kc_alloc t74 _) (kc_alloc t75 _) (kc_alloc t76 _) (kc_alloc t77 _) (kc_alloc tf7 _) (kc_alloc te7 _) (fun j => kf_alloc (tz7 j) (by omega) _) (kf_alloc fz7 (by omega) _) (kf_alloc ez7 (by omega) _) (by omega) (by omega) (by omega)).mono ?_
  rintro e u' w8 ⟨rfl, rfl, rfl⟩
  obtain ⟨q0, q1, q2, q3, q4, q5, q6, q7, q8, q9⟩ := caught_cells (w := (w7.alloc (.cells #[.int .i64 d.kind, .int .i64 d.num, .int .i64 d.col, .int .i64 d.row, .string ⟨d.text.toArray⟩, .int .i64 (d.frm : Int)] 61)).drew) (T := w.heap.size) (F := w.heap.size + 1) (E := w.heap.size + 1 + 1) (z := (d.frm : Int)) (x := ⟨x0, x1, x2, x3, x4, x5, xw, xA, xl, xc⟩) (f := 0) (e := 0) (kc_alloc t70 _) (kc_alloc t71 _) (kc_alloc t72 _) (kc_alloc t73 _) (kc_alloc t74 _) (kc_alloc t75 _) (kc_alloc t76 _) (kc_alloc t77 _) (kc_alloc tf7 _) (kc_alloc te7 _) (by omega) (by omega) (by omega)
  have HBf : Below base w (caughtW (w7.alloc (.cells #[.int .i64 d.kind, .int .i64 d.num, .int .i64 d.col, .int .i64 d.row, .string ⟨d.text.toArray⟩, .int .i64 (d.frm : Int)] 61)).drew w.heap.size (w.heap.size + 1) (w.heap.size + 1 + 1) (d.frm : Int)) := by
    unfold caughtW
    have hd := (HB7.out.alloc (by omega) (.cells #[.int .i64 d.kind, .int .i64 d.num, .int .i64 d.col, .int .i64 d.row, .string ⟨d.text.toArray⟩, .int .i64 (d.frm : Int)] 61)).drew
    with_reducible repeat' (first | exact hd | refine Below.setCell ?_ (by first | exact hB | (show base ≤ _ + 1; omega) | (show base ≤ _ + 1 + 1; omega)) _)
  simp [Leaves, settle, results, Tryz.results18, go_sem, q0, q1, q2, q3, q4, q5, q6, q7, q8, q9]
  exact HBf
set_option maxHeartbeats 4000000 in
set_option maxRecDepth 100000 in
theorem pformula_whole {base : Nat} {w : World} (hB : base ≤ w.heap.size) (hS : Strs base base w) {L : List Tok} {E : Nat} (hL : L.length ≤ 300) (hG : GoodXL L) {v : Value} (hrow : w.ownsRow base 61 6 v L.length (toksC L)) {t : Tr} {q : Nat} (ht : treeT L E = some (.ok t q)) {d : Tok} (hd : tokAt L E q = d) (hk0 : (d.kind != 0) = false) :
    Calls Tryz.prog 18 #[v, .int .i64 (E : Int)] w fun e w' => (∃ x : V8, e = .returned (.tuple #[x.val, .int .i64 0, .int .i64 0]) ∧ TV w' (fun b => base ≤ b) x (some t)) ∧ Below base w w' := by
  obtain ⟨i0, hi0, hz0, hz1, hz2⟩ := info_parts utok_info2
  have HI := Lib.hid hi0
  have HZ0 := Lib.hid hz0
  have HZ1 := Lib.hid hz1
  have HZ2 := Lib.hid hz2
  have HRow := Lib.hid hrow
  have HS := Lib.hid hS
  have HT := Lib.hid ht
  have HBN := Lib.hid hB
  clear hi0 hz0 hz1 hz2 hrow hS ht
  have hmf : ∀ (fn : Fn) (first cap : Array Value) (w : World), (Instr.makeFunc fn first cap).run Tryz.prog w = .ok (.func fn first cap) w := fun _ _ _ _ => rfl
  go_enter_defers Tryz.func18, Tryz.ntmps18
  go_wp2_with (at_builtin
               refine wpList_append_own_at _ rfl _ _ 39 rfl base 61 i0 (.agg #[.int .i64 0, .int .i64 0, .int .i64 0, .int .i64 0, .string ⟨#[]⟩, .int .i64 0]) 6 56 Tryz.underlying39 HI.out HZ0.out HZ1.out HZ2.out rfl (by decide) _ _ _ rfl ((((HRow.out.alloc _).alloc _).alloc _).alloc _)
                 ⟨w.heap.size + 1 + 1 + 1, 0, none⟩ 1 1 (tokL (endTok E)) rfl rfl ?c1 ?c2 ?c3 ?c4 ?c5 ?_)
  case c1 =>
    intro j u hj
    match j, hj with
    | 0, hj => simp [tokL, endTok] at hj; subst hj; simp [Addr.add, go_sem]
    | 1, hj => simp [tokL, endTok] at hj; subst hj; simp [Addr.add, go_sem]
    | 2, hj => simp [tokL, endTok] at hj; subst hj; simp [Addr.add, go_sem]
    | 3, hj => simp [tokL, endTok] at hj; subst hj; simp [Addr.add, go_sem]
    | 4, hj => simp [tokL, endTok] at hj; subst hj; simp [Addr.add, go_sem]
    | 5, hj => simp [tokL, endTok] at hj; subst hj; simp [Addr.add, go_sem]
  case c2 => intro u hu; simp [tokL, endTok] at hu; rcases hu with rfl | rfl | rfl | rfl | rfl | rfl <;> rfl
  case c3 => unfold maxLen; omega
  case c4 => omega
  case c5 => simp; omega
  intro v' w5 hown5 hg5 _ hat5
  have hob : ∀ k, v.ownBlock = some k → base ≤ k ∧ k < w.heap.size := HRow.out.lt
  rw [← toksC_snoc] at hown5
  have hown6 : w5.ownsRow base 61 6 v' (withEnd L E).length (toksC (withEnd L E)) := by rw [withEnd_len]; exact hown5
  obtain ⟨g, cap, hv', hbg, hgl, hcl, hcm, hat⟩ := tok_shape2 hown6 (by simp [withEnd])
  rw [withEnd_len] at hv' hcl
  subst hv'
  clear hown5 hown6
  have hs5 : w.heap.size + 4 ≤ w5.heap.size := by have := hg5.size; simp at this; omega
  have hne : ∀ k, w.heap.size ≤ k → some k ≠ v.ownBlock := fun k hk e => by have := (hob k e.symm).2; omega
  have t0 := hg5.cell (a := ⟨w.heap.size, 0, none⟩) (v := .int .i64 0) (by simp [go_sem]) (hne _ (by first | omega | simp))
  have t1 := hg5.cell (a := ⟨w.heap.size, 1, none⟩) (v := .int .i64 0) (by simp [go_sem]) (hne _ (by first | omega | simp))
  have t2 := hg5.cell (a := ⟨w.heap.size, 2, none⟩) (v := .int .i64 0) (by simp [go_sem]) (hne _ (by first | omega | simp))
  have t3 := hg5.cell (a := ⟨w.heap.size, 3, none⟩) (v := .int .i64 0) (by simp [go_sem]) (hne _ (by first | omega | simp))
  have t4 := hg5.cell (a := ⟨w.heap.size, 4, none⟩) (v := .int .i64 0) (by simp [go_sem]) (hne _ (by first | omega | simp))
  have t5 := hg5.cell (a := ⟨w.heap.size, 5, none⟩) (v := .int .i64 0) (by simp [go_sem]) (hne _ (by first | omega | simp))
  have t6 := hg5.cell (a := ⟨w.heap.size, 6, none⟩) (v := .string ⟨#[]⟩) (by simp [go_sem]) (hne _ (by first | omega | simp))
  have t7 := hg5.cell (a := ⟨w.heap.size, 7, none⟩) (v := .slice none 0 0) (by simp [go_sem]) (hne _ (by first | omega | simp))
  have tf := hg5.cell (a := ⟨w.heap.size + 1, 0, none⟩) (v := .int .i64 0) (by simp [go_sem]) (hne _ (by first | omega | simp))
  have te := hg5.cell (a := ⟨w.heap.size + 1 + 1, 0, none⟩) (v := .int .i64 0) (by simp [go_sem]) (hne _ (by first | omega | (simp; omega)))
  have tz : ∀ j, w5.frozen? ⟨w.heap.size, j, none⟩ = false := fun j => by
    rw [World.frozen?_of_block (a := ⟨w.heap.size, j, none⟩) (hg5.block w.heap.size (by first | omega | (simp; omega)) (hne _ (by first | omega | simp)))]; simp [go_sem]
  have fz : w5.frozen? ⟨w.heap.size + 1, 0, none⟩ = false := by
    rw [World.frozen?_of_block (a := ⟨w.heap.size + 1, 0, none⟩) (hg5.block (w.heap.size + 1) (by first | omega | simp | (simp; omega)) (hne _ (by first | omega | simp)))]; simp [go_sem]
  have ez : w5.frozen? ⟨w.heap.size + 1 + 1, 0, none⟩ = false := by
    rw [World.frozen?_of_block (a := ⟨w.heap.size + 1 + 1, 0, none⟩) (hg5.block (w.heap.size + 1 + 1) (by first | omega | simp | (simp; omega)) (hne _ (by first | omega | (simp; omega))))]; simp [go_sem]
  have hb5 : Below base w w5 := by
    refine ((((((Below.refl _ _).alloc hB _).alloc (by simp; omega) _).alloc (by simp; omega) _).alloc (by simp; omega) _).grown hg5 (by simp; omega) (fun k hk => ?_))
    exact (hob k hk).1
  have HS5 : Hid (Strs w5.heap.size (w5.heap.size + 1) (w5.alloc (.cells #[.slice (some ⟨g, 0, none⟩) (L.length + 1) cap] 66))) := Lib.hid ((HS.out.keep fun p u _ hl hv => kc_alloc' (by rw [hb5.cell hl]; exact hv)).up (by omega) (by omega))
  have HRL : Hid (RL (w5.alloc (.cells #[.slice (some ⟨g, 0, none⟩) (L.length + 1) cap] 66)) w5.heap.size g cap (w5.heap.size + 1) L E 0) := Lib.hid
    ⟨by simp [go_sem], by simp [go_sem], by omega, by simp; omega, Nat.zero_le _, hcl, fun i t hi => by
      obtain ⟨a, b, c, d, e, f⟩ := hat i t hi
      exact ⟨kc_alloc a _, kc_alloc b _, kc_alloc c _, kc_alloc d _, kc_alloc e _, kc_alloc f _⟩, HS5.out, by omega, by omega, by simp⟩
  have hgT : g ≠ w.heap.size := by
    rintro rfl
    rcases hat5 with h | h
    · exact hne _ (Nat.le_refl _) h
    · have h2 := Option.some.inj h
      simp at h2
      omega
  have HgT := Lib.hid hgT
  have HB5 := Lib.hid hb5
  clear hgT hg5 hat5 hat hb5 hne hob HRow HI HZ0 HZ1 HZ2 HS5
  have hL2 : L.length ≤ 1000 := by omega
  go_wp2_with fail
  refine (pexpr_any hL2 hcm hG _ _ HRL.out HT.out).mono ?_; rintro e w6 ⟨⟨x0, x1, x2, x3, x4, x5, xw, xA, xl, xc⟩, rfl, v6, r6, b6⟩
  have t60 := b6.cell (show w.heap.size ≠ w5.heap.size by omega) (kc_alloc t0 _)
  have t61 := b6.cell (show w.heap.size ≠ w5.heap.size by omega) (kc_alloc t1 _)
  have t62 := b6.cell (show w.heap.size ≠ w5.heap.size by omega) (kc_alloc t2 _)
  have t63 := b6.cell (show w.heap.size ≠ w5.heap.size by omega) (kc_alloc t3 _)
  have t64 := b6.cell (show w.heap.size ≠ w5.heap.size by omega) (kc_alloc t4 _)
  have t65 := b6.cell (show w.heap.size ≠ w5.heap.size by omega) (kc_alloc t5 _)
  have t66 := b6.cell (show w.heap.size ≠ w5.heap.size by omega) (kc_alloc t6 _)
  have t67 := b6.cell (show w.heap.size ≠ w5.heap.size by omega) (kc_alloc t7 _)
  have tf6 := b6.cell (show w.heap.size + 1 ≠ w5.heap.size by omega) (kc_alloc tf _)
  have te6 := b6.cell (show w.heap.size + 1 + 1 ≠ w5.heap.size by omega) (kc_alloc te _)
  have tz6 : ∀ j, w6.frozen? ⟨w.heap.size, j, none⟩ = false := fun j => b6.frozen (show w.heap.size ≠ w5.heap.size by omega) (by simp; omega) (kf_alloc (tz j) (by omega) _)
  have fz6 := b6.frozen (show w.heap.size + 1 ≠ w5.heap.size by omega) (by simp; omega) (kf_alloc fz (by omega) _)
  have ez6 := b6.frozen (show w.heap.size + 1 + 1 ≠ w5.heap.size by omega) (by simp; omega) (kf_alloc ez (by omega) _)
  have HB6 : Hid (Below base w w6) := Lib.hid (HB5.out.trans (((Below.refl _ _).alloc (by omega) _).trans (b6.below (by omega) (by simp; omega))))
  have HV6 : Hid (TV w6 (fun b => w5.heap.size < b) ⟨x0, x1, x2, x3, x4, x5, xw, xA, xl, xc⟩ (some t)) := Lib.hid (v6.imp fun b hb => by have hb2 : _ ≤ b := hb; simp at hb2; omega)
  have hs6 : Strs base base w6 := HS.out.keep fun p u _ hl hv => by rw [HB6.out.cell hl]; exact hv
  have HR6 := Lib.hid (And.intro r6 hs6)
  have HRS : Hid (RL (((((((((w6).setCell ⟨w.heap.size, 0, none⟩ (.int .i64 x0)).setCell ⟨w.heap.size, 1, none⟩ (.int .i64 x1)).setCell ⟨w.heap.size, 2, none⟩ (.int .i64 x2)).setCell ⟨w.heap.size, 3, none⟩ (.int .i64 x3)).setCell ⟨w.heap.size, 4, none⟩ (.int .i64 x4)).setCell ⟨w.heap.size, 5, none⟩ (.int .i64 x5)).setCell ⟨w.heap.size, 6, none⟩ (.string xw)).setCell ⟨w.heap.size, 7, none⟩ (.slice xA xl xc)) w5.heap.size g cap (w5.heap.size + 1) L E q ∧ Strs base base (((((((((w6).setCell ⟨w.heap.size, 0, none⟩ (.int .i64 x0)).setCell ⟨w.heap.size, 1, none⟩ (.int .i64 x1)).setCell ⟨w.heap.size, 2, none⟩ (.int .i64 x2)).setCell ⟨w.heap.size, 3, none⟩ (.int .i64 x3)).setCell ⟨w.heap.size, 4, none⟩ (.int .i64 x4)).setCell ⟨w.heap.size, 5, none⟩ (.int .i64 x5)).setCell ⟨w.heap.size, 6, none⟩ (.string xw)).setCell ⟨w.heap.size, 7, none⟩ (.slice xA xl xc))) := Lib.hid (by
    with_reducible repeat' (first | exact HR6.out | refine RLS.set ?_ hB (by omega) (Ne.symm HgT.out) (by omega) (by omega) _ _))
  have HN := Lib.hid (pnext_any hL2 hcm HRS.out.1)
  clear hs6
  have hl6 := b6.size
  simp at hl6
  clear t0 t1 t2 t3 t4 t5 t6 t7 tf te tz fz ez b6 HRL HB5 HT r6 v6
  have z60 := tz6 0
  have z61 := tz6 1
  have z62 := tz6 2
  have z63 := tz6 3
  have z64 := tz6 4
  have z65 := tz6 5
  have z66 := tz6 6
  have z67 := tz6 7
  dsimp only [V8.val]
  go_wp2_with fail
  rw [hd] at HN
  unfold tokV at HN
  refine HN.out.mono ?_; rintro e w7 ⟨rfl, _, b7⟩
  have Ht7 : C8 w7 (w.heap.size) (.int .i64 x0) (.int .i64 x1) (.int .i64 x2) (.int .i64 x3) (.int .i64 x4) (.int .i64 x5) (.string xw) (.slice xA xl xc) := by refine ⟨?_, ?_, ?_, ?_, ?_, ?_, ?_, ?_⟩ <;> exact b7.cell (show w.heap.size ≠ w5.heap.size by omega) (by simp [go_sem, t60, t61, t62, t63, t64, t65, t66, t67])
  obtain ⟨t70, t71, t72, t73, t74, t75, t76, t77⟩ := Ht7
  have tf7 := b7.cell (show w.heap.size + 1 ≠ w5.heap.size by omega) (show (((((((((w6).setCell ⟨w.heap.size, 0, none⟩ (.int .i64 x0)).setCell ⟨w.heap.size, 1, none⟩ (.int .i64 x1)).setCell ⟨w.heap.size, 2, none⟩ (.int .i64 x2)).setCell ⟨w.heap.size, 3, none⟩ (.int .i64 x3)).setCell ⟨w.heap.size, 4, none⟩ (.int .i64 x4)).setCell ⟨w.heap.size, 5, none⟩ (.int .i64 x5)).setCell ⟨w.heap.size, 6, none⟩ (.string xw)).setCell ⟨w.heap.size, 7, none⟩ (.slice xA xl xc)).cell? ⟨w.heap.size + 1, 0, none⟩ = some (.int .i64 0) by (with_reducible repeat' (first | exact tf6 | refine zCs ?_ (by omega) _ _)))
  have te7 := b7.cell (show w.heap.size + 1 + 1 ≠ w5.heap.size by omega) (show (((((((((w6).setCell ⟨w.heap.size, 0, none⟩ (.int .i64 x0)).setCell ⟨w.heap.size, 1, none⟩ (.int .i64 x1)).setCell ⟨w.heap.size, 2, none⟩ (.int .i64 x2)).setCell ⟨w.heap.size, 3, none⟩ (.int .i64 x3)).setCell ⟨w.heap.size, 4, none⟩ (.int .i64 x4)).setCell ⟨w.heap.size, 5, none⟩ (.int .i64 x5)).setCell ⟨w.heap.size, 6, none⟩ (.string xw)).setCell ⟨w.heap.size, 7, none⟩ (.slice xA xl xc)).cell? ⟨w.heap.size + 1 + 1, 0, none⟩ = some (.int .i64 0) by (with_reducible repeat' (first | exact te6 | refine zCs ?_ (by omega) _ _)))
  have tz7 : ∀ j, w7.frozen? ⟨w.heap.size, j, none⟩ = false := fun j => b7.frozen (show w.heap.size ≠ w5.heap.size by omega) (by simp; omega) (by simp [tz6])
  have fz7 : w7.frozen? ⟨w.heap.size + 1, 0, none⟩ = false := b7.frozen (show w.heap.size + 1 ≠ w5.heap.size by omega) (by simp; omega) (by simp [fz6])
  have ez7 : w7.frozen? ⟨w.heap.size + 1 + 1, 0, none⟩ = false := b7.frozen (show w.heap.size + 1 + 1 ≠ w5.heap.size by omega) (by simp; omega) (by simp [ez6])
  have hl7 := b7.size
  simp at hl7
  have HB7 : Hid (Below base w w7) := Lib.hid (by
    refine Below.trans ?_ (b7.below (n := base) (by omega) (by simp; have := HB6.out.size; omega))
    with_reducible repeat' (first | exact HB6.out | refine Below.setCell ?_ hB _))
  have HV7 : Hid (TV w7 (fun b => w5.heap.size < b) ⟨x0, x1, x2, x3, x4, x5, xw, xA, xl, xc⟩ (some t)) := Lib.hid (HV6.out.kept (Kept.but (by (with_reducible repeat' (first | exact Kept.refl _ _ | refine Kept.set ?_ (.inl (by show ¬ (w5.heap.size < w.heap.size); omega)) _ _))) b7 (by show ¬ (w5.heap.size < w5.heap.size); omega)))
  clear HV6
  clear b7 HRS HR6 t60 z60 t61 z61 t62 z62 t63 z63 t64 z64 t65 z65 t66 z66 t67 z67 tf6 te6 tz6 fz6 ez6 HN HB6
  have hl8 : w.heap.size < w7.heap.size := by omega
  have hl9 : w.heap.size + 1 < w7.heap.size := by omega
  have hl10 : w.heap.size + 1 + 1 < w7.heap.size := by omega
  have z70 := tz7 0
  have z71 := tz7 1
  have z72 := tz7 2
  have z73 := tz7 3
  have z74 := tz7 4
  have z75 := tz7 5
  have z76 := tz7 6
  have z77 := tz7 7
  go_wp2_with fail
  refine leaves_cons (f := 31) (args := #[.pointer (some ⟨w.heap.size, 0, none⟩), .pointer (some ⟨w.heap.size + 1, 0, none⟩), .pointer (some ⟨w.heap.size + 1 + 1, 0, none⟩)]) (by simp) (by simp [go_sem]) ?_
  refine (fcatch_idle _ _ _ _).mono ?_
  rintro e u' w8 ⟨rfl, rfl, rfl⟩
  refine ⟨.tuple #[.agg #[.int .i64 x0, .int .i64 x1, .int .i64 x2, .int .i64 x3, .int .i64 x4, .int .i64 x5, .string xw, .slice xA xl xc], .int .i64 0, .int .i64 0], by simp [results, Tryz.results18, go_sem, t70, t71, t72, t73, t74, t75, t76, t77, tf7, te7, hl8, hl9, hl10], ⟨⟨x0, x1, x2, x3, x4, x5, xw, xA, xl, xc⟩, rfl, ?_⟩, ?_⟩
  · refine TV.imp (P := fun b => w5.heap.size < b) (HV7.out.kept ?_) fun b (hb : w5.heap.size < b) => by show base ≤ b; omega
    with_reducible repeat' (first | exact Kept.refl _ _ | refine Kept.alloc ?_ _ | refine Kept.set ?_ (.inl (by show ¬ (w5.heap.size < _); omega)) _ _)
  · with_reducible repeat' (first | exact HB7.out | refine Below.alloc ?_ (by first | omega | (simp; omega)) _ | refine Below.setCell ?_ (by first | exact hB | (show base ≤ _ + 1; omega) | (show base ≤ _ + 1 + 1; omega)) _)
end Go.Proofs.YtahdlijkohmdfaaGreatDoor
