/- Texts joined: TqFb, TqFl, TqFc, TqFm. -/
import Derived.Test.YthfbhinlgoaajaaDoorDj12
import Derived.Test.YthfbhinlgoaajaaDoorDj02
import Derived.Test.YthfbhinlgoaajaaDoorDj04
set_option linter.all false
namespace Go.Proofs.YthfbhinlgoaajaaDoor
open Go.RowKit Go.Shelf
set_option maxHeartbeats 16000000 in
set_option maxRecDepth 10000 in
theorem pn_leaf {w : World} {base bL bM : Nat} {v : Value} {L : List NdM} {R : Nat → Prop} (hM : MD w base bL bM v L R) (x : En) (lv : Int) {A : Option Addr} {ca : Nat} {Q : Nat → Prop} (hl : RowE w Q A [x]) (hlen : (fl (leafT x) (L.map NdM.n)).length ≤ 1000000) :
    Calls Tryd.prog 40 #[.slice A 1 ca, .int .i64 lv, .pointer (some ⟨bL, 0, none⟩), .pointer (some ⟨bM, 0, none⟩)] w fun e w' => NP w base bL bM v L R (leafT x) e w' := by
  obtain ⟨i0, hi0, hz0, hz1, hz2⟩ := info_parts pnd_info
  have hbW : Below w.heap.size w (w.alloc (.cells #[.int .i64 0, .slice none 0 0, .slice none 0 0, .string ⟨#[]⟩] 78)) := (Below.refl _ _).alloc (Nat.le_refl _) _
  have hblk := heap_alloc_new w (.cells #[.int .i64 0, .slice none 0 0, .slice none 0 0, .string ⟨#[]⟩] 78)
  have hzW : (w.alloc (.cells #[.int .i64 0, .slice none 0 0, .slice none 0 0, .string ⟨#[]⟩] 78)).heap.size = w.heap.size + 1 := by simp
  have HM := Lib.hid hM
  have HM0 := Lib.hid (hM.below hbW)
  have HbW := Lib.hid hbW
  have Hblk := Lib.hid hblk
  have HzW := Lib.hid hzW
  have hbs := hM.bs
  have hlt : 0 < [x].length := by simp
  obtain ⟨g, o, rfl, hgQ, hgl, hat⟩ := hl.at hlt
  obtain ⟨q0, q1⟩ := hat.two (i := 0) (x := x) rfl
  rw [Nat.zero_mul, Nat.add_zero] at q0
  rw [Nat.zero_mul, Nat.add_zero] at q1
  have k0 := keep_cell hbW q0
  have k1 := keep_cell hbW q1
  clear hat q0 q1 hl
  clear hM hbW hblk hzW
  go_enter Tryd.func40, Tryd.ntmps40
  go_upto_region 1 with fail
  go_cut [7] from 7 to 7 (fun s7 wx => s7 = .pointer (some ⟨w.heap.size, 0, none⟩) ∧ wx = w.alloc (.cells #[.int .i64 0, .slice none 0 0, .slice none 0 0, .string ⟨#[]⟩] 78))
  case first =>
    go_wp2_with fail
    go_meet
    case rel => exact ⟨rfl, rfl⟩
  case rest =>
    obtain ⟨rfl, rfl⟩ := hcut
    generalize w.alloc (.cells #[.int .i64 0, .slice none 0 0, .slice none 0 0, .string ⟨#[]⟩] 78) = W0 at *
    have hX : w.heap.size < W0.heap.size := by rw [HzW.out]; omega
    have x0 : W0.cell? ⟨w.heap.size, 0, none⟩ = some (.int .i64 0) := Lib.cell_of_heap Hblk.out 0
    have x1 : W0.cell? ⟨w.heap.size, 1, none⟩ = some (.slice none 0 0) := Lib.cell_of_heap Hblk.out 1
    have x2 : W0.cell? ⟨w.heap.size, 2, none⟩ = some (.slice none 0 0) := Lib.cell_of_heap Hblk.out 2
    have x3 : W0.cell? ⟨w.heap.size, 3, none⟩ = some (.string ⟨#[]⟩) := Lib.cell_of_heap Hblk.out 3
    have f0 : W0.frozen? ⟨w.heap.size, 0, none⟩ = false := by unfold World.frozen?; rw [Hblk.out]; simp
    have f1 : W0.frozen? ⟨w.heap.size, 1, none⟩ = false := by unfold World.frozen?; rw [Hblk.out]; simp
    have f2 : W0.frozen? ⟨w.heap.size, 2, none⟩ = false := by unfold World.frozen?; rw [Hblk.out]; simp
    have f3 : W0.frozen? ⟨w.heap.size, 3, none⟩ = false := by unfold World.frozen?; rw [Hblk.out]; simp
    go_step
    go_step
    go_cut [] from 8 to 81 (fun wx => MidN w wx w.heap.size base bL bM v L R (leafT x))
    case first =>
      have k0z := Lib.lt_of_cell k0
      go_wp2_with fail
      go_region_law (first | fail)
      all_goals
        go_wp2_with fail
        go_meet
        case rel => exact leaf_mid HM.out HM0.out HbW.out HzW.out x0 x1 x2 x3
    case rest =>
      clear x0 x1 x2 x3 f0 f1 f2 f3 Hblk HM0 HbW HzW hX
      obtain ⟨n, A1, ca1, B1, cb1, v', L', R', hMD, ⟨x0, x1, x2, x3⟩, hA, hB, hf, hR, hv, hbut⟩ := hcut
      change wc.cell? ⟨w.heap.size, 0, none⟩ = _ at x0
      change wc.cell? ⟨w.heap.size, 1, none⟩ = _ at x1
      change wc.cell? ⟨w.heap.size, 2, none⟩ = _ at x2
      change wc.cell? ⟨w.heap.size, 3, none⟩ = _ at x3
      have m0 := hMD.made
      have hbs1 := hMD.bs
      have zX : w.heap.size < wc.heap.size := Lib.lt_of_cell x0
      have zM : bM < wc.heap.size := Lib.lt_of_cell m0
      have hlen' : L'.length + 1 ≤ 1000000 := by have := congrArg List.length hf; simp only [List.length_append, List.length_map, List.length_cons, List.length_nil] at this; omega
      obtain ⟨N, hN⟩ : ∃ N, L'.length + 1 = N := ⟨_, rfl⟩
      have HN := Lib.hid hN
      have HMD := Lib.hid hMD
      have HA := Lib.hid hA
      have HB := Lib.hid hB
      have HF := Lib.hid hf
      have HR := Lib.hid hR
      have HV := Lib.hid hv
      have HBu := Lib.hid hbut
      have hN1 : (N : Int) ≤ 1000000 := by omega
      have hNl : N ≤ 1000000 := by omega
      clear hMD hA hB hf hR hv hbut hN
      go_wp2_with (at_builtin; refine of_stop ?_)
      refine stop_of ?_
      refine wpList_append_rows (f := ndW) (n := 4) (E := 78) (nb := 72) (X := L') (base := base) rfl _ _ rfl rfl (OwnR.below HMD.out.own (by with_reducible repeat' (first | exact Below.refl _ _ | exact Nat.le_refl _ | refine Below.drew ?_ | refine Below.alloc ?_ ?_ _))) (L2 := [(⟨n, A1, ca1, B1, cb1⟩ : NdM)]) rfl (one_row wc (⟨n, A1, ca1, B1, cb1⟩ : NdM)) (by simp) (N := N) HN.out (Z := L' ++ [(⟨n, A1, ca1, B1, cb1⟩ : NdM)]) rfl Tryd.underlying70 hi0 hz0 hz1 hz2 rfl (by decide) (by decide) (fun _ => rfl) ndW_oneP (by omega) (by simp; omega) ?_
      intro g4 k4 w4 ho4 hg4 hat4 hl4
      have hNP := MD.app HMD.out HA.out HB.out HF.out HR.out HV.out HBu.out (by with_reducible repeat' (first | exact Below.refl _ _ | exact Nat.le_refl _ | refine Below.drew ?_ | refine Below.alloc ?_ ?_ _)) ho4 hg4 (hat4.elim (fun e => .inl e.symm) (fun e => .inr ⟨g4, rfl, Nat.le_of_eq e.symm⟩))
      obtain ⟨c4, f4⟩ := MD.grownM HMD.out (by with_reducible repeat' (first | exact Below.refl _ _ | exact Nat.le_refl _ | refine Below.drew ?_ | refine Below.alloc ?_ ?_ _)) hg4
      rw [HN.out] at hNP
      have HNP := Lib.hid hNP
      clear hNP ho4 hg4 hat4 hl4 HMD HA HB HF HR HV HBu m0 x0 x1 x2 x3
      go_wp2_with fail
      go_ret
      exact HNP.out
end Go.Proofs.YthfbhinlgoaajaaDoor
namespace Go.Proofs.YthfbhinlgoaajaaDoor
open Go.RowKit Go.Shelf
structure LN (w wr : World) (base bL bM : Nat) (v : Value) (L : List NdM) (R : Nat → Prop) (ts : List Tr) (vR : Value) (k : Int) (vN : Value) (v' : Value) (L' : List NdM) (R' : Nat → Prop) : Prop where
  bs : base ≤ w.heap.size
  md : MD wr base bL bM v' L' R'
  eq : L'.map NdM.n = (flL ts (L.map NdM.n) []).1
  own : OwnR 3 1 inW (w.heap.size + 1) wr vR (flL ts (L.map NdM.n) []).2
  apart : ∀ g, vR.ownBlock = some g → v'.ownBlock ≠ some g ∧ ¬ R' g
  rR : ∀ g, R' g → R g ∨ w.heap.size ≤ g
  rX : ¬ R' w.heap.size
  v2 : v'.ownBlock = v.ownBlock ∨ ∃ k, v'.ownBlock = some k ∧ w.heap.size ≤ k
  vX : v'.ownBlock ≠ some w.heap.size
  but : ButS (ChM bM v) w wr
  x0 : wr.cell? ⟨w.heap.size, 0, none⟩ = some (.int .i64 k)
  x1 : wr.cell? ⟨w.heap.size, 1, none⟩ = some vR
  x2 : wr.cell? ⟨w.heap.size, 2, none⟩ = some vN
  x3 : wr.cell? ⟨w.heap.size, 3, none⟩ = some (.string ⟨#[]⟩)
  fX : ∀ j, wr.frozen? ⟨w.heap.size, j, none⟩ = false
theorem LN.below {w wr w' : World} {base bL bM : Nat} {v : Value} {L : List NdM} {R : Nat → Prop} {ts : List Tr} {vR : Value} {k : Int} {vN v' : Value} {L' : List NdM} {R' : Nat → Prop} (h : LN w wr base bL bM v L R ts vR k vN v' L' R') (hb : Below wr.heap.size wr w') : LN w w' base bL bM v L R ts vR k vN v' L' R' :=
  { h with
    md := h.md.below hb
    own := h.own.below hb
    but := h.but.trans (ButS.of_below hb)
    x0 := keep_cell hb h.x0
    x1 := keep_cell hb h.x1
    x2 := keep_cell hb h.x2
    x3 := keep_cell hb h.x3
    fX := fun j => keep_frozen (p := ⟨w.heap.size, j, none⟩) hb (show w.heap.size < wr.heap.size from Lib.lt_of_cell h.x0) (h.fX j) }
section
variable {w wr w0 w1 w2 w4 : World} {base bL bM : Nat} {v : Value} {L : List NdM} {R : Nat → Prop} {ts : List Tr} {vR : Value} {k : Int} {vN v' : Value} {L' : List NdM} {R' : Nat → Prop}
theorem LN.lt (h : LN w wr base bL bM v L R ts vR k vN v' L' R') : w.heap.size < wr.heap.size := Lib.lt_of_cell h.x0
theorem LN.call (h : LN w wr base bL bM v L R ts vR k vN v' L' R') (hb0 : Below wr.heap.size wr w0) (hbu : ButS (ChM bM v') w0 w1) :
    w1.cell? ⟨w.heap.size, 1, none⟩ = some vR ∧ OwnR 3 1 inW (w.heap.size + 1) w1 vR (flL ts (L.map NdM.n) []).2 := by
  have h0 := h.below hb0
  have hX : ¬ ChM bM v' w.heap.size := fun e => by
    rcases e with e | e
    · have := h.md.bl.2.1
      have := h.bs
      omega
    · exact h.vX e
  exact ⟨hbu.cell (p := ⟨w.heap.size, 1, none⟩) hX h0.x1, OwnR.block h0.own fun g hg => hbu.block g (World.ownsRow.lt h0.own g hg).2 fun e => by
    rcases e with e | e
    · have := (World.ownsRow.lt h0.own g hg).1
      have := h.md.bl.2.1
      have := h.bs
      omega
    · exact (h.apart g hg).1 e⟩
theorem LN.next (h : LN w wr base bL bM v L R ts vR k vN v' L' R')  (hb0 : Below wr.heap.size wr w0) {t : Tr} {v2 : Value} {L2 : List NdM} {R2 : Nat → Prop} (hM2 : MD w1 base bL bM v2 L2 R2) (hf2 : L2.map NdM.n = fl t (L'.map NdM.n))
    (hR2 : ∀ g, R2 g → R' g ∨ w0.heap.size ≤ g) (hv2 : v2.ownBlock = v'.ownBlock ∨ ∃ k, v2.ownBlock = some k ∧ w0.heap.size ≤ k) (hbu : ButS (ChM bM v') w0 w1) (hb2 : Below w1.heap.size w1 w2)
    {vR4 : Value} (ho : OwnR 3 1 inW (w.heap.size + 1) w4 vR4 ((flL ts (L.map NdM.n) []).2 ++ [-(L2.length : Int)])) (hg : w2.grownBy w4 vR.ownBlock) (hat : vR4.ownBlock = vR.ownBlock ∨ ∃ k, vR4.ownBlock = some k ∧ w2.heap.size ≤ k) :
    LN w (w4.setCell ⟨w.heap.size, 1, none⟩ vR4) base bL bM v L R (ts ++ [t]) vR4 k vN v2 L2 R2 ∧ ButS (fun g => ChM bM v' g ∨ vR.ownBlock = some g ∨ g = w.heap.size) wr (w4.setCell ⟨w.heap.size, 1, none⟩ vR4) := by
  have h0 := h.below hb0
  have hlt0 := h0.lt
  have hs0 := hb0.size
  have hs1 := hbu.size
  have hs2 := hb2.size
  have hs4 := hg.size
  have hvR := fun g (e : vR.ownBlock = some g) => World.ownsRow.lt h.own g e
  have hbs := h.bs
  have hbl := h.md.bl
  -- from the child's call on, all but the Refs' own block and the node's stay
  have hbu4 : ButS (fun g => vR.ownBlock = some g ∨ g = w.heap.size) w1 (w4.setCell ⟨w.heap.size, 1, none⟩ vR4) :=
    ((ButS.of_below hb2).grown hg fun k hk => .inl (.inl hk)).setCell (p := ⟨w.heap.size, 1, none⟩) (.inl (.inr rfl)) _
  have hv2g : ∀ g, g < w0.heap.size → v2.ownBlock = some g → v'.ownBlock = some g := fun g hgl e => by
    rcases hv2 with q | ⟨j, q, hj⟩
    · rw [← q]; exact e
    · rw [q] at e; have := Option.some.inj e; omega
  have hR2g : ∀ g, g < w0.heap.size → R2 g → R' g := fun g hgl e => by
    rcases hR2 g e with q | q
    · exact q
    · omega
  have hM4 : MD (w4.setCell ⟨w.heap.size, 1, none⟩ vR4) base bL bM v2 L2 R2 := hM2.but hbu4 fun g hg => by
    rcases hg with hg | hg
    · have := hvR g hg
      exact ⟨by omega, fun e => (h.apart g hg).1 (hv2g g (by omega) e), fun e => (h.apart g hg).2 (hR2g g (by omega) e)⟩
    · subst hg
      exact ⟨hbs, fun e => h.vX (hv2g _ (by omega) e), fun e => h.rX (hR2g _ (by omega) e)⟩
  have hX : ¬ ChM bM v' w.heap.size := fun e => by
    rcases e with e | e
    · omega
    · exact h.vX e
  have hgX : w4.heap[w.heap.size]? = w1.heap[w.heap.size]? := (hg.block _ (by omega) fun e => by have := (hvR w.heap.size (by first | exact e | exact e.symm)).1; omega).trans (hb2.block _ (by omega))
  have hc : ∀ (j : Nat) (u : Value), w0.cell? ⟨w.heap.size, j, none⟩ = some u → w4.cell? ⟨w.heap.size, j, none⟩ = some u := fun j u hu => by
    rw [World.cell?_of_block (w := w1) hgX]
    exact hbu.cell (p := ⟨w.heap.size, j, none⟩) hX hu
  have hne : ∀ i j : Nat, i ≠ j → (⟨w.heap.size, i, none⟩ : Addr) ≠ ⟨w.heap.size, j, none⟩ := fun i j hij e => hij (by have := congrArg Addr.off e; simpa using this)
  have hall : ButS (fun g => ChM bM v' g ∨ vR.ownBlock = some g ∨ g = w.heap.size) wr (w4.setCell ⟨w.heap.size, 1, none⟩ vR4) :=
    ((ButS.of_below hb0).trans (hbu.mono fun g hg => .inl hg)).trans (hbu4.mono fun g hg => .inr hg)
  have hv24 : v2.ownBlock = v.ownBlock ∨ ∃ k, v2.ownBlock = some k ∧ w.heap.size ≤ k := by
    rcases hv2 with q | ⟨j, q, hj⟩
    · rw [q]; exact h.v2
    · exact .inr ⟨j, q, by omega⟩
  refine ⟨⟨hbs, hM4, by rw [flL_snoc, hf2, h.eq], ?_, fun g hg4 => ?_, fun g hg2 => ?_, fun e => h.rX (hR2g _ (by omega) e), hv24, fun e => h.vX (hv2g _ (by omega) e), ?_, ?_, ?_, ?_, ?_, fun j => ?_⟩, hall⟩
  · rw [flL_snoc]
    have hl : (fl t (flL ts (L.map NdM.n) []).1).length = L2.length := by
      rw [← h.eq, ← hf2, List.length_map]
    show OwnR _ 1 inW _ _ _ ((flL ts (L.map NdM.n) []).2 ++ [-((fl t (flL ts (L.map NdM.n) []).1).length : Int)])
    rw [hl]
    have hb := (Below.refl 0 w4).setCell (p := (⟨w.heap.size, 1, none⟩ : Addr)) (Nat.zero_le _) vR4
    refine World.ownsRow.kept ho (row := some w.heap.size) ⟨hb.os, hb.tape, hb.output, hb.size, fun k _ hk => Below.heap_setCell w4 _ vR4 k fun e => hk (by rw [e])⟩ (.inr fun e => ?_)
    have := (World.ownsRow.lt ho w.heap.size (by first | exact e | exact e.symm)).1
    omega
  · rcases hat with q | ⟨j, q, hj⟩
    · rw [q] at hg4
      have := hvR g hg4
      exact ⟨fun e => (h.apart g hg4).1 (hv2g g (by omega) e), fun e => (h.apart g hg4).2 (hR2g g (by omega) e)⟩
    · rw [q] at hg4
      obtain rfl := Option.some.inj hg4
      refine ⟨fun e => ?_, fun e => ?_⟩
      · have := (World.ownsRow.lt hM2.own j e).2; omega
      · have := (hM2.rR j e).2.1; omega
  · rcases hR2 g hg2 with q | q
    · exact h.rR g q
    · exact .inr (by omega)
  · refine (h0.but.trans' hbu fun g hgl e => ?_).trans' hbu4 fun g hgl e => ?_
    · rcases e with e | e
      · exact .inl e
      · rcases h.v2 with q | ⟨j, q, hj⟩
        · exact .inr (by rw [← q]; exact e)
        · rw [q] at e; have := Option.some.inj e; omega
    · rcases e with e | e
      · have := hvR g e; omega
      · omega
  · rw [World.cell?_setCell_other _ _ _ _ (hne 1 0 (by decide))]; exact hc 0 _ h0.x0
  · exact World.cell?_setCell_same _ _ _ (hc 1 _ h0.x1)
  · rw [World.cell?_setCell_other _ _ _ _ (hne 1 2 (by decide))]; exact hc 2 _ h0.x2
  · rw [World.cell?_setCell_other _ _ _ _ (hne 1 3 (by decide))]; exact hc 3 _ h0.x3
  · rw [World.frozen?_setCell, World.frozen?_of_block (w := w1) hgX]
    exact hbu.frozen (p := ⟨w.heap.size, j, none⟩) hX hlt0 (h0.fX j)
theorem LN.grown (h : LN w wr base bL bM v L R ts vR k vN v' L' R') (hb0 : Below wr.heap.size wr w0) (hbu : ButS (ChM bM v') w0 w1) (hb2 : Below w1.heap.size w1 w2) (hg : w2.grownBy w4 vR.ownBlock) :
    w4.cell? ⟨w.heap.size, 1, none⟩ = some vR ∧ w4.frozen? ⟨w.heap.size, 1, none⟩ = false := by
  have h0 := h.below hb0
  have hlt0 := h0.lt
  have hs0 := hb0.size
  have hs1 := hbu.size
  have hs2 := hb2.size
  have hbs := h.bs
  have hbl := h.md.bl
  have hX : ¬ ChM bM v' w.heap.size := fun e => by
    rcases e with e | e
    · omega
    · exact h.vX e
  have hgX : w4.heap[w.heap.size]? = w1.heap[w.heap.size]? := (hg.block _ (by omega) fun e => by have := (World.ownsRow.lt h.own w.heap.size (by first | exact e | exact e.symm)).1; omega).trans (hb2.block _ (by omega))
  exact ⟨by rw [World.cell?_of_block (w := w1) hgX]; exact hbu.cell (p := ⟨w.heap.size, 1, none⟩) hX h0.x1, by rw [World.frozen?_of_block (w := w1) hgX]; exact hbu.frozen (p := ⟨w.heap.size, 1, none⟩) hX hlt0 (h0.fX 1)⟩
theorem LN.start {W1 : World} (hM : MD w base bL bM v L R) (hM1 : MD W1 base bL bM v L R) (hb : Below w.heap.size w W1) {u : Value} (x0 : W1.cell? ⟨w.heap.size, 0, none⟩ = some u) (x1 : W1.cell? ⟨w.heap.size, 1, none⟩ = some (.slice none 0 0)) (x2 : W1.cell? ⟨w.heap.size, 2, none⟩ = some vN) (x3 : W1.cell? ⟨w.heap.size, 3, none⟩ = some (.string ⟨#[]⟩)) (hf : ∀ j, W1.frozen? ⟨w.heap.size, j, none⟩ = false) :
    LN w (W1.setCell ⟨w.heap.size, 0, none⟩ (.int .i64 k)) base bL bM v L R [] (.slice none 0 0) k vN v L R := by
  have hbs := hM.bs
  have hne : ∀ i j : Nat, i ≠ j → (⟨w.heap.size, i, none⟩ : Addr) ≠ ⟨w.heap.size, j, none⟩ := fun i j hij e => hij (by have := congrArg Addr.off e; simpa using this)
  have hbu : ButS (fun g => g = w.heap.size) W1 (W1.setCell ⟨w.heap.size, 0, none⟩ (.int .i64 k)) := ButS.setCell (P := fun g => g = w.heap.size) (p := ⟨w.heap.size, 0, none⟩) (ButS.refl _ _) (.inl rfl) _
  have hown : ∀ g, v.ownBlock = some g → g < w.heap.size := fun g hg => (World.ownsRow.lt hM.own g hg).2
  exact {
    bs := hbs
    md := hM1.but hbu fun g hg => by
      subst hg
      exact ⟨hbs, fun e => by have := hown _ e; omega, fun e => by have := (hM.rR _ e).2.1; omega⟩
    eq := by rw [flL]
    own := by rw [flL]; exact World.ownsRow_nil _ _ _ _
    apart := fun g hg => by cases hg
    rR := fun g hg => .inl hg
    rX := fun e => by have := (hM.rR _ e).2.1; omega
    v2 := .inl rfl
    vX := fun e => by have := hown _ e; omega
    but := (ButS.of_below hb).trans' hbu fun g hgl e => by omega
    x0 := World.cell?_setCell_same _ _ _ x0
    x1 := by rw [World.cell?_setCell_other _ _ _ _ (hne 0 1 (by decide))]; exact x1
    x2 := by rw [World.cell?_setCell_other _ _ _ _ (hne 0 2 (by decide))]; exact x2
    x3 := by rw [World.cell?_setCell_other _ _ _ _ (hne 0 3 (by decide))]; exact x3
    fX := fun j => by rw [World.frozen?_setCell]; exact hf j }
theorem LN.done (h : LN w wr base bL bM v L R ts vR k vN v' L' R') {t : Tr} {nums : List Int} {B : Option Addr} {cb : Nat} {RN : Nat → Prop} (hvN : vN = .slice B nums.length cb) (hN : RowI wr RN B nums) (hRN : ∀ g, RN g → w.heap.size < g ∧ v'.ownBlock ≠ some g) (hf : ∀ out, fl t out = (flL ts out []).1 ++ [⟨k, (flL ts out []).2, nums, []⟩]) :
    MidN w wr w.heap.size base bL bM v L R t := by
  obtain ⟨A, ca, rfl, hr⟩ := own_rowI h.own
  have hbs := h.bs
  have hlR : (flL ts (L.map NdM.n) []).2.length = (⟨k, (flL ts (L.map NdM.n) []).2, nums, []⟩ : Nd).refs.length := rfl
  have hA : RowI wr (fun g => (.slice A (flL ts (L.map NdM.n) []).2.length ca : Value).ownBlock = some g) A (flL ts (L.map NdM.n) []).2 := by
    rcases hr with e | ⟨g, o, rfl, hg, hgl, hc⟩
    · exact .inl e
    · exact .inr ⟨g, o, rfl, rfl, hgl, hc⟩
  refine ⟨⟨k, (flL ts (L.map NdM.n) []).2, nums, []⟩, A, ca, B, cb, v', L', fun g => R' g ∨ (g < wr.heap.size ∧ ((.slice A (flL ts (L.map NdM.n) []).2.length ca : Value).ownBlock = some g ∨ RN g)), h.md.mono (fun g hg => .inl hg) fun g hg => ?_, ⟨h.x0, h.x1, by have := h.x2; rw [hvN] at this; exact this, h.x3⟩, hA.mono fun g hg hl => .inr ⟨hl, .inl hg⟩, hN.mono fun g hg hl => .inr ⟨hl, .inr hg⟩, by rw [h.eq]; exact (hf _).symm, fun g hg => ?_, h.v2, h.but⟩
  · rcases hg with hg | ⟨hl, hg | hg⟩
    · exact h.md.rR g hg
    · have := World.ownsRow.lt h.own g hg
      exact ⟨by omega, hl, (h.apart g hg).1⟩
    · have := hRN g hg
      exact ⟨by omega, hl, this.2⟩
  · rcases hg with hg | ⟨hl, hg | hg⟩
    · exact h.rR g hg
    · have := World.ownsRow.lt h.own g hg
      exact .inr (by omega)
    · have := (hRN g hg).1
      exact .inr (by omega)
end
end Go.Proofs.YthfbhinlgoaajaaDoor
namespace Go.Proofs.YthfbhinlgoaajaaDoor
open Go.RowKit Go.Shelf
set_option maxHeartbeats 16000000 in
set_option maxRecDepth 10000 in
theorem pn_buk {w : World} {base bL bM : Nat} {v : Value} {L : List NdM} {R : Nat → Prop} (hM : MD w base bL bM v L R) (l : List En) (h2 : 2 ≤ l.length) (hll : l.length ≤ 100000) (hoh : oneH l = true) (lv : Int) {A : Option Addr} {ca : Nat} (hca : l.length ≤ ca) {Q : Nat → Prop} (hl : RowE w Q A l) (hQ : ∀ g, Q g → ¬ ChM bM v g) (hlen : (fl (.mk 2 [] [] (l.map leafT)) (L.map NdM.n)).length ≤ 1000000) :
    Calls Tryd.prog 40 #[.slice A l.length ca, .int .i64 lv, .pointer (some ⟨bL, 0, none⟩), .pointer (some ⟨bM, 0, none⟩)] w fun e w' => NP w base bL bM v L R (.mk 2 [] [] (l.map leafT)) e w' := by
  obtain ⟨i0, hi0, hz0, hz1, hz2⟩ := info_parts pnd_info
  have hbW : Below w.heap.size w (w.alloc (.cells #[.int .i64 0, .slice none 0 0, .slice none 0 0, .string ⟨#[]⟩] 78)) := (Below.refl _ _).alloc (Nat.le_refl _) _
  have hblk := heap_alloc_new w (.cells #[.int .i64 0, .slice none 0 0, .slice none 0 0, .string ⟨#[]⟩] 78)
  have hzW : (w.alloc (.cells #[.int .i64 0, .slice none 0 0, .slice none 0 0, .string ⟨#[]⟩] 78)).heap.size = w.heap.size + 1 := by simp
  have HM := Lib.hid hM
  have HM0 := Lib.hid (hM.below hbW)
  have HbW := Lib.hid hbW
  have Hblk := Lib.hid hblk
  have HzW := Lib.hid hzW
  have hbs := hM.bs
  have hlp : 0 < l.length := by omega
  obtain ⟨g, o, rfl, hgQ, hgl, hat⟩ := hl.at hlp
  have HAl := Lib.hid (fun w' (hb : Below w.heap.size w w') => palike_any l (by intro e; rw [e] at h2; simp at h2) (by omega) (some ⟨g, o, none⟩) ca w' Q (hl.below hb))
  rw [hoh] at HAl
  have HL := Lib.hid hl
  have HQ := Lib.hid hQ
  have hne1 : ((l.length : Int) == 1) = false := by rw [beq_eq_false_iff_ne]; omega
  clear hat hl hQ hoh
  clear hM hbW hblk hzW
  go_enter Tryd.func40, Tryd.ntmps40
  go_upto_region 1 with fail
  go_cut [7] from 7 to 7 (fun s7 wx => s7 = .pointer (some ⟨w.heap.size, 0, none⟩) ∧ wx = w.alloc (.cells #[.int .i64 0, .slice none 0 0, .slice none 0 0, .string ⟨#[]⟩] 78))
  case first =>
    go_wp2_with fail
    go_meet
    case rel => exact ⟨rfl, rfl⟩
  case rest =>
    obtain ⟨rfl, rfl⟩ := hcut
    generalize w.alloc (.cells #[.int .i64 0, .slice none 0 0, .slice none 0 0, .string ⟨#[]⟩] 78) = W0 at *
    have hX : w.heap.size < W0.heap.size := by rw [HzW.out]; omega
    have x0 : W0.cell? ⟨w.heap.size, 0, none⟩ = some (.int .i64 0) := Lib.cell_of_heap Hblk.out 0
    have x1 : W0.cell? ⟨w.heap.size, 1, none⟩ = some (.slice none 0 0) := Lib.cell_of_heap Hblk.out 1
    have x2 : W0.cell? ⟨w.heap.size, 2, none⟩ = some (.slice none 0 0) := Lib.cell_of_heap Hblk.out 2
    have x3 : W0.cell? ⟨w.heap.size, 3, none⟩ = some (.string ⟨#[]⟩) := Lib.cell_of_heap Hblk.out 3
    have f0 : W0.frozen? ⟨w.heap.size, 0, none⟩ = false := by unfold World.frozen?; rw [Hblk.out]; simp
    have f1 : W0.frozen? ⟨w.heap.size, 1, none⟩ = false := by unfold World.frozen?; rw [Hblk.out]; simp
    have f2 : W0.frozen? ⟨w.heap.size, 2, none⟩ = false := by unfold World.frozen?; rw [Hblk.out]; simp
    have f3 : W0.frozen? ⟨w.heap.size, 3, none⟩ = false := by unfold World.frozen?; rw [Hblk.out]; simp
    go_step
    go_step
    go_cut [] from 8 to 81 (fun wx => MidN w wx w.heap.size base bL bM v L R (.mk 2 [] [] (l.map leafT)))
    case first =>
      go_wp2_with fail
      refine (HAl.out _ HbW.out).mono ?_; rintro e w1 ⟨rfl, hb1⟩
      have hX1 : w.heap.size < w1.heap.size := by have := hb1.size; omega
      have y0 := keep_cell hb1 x0
      have y1 := keep_cell hb1 x1
      have y2 := keep_cell hb1 x2
      have y3 := keep_cell hb1 x3
      have g0 := keep_frozen hb1 hX f0
      have hbw1 : Below w.heap.size w w1 := HbW.out.trans (hb1.mono HbW.out.size)
      have hLN0 := LN.start (k := 2) HM.out (HM0.out.below hb1) hbw1 y0 y1 y2 y3 (fun j => keep_frozen (p := ⟨w.heap.size, j, none⟩) hb1 hX (by unfold World.frozen?; rw [Hblk.out]; simp))
      have HLN0 := Lib.hid hLN0
      clear hLN0 y1 y2 y3 HAl HbW HM0 x0 x1 x2 x3 f0 f1 f2 f3 hbw1
      go_wp2_with fail
      go_loopw [65] (fun vi wr => ∃ (i : Nat) (vR v' : Value) (L' : List NdM) (R' : Nat → Prop), i ≤ l.length ∧ vi = .int .i64 (i : Int) ∧ Hid (LN w wr base bL bM v L R ((l.take i).map leafT) vR 2 (.slice none 0 0) v' L' R')) (fun vi _ => l.length - (RowKit.intOf vi).toNat)
      case atStart => exact ⟨0, _, _, _, _, Nat.zero_le _, rfl, HLN0⟩
      case round =>
        obtain ⟨i, vR, v', L', R', hi, rfl, HLN⟩ := hrel
        by_cases hlt : i < l.length
        · obtain ⟨x, hx⟩ : ∃ x, l[i]? = some x := ⟨_, List.getElem?_eq_getElem hlt⟩
          have HT : Hid (((l.take i).map leafT) ++ [leafT x] = (l.take (i + 1)).map leafT) := Lib.hid (by rw [List.take_add_one, hx, List.map_append]; rfl)
          have hrow : RowE wr Q (some ⟨g, o + i * 2, none⟩) [x] := by
            have hk := HL.out.kept (HLN.out.but.keptQ HQ.out)
            obtain ⟨g', o', e, hg', hgl', hat⟩ := hk.at hlt
            obtain ⟨rfl, rfl⟩ : g = g' ∧ o = o' := by injection e with e; injection e with a b; exact ⟨a, b⟩
            refine .inr ⟨g, o + i * 2, rfl, hg', hgl', ?_⟩
            have := hat.part i 1
            rwa [List.drop_eq_getElem_cons hlt, List.take_succ_cons, List.take_zero, show l[i] = x from (List.getElem?_eq_some_iff.1 hx).2] at this
          have hlx : (fl (leafT x) (L'.map NdM.n)).length ≤ 1000000 := by
            have h1 := flL_mono (l.map leafT) (i + 1) (L.map NdM.n) []
            rw [← List.map_take, ← HT.out, flL_snoc, ← HLN.out.eq] at h1
            exact Nat.le_trans h1 (Nat.le_trans (fl_ge 2 [] [] _ _) hlen)
          have HC := Lib.hid (fun w' (hb : Below wr.heap.size wr w') => pn_leaf (w := w') (HLN.out.md.below hb) x lv (A := some ⟨g, o + i * 2, none⟩) (ca := ca - i) (hrow.below hb) hlx)
          have r1 := HLN.out.x1
          have r2 := HLN.out.md.lay
          have zX := HLN.out.lt
          have zL : bL < wr.heap.size := Lib.lt_of_cell r2
          have hlr : (flL ((l.take i).map leafT) (L.map NdM.n) []).2.length = i := by
            obtain ⟨m, e, hm⟩ := flL_refs ((l.take i).map leafT) (L.map NdM.n) []
            rw [e, List.nil_append, hm, List.length_map, List.length_take]; omega
          have HLr := Lib.hid hlr
          obtain ⟨j0, hj0, hk0, hk1, hk2⟩ := info_parts int_info
          have hkI : (i : Int) < (l.length : Int) := by omega
          have hkw : IntKind.i64.wrap ((i : Int) + 1) = (i : Int) + 1 := by rw [IntKind.wrap_i64]; omega
          have hkv : (i : Int) + 1 ≤ (ca : Int) := by omega
          have hkvN : i + 1 ≤ ca := by omega
          have hkvL : i < ca := by omega
          have hkvI : (i : Int) < (ca : Int) := by omega
          have hkvZ : ¬ (ca - i = 0) := by omega
          have hkvE : ¬ (ca = i) := by omega
          have hki0 : (0 : Int) ≤ (i : Int) := by omega
          have hkk : (i : Int) ≤ (i : Int) + 1 := by omega
          clear hx hrow hlx hlr
          go_wp2_with fail
          go_region_law (first
            | (go_simp; go_at_call 40
               refine (HC.out _ (by with_reducible repeat' (first | exact Below.refl _ _ | refine Below.drew ?_))).mono ?_; rintro e w2 ⟨v2, M2, R2, rfl, hM2, hf2, hR2, hv2, hbu2⟩
               have hcl := LN.call HLN.out (by with_reducible repeat' (first | exact Below.refl _ _ | refine Below.drew ?_)) hbu2
               have y1 := hcl.1
               have zX2 : w.heap.size < w2.heap.size := Lib.lt_of_cell y1
               have HO2 := Lib.hid hcl.2
               have HM2 := Lib.hid hM2
               have HF2 := Lib.hid hf2
               have HR2 := Lib.hid hR2
               have HV2 := Lib.hid hv2
               have HB2 := Lib.hid hbu2
               clear hcl hM2 hf2 hR2 hv2 hbu2)
            | (refine step_append_rows (f := inW) (n := 1) (E := 3) (nb := 8) (X := (flL ((l.take i).map leafT) (L.map NdM.n) []).2) (base := w.heap.size + 1) (by rfl) _ _ (by rfl) (by rfl) (OwnR.below HO2.out (by with_reducible repeat' (first | exact Below.refl _ _ | exact Nat.le_refl _ | refine Below.drew ?_ | refine Below.alloc ?_ ?_ _))) (L2 := [-(M2.length : Int)]) (by rfl) (one_row _ _) (by simp) (N := i + 1) (by rw [HLr.out]; rfl) (Z := (flL ((l.take i).map leafT) (L.map NdM.n) []).2 ++ [-(M2.length : Int)]) rfl Tryd.underlying64 hj0 hk0 hk1 hk2 rfl (by decide) (by decide) (fun _ => rfl) inW_one (by omega) (by first | omega | (simp; omega)) ?_; intro g4 k4 w4 ho4 hg4 hat4 hl4
               have hgr := LN.grown HLN.out (by with_reducible repeat' (first | exact Below.refl _ _ | refine Below.drew ?_)) HB2.out (by with_reducible repeat' (first | exact Below.refl _ _ | exact Nat.le_refl _ | refine Below.drew ?_ | refine Below.alloc ?_ ?_ _)) hg4
               have f4 := hgr.2
               have c4 := hgr.1
               have HN4 := Lib.hid (LN.next HLN.out (by with_reducible repeat' (first | exact Below.refl _ _ | refine Below.drew ?_)) HM2.out HF2.out HR2.out HV2.out HB2.out (by with_reducible repeat' (first | exact Below.refl _ _ | exact Nat.le_refl _ | refine Below.drew ?_ | refine Below.alloc ?_ ?_ _)) ho4 hg4 (hat4.elim (fun e => .inl e.symm) (fun e => .inr ⟨g4, rfl, Nat.le_of_eq e.symm⟩))).1
               clear hgr ho4 hg4 hat4)
            | fail)
          all_goals
            have hN5 := HN4.out
            rw [HT.out] at hN5
            have HN5 := Lib.hid hN5
            clear HN4 hN5 HT HM2 HF2 HR2 HV2 HB2 HO2 y1 c4 f4 HLr HC HLN r1 r2
            go_wp2_with fail
            go_roundw
            case rel => exact ⟨i + 1, _, _, _, _, by omega, by go_num, HN5⟩
            case measure => simp [RowKit.intOf]; omega
        · have hii : i = l.length := by omega
          subst hii
          have hD := LN.done (t := .mk 2 [] [] (l.map leafT)) (nums := []) (B := none) (cb := 0) (RN := fun _ => False) HLN.out rfl (.inl rfl) (fun g hg => hg.elim) (fun out => by rw [fl, List.take_length])
          have HD := Lib.hid hD
          clear hD
          go_wp2_with fail
          go_meet
          case rel => exact HD.out
    case rest =>
      clear x0 x1 x2 x3 f0 f1 f2 f3 Hblk HM0 HbW HzW hX
      obtain ⟨n, A1, ca1, B1, cb1, v', L', R', hMD, ⟨x0, x1, x2, x3⟩, hA, hB, hf, hR, hv, hbut⟩ := hcut
      change wc.cell? ⟨w.heap.size, 0, none⟩ = _ at x0
      change wc.cell? ⟨w.heap.size, 1, none⟩ = _ at x1
      change wc.cell? ⟨w.heap.size, 2, none⟩ = _ at x2
      change wc.cell? ⟨w.heap.size, 3, none⟩ = _ at x3
      have m0 := hMD.made
      have hbs1 := hMD.bs
      have zX : w.heap.size < wc.heap.size := Lib.lt_of_cell x0
      have zM : bM < wc.heap.size := Lib.lt_of_cell m0
      have hlen' : L'.length + 1 ≤ 1000000 := by have := congrArg List.length hf; simp only [List.length_append, List.length_map, List.length_cons, List.length_nil] at this; omega
      obtain ⟨N, hN⟩ : ∃ N, L'.length + 1 = N := ⟨_, rfl⟩
      have HN := Lib.hid hN
      have HMD := Lib.hid hMD
      have HA := Lib.hid hA
      have HB := Lib.hid hB
      have HF := Lib.hid hf
      have HR := Lib.hid hR
      have HV := Lib.hid hv
      have HBu := Lib.hid hbut
      have hN1 : (N : Int) ≤ 1000000 := by omega
      have hNl : N ≤ 1000000 := by omega
      clear hMD hA hB hf hR hv hbut hN
      go_wp2_with (at_builtin; refine of_stop ?_)
      refine stop_of ?_
      refine wpList_append_rows (f := ndW) (n := 4) (E := 78) (nb := 72) (X := L') (base := base) rfl _ _ rfl rfl (OwnR.below HMD.out.own (by with_reducible repeat' (first | exact Below.refl _ _ | exact Nat.le_refl _ | refine Below.drew ?_ | refine Below.alloc ?_ ?_ _))) (L2 := [(⟨n, A1, ca1, B1, cb1⟩ : NdM)]) rfl (one_row wc (⟨n, A1, ca1, B1, cb1⟩ : NdM)) (by simp) (N := N) HN.out (Z := L' ++ [(⟨n, A1, ca1, B1, cb1⟩ : NdM)]) rfl Tryd.underlying70 hi0 hz0 hz1 hz2 rfl (by decide) (by decide) (fun _ => rfl) ndW_oneP (by omega) (by simp; omega) ?_
      intro g4 k4 w4 ho4 hg4 hat4 hl4
      have hNP := MD.app HMD.out HA.out HB.out HF.out HR.out HV.out HBu.out (by with_reducible repeat' (first | exact Below.refl _ _ | exact Nat.le_refl _ | refine Below.drew ?_ | refine Below.alloc ?_ ?_ _)) ho4 hg4 (hat4.elim (fun e => .inl e.symm) (fun e => .inr ⟨g4, rfl, Nat.le_of_eq e.symm⟩))
      obtain ⟨c4, f4⟩ := MD.grownM HMD.out (by with_reducible repeat' (first | exact Below.refl _ _ | exact Nat.le_refl _ | refine Below.drew ?_ | refine Below.alloc ?_ ?_ _)) hg4
      rw [HN.out] at hNP
      have HNP := Lib.hid hNP
      clear hNP ho4 hg4 hat4 hl4 HMD HA HB HF HR HV HBu m0 x0 x1 x2 x3
      go_wp2_with fail
      go_ret
      exact HNP.out
end Go.Proofs.YthfbhinlgoaajaaDoor
namespace Go.Proofs.YthfbhinlgoaajaaDoor
open Go.RowKit Go.Shelf
theorem bitsD_lt (l : List En) (lv : Nat) : ∀ n : Nat, bitsD l lv n < 2 ^ n
  | 0 => by rw [bitsD]; decide
  | n + 1 => by
    have := bitsD_lt l lv n
    rw [bitsD, Nat.pow_succ]
    split <;> omega
theorem flL_le (a b : List Tr) (out : List Nd) (refs : List Int) : (flL a out refs).1.length ≤ (flL (a ++ b) out refs).1.length := by
  have := flL_mono (a ++ b) a.length out refs
  rwa [List.take_left' rfl] at this
theorem wrap_small {q : Nat} (h : q ≤ 4294967296) : IntKind.i64.wrap (q : Int) = (q : Int) := by
  rw [IntKind.wrap_i64]; omega
theorem bits_or2 (b d : Nat) (hd : d < 32) (hb : b < 2 ^ d) : bits BinOp.or IntKind.i64 (b : Int) (IntKind.i64.wrap ((2 : Int) ^ d)) = ((b + 2 ^ d : Nat) : Int) := by
  have h1 : (2 ^ d : Nat) ≤ 2 ^ 31 := Nat.pow_le_pow_right (by decide) (by omega)
  have h31 : (2 : Nat) ^ 31 = 2147483648 := rfl
  have hor : (2 ^ d ||| b) = 2 ^ d + b := by
    have := Nat.two_pow_add_eq_or_of_lt hb 1
    rw [Nat.mul_one] at this
    exact this.symm
  have e0 : (2 : Int) ^ d = ((2 ^ d : Nat) : Int) := by rw [Int.natCast_pow]; rfl
  rw [e0, wrap_small (by omega)]
  show IntKind.i64.wrap ((BitVec.ofInt 64 (b : Int) ||| BitVec.ofInt 64 ((2 ^ d : Nat) : Int)).toNat : Int) = _
  generalize hq : (2 ^ d : Nat) = q at *
  have e1 : (BitVec.ofInt 64 (b : Int)).toNat = b := by
    rw [BitVec.toNat_ofInt]; omega
  have e2 : (BitVec.ofInt 64 (q : Int)).toNat = q := by
    rw [BitVec.toNat_ofInt]; omega
  rw [BitVec.toNat_or, e1, e2, Nat.or_comm, hor, wrap_small (by omega), Nat.add_comm]
structure FK (Wp wr : World) (X gN bM : Nat) (v vR v' : Value) (R' : Nat → Prop) (b : Nat) : Prop where
  n0 : wr.cell? ⟨gN, 0, none⟩ = some (.int .i64 (b : Int))
  nf : wr.frozen? ⟨gN, 0, none⟩ = false
  nv : v'.ownBlock ≠ some gN
  nR : ¬ R' gN
  nr : vR.ownBlock ≠ some gN
  bu : ButS (fun g => ChM bM v g ∨ g = X ∨ g = gN) Wp wr
  vW : v'.ownBlock = v.ownBlock ∨ ∃ k, v'.ownBlock = some k ∧ Wp.heap.size ≤ k
  rW : ∀ g, vR.ownBlock = some g → Wp.heap.size ≤ g
  gb : bM < gN ∧ X < gN ∧ gN < Wp.heap.size
theorem LN.but' {w wr w' : World} {base bL bM : Nat} {v : Value} {L : List NdM} {R S : Nat → Prop} {ts : List Tr} {vR : Value} {k : Int} {vN v' : Value} {L' : List NdM} {R' : Nat → Prop} (h : LN w wr base bL bM v L R ts vR k vN v' L' R') (hb : ButS S wr w')
    (hS : ∀ g, S g → w.heap.size < g ∧ v'.ownBlock ≠ some g ∧ ¬ R' g ∧ vR.ownBlock ≠ some g) : LN w w' base bL bM v L R ts vR k vN v' L' R' := by
  have hbs := h.bs
  have hX : ¬ S w.heap.size := fun e => by have := (hS _ e).1; omega
  exact { h with
    md := h.md.but hb fun g hg => ⟨by have := (hS g hg).1; omega, (hS g hg).2.1, (hS g hg).2.2.1⟩
    own := OwnR.block h.own fun g hg => hb.block g (World.ownsRow.lt h.own g hg).2 fun e => (hS g e).2.2.2 hg
    but := h.but.trans' hb fun g hgl e => by have := (hS g e).1; omega
    x0 := hb.cell (p := ⟨w.heap.size, 0, none⟩) hX h.x0
    x1 := hb.cell (p := ⟨w.heap.size, 1, none⟩) hX h.x1
    x2 := hb.cell (p := ⟨w.heap.size, 2, none⟩) hX h.x2
    x3 := hb.cell (p := ⟨w.heap.size, 3, none⟩) hX h.x3
    fX := fun j => hb.frozen (p := ⟨w.heap.size, j, none⟩) hX h.lt (h.fX j) }
theorem LN.start4 {w W1 : World} {base bL bM : Nat} {v : Value} {L : List NdM} {R : Nat → Prop} {k : Int} {vN : Value} (hM : MD w base bL bM v L R) (hM1 : MD W1 base bL bM v L R) (hb : Below w.heap.size w W1) {u0 u1 u2 u3 : Value} (x0 : W1.cell? ⟨w.heap.size, 0, none⟩ = some u0) (x1 : W1.cell? ⟨w.heap.size, 1, none⟩ = some u1) (x2 : W1.cell? ⟨w.heap.size, 2, none⟩ = some u2) (x3 : W1.cell? ⟨w.heap.size, 3, none⟩ = some u3) (hf : ∀ j, W1.frozen? ⟨w.heap.size, j, none⟩ = false) :
    LN w ((((W1.setCell ⟨w.heap.size, 0, none⟩ (.int .i64 k)).setCell ⟨w.heap.size, 1, none⟩ (.slice none 0 0)).setCell ⟨w.heap.size, 2, none⟩ vN).setCell ⟨w.heap.size, 3, none⟩ (.string ⟨#[]⟩)) base bL bM v L R [] (.slice none 0 0) k vN v L R := by
  have hbs := hM.bs
  have hq : ∀ (W : World) (j : Nat) (u : Value), ButS (fun g => g = w.heap.size) W1 W → ButS (fun g => g = w.heap.size) W1 (W.setCell ⟨w.heap.size, j, none⟩ u) := fun W j u h => h.setCell (p := ⟨w.heap.size, j, none⟩) (.inl rfl) u
  have hbu := hq _ 3 (.string ⟨#[]⟩) (hq _ 2 vN (hq _ 1 (.slice none 0 0) (hq _ 0 (.int .i64 k) (ButS.refl _ _))))
  have hown : ∀ g, v.ownBlock = some g → g < w.heap.size := fun g hg => (World.ownsRow.lt hM.own g hg).2
  have h4 := set4_near (g := w.heap.size) (o := 0) (a := .int .i64 k) (b := .slice none 0 0) (c := vN) (d := .string ⟨#[]⟩) x0 x1 x2 x3
  exact {
    bs := hbs
    md := hM1.but hbu fun g hg => by
      subst hg
      exact ⟨hbs, fun e => by have := hown _ e; omega, fun e => by have := (hM.rR _ e).2.1; omega⟩
    eq := by rw [flL]
    own := by rw [flL]; exact World.ownsRow_nil _ _ _ _
    apart := fun g hg => by cases hg
    rR := fun g hg => .inl hg
    rX := fun e => by have := (hM.rR _ e).2.1; omega
    v2 := .inl rfl
    vX := fun e => by have := hown _ e; omega
    but := (ButS.of_below hb).trans' hbu fun g hgl e => by omega
    x0 := h4.1
    x1 := h4.2.1
    x2 := h4.2.2.1
    x3 := h4.2.2.2
    fX := fun j => by rw [World.frozen?_setCell, World.frozen?_setCell, World.frozen?_setCell, World.frozen?_setCell]; exact hf j }
theorem FK.below {Wp wr w' : World} {X gN bM b : Nat} {v vR v' : Value} {R' : Nat → Prop} (h : FK Wp wr X gN bM v vR v' R' b) (hb : Below wr.heap.size wr w') : FK Wp w' X gN bM v vR v' R' b :=
  { h with n0 := keep_cell hb h.n0, nf := keep_frozen (p := ⟨gN, 0, none⟩) hb (show gN < wr.heap.size from Lib.lt_of_cell h.n0) h.nf, bu := h.bu.trans (ButS.of_below hb) }
theorem FK.set {Wp wr : World} {X gN bM b b' : Nat} {v vR v' : Value} {R' : Nat → Prop} (h : FK Wp wr X gN bM v vR v' R' b) : FK Wp (wr.setCell ⟨gN, 0, none⟩ (.int .i64 (b' : Int))) X gN bM v vR v' R' b' :=
  { h with n0 := World.cell?_setCell_same _ _ _ h.n0, nf := by rw [World.frozen?_setCell]; exact h.nf, bu := h.bu.setCell (p := ⟨gN, 0, none⟩) (.inl (.inr (.inr rfl))) _ }
theorem FK.next {Wp wr w0 wn : World} {X gN bM b : Nat} {v vR v' v2 vR4 : Value} {R' R2 : Nat → Prop} (h : FK Wp wr X gN bM v vR v' R' b) (h0 : wr.heap.size ≤ w0.heap.size) (hv2 : v2.ownBlock = v'.ownBlock ∨ ∃ k, v2.ownBlock = some k ∧ w0.heap.size ≤ k) (hR2 : ∀ g, R2 g → R' g ∨ w0.heap.size ≤ g)
    (hat : vR4.ownBlock = vR.ownBlock ∨ ∃ k, vR4.ownBlock = some k ∧ wr.heap.size ≤ k) (hb : ButS (fun g => ChM bM v' g ∨ vR.ownBlock = some g ∨ g = X) wr wn) : FK Wp wn X gN bM v vR4 v2 R2 b := by
  have hl : gN < wr.heap.size := Lib.lt_of_cell h.n0
  have hW := h.bu.size
  have hgb := h.gb
  have hN : ¬ (ChM bM v' gN ∨ vR.ownBlock = some gN ∨ gN = X) := fun e => by
    rcases e with (e | e) | e | e
    · omega
    · exact h.nv e
    · exact h.nr e
    · omega
  refine ⟨hb.cell (p := ⟨gN, 0, none⟩) hN h.n0, hb.frozen (p := ⟨gN, 0, none⟩) hN hl h.nf, fun e => ?_, fun e => ?_, fun e => ?_, h.bu.trans' hb fun g hgl e => ?_, ?_, fun g hg => ?_, hgb⟩
  · rcases hv2 with q | ⟨j, q, hj⟩
    · rw [q] at e; exact h.nv e
    · rw [q] at e; have := Option.some.inj e; omega
  · rcases hR2 gN e with q | q
    · exact h.nR q
    · omega
  · rcases hat with q | ⟨j, q, hj⟩
    · rw [q] at e; exact h.nr e
    · rw [q] at e; have := Option.some.inj e; omega
  · rcases e with (e | e) | e | e
    · exact .inl (.inl e)
    · rcases h.vW with q | ⟨j, q, hj⟩
      · exact .inl (.inr (by rw [← q]; exact e))
      · rw [q] at e; have := Option.some.inj e; omega
    · have := h.rW g e; omega
    · exact .inr (.inl e)
  · rcases hv2 with q | ⟨j, q, hj⟩
    · rw [q]; exact h.vW
    · exact .inr ⟨j, q, by omega⟩
  · rcases hat with q | ⟨j, q, hj⟩
    · rw [q] at hg; exact h.rW g hg
    · rw [q] at hg; have := Option.some.inj hg; omega
end Go.Proofs.YthfbhinlgoaajaaDoor
