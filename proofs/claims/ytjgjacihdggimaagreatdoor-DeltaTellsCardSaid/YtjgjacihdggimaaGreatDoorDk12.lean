/- Texts joined: TqFd, TqFe, TsI. -/
import Derived.Test.YtjgjacihdggimaaGreatDoorDk11
import Derived.Test.YtjgjacihdggimaaGreatDoorDk10
import Derived.Test.YtjgjacihdggimaaGreatDoorDk04
import Derived.Test.YtjgjacihdggimaaGreatDoorDk06
import Derived.Laws.EntriesVeiled
set_option linter.all false
namespace Go.Proofs.YtjgjacihdggimaaGreatDoor
open Go.RowKit Go.Shelf
set_option maxHeartbeats 16000000 in
set_option maxRecDepth 10000 in
theorem pn_fork {w : World} {base bL bM : Nat} {v : Value} {L : List NdM} {R : Nat → Prop} (hM : MD w base bL bM v L R) (kk : Nat) (l : List En) (h2 : 2 ≤ l.length) (hll : l.length ≤ 100000) (hoh : oneH l = false) (hk : KeyIn l) (lv : Nat) (hlv : lv = 1 - kk) {A : Option Addr} {ca : Nat} {Q : Nat → Prop} (hl : RowE w Q A l) (hlv2 : lv ≤ 1)
    (hchild : ∀ d : Nat, d < 32 → partD l lv d ≠ [] → ∀ {w : World} {base bL bM : Nat} {v : Value} {L : List NdM} {R : Nat → Prop}, MD w base bL bM v L R → ∀ {A : Option Addr} {ca : Nat} {Q : Nat → Prop}, (partD l lv d).length ≤ ca → RowE w Q A (partD l lv d) → (∀ g, Q g → ¬ ChM bM v g) → (fl (trK kk (partD l lv d)) (L.map NdM.n)).length ≤ 1000000 →
      Calls Tryz.prog 69 #[.slice A (partD l lv d).length ca, .int .i64 ((lv : Int) + 1), .pointer (some ⟨bL, 0, none⟩), .pointer (some ⟨bM, 0, none⟩)] w fun e w' => NP w base bL bM v L R (trK kk (partD l lv d)) e w') (hlen : (fl (.mk 3 [(bitsD l lv 32 : Int)] [] ((partsD l lv 32).map (trK kk))) (L.map NdM.n)).length ≤ 1000000) :
    Calls Tryz.prog 69 #[.slice A l.length ca, .int .i64 (lv : Int), .pointer (some ⟨bL, 0, none⟩), .pointer (some ⟨bM, 0, none⟩)] w fun e w' => NP w base bL bM v L R (.mk 3 [(bitsD l lv 32 : Int)] [] ((partsD l lv 32).map (trK kk))) e w' := by
  obtain ⟨i0, hi0, hz0, hz1, hz2⟩ := info_parts pnd_info
  have hbW : Below w.heap.size w (w.alloc (.cells #[.int .i64 0, .slice none 0 0, .slice none 0 0, .string ⟨#[]⟩] 126)) := (Below.refl _ _).alloc (Nat.le_refl _) _
  have hblk := heap_alloc_new w (.cells #[.int .i64 0, .slice none 0 0, .slice none 0 0, .string ⟨#[]⟩] 126)
  have hzW : (w.alloc (.cells #[.int .i64 0, .slice none 0 0, .slice none 0 0, .string ⟨#[]⟩] 126)).heap.size = w.heap.size + 1 := by simp
  have HM := Lib.hid hM
  have HM0 := Lib.hid (hM.below hbW)
  have HbW := Lib.hid hbW
  have Hblk := Lib.hid hblk
  have HzW := Lib.hid hzW
  have hbs := hM.bs
  have hlp : 0 < l.length := by omega
  obtain ⟨g, o, rfl, hgQ, hgl, hat⟩ := hl.at hlp
  have HAl := Lib.hid (fun w' (hb : Below w.heap.size w w') => palike_any l (by intro e; rw [e] at h2; simp at h2) (by omega) (some ⟨g, o, none⟩) ca w' Q (hl.below hb))
  have HPa := Lib.hid (fun w' (hb : Below w.heap.size w w') => pparted_any l hk (by omega) lv (some ⟨g, o, none⟩) ca w' Q (hl.below hb))
  rw [hoh] at HAl
  have HCh := Lib.hid @hchild
  have HLv := Lib.hid hlv
  have hne1 : ((l.length : Int) == 1) = false := by rw [beq_eq_false_iff_ne]; omega
  clear hat hl hoh hchild hk hlv
  clear hM hbW hblk hzW
  go_enter Tryz.func69, Tryz.ntmps69
  go_upto_region 1 with fail
  go_cut [7] from 7 to 7 (fun s7 wx => s7 = .pointer (some ⟨w.heap.size, 0, none⟩) ∧ wx = w.alloc (.cells #[.int .i64 0, .slice none 0 0, .slice none 0 0, .string ⟨#[]⟩] 126))
  case first =>
    go_wp2_with fail
    go_meet
    case rel => exact ⟨rfl, rfl⟩
  case rest =>
    obtain ⟨rfl, rfl⟩ := hcut
    generalize w.alloc (.cells #[.int .i64 0, .slice none 0 0, .slice none 0 0, .string ⟨#[]⟩] 126) = W0 at *
    have hX : w.heap.size < W0.heap.size := by rw [HzW.out]; omega
    have x0 : W0.cell? ⟨w.heap.size, 0, none⟩ = some (.int .i64 0) := Lib.cell_of_heap Hblk.out 0
    have x1 : W0.cell? ⟨w.heap.size, 1, none⟩ = some (.slice none 0 0) := Lib.cell_of_heap Hblk.out 1
    have x2 : W0.cell? ⟨w.heap.size, 2, none⟩ = some (.slice none 0 0) := Lib.cell_of_heap Hblk.out 2
    have x3 : W0.cell? ⟨w.heap.size, 3, none⟩ = some (.string ⟨#[]⟩) := Lib.cell_of_heap Hblk.out 3
    have f0 : W0.frozen? ⟨w.heap.size, 0, none⟩ = false := by unfold World.frozen?; rw [Hblk.out]; simp
    have f1 : W0.frozen? ⟨w.heap.size, 1, none⟩ = false := by unfold World.frozen?; rw [Hblk.out]; simp
    have f2 : W0.frozen? ⟨w.heap.size, 2, none⟩ = false := by unfold World.frozen?; rw [Hblk.out]; simp
    have f3 : W0.frozen? ⟨w.heap.size, 3, none⟩ = false := by unfold World.frozen?; rw [Hblk.out]; simp
    go_step
    go_step
    go_cut [] from 8 to 81 (fun wx => MidN w wx w.heap.size base bL bM v L R (.mk 3 [(bitsD l lv 32 : Int)] [] ((partsD l lv 32).map (trK kk))))
    case first =>
      go_wp2_with fail
      refine (HAl.out _ HbW.out).mono ?_; rintro e w1 ⟨rfl, hb1⟩
      have hX1 : w.heap.size < w1.heap.size := by have := hb1.size; omega
      have y0 := keep_cell hb1 x0
      have y1 := keep_cell hb1 x1
      have y2 := keep_cell hb1 x2
      have y3 := keep_cell hb1 x3
      have g0 := keep_frozen hb1 hX f0
      have g1 := keep_frozen hb1 hX f1
      have g2 := keep_frozen hb1 hX f2
      have g3 := keep_frozen hb1 hX f3
      have hbw1 : Below w.heap.size w w1 := HbW.out.trans (hb1.mono HbW.out.size)
      have hLN0 := LN.start4 (k := 3) (vN := .slice (some ⟨w1.heap.size, 0, none⟩) 1 1) HM.out (HM0.out.below hb1) hbw1 y0 y1 y2 y3 (fun j => keep_frozen (p := ⟨w.heap.size, j, none⟩) hb1 hX (by unfold World.frozen?; rw [Hblk.out]; simp))
      have hs4 : ((((w1.setCell ⟨w.heap.size, 0, none⟩ (.int .i64 3)).setCell ⟨w.heap.size, 1, none⟩ (.slice none 0 0)).setCell ⟨w.heap.size, 2, none⟩ (.slice (some ⟨w1.heap.size, 0, none⟩) 1 1)).setCell ⟨w.heap.size, 3, none⟩ (.string ⟨#[]⟩)).heap.size = w1.heap.size := by simp
      have HLN0 := Lib.hid hLN0
      have Hs4 := Lib.hid hs4
      have Hbw1 := Lib.hid hbw1
      clear hLN0 HAl HbW HM0 x0 x1 x2 x3 f0 f1 f2 f3 hbw1 hs4
      have HbS : Hid (Below w.heap.size w ((((w1.setCell ⟨w.heap.size, 0, none⟩ (.int .i64 3)).setCell ⟨w.heap.size, 1, none⟩ (.slice none 0 0)).setCell ⟨w.heap.size, 2, none⟩ (.slice (some ⟨w1.heap.size, 0, none⟩) 1 1)).setCell ⟨w.heap.size, 3, none⟩ (.string ⟨#[]⟩))) := Lib.hid ((((Hbw1.out.setCell (Nat.le_refl _) _).setCell (Nat.le_refl _) _).setCell (Nat.le_refl _) _).setCell (Nat.le_refl _) _)
      go_wp2_with fail
      generalize ((((w1.setCell ⟨w.heap.size, 0, none⟩ (.int .i64 3)).setCell ⟨w.heap.size, 1, none⟩ (.slice none 0 0)).setCell ⟨w.heap.size, 2, none⟩ (.slice (some ⟨w1.heap.size, 0, none⟩) 1 1)).setCell ⟨w.heap.size, 3, none⟩ (.string ⟨#[]⟩)) = S4 at *
      have hb45 : Below S4.heap.size S4 (S4.alloc (.cells #[.int .i64 0] 3)) := (Below.refl _ _).alloc (Nat.le_refl _) _
      have hn5 := heap_alloc_new S4 (.cells #[.int .i64 0] 3)
      rw [Hs4.out] at hn5
      have HbW5 : Hid (Below w.heap.size w (S4.alloc (.cells #[.int .i64 0] 3))) := Lib.hid (HbS.out.alloc HbS.out.size _)
      have hz5 : (S4.alloc (.cells #[.int .i64 0] 3)).heap.size = w1.heap.size + 1 := by simp [Hs4.out]
      have HLN5 := Lib.hid (HLN0.out.below hb45)
      have Hn5 := Lib.hid hn5
      clear hb45 hn5 HLN0 Hs4 HbS y0 y1 y2 y3 g0 g1 g2 g3
      generalize S4.alloc (.cells #[.int .i64 0] 3) = W5 at *
      refine (HPa.out _ HbW5.out).mono ?_; rintro e w6 ⟨vs, rfl, hvs, hb6⟩
      have HVs := Lib.hid hvs
      have Hb6 := Lib.hid hb6
      have h1c : (arC vs).all (·.oneCell') = true := by
        unfold arC
        rw [Array.all_eq_true]
        intro j hj
        have hj32 : j < 32 := by rw [List.size_toArray, List.length_map, List.length_range] at hj; exact hj
        obtain ⟨A', c', hv, _⟩ := hvs j hj32
        simp only [List.getElem_toArray, List.getElem_map, List.getElem_range, hv]
        rfl
      have HC1 := Lib.hid h1c
      clear hvs hb6 h1c HPa
      go_wp2_with (refine wpList_store_row rfl 135 _ _ rfl w6.heap.size (arC vs) rfl rfl 135 _ (heap_alloc_new w6 _) (by rw [arC_size]; exact parts_info) (by rw [arC_size]; rfl) HC1.out ?_; rw [World.setRow_alloc_new])
      have hb6p : Below w6.heap.size w6 (w6.alloc (.cells (arC vs) 135)) := (Below.refl _ _).alloc (Nat.le_refl _) _
      have hpb := heap_alloc_new w6 (.cells (arC vs) 135)
      have hzp : (w6.alloc (.cells (arC vs) 135)).heap.size = w6.heap.size + 1 := by simp
      have h65 := Hb6.out.size
      have hLNp := (HLN5.out.below Hb6.out).below hb6p
      have hFKp : FK (w6.alloc (.cells (arC vs) 135)) (w6.alloc (.cells (arC vs) 135)) w.heap.size w1.heap.size bM v (.slice none 0 0) v R (bitsD l lv 0) := by
        have hown : ∀ g, v.ownBlock = some g → g < w.heap.size := fun g hg => (World.ownsRow.lt HM.out.own g hg).2
        have hk := hb6p.block w1.heap.size (by omega)
        have hn6 : (w6.alloc (.cells (arC vs) 135)).heap[w1.heap.size]? = some (.cells #[.int .i64 0] 3 (0, 0)) := hk.trans ((Hb6.out.block _ (by omega)).trans Hn5.out)
        exact ⟨by rw [Lib.cell_of_heap hn6]; rfl, by unfold World.frozen?; rw [hn6]; simp, fun e => by have := hown _ e; omega, fun e => by have := (HM.out.rR _ e).2.1; omega, (fun e => by cases e), ButS.refl _ _, .inl rfl, (fun g hg => by cases hg), by have := HM.out.bl; have := HM.out.bs; omega, by omega, by omega⟩
      have hrows : ∀ d, d < 32 → ∃ A ca, vs d = .slice A (partD l lv d).length ca ∧ (partD l lv d).length ≤ ca ∧ RowE (w6.alloc (.cells (arC vs) 135)) (fun g => w1.heap.size + 1 ≤ g ∧ g < w6.heap.size) A (partD l lv d) := fun d hd => by
        obtain ⟨A', c', hv, hc, hr⟩ := HVs.out d hd
        exact ⟨A', c', hv, hc, (hr.mono fun g hg hl => ⟨by have h : W5.heap.size + 2 ≤ g := hg; omega, hl⟩).below hb6p⟩
      have HRows := Lib.hid hrows
      have HLNp := Lib.hid hLNp
      have HFKp := Lib.hid hFKp
      have Hpb := Lib.hid hpb
      have hw1 : w1.heap.size < w6.heap.size := by omega
      have hwm := HM.out.bl
      have hown9 : ∀ g, v.ownBlock = some g → g < w.heap.size := fun g hg => (World.ownsRow.lt HM.out.own g hg).2
      have HOwn := Lib.hid hown9
      clear hb6p hpb hLNp hFKp hrows HVs HC1 Hn5 HLN5 h65 hown9 Hb6
      have hw3 : w1.heap.size < w6.heap.size ∧ bM < base := ⟨hw1, hwm.2.1⟩
      clear hwm hz5
      generalize w6.alloc (.cells (arC vs) 135) = Wp at *
      go_loopw [16] (fun vi wr => ∃ (d : Nat) (vR v' : Value) (L' : List NdM) (R' : Nat → Prop), d ≤ 32 ∧ vi = .int .i64 (d : Int) ∧ Hid (LN w wr base bL bM v L R ((partsD l lv d).map (trK kk)) vR 3 (.slice (some ⟨w1.heap.size, 0, none⟩) 1 1) v' L' R') ∧ Hid (FK Wp wr w.heap.size w1.heap.size bM v vR v' R' (bitsD l lv d))) (fun vi _ => 32 - (RowKit.intOf vi).toNat)
      case atStart => exact ⟨0, _, _, _, _, Nat.zero_le _, rfl, HLNp, HFKp⟩
      case round =>
        obtain ⟨d, vR, v', L', R', hd, rfl, HLN, HFK⟩ := hrel
        by_cases hlt : d < 32
        · obtain ⟨A', c', hvd, hcc, hrow⟩ := HRows.out d hlt
          have hbsX := HM.out.bs
          have hnoP : ∀ g, w1.heap.size < g → g < Wp.heap.size → ¬ (ChM bM v g ∨ g = w.heap.size ∨ g = w1.heap.size) := fun g h1 h3 e => by
            rcases e with (e | e) | e | e
            · have := hw3.2; omega
            · have := HOwn.out g e; omega
            · omega
            · omega
          have hp0 : wr.cell? ⟨w6.heap.size, d, none⟩ = some (vs d) := by
            rw [World.cell?_of_block (w := Wp) (HFK.out.bu.block w6.heap.size (by omega) (hnoP _ (by omega) (by omega))), Lib.cell_of_heap Hpb.out d]
            exact arC_at vs hlt
          rw [hvd] at hp0
          have hkI : (d : Int) < 32 := by omega
          have hkJ : (0 : Int) ≤ (d : Int) := by omega
          have zP := Lib.lt_of_cell hp0
          by_cases hem : partD l lv d = []
          · have hpl : (partD l lv d).length = 0 := by rw [hem]; rfl
            rw [hpl] at hp0
            have HT : Hid (partsD l lv (d + 1) = partsD l lv d ∧ bitsD l lv (d + 1) = bitsD l lv d) := Lib.hid ⟨by rw [partsD_succ, hem]; exact List.append_nil _, by rw [bitsD, hem]; rfl⟩
            have hL2 := HLN.out
            have hF2 := HFK.out
            rw [← HT.out.1] at hL2
            rw [← HT.out.2] at hF2
            have HL2 := Lib.hid hL2
            have HF2 := Lib.hid hF2
            clear hL2 hF2 HLN HFK hrow hnoP hvd hpl HT hem
            go_wp2_with fail
            go_roundw
            case rel => exact ⟨d + 1, _, _, _, _, by omega, by go_num, HL2, HF2⟩
            case measure => simp [RowKit.intOf]; omega
          · have hpl : 0 < (partD l lv d).length := List.length_pos_iff.2 hem
            have hplI : (0 : Int) < ((partD l lv d).length : Int) := by omega
            have HT : Hid ((partsD l lv (d + 1)).map (trK kk) = (partsD l lv d).map (trK kk) ++ [trK kk (partD l lv d)] ∧ bitsD l lv (d + 1) = bitsD l lv d + 2 ^ d) := Lib.hid (by
              have he : (partD l lv d).isEmpty = false := by cases h : partD l lv d with | nil => exact absurd h hem | cons _ _ => rfl
              exact ⟨by rw [partsD_succ, he]; simp, by rw [bitsD, he]; rfl⟩)
            have HOr := Lib.hid (bits_or2 (bitsD l lv d) d hlt (bitsD_lt l lv d))
            have r2 := HLN.out.x2
            have n0 := HFK.out.n0
            have nf := HFK.out.nf
            have zX := HLN.out.lt
            have zN : w1.heap.size < wr.heap.size := Lib.lt_of_cell n0
            generalize bitsD l lv d + 2 ^ d = b2 at *
            go_wp2_with fail
            go_cut [] from 24 to 31 (fun wx => Hid (LN w wx base bL bM v L R ((partsD l lv d).map (trK kk)) vR 3 (.slice (some ⟨w1.heap.size, 0, none⟩) 1 1) v' L' R') ∧ Hid (FK Wp wx w.heap.size w1.heap.size bM v vR v' R' b2))
            case first =>
              go_region_law (first | fail)
              all_goals
                go_wp2_with fail
                go_meet
                case rel =>
                  have hgn : w.heap.size < w1.heap.size := HFK.out.gb.2.1
                  have hS : ∀ g, g = w1.heap.size → w.heap.size < g ∧ v'.ownBlock ≠ some g ∧ ¬ R' g ∧ vR.ownBlock ≠ some g := fun g e => by subst e; exact ⟨hgn, HFK.out.nv, HFK.out.nR, HFK.out.nr⟩
                  have hB1 : ButS (fun g => g = w1.heap.size) wr (wr.setCell ⟨w1.heap.size, 0, none⟩ (.int .i64 (b2 : Int))) := ButS.setCell (P := fun g => g = w1.heap.size) (p := ⟨w1.heap.size, 0, none⟩) (ButS.refl _ _) (.inl rfl) _
                  have hL8 := LN.but' HLN.out hB1 hS
                  have hF8 := FK.set (b' := b2) HFK.out
                  rw [HOr.out]
                  exact ⟨Lib.hid (hL8.below (Below.refl _ _).drew), Lib.hid (hF8.below (Below.refl _ _).drew)⟩
            case rest =>
              obtain ⟨HLN2, HFK2⟩ := hcut
              clear HLN HFK r2 n0 nf zX zN HOr hp0 zP
              have hq := hrow.kept (HFK2.out.bu.keptQ fun g hg => hnoP g (by omega) (by have := Hpb.out; have := (Array.getElem?_eq_some_iff.1 this).1; omega))
              have hp1 : wc.cell? ⟨w6.heap.size, d, none⟩ = some (vs d) := by
                rw [World.cell?_of_block (w := Wp) (HFK2.out.bu.block w6.heap.size (by omega) (hnoP _ (by omega) (by omega))), Lib.cell_of_heap Hpb.out d]
                exact arC_at vs hlt
              rw [hvd] at hp1
              have hQc : ∀ g, w1.heap.size + 1 ≤ g ∧ g < w6.heap.size → ¬ ChM bM v' g := fun g hg e => by
                have hwp := (Array.getElem?_eq_some_iff.1 Hpb.out).1
                rcases e with e | e
                · have := hw3.2; omega
                · rcases HFK2.out.vW with q | ⟨j, q, hj⟩
                  · rw [q] at e; have := HOwn.out g e; omega
                  · rw [q] at e; have := Option.some.inj e; omega
              have hlx : (fl (trK kk (partD l lv d)) (L'.map NdM.n)).length ≤ 1000000 := by
                obtain ⟨m, hm⟩ := partsD_le l lv (d + 1) (32 - (d + 1))
                rw [show d + 1 + (32 - (d + 1)) = 32 by omega] at hm
                have h1 := flL_le ((partsD l lv (d + 1)).map (trK kk)) (m.map (trK kk)) (L.map NdM.n) []
                rw [← List.map_append, ← hm, HT.out.1, flL_snoc, ← HLN2.out.eq] at h1
                exact Nat.le_trans h1 (Nat.le_trans (fl_ge 3 _ [] _ _) hlen)
              have HC := Lib.hid (fun w' (hb : Below wc.heap.size wc w') => HCh.out d hlt hem (HLN2.out.md.below hb) hcc (hq.below hb) hQc hlx)
              have HT1 := Lib.hid HT.out.1
              have HT2 := Lib.hid HT.out.2
              have r1 := HLN2.out.x1
              have r3 := HLN2.out.md.lay
              have zX := HLN2.out.lt
              have zL : bL < wc.heap.size := Lib.lt_of_cell r3
              have zP : w6.heap.size < wc.heap.size := Lib.lt_of_cell hp1
              have hlr : (flL ((partsD l lv d).map (trK kk)) (L.map NdM.n) []).2.length ≤ 1000 := by
                obtain ⟨m, e, hm⟩ := flL_refs ((partsD l lv d).map (trK kk)) (L.map NdM.n) []
                rw [e, List.nil_append, hm, List.length_map]
                have : (partsD l lv d).length ≤ d := by
                  unfold partsD
                  exact Nat.le_trans (List.length_filter_le _ _) (by simp)
                omega
              obtain ⟨NN, hNN⟩ : ∃ NN, (flL ((partsD l lv d).map (trK kk)) (L.map NdM.n) []).2.length = NN := ⟨_, rfl⟩
              rw [hNN] at hlr
              have HNN := Lib.hid hNN
              obtain ⟨j0, hj0, hk0, hk1, hk2⟩ := info_parts int_info
              have hlw : IntKind.i64.wrap ((lv : Int) + 1) = (lv : Int) + 1 := by rw [IntKind.wrap_i64]; omega
              have hlvI : (lv : Int) ≤ 1 := by omega
              have hlv0 : (0 : Int) ≤ (lv : Int) := by omega
              have hd33 : d + 1 ≤ 32 := by omega
              generalize (partD l lv d).length = pn at *
              clear hq hvd hQc hlx hrow hNN HT hnoP hi0 hz0 hz1 hz2 hlp hgQ HLv hne1 HzW hb1 Hbw1 HbW5 hw3 HFKp Hpb hbsX hem hpl hplI hcc HM HOwn hd hlt HLNp HCh HRows hlen h2 hll hlv2 hbs
              go_wp2_with fail
              go_region_law (first
                | (go_simp; go_at_call 69
                   refine (HC.out _ (by with_reducible repeat' (first | exact Below.refl _ _ | refine Below.drew ?_))).mono ?_; rintro e w2 ⟨v2, M2, R2, rfl, hM2, hf2, hR2, hv2, hbu2⟩
                   have hcl := LN.call HLN2.out (by with_reducible repeat' (first | exact Below.refl _ _ | refine Below.drew ?_)) hbu2
                   have y1 := hcl.1
                   have zX2 : w.heap.size < w2.heap.size := Lib.lt_of_cell y1
                   have HO2 := Lib.hid hcl.2
                   have HM2 := Lib.hid hM2
                   have HF2 := Lib.hid hf2
                   have HR2 := Lib.hid hR2
                   have HV2 := Lib.hid hv2
                   have HB2 := Lib.hid hbu2
                   have hzz : wc.heap.size ≤ w2.heap.size := hbu2.size
                   clear hcl hM2 hf2 hR2 hv2 hbu2)
                | (refine step_append_rows (f := inW) (n := 1) (E := 3) (nb := 8) (X := (flL ((partsD l lv d).map (trK kk)) (L.map NdM.n) []).2) (base := w.heap.size + 1) (by rfl) _ _ (by rfl) (by rfl) (OwnR.below HO2.out (by with_reducible repeat' (first | exact Below.refl _ _ | exact Nat.le_refl _ | refine Below.drew ?_ | refine Below.alloc ?_ ?_ _))) (L2 := [-(M2.length : Int)]) (by rfl) (one_row _ _) (by simp) (N := NN + 1) (by rw [HNN.out]; rfl) (Z := (flL ((partsD l lv d).map (trK kk)) (L.map NdM.n) []).2 ++ [-(M2.length : Int)]) rfl Tryz.underlying54 hj0 hk0 hk1 hk2 rfl (by decide) (by decide) (fun _ => rfl) inW_one (by omega) (by first | omega | (simp; omega)) ?_; intro g4 k4 w4 ho4 hg4 hat4 hl4
                   have hgr := LN.grown HLN2.out (by with_reducible repeat' (first | exact Below.refl _ _ | refine Below.drew ?_)) HB2.out (by with_reducible repeat' (first | exact Below.refl _ _ | exact Nat.le_refl _ | refine Below.drew ?_ | refine Below.alloc ?_ ?_ _)) hg4
                   have f4 := hgr.2
                   have c4 := hgr.1
                   have hN4 := LN.next HLN2.out (by with_reducible repeat' (first | exact Below.refl _ _ | refine Below.drew ?_)) HM2.out HF2.out HR2.out HV2.out HB2.out (by with_reducible repeat' (first | exact Below.refl _ _ | exact Nat.le_refl _ | refine Below.drew ?_ | refine Below.alloc ?_ ?_ _)) ho4 hg4 (hat4.elim (fun e => .inl e.symm) (fun e => .inr ⟨g4, rfl, Nat.le_of_eq e.symm⟩))
                   have HN4 := Lib.hid hN4.1
                   have HK4 := Lib.hid (FK.next HFK2.out (Nat.le_refl _) HV2.out HR2.out (vR4 := .slice (some ⟨g4, 0, none⟩) (NN + 1) k4) (hat4.elim (fun e => .inl e.symm) (fun e => .inr ⟨g4, rfl, by rw [e]; first | (simp; omega) | omega⟩)) hN4.2)
                   clear hgr ho4 hg4 hat4 hN4)
                | fail)
              all_goals
                have hN5 := HN4.out
                rw [← HT1.out] at hN5
                have HN5 := Lib.hid hN5
                have hK5 := HK4.out
                rw [← HT2.out] at hK5
                have HK5 := Lib.hid hK5
                clear HN4 hN5 HK4 hK5 HT1 HT2 HM2 HF2 HR2 HV2 HB2 HO2 y1 c4 f4 HNN HC HLN2 HFK2 r1 r3 hp1
                go_wp2_with fail
                go_roundw
                case rel => exact ⟨d + 1, _, _, _, _, by omega, by go_num, HN5, HK5⟩
                case measure => simp [RowKit.intOf]; omega
        · obtain rfl : d = 32 := by omega
          have hgb := HFK.out.gb
          have hD := LN.done (t := (.mk 3 [(bitsD l lv 32 : Int)] [] ((partsD l lv 32).map (trK kk)))) (nums := [(bitsD l lv 32 : Int)]) (B := some ⟨w1.heap.size, 0, none⟩) (cb := 1) (RN := fun g => g = w1.heap.size) HLN.out rfl (.inr ⟨w1.heap.size, 0, rfl, rfl, Lib.lt_of_cell HFK.out.n0, fun i x hi => by
            cases i with
            | zero => obtain rfl := (show (bitsD l lv 32 : Int) = x by simpa using hi); exact HFK.out.n0
            | succ i => simp at hi⟩) (fun g hg => by subst hg; exact ⟨hgb.2.1, HFK.out.nv⟩) (fun out => by rw [fl])
          have HD := Lib.hid hD
          clear hD
          go_wp2_with fail
          go_meet
          case rel => exact HD.out
    case rest =>
      clear x0 x1 x2 x3 f0 f1 f2 f3 Hblk HM0 HbW HzW hX
      obtain ⟨n, A1, ca1, B1, cb1, v', L', R', hMD, ⟨x0, x1, x2, x3⟩, hA, hB, hf, hR, hv, hbut⟩ := hcut
      change wc.cell? ⟨w.heap.size, 0, none⟩ = _ at x0
      change wc.cell? ⟨w.heap.size, 1, none⟩ = _ at x1
      change wc.cell? ⟨w.heap.size, 2, none⟩ = _ at x2
      change wc.cell? ⟨w.heap.size, 3, none⟩ = _ at x3
      have m0 := hMD.made
      have hbs1 := hMD.bs
      have zX : w.heap.size < wc.heap.size := Lib.lt_of_cell x0
      have zM : bM < wc.heap.size := Lib.lt_of_cell m0
      have hlen' : L'.length + 1 ≤ 1000000 := by have := congrArg List.length hf; simp only [List.length_append, List.length_map, List.length_cons, List.length_nil] at this; omega
      obtain ⟨N, hN⟩ : ∃ N, L'.length + 1 = N := ⟨_, rfl⟩
      have HN := Lib.hid hN
      have HMD := Lib.hid hMD
      have HA := Lib.hid hA
      have HB := Lib.hid hB
      have HF := Lib.hid hf
      have HR := Lib.hid hR
      have HV := Lib.hid hv
      have HBu := Lib.hid hbut
      have hN1 : (N : Int) ≤ 1000000 := by omega
      have hNl : N ≤ 1000000 := by omega
      clear hMD hA hB hf hR hv hbut hN
      go_wp2_with (at_builtin; refine of_stop ?_)
      refine stop_of ?_
      refine wpList_append_rows (f := ndW) (n := 4) (E := 126) (nb := 72) (X := L') (base := base) rfl _ _ rfl rfl (OwnR.below HMD.out.own (by with_reducible repeat' (first | exact Below.refl _ _ | exact Nat.le_refl _ | refine Below.drew ?_ | refine Below.alloc ?_ ?_ _))) (L2 := [(⟨n, A1, ca1, B1, cb1⟩ : NdM)]) rfl (one_row wc (⟨n, A1, ca1, B1, cb1⟩ : NdM)) (by simp) (N := N) HN.out (Z := L' ++ [(⟨n, A1, ca1, B1, cb1⟩ : NdM)]) rfl Tryz.underlying105 hi0 hz0 hz1 hz2 rfl (by decide) (by decide) (fun _ => rfl) ndW_oneP (by omega) (by simp; omega) ?_
      intro g4 k4 w4 ho4 hg4 hat4 hl4
      have hNP := MD.app HMD.out HA.out HB.out HF.out HR.out HV.out HBu.out (by with_reducible repeat' (first | exact Below.refl _ _ | exact Nat.le_refl _ | refine Below.drew ?_ | refine Below.alloc ?_ ?_ _)) ho4 hg4 (hat4.elim (fun e => .inl e.symm) (fun e => .inr ⟨g4, rfl, Nat.le_of_eq e.symm⟩))
      obtain ⟨c4, f4⟩ := MD.grownM HMD.out (by with_reducible repeat' (first | exact Below.refl _ _ | exact Nat.le_refl _ | refine Below.drew ?_ | refine Below.alloc ?_ ?_ _)) hg4
      rw [HN.out] at hNP
      have HNP := Lib.hid hNP
      clear hNP ho4 hg4 hat4 hl4 HMD HA HB HF HR HV HBu m0 x0 x1 x2 x3
      go_wp2_with fail
      go_ret
      exact HNP.out
end Go.Proofs.YtjgjacihdggimaaGreatDoor
namespace Go.Proofs.YtjgjacihdggimaaGreatDoor
open Go.RowKit Go.Shelf
theorem part_le (l : List En) (lv d : Nat) : (partD l lv d).length ≤ l.length := List.length_filter_le _ _
theorem RowE.old {w w' : World} {P : Nat → Prop} {A : Option Addr} {l : List En} (h : RowE w P A l) (hb : Below w.heap.size w w') : RowE w' (fun g => P g ∧ g < w.heap.size) A l := by
  rcases h with h | ⟨g, o, rfl, hp, hl, hc⟩
  · exact .inl h
  · exact .inr ⟨g, o, rfl, ⟨hp, hl⟩, Nat.lt_of_lt_of_le hl hb.size, fun i x hi j u hj => keep_cell hb (hc i x hi j u hj)⟩
theorem pn_one (l : List En) (hne : l ≠ []) (hll : l.length ≤ 100000) (hoh : oneH l = true) (lv : Int) {w : World} {base bL bM : Nat} {v : Value} {L : List NdM} {R : Nat → Prop} (hM : MD w base bL bM v L R) {A : Option Addr} {ca : Nat} {Q : Nat → Prop} (hca : l.length ≤ ca) (hl : RowE w Q A l) (hQ : ∀ g, Q g → ¬ ChM bM v g) (hlen : (fl (bukT l) (L.map NdM.n)).length ≤ 1000000) :
    Calls Tryz.prog 69 #[.slice A l.length ca, .int .i64 lv, .pointer (some ⟨bL, 0, none⟩), .pointer (some ⟨bM, 0, none⟩)] w fun e w' => NP w base bL bM v L R (bukT l) e w' := by
  match l, hne with
  | [x], _ => exact pn_leaf hM x lv hl hlen
  | x :: y :: r, _ => exact pn_buk hM (x :: y :: r) (by simp) hll hoh lv hca hl hQ hlen
theorem pn_all : ∀ (k : Nat), k ≤ 2 → ∀ (l : List En), l ≠ [] → KeyIn l → l.length ≤ 100000 → Pre k l → ∀ {w : World} {base bL bM : Nat} {v : Value} {L : List NdM} {R : Nat → Prop}, MD w base bL bM v L R → ∀ {A : Option Addr} {ca : Nat} {Q : Nat → Prop}, l.length ≤ ca → RowE w Q A l → (∀ g, Q g → ¬ ChM bM v g) → (fl (trK k l) (L.map NdM.n)).length ≤ 1000000 →
    Calls Tryz.prog 69 #[.slice A l.length ca, .int .i64 ((2 - k : Nat) : Int), .pointer (some ⟨bL, 0, none⟩), .pointer (some ⟨bM, 0, none⟩)] w fun e w' => NP w base bL bM v L R (trK k l) e w'
  | 0, _, l, hne, hk, hll, hp, w, base, bL, bM, v, L, R, hM, A, ca, Q, hca, hl, hQ, hlen => by
    rw [trK] at hlen ⊢
    exact pn_one l hne hll hp _ hM hca hl hQ hlen
  | k + 1, hk2, l, hne, hk, hll, hp, w, base, bL, bM, v, L, R, hM, A, ca, Q, hca, hl, hQ, hlen => by
    by_cases hoh : oneH l = true
    · have e : trK (k + 1) l = bukT l := by rw [trK, if_pos hoh]
      rw [e] at hlen ⊢
      exact pn_one l hne hll hoh _ hM hca hl hQ hlen
    · have e : trK (k + 1) l = .mk 3 [(bitsD l (1 - k) 32 : Int)] [] ((partsD l (1 - k) 32).map (trK k)) := by rw [trK, if_neg hoh]
      rw [e] at hlen ⊢
      have h2 : 2 ≤ l.length := by
        match l, hne with
        | [x], _ => exact absurd rfl hoh
        | x :: y :: r, _ => simp
      have hlvE : ((2 - (k + 1) : Nat) : Int) = ((1 - k : Nat) : Int) := by omega
      rw [hlvE]
      refine pn_fork hM k l h2 hll (Bool.eq_false_iff.2 hoh) hk (1 - k) rfl hl (by omega) (fun d hd hnd {w base bL bM v L R} hM {A ca Q} hca hl hQ hlen => ?_) hlen
      have := pn_all k (by omega) (partD l (1 - k) d) hnd (fun x hx => hk x (List.mem_filter.1 hx).1) (Nat.le_trans (part_le l _ d) hll) (pre_part (by omega) hk hp d) hM hca hl hQ hlen
      rw [show ((2 - k : Nat) : Int) = ((1 - k : Nat) : Int) + 1 by omega] at this
      exact this
set_option maxHeartbeats 4000000 in
set_option maxRecDepth 10000 in
theorem pnodes_any (l : List En) (hk : KeyIn l) (hll : l.length ≤ 100000) (A : Option Addr) (ca : Nat) (hca : l.length ≤ ca) (w : World) (Q : Nat → Prop) (hl : RowE w Q A l) :
    Calls Tryz.prog 52 #[.slice A l.length ca] w fun e w' => ∃ O co, e = .returned (.slice O (nodesL l).length co) ∧ (nodesL l).length ≤ co ∧ RowN w' (fun g => w.heap.size ≤ g) O (nodesL l) ∧ Below w.heap.size w w' := by
  have HL := Lib.hid hl
  have hlen0 := nodesL_len hk
  have HK := Lib.hid hk
  clear hl
  go_enter Tryz.func52, Tryz.ntmps52
  by_cases hne : l = []
  · have hl0 : l.length = 0 := by rw [hne]; rfl
    have hnl : nodesL l = [] := by unfold nodesL; rw [if_pos hne]
    rw [hnl]
    clear HL hnl hlen0 HK hne
    generalize l.length = N at *
    subst hl0
    go_wp2_with fail
    go_ret
    exact ⟨none, 0, rfl, Nat.le_refl _, .inl rfl, ((Below.refl _ _).alloc (Nat.le_refl _) _).alloc (by simp) _⟩
  · have hlp : (0 : Int) < (l.length : Int) := by have := List.length_pos_iff.2 hne; omega
    have hnl : nodesL l = fl (trK 2 l) [] := by unfold nodesL; rw [if_neg hne]
    rw [hnl] at hlen0 ⊢
    have HNe := Lib.hid hne
    clear hnl hne
    have hb0 : Below w.heap.size w ((w.alloc (.cells #[.slice none 0 0] 105)).alloc (.cells #[(.func (.func 69) #[] #[.pointer (some ⟨w.heap.size + 1, 0, none⟩), .pointer (some ⟨w.heap.size, 0, none⟩)])] 134)) := ((Below.refl _ _).alloc (Nat.le_refl _) _).alloc (by simp) _
    have hM : MD ((w.alloc (.cells #[.slice none 0 0] 105)).alloc (.cells #[(.func (.func 69) #[] #[.pointer (some ⟨w.heap.size + 1, 0, none⟩), .pointer (some ⟨w.heap.size, 0, none⟩)])] 134)) (w.heap.size + 2) (w.heap.size + 1) w.heap.size (.slice none 0 0) [] (fun _ => False) := by
      have h1 := heap_alloc2_new w (.cells #[.slice none 0 0] 105) (.cells #[(.func (.func 69) #[] #[.pointer (some ⟨w.heap.size + 1, 0, none⟩), .pointer (some ⟨w.heap.size, 0, none⟩)])] 134)
      have h2 := heap_alloc2_old w (.cells #[.slice none 0 0] 105) (.cells #[(.func (.func 69) #[] #[.pointer (some ⟨w.heap.size + 1, 0, none⟩), .pointer (some ⟨w.heap.size, 0, none⟩)])] 134)
      exact ⟨by rw [Lib.cell_of_heap h1]; rfl, by rw [Lib.cell_of_heap h2]; rfl, by unfold World.frozen?; rw [h2]; simp, World.ownsRow_nil _ _ _ _, (fun q hq => by cases hq), (fun g hg => hg.elim), by omega, by simp⟩
    have HC := Lib.hid (pn_all 2 (Nat.le_refl _) l HNe.out HK.out hll trivial hM hca (HL.out.old hb0) (fun g hg e => by
      rcases e with e | e
      · have := hg.2; omega
      · cases e) (by show (fl (trK 2 l) []).length ≤ 1000000; omega))
    have HB0 := Lib.hid hb0
    clear hM hb0
    go_wp2_with fail
    refine HC.out.mono ?_; rintro e w1 ⟨v', L', R', rfl, hM1, hf, hR, hv, hbu⟩
    have m0 := hM1.made
    have zM : w.heap.size < w1.heap.size := Lib.lt_of_cell m0
    have HM1 := Lib.hid hM1
    have HF := Lib.hid (show L'.map NdM.n = fl (trK 2 l) [] from hf)
    have HBu := Lib.hid hbu
    clear hM1 hf hR hv hbu HC
    obtain ⟨A1, c1, hv1, hcc, hat⟩ := OwnR.shape (f := ndW) (fun _ => rfl) HM1.out.own
    have HV1 := Lib.hid hv1
    have HAt := Lib.hid hat
    rw [hv1] at m0
    clear hv1 hat
    go_wp2_with fail
    go_ret
    have hln : L'.length = (fl (trK 2 l) []).length := by rw [← HF.out, List.length_map]
    refine ⟨A1, c1, by rw [← hln]; rfl, by rw [← hln]; exact hcc, ?_, ?_⟩
    · rw [← HF.out]
      rcases Nat.eq_zero_or_pos L'.length with e | e
      · rw [List.length_eq_zero_iff.1 e]; exact .inl rfl
      · obtain ⟨g, cap, hv2, hlo, hg⟩ := World.ownsRow.form HM1.out.own e
        have ho := HM1.out.own
        rw [hv2] at ho
        have hA1 : A1 = some ⟨g, 0, none⟩ := by rw [HV1.out] at hv2; simp at hv2; exact hv2.1
        refine .inr ⟨g, 0, hA1, by omega, hg, fun i n hi => ?_⟩
        have := list_rows (w := w1) (P := fun g => w.heap.size ≤ g) (rows_atR (OwnR.at (fun _ => rfl) ho rfl)) (fun q hq => by
          obtain ⟨r1, r2⟩ := HM1.out.rows q hq
          exact ⟨r1.mono fun g hg _ => (by have := (HM1.out.rR g hg).1; omega), r2.mono fun g hg _ => (by have := (HM1.out.rR g hg).1; omega)⟩) i n hi
        rw [Nat.zero_add]
        exact this
    · exact HB0.out.trans (HBu.out.below (n := w.heap.size) (fun k hk e => by
        rcases e with e | e
        · omega
        · cases e) (by simp; omega))
end Go.Proofs.YtjgjacihdggimaaGreatDoor
namespace Go.Proofs.YtjgjacihdggimaaGreatDoor
open Go.RowKit
theorem rn_one (l : List En) (hne : l ≠ []) (hll : l.length ≤ 100000) (hoh : oneH l = true) (lv : Int) {w : World} {base : Nat} {v : Value} {L : List NdM} {R : Nat → Prop} (hM : OwN w base v L R) {A : Option Addr} {ca : Nat} {Q : Nat → Prop} (hca : l.length ≤ ca) (hl : RowE w Q A l) (hQ : ∀ g, Q g → ¬ ChN v g) (hlen : (fl (bukT l) (L.map NdM.n)).length ≤ 1000000) :
    Calls Tryz.prog 31 #[.slice A l.length ca, .int .i64 lv, v] w fun e w' => NQ w base v L R (bukT l) e w' := by
  match l, hne with
  | [x], _ =>
    have h1 : L.length + 1 ≤ 1000000 := by
      have h : (fl (leafT x) (L.map NdM.n)).length ≤ 1000000 := hlen
      rw [fl_leafD, List.length_append, List.length_map] at h
      simpa using h
    exact rn_leaf hM x lv hl h1
  | x :: y :: r, _ => exact rn_buk hM (x :: y :: r) (by simp) hll hoh lv hca hl hQ hlen
theorem rn_all : ∀ (k : Nat), k ≤ 2 → ∀ (l : List En), l ≠ [] → KeyIn l → l.length ≤ 100000 → Pre k l → ∀ {w : World} {base : Nat} {v : Value} {L : List NdM} {R : Nat → Prop}, OwN w base v L R → ∀ {A : Option Addr} {ca : Nat} {Q : Nat → Prop}, l.length ≤ ca → RowE w Q A l → (∀ g, Q g → ¬ ChN v g) → (fl (trK k l) (L.map NdM.n)).length ≤ 1000000 →
    Calls Tryz.prog 31 #[.slice A l.length ca, .int .i64 ((2 - k : Nat) : Int), v] w fun e w' => NQ w base v L R (trK k l) e w'
  | 0, _, l, hne, hk, hll, hp, w, base, v, L, R, hM, A, ca, Q, hca, hl, hQ, hlen => by
    rw [trK] at hlen ⊢
    exact rn_one l hne hll hp _ hM hca hl hQ hlen
  | k + 1, hk2, l, hne, hk, hll, hp, w, base, v, L, R, hM, A, ca, Q, hca, hl, hQ, hlen => by
    by_cases hoh : oneH l = true
    · have e : trK (k + 1) l = bukT l := by rw [trK, if_pos hoh]
      rw [e] at hlen ⊢
      exact rn_one l hne hll hoh _ hM hca hl hQ hlen
    · have e : trK (k + 1) l = .mk 3 [(bitsD l (1 - k) 32 : Int)] [] ((partsD l (1 - k) 32).map (trK k)) := by rw [trK, if_neg hoh]
      rw [e] at hlen ⊢
      have h2 : 2 ≤ l.length := by
        match l, hne with
        | [x], _ => exact absurd rfl hoh
        | x :: y :: r, _ => simp
      have hlvE : ((2 - (k + 1) : Nat) : Int) = ((1 - k : Nat) : Int) := by omega
      rw [hlvE]
      refine rn_fork hM k l h2 hll (Bool.eq_false_iff.2 hoh) hk (1 - k) hl hQ (by omega) (fun d hd hnd {w base v L R} hM {A ca Q} hca hl hQ hlen => ?_) hlen
      have := rn_all k (by omega) (partD l (1 - k) d) hnd (fun x hx => hk x (List.mem_filter.1 hx).1) (Nat.le_trans (part_le l _ d) hll) (pre_part (by omega) hk hp d) hM hca hl hQ hlen
      rw [show ((2 - k : Nat) : Int) = ((1 - k : Nat) : Int) + 1 by omega] at this
      exact this
set_option maxHeartbeats 4000000 in
set_option maxRecDepth 10000 in
theorem rn_none (A : Option Addr) (ca : Nat) (lv : Int) (v : Value) (w : World) : Calls Tryz.prog 31 #[.slice A 0 ca, .int .i64 lv, v] w fun e w' => e = .returned v ∧ w' = w := by
  go_enter Tryz.func31, Tryz.ntmps31
  go_wp2_with fail
  go_ret
  exact ⟨rfl, rfl⟩
theorem rnodes_any (l : List En) (hk : KeyIn l) (hll : l.length ≤ 100000) (A : Option Addr) (ca : Nat) (hca : l.length ≤ ca) (w : World) (Q : Nat → Prop) (hl : RowE w Q A l) :
    Calls Tryz.prog 31 #[.slice A l.length ca, .int .i64 0, .slice none 0 0] w fun e w' => ∃ O co, e = .returned (.slice O (nodesL l).length co) ∧ RowN w' (fun g => w.heap.size ≤ g) O (nodesL l) ∧ Below w.heap.size w w' := by
  have hlen0 := nodesL_len hk
  by_cases hne : l = []
  · subst hne
    exact (rn_none A ca 0 (.slice none 0 0) w).mono fun e w' ⟨he, hw⟩ => ⟨none, 0, by rw [he]; rfl, .inl rfl, by rw [hw]; exact Below.refl _ _⟩
  · have hnl : nodesL l = fl (trK 2 l) [] := by unfold nodesL; rw [if_neg hne]
    rw [hnl] at hlen0 ⊢
    have hM : OwN w w.heap.size (.slice none 0 0) [] (fun _ => False) := ⟨World.ownsRow_nil _ _ _ _, (fun q hq => by cases hq), (fun g hg => hg.elim), Nat.le_refl _⟩
    refine (rn_all 2 (Nat.le_refl _) l hne hk hll trivial hM hca hl (fun g _ e => by cases e) (by show (fl (trK 2 l) []).length ≤ 1000000; omega)).mono fun e w' ⟨v', L', R', he, hO, hf, hR, hv, hbu⟩ => ?_
    have hf : L'.map NdM.n = fl (trK 2 l) [] := hf
    obtain ⟨A1, c1, hv1, hcc, hat⟩ := OwnR.shape (f := ndW) (fun _ => rfl) hO.own
    have hln : L'.length = (fl (trK 2 l) []).length := by rw [← hf, List.length_map]
    refine ⟨A1, c1, by rw [he, hv1, hln], ?_, hbu.below (n := w.heap.size) (fun k hk e => (by cases e)) (Nat.le_refl _)⟩
    rw [← hf]
    rcases Nat.eq_zero_or_pos L'.length with e | e
    · rw [List.length_eq_zero_iff.1 e]; exact .inl rfl
    · obtain ⟨g, cap, hv2, hlo, hg⟩ := World.ownsRow.form hO.own e
      have ho := hO.own
      rw [hv2] at ho
      have hA1 : A1 = some ⟨g, 0, none⟩ := by rw [hv1] at hv2; simp at hv2; exact hv2.1
      refine .inr ⟨g, 0, hA1, hlo, hg, fun i n hi => ?_⟩
      have := list_rows (w := w') (P := fun g => w.heap.size ≤ g) (rows_atR (OwnR.at (fun _ => rfl) ho rfl)) (fun q hq => by
        obtain ⟨r1, r2⟩ := hO.rows q hq
        exact ⟨r1.mono fun g hg _ => (hO.rR g hg).1, r2.mono fun g hg _ => (hO.rR g hg).1⟩) i n hi
      rw [Nat.zero_add]
      exact this
end Go.Proofs.YtjgjacihdggimaaGreatDoor
