/- Texts joined: TsH, TqFb, TqFc. -/
import Derived.Test.YtjgjacihdggimaaGreatDoorDk09
import Derived.Test.YtjgjacihdggimaaGreatDoorDk10
set_option linter.all false
namespace Go.Proofs.YtjgjacihdggimaaGreatDoor
open Go.RowKit
theorem partD_take {l : List En} {lv d i : Nat} {x : En} (hx : l[i]? = some x) : partD (l.take (i + 1)) lv d = partD (l.take i) lv d ++ (if digK x.key lv = (d : Int) then [x] else []) := by
  unfold partD
  rw [List.take_add_one, hx, List.filter_append]
  congr 1
  by_cases e : digK x.key lv = (d : Int)
  · rw [if_pos e]; simp [e]
  · rw [if_neg e]; simp [e]
theorem partD_takes (l : List En) (lv d i : Nat) : (partD (l.take i) lv d).length ≤ i := by
  unfold partD
  have := List.length_filter_le (fun x : En => decide (digK x.key lv = (d : Int))) (l.take i)
  rw [List.length_take] at this
  omega
theorem one_rowZ (W : World) (z : Nat) (hz : W.heap.size = z) (q : NdM) : AtR ndW 4 (W.alloc (.cells (ndW q).toArray 110)) z 0 [q] := by
  subst hz
  exact one_row (f := ndW) (n := 4) (E := 110) W q
theorem pow_le {d : Nat} (h : d ≤ 32) : 2 ^ d ≤ 4294967296 := Nat.le_trans (Nat.pow_le_pow_right (by decide) h) (by decide)
set_option maxHeartbeats 16000000 in
set_option maxRecDepth 10000 in
theorem rn_fork {w : World} {base : Nat} {v : Value} {L : List NdM} {R : Nat → Prop} (hM : OwN w base v L R) (kk : Nat) (l : List En) (h2 : 2 ≤ l.length) (hll : l.length ≤ 100000) (hoh : oneH l = false) (hk : KeyIn l) (lv : Nat) {A : Option Addr} {ca : Nat} {Q : Nat → Prop} (hl : RowE w Q A l) (hQ : ∀ g, Q g → ¬ ChN v g) (hlv2 : lv ≤ 1)
    (hchild : ∀ d : Nat, d < 32 → partD l lv d ≠ [] → ∀ {w : World} {base : Nat} {v : Value} {L : List NdM} {R : Nat → Prop}, OwN w base v L R → ∀ {A : Option Addr} {ca : Nat} {Q : Nat → Prop}, (partD l lv d).length ≤ ca → RowE w Q A (partD l lv d) → (∀ g, Q g → ¬ ChN v g) → (fl (trK kk (partD l lv d)) (L.map NdM.n)).length ≤ 1000000 →
      Calls Tryz.prog 31 #[.slice A (partD l lv d).length ca, .int .i64 ((lv : Int) + 1), v] w fun e w' => NQ w base v L R (trK kk (partD l lv d)) e w') (hlen : (fl (.mk 3 [(bitsD l lv 32 : Int)] [] ((partsD l lv 32).map (trK kk))) (L.map NdM.n)).length ≤ 1000000) :
    Calls Tryz.prog 31 #[.slice A l.length ca, .int .i64 (lv : Int), v] w fun e w' => NQ w base v L R (.mk 3 [(bitsD l lv 32 : Int)] [] ((partsD l lv 32).map (trK kk))) e w' := by
  obtain ⟨i0, hi0, hz0, hz1, hz2⟩ := info_parts rnode_info
  have hOn := rtone_any l (fun e => by rw [e] at h2; simp at h2) A ca w hl (by omega)
  rw [hoh] at hOn
  have HOn := Lib.hid hOn
  have hlp : 0 < l.length := by omega
  obtain ⟨g, o, rfl, _, _, _⟩ := hl.at hlp
  have HM := Lib.hid hM
  have HL := Lib.hid hl
  have HQ := Lib.hid hQ
  have HK := Lib.hid hk
  have HCh := Lib.hid @hchild
  have dl0 : ((l.length : Int) == 0) = false := by rw [beq_eq_false_iff_ne]; omega
  have dl1 : ((l.length : Int) == 1) = false := by rw [beq_eq_false_iff_ne]; omega
  clear hOn hM hl hQ hoh hk hchild
  go_enter Tryz.func31, Tryz.ntmps31
  go_wp2_with fail
  refine HOn.out.mono ?_; rintro e w1 ⟨rfl, nd, rfl⟩
  have HB1 := Lib.hid (below_drewN (Below.refl w.heap.size w) nd)
  generalize w.drewN nd = w1 at *
  have hblk := heap_alloc_new w1 (.cells #[.int .i64 3, .slice none 0 0, .slice none 0 0, .string ⟨#[]⟩] 110)
  have hbW : Below w1.heap.size w1 (w1.alloc (.cells #[.int .i64 3, .slice none 0 0, .slice none 0 0, .string ⟨#[]⟩] 110)) := (Below.refl _ _).alloc (Nat.le_refl _) _
  have hM1 := HM.out.below HB1.out
  have hLQ := LQ.start (k := 3) (vN := .slice none 0 0) hM1 (hM1.below hbW) hbW (Lib.cell_of_heap hblk 0) (Lib.cell_of_heap hblk 1) (Lib.cell_of_heap hblk 2) (Lib.cell_of_heap hblk 3) (fun j => by unfold World.frozen?; rw [hblk]; simp)
  have HLQ0 := Lib.hid hLQ
  have hL1 : RowE w1 (fun g => ¬ ChN v g ∧ g < w1.heap.size) (some ⟨g, o, none⟩) l := by
    have h1 := HL.out.below HB1.out
    exact h1.mono fun g hg hl => ⟨HQ.out g hg, hl⟩
  have HL1 := Lib.hid hL1
  have hlvI : (lv : Int) ≤ 1 := by omega
  have hlv0 : (0 : Int) ≤ (lv : Int) := by omega
  obtain ⟨M, hM32⟩ : ∃ M : Nat, M = 32 := ⟨_, rfl⟩
  have HM32 := Lib.hid hM32
  clear hblk hbW hM1 hLQ HL hL1 HM HQ HOn hM32
  go_wp2_with fail
  go_loopw [2, 10, 11, 12, 13, 14] (fun vo vs vb vd _ _ wr => ∃ (d sN b : Nat) (vR : Value) (L' : List NdM) (R' : Nat → Prop), d ≤ M ∧ vd = .int .i64 (d : Int) ∧ vs = .int .i64 (sN : Int) ∧ vb = .int .i64 (b : Int) ∧ Hid (sN = bitsD l lv d) ∧ Hid (b = 2 ^ d) ∧ Hid (LQ w1 wr base v L R ((partsD l lv d).map (trK kk)) vR 3 (.slice none 0 0) vo L' R')) (fun _ _ _ vd _ _ _ => 32 - (RowKit.intOf vd).toNat)
  case atStart => exact ⟨0, 0, 1, _, _, _, Nat.zero_le _, rfl, rfl, rfl, Lib.hid rfl, Lib.hid rfl, HLQ0⟩
  case round =>
    clear HLQ0
    obtain ⟨d, sN, b, vR, L', R', hd, rfl, rfl, rfl, HSn, HBn, HLQ⟩ := hrel
    have hb32 : b ≤ 4294967296 := by rw [HBn.out]; exact pow_le (by have := HM32.out; omega)
    have hs32 : sN ≤ 4294967296 := by rw [HSn.out]; exact Nat.le_trans (Nat.le_of_lt (bitsD_lt l lv d)) (pow_le (by have := HM32.out; omega))
    by_cases hlt : d < 32
    · have hI : (d : Int) < 32 := by omega
      have hJ : (0 : Int) ≤ (d : Int) := by omega
      obtain ⟨wo, rfl⟩ : ∃ wo : World, wo = wr := ⟨wr, rfl⟩
      have HBs : Hid (2 * b = 2 ^ (d + 1)) := Lib.hid (by rw [HBn.out, Nat.pow_succ, Nat.mul_comm])
      have hLr : RowE wo (fun _ => True) (some ⟨g, o, none⟩) l := (HL1.out.kept (HLQ.out.but.keptQ fun g hg => hg.1)).mono fun _ _ _ => trivial
      have HLr := Lib.hid hLr
      obtain ⟨j0, hj0, hk0, hk1, hk2⟩ := info_parts rent_info
      clear hLr
      go_wp2_with fail
      go_loopw [13, 14] (fun vw vi wr2 => ∃ i : Nat, i ≤ l.length ∧ vi = .int .i64 (i : Int) ∧ Hid (OwnR 75 2 enW wo.heap.size wr2 vw (partD (l.take i) lv d)) ∧ Below wo.heap.size wo wr2) (fun _ vi _ => l.length - (RowKit.intOf vi).toNat)
      case atStart => exact ⟨0, Nat.zero_le _, rfl, Lib.hid (by rw [List.take_zero]; exact World.ownsRow_nil _ _ _ _), Below.refl _ _⟩
      case round =>
        obtain ⟨i, hi, rfl, HO, hb⟩ := hrel
        by_cases hli : i < l.length
        · obtain ⟨x, hx⟩ : ∃ x, l[i]? = some x := ⟨_, List.getElem?_eq_getElem hli⟩
          obtain ⟨g', o', e, _, _, hat⟩ := HLr.out.at hli
          obtain ⟨rfl, rfl⟩ : g = g' ∧ o = o' := by injection e with e; injection e with a b; exact ⟨a, b⟩
          obtain ⟨q0, q1⟩ := hat.two hx
          have k0 := keep_cell hb q0
          have k1 := keep_cell hb q1
          have hiI : (i : Int) < (l.length : Int) := by omega
          have hiJ : (0 : Int) ≤ (i : Int) := by omega
          have hbs := hb.size
          have hpl := partD_takes l lv d i
          have HE := Lib.hid (partD_take (lv := lv) (d := d) hx)
          have HDg := Lib.hid (fun w' => rdigit_any x.key (HK.out x (List.mem_of_getElem? hx)) lv w')
          obtain ⟨kx, tx⟩ := x
          have hE := HE.out
          change partD (l.take (i + 1)) lv d = partD (l.take i) lv d ++ (if digK kx lv = (d : Int) then [(⟨kx, tx⟩ : En)] else []) at hE
          change Hid (∀ w', Calls Tryz.prog 56 #[.int .i64 kx, .int .i64 (lv : Int)] w' fun e w'' => e = .returned (.int .i64 (digK kx lv)) ∧ w'' = w') at HDg
          generalize digK kx lv = dk at *
          by_cases e : dk = (d : Int)
          · have d0 : (dk == (d : Int)) = true := by simpa using e
            rw [if_pos e] at hE
            have HE2 := Lib.hid hE
            have b0 : Below wo.heap.size wo (wr.alloc (.cells (enW ⟨kx, tx⟩).toArray 75)) := hb.alloc hbs _
            obtain ⟨NN, hNN⟩ : ∃ NN, (partD (l.take i) lv d).length = NN := ⟨_, rfl⟩
            rw [hNN] at hpl
            have HNN := Lib.hid hNN
            clear e hx hat hE HE q0 q1 hNN
            go_wp2_with fail
            refine (HDg.out _).mono ?_; rintro e w5 ⟨rfl, rfl⟩
            go_wp2_with (at_builtin; refine of_stop ?_)
            refine stop_of ?_
            refine wpList_append_rows (f := enW) (n := 2) (E := 75) (nb := 24) (X := partD (l.take i) lv d) (base := wo.heap.size) rfl _ _ rfl rfl (OwnR.below HO.out (by with_reducible repeat' (first | exact Below.refl _ _ | exact Nat.le_refl _ | refine Below.drew ?_ | refine Below.alloc ?_ ?_ _ | refine nl_al ?_ | refine nl_d ?_))) (L2 := [(⟨kx, tx⟩ : En)]) rfl (one_row _ (⟨kx, tx⟩ : En)) (by simp) (N := NN + 1) (by rw [HNN.out]; rfl) (Z := partD (l.take (i + 1)) lv d) HE2.out.symm Tryz.underlying35 hj0 hk0 hk1 hk2 rfl (by decide) (by decide) (fun _ => rfl) enW_one (by omega) (by simp; omega) ?_
            intro g4 k4 w4 ho4 hg4 hat4 hl4
            have hb4 : Below wo.heap.size wo w4 := Below.grown b0 hg4 (by simp; omega) (fun k hk => (World.ownsRow.lt HO.out k hk).1)
            have HO4 := Lib.hid ho4
            clear ho4 hg4 hat4 hl4 b0
            go_wp2_with fail
            go_roundw
            case rel => exact ⟨i + 1, by omega, by go_num, HO4, hb4⟩
            case measure => simp [RowKit.intOf]; omega
          · have d0 : (dk == (d : Int)) = false := by simpa using e
            rw [if_neg e, List.append_nil] at hE
            rw [← hE] at HO
            clear e hx hat hE HE q0 q1
            go_wp2_with fail
            refine (HDg.out _).mono ?_; rintro e w5 ⟨rfl, rfl⟩
            go_wp2_with fail
            go_roundw
            case rel => exact ⟨i + 1, by omega, by go_num, HO, hb⟩
            case measure => simp [RowKit.intOf]; omega
        · have hii : i = l.length := by omega
          subst hii
          have hO := HO.out
          rw [List.take_length] at hO
          obtain ⟨W, cw, hvw, hcw, hrw⟩ := own_rowE hO
          subst hvw
          have hQw : ∀ g, wo.heap.size ≤ g → ¬ ChN _ g := fun g hg e => by have := (World.ownsRow.lt HLQ.out.md.own g e).2; omega
          have HL2 := Lib.hid (HLQ.out.below hb)
          have HRw := Lib.hid hrw
          have HQw := Lib.hid hQw
          clear hO HO hrw hQw HLQ HLr
          by_cases hem : partD l lv d = []
          · have hpl : (partD l lv d).length = 0 := by rw [hem]; rfl
            have HT : Hid (partsD l lv (d + 1) = partsD l lv d ∧ bitsD l lv (d + 1) = bitsD l lv d) := Lib.hid ⟨by rw [partsD_succ, hem]; exact List.append_nil _, by rw [bitsD, hem]; rfl⟩
            have hL2 := HL2.out
            rw [← HT.out.1] at hL2
            have HL3 := Lib.hid hL2
            have HS3 : Hid (sN = bitsD l lv (d + 1)) := Lib.hid (HSn.out.trans HT.out.2.symm)
            rw [hpl] at hcw ⊢
            clear hL2 HL2 HRw HQw HT hem hpl
            go_wp2_with fail
            go_roundw
            case rel => exact ⟨d + 1, sN, 2 * b, _, _, _, by have := HM32.out; omega, by go_num, rfl, by go_num, HS3, HBs, HL3⟩
            case measure => simp [RowKit.intOf]; omega
          · have hpl : 0 < (partD l lv d).length := List.length_pos_iff.2 hem
            have hplI : (0 : Int) < ((partD l lv d).length : Int) := by omega
            have HT : Hid ((partsD l lv (d + 1)).map (trK kk) = (partsD l lv d).map (trK kk) ++ [trK kk (partD l lv d)] ∧ bitsD l lv (d + 1) = bitsD l lv d + 2 ^ d) := Lib.hid (by
              have he : (partD l lv d).isEmpty = false := by cases h : partD l lv d with | nil => exact absurd h hem | cons _ _ => rfl
              exact ⟨by rw [partsD_succ, he]; simp, by rw [bitsD, he]; rfl⟩)
            have HS3 : Hid (sN + b = bitsD l lv (d + 1)) := Lib.hid (by rw [HT.out.2, HSn.out, HBn.out])
            have hlx : (fl (trK kk (partD l lv d)) (L'.map NdM.n)).length ≤ 1000000 := by
              obtain ⟨m, hm⟩ := partsD_le l lv (d + 1) (32 - (d + 1))
              rw [show d + 1 + (32 - (d + 1)) = 32 by omega] at hm
              have h1 := flL_le ((partsD l lv (d + 1)).map (trK kk)) (m.map (trK kk)) (L.map NdM.n) []
              rw [← List.map_append, ← hm, HT.out.1, flL_snoc, ← HL2.out.eq] at h1
              exact Nat.le_trans h1 (Nat.le_trans (fl_ge 3 _ [] _ _) hlen)
            have HC := Lib.hid (HCh.out d hlt hem HL2.out.md hcw HRw.out HQw.out hlx)
            have HT1 := Lib.hid HT.out.1
            have r1 := HL2.out.x1
            have zX := HL2.out.lt
            have hlr : (flL ((partsD l lv d).map (trK kk)) (L.map NdM.n) []).2.length ≤ 1000 := by
              obtain ⟨m, e, hm⟩ := flL_refs ((partsD l lv d).map (trK kk)) (L.map NdM.n) []
              rw [e, List.nil_append, hm, List.length_map]
              have : (partsD l lv d).length ≤ d := by
                unfold partsD
                exact Nat.le_trans (List.length_filter_le _ _) (by simp)
              omega
            obtain ⟨NN, hNN⟩ : ∃ NN, (flL ((partsD l lv d).map (trK kk)) (L.map NdM.n) []).2.length = NN := ⟨_, rfl⟩
            rw [hNN] at hlr
            have HNN := Lib.hid hNN
            obtain ⟨m0, hm0, hn0, hn1, hn2⟩ := info_parts int_info
            have hlw : IntKind.i64.wrap ((lv : Int) + 1) = (lv : Int) + 1 := by rw [IntKind.wrap_i64]; omega
            have HX := Lib.hid hlx
            generalize (partD l lv d).length = pn at *
            clear hNN hlx HT hem hcw HRw HQw
            go_wp2_with fail
            refine HC.out.mono ?_; rintro e w2 ⟨v2, M2, R2, rfl, hM2, hf2, hR2, hv2, hbu2⟩
            have hcl := LQ.call HL2.out (Below.refl _ _) hbu2
            have y1 := hcl.1
            have zX2 : w1.heap.size < w2.heap.size := Lib.lt_of_cell y1
            have HO2 := Lib.hid hcl.2
            obtain ⟨O2, c2, rfl, _, _⟩ := OwnR.shape (f := ndW) (fun _ => rfl) hM2.own
            have hm2 : M2.length ≤ 1000000 := by
              have := congrArg List.length hf2
              rw [List.length_map] at this
              have := HX.out
              omega
            have HM2 := Lib.hid hM2
            have HF2 := Lib.hid hf2
            have HR2 := Lib.hid hR2
            have HV2 := Lib.hid hv2
            have HB2 := Lib.hid hbu2
            clear hcl hM2 hf2 hR2 hv2 hbu2 HC r1
            go_wp2_with (at_builtin; refine of_stop ?_)
            refine stop_of ?_
            refine wpList_append_rows (f := inW) (n := 1) (E := 3) (nb := 8) (X := (flL ((partsD l lv d).map (trK kk)) (L.map NdM.n) []).2) (base := w1.heap.size + 1) rfl _ _ rfl rfl (OwnR.below HO2.out (by with_reducible repeat' (first | exact Below.refl _ _ | exact Nat.le_refl _ | refine Below.drew ?_ | refine Below.alloc ?_ ?_ _ | refine nl_al ?_ | refine nl_d ?_))) (L2 := [-(M2.length : Int)]) rfl (one_row _ _) (by simp) (N := NN + 1) (by rw [HNN.out]; rfl) (Z := (flL ((partsD l lv d).map (trK kk)) (L.map NdM.n) []).2 ++ [-(M2.length : Int)]) rfl Tryz.underlying54 hm0 hn0 hn1 hn2 rfl (by decide) (by decide) (fun _ => rfl) inW_one (by omega) (by simp; omega) ?_
            intro g4 k4 w4 ho4 hg4 hat4 hl4
            have hgr := LQ.grown HL2.out (Below.refl _ _) HB2.out (w2 := w2.alloc _) (by exact (Below.refl _ _).alloc (Nat.le_refl _) _) hg4
            have f4 := hgr.2
            have c4 := hgr.1
            have hN4 := LQ.next HL2.out (Below.refl _ _) HM2.out HF2.out HR2.out HV2.out HB2.out (w2 := w2.alloc _) (by exact (Below.refl _ _).alloc (Nat.le_refl _) _) ho4 hg4 (hat4.elim (fun e => .inl e.symm) (fun e => .inr ⟨g4, rfl, Nat.le_of_eq e.symm⟩))
            have hN5 := hN4.1
            rw [← HT1.out] at hN5
            have HN5 := Lib.hid hN5
            clear hgr ho4 hg4 hat4 hN4 hN5 HM2 HF2 HR2 HV2 HB2 HO2 y1 HL2 HT1 HNN
            go_wp2_with fail
            go_roundw
            case rel => exact ⟨d + 1, sN + b, 2 * b, _, _, _, by have := HM32.out; omega, by go_num, by go_num, by go_num, HS3, HBs, HN5⟩
            case measure => simp [RowKit.intOf]; omega
    · obtain rfl : d = M := by have := HM32.out; omega
      have hI : (32 : Int) ≤ (d : Int) := by have := HM32.out; omega
      have hd32 : d = 32 := HM32.out
      have HTs : Hid ((partsD l lv d).map (trK kk) = (partsD l lv 32).map (trK kk)) := Lib.hid (by rw [hd32])
      have hsn : sN = bitsD l lv 32 := by rw [HSn.out, hd32]
      have hq0 := HLQ.out.nums (.slice (some ⟨wr.heap.size, 0, none⟩) 1 1)
      rw [HTs.out] at hq0
      have hbN : Below (wr.setCell ⟨w1.heap.size, 2, none⟩ (.slice (some ⟨wr.heap.size, 0, none⟩) 1 1)).heap.size (wr.setCell ⟨w1.heap.size, 2, none⟩ (.slice (some ⟨wr.heap.size, 0, none⟩) 1 1)) ((wr.setCell ⟨w1.heap.size, 2, none⟩ (.slice (some ⟨wr.heap.size, 0, none⟩) 1 1)).alloc (.cells #[.int .i64 (sN : Int)] 3)) := (Below.refl _ _).alloc (Nat.le_refl _) _
      have hq := hq0.below hbN
      have hXl := HLQ.out.lt
      have hG : ((wr.setCell ⟨w1.heap.size, 2, none⟩ (.slice (some ⟨wr.heap.size, 0, none⟩) 1 1)).alloc (.cells #[.int .i64 (sN : Int)] 3)).heap[wr.heap.size]? = some (.cells #[.int .i64 (sN : Int)] 3 (0, 0)) := by
        have := heap_alloc_new (wr.setCell ⟨w1.heap.size, 2, none⟩ (.slice (some ⟨wr.heap.size, 0, none⟩) 1 1)) (.cells #[.int .i64 (sN : Int)] 3)
        rw [show (wr.setCell ⟨w1.heap.size, 2, none⟩ (.slice (some ⟨wr.heap.size, 0, none⟩) 1 1)).heap.size = wr.heap.size by simp] at this
        exact this
      obtain ⟨A2, ca2, R2, rfl, hO, hA, hB, hR⟩ := LQ.done hq (nums := [(sN : Int)]) (B := some ⟨wr.heap.size, 0, none⟩) (RN := fun g => g = wr.heap.size) (rowI_lit hG rfl rfl) (fun g hg _ => by
        subst hg
        exact ⟨hXl, fun e => by have := (World.ownsRow.lt HLQ.out.md.own _ e).2; omega⟩)
      obtain ⟨O2, co2, rfl, _, _⟩ := OwnR.shape (f := ndW) (fun _ => rfl) hq.md.own
      obtain ⟨rs, hrs⟩ : ∃ rs, (flL ((partsD l lv 32).map (trK kk)) (L.map NdM.n) []).2 = rs := ⟨_, rfl⟩
      have hf : L'.map NdM.n ++ [⟨3, rs, [(sN : Int)], []⟩] = fl (.mk 3 [(bitsD l lv 32 : Int)] [] ((partsD l lv 32).map (trK kk))) (L.map NdM.n) := by rw [fl, hq.eq, hrs, hsn]
      rw [hrs] at hA hq
      have hx0 := HLQ.out.x0
      have hx1 := HLQ.out.x1
      have hx2 := HLQ.out.x2
      have hx3 := HLQ.out.x3
      have fx2 := HLQ.out.fX 2
      rw [hrs] at hx1
      have hlen2 : L'.length + 1 ≤ 1000000 := by
        have := congrArg List.length hf
        rw [List.length_append, List.length_map] at this
        simp only [List.length_cons, List.length_nil] at this
        omega
      obtain ⟨N, hN⟩ : ∃ N, L'.length + 1 = N := ⟨_, rfl⟩
      rw [hN] at hlen2
      have HN := Lib.hid hN
      have hbs := hq.bs
      have HO := Lib.hid hO
      have HA := Lib.hid hA
      have HBn2 := Lib.hid hB
      have HF := Lib.hid hf
      have HR := Lib.hid hR
      have HV := Lib.hid hq.v2
      have HBu := Lib.hid hq.but
      clear hO hA hB hf hR hq hq0 HLQ hN hlen hG hbN hsn HTs hd32
      go_wp2_with (at_builtin; refine of_stop ?_)
      refine stop_of ?_
      refine wpList_append_rows (f := ndW) (n := 4) (E := 110) (nb := 72) (X := L') (base := base) rfl _ _ rfl rfl (OwnR.below HO.out.own (by with_reducible repeat' (first | exact Below.refl _ _ | exact Nat.le_refl _ | refine Below.drew ?_ | refine Below.alloc ?_ ?_ _ | refine nl_al ?_ | refine nl_d ?_))) (L2 := [(⟨⟨3, rs, [(sN : Int)], []⟩, A2, ca2, some ⟨wr.heap.size, 0, none⟩, 1⟩ : NdM)]) rfl (one_rowZ _ _ (by simp) (⟨⟨3, rs, [(sN : Int)], []⟩, A2, ca2, some ⟨wr.heap.size, 0, none⟩, 1⟩ : NdM)) (by simp) (N := N) HN.out (Z := L' ++ [(⟨⟨3, rs, [(sN : Int)], []⟩, A2, ca2, some ⟨wr.heap.size, 0, none⟩, 1⟩ : NdM)]) rfl Tryz.underlying65 hi0 hz0 hz1 hz2 rfl (by decide) (by decide) (fun _ => rfl) ndW_one (by omega) (by simp; omega) ?_
      intro g4 k4 w4 ho4 hg4 hat4 hl4
      have hNQ := OwN.app (w := w1) (L := L) HO.out HA.out HBn2.out HF.out HR.out HV.out HBu.out (by with_reducible repeat' (first | exact Below.refl _ _ | exact Nat.le_refl _ | refine Below.drew ?_ | refine Below.alloc ?_ ?_ _ | refine nl_al ?_ | refine nl_d ?_)) ho4 hg4 (hat4.elim (fun e => .inl e.symm) (fun e => .inr ⟨g4, rfl, Nat.le_of_eq e.symm⟩))
      have HNQ := Lib.hid (NQ.from HB1.out hNQ)
      clear hNQ ho4 hg4 hat4 hl4 HO HA HBn2 HF HR HV HBu hx0 hx1 hx2 hx3 fx2
      go_wp2_with fail
      go_ret
      exact HNQ.out
end Go.Proofs.YtjgjacihdggimaaGreatDoor
namespace Go.Proofs.YtjgjacihdggimaaGreatDoor
open Go.RowKit Go.Shelf
set_option maxHeartbeats 16000000 in
set_option maxRecDepth 10000 in
theorem pn_leaf {w : World} {base bL bM : Nat} {v : Value} {L : List NdM} {R : Nat → Prop} (hM : MD w base bL bM v L R) (x : En) (lv : Int) {A : Option Addr} {ca : Nat} {Q : Nat → Prop} (hl : RowE w Q A [x]) (hlen : (fl (leafT x) (L.map NdM.n)).length ≤ 1000000) :
    Calls Tryz.prog 69 #[.slice A 1 ca, .int .i64 lv, .pointer (some ⟨bL, 0, none⟩), .pointer (some ⟨bM, 0, none⟩)] w fun e w' => NP w base bL bM v L R (leafT x) e w' := by
  obtain ⟨i0, hi0, hz0, hz1, hz2⟩ := info_parts pnd_info
  have hbW : Below w.heap.size w (w.alloc (.cells #[.int .i64 0, .slice none 0 0, .slice none 0 0, .string ⟨#[]⟩] 126)) := (Below.refl _ _).alloc (Nat.le_refl _) _
  have hblk := heap_alloc_new w (.cells #[.int .i64 0, .slice none 0 0, .slice none 0 0, .string ⟨#[]⟩] 126)
  have hzW : (w.alloc (.cells #[.int .i64 0, .slice none 0 0, .slice none 0 0, .string ⟨#[]⟩] 126)).heap.size = w.heap.size + 1 := by simp
  have HM := Lib.hid hM
  have HM0 := Lib.hid (hM.below hbW)
  have HbW := Lib.hid hbW
  have Hblk := Lib.hid hblk
  have HzW := Lib.hid hzW
  have hbs := hM.bs
  have hlt : 0 < [x].length := by simp
  obtain ⟨g, o, rfl, hgQ, hgl, hat⟩ := hl.at hlt
  obtain ⟨q0, q1⟩ := hat.two (i := 0) (x := x) rfl
  rw [Nat.zero_mul, Nat.add_zero] at q0
  rw [Nat.zero_mul, Nat.add_zero] at q1
  have k0 := keep_cell hbW q0
  have k1 := keep_cell hbW q1
  clear hat q0 q1 hl
  clear hM hbW hblk hzW
  go_enter Tryz.func69, Tryz.ntmps69
  go_upto_region 1 with fail
  go_cut [7] from 7 to 7 (fun s7 wx => s7 = .pointer (some ⟨w.heap.size, 0, none⟩) ∧ wx = w.alloc (.cells #[.int .i64 0, .slice none 0 0, .slice none 0 0, .string ⟨#[]⟩] 126))
  case first =>
    go_wp2_with fail
    go_meet
    case rel => exact ⟨rfl, rfl⟩
  case rest =>
    obtain ⟨rfl, rfl⟩ := hcut
    generalize w.alloc (.cells #[.int .i64 0, .slice none 0 0, .slice none 0 0, .string ⟨#[]⟩] 126) = W0 at *
    have hX : w.heap.size < W0.heap.size := by rw [HzW.out]; omega
    have x0 : W0.cell? ⟨w.heap.size, 0, none⟩ = some (.int .i64 0) := Lib.cell_of_heap Hblk.out 0
    have x1 : W0.cell? ⟨w.heap.size, 1, none⟩ = some (.slice none 0 0) := Lib.cell_of_heap Hblk.out 1
    have x2 : W0.cell? ⟨w.heap.size, 2, none⟩ = some (.slice none 0 0) := Lib.cell_of_heap Hblk.out 2
    have x3 : W0.cell? ⟨w.heap.size, 3, none⟩ = some (.string ⟨#[]⟩) := Lib.cell_of_heap Hblk.out 3
    have f0 : W0.frozen? ⟨w.heap.size, 0, none⟩ = false := by unfold World.frozen?; rw [Hblk.out]; simp
    have f1 : W0.frozen? ⟨w.heap.size, 1, none⟩ = false := by unfold World.frozen?; rw [Hblk.out]; simp
    have f2 : W0.frozen? ⟨w.heap.size, 2, none⟩ = false := by unfold World.frozen?; rw [Hblk.out]; simp
    have f3 : W0.frozen? ⟨w.heap.size, 3, none⟩ = false := by unfold World.frozen?; rw [Hblk.out]; simp
    go_step
    go_step
    go_cut [] from 8 to 81 (fun wx => MidN w wx w.heap.size base bL bM v L R (leafT x))
    case first =>
      have k0z := Lib.lt_of_cell k0
      go_wp2_with fail
      go_region_law (first | fail)
      all_goals
        go_wp2_with fail
        go_meet
        case rel => exact leaf_mid HM.out HM0.out HbW.out HzW.out x0 x1 x2 x3
    case rest =>
      clear x0 x1 x2 x3 f0 f1 f2 f3 Hblk HM0 HbW HzW hX
      obtain ⟨n, A1, ca1, B1, cb1, v', L', R', hMD, ⟨x0, x1, x2, x3⟩, hA, hB, hf, hR, hv, hbut⟩ := hcut
      change wc.cell? ⟨w.heap.size, 0, none⟩ = _ at x0
      change wc.cell? ⟨w.heap.size, 1, none⟩ = _ at x1
      change wc.cell? ⟨w.heap.size, 2, none⟩ = _ at x2
      change wc.cell? ⟨w.heap.size, 3, none⟩ = _ at x3
      have m0 := hMD.made
      have hbs1 := hMD.bs
      have zX : w.heap.size < wc.heap.size := Lib.lt_of_cell x0
      have zM : bM < wc.heap.size := Lib.lt_of_cell m0
      have hlen' : L'.length + 1 ≤ 1000000 := by have := congrArg List.length hf; simp only [List.length_append, List.length_map, List.length_cons, List.length_nil] at this; omega
      obtain ⟨N, hN⟩ : ∃ N, L'.length + 1 = N := ⟨_, rfl⟩
      have HN := Lib.hid hN
      have HMD := Lib.hid hMD
      have HA := Lib.hid hA
      have HB := Lib.hid hB
      have HF := Lib.hid hf
      have HR := Lib.hid hR
      have HV := Lib.hid hv
      have HBu := Lib.hid hbut
      have hN1 : (N : Int) ≤ 1000000 := by omega
      have hNl : N ≤ 1000000 := by omega
      clear hMD hA hB hf hR hv hbut hN
      go_wp2_with (at_builtin; refine of_stop ?_)
      refine stop_of ?_
      refine wpList_append_rows (f := ndW) (n := 4) (E := 126) (nb := 72) (X := L') (base := base) rfl _ _ rfl rfl (OwnR.below HMD.out.own (by with_reducible repeat' (first | exact Below.refl _ _ | exact Nat.le_refl _ | refine Below.drew ?_ | refine Below.alloc ?_ ?_ _))) (L2 := [(⟨n, A1, ca1, B1, cb1⟩ : NdM)]) rfl (one_row wc (⟨n, A1, ca1, B1, cb1⟩ : NdM)) (by simp) (N := N) HN.out (Z := L' ++ [(⟨n, A1, ca1, B1, cb1⟩ : NdM)]) rfl Tryz.underlying105 hi0 hz0 hz1 hz2 rfl (by decide) (by decide) (fun _ => rfl) ndW_oneP (by omega) (by simp; omega) ?_
      intro g4 k4 w4 ho4 hg4 hat4 hl4
      have hNP := MD.app HMD.out HA.out HB.out HF.out HR.out HV.out HBu.out (by with_reducible repeat' (first | exact Below.refl _ _ | exact Nat.le_refl _ | refine Below.drew ?_ | refine Below.alloc ?_ ?_ _)) ho4 hg4 (hat4.elim (fun e => .inl e.symm) (fun e => .inr ⟨g4, rfl, Nat.le_of_eq e.symm⟩))
      obtain ⟨c4, f4⟩ := MD.grownM HMD.out (by with_reducible repeat' (first | exact Below.refl _ _ | exact Nat.le_refl _ | refine Below.drew ?_ | refine Below.alloc ?_ ?_ _)) hg4
      rw [HN.out] at hNP
      have HNP := Lib.hid hNP
      clear hNP ho4 hg4 hat4 hl4 HMD HA HB HF HR HV HBu m0 x0 x1 x2 x3
      go_wp2_with fail
      go_ret
      exact HNP.out
end Go.Proofs.YtjgjacihdggimaaGreatDoor
namespace Go.Proofs.YtjgjacihdggimaaGreatDoor
open Go.RowKit Go.Shelf
set_option maxHeartbeats 16000000 in
set_option maxRecDepth 10000 in
theorem pn_buk {w : World} {base bL bM : Nat} {v : Value} {L : List NdM} {R : Nat → Prop} (hM : MD w base bL bM v L R) (l : List En) (h2 : 2 ≤ l.length) (hll : l.length ≤ 100000) (hoh : oneH l = true) (lv : Int) {A : Option Addr} {ca : Nat} (hca : l.length ≤ ca) {Q : Nat → Prop} (hl : RowE w Q A l) (hQ : ∀ g, Q g → ¬ ChM bM v g) (hlen : (fl (.mk 2 [] [] (l.map leafT)) (L.map NdM.n)).length ≤ 1000000) :
    Calls Tryz.prog 69 #[.slice A l.length ca, .int .i64 lv, .pointer (some ⟨bL, 0, none⟩), .pointer (some ⟨bM, 0, none⟩)] w fun e w' => NP w base bL bM v L R (.mk 2 [] [] (l.map leafT)) e w' := by
  obtain ⟨i0, hi0, hz0, hz1, hz2⟩ := info_parts pnd_info
  have hbW : Below w.heap.size w (w.alloc (.cells #[.int .i64 0, .slice none 0 0, .slice none 0 0, .string ⟨#[]⟩] 126)) := (Below.refl _ _).alloc (Nat.le_refl _) _
  have hblk := heap_alloc_new w (.cells #[.int .i64 0, .slice none 0 0, .slice none 0 0, .string ⟨#[]⟩] 126)
  have hzW : (w.alloc (.cells #[.int .i64 0, .slice none 0 0, .slice none 0 0, .string ⟨#[]⟩] 126)).heap.size = w.heap.size + 1 := by simp
  have HM := Lib.hid hM
  have HM0 := Lib.hid (hM.below hbW)
  have HbW := Lib.hid hbW
  have Hblk := Lib.hid hblk
  have HzW := Lib.hid hzW
  have hbs := hM.bs
  have hlp : 0 < l.length := by omega
  obtain ⟨g, o, rfl, hgQ, hgl, hat⟩ := hl.at hlp
  have HAl := Lib.hid (fun w' (hb : Below w.heap.size w w') => palike_any l (by intro e; rw [e] at h2; simp at h2) (by omega) (some ⟨g, o, none⟩) ca w' Q (hl.below hb))
  rw [hoh] at HAl
  have HL := Lib.hid hl
  have HQ := Lib.hid hQ
  have hne1 : ((l.length : Int) == 1) = false := by rw [beq_eq_false_iff_ne]; omega
  clear hat hl hQ hoh
  clear hM hbW hblk hzW
  go_enter Tryz.func69, Tryz.ntmps69
  go_upto_region 1 with fail
  go_cut [7] from 7 to 7 (fun s7 wx => s7 = .pointer (some ⟨w.heap.size, 0, none⟩) ∧ wx = w.alloc (.cells #[.int .i64 0, .slice none 0 0, .slice none 0 0, .string ⟨#[]⟩] 126))
  case first =>
    go_wp2_with fail
    go_meet
    case rel => exact ⟨rfl, rfl⟩
  case rest =>
    obtain ⟨rfl, rfl⟩ := hcut
    generalize w.alloc (.cells #[.int .i64 0, .slice none 0 0, .slice none 0 0, .string ⟨#[]⟩] 126) = W0 at *
    have hX : w.heap.size < W0.heap.size := by rw [HzW.out]; omega
    have x0 : W0.cell? ⟨w.heap.size, 0, none⟩ = some (.int .i64 0) := Lib.cell_of_heap Hblk.out 0
    have x1 : W0.cell? ⟨w.heap.size, 1, none⟩ = some (.slice none 0 0) := Lib.cell_of_heap Hblk.out 1
    have x2 : W0.cell? ⟨w.heap.size, 2, none⟩ = some (.slice none 0 0) := Lib.cell_of_heap Hblk.out 2
    have x3 : W0.cell? ⟨w.heap.size, 3, none⟩ = some (.string ⟨#[]⟩) := Lib.cell_of_heap Hblk.out 3
    have f0 : W0.frozen? ⟨w.heap.size, 0, none⟩ = false := by unfold World.frozen?; rw [Hblk.out]; simp
    have f1 : W0.frozen? ⟨w.heap.size, 1, none⟩ = false := by unfold World.frozen?; rw [Hblk.out]; simp
    have f2 : W0.frozen? ⟨w.heap.size, 2, none⟩ = false := by unfold World.frozen?; rw [Hblk.out]; simp
    have f3 : W0.frozen? ⟨w.heap.size, 3, none⟩ = false := by unfold World.frozen?; rw [Hblk.out]; simp
    go_step
    go_step
    go_cut [] from 8 to 81 (fun wx => MidN w wx w.heap.size base bL bM v L R (.mk 2 [] [] (l.map leafT)))
    case first =>
      go_wp2_with fail
      refine (HAl.out _ HbW.out).mono ?_; rintro e w1 ⟨rfl, hb1⟩
      have hX1 : w.heap.size < w1.heap.size := by have := hb1.size; omega
      have y0 := keep_cell hb1 x0
      have y1 := keep_cell hb1 x1
      have y2 := keep_cell hb1 x2
      have y3 := keep_cell hb1 x3
      have g0 := keep_frozen hb1 hX f0
      have hbw1 : Below w.heap.size w w1 := HbW.out.trans (hb1.mono HbW.out.size)
      have hLN0 := LN.start (k := 2) HM.out (HM0.out.below hb1) hbw1 y0 y1 y2 y3 (fun j => keep_frozen (p := ⟨w.heap.size, j, none⟩) hb1 hX (by unfold World.frozen?; rw [Hblk.out]; simp))
      have HLN0 := Lib.hid hLN0
      clear hLN0 y1 y2 y3 HAl HbW HM0 x0 x1 x2 x3 f0 f1 f2 f3 hbw1
      go_wp2_with fail
      go_loopw [65] (fun vi wr => ∃ (i : Nat) (vR v' : Value) (L' : List NdM) (R' : Nat → Prop), i ≤ l.length ∧ vi = .int .i64 (i : Int) ∧ Hid (LN w wr base bL bM v L R ((l.take i).map leafT) vR 2 (.slice none 0 0) v' L' R')) (fun vi _ => l.length - (RowKit.intOf vi).toNat)
      case atStart => exact ⟨0, _, _, _, _, Nat.zero_le _, rfl, HLN0⟩
      case round =>
        obtain ⟨i, vR, v', L', R', hi, rfl, HLN⟩ := hrel
        by_cases hlt : i < l.length
        · obtain ⟨x, hx⟩ : ∃ x, l[i]? = some x := ⟨_, List.getElem?_eq_getElem hlt⟩
          have HT : Hid (((l.take i).map leafT) ++ [leafT x] = (l.take (i + 1)).map leafT) := Lib.hid (by rw [List.take_add_one, hx, List.map_append]; rfl)
          have hrow : RowE wr Q (some ⟨g, o + i * 2, none⟩) [x] := by
            have hk := HL.out.kept (HLN.out.but.keptQ HQ.out)
            obtain ⟨g', o', e, hg', hgl', hat⟩ := hk.at hlt
            obtain ⟨rfl, rfl⟩ : g = g' ∧ o = o' := by injection e with e; injection e with a b; exact ⟨a, b⟩
            refine .inr ⟨g, o + i * 2, rfl, hg', hgl', ?_⟩
            have := hat.part i 1
            rwa [List.drop_eq_getElem_cons hlt, List.take_succ_cons, List.take_zero, show l[i] = x from (List.getElem?_eq_some_iff.1 hx).2] at this
          have hlx : (fl (leafT x) (L'.map NdM.n)).length ≤ 1000000 := by
            have h1 := flL_mono (l.map leafT) (i + 1) (L.map NdM.n) []
            rw [← List.map_take, ← HT.out, flL_snoc, ← HLN.out.eq] at h1
            exact Nat.le_trans h1 (Nat.le_trans (fl_ge 2 [] [] _ _) hlen)
          have HC := Lib.hid (fun w' (hb : Below wr.heap.size wr w') => pn_leaf (w := w') (HLN.out.md.below hb) x lv (A := some ⟨g, o + i * 2, none⟩) (ca := ca - i) (hrow.below hb) hlx)
          have r1 := HLN.out.x1
          have r2 := HLN.out.md.lay
          have zX := HLN.out.lt
          have zL : bL < wr.heap.size := Lib.lt_of_cell r2
          have hlr : (flL ((l.take i).map leafT) (L.map NdM.n) []).2.length = i := by
            obtain ⟨m, e, hm⟩ := flL_refs ((l.take i).map leafT) (L.map NdM.n) []
            rw [e, List.nil_append, hm, List.length_map, List.length_take]; omega
          have HLr := Lib.hid hlr
          obtain ⟨j0, hj0, hk0, hk1, hk2⟩ := info_parts int_info
          have hkI : (i : Int) < (l.length : Int) := by omega
          have hkw : IntKind.i64.wrap ((i : Int) + 1) = (i : Int) + 1 := by rw [IntKind.wrap_i64]; omega
          have hkv : (i : Int) + 1 ≤ (ca : Int) := by omega
          have hkvN : i + 1 ≤ ca := by omega
          have hkvL : i < ca := by omega
          have hkvI : (i : Int) < (ca : Int) := by omega
          have hkvZ : ¬ (ca - i = 0) := by omega
          have hkvE : ¬ (ca = i) := by omega
          have hki0 : (0 : Int) ≤ (i : Int) := by omega
          have hkk : (i : Int) ≤ (i : Int) + 1 := by omega
          clear hx hrow hlx hlr
          go_wp2_with fail
          go_region_law (first
            | (go_simp; go_at_call 69
               refine (HC.out _ (by with_reducible repeat' (first | exact Below.refl _ _ | refine Below.drew ?_))).mono ?_; rintro e w2 ⟨v2, M2, R2, rfl, hM2, hf2, hR2, hv2, hbu2⟩
               have hcl := LN.call HLN.out (by with_reducible repeat' (first | exact Below.refl _ _ | refine Below.drew ?_)) hbu2
               have y1 := hcl.1
               have zX2 : w.heap.size < w2.heap.size := Lib.lt_of_cell y1
               have HO2 := Lib.hid hcl.2
               have HM2 := Lib.hid hM2
               have HF2 := Lib.hid hf2
               have HR2 := Lib.hid hR2
               have HV2 := Lib.hid hv2
               have HB2 := Lib.hid hbu2
               clear hcl hM2 hf2 hR2 hv2 hbu2)
            | (refine step_append_rows (f := inW) (n := 1) (E := 3) (nb := 8) (X := (flL ((l.take i).map leafT) (L.map NdM.n) []).2) (base := w.heap.size + 1) (by rfl) _ _ (by rfl) (by rfl) (OwnR.below HO2.out (by with_reducible repeat' (first | exact Below.refl _ _ | exact Nat.le_refl _ | refine Below.drew ?_ | refine Below.alloc ?_ ?_ _))) (L2 := [-(M2.length : Int)]) (by rfl) (one_row _ _) (by simp) (N := i + 1) (by rw [HLr.out]; rfl) (Z := (flL ((l.take i).map leafT) (L.map NdM.n) []).2 ++ [-(M2.length : Int)]) rfl Tryz.underlying54 hj0 hk0 hk1 hk2 rfl (by decide) (by decide) (fun _ => rfl) inW_one (by omega) (by first | omega | (simp; omega)) ?_; intro g4 k4 w4 ho4 hg4 hat4 hl4
               have hgr := LN.grown HLN.out (by with_reducible repeat' (first | exact Below.refl _ _ | refine Below.drew ?_)) HB2.out (by with_reducible repeat' (first | exact Below.refl _ _ | exact Nat.le_refl _ | refine Below.drew ?_ | refine Below.alloc ?_ ?_ _)) hg4
               have f4 := hgr.2
               have c4 := hgr.1
               have HN4 := Lib.hid (LN.next HLN.out (by with_reducible repeat' (first | exact Below.refl _ _ | refine Below.drew ?_)) HM2.out HF2.out HR2.out HV2.out HB2.out (by with_reducible repeat' (first | exact Below.refl _ _ | exact Nat.le_refl _ | refine Below.drew ?_ | refine Below.alloc ?_ ?_ _)) ho4 hg4 (hat4.elim (fun e => .inl e.symm) (fun e => .inr ⟨g4, rfl, Nat.le_of_eq e.symm⟩))).1
               clear hgr ho4 hg4 hat4)
            | fail)
          all_goals
            have hN5 := HN4.out
            rw [HT.out] at hN5
            have HN5 := Lib.hid hN5
            clear HN4 hN5 HT HM2 HF2 HR2 HV2 HB2 HO2 y1 c4 f4 HLr HC HLN r1 r2
            go_wp2_with fail
            go_roundw
            case rel => exact ⟨i + 1, _, _, _, _, by omega, by go_num, HN5⟩
            case measure => simp [RowKit.intOf]; omega
        · have hii : i = l.length := by omega
          subst hii
          have hD := LN.done (t := .mk 2 [] [] (l.map leafT)) (nums := []) (B := none) (cb := 0) (RN := fun _ => False) HLN.out rfl (.inl rfl) (fun g hg => hg.elim) (fun out => by rw [fl, List.take_length])
          have HD := Lib.hid hD
          clear hD
          go_wp2_with fail
          go_meet
          case rel => exact HD.out
    case rest =>
      clear x0 x1 x2 x3 f0 f1 f2 f3 Hblk HM0 HbW HzW hX
      obtain ⟨n, A1, ca1, B1, cb1, v', L', R', hMD, ⟨x0, x1, x2, x3⟩, hA, hB, hf, hR, hv, hbut⟩ := hcut
      change wc.cell? ⟨w.heap.size, 0, none⟩ = _ at x0
      change wc.cell? ⟨w.heap.size, 1, none⟩ = _ at x1
      change wc.cell? ⟨w.heap.size, 2, none⟩ = _ at x2
      change wc.cell? ⟨w.heap.size, 3, none⟩ = _ at x3
      have m0 := hMD.made
      have hbs1 := hMD.bs
      have zX : w.heap.size < wc.heap.size := Lib.lt_of_cell x0
      have zM : bM < wc.heap.size := Lib.lt_of_cell m0
      have hlen' : L'.length + 1 ≤ 1000000 := by have := congrArg List.length hf; simp only [List.length_append, List.length_map, List.length_cons, List.length_nil] at this; omega
      obtain ⟨N, hN⟩ : ∃ N, L'.length + 1 = N := ⟨_, rfl⟩
      have HN := Lib.hid hN
      have HMD := Lib.hid hMD
      have HA := Lib.hid hA
      have HB := Lib.hid hB
      have HF := Lib.hid hf
      have HR := Lib.hid hR
      have HV := Lib.hid hv
      have HBu := Lib.hid hbut
      have hN1 : (N : Int) ≤ 1000000 := by omega
      have hNl : N ≤ 1000000 := by omega
      clear hMD hA hB hf hR hv hbut hN
      go_wp2_with (at_builtin; refine of_stop ?_)
      refine stop_of ?_
      refine wpList_append_rows (f := ndW) (n := 4) (E := 126) (nb := 72) (X := L') (base := base) rfl _ _ rfl rfl (OwnR.below HMD.out.own (by with_reducible repeat' (first | exact Below.refl _ _ | exact Nat.le_refl _ | refine Below.drew ?_ | refine Below.alloc ?_ ?_ _))) (L2 := [(⟨n, A1, ca1, B1, cb1⟩ : NdM)]) rfl (one_row wc (⟨n, A1, ca1, B1, cb1⟩ : NdM)) (by simp) (N := N) HN.out (Z := L' ++ [(⟨n, A1, ca1, B1, cb1⟩ : NdM)]) rfl Tryz.underlying105 hi0 hz0 hz1 hz2 rfl (by decide) (by decide) (fun _ => rfl) ndW_oneP (by omega) (by simp; omega) ?_
      intro g4 k4 w4 ho4 hg4 hat4 hl4
      have hNP := MD.app HMD.out HA.out HB.out HF.out HR.out HV.out HBu.out (by with_reducible repeat' (first | exact Below.refl _ _ | exact Nat.le_refl _ | refine Below.drew ?_ | refine Below.alloc ?_ ?_ _)) ho4 hg4 (hat4.elim (fun e => .inl e.symm) (fun e => .inr ⟨g4, rfl, Nat.le_of_eq e.symm⟩))
      obtain ⟨c4, f4⟩ := MD.grownM HMD.out (by with_reducible repeat' (first | exact Below.refl _ _ | exact Nat.le_refl _ | refine Below.drew ?_ | refine Below.alloc ?_ ?_ _)) hg4
      rw [HN.out] at hNP
      have HNP := Lib.hid hNP
      clear hNP ho4 hg4 hat4 hl4 HMD HA HB HF HR HV HBu m0 x0 x1 x2 x3
      go_wp2_with fail
      go_ret
      exact HNP.out
end Go.Proofs.YtjgjacihdggimaaGreatDoor
