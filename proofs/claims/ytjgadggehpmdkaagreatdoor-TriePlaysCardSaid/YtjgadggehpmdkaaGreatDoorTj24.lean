/- Texts joined: TsH, TsI, TsJ. -/
import Derived.Test.YtjgadggehpmdkaaGreatDoorTj23
import Derived.Test.YtjgadggehpmdkaaGreatDoorTj17
import Derived.Test.YtjgadggehpmdkaaGreatDoorTj18
import Derived.Test.YtjgadggehpmdkaaGreatDoorTj02
import Derived.Test.YtjgadggehpmdkaaGreatDoorTj04
set_option linter.all false
namespace Go.Proofs.YtjgadggehpmdkaaGreatDoor
open Go.RowKit
theorem partD_take {l : List En} {lv d i : Nat} {x : En} (hx : l[i]? = some x) : partD (l.take (i + 1)) lv d = partD (l.take i) lv d ++ (if digK x.key lv = (d : Int) then [x] else []) := by
  unfold partD
  rw [List.take_add_one, hx, List.filter_append]
  congr 1
  by_cases e : digK x.key lv = (d : Int)
  · rw [if_pos e]; simp [e]
  · rw [if_neg e]; simp [e]
theorem partD_takes (l : List En) (lv d i : Nat) : (partD (l.take i) lv d).length ≤ i := by
  unfold partD
  have := List.length_filter_le (fun x : En => decide (digK x.key lv = (d : Int))) (l.take i)
  rw [List.length_take] at this
  omega
theorem one_rowZ (W : World) (z : Nat) (hz : W.heap.size = z) (q : NdM) : AtR ndW 4 (W.alloc (.cells (ndW q).toArray 102)) z 0 [q] := by
  subst hz
  exact one_row (f := ndW) (n := 4) (E := 102) W q
theorem pow_le {d : Nat} (h : d ≤ 32) : 2 ^ d ≤ 4294967296 := Nat.le_trans (Nat.pow_le_pow_right (by decide) h) (by decide)
set_option maxHeartbeats 16000000 in
set_option maxRecDepth 10000 in
theorem rn_fork {w : World} {base : Nat} {v : Value} {L : List NdM} {R : Nat → Prop} (hM : OwN w base v L R) (kk : Nat) (l : List En) (h2 : 2 ≤ l.length) (hll : l.length ≤ 100000) (hoh : oneH l = false) (hk : KeyIn l) (lv : Nat) {A : Option Addr} {ca : Nat} {Q : Nat → Prop} (hl : RowE w Q A l) (hQ : ∀ g, Q g → ¬ ChN v g) (hlv2 : lv ≤ 1)
    (hchild : ∀ d : Nat, d < 32 → partD l lv d ≠ [] → ∀ {w : World} {base : Nat} {v : Value} {L : List NdM} {R : Nat → Prop}, OwN w base v L R → ∀ {A : Option Addr} {ca : Nat} {Q : Nat → Prop}, (partD l lv d).length ≤ ca → RowE w Q A (partD l lv d) → (∀ g, Q g → ¬ ChN v g) → (fl (trK kk (partD l lv d)) (L.map NdM.n)).length ≤ 1000000 →
      Calls Tryz.prog 39 #[.slice A (partD l lv d).length ca, .int .i64 ((lv : Int) + 1), v] w fun e w' => NQ w base v L R (trK kk (partD l lv d)) e w') (hlen : (fl (.mk 3 [(bitsD l lv 32 : Int)] [] ((partsD l lv 32).map (trK kk))) (L.map NdM.n)).length ≤ 1000000) :
    Calls Tryz.prog 39 #[.slice A l.length ca, .int .i64 (lv : Int), v] w fun e w' => NQ w base v L R (.mk 3 [(bitsD l lv 32 : Int)] [] ((partsD l lv 32).map (trK kk))) e w' := by
  obtain ⟨i0, hi0, hz0, hz1, hz2⟩ := info_parts rnode_info
  have hOn := rtone_any l (fun e => by rw [e] at h2; simp at h2) A ca w hl (by omega)
  rw [hoh] at hOn
  have HOn := Lib.hid hOn
  have hlp : 0 < l.length := by omega
  obtain ⟨g, o, rfl, _, _, _⟩ := hl.at hlp
  have HM := Lib.hid hM
  have HL := Lib.hid hl
  have HQ := Lib.hid hQ
  have HK := Lib.hid hk
  have HCh := Lib.hid @hchild
  have dl0 : ((l.length : Int) == 0) = false := by rw [beq_eq_false_iff_ne]; omega
  have dl1 : ((l.length : Int) == 1) = false := by rw [beq_eq_false_iff_ne]; omega
  clear hOn hM hl hQ hoh hk hchild
  go_enter Tryz.func39, Tryz.ntmps39
  go_wp2_with fail
  refine HOn.out.mono ?_; rintro e w1 ⟨rfl, nd, rfl⟩
  have HB1 := Lib.hid (below_drewN (Below.refl w.heap.size w) nd)
  generalize w.drewN nd = w1 at *
  have hblk := heap_alloc_new w1 (.cells #[.int .i64 3, .slice none 0 0, .slice none 0 0, .string ⟨#[]⟩] 102)
  have hbW : Below w1.heap.size w1 (w1.alloc (.cells #[.int .i64 3, .slice none 0 0, .slice none 0 0, .string ⟨#[]⟩] 102)) := (Below.refl _ _).alloc (Nat.le_refl _) _
  have hM1 := HM.out.below HB1.out
  have hLQ := LQ.start (k := 3) (vN := .slice none 0 0) hM1 (hM1.below hbW) hbW (Lib.cell_of_heap hblk 0) (Lib.cell_of_heap hblk 1) (Lib.cell_of_heap hblk 2) (Lib.cell_of_heap hblk 3) (fun j => by unfold World.frozen?; rw [hblk]; simp)
  have HLQ0 := Lib.hid hLQ
  have hL1 : RowE w1 (fun g => ¬ ChN v g ∧ g < w1.heap.size) (some ⟨g, o, none⟩) l := by
    have h1 := HL.out.below HB1.out
    exact h1.mono fun g hg hl => ⟨HQ.out g hg, hl⟩
  have HL1 := Lib.hid hL1
  have hlvI : (lv : Int) ≤ 1 := by omega
  have hlv0 : (0 : Int) ≤ (lv : Int) := by omega
  obtain ⟨M, hM32⟩ : ∃ M : Nat, M = 32 := ⟨_, rfl⟩
  have HM32 := Lib.hid hM32
  clear hblk hbW hM1 hLQ HL hL1 HM HQ HOn hM32
  go_wp2_with fail
  go_loopw [2, 10, 11, 12, 13, 14] (fun vo vs vb vd _ _ wr => ∃ (d sN b : Nat) (vR : Value) (L' : List NdM) (R' : Nat → Prop), d ≤ M ∧ vd = .int .i64 (d : Int) ∧ vs = .int .i64 (sN : Int) ∧ vb = .int .i64 (b : Int) ∧ Hid (sN = bitsD l lv d) ∧ Hid (b = 2 ^ d) ∧ Hid (LQ w1 wr base v L R ((partsD l lv d).map (trK kk)) vR 3 (.slice none 0 0) vo L' R')) (fun _ _ _ vd _ _ _ => 32 - (RowKit.intOf vd).toNat)
  case atStart => exact ⟨0, 0, 1, _, _, _, Nat.zero_le _, rfl, rfl, rfl, Lib.hid rfl, Lib.hid rfl, HLQ0⟩
  case round =>
    clear HLQ0
    obtain ⟨d, sN, b, vR, L', R', hd, rfl, rfl, rfl, HSn, HBn, HLQ⟩ := hrel
    have hb32 : b ≤ 4294967296 := by rw [HBn.out]; exact pow_le (by have := HM32.out; omega)
    have hs32 : sN ≤ 4294967296 := by rw [HSn.out]; exact Nat.le_trans (Nat.le_of_lt (bitsD_lt l lv d)) (pow_le (by have := HM32.out; omega))
    by_cases hlt : d < 32
    · have hI : (d : Int) < 32 := by omega
      have hJ : (0 : Int) ≤ (d : Int) := by omega
      obtain ⟨wo, rfl⟩ : ∃ wo : World, wo = wr := ⟨wr, rfl⟩
      have HBs : Hid (2 * b = 2 ^ (d + 1)) := Lib.hid (by rw [HBn.out, Nat.pow_succ, Nat.mul_comm])
      have hLr : RowE wo (fun _ => True) (some ⟨g, o, none⟩) l := (HL1.out.kept (HLQ.out.but.keptQ fun g hg => hg.1)).mono fun _ _ _ => trivial
      have HLr := Lib.hid hLr
      obtain ⟨j0, hj0, hk0, hk1, hk2⟩ := info_parts rent_info
      clear hLr
      go_wp2_with fail
      go_loopw [13, 14] (fun vw vi wr2 => ∃ i : Nat, i ≤ l.length ∧ vi = .int .i64 (i : Int) ∧ Hid (OwnR 68 2 enW wo.heap.size wr2 vw (partD (l.take i) lv d)) ∧ Below wo.heap.size wo wr2) (fun _ vi _ => l.length - (RowKit.intOf vi).toNat)
      case atStart => exact ⟨0, Nat.zero_le _, rfl, Lib.hid (by rw [List.take_zero]; exact World.ownsRow_nil _ _ _ _), Below.refl _ _⟩
      case round =>
        obtain ⟨i, hi, rfl, HO, hb⟩ := hrel
        by_cases hli : i < l.length
        · obtain ⟨x, hx⟩ : ∃ x, l[i]? = some x := ⟨_, List.getElem?_eq_getElem hli⟩
          obtain ⟨g', o', e, _, _, hat⟩ := HLr.out.at hli
          obtain ⟨rfl, rfl⟩ : g = g' ∧ o = o' := by injection e with e; injection e with a b; exact ⟨a, b⟩
          obtain ⟨q0, q1⟩ := hat.two hx
          have k0 := keep_cell hb q0
          have k1 := keep_cell hb q1
          have hiI : (i : Int) < (l.length : Int) := by omega
          have hiJ : (0 : Int) ≤ (i : Int) := by omega
          have hbs := hb.size
          have hpl := partD_takes l lv d i
          have HE := Lib.hid (partD_take (lv := lv) (d := d) hx)
          have HDg := Lib.hid (fun w' => rdigit_any x.key (HK.out x (List.mem_of_getElem? hx)) lv w')
          obtain ⟨kx, tx⟩ := x
          have hE := HE.out
          change partD (l.take (i + 1)) lv d = partD (l.take i) lv d ++ (if digK kx lv = (d : Int) then [(⟨kx, tx⟩ : En)] else []) at hE
          change Hid (∀ w', Calls Tryz.prog 59 #[.int .i64 kx, .int .i64 (lv : Int)] w' fun e w'' => e = .returned (.int .i64 (digK kx lv)) ∧ w'' = w') at HDg
          generalize digK kx lv = dk at *
          by_cases e : dk = (d : Int)
          · have d0 : (dk == (d : Int)) = true := by simpa using e
            rw [if_pos e] at hE
            have HE2 := Lib.hid hE
            have b0 : Below wo.heap.size wo (wr.alloc (.cells (enW ⟨kx, tx⟩).toArray 68)) := hb.alloc hbs _
            obtain ⟨NN, hNN⟩ : ∃ NN, (partD (l.take i) lv d).length = NN := ⟨_, rfl⟩
            rw [hNN] at hpl
            have HNN := Lib.hid hNN
            clear e hx hat hE HE q0 q1 hNN
            go_wp2_with fail
            refine (HDg.out _).mono ?_; rintro e w5 ⟨rfl, rfl⟩
            go_wp2_with (at_builtin; refine of_stop ?_)
            refine stop_of ?_
            refine wpList_append_rows (f := enW) (n := 2) (E := 68) (nb := 24) (X := partD (l.take i) lv d) (base := wo.heap.size) rfl _ _ rfl rfl (OwnR.below HO.out (by with_reducible repeat' (first | exact Below.refl _ _ | exact Nat.le_refl _ | refine Below.drew ?_ | refine Below.alloc ?_ ?_ _ | refine nl_al ?_ | refine nl_d ?_))) (L2 := [(⟨kx, tx⟩ : En)]) rfl (one_row _ (⟨kx, tx⟩ : En)) (by simp) (N := NN + 1) (by rw [HNN.out]; rfl) (Z := partD (l.take (i + 1)) lv d) HE2.out.symm Tryz.underlying39 hj0 hk0 hk1 hk2 rfl (by decide) (by decide) (fun _ => rfl) enW_one (by omega) (by simp; omega) ?_
            intro g4 k4 w4 ho4 hg4 hat4 hl4
            have hb4 : Below wo.heap.size wo w4 := Below.grown b0 hg4 (by simp; omega) (fun k hk => (World.ownsRow.lt HO.out k hk).1)
            have HO4 := Lib.hid ho4
            clear ho4 hg4 hat4 hl4 b0
            go_wp2_with fail
            go_roundw
            case rel => exact ⟨i + 1, by omega, by go_num, HO4, hb4⟩
            case measure => simp [RowKit.intOf]; omega
          · have d0 : (dk == (d : Int)) = false := by simpa using e
            rw [if_neg e, List.append_nil] at hE
            rw [← hE] at HO
            clear e hx hat hE HE q0 q1
            go_wp2_with fail
            refine (HDg.out _).mono ?_; rintro e w5 ⟨rfl, rfl⟩
            go_wp2_with fail
            go_roundw
            case rel => exact ⟨i + 1, by omega, by go_num, HO, hb⟩
            case measure => simp [RowKit.intOf]; omega
        · have hii : i = l.length := by omega
          subst hii
          have hO := HO.out
          rw [List.take_length] at hO
          obtain ⟨W, cw, hvw, hcw, hrw⟩ := own_rowE hO
          subst hvw
          have hQw : ∀ g, wo.heap.size ≤ g → ¬ ChN _ g := fun g hg e => by have := (World.ownsRow.lt HLQ.out.md.own g e).2; omega
          have HL2 := Lib.hid (HLQ.out.below hb)
          have HRw := Lib.hid hrw
          have HQw := Lib.hid hQw
          clear hO HO hrw hQw HLQ HLr
          by_cases hem : partD l lv d = []
          · have hpl : (partD l lv d).length = 0 := by rw [hem]; rfl
            have HT : Hid (partsD l lv (d + 1) = partsD l lv d ∧ bitsD l lv (d + 1) = bitsD l lv d) := Lib.hid ⟨by rw [partsD_succ, hem]; exact List.append_nil _, by rw [bitsD, hem]; rfl⟩
            have hL2 := HL2.out
            rw [← HT.out.1] at hL2
            have HL3 := Lib.hid hL2
            have HS3 : Hid (sN = bitsD l lv (d + 1)) := Lib.hid (HSn.out.trans HT.out.2.symm)
            rw [hpl] at hcw ⊢
            clear hL2 HL2 HRw HQw HT hem hpl
            go_wp2_with fail
            go_roundw
            case rel => exact ⟨d + 1, sN, 2 * b, _, _, _, by have := HM32.out; omega, by go_num, rfl, by go_num, HS3, HBs, HL3⟩
            case measure => simp [RowKit.intOf]; omega
          · have hpl : 0 < (partD l lv d).length := List.length_pos_iff.2 hem
            have hplI : (0 : Int) < ((partD l lv d).length : Int) := by omega
            have HT : Hid ((partsD l lv (d + 1)).map (trK kk) = (partsD l lv d).map (trK kk) ++ [trK kk (partD l lv d)] ∧ bitsD l lv (d + 1) = bitsD l lv d + 2 ^ d) := Lib.hid (by
              have he : (partD l lv d).isEmpty = false := by cases h : partD l lv d with | nil => exact absurd h hem | cons _ _ => rfl
              exact ⟨by rw [partsD_succ, he]; simp, by rw [bitsD, he]; rfl⟩)
            have HS3 : Hid (sN + b = bitsD l lv (d + 1)) := Lib.hid (by rw [HT.out.2, HSn.out, HBn.out])
            have hlx : (fl (trK kk (partD l lv d)) (L'.map NdM.n)).length ≤ 1000000 := by
              obtain ⟨m, hm⟩ := partsD_le l lv (d + 1) (32 - (d + 1))
              rw [show d + 1 + (32 - (d + 1)) = 32 by omega] at hm
              have h1 := flL_le ((partsD l lv (d + 1)).map (trK kk)) (m.map (trK kk)) (L.map NdM.n) []
              rw [← List.map_append, ← hm, HT.out.1, flL_snoc, ← HL2.out.eq] at h1
              exact Nat.le_trans h1 (Nat.le_trans (fl_ge 3 _ [] _ _) hlen)
            have HC := Lib.hid (HCh.out d hlt hem HL2.out.md hcw HRw.out HQw.out hlx)
            have HT1 := Lib.hid HT.out.1
            have r1 := HL2.out.x1
            have zX := HL2.out.lt
            have hlr : (flL ((partsD l lv d).map (trK kk)) (L.map NdM.n) []).2.length ≤ 1000 := by
              obtain ⟨m, e, hm⟩ := flL_refs ((partsD l lv d).map (trK kk)) (L.map NdM.n) []
              rw [e, List.nil_append, hm, List.length_map]
              have : (partsD l lv d).length ≤ d := by
                unfold partsD
                exact Nat.le_trans (List.length_filter_le _ _) (by simp)
              omega
            obtain ⟨NN, hNN⟩ : ∃ NN, (flL ((partsD l lv d).map (trK kk)) (L.map NdM.n) []).2.length = NN := ⟨_, rfl⟩
            rw [hNN] at hlr
            have HNN := Lib.hid hNN
            obtain ⟨m0, hm0, hn0, hn1, hn2⟩ := info_parts int_info
            have hlw : IntKind.i64.wrap ((lv : Int) + 1) = (lv : Int) + 1 := by rw [IntKind.wrap_i64]; omega
            have HX := Lib.hid hlx
            generalize (partD l lv d).length = pn at *
            clear hNN hlx HT hem hcw HRw HQw
            go_wp2_with fail
            refine HC.out.mono ?_; rintro e w2 ⟨v2, M2, R2, rfl, hM2, hf2, hR2, hv2, hbu2⟩
            have hcl := LQ.call HL2.out (Below.refl _ _) hbu2
            have y1 := hcl.1
            have zX2 : w1.heap.size < w2.heap.size := Lib.lt_of_cell y1
            have HO2 := Lib.hid hcl.2
            obtain ⟨O2, c2, rfl, _, _⟩ := OwnR.shape (f := ndW) (fun _ => rfl) hM2.own
            have hm2 : M2.length ≤ 1000000 := by
              have := congrArg List.length hf2
              rw [List.length_map] at this
              have := HX.out
              omega
            have HM2 := Lib.hid hM2
            have HF2 := Lib.hid hf2
            have HR2 := Lib.hid hR2
            have HV2 := Lib.hid hv2
            have HB2 := Lib.hid hbu2
            clear hcl hM2 hf2 hR2 hv2 hbu2 HC r1
            go_wp2_with (at_builtin; refine of_stop ?_)
            refine stop_of ?_
            refine wpList_append_rows (f := inW) (n := 1) (E := 3) (nb := 8) (X := (flL ((partsD l lv d).map (trK kk)) (L.map NdM.n) []).2) (base := w1.heap.size + 1) rfl _ _ rfl rfl (OwnR.below HO2.out (by with_reducible repeat' (first | exact Below.refl _ _ | exact Nat.le_refl _ | refine Below.drew ?_ | refine Below.alloc ?_ ?_ _ | refine nl_al ?_ | refine nl_d ?_))) (L2 := [-(M2.length : Int)]) rfl (one_row _ _) (by simp) (N := NN + 1) (by rw [HNN.out]; rfl) (Z := (flL ((partsD l lv d).map (trK kk)) (L.map NdM.n) []).2 ++ [-(M2.length : Int)]) rfl Tryz.underlying32 hm0 hn0 hn1 hn2 rfl (by decide) (by decide) (fun _ => rfl) inW_one (by omega) (by simp; omega) ?_
            intro g4 k4 w4 ho4 hg4 hat4 hl4
            have hgr := LQ.grown HL2.out (Below.refl _ _) HB2.out (w2 := w2.alloc _) (by exact (Below.refl _ _).alloc (Nat.le_refl _) _) hg4
            have f4 := hgr.2
            have c4 := hgr.1
            have hN4 := LQ.next HL2.out (Below.refl _ _) HM2.out HF2.out HR2.out HV2.out HB2.out (w2 := w2.alloc _) (by exact (Below.refl _ _).alloc (Nat.le_refl _) _) ho4 hg4 (hat4.elim (fun e => .inl e.symm) (fun e => .inr ⟨g4, rfl, Nat.le_of_eq e.symm⟩))
            have hN5 := hN4.1
            rw [← HT1.out] at hN5
            have HN5 := Lib.hid hN5
            clear hgr ho4 hg4 hat4 hN4 hN5 HM2 HF2 HR2 HV2 HB2 HO2 y1 HL2 HT1 HNN
            go_wp2_with fail
            go_roundw
            case rel => exact ⟨d + 1, sN + b, 2 * b, _, _, _, by have := HM32.out; omega, by go_num, by go_num, by go_num, HS3, HBs, HN5⟩
            case measure => simp [RowKit.intOf]; omega
    · obtain rfl : d = M := by have := HM32.out; omega
      have hI : (32 : Int) ≤ (d : Int) := by have := HM32.out; omega
      have hd32 : d = 32 := HM32.out
      have HTs : Hid ((partsD l lv d).map (trK kk) = (partsD l lv 32).map (trK kk)) := Lib.hid (by rw [hd32])
      have hsn : sN = bitsD l lv 32 := by rw [HSn.out, hd32]
      have hq0 := HLQ.out.nums (.slice (some ⟨wr.heap.size, 0, none⟩) 1 1)
      rw [HTs.out] at hq0
      have hbN : Below (wr.setCell ⟨w1.heap.size, 2, none⟩ (.slice (some ⟨wr.heap.size, 0, none⟩) 1 1)).heap.size (wr.setCell ⟨w1.heap.size, 2, none⟩ (.slice (some ⟨wr.heap.size, 0, none⟩) 1 1)) ((wr.setCell ⟨w1.heap.size, 2, none⟩ (.slice (some ⟨wr.heap.size, 0, none⟩) 1 1)).alloc (.cells #[.int .i64 (sN : Int)] 3)) := (Below.refl _ _).alloc (Nat.le_refl _) _
      have hq := hq0.below hbN
      have hXl := HLQ.out.lt
      have hG : ((wr.setCell ⟨w1.heap.size, 2, none⟩ (.slice (some ⟨wr.heap.size, 0, none⟩) 1 1)).alloc (.cells #[.int .i64 (sN : Int)] 3)).heap[wr.heap.size]? = some (.cells #[.int .i64 (sN : Int)] 3 (0, 0)) := by
        have := heap_alloc_new (wr.setCell ⟨w1.heap.size, 2, none⟩ (.slice (some ⟨wr.heap.size, 0, none⟩) 1 1)) (.cells #[.int .i64 (sN : Int)] 3)
        rw [show (wr.setCell ⟨w1.heap.size, 2, none⟩ (.slice (some ⟨wr.heap.size, 0, none⟩) 1 1)).heap.size = wr.heap.size by simp] at this
        exact this
      obtain ⟨A2, ca2, R2, rfl, hO, hA, hB, hR⟩ := LQ.done hq (nums := [(sN : Int)]) (B := some ⟨wr.heap.size, 0, none⟩) (RN := fun g => g = wr.heap.size) (rowI_lit hG rfl rfl) (fun g hg _ => by
        subst hg
        exact ⟨hXl, fun e => by have := (World.ownsRow.lt HLQ.out.md.own _ e).2; omega⟩)
      obtain ⟨O2, co2, rfl, _, _⟩ := OwnR.shape (f := ndW) (fun _ => rfl) hq.md.own
      obtain ⟨rs, hrs⟩ : ∃ rs, (flL ((partsD l lv 32).map (trK kk)) (L.map NdM.n) []).2 = rs := ⟨_, rfl⟩
      have hf : L'.map NdM.n ++ [⟨3, rs, [(sN : Int)], []⟩] = fl (.mk 3 [(bitsD l lv 32 : Int)] [] ((partsD l lv 32).map (trK kk))) (L.map NdM.n) := by rw [fl, hq.eq, hrs, hsn]
      rw [hrs] at hA hq
      have hx0 := HLQ.out.x0
      have hx1 := HLQ.out.x1
      have hx2 := HLQ.out.x2
      have hx3 := HLQ.out.x3
      have fx2 := HLQ.out.fX 2
      rw [hrs] at hx1
      have hlen2 : L'.length + 1 ≤ 1000000 := by
        have := congrArg List.length hf
        rw [List.length_append, List.length_map] at this
        simp only [List.length_cons, List.length_nil] at this
        omega
      obtain ⟨N, hN⟩ : ∃ N, L'.length + 1 = N := ⟨_, rfl⟩
      rw [hN] at hlen2
      have HN := Lib.hid hN
      have hbs := hq.bs
      have HO := Lib.hid hO
      have HA := Lib.hid hA
      have HBn2 := Lib.hid hB
      have HF := Lib.hid hf
      have HR := Lib.hid hR
      have HV := Lib.hid hq.v2
      have HBu := Lib.hid hq.but
      clear hO hA hB hf hR hq hq0 HLQ hN hlen hG hbN hsn HTs hd32
      go_wp2_with (at_builtin; refine of_stop ?_)
      refine stop_of ?_
      refine wpList_append_rows (f := ndW) (n := 4) (E := 102) (nb := 72) (X := L') (base := base) rfl _ _ rfl rfl (OwnR.below HO.out.own (by with_reducible repeat' (first | exact Below.refl _ _ | exact Nat.le_refl _ | refine Below.drew ?_ | refine Below.alloc ?_ ?_ _ | refine nl_al ?_ | refine nl_d ?_))) (L2 := [(⟨⟨3, rs, [(sN : Int)], []⟩, A2, ca2, some ⟨wr.heap.size, 0, none⟩, 1⟩ : NdM)]) rfl (one_rowZ _ _ (by simp) (⟨⟨3, rs, [(sN : Int)], []⟩, A2, ca2, some ⟨wr.heap.size, 0, none⟩, 1⟩ : NdM)) (by simp) (N := N) HN.out (Z := L' ++ [(⟨⟨3, rs, [(sN : Int)], []⟩, A2, ca2, some ⟨wr.heap.size, 0, none⟩, 1⟩ : NdM)]) rfl Tryz.underlying63 hi0 hz0 hz1 hz2 rfl (by decide) (by decide) (fun _ => rfl) ndW_one (by omega) (by simp; omega) ?_
      intro g4 k4 w4 ho4 hg4 hat4 hl4
      have hNQ := OwN.app (w := w1) (L := L) HO.out HA.out HBn2.out HF.out HR.out HV.out HBu.out (by with_reducible repeat' (first | exact Below.refl _ _ | exact Nat.le_refl _ | refine Below.drew ?_ | refine Below.alloc ?_ ?_ _ | refine nl_al ?_ | refine nl_d ?_)) ho4 hg4 (hat4.elim (fun e => .inl e.symm) (fun e => .inr ⟨g4, rfl, Nat.le_of_eq e.symm⟩))
      have HNQ := Lib.hid (NQ.from HB1.out hNQ)
      clear hNQ ho4 hg4 hat4 hl4 HO HA HBn2 HF HR HV HBu hx0 hx1 hx2 hx3 fx2
      go_wp2_with fail
      go_ret
      exact HNQ.out
end Go.Proofs.YtjgadggehpmdkaaGreatDoor
namespace Go.Proofs.YtjgadggehpmdkaaGreatDoor
open Go.RowKit
theorem rn_one (l : List En) (hne : l ≠ []) (hll : l.length ≤ 100000) (hoh : oneH l = true) (lv : Int) {w : World} {base : Nat} {v : Value} {L : List NdM} {R : Nat → Prop} (hM : OwN w base v L R) {A : Option Addr} {ca : Nat} {Q : Nat → Prop} (hca : l.length ≤ ca) (hl : RowE w Q A l) (hQ : ∀ g, Q g → ¬ ChN v g) (hlen : (fl (bukT l) (L.map NdM.n)).length ≤ 1000000) :
    Calls Tryz.prog 39 #[.slice A l.length ca, .int .i64 lv, v] w fun e w' => NQ w base v L R (bukT l) e w' := by
  match l, hne with
  | [x], _ =>
    have h1 : L.length + 1 ≤ 1000000 := by
      have h : (fl (leafT x) (L.map NdM.n)).length ≤ 1000000 := hlen
      rw [fl_leafD, List.length_append, List.length_map] at h
      simpa using h
    exact rn_leaf hM x lv hl h1
  | x :: y :: r, _ => exact rn_buk hM (x :: y :: r) (by simp) hll hoh lv hca hl hQ hlen
theorem rn_all : ∀ (k : Nat), k ≤ 2 → ∀ (l : List En), l ≠ [] → KeyIn l → l.length ≤ 100000 → Pre k l → ∀ {w : World} {base : Nat} {v : Value} {L : List NdM} {R : Nat → Prop}, OwN w base v L R → ∀ {A : Option Addr} {ca : Nat} {Q : Nat → Prop}, l.length ≤ ca → RowE w Q A l → (∀ g, Q g → ¬ ChN v g) → (fl (trK k l) (L.map NdM.n)).length ≤ 1000000 →
    Calls Tryz.prog 39 #[.slice A l.length ca, .int .i64 ((2 - k : Nat) : Int), v] w fun e w' => NQ w base v L R (trK k l) e w'
  | 0, _, l, hne, hk, hll, hp, w, base, v, L, R, hM, A, ca, Q, hca, hl, hQ, hlen => by
    rw [trK] at hlen ⊢
    exact rn_one l hne hll hp _ hM hca hl hQ hlen
  | k + 1, hk2, l, hne, hk, hll, hp, w, base, v, L, R, hM, A, ca, Q, hca, hl, hQ, hlen => by
    by_cases hoh : oneH l = true
    · have e : trK (k + 1) l = bukT l := by rw [trK, if_pos hoh]
      rw [e] at hlen ⊢
      exact rn_one l hne hll hoh _ hM hca hl hQ hlen
    · have e : trK (k + 1) l = .mk 3 [(bitsD l (1 - k) 32 : Int)] [] ((partsD l (1 - k) 32).map (trK k)) := by rw [trK, if_neg hoh]
      rw [e] at hlen ⊢
      have h2 : 2 ≤ l.length := by
        match l, hne with
        | [x], _ => exact absurd rfl hoh
        | x :: y :: r, _ => simp
      have hlvE : ((2 - (k + 1) : Nat) : Int) = ((1 - k : Nat) : Int) := by omega
      rw [hlvE]
      refine rn_fork hM k l h2 hll (Bool.eq_false_iff.2 hoh) hk (1 - k) hl hQ (by omega) (fun d hd hnd {w base v L R} hM {A ca Q} hca hl hQ hlen => ?_) hlen
      have := rn_all k (by omega) (partD l (1 - k) d) hnd (fun x hx => hk x (List.mem_filter.1 hx).1) (Nat.le_trans (part_le l _ d) hll) (pre_part (by omega) hk hp d) hM hca hl hQ hlen
      rw [show ((2 - k : Nat) : Int) = ((1 - k : Nat) : Int) + 1 by omega] at this
      exact this
set_option maxHeartbeats 4000000 in
set_option maxRecDepth 10000 in
theorem rn_none (A : Option Addr) (ca : Nat) (lv : Int) (v : Value) (w : World) : Calls Tryz.prog 39 #[.slice A 0 ca, .int .i64 lv, v] w fun e w' => e = .returned v ∧ w' = w := by
  go_enter Tryz.func39, Tryz.ntmps39
  go_wp2_with fail
  go_ret
  exact ⟨rfl, rfl⟩
theorem rnodes_any (l : List En) (hk : KeyIn l) (hll : l.length ≤ 100000) (A : Option Addr) (ca : Nat) (hca : l.length ≤ ca) (w : World) (Q : Nat → Prop) (hl : RowE w Q A l) :
    Calls Tryz.prog 39 #[.slice A l.length ca, .int .i64 0, .slice none 0 0] w fun e w' => ∃ O co, e = .returned (.slice O (nodesL l).length co) ∧ RowN w' (fun g => w.heap.size ≤ g) O (nodesL l) ∧ Below w.heap.size w w' := by
  have hlen0 := nodesL_len hk
  by_cases hne : l = []
  · subst hne
    exact (rn_none A ca 0 (.slice none 0 0) w).mono fun e w' ⟨he, hw⟩ => ⟨none, 0, by rw [he]; rfl, .inl rfl, by rw [hw]; exact Below.refl _ _⟩
  · have hnl : nodesL l = fl (trK 2 l) [] := by unfold nodesL; rw [if_neg hne]
    rw [hnl] at hlen0 ⊢
    have hM : OwN w w.heap.size (.slice none 0 0) [] (fun _ => False) := ⟨World.ownsRow_nil _ _ _ _, (fun q hq => by cases hq), (fun g hg => hg.elim), Nat.le_refl _⟩
    refine (rn_all 2 (Nat.le_refl _) l hne hk hll trivial hM hca hl (fun g _ e => by cases e) (by show (fl (trK 2 l) []).length ≤ 1000000; omega)).mono fun e w' ⟨v', L', R', he, hO, hf, hR, hv, hbu⟩ => ?_
    have hf : L'.map NdM.n = fl (trK 2 l) [] := hf
    obtain ⟨A1, c1, hv1, hcc, hat⟩ := OwnR.shape (f := ndW) (fun _ => rfl) hO.own
    have hln : L'.length = (fl (trK 2 l) []).length := by rw [← hf, List.length_map]
    refine ⟨A1, c1, by rw [he, hv1, hln], ?_, hbu.below (n := w.heap.size) (fun k hk e => (by cases e)) (Nat.le_refl _)⟩
    rw [← hf]
    rcases Nat.eq_zero_or_pos L'.length with e | e
    · rw [List.length_eq_zero_iff.1 e]; exact .inl rfl
    · obtain ⟨g, cap, hv2, hlo, hg⟩ := World.ownsRow.form hO.own e
      have ho := hO.own
      rw [hv2] at ho
      have hA1 : A1 = some ⟨g, 0, none⟩ := by rw [hv1] at hv2; simp at hv2; exact hv2.1
      refine .inr ⟨g, 0, hA1, hlo, hg, fun i n hi => ?_⟩
      have := list_rows (w := w') (P := fun g => w.heap.size ≤ g) (rows_atR (OwnR.at (fun _ => rfl) ho rfl)) (fun q hq => by
        obtain ⟨r1, r2⟩ := hO.rows q hq
        exact ⟨r1.mono fun g hg _ => (hO.rR g hg).1, r2.mono fun g hg _ => (hO.rR g hg).1⟩) i n hi
      rw [Nat.zero_add]
      exact this
end Go.Proofs.YtjgadggehpmdkaaGreatDoor
namespace Go.Proofs.YtjgadggehpmdkaaGreatDoor
open Go.RowKit
theorem seek_next {s : Sh} {l : List Nd} {at_ : List Int} {i : Nat} {n : Nd} (hn : l[i]? = some n) (h : seekL s [] l = seekL s at_ (l.drop i)) (hf : fnd s (asPut at_ n) ≠ 0) : seekL s [] l = seekL s (at_ ++ [(fnd s (asPut at_ n) : Int)]) (l.drop (i + 1)) := by
  obtain ⟨hl, he⟩ := List.getElem?_eq_some_iff.1 hn
  rw [h, List.drop_eq_getElem_cons hl, he, seekL, if_neg hf]
theorem seek_stop {s : Sh} {l : List Nd} {at_ : List Int} {i : Nat} {n : Nd} (hn : l[i]? = some n) (h : seekL s [] l = seekL s at_ (l.drop i)) (hf : fnd s (asPut at_ n) = 0) : seekD s l = 0 := by
  obtain ⟨hl, he⟩ := List.getElem?_eq_some_iff.1 hn
  unfold seekD
  rw [h, List.drop_eq_getElem_cons hl, he, seekL, if_pos hf]
theorem seek_end {s : Sh} {l : List Nd} {at_ : List Int} (h : seekL s [] l = seekL s at_ (l.drop l.length)) : seekD s l = at_.getLastD 0 := by
  unfold seekD
  rw [h, List.drop_length, seekL]
theorem res_next {at_ refs : List Int} {k j : Nat} {r y : Int} (hr : refs[k]? = some r) (hn : r < 0) (hj : -1 - r = (j : Int)) (hy : at_[j]? = some y) : (refs.take k).map (resolve at_) ++ [y] = (refs.take (k + 1)).map (resolve at_) := by
  rw [List.take_add_one, hr, List.map_append]
  congr 1
  show [y] = [resolve at_ r]
  unfold resolve
  rw [if_pos hn, hj, List.getD_eq_getElem?_getD, show ((j : Int)).toNat = j by omega, hy]; rfl
section
variable {w w' : World} {P : Nat → Prop} {m gN cN gB cB room : Nat} {nds : List Nd} {bs : List Bool}
set_option maxHeartbeats 16000000 in
set_option maxRecDepth 10000 in
theorem rseek_any (h : RM w P m gN cN gB cB room nds bs) (l : List Nd) (A : Option Addr) (ca : Nat) {Q : Nat → Prop} (hl : RowN w Q A l) (hneg : ∀ (i : Nat) (n : Nd), l[i]? = some n → NegR i n.refs) (hll : l.length ≤ 500000) (hlr : ∀ n ∈ l, n.refs.length ≤ 1000) :
    Calls Tryz.prog 38 #[.pointer (some ⟨m, 0, none⟩), .slice A l.length ca] w fun e w' => e = .returned (.int .i64 (seekD (stOf nds bs) l)) ∧ Below w.heap.size w w' := by
  obtain ⟨i0, hi0, hz0, hz1, hz2⟩ := info_parts int_info
  have HR := Lib.hid h
  have HL := Lib.hid hl
  have HNg := Lib.hid hneg
  have HLr := Lib.hid hlr
  clear h hl hneg hlr
  have HFi := Lib.hid (fun (w' : World) (hb : Below w.heap.size w w') (x : Nd) (A B : Option Addr) (ca cb : Nat) (hA : RowI w' (fun _ => True) A x.refs) (hB : RowI w' (fun _ => True) B x.nums) => rFind_any (HR.out.below hb) x (fun _ => True) A B ca cb hA hB)
  generalize stOf nds bs = s at *
  unfold ndV at HFi
  go_enter Tryz.func38, Tryz.ntmps38
  go_wp2_with fail
  go_loopw [5, 6, 7, 8, 9, 10] (fun va vi _ _ _ _ wr => ∃ (i : Nat) (at_ : List Int), i ≤ l.length ∧ vi = .int .i64 (i : Int) ∧ Hid (seekL s [] l = seekL s at_ (l.drop i)) ∧ Hid (at_.length = i) ∧ Hid (OwnR 3 1 inW w.heap.size wr va at_) ∧ Below w.heap.size w wr) (fun _ vi _ _ _ _ _ => l.length - (RowKit.intOf vi).toNat)
  case atStart => exact ⟨0, [], Nat.zero_le _, rfl, Lib.hid (by rw [List.drop_zero]), Lib.hid rfl, Lib.hid (World.ownsRow_nil _ _ _ _), Below.refl _ _⟩
  case round =>
    obtain ⟨i, at_, hi, rfl, HS, HLn, HO, hb⟩ := hrel
    obtain ⟨O, co, rfl, hrA⟩ := own_rowI HO.out
    by_cases hlt : i < l.length
    · obtain ⟨wo, rfl⟩ : ∃ wo : World, wo = wr := ⟨wr, rfl⟩
      obtain ⟨n, hn⟩ : ∃ n, l[i]? = some n := ⟨_, List.getElem?_eq_getElem hlt⟩
      obtain ⟨g, o, rfl, _, hgl, hat⟩ := HL.out.at hlt
      obtain ⟨B, cb, C, cc, ⟨q0, q1, q2, q3⟩, hB, hC⟩ := hat i n hn
      have k0 := keep_cell hb q0
      have k1 := keep_cell hb q1
      have k2 := keep_cell hb q2
      have k3 := keep_cell hb q3
      have hI : (i : Int) < (l.length : Int) := by omega
      have hJ : (0 : Int) ≤ (i : Int) := by omega
      have HBr := Lib.hid ((hB.mono (Q := fun _ => True) fun _ _ _ => trivial).below hb)
      have HCr := Lib.hid ((hC.mono (Q := fun _ => True) fun _ _ _ => trivial).below hb)
      have HAr := Lib.hid hrA
      have HNn := Lib.hid (HNg.out i n hn)
      have hrl : n.refs.length ≤ 1000 := HLr.out n (List.mem_of_getElem? hn)
      have hbs := hb.size
      have HSn := Lib.hid (fun hf => seek_next hn HS.out hf)
      have HSs := Lib.hid (fun hf => seek_stop hn HS.out hf)
      have hblk := heap_alloc_new wo (.cells #[.int .i64 n.kind, .slice B n.refs.length cb, .slice C n.nums.length cc, .string ⟨n.text.toArray⟩] 102)
      have HBk := Lib.hid hblk
      have hbW : Below wo.heap.size wo (wo.alloc (.cells #[.int .i64 n.kind, .slice B n.refs.length cb, .slice C n.nums.length cc, .string ⟨n.text.toArray⟩] 102)) := (Below.refl _ _).alloc (Nat.le_refl _) _
      have HbW := Lib.hid hbW
      have hzW : (wo.alloc (.cells #[.int .i64 n.kind, .slice B n.refs.length cb, .slice C n.nums.length cc, .string ⟨n.text.toArray⟩] 102)).heap.size = wo.heap.size + 1 := by simp
      have HzW := Lib.hid hzW
      clear hat hn hB hC q0 q1 q2 q3 hrA HS hblk hbW hzW
      go_wp2_with fail
      generalize (wo.alloc (.cells #[.int .i64 n.kind, .slice B n.refs.length cb, .slice C n.nums.length cc, .string ⟨n.text.toArray⟩] 102)) = Wn at *
      go_loopw [8, 9] (fun vr vk wr2 => ∃ k : Nat, k ≤ n.refs.length ∧ vk = .int .i64 (k : Int) ∧ Hid (OwnR 3 1 inW Wn.heap.size wr2 vr ((n.refs.take k).map (resolve at_))) ∧ Below Wn.heap.size Wn wr2) (fun _ vk _ => n.refs.length - (RowKit.intOf vk).toNat)
      case atStart => exact ⟨0, Nat.zero_le _, rfl, Lib.hid (by rw [List.take_zero]; exact World.ownsRow_nil _ _ _ _), Below.refl _ _⟩
      case round =>
        obtain ⟨k, hk, rfl, HOr, hb2⟩ := hrel
        have hX : wo.heap.size < Wn.heap.size := by rw [HzW.out]; omega
        have x0 : wr.cell? ⟨wo.heap.size, 0, none⟩ = some (.int .i64 n.kind) := by rw [hb2.cell hX]; exact Lib.cell_of_heap HBk.out 0
        have x1 : wr.cell? ⟨wo.heap.size, 1, none⟩ = some (.slice B n.refs.length cb) := by rw [hb2.cell hX]; exact Lib.cell_of_heap HBk.out 1
        have x2 : wr.cell? ⟨wo.heap.size, 2, none⟩ = some (.slice C n.nums.length cc) := by rw [hb2.cell hX]; exact Lib.cell_of_heap HBk.out 2
        have x3 : wr.cell? ⟨wo.heap.size, 3, none⟩ = some (.string ⟨n.text.toArray⟩) := by rw [hb2.cell hX]; exact Lib.cell_of_heap HBk.out 3
        have hb3 : Below wo.heap.size wo wr := HbW.out.trans (hb2.mono HbW.out.size)
        have zX : wo.heap.size < wr.heap.size := Lib.lt_of_cell x0
        obtain ⟨R0, cr, hvr, hrR⟩ := own_rowI HOr.out
        have hlm : ((n.refs.take k).map (resolve at_)).length = k := by rw [List.length_map, List.length_take]; omega
        by_cases hkl : k < n.refs.length
        · obtain ⟨r, hr⟩ : ∃ r, n.refs[k]? = some r := ⟨_, List.getElem?_eq_getElem hkl⟩
          have hng := HNn.out r (List.mem_of_getElem? hr)
          obtain ⟨j, hj⟩ : ∃ j : Nat, -1 - r = (j : Int) := ⟨(-1 - r).toNat, by omega⟩
          have hjl : j < at_.length := by rw [HLn.out]; omega
          obtain ⟨y, hy⟩ : ∃ y, at_[j]? = some y := ⟨_, List.getElem?_eq_getElem hjl⟩
          obtain ⟨gB', oB', rfl, _, _, hcB⟩ := HBr.out.at hkl
          obtain ⟨gA', oA', rfl, _, _, hcA⟩ := HAr.out.at hjl
          have c0 := keep_cell hb3 (hcB k r hr)
          have c1 := keep_cell hb3 (hcA j y hy)
          have HRn := Lib.hid (res_next hr hng.1 hj hy)
          have hkI : (k : Int) < (n.refs.length : Int) := by omega
          have hkJ : (0 : Int) ≤ (k : Int) := by omega
          have hjI : -1 - r < (at_.length : Int) := by omega
          have hjJ : (0 : Int) ≤ -1 - r := by omega
          rw [show j = (-1 - r).toNat by omega] at c1
          have hr1 : r < 0 := hng.1
          have hr2 : -1000000 ≤ r := by have := hng.2; omega
          have HJ := Lib.hid hj
          rw [hlm] at hvr
          have HLm := Lib.hid hlm
          subst hvr
          clear hr hng hy hcB hcA hlm hrR hj
          go_wp2_with (at_builtin; refine of_stop ?_)
          refine stop_of ?_
          refine wpList_append_rows (f := inW) (n := 1) (E := 3) (nb := 8) (X := (n.refs.take k).map (resolve at_)) (base := Wn.heap.size) rfl _ _ rfl rfl (OwnR.below HOr.out (by with_reducible repeat' (first | exact Below.refl _ _ | exact Nat.le_refl _ | refine Below.drew ?_ | refine Below.alloc ?_ ?_ _ | refine nl_al ?_ | refine nl_d ?_))) (L2 := [y]) rfl (one_row wr y) (by simp) (N := k + 1) (by rw [HLm.out]; rfl) (Z := (n.refs.take (k + 1)).map (resolve at_)) HRn.out Tryz.underlying32 hi0 hz0 hz1 hz2 rfl (by decide) (by decide) (fun _ => rfl) inW_one (by omega) (by have := hb2.size; simp; omega) ?_
          intro g4 k4 w4 ho4 hg4 hat4 hl4
          have hb4 : Below Wn.heap.size Wn w4 := hb2.trans (Below.grown ((Below.refl _ _).alloc hb2.size _) hg4 (by have := hb2.size; simp; omega) (fun k hk => (World.ownsRow.lt HOr.out k hk).1))
          have HO4 := Lib.hid ho4
          clear ho4 hg4 hat4 hl4
          go_wp2_with fail
          go_roundw
          case rel => exact ⟨k + 1, by omega, by go_num, HO4, hb4⟩
          case measure => simp [RowKit.intOf]; omega
        · have hkk : k = n.refs.length := by omega
          subst hkk
          rw [hlm] at hvr
          rw [List.take_length] at hrR
          subst hvr
          have hRM : RowI (wr.setCell ⟨wo.heap.size, 1, none⟩ (.slice R0 n.refs.length cr)) (fun _ => True) R0 (n.refs.map (resolve at_)) := by
            have hbu : ButS (fun g => g = wo.heap.size) wr (wr.setCell ⟨wo.heap.size, 1, none⟩ (.slice R0 n.refs.length cr)) := ButS.setCell (P := fun g => g = wo.heap.size) (p := ⟨wo.heap.size, 1, none⟩) (ButS.refl _ _) (.inl rfl) _
            exact ((hrR.kept (hbu.keptQ fun g hg e => by omega))).mono fun _ _ _ => trivial
          have hb4 : Below wo.heap.size wo (wr.setCell ⟨wo.heap.size, 1, none⟩ (.slice R0 n.refs.length cr)) := hb3.setCell (Nat.le_refl _) _
          have hb5 : Below w.heap.size w (wr.setCell ⟨wo.heap.size, 1, none⟩ (.slice R0 n.refs.length cr)) := hb.trans (hb4.mono hb.size)
          have hC4 : RowI (wr.setCell ⟨wo.heap.size, 1, none⟩ (.slice R0 n.refs.length cr)) (fun _ => True) C n.nums := HCr.out.below hb4
          have hlm2 : (n.refs.map (resolve at_)).length = n.refs.length := List.length_map _
          have hF := HFi.out _ hb5 (asPut at_ n) R0 C cr cc hRM hC4
          have hFc : Calls Tryz.prog 57 #[.pointer (some ⟨m, 0, none⟩), .agg #[.int .i64 n.kind, .slice R0 n.refs.length cr, .slice C n.nums.length cc, .string ⟨n.text.toArray⟩]] (wr.setCell ⟨wo.heap.size, 1, none⟩ (.slice R0 n.refs.length cr)) fun e w' => e = .returned (.int .i64 (fnd s (asPut at_ n) : Int)) ∧ Below (wr.setCell ⟨wo.heap.size, 1, none⟩ (.slice R0 n.refs.length cr)).heap.size (wr.setCell ⟨wo.heap.size, 1, none⟩ (.slice R0 n.refs.length cr)) w' := by
            have e1 : (asPut at_ n).refs.length = n.refs.length := hlm2
            rw [e1] at hF
            exact hF
          have HF := Lib.hid hFc
          have HO5 : Hid (OwnR 3 1 inW w.heap.size (wr.setCell ⟨wo.heap.size, 1, none⟩ (.slice R0 n.refs.length cr)) (.slice O at_.length co) at_) := Lib.hid (HO.out.below hb4)
          have hfx : wr.frozen? ⟨wo.heap.size, 1, none⟩ = false := by rw [hb2.frozen hX]; unfold World.frozen?; rw [HBk.out]; simp
          have HB5 := Lib.hid hb5
          generalize fnd s (asPut at_ n) = fd at *
          clear hRM hC4 hF hFc hb4 hb5 hrR hlm hlm2
          go_wp2_with fail
          refine HF.out.mono ?_; rintro e w6 ⟨rfl, hb6⟩
          have hb7 : Below w.heap.size w w6 := HB5.out.trans (hb6.mono HB5.out.size)
          have hs7 := hb7.size
          by_cases hz : fd = 0
          · have HE := Lib.hid (HSs.out hz)
            subst hz
            go_wp2_with fail
            go_ret
            exact ⟨by rw [HE.out]; rfl, hb7⟩
          · have dz : ((fd : Int) == 0) = false := by rw [beq_eq_false_iff_ne]; omega
            have HN := Lib.hid (HSn.out hz)
            have HO7 := Lib.hid (HO5.out.below hb6)
            clear hz HF HO5 HO HAr HCr HBr HSn HSs
            go_wp2_with (at_builtin; refine of_stop ?_)
            refine stop_of ?_
            refine wpList_append_rows (f := inW) (n := 1) (E := 3) (nb := 8) (X := at_) (base := w.heap.size) rfl _ _ rfl rfl (OwnR.below HO7.out (by with_reducible repeat' (first | exact Below.refl _ _ | exact Nat.le_refl _ | refine Below.drew ?_ | refine Below.alloc ?_ ?_ _ | refine nl_al ?_ | refine nl_d ?_))) (L2 := [(fd : Int)]) rfl (one_row w6 (fd : Int)) (by simp) (N := i + 1) (by rw [HLn.out]; rfl) (Z := at_ ++ [(fd : Int)]) rfl Tryz.underlying32 hi0 hz0 hz1 hz2 rfl (by decide) (by decide) (fun _ => rfl) inW_one (by omega) (by simp; omega) ?_
            intro g4 k4 w4 ho4 hg4 hat4 hl4
            have hb8 : Below w.heap.size w w4 := (hb7.alloc hs7 _).grown hg4 (by simp; omega) (fun k hk => (World.ownsRow.lt HO7.out k hk).1)
            have HO8 := Lib.hid ho4
            clear ho4 hg4 hat4 hl4
            go_wp2_with fail
            go_roundw
            case rel => exact ⟨i + 1, _, by omega, by go_num, HN, Lib.hid (by rw [List.length_append, HLn.out]; rfl), HO8, hb8⟩
            case measure => simp [RowKit.intOf]; omega
    · have hii : i = l.length := by omega
      subst hii
      have HE := Lib.hid (seek_end HS.out)
      cases hat : at_.getLast? with
      | none =>
        have h0 : at_ = [] := List.getLast?_eq_none_iff.1 hat
        subst h0
        go_wp2_with fail
        go_ret
        exact ⟨by rw [HE.out]; rfl, hb⟩
      | some y =>
        have hne : at_ ≠ [] := fun e => by rw [e] at hat; cases hat
        have hp := List.length_pos_iff.2 hne
        have hy : at_[at_.length - 1]? = some y := by rw [← List.getLast?_eq_getElem?]; exact hat
        obtain ⟨g, o, rfl, _, _, hc⟩ := hrA.at (i := at_.length - 1) (by omega)
        have c0 := hc _ y hy
        have HE2 : Hid (seekD s l = y) := Lib.hid (by rw [HE.out, List.getLastD_eq_getLast?, hat]; rfl)
        have dz : ((at_.length : Int) == 0) = false := by rw [beq_eq_false_iff_ne]; omega
        obtain ⟨N, hN⟩ : ∃ N, at_.length = N + 1 := ⟨at_.length - 1, by omega⟩
        rw [hN] at dz c0 ⊢
        rw [show N + 1 - 1 = N by omega] at c0
        have hNl : N ≤ 600000 := by have := HLn.out; omega
        clear hat hne hp hy hc hN HE HO HLn HS
        go_wp2_with fail
        go_ret
        exact ⟨by rw [HE2.out]; rfl, hb⟩
end
end Go.Proofs.YtjgadggehpmdkaaGreatDoor
