/- Texts joined: NdIk, NdIm, NdI, NdKk, NdK, NdE, NdJk, NdJm. -/
import Derived.Test.YtjgadggehpmdkaaGreatDoorTk02
import Derived.Test.YtjgadggehpmdkaaGreatDoorTk01
set_option linter.all false
namespace Go.Proofs.YtjgadggehpmdkaaGreatDoor
open Go.RowKit
theorem own_of {v : Value} {g k : Nat} (hv : v.ownBlock = some g) (h : v.ownBlock = some k) : k = g := Option.some.inj (h.symm.trans hv)
def nd0 : Nd := ⟨0, [], [], []⟩
end Go.Proofs.YtjgadggehpmdkaaGreatDoor
namespace Go.Proofs.YtjgadggehpmdkaaGreatDoor
open Go.RowKit
def boV (b : Bool) : List Value := [.bool b]
section
variable {w : World} {bs : List Bool}
theorem atR_bits {g : Nat} (h : ∀ (i : Nat) (b : Bool), bs[i]? = some b → w.cell? ⟨g, i, none⟩ = some (.bool b)) : AtR boV 1 w g 0 bs := fun i b hi j u hj => by
  cases j with
  | succ j => simp [boV] at hj
  | zero =>
    obtain rfl : Value.bool b = u := by simpa [boV] using hj
    have := h i b hi
    rwa [Nat.zero_add, Nat.mul_one, Nat.add_zero]
theorem bits_atR {g : Nat} (h : AtR boV 1 w g 0 bs) : ∀ (i : Nat) (b : Bool), bs[i]? = some b → w.cell? ⟨g, i, none⟩ = some (.bool b) := fun i b hi => by
  have := h i b hi 0 _ rfl
  rwa [Nat.zero_add, Nat.mul_one, Nat.add_zero] at this
theorem atR_rows {g : Nat} {L : List NdM} (h : ∀ (i : Nat) (q : NdM), L[i]? = some q → At4 w g (i * 4) q.n q.A q.ca q.B q.cb) : AtR ndW 4 w g 0 L := fun i q hi j u hj => by
  obtain ⟨h0, h1, h2, h3⟩ := h i q hi
  rw [Nat.zero_add]
  match j with
  | 0 => obtain rfl : _ = u := by simpa [ndW] using hj
         exact h0
  | 1 => obtain rfl : _ = u := by simpa [ndW] using hj
         exact h1
  | 2 => obtain rfl : _ = u := by simpa [ndW] using hj
         exact h2
  | 3 => obtain rfl : _ = u := by simpa [ndW] using hj
         exact h3
  | j + 4 => simp [ndW] at hj
theorem rows_atR {g : Nat} {L : List NdM} (h : AtR ndW 4 w g 0 L) : ∀ (i : Nat) (q : NdM), L[i]? = some q → At4 w g (i * 4) q.n q.A q.ca q.B q.cb := fun i q hi => by
  have h0 := h i q hi 0 _ rfl
  have h1 := h i q hi 1 _ rfl
  have h2 := h i q hi 2 _ rfl
  have h3 := h i q hi 3 _ rfl
  rw [Nat.zero_add] at h0 h1 h2 h3
  exact ⟨h0, h1, h2, h3⟩
end
end Go.Proofs.YtjgadggehpmdkaaGreatDoor
namespace Go.Proofs.YtjgadggehpmdkaaGreatDoor
open Go.RowKit
theorem some_ne {v : Value} {g k : Nat} (hv : v.ownBlock = some g) (h : k ≠ g) : some k ≠ v.ownBlock := fun e => h (own_of hv e.symm)
theorem bool_info : (Tryz.prog.info? 4).map (fun i => (i.zero, i.size, i.bytes)) = some (some (.bool false), 1, 1) := by kernel_rfl
theorem rnode_info : (Tryz.prog.info? 102).map (fun i => (i.zero, i.size, i.bytes)) = some (some (.agg #[.int .i64 0, .slice none 0 0, .slice none 0 0, .string ⟨#[]⟩]), 4, 72) := by kernel_rfl
theorem boV_one : ∀ q : Bool, ∀ u ∈ boV q, u.oneCell' = true := by
  intro q u hu
  simp only [boV, List.mem_cons, List.not_mem_nil, or_false] at hu
  subst hu; rfl
theorem ndW_one : ∀ q : NdM, ∀ u ∈ ndW q, u.oneCell' = true := by
  intro q u hu
  simp only [ndW, List.mem_cons, List.not_mem_nil, or_false] at hu
  rcases hu with rfl | rfl | rfl | rfl <;> rfl
theorem grown_set (w : World) (p : Addr) (u : Value) : w.grownBy (w.setCell p u) (some p.block) := by
  have hb := (Below.refl 0 w).setCell (p := p) (Nat.zero_le _) u
  exact ⟨hb.os, hb.tape, hb.output, hb.size, fun k _ hk => Below.heap_setCell w p u k fun e => hk (by rw [e])⟩
def ndM0 : NdM := ⟨nd0, none, 0, none, 0⟩
theorem own_room {E : TypeId} {n base N cap g : Nat} {α : Type} {f : α → List Value} {w : World} {L : List α} (h : OwnR E n f base w (.slice (some ⟨g, 0, none⟩) N cap) L) : N ≤ cap := by
  rcases h.2 with ⟨e, _⟩ | ⟨g', cap', cur, hv, _, hh, hc, _, _, ht⟩
  · cases e
  · simp at hv
    obtain ⟨rfl, rfl, rfl⟩ := hv
    exact hc
section
variable {w w' : World} {P : Nat → Prop} {m gN cN gB cB room : Nat} {nds : List Nd} {bs : List Bool}
theorem RM.mc (h : RM w P m gN cN gB cB room nds bs) : MC w m room (.slice (some ⟨gN, 0, none⟩) nds.length cN) (.slice (some ⟨gB, 0, none⟩) bs.length cB) := ⟨h.c0, h.c1, h.c2, h.fM⟩
theorem full_at {i : Nat} (hno : ∀ j : Nat, (stOf nds bs)[j]? ≠ some none) (hl : nds.length = bs.length) (hi : i + 1 < bs.length) : bs[i + 1]? = some true := by
  have h1 := List.getElem?_eq_getElem (l := bs) hi
  have h2 := List.getElem?_eq_getElem (l := nds) (i := i + 1) (by omega)
  rw [h1]
  cases hb : bs[i + 1] with
  | true => rfl
  | false => exact absurd (st_at i h2 (by rw [h1, hb])) (hno i)
set_option maxHeartbeats 8000000 in
set_option maxRecDepth 10000 in
theorem rfree_grow (h : RM w P m gN cN gB cB room nds bs) (hno : ∀ j : Nat, (stOf nds bs)[j]? ≠ some none) (hr : bs.length ≤ room) :
    Calls Tryz.prog 69 #[.pointer (some ⟨m, 0, none⟩)] w fun e w' => ∃ gN' cN' gB' cB', e = .returned (.int .i64 (bs.length : Int)) ∧ RM w' (fun g => P g ∨ w.heap.size ≤ g) m gN' cN' gB' cB' room (nds ++ [nd0]) (bs ++ [false]) ∧ ButS (fun g => g = m) w w' ∧ w.heap.size ≤ gN' ∧ w.heap.size ≤ gB' := by
  obtain ⟨i0, hi0, hz0, hz1, hz2⟩ := info_parts bool_info
  obtain ⟨i1, hi1, hy0, hy1, hy2⟩ := info_parts rnode_info
  have HR := Lib.hid h
  have hcap := h.cap
  have hsm := h.small
  have hone := h.one
  have hlen := Lib.hid h.len
  have HF := Lib.hid (fun i hi => full_at (i := i) hno h.len hi)
  clear h hno
  go_enter Tryz.func69, Tryz.ntmps69
  go_wp2_with fail
  go_loopw [3] (fun vi wr => ∃ i : Nat, i + 1 ≤ bs.length ∧ vi = .int .i64 ((i : Int) + 1) ∧ wr = w) (fun vi _ => bs.length - (RowKit.intOf vi).toNat)
  case atStart => exact ⟨0, by omega, rfl, rfl⟩
  case round =>
    obtain ⟨i, hi, rfl, rfl⟩ := hrel
    have c0 := HR.out.c0
    have c1 := HR.out.c1
    have c2 := HR.out.c2
    by_cases hlt : i + 1 < bs.length
    · have q0 := HR.out.bits _ _ (HF.out i hlt)
      go_wp2_with fail
      go_roundw
      case rel => exact ⟨i + 1, by omega, by go_num, trivial⟩
      case measure => simp [RowKit.intOf]; omega
    · have hd : decide (room < bs.length) = false := decide_eq_false (by omega)
      go_wp2_with fail
      go_quiet (fail)
      have hD : Below wr.heap.size wr (wr.drewN nq) := below_drewN (Below.refl _ _) nq
      have HR1 := Lib.hid (HR.out.below hD)
      have HT1 : Hid (ButS (fun g => g = m) wr (wr.drewN nq)) := Lib.hid (ButS.of_below hD)
      have zs : (wr.drewN nq).heap.size = wr.heap.size := Nat.le_antisymm (by simp) hD.size
      have HZ := Lib.hid zs
      clear c0 c1 c2 hD zs
      generalize wr.drewN nq = W1 at *
      have c1 := HR1.out.c1
      have c2 := HR1.out.c2
      have zm := HR1.out.lM
      have HB1 := Lib.hid (atR_bits HR1.out.bits)
      obtain ⟨L, hLn, hLa, hLr⟩ := rows_list HR1.out.rows
      have HL1 := Lib.hid (And.intro hLn (And.intro (atR_rows hLa) hLr))
      have hLl : L.length = nds.length := by rw [← hLn, List.length_map]
      have HLl := Lib.hid hLl
      clear hLn hLa hLr hLl HR
      have hB : Below W1.heap.size W1 (W1.alloc (.cells #[] 4)) := (Below.refl _ _).alloc (Nat.le_refl _) _
      have HBB := Lib.hid hB
      clear hB
      go_wp2_with (at_builtin; refine of_stop ?_)
      refine stop_of ?_
      refine wpList_append_rows (f := boV) (n := 1) (E := 4) (nb := 1) rfl _ _ rfl rfl (own_lit0 W1 W1.heap.size (Nat.le_refl _)) rfl (fun i b hi j u hj => keep_cell HBB.out (HB1.out i b hi j u hj)) (by omega) (N := bs.length) (by simp) (Z := bs) rfl Tryz.underlying77 hi0 hz0 hz1 hz2 rfl (by decide) (by decide) (fun _ => rfl) boV_one (by omega) (by simp) ?_
      intro g1 k1 w2 ho2 hg2 hat2 hl2
      have ho2 := Lib.hid ho2
      have hz2' : W1.heap.size ≤ g1 := by rcases hat2 with e | e; exact Nat.le_of_eq (own_of (g := W1.heap.size) rfl e).symm; simp at e; omega
      have HM2 := Lib.hid ((HR1.out.mc.alloc (.cells #[] 4)).grown hg2 (some_ne (g := W1.heap.size) rfl (by omega)))
      have HT2 := Lib.hid ((HT1.out.alloc (.cells #[] 4)).grown hg2 (fun k hk => .inr (by have := own_of (g := W1.heap.size) rfl hk; have := HZ.out; omega)))
      have HG2 : Hid (Below W1.heap.size W1 w2) := Lib.hid (HBB.out.grown hg2 (by simp) (fun k hk => by have := own_of (g := W1.heap.size) rfl hk; omega))
      clear hg2 hat2 c1 c2
      have zg2 : W1.heap.size ≤ w2.heap.size := HG2.out.size
      go_wp2_with (at_builtin; refine of_stop ?_)
      refine stop_of ?_
      refine wpList_append_rows (f := boV) (n := 1) (E := 4) (nb := 1) rfl _ _ rfl rfl (OwnR.below ho2.out ((Below.refl _ _).alloc (Nat.le_refl _) _)) (L2 := [false]) rfl (one_row w2 false) (by decide) (N := bs.length + 1) rfl (Z := bs ++ [false]) rfl Tryz.underlying77 hi0 hz0 hz1 hz2 rfl (by decide) (by decide) (fun _ => rfl) boV_one (by omega) (by simp; omega) ?_
      intro g3 k3 w3 ho3 hg3 hat3 hl3
      have ho3 := Lib.hid ho3
      have hz3 : W1.heap.size ≤ g3 := by rcases hat3 with e | e; exact (by have := own_of (g := g1) rfl e; omega); simp at e; omega
      have HM3 := Lib.hid ((HM2.out.alloc (.cells #[.bool false] 4)).grown hg3 (some_ne (g := g1) rfl (by omega)))
      have HT3 := Lib.hid ((HT2.out.alloc (.cells #[.bool false] 4)).grown hg3 (fun k hk => .inr (by have := own_of (g := g1) rfl hk; have := HZ.out; omega)))
      have HG3 : Hid (Below W1.heap.size W1 w3) := Lib.hid ((HG2.out.alloc zg2 (.cells #[.bool false] 4)).grown hg3 (by simp; omega) (fun k hk => by have := own_of (g := g1) rfl hk; omega))
      have zg3 : W1.heap.size ≤ w3.heap.size := HG3.out.size
      clear hg3 hat3
      have d1 := HM3.out.c1
      have d2 := HM3.out.c2
      have dF := HM3.out.fM 2
      have zm3 := HM3.out.lt
      go_wp2_with (at_builtin; refine of_stop ?_)
      have HMs := Lib.hid (HM3.out.set2 (.slice (some ⟨g3, 0, none⟩) (bs.length + 1) k3))
      have HTs : Hid (ButS (fun g => g = m) wr (w3.setCell ⟨m, 2, none⟩ (.slice (some ⟨g3, 0, none⟩) (bs.length + 1) k3))) := Lib.hid (HT3.out.setCell (.inl rfl) _)
      have HWs : Hid (ButS (fun g => g = m) W1 (w3.setCell ⟨m, 2, none⟩ (.slice (some ⟨g3, 0, none⟩) (bs.length + 1) k3))) := Lib.hid ((ButS.of_below (P := fun g => g = m) HG3.out).setCell (p := ⟨m, 2, none⟩) (.inl rfl) _)
      have HOs : Hid (OwnR 4 1 boV W1.heap.size (w3.setCell ⟨m, 2, none⟩ (.slice (some ⟨g3, 0, none⟩) (bs.length + 1) k3)) (.slice (some ⟨g3, 0, none⟩) (bs.length + 1) k3) (bs ++ [false])) := Lib.hid (World.ownsRow.kept ho3.out (grown_set _ _ _) (.inr (fun e => absurd (own_of (g := g3) (k := m) rfl e) (by omega))))
      have zg4 := HWs.out.size
      have hW4 : (w3.setCell ⟨m, 2, none⟩ (.slice (some ⟨g3, 0, none⟩) (bs.length + 1) k3)).heap.size = w3.heap.size := by simp
      clear d1 d2 dF HM3 HT3 HG3 ho3 HM2 HT2 HG2 ho2
      generalize w3.setCell ⟨m, 2, none⟩ (.slice (some ⟨g3, 0, none⟩) (bs.length + 1) k3) = W4 at *
      rw [← hW4]
      clear hW4
      have zg3W : g3 < W4.heap.size := by have := (World.ownsRow.lt HOs.out g3 rfl).2; exact this
      refine stop_of ?_
      refine wpList_append_rows (f := ndW) (n := 4) (E := 102) (nb := 72) (X := ([] : List NdM)) (base := W4.heap.size) rfl _ _ rfl rfl (own_lit0 W4 W4.heap.size (Nat.le_refl _)) (L2 := L) (by rw [HLl.out]; rfl) (fun i q hi j u hj => (HWs.out.alloc _).cell (fun e => absurd e HR1.out.nMN.symm) (HL1.out.2.1 i q hi j u hj)) (by rw [HLl.out, hlen.out]; omega) (N := nds.length) (by rw [HLl.out]; simp) (Z := L) rfl Tryz.underlying63 hi1 hy0 hy1 hy2 rfl (by decide) (by decide) (fun _ => rfl) ndW_one (by rw [hlen.out]; omega) (by simp) ?_
      intro g5 k5 w5 ho5 hg5 hat5 hl5
      have ho5 := Lib.hid ho5
      have hz5 : W4.heap.size ≤ g5 := by rcases hat5 with e | e; exact Nat.le_of_eq (own_of (g := W4.heap.size) rfl e).symm; simp at e; omega
      have zm4 := HMs.out.lt
      have HM5 := Lib.hid ((HMs.out.alloc (.cells #[] 102)).grown hg5 (some_ne (g := W4.heap.size) rfl (by omega)))
      have HG5 : Hid (Below W4.heap.size W4 w5) := Lib.hid (((Below.refl _ _).alloc (Nat.le_refl _) (.cells #[] 102)).grown hg5 (by simp) (fun k hk => by have := own_of (g := W4.heap.size) rfl hk; omega))
      have zg5 := HG5.out.size
      clear hg5 hat5
      go_wp2_with (at_builtin; refine of_stop ?_)
      refine stop_of ?_
      refine wpList_append_rows (f := ndW) (n := 4) (E := 102) (nb := 72) rfl _ _ rfl rfl (OwnR.below ho5.out ((Below.refl _ _).alloc (Nat.le_refl _) _)) (L2 := [ndM0]) rfl (one_row w5 ndM0) (by decide) (N := nds.length + 1) (by rw [HLl.out]; rfl) (Z := L ++ [ndM0]) rfl Tryz.underlying63 hi1 hy0 hy1 hy2 rfl (by decide) (by decide) (fun _ => rfl) ndW_one (by rw [hlen.out]; omega) (by simp; omega) ?_
      intro g6 k6 w6 ho6 hg6 hat6 hl6
      have ho6 := Lib.hid ho6
      have hz6 : W4.heap.size ≤ g6 := by rcases hat6 with e | e; exact (by have := own_of (g := g5) rfl e; omega); simp at e; omega
      have HM6 := Lib.hid ((HM5.out.alloc (.cells (ndW ndM0).toArray 102)).grown hg6 (some_ne (g := g5) rfl (by omega)))
      have HG6 : Hid (Below W4.heap.size W4 w6) := Lib.hid ((HG5.out.alloc zg5 (.cells (ndW ndM0).toArray 102)).grown hg6 (by simp; omega) (fun k hk => by have := own_of (g := g5) rfl hk; omega))
      clear hg6 hat6
      have d1 := HM6.out.c1
      have d2 := HM6.out.c2
      have dF := HM6.out.fM 1
      have zm6 := HM6.out.lt
      go_wp2_with fail
      go_ret
      have hk3 : Below W4.heap.size W4 w6 := HG6.out
      refine ⟨g6, k6, g3, k3, rfl, ?_, (HTs.out.trans (ButS.of_below hk3)).setCell (.inl rfl) _, by have := HZ.out; omega, by have := HZ.out; omega⟩
      have hmc := HM6.out.set1 (.slice (some ⟨g6, 0, none⟩) (nds.length + 1) k6)
      have hW7 : ButS (fun g => g = m) W1 (w6.setCell ⟨m, 1, none⟩ (.slice (some ⟨g6, 0, none⟩) (nds.length + 1) k6)) := (HWs.out.trans (ButS.of_below hk3)).setCell (.inl rfl) _
      have hz := HZ.out
      have hlN := HR1.out.lN
      have hob : OwnR 4 1 boV W1.heap.size (w6.setCell ⟨m, 1, none⟩ (.slice (some ⟨g6, 0, none⟩) (nds.length + 1) k6)) (.slice (some ⟨g3, 0, none⟩) (bs.length + 1) k3) (bs ++ [false]) := World.ownsRow.kept (OwnR.below HOs.out hk3) (grown_set _ _ _) (.inr (fun e => absurd (own_of (g := g3) (k := m) rfl e) (by omega)))
      have hon : OwnR 102 4 ndW W4.heap.size (w6.setCell ⟨m, 1, none⟩ (.slice (some ⟨g6, 0, none⟩) (nds.length + 1) k6)) (.slice (some ⟨g6, 0, none⟩) (nds.length + 1) k6) (L ++ [ndM0]) := World.ownsRow.kept ho6.out (grown_set _ _ _) (.inr (fun e => absurd (own_of (g := g6) (k := m) rfl e) (by omega)))
      have hLr : ∀ q ∈ L ++ [ndM0], RowI (w6.setCell ⟨m, 1, none⟩ (.slice (some ⟨g6, 0, none⟩) (nds.length + 1) k6)) (fun g => (P g ∨ wr.heap.size ≤ g) ∧ g ≠ m ∧ g ≠ g6 ∧ g ≠ g3) q.A q.n.refs ∧ RowI (w6.setCell ⟨m, 1, none⟩ (.slice (some ⟨g6, 0, none⟩) (nds.length + 1) k6)) (fun g => (P g ∨ wr.heap.size ≤ g) ∧ g ≠ m ∧ g ≠ g6 ∧ g ≠ g3) q.B q.n.nums := by
        intro q hq
        rcases List.mem_append.1 hq with hq | hq
        · obtain ⟨r1, r2⟩ := HL1.out.2.2 q hq
          have hmo : ∀ g, (P g ∧ g ≠ m ∧ g ≠ gN ∧ g ≠ gB) → g < W1.heap.size → (P g ∨ wr.heap.size ≤ g) ∧ g ≠ m ∧ g ≠ g6 ∧ g ≠ g3 := fun g hg hl => ⟨.inl hg.1, hg.2.1, by omega, by omega⟩
          have hkq : Kept W1 (w6.setCell ⟨m, 1, none⟩ (.slice (some ⟨g6, 0, none⟩) (nds.length + 1) k6)) (fun g => (P g ∨ wr.heap.size ≤ g) ∧ g ≠ m ∧ g ≠ g6 ∧ g ≠ g3) := hW7.keptQ fun g hg => hg.2.1
          exact ⟨(r1.mono hmo).kept hkq, (r2.mono hmo).kept hkq⟩
        · obtain rfl : q = ndM0 := by simpa using hq
          exact ⟨.inl rfl, .inl rfl⟩
      have e1 : (nds ++ [nd0]).length = nds.length + 1 := by simp
      have e2 : (bs ++ [false]).length = bs.length + 1 := by simp
      have eL : (L ++ [ndM0]).map NdM.n = nds ++ [nd0] := by rw [List.map_append, HL1.out.1]; rfl
      have h7 := (World.ownsRow.lt hon g6 rfl).2
      have h8 := (World.ownsRow.lt hob g3 rfl).2
      exact ⟨hmc.c0, by rw [e1]; exact hmc.c1, by rw [e2]; exact hmc.c2, hmc.fM, World.ownsRow.frozenAt (by have := hon; unfold OwnR at this; rwa [show (L ++ [ndM0]).length = nds.length + 1 by rw [List.length_append, HLl.out]; rfl] at this), World.ownsRow.frozenAt (by have := hob; unfold OwnR at this; rwa [e2] at this), .inl HR1.out.pM, .inr (by omega), .inr (by omega), by omega, by omega, by omega, h7, h8,
        by rw [← eL]; exact list_rows (rows_atR (OwnR.at (fun _ => rfl) hon (by rw [List.length_append, HLl.out]; rfl))) hLr, bits_atR (OwnR.at (fun _ => rfl) hob e2.symm), by rw [e1, e2, hlen.out], by omega, by omega, hsm,
        fun n hn => by
          rcases List.mem_append.1 hn with hn | hn
          · exact HR1.out.wide n hn
          · obtain rfl : n = nd0 := by simpa using hn
            exact ⟨by decide, by decide⟩,
        by have hc := own_room hon; rw [e1]; exact hc⟩
set_option maxHeartbeats 4000000 in
set_option maxRecDepth 10000 in
theorem rfree_found (h : RM w P m gN cN gB cB room nds bs) {k : Nat} (hk : (stOf nds bs)[k]? = some none) (hno : ∀ j : Nat, j < k → (stOf nds bs)[j]? ≠ some none) :
    Calls Tryz.prog 69 #[.pointer (some ⟨m, 0, none⟩)] w fun e w' => e = .returned (.int .i64 ((k : Int) + 1)) ∧ w' = w := by
  have HR := Lib.hid h
  have hcap := h.cap
  have hsm := h.small
  have hkl : k + 1 < bs.length := by have := (List.getElem?_eq_some_iff.1 hk).1; rw [st_len h.len] at this; omega
  have hkf : bs[k + 1]? = some false := by
    have h1 := List.getElem?_eq_getElem (l := bs) hkl
    have h2 := List.getElem?_eq_getElem (l := nds) (i := k + 1) (by have := h.len; omega)
    rw [h1]
    cases hb : bs[k + 1] with
    | false => rfl
    | true => have := st_at k h2 (by rw [h1, hb]); rw [hk] at this; cases this
  have HF : Hid (∀ i, i < k → bs[i + 1]? = some true) := Lib.hid fun i hi => by
    have h1 := List.getElem?_eq_getElem (l := bs) (i := i + 1) (by omega)
    have h2 := List.getElem?_eq_getElem (l := nds) (i := i + 1) (by have := h.len; omega)
    rw [h1]
    cases hb : bs[i + 1] with
    | true => rfl
    | false => exact absurd (st_at i h2 (by rw [h1, hb])) (hno i hi)
  clear h hno hk
  go_enter Tryz.func69, Tryz.ntmps69
  go_wp2_with fail
  go_loopw [3] (fun vi wr => ∃ i : Nat, i ≤ k ∧ vi = .int .i64 ((i : Int) + 1) ∧ wr = w) (fun vi _ => bs.length - (RowKit.intOf vi).toNat)
  case atStart => exact ⟨0, by omega, rfl, rfl⟩
  case round =>
    obtain ⟨i, hi, rfl, rfl⟩ := hrel
    have c2 := HR.out.c2
    have hlt : i + 1 < bs.length := by omega
    by_cases hik : i < k
    · have q0 := HR.out.bits _ _ (HF.out i hik)
      clear hkf
      go_wp2_with fail
      go_roundw
      case rel => exact ⟨i + 1, by omega, by go_num, trivial⟩
      case measure => simp [RowKit.intOf]; omega
    · obtain rfl : i = k := by omega
      have q0 := HR.out.bits _ _ hkf
      clear hkf
      go_wp2_with fail
      go_ret
      exact ⟨rfl, rfl⟩
set_option maxHeartbeats 4000000 in
set_option maxRecDepth 10000 in
theorem rfree_full (h : RM w P m gN cN gB cB room nds bs) (hno : ∀ j : Nat, (stOf nds bs)[j]? ≠ some none) (hr : room < bs.length) :
    Calls Tryz.prog 69 #[.pointer (some ⟨m, 0, none⟩)] w fun e w' => e = .returned (.int .i64 0) ∧ Below w.heap.size w w' := by
  have HR := Lib.hid h
  have hcap := h.cap
  have hsm := h.small
  have hone := h.one
  have HF := Lib.hid (fun i hi => full_at (i := i) hno h.len hi)
  clear h hno
  go_enter Tryz.func69, Tryz.ntmps69
  go_wp2_with fail
  go_loopw [3] (fun vi wr => ∃ i : Nat, i + 1 ≤ bs.length ∧ vi = .int .i64 ((i : Int) + 1) ∧ wr = w) (fun vi _ => bs.length - (RowKit.intOf vi).toNat)
  case atStart => exact ⟨0, by omega, rfl, rfl⟩
  case round =>
    obtain ⟨i, hi, rfl, rfl⟩ := hrel
    have c0 := HR.out.c0
    have c2 := HR.out.c2
    by_cases hlt : i + 1 < bs.length
    · have q0 := HR.out.bits _ _ (HF.out i hlt)
      go_wp2_with fail
      go_roundw
      case rel => exact ⟨i + 1, by omega, by go_num, trivial⟩
      case measure => simp [RowKit.intOf]; omega
    · have hd : decide (room < bs.length) = true := decide_eq_true (by omega)
      go_wp2_with fail
      go_quiet (fail)
      go_wp2_with fail
      go_ret
      exact ⟨rfl, by first | exact Below.refl _ _ | exact below_drewN (Below.refl _ _) _⟩
end
end Go.Proofs.YtjgadggehpmdkaaGreatDoor
namespace Go.Proofs.YtjgadggehpmdkaaGreatDoor
open Go.RowKit
def set4 (w : World) (g o : Nat) (a b c d : Value) : World := (((w.setCell ⟨g, o, none⟩ a).setCell ⟨g, o + 1, none⟩ b).setCell ⟨g, o + 2, none⟩ c).setCell ⟨g, o + 3, none⟩ d
section
variable {w w' : World} {g o : Nat} {a b c d : Value}
theorem set4_far {p : Addr} (h : ∀ j, j < 4 → p ≠ ⟨g, o + j, none⟩) : (set4 w g o a b c d).cell? p = w.cell? p := by
  unfold set4
  rw [World.cell?_setCell_other _ _ _ _ (h 3 (by decide)).symm, World.cell?_setCell_other _ _ _ _ (h 2 (by decide)).symm, World.cell?_setCell_other _ _ _ _ (h 1 (by decide)).symm, World.cell?_setCell_other _ _ _ _ (show (⟨g, o, none⟩ : Addr) ≠ p from (h 0 (by decide)).symm)]
theorem set4_frozen (p : Addr) : (set4 w g o a b c d).frozen? p = w.frozen? p := by
  unfold set4
  rw [World.frozen?_setCell, World.frozen?_setCell, World.frozen?_setCell, World.frozen?_setCell]
theorem set4_size : (set4 w g o a b c d).heap.size = w.heap.size := by unfold set4; simp
theorem set4_near {u0 u1 u2 u3 : Value} (h0 : w.cell? ⟨g, o, none⟩ = some u0) (h1 : w.cell? ⟨g, o + 1, none⟩ = some u1) (h2 : w.cell? ⟨g, o + 2, none⟩ = some u2) (h3 : w.cell? ⟨g, o + 3, none⟩ = some u3) :
    (set4 w g o a b c d).cell? ⟨g, o, none⟩ = some a ∧ (set4 w g o a b c d).cell? ⟨g, o + 1, none⟩ = some b ∧ (set4 w g o a b c d).cell? ⟨g, o + 2, none⟩ = some c ∧ (set4 w g o a b c d).cell? ⟨g, o + 3, none⟩ = some d := by
  have ne : ∀ i j, i ≠ j → (⟨g, o + i, none⟩ : Addr) ≠ ⟨g, o + j, none⟩ := fun i j h e => h (by have := congrArg Addr.off e; simp at this; exact this)
  have n01 := ne 0 1 (by decide)
  have n02 := ne 0 2 (by decide)
  have n03 := ne 0 3 (by decide)
  have n12 := ne 1 2 (by decide)
  have n13 := ne 1 3 (by decide)
  have n23 := ne 2 3 (by decide)
  rw [Nat.add_zero] at n01 n02 n03
  unfold set4
  refine ⟨?_, ?_, ?_, ?_⟩
  · rw [World.cell?_setCell_other _ _ _ _ n03.symm, World.cell?_setCell_other _ _ _ _ n02.symm, World.cell?_setCell_other _ _ _ _ n01.symm]
    exact World.cell?_setCell_same _ _ _ h0
  · rw [World.cell?_setCell_other _ _ _ _ n13.symm, World.cell?_setCell_other _ _ _ _ n12.symm]
    exact World.cell?_setCell_same _ _ _ (by rw [World.cell?_setCell_other _ _ _ _ n01]; exact h1)
  · rw [World.cell?_setCell_other _ _ _ _ n23.symm]
    exact World.cell?_setCell_same _ _ _ (by rw [World.cell?_setCell_other _ _ _ _ n12, World.cell?_setCell_other _ _ _ _ n02]; exact h2)
  · exact World.cell?_setCell_same _ _ _ (by rw [World.cell?_setCell_other _ _ _ _ n23, World.cell?_setCell_other _ _ _ _ n13, World.cell?_setCell_other _ _ _ _ n03]; exact h3)
theorem ButS.set4 {P : Nat → Prop} {v : World} (h : ButS P v w) (hg : P g ∨ v.heap.size ≤ g) : ButS P v (set4 w g o a b c d) := by
  unfold Go.Proofs.YtjgadggehpmdkaaGreatDoor.set4
  exact (((h.setCell (p := ⟨g, o, none⟩) hg a).setCell (p := ⟨g, o + 1, none⟩) hg b).setCell (p := ⟨g, o + 2, none⟩) hg c).setCell (p := ⟨g, o + 3, none⟩) hg d
end
end Go.Proofs.YtjgadggehpmdkaaGreatDoor
namespace Go.Proofs.YtjgadggehpmdkaaGreatDoor
open Go.RowKit
section
variable {w w' : World} {P Q : Nat → Prop} {m gN cN gB cB room : Nat} {nds : List Nd} {bs : List Bool}
theorem RM.mono (h : RM w P m gN cN gB cB room nds bs) (hpq : ∀ g, P g → Q g) : RM w Q m gN cN gB cB room nds bs :=
  { h with
    pM := hpq _ h.pM
    pN := hpq _ h.pN
    pB := hpq _ h.pB
    rows := fun i n hi => by
      obtain ⟨B, cb, C, cc, h4, hr, hn⟩ := h.rows i n hi
      exact ⟨B, cb, C, cc, h4, hr.mono fun g hg _ => ⟨hpq g hg.1, hg.2⟩, hn.mono fun g hg _ => ⟨hpq g hg.1, hg.2⟩⟩ }
theorem RM.put (h : RM w P m gN cN gB cB room nds bs) {i : Nat} (hi : i < bs.length) {x : Nd} {A B : Option Addr} {ca cb : Nat} (hA : RowI w (fun g => P g ∧ g ≠ m ∧ g ≠ gN ∧ g ≠ gB) A x.refs) (hB : RowI w (fun g => P g ∧ g ≠ m ∧ g ≠ gN ∧ g ≠ gB) B x.nums)
    (hw : x.refs.length ≤ 1000000 ∧ x.nums.length ≤ 1000000) :
    RM ((set4 w gN (i * 4) (.int .i64 x.kind) (.slice A x.refs.length ca) (.slice B x.nums.length cb) (.string ⟨x.text.toArray⟩)).setCell ⟨gB, i, none⟩ (.bool true)) P m gN cN gB cB room (nds.set i x) (bs.set i true) := by
  have hbut : ButS (fun g => g = gN ∨ g = gB) w ((set4 w gN (i * 4) (.int .i64 x.kind) (.slice A x.refs.length ca) (.slice B x.nums.length cb) (.string ⟨x.text.toArray⟩)).setCell ⟨gB, i, none⟩ (.bool true)) :=
    ((ButS.refl _ w).set4 (.inl (.inl rfl))).setCell (p := ⟨gB, i, none⟩) (.inl (.inr rfl)) _
  have hfr : ∀ p, ((set4 w gN (i * 4) (.int .i64 x.kind) (.slice A x.refs.length ca) (.slice B x.nums.length cb) (.string ⟨x.text.toArray⟩)).setCell ⟨gB, i, none⟩ (.bool true)).frozen? p = w.frozen? p := fun p => by rw [World.frozen?_setCell, set4_frozen]
  have hkeep : Kept w ((set4 w gN (i * 4) (.int .i64 x.kind) (.slice A x.refs.length ca) (.slice B x.nums.length cb) (.string ⟨x.text.toArray⟩)).setCell ⟨gB, i, none⟩ (.bool true)) (fun g => P g ∧ g ≠ m ∧ g ≠ gN ∧ g ≠ gB) := hbut.keptQ fun g hg e => by rcases e with e | e; exact hg.2.2.1 e; exact hg.2.2.2 e
  have hsz := hbut.size
  have hlen := h.len
  have hcN : ∀ p : Addr, p.block = gN → ((set4 w gN (i * 4) (.int .i64 x.kind) (.slice A x.refs.length ca) (.slice B x.nums.length cb) (.string ⟨x.text.toArray⟩)).setCell ⟨gB, i, none⟩ (.bool true)).cell? p = (set4 w gN (i * 4) (.int .i64 x.kind) (.slice A x.refs.length ca) (.slice B x.nums.length cb) (.string ⟨x.text.toArray⟩)).cell? p := fun p hp => World.cell?_setCell_other _ _ _ _ fun e => h.nNB (by rw [← hp, ← e])
  have hmm : ¬ (m = gN ∨ m = gB) := fun e => by rcases e with e | e; exact h.nMN e; exact h.nMB e
  refine ⟨hbut.cell hmm h.c0, by rw [List.length_set]; exact hbut.cell hmm h.c1, by rw [List.length_set]; exact hbut.cell hmm h.c2, fun j => by rw [hfr]; exact h.fM j, fun j => by rw [hfr]; exact h.fN j, fun j => by rw [hfr]; exact h.fB j, h.pM, h.pN, h.pB, h.nMN, h.nMB, h.nNB, Nat.lt_of_lt_of_le h.lN hsz, Nat.lt_of_lt_of_le h.lB hsz, ?_, ?_, by rw [List.length_set, List.length_set]; exact hlen, by rw [List.length_set]; exact h.one, by rw [List.length_set]; exact h.cap, h.small, ?_, by rw [List.length_set]; exact h.room'⟩
  · intro j n hj
    by_cases e : i = j
    · subst e
      rw [List.getElem?_set_self (by omega)] at hj
      obtain rfl := Option.some.inj hj
      obtain ⟨B', cb', C', cc', ⟨q0, q1, q2, q3⟩, _⟩ := h.rows i _ (List.getElem?_eq_getElem (by omega))
      obtain ⟨r0, r1, r2, r3⟩ := set4_near (a := .int .i64 x.kind) (b := .slice A x.refs.length ca) (c := .slice B x.nums.length cb) (d := .string ⟨x.text.toArray⟩) q0 q1 q2 q3
      exact ⟨A, ca, B, cb, ⟨(hcN _ rfl).trans r0, (hcN _ rfl).trans r1, (hcN _ rfl).trans r2, (hcN _ rfl).trans r3⟩, hA.kept hkeep, hB.kept hkeep⟩
    · rw [List.getElem?_set_ne e] at hj
      obtain ⟨B', cb', C', cc', ⟨q0, q1, q2, q3⟩, hr, hn⟩ := h.rows j n hj
      have far : ∀ k, k < 4 → (set4 w gN (i * 4) (.int .i64 x.kind) (.slice A x.refs.length ca) (.slice B x.nums.length cb) (.string ⟨x.text.toArray⟩)).cell? ⟨gN, j * 4 + k, none⟩ = w.cell? ⟨gN, j * 4 + k, none⟩ := fun k hk => set4_far fun l hl e' => by
        have := congrArg Addr.off e'
        simp at this
        omega
      exact ⟨B', cb', C', cc', ⟨((hcN _ rfl).trans (far 0 (by decide))).trans q0, ((hcN _ rfl).trans (far 1 (by decide))).trans q1, ((hcN _ rfl).trans (far 2 (by decide))).trans q2, ((hcN _ rfl).trans (far 3 (by decide))).trans q3⟩, hr.kept hkeep, hn.kept hkeep⟩
  · intro j b hj
    by_cases e : i = j
    · subst e
      rw [List.getElem?_set_self hi] at hj
      obtain rfl := Option.some.inj hj
      have q := h.bits i _ (List.getElem?_eq_getElem hi)
      exact World.cell?_setCell_same _ _ _ ((set4_far fun l hl e' => h.nNB (by have := congrArg Addr.block e'; exact this.symm)).trans q)
    · rw [List.getElem?_set_ne e] at hj
      have q := h.bits j _ hj
      rw [World.cell?_setCell_other _ _ _ _ (fun e' => e (by have := congrArg Addr.off e'; exact this))]
      exact (set4_far fun l hl e' => h.nNB (by have := congrArg Addr.block e'; exact this.symm)).trans q
  · intro n hn
    obtain ⟨j, hj⟩ := List.getElem?_of_mem hn
    by_cases e : i = j
    · subst e
      rw [List.getElem?_set_self (by omega)] at hj
      obtain rfl := Option.some.inj hj
      exact hw
    · rw [List.getElem?_set_ne e] at hj
      exact h.wide n (List.mem_of_getElem? hj)
end
end Go.Proofs.YtjgadggehpmdkaaGreatDoor
namespace Go.Proofs.YtjgadggehpmdkaaGreatDoor
def Eqv (s t : Sh) : Prop := ∀ h, ndAt s h = ndAt t h
theorem Eqv.refl (s : Sh) : Eqv s s := fun _ => rfl
theorem Eqv.symm {s t : Sh} (h : Eqv s t) : Eqv t s := fun x => (h x).symm
theorem Eqv.trans {s t u : Sh} (h : Eqv s t) (k : Eqv t u) : Eqv s u := fun x => (h x).trans (k x)
theorem Eqv.liveE {s t : Sh} (h : Eqv s t) (x : Int) : live s x = live t x := by
  show (ndAt s x).isSome = (ndAt t x).isSome
  rw [h x]
theorem at_some {s : Sh} {i : Nat} {n : Nd} : s[i]? = some (some n) ↔ ndAt s ((i : Int) + 1) = some n := by
  rw [ndAt_succ]
  cases s[i]? with
  | none => simp
  | some o => simp
theorem Eqv.fndE {s t : Sh} (h : Eqv s t) (x : Nd) : fnd s x = fnd t x := by
  by_cases e : fnd s x = 0
  · rw [e]
    exact (fnd_none fun j hj => fnd_zero e j (at_some.2 ((h _).trans (at_some.1 hj)))).symm
  · unfold fnd at e
    cases q : s.findIdx? (fun o => o == some x) with
    | none => rw [q] at e; exact absurd rfl e
    | some i =>
      rw [List.findIdx?_eq_some_iff_getElem] at q
      obtain ⟨hl, hx, hj⟩ := q
      have h1 : s[i]? = some (some x) := by rw [List.getElem?_eq_getElem hl]; simpa using hx
      have h2 : ∀ j : Nat, j < i → s[j]? ≠ some (some x) := fun j hji hq => by
        have := hj j hji
        obtain ⟨hjl, hjv⟩ := List.getElem?_eq_some_iff.1 hq
        rw [hjv] at this
        simp at this
      rw [fnd_at h1 h2]
      exact (fnd_at (at_some.2 ((h _).symm.trans (at_some.1 h1))) fun j hji hq => h2 j hji (at_some.2 ((h _).trans (at_some.1 hq)))).symm
theorem freeH_least {s : Sh} {h : Nat} (h1 : 1 ≤ h) (hd : live s (h : Int) = false) (hb : ∀ k : Nat, 1 ≤ k → k < h → live s (k : Int) = true) : freeH s = h := by
  have hp := freeH_pos s
  have hf : live s (freeH s : Int) = false := by unfold live; rw [freeH_dead]; rfl
  rcases Nat.lt_trichotomy (freeH s) h with e | e | e
  · rw [hb _ hp.1 e] at hf; cases hf
  · exact e
  · exfalso
    obtain ⟨j, rfl⟩ : ∃ j, h = j + 1 := ⟨h - 1, by omega⟩
    have hjl : j < s.length := by omega
    have hn : s[j]? = some none := by
      rw [show ((j + 1 : Nat) : Int) = (j : Int) + 1 by omega] at hd
      unfold live at hd
      rw [ndAt_succ, List.getElem?_eq_getElem hjl] at hd
      rw [List.getElem?_eq_getElem hjl]
      cases q : s[j] with
      | none => rfl
      | some n => rw [q] at hd; cases hd
    rcases freeH_cases s with ⟨i, hi, e'⟩ | ⟨_, hn'⟩
    · have hk := hb
      unfold freeH at e e'
      cases q : s.findIdx? (fun o => o.isNone) with
      | none => rw [List.findIdx?_eq_none_iff] at q; have := q _ (List.mem_of_getElem? hn); simp at this
      | some i' =>
        rw [q] at e
        rw [List.findIdx?_eq_some_iff_getElem] at q
        have := q.2.2 j (by simp at e; omega)
        obtain ⟨hjl', hjv⟩ := List.getElem?_eq_some_iff.1 hn
        rw [hjv] at this
        simp at this
    · exact hn' j hn
theorem freeH_below {s : Sh} {k : Nat} (h1 : 1 ≤ k) (hk : k < freeH s) : live s (k : Int) = true := by
  obtain ⟨j, rfl⟩ : ∃ j, k = j + 1 := ⟨k - 1, by omega⟩
  cases e : live s ((j + 1 : Nat) : Int) with
  | true => rfl
  | false =>
    exfalso
    have hp := freeH_pos s
    have hjl : j < s.length := by omega
    have hn : s[j]? = some none := by
      rw [show ((j + 1 : Nat) : Int) = (j : Int) + 1 by omega] at e
      unfold live at e
      rw [ndAt_succ, List.getElem?_eq_getElem hjl] at e
      rw [List.getElem?_eq_getElem hjl]
      cases q : s[j] with
      | none => rfl
      | some n => rw [q] at e; cases e
    unfold freeH at hk
    cases q : s.findIdx? (fun o => o.isNone) with
    | none => rw [List.findIdx?_eq_none_iff] at q; have := q _ (List.mem_of_getElem? hn); simp at this
    | some i' =>
      rw [q] at hk
      rw [List.findIdx?_eq_some_iff_getElem] at q
      have := q.2.2 j (by simp at hk; omega)
      obtain ⟨hjl', hjv⟩ := List.getElem?_eq_some_iff.1 hn
      rw [hjv] at this
      simp at this
theorem Eqv.free {s t : Sh} (h : Eqv s t) : freeH s = freeH t :=
  freeH_least (freeH_pos t).1 (by rw [h.liveE]; unfold live; rw [freeH_dead]; rfl) fun k h1 hk => by rw [h.liveE]; exact freeH_below h1 hk
theorem Eqv.setHE {s t : Sh} (h : Eqv s t) (x : Nd) : Eqv (setH s (freeH s) x) (setH t (freeH t) x) := fun k => by
  rw [setH_at, setH_at, h.free, h k]
theorem Eqv.one {room : Nat} {s t : Sh} (h : Eqv s t) (x : Nd) : (oneA room s x = none ∧ oneA room t x = none) ∨ ∃ s' t' k, oneA room s x = some (s', k) ∧ oneA room t x = some (t', k) ∧ Eqv s' t' := by
  unfold oneA
  rw [h.fndE, h.free]
  by_cases e : fnd t x ≠ 0
  · rw [if_pos e, if_pos e]; exact .inr ⟨_, _, _, rfl, rfl, h⟩
  · rw [if_neg e, if_neg e]
    by_cases e' : room < freeH t
    · rw [if_pos e', if_pos e']; exact .inl ⟨rfl, rfl⟩
    · rw [if_neg e', if_neg e']
      have := h.setHE x
      rw [h.free] at this
      exact .inr ⟨_, _, _, rfl, rfl, this⟩
theorem Eqv.putLE {room : Nat} : ∀ {l : List Nd} {s t : Sh} {out : List Int}, Eqv s t → (putL room s out l = none ∧ putL room t out l = none) ∨ ∃ s' t' o, putL room s out l = some (s', o) ∧ putL room t out l = some (t', o) ∧ Eqv s' t'
  | [], s, t, out, h => .inr ⟨s, t, out, rfl, rfl, h⟩
  | n :: l, s, t, out, h => by
    rw [putL, putL]
    rcases h.one (room := room) (asPut out n) with ⟨e1, e2⟩ | ⟨s', t', k, e1, e2, h'⟩
    · rw [e1, e2]; exact .inl ⟨rfl, rfl⟩
    · rw [e1, e2]; exact Eqv.putLE h'
theorem Eqv.wrong {s t : Sh} (h : Eqv s t) : ∀ (l : List Nd) (i : Nat), wrongF s i l = wrongF t i l
  | [], _ => rfl
  | n :: l, i => by
    rw [wrongF, wrongF, h.wrong l (i + 1)]
    congr 2
    have : okRef s i = okRef t i := funext fun r => by unfold okRef; rw [h.liveE]
    rw [this]
theorem Eqv.put {room : Nat} {s t : Sh} (h : Eqv s t) (l : List Nd) : Eqv (putA room s l).1 (putA room t l).1 ∧ (putA room s l).2 = (putA room t l).2 := by
  unfold putA
  rw [h.wrong]
  split
  · exact ⟨h, rfl⟩
  · rcases h.putLE (room := room) (l := l) (out := []) with ⟨e1, e2⟩ | ⟨s', t', o, e1, e2, h'⟩
    · rw [e1, e2]; exact ⟨h, rfl⟩
    · rw [e1, e2]; exact ⟨h', rfl⟩
theorem tru_pad : ∀ (l : List Bool) (k : Int) (m : Nat), tru k (l ++ List.replicate m false) = tru k l
  | [], k, 0 => rfl
  | [], k, m + 1 => by rw [List.nil_append, List.replicate_succ, tru]; exact tru_pad [] (k + 1) m
  | true :: l, k, m => by rw [List.cons_append, tru, tru, tru_pad l]
  | false :: l, k, m => by rw [List.cons_append, tru, tru, tru_pad l]
theorem liveA_range (s : Sh) (n : Nat) (hn : s.length ≤ n) : liveA s = tru 1 ((List.range n).map fun i : Nat => live s ((i : Int) + 1)) := by
  unfold liveA
  rw [liveF_tru, ← tru_pad (s.map Option.isSome) 1 (n - s.length)]
  congr 1
  apply List.ext_getElem?
  intro i
  by_cases hi : i < n
  · rw [List.getElem?_map, List.getElem?_range hi]
    show _ = some (live s ((i : Int) + 1))
    unfold live
    rw [ndAt_succ]
    by_cases hs : i < s.length
    · rw [List.getElem?_append_left (by simpa using hs), List.getElem?_map, List.getElem?_eq_getElem hs]; rfl
    · rw [List.getElem?_append_right (by simpa using hs), List.getElem?_replicate, if_pos (by simp; omega), List.getElem?_eq_none_iff.2 (by omega)]; rfl
  · rw [List.getElem?_eq_none_iff.2 (by simp; omega), List.getElem?_eq_none_iff.2 (by simp; omega)]
theorem Eqv.liveAE {s t : Sh} (h : Eqv s t) : liveA s = liveA t := by
  rw [liveA_range s (max s.length t.length) (by omega), liveA_range t (max s.length t.length) (by omega)]
  congr 2
  exact funext fun i => h.liveE _
theorem Eqv.rch {s t : Sh} (h : Eqv s t) {roots : List Int} {x : Int} (e : Rch s roots x) : Rch t roots x := by
  induction e with
  | root r hm hl => exact .root r hm (by rw [← h.liveE]; exact hl)
  | ref k r n _ hn hm hp ih => exact .ref k r n ih (by rw [← h k]; exact hn) hm hp
theorem Eqv.left {s t : Sh} (h : Eqv s t) (roots : List Int) : Eqv (leftA s roots) (leftA t roots) := fun x => by
  rw [left_at, left_at]
  by_cases e : Rch s roots x
  · rw [if_pos e, if_pos (h.rch e), h x]
  · rw [if_neg e, if_neg fun e' => e (h.symm.rch e')]
theorem Eqv.reach {s t : Sh} (h : Eqv s t) (roots : List Int) : reachA s roots = reachA t roots := (h.left roots).liveAE
theorem Eqv.sweep {s t : Sh} (h : Eqv s t) (roots : List Int) : Eqv (sweepA s roots).1 (sweepA t roots).1 ∧ (sweepA s roots).2 = (sweepA t roots).2 := by
  unfold sweepA
  have e : (fun r => decide (r = 0) || live s r) = (fun r => decide (r = 0) || live t r) := funext fun r => by rw [h.liveE]
  rw [e, h.liveAE, h.reach]
  split
  · exact ⟨h.left roots, rfl⟩
  · exact ⟨h, rfl⟩
end Go.Proofs.YtjgadggehpmdkaaGreatDoor
namespace Go.Proofs.YtjgadggehpmdkaaGreatDoor
open Go.RowKit
theorem int_info : (Tryz.prog.info? 3).map (fun i => (i.zero, i.size, i.bytes)) = some (some (.int .i64 0), 1, 8) := by kernel_rfl
theorem inW_one : ∀ q : Int, ∀ u ∈ inW q, u.oneCell' = true := by
  intro q u hu
  simp only [inW, List.mem_cons, List.not_mem_nil, or_false] at hu
  subst hu; rfl
end Go.Proofs.YtjgadggehpmdkaaGreatDoor
namespace Go.Proofs.YtjgadggehpmdkaaGreatDoor
open Go.RowKit
theorem atR_row {w : World} {g o : Nat} {l : List Int} (h : AtR inW 1 w g o l) : ∀ (i : Nat) (x : Int), l[i]? = some x → w.cell? ⟨g, o + i, none⟩ = some (.int .i64 x) := fun i b hi => by
  have := h i b hi 0 _ rfl
  rwa [Nat.mul_one, Nat.add_zero] at this
theorem own_rowI {w : World} {base : Nat} {v : Value} {L : List Int} (h : OwnR 3 1 inW base w v L) : ∃ (A : Option Addr) (cap : Nat), v = .slice A L.length cap ∧ RowI w (fun g => base ≤ g) A L := by
  rcases Nat.eq_zero_or_pos L.length with e | e
  · have hn : L = [] := List.length_eq_zero_iff.1 e
    obtain ⟨A, cap, rfl, _, _⟩ := OwnR.shape (f := inW) (fun _ => rfl) h
    exact ⟨A, cap, rfl, .inl hn⟩
  · obtain ⟨g, cap, rfl, hb, hg⟩ := World.ownsRow.form h e
    have ha := OwnR.at (f := inW) (fun _ => rfl) h rfl
    exact ⟨_, cap, rfl, .inr ⟨g, 0, rfl, hb, hg, atR_row ha⟩⟩
end Go.Proofs.YtjgadggehpmdkaaGreatDoor
