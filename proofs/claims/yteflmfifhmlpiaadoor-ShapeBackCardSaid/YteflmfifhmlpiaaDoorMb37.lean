/- Texts joined: ShQ. -/
import Derived.Test.YteflmfifhmlpiaaDoorMb36
set_option linter.all false
set_option linter.unusedVariables false
set_option linter.unusedSimpArgs false
namespace Go.Proofs.YteflmfifhmlpiaaDoor
open Go.RowKit

theorem anyH_pass {P : Program} {ops : Array Oper} {Q : Exit → Act → World → Prop} {md : Region.Mode} {S : World → Prop} {i d : Nat} {oi : Oper} {fuel : Nat} {listed : Array Bool} {a : Act} {w : World}
    (hi : ops[i]? = some oi) (hd : oi.dst = some d) (hs : Region.noSelect ops = true) (hf : Region.free md ops listed i = true) (hr : (Region.ready md ops listed).contains i = true)
    (hQ : ∀ c a w, Q (.panic c) (a.put oi.dst undef) w → Q (.panic c) a w) (hu : a.tmps[d]? = some undef) (hw : Region.wanted oi (yielded ops a.tmps) = false) (hS : S w)
    (h : wpAnyH P md ops Q S fuel (listed.setIfInBounds i true) a w) : wpAnyH P md ops Q S (fuel + 1) listed a w := by
  refine wpAnyH_take hi hs hf hr hQ (Or.inr ⟨hw, rfl⟩) hS ?_
  have e : a.put oi.dst undef = a := by
    rw [hd]
    obtain ⟨t, df⟩ := a
    obtain ⟨hl, hv⟩ := Array.getElem?_eq_some_iff.1 hu
    simp only at hl hv
    have e2 : t.setIfInBounds d undef = t := by
      apply Array.ext
      · simp
      · intro j h1 h2
        rw [Array.getElem_setIfInBounds]
        split
        · rename_i e; subst e; exact hv.symm
        · rfl
    show Act.mk (t.setIfInBounds d undef) df = Act.mk t df
    rw [e2]
  rw [e]
  exact h
set_option maxHeartbeats 16000000 in
set_option maxRecDepth 100000 in
theorem shback_no1 (x y px py : Int) (t : Tr) (hW : Wid t) (hf : fitsB t = false) (w : World) (A : Option Addr) (ca : Nat) (hA : KV w (fun _ => True) t A) {B : Nat} (hSB : B ≤ w.heap.size) (hSt : Strs B B w) :
    Calls Tryd.prog 4 #[.agg #[.int .i64 t.kind, .int .i64 t.num, .int .i64 t.c1, .int .i64 t.r1, .int .i64 t.c2, .int .i64 t.r2, .string ⟨t.word.toArray⟩, .slice A t.kids.length ca], .agg #[.int .i64 x, .int .i64 y], .agg #[.int .i64 px, .int .i64 py]] w (Yes w) := by
  have HS := Lib.hid (fun w1 (hb : Below w.heap.size w w1) => And.intro (Nat.le_trans hSB hb.size) (hSt.later hSB hb))
  have HK := Lib.hid (fun w1 (hb : Below w.heap.size w w1) => hA.kept (Kept.of_below hb))
  have HF := Lib.hid (fun w1 (hb : Below w.heap.size w w1) => lfits_any t hW w1 A ca (HK.out w1 hb))
  have hlen := hW.len
  unfold maxLen at hlen
  rw [hf] at HF
  unfold tv at HF
  clear hSB hSt hA hW hf
  go_enter Tryd.func4, Tryd.ntmps4
  go_wp2_with fail
  refine (HF.out _ ((((Below.refl _ _).alloc (Nat.le_refl _) _).alloc (by simp) _).alloc (by simp; omega) _)).mono ?_; rintro e w1 ⟨rfl, b1⟩
  have H1 := Lib.hid ((((((Below.refl _ _).alloc (Nat.le_refl _) _).alloc (by simp) _).alloc (by simp; omega) _) : Below w.heap.size w (((w.alloc _).alloc _).alloc _)).trans (b1.mono (by simp; omega)))
  clear b1
  go_wp2_with fail
  refine (shalive _ (HS.out _ H1.out).1 (HS.out _ H1.out).2).mono ?_; rintro e w2 ⟨rfl, b2⟩
  have H2 := Lib.hid (H1.out.trans (b2.mono H1.out.size))
  clear b2
  go_wp2_with fail
  go_ret
  exact ⟨rfl, H2.out⟩
set_option maxHeartbeats 16000000 in
set_option maxRecDepth 100000 in
theorem shback_no2 (x y px py : Int) (t : Tr) (hW : Wid t) (hf : fitsB t = true) (hr : rightP t = false) (w : World) (A : Option Addr) (ca : Nat) (hA : KV w (fun _ => True) t A) {B : Nat} (hSB : B ≤ w.heap.size) (hSt : Strs B B w) :
    Calls Tryd.prog 4 #[.agg #[.int .i64 t.kind, .int .i64 t.num, .int .i64 t.c1, .int .i64 t.r1, .int .i64 t.c2, .int .i64 t.r2, .string ⟨t.word.toArray⟩, .slice A t.kids.length ca], .agg #[.int .i64 x, .int .i64 y], .agg #[.int .i64 px, .int .i64 py]] w (Yes w) := by
  have HS := Lib.hid (fun w1 (hb : Below w.heap.size w w1) => And.intro (Nat.le_trans hSB hb.size) (hSt.later hSB hb))
  have HK := Lib.hid (fun w1 (hb : Below w.heap.size w w1) => hA.kept (Kept.of_below hb))
  have HF := Lib.hid (fun w1 (hb : Below w.heap.size w w1) => lfits_any t hW w1 A ca (HK.out w1 hb))
  have hlen := hW.len
  unfold maxLen at hlen
  rw [hf] at HF
  have HRi := Lib.hid (fun w1 (hb : Below w.heap.size w w1) => rRight_any t (Nat.le_trans (fits_deep hf) (by decide)) hW w1 _ A ca (HK.out w1 hb))
  rw [right_same, hr] at HRi
  unfold tv at HF HRi
  clear hSB hSt hA hW hf hr
  go_enter Tryd.func4, Tryd.ntmps4
  go_wp2_with fail
  refine (HF.out _ ((((Below.refl _ _).alloc (Nat.le_refl _) _).alloc (by simp) _).alloc (by simp; omega) _)).mono ?_; rintro e w1 ⟨rfl, b1⟩
  have H1 := Lib.hid ((((((Below.refl _ _).alloc (Nat.le_refl _) _).alloc (by simp) _).alloc (by simp; omega) _) : Below w.heap.size w (((w.alloc _).alloc _).alloc _)).trans (b1.mono (by simp; omega)))
  have C1 : Hid (Here w1 w.heap.size t A ca) := Lib.hid (by refine ⟨?_, ?_, ?_, ?_, ?_, ?_, ?_, ?_⟩ <;> exact keep_cell b1 (by simp [go_sem]))
  clear b1
  obtain ⟨c0, c1, c2, c3, c4, c5, c6, c7⟩ := C1.out
  go_wp2_with fail
  refine (HRi.out _ H1.out).mono ?_; rintro e w2 ⟨rfl, b2⟩
  have H2 := Lib.hid (H1.out.trans (b2.mono H1.out.size))
  clear b2 c0 c1 c2 c3 c4 c5 c6 c7 C1
  go_wp2_with fail
  refine (shalive _ (HS.out _ H2.out).1 (HS.out _ H2.out).2).mono ?_; rintro e w3 ⟨rfl, b3⟩
  have H3 := Lib.hid (H2.out.trans (b3.mono H2.out.size))
  clear b3
  go_wp2_with fail
  go_ret
  exact ⟨rfl, H3.out⟩
set_option maxHeartbeats 16000000 in
set_option maxRecDepth 100000 in
theorem shback_yes (x y px py : Int) (hx : B63 x) (hy : B63 y) (t : Tr) (hG : GT t) (hf : fitsB t = true) (hr : rightP t = true) (w : World) (A : Option Addr) (ca : Nat) (hA : KV w (fun _ => True) t A) {B : Nat} (hSB : B ≤ w.heap.size) (hSt : Strs B B w) :
    Calls Tryd.prog 4 #[.agg #[.int .i64 t.kind, .int .i64 t.num, .int .i64 t.c1, .int .i64 t.r1, .int .i64 t.c2, .int .i64 t.r2, .string ⟨t.word.toArray⟩, .slice A t.kids.length ca], .agg #[.int .i64 x, .int .i64 y], .agg #[.int .i64 px, .int .i64 py]] w (Yes w) := by
  have hW := hG.wid
  have HS := Lib.hid (fun w1 (hb : Below w.heap.size w w1) => And.intro (Nat.le_trans hSB hb.size) (hSt.later hSB hb))
  have HK := Lib.hid (fun w1 (hb : Below w.heap.size w w1) => hA.kept (Kept.of_below hb))
  have HF := Lib.hid (fun w1 (hb : Below w.heap.size w w1) => lfits_any t hW w1 A ca (HK.out w1 hb))
  have hlen := hW.len
  unfold maxLen at hlen
  rw [hf] at HF
  have HRi := Lib.hid (fun w1 (hb : Below w.heap.size w w1) => rRight_any t hG.deep hW w1 _ A ca (HK.out w1 hb))
  rw [right_same, hr] at HRi
  have HSh := Lib.hid (fun w1 (hb : Below w.heap.size w w1) => sShift hG w1 A ca (HK.out w1 hb) (HS.out w1 hb).1 (HS.out w1 hb).2 x y hx hy)
  have hGS := hG.sh x y
  rw [sh_right hr] at HSh hGS
  rw [show erB (rightP t) = 0 from if_pos hr] at HSh
  have HRl := Lib.hid (fun w1 (hb : Below w.heap.size w w1) => sReads hG w1 A ca (HK.out w1 hb) (HS.out w1 hb).1 (HS.out w1 hb).2)
  have HRm := Lib.hid (fun w1 (hb : Below w.heap.size w w1) A ca hA => sReads hGS w1 A ca hA (HS.out w1 hb).1 (HS.out w1 hb).2)
  have HUt := Lib.hid (fun w1 (hb : Below w.heap.size w w1) c r => sUses hG w1 A ca (HK.out w1 hb) (HS.out w1 hb).1 (HS.out w1 hb).2 c r)
  have HBt := Lib.hid (fun w1 (hb : Below w.heap.size w w1) => sBads hG w1 A ca (HK.out w1 hb) (HS.out w1 hb).1 (HS.out w1 hb).2)
  have HBu := Lib.hid (fun w1 (hb : Below w.heap.size w w1) A ca hA => sBads hGS w1 A ca hA (HS.out w1 hb).1 (HS.out w1 hb).2)
  have HZt := Lib.hid (fun w1 (hb : Below w.heap.size w w1) => sSize hG w1 A ca (HK.out w1 hb) (HS.out w1 hb).1 (HS.out w1 hb).2)
  have HZu := Lib.hid (fun w1 (hb : Below w.heap.size w w1) A ca hA => sSize hGS w1 A ca hA (HS.out w1 hb).1 (HS.out w1 hb).2)
  rw [sz_on hG.fit hr] at HZu
  have hr2 := right_mv x y hG.fit hr
  have HSb := Lib.hid (fun w1 (hb : Below w.heap.size w w1) A ca hA (h1 : B63 (-x)) (h2 : B63 (-y)) => sShift hGS w1 A ca hA (HS.out w1 hb).1 (HS.out w1 hb).2 (-x) (-y) h1 h2)
  rw [sh_right hr2] at HSb
  rw [show erB (rightP (mvT x y t)) = 0 from if_pos hr2] at HSb
  have HSm := Lib.hid (fun w P Q A B ca cb hA hB => rsame_twin hG.deep hW w P Q A B ca cb hA hB)
  have HAl := Lib.hid (fun w1 (hb : Below w.heap.size w w1) => shalive w1 (HS.out w1 hb).1 (HS.out w1 hb).2)
  have HAT : Hid (∀ (i : Nat) (c r : Int), (rdL t)[i]? = some (c, r) → usV c r t = true ∧ (0 ≤ c ∧ c ≤ 15 ∧ 0 ≤ r ∧ r ≤ 63)) := Lib.hid fun i c r h => ⟨by unfold usV; rw [hr, (rdL_at hr h).1]; rfl, (rdL_at hr h).2⟩
  have HAM : Hid (∀ (i : Nat) (c r : Int), (rdL (mvT x y t))[i]? = some (c, r) → (0 ≤ c ∧ c ≤ 15 ∧ 0 ≤ r ∧ r ≤ 63)) := Lib.hid fun i c r h => (rdL_at hr2 h).2
  have HRS : Hid (∀ (i : Nat) (c r d s : Int), (rdL t)[i]? = some (c, r) → (rdL t)[i + 1]? = some (d, s) → idxN c r < idxN d s) := Lib.hid fun i c r d s h k => rdL_rise hr h k
  have HMem : Hid (decide ((px, py) ∈ rdL t) = usV px py t) := Lib.hid (by unfold usV; rw [hr, Bool.true_and, Bool.eq_iff_iff, decide_eq_true_iff]; exact mem_rdL hr)
  have HNone := Lib.hid (fun h => rd_none (x := x) (y := y) hG.fit hr h)
  have HOn := Lib.hid (fun (h : ((bdV (mvT x y t) : Nat) : Int) = ((bdV t : Nat) : Int)) => rd_on (x := x) (y := y) hG.fit hr (by omega))
  have HBk := Lib.hid (fun (h : ((bdV (mvT x y t) : Nat) : Int) = ((bdV t : Nat) : Int)) => back_is (x := x) (y := y) hG.fit hr (by omega))
  have hbd : ((bdV t : Nat) : Int) ≤ ((bdV (mvT x y t) : Nat) : Int) := by have := bd_on (x := x) (y := y) hG.fit hr; omega
  have hLle : (rdL t).length ≤ 1024 := by unfold rdL; split; exact readsTo_le _ _; exact Nat.zero_le _
  have hMle : (rdL (mvT x y t)).length ≤ 1024 := by unfold rdL; split; exact readsTo_le _ _; exact Nat.zero_le _
  have hls := hGS.wid.len
  unfold maxLen at hls
  unfold tv at *
  generalize mvT (-x) (-y) (mvT x y t) = Q at *
  generalize mvT x y t = U at *
  generalize rdL t = L at *
  generalize rdL U = M at *
  generalize ((bdV t : Nat) : Int) = N1 at *
  generalize ((bdV U : Nat) : Int) = N2 at *
  generalize ((szV t : Nat) : Int) = N3 at *
  clear hSB hSt hA hf hG hGS hx hy hr hr2 hW
  go_enter Tryd.func4, Tryd.ntmps4
  go_wp2_with fail
  refine (HF.out _ ((((Below.refl _ _).alloc (Nat.le_refl _) _).alloc (by simp) _).alloc (by simp; omega) _)).mono ?_; rintro e w1 ⟨rfl, b1⟩
  have H1 := Lib.hid ((((((Below.refl _ _).alloc (Nat.le_refl _) _).alloc (by simp) _).alloc (by simp; omega) _) : Below w.heap.size w (((w.alloc _).alloc _).alloc _)).trans (b1.mono (by simp; omega)))
  have C1 : Hid (Here w1 w.heap.size t A ca) := Lib.hid (by refine ⟨?_, ?_, ?_, ?_, ?_, ?_, ?_, ?_⟩ <;> exact keep_cell b1 (by simp [go_sem]))
  have D1 : Hid ((w1.cell? ⟨w.heap.size + 1, 0, none⟩ = some (.int .i64 x) ∧ w1.cell? ⟨w.heap.size + 1, 1, none⟩ = some (.int .i64 y)) ∧ (w1.cell? ⟨w.heap.size + 1 + 1, 0, none⟩ = some (.int .i64 px) ∧ w1.cell? ⟨w.heap.size + 1 + 1, 1, none⟩ = some (.int .i64 py))) := Lib.hid ⟨⟨keep_cell b1 (by simp [go_sem]), keep_cell b1 (by simp [go_sem])⟩, ⟨keep_cell b1 (by simp [go_sem]), keep_cell b1 (by simp [go_sem])⟩⟩
  clear b1
  obtain ⟨c0, c1, c2, c3, c4, c5, c6, c7⟩ := C1.out
  go_wp2_with fail
  refine (HRi.out _ H1.out).mono ?_; rintro e w2 ⟨rfl, b2⟩
  have H2 := Lib.hid (H1.out.trans (b2.mono H1.out.size))
  have C2 := Lib.hid (C1.out.below b2)
  have D2 := Lib.hid (And.intro (And.intro (keep_cell b2 D1.out.1.1) (keep_cell b2 D1.out.1.2)) (And.intro (keep_cell b2 D1.out.2.1) (keep_cell b2 D1.out.2.2)))
  clear b2 c0 c1 c2 c3 c4 c5 c6 c7 C1 D1 H1
  obtain ⟨c0, c1, c2, c3, c4, c5, c6, c7⟩ := C2.out
  obtain ⟨⟨d0, d1⟩, _⟩ := D2.out
  go_wp2_with fail
  refine (HSh.out _ H2.out).mono ?_; rintro e w3 ⟨⟨A1, cu, rfl, hu⟩, b3⟩
  have b3' : Below w2.heap.size w2 (w3.alloc (.cells #[.int .i64 U.kind, .int .i64 U.num, .int .i64 U.c1, .int .i64 U.r1, .int .i64 U.c2, .int .i64 U.r2, .string ⟨U.word.toArray⟩, .slice A1 U.kids.length cu] 29)) := b3.alloc b3.size _
  have H3 := Lib.hid (H2.out.trans (b3'.mono H2.out.size))
  have C3 := Lib.hid (C2.out.below b3')
  have D3 := Lib.hid (And.intro (And.intro (keep_cell b3' D2.out.1.1) (keep_cell b3' D2.out.1.2)) (And.intro (keep_cell b3' D2.out.2.1) (keep_cell b3' D2.out.2.2)))
  have U3 := Lib.hid (Here.new w3 U A1 cu)
  have V3 : Hid (KV (w3.alloc (.cells #[.int .i64 U.kind, .int .i64 U.num, .int .i64 U.c1, .int .i64 U.r1, .int .i64 U.c2, .int .i64 U.r2, .string ⟨U.word.toArray⟩, .slice A1 U.kids.length cu] 29)) (fun _ => True) U A1) := Lib.hid ((hu.imp fun _ _ => trivial).kept (Kept.of_below ((Below.refl _ _).alloc (Nat.le_refl _) _)))
  clear b3 b3' hu C2 D2 H2 c0 c1 c2 c3 c4 c5 c6 c7 d0 d1
  obtain ⟨c0, c1, c2, c3, c4, c5, c6, c7⟩ := C3.out
  go_wp2_with fail
  refine (HRl.out _ H3.out).mono ?_; rintro e w4 ⟨vl, rfl, hrl, b4⟩
  have H4 := Lib.hid (H3.out.trans (b4.mono H3.out.size))
  have C4 := Lib.hid (C3.out.below b4)
  have D4 := Lib.hid (And.intro (And.intro (keep_cell b4 D3.out.1.1) (keep_cell b4 D3.out.1.2)) (And.intro (keep_cell b4 D3.out.2.1) (keep_cell b4 D3.out.2.2)))
  have U4 := Lib.hid (U3.out.below b4)
  have V4 := Lib.hid (V3.out.kept (Kept.of_below b4))
  obtain ⟨RA, rc, rfl, hat4⟩ := own_shape hrl
  clear b4 hrl C3 D3 U3 V3 H3 c0 c1 c2 c3 c4 c5 c6 c7
  obtain ⟨c0, c1, c2, c3, c4, c5, c6, c7⟩ := U4.out
  go_wp2_with fail
  refine (HRm.out _ H4.out A1 cu V4.out).mono ?_; rintro e wk ⟨vm, rfl, hrm, b5⟩
  have HB := Lib.hid (H4.out.trans (b5.mono H4.out.size))
  have C5 := Lib.hid (C4.out.below b5)
  have D5 := Lib.hid (And.intro (And.intro (keep_cell b5 D4.out.1.1) (keep_cell b5 D4.out.1.2)) (And.intro (keep_cell b5 D4.out.2.1) (keep_cell b5 D4.out.2.2)))
  have U5 := Lib.hid (U4.out.below b5)
  have V5 := Lib.hid (V4.out.kept (Kept.of_below b5))
  obtain ⟨MA, mc, rfl, hat5⟩ := own_shape hrm
  have HLa : Hid (∀ i, i < L.length → ∃ g, RA = some ⟨g, 0, none⟩ ∧ ∀ w', Below wk.heap.size wk w' → At2 w' g L) := Lib.hid fun i hi => by
    obtain ⟨g, hg, hl, ha⟩ := hat4 i hi
    have hs := b5.size
    exact ⟨g, hg, fun w' hb => at2_below (at2_below ha b5 hl) hb (by omega)⟩
  have HMa : Hid (∀ i, i < M.length → ∃ g, MA = some ⟨g, 0, none⟩ ∧ ∀ w', Below wk.heap.size wk w' → At2 w' g M) := Lib.hid fun i hi => by
    obtain ⟨g, hg, hl, ha⟩ := hat5 i hi
    exact ⟨g, hg, fun w' hb => at2_below ha hb hl⟩
  have HC := Lib.hid (fun w' (hb : Below wk.heap.size wk w') => C5.out.below hb)
  have HU := Lib.hid (fun w' (hb : Below wk.heap.size wk w') => And.intro (U5.out.below hb) (V5.out.kept (Kept.of_below hb)))
  have HD := Lib.hid (fun w' (hb : Below wk.heap.size wk w') => And.intro (And.intro (keep_cell hb D5.out.1.1) (keep_cell hb D5.out.1.2)) (And.intro (keep_cell hb D5.out.2.1) (keep_cell hb D5.out.2.2)))
  have HW := Lib.hid (fun w' (hb : Below wk.heap.size wk w') => HB.out.trans (hb.mono HB.out.size))
  clear b5 hrm hat4 hat5 C4 D4 U4 V4 H4 C5 D5 U5 V5 c0 c1 c2 c3 c4 c5 c6 c7
  have HL : Hid (∀ w', Below wk.heap.size wk w' → (w'.cell? ⟨w.heap.size, 0, none⟩ = some (.int .i64 t.kind) ∧ w'.cell? ⟨w.heap.size, 1, none⟩ = some (.int .i64 t.num) ∧ w'.cell? ⟨w.heap.size, 2, none⟩ = some (.int .i64 t.c1) ∧ w'.cell? ⟨w.heap.size, 3, none⟩ = some (.int .i64 t.r1) ∧ w'.cell? ⟨w.heap.size, 4, none⟩ = some (.int .i64 t.c2) ∧ w'.cell? ⟨w.heap.size, 5, none⟩ = some (.int .i64 t.r2) ∧ w'.cell? ⟨w.heap.size, 6, none⟩ = some (.string ⟨t.word.toArray⟩) ∧ w'.cell? ⟨w.heap.size, 7, none⟩ = some (.slice A t.kids.length ca)) ∧ (w'.cell? ⟨w3.heap.size, 0, none⟩ = some (.int .i64 U.kind) ∧ w'.cell? ⟨w3.heap.size, 1, none⟩ = some (.int .i64 U.num) ∧ w'.cell? ⟨w3.heap.size, 2, none⟩ = some (.int .i64 U.c1) ∧ w'.cell? ⟨w3.heap.size, 3, none⟩ = some (.int .i64 U.r1) ∧ w'.cell? ⟨w3.heap.size, 4, none⟩ = some (.int .i64 U.c2) ∧ w'.cell? ⟨w3.heap.size, 5, none⟩ = some (.int .i64 U.r2) ∧ w'.cell? ⟨w3.heap.size, 6, none⟩ = some (.string ⟨U.word.toArray⟩) ∧ w'.cell? ⟨w3.heap.size, 7, none⟩ = some (.slice A1 U.kids.length cu))) := Lib.hid fun w' hb => ⟨HC.out w' hb, (HU.out w' hb).1⟩
  have hne : (N3 != N3) = false := by unfold bne; rw [beq_self_eq_true]; rfl
  have hlt : decide (N2 < N1) = false := decide_eq_false (by omega)
  go_wp2_with fail
  go_region_held3 (fun w' => (w'.cell? ⟨w.heap.size, 0, none⟩ = some (.int .i64 t.kind) ∧ w'.cell? ⟨w.heap.size, 1, none⟩ = some (.int .i64 t.num) ∧ w'.cell? ⟨w.heap.size, 2, none⟩ = some (.int .i64 t.c1) ∧ w'.cell? ⟨w.heap.size, 3, none⟩ = some (.int .i64 t.r1) ∧ w'.cell? ⟨w.heap.size, 4, none⟩ = some (.int .i64 t.c2) ∧ w'.cell? ⟨w.heap.size, 5, none⟩ = some (.int .i64 t.r2) ∧ w'.cell? ⟨w.heap.size, 6, none⟩ = some (.string ⟨t.word.toArray⟩) ∧ w'.cell? ⟨w.heap.size, 7, none⟩ = some (.slice A t.kids.length ca)) ∧ (w'.cell? ⟨w3.heap.size, 0, none⟩ = some (.int .i64 U.kind) ∧ w'.cell? ⟨w3.heap.size, 1, none⟩ = some (.int .i64 U.num) ∧ w'.cell? ⟨w3.heap.size, 2, none⟩ = some (.int .i64 U.c1) ∧ w'.cell? ⟨w3.heap.size, 3, none⟩ = some (.int .i64 U.r1) ∧ w'.cell? ⟨w3.heap.size, 4, none⟩ = some (.int .i64 U.c2) ∧ w'.cell? ⟨w3.heap.size, 5, none⟩ = some (.int .i64 U.r2) ∧ w'.cell? ⟨w3.heap.size, 6, none⟩ = some (.string ⟨U.word.toArray⟩) ∧ w'.cell? ⟨w3.heap.size, 7, none⟩ = some (.slice A1 U.kids.length cu)))
    (with_reducible exact HL.out _ (by repeat' (first | with_reducible exact Below.refl _ _ | with_reducible exact B5 | with_reducible exact B6 | with_reducible exact B7 | with_reducible exact B8 | with_reducible refine Below.drew ?_)))
    (first
    | (go_at_call 15; refine (HBt.out _ (HW.out _ B7)).mono ?_; rintro e w8 ⟨rfl, q8⟩
       have B8 : Below wk.heap.size wk w8 := B7.trans (q8.mono B7.size))
    | (go_at_call 15; refine (HBu.out _ (HW.out _ B6) A1 cu (HU.out _ B6).2).mono ?_; rintro e w7 ⟨rfl, q7⟩
       have B7 : Below wk.heap.size wk w7 := B6.trans (q7.mono B6.size))
    | (go_at_call 17; refine (HZt.out _ (HW.out _ B5)).mono ?_; rintro e w6 ⟨rfl, q6⟩
       have B6 : Below wk.heap.size wk w6 := B5.trans (q6.mono B5.size))
    | (go_at_call 17; refine (HZu.out _ (HW.out _ (Below.refl _ wk).drew) A1 cu (HU.out _ (Below.refl _ wk).drew).2).mono ?_; rintro e w5 ⟨rfl, q5⟩
       have B5 : Below wk.heap.size wk w5 := (Below.refl _ wk).drew.trans q5)
    | fail)
  go_wp2_with fail
  have HBd := Lib.hid hbd
  clear hlt hne hbd
  go_loopw [13, 14] (fun vh vi wr => ∃ i : Nat, i ≤ L.length ∧ vi = .int .i64 (i : Int) ∧ vh = .bool (decide ((px, py) ∈ L.take i)) ∧ Below wk.heap.size wk wr) (fun _ vi _ => L.length - (intOf vi).toNat)
  case atStart => exact ⟨0, Nat.zero_le _, rfl, by simp, B8⟩
  case round =>
    clear B5 B6 B7 B8
    obtain ⟨i, hi, rfl, rfl, hb⟩ := hrel
    by_cases hil : i < L.length
    · obtain ⟨gl, rfl, hat⟩ := HLa.out i hil
      obtain ⟨c, r, hcr⟩ : ∃ c r, L[i]? = some (c, r) := ⟨(L[i]'hil).1, (L[i]'hil).2, List.getElem?_eq_getElem hil⟩
      have HHat := Lib.hid hat
      have HUc : Hid (∀ w', Below wk.heap.size wk w' → Calls Tryd.prog 13 #[.agg #[.int .i64 t.kind, .int .i64 t.num, .int .i64 t.c1, .int .i64 t.r1, .int .i64 t.c2, .int .i64 t.r2, .string ⟨t.word.toArray⟩, .slice A t.kids.length ca], .agg #[.int .i64 c, .int .i64 r]] w' fun e w2 => e = .returned (.bool true) ∧ Below w'.heap.size w' w2) := Lib.hid fun w' hb => by
        have h := HUt.out w' (HW.out w' hb) c r
        rw [(HAT.out i c r hcr).1] at h
        exact h
      have HTK : Hid (L.take (i + 1) = L.take i ++ [(c, r)]) := Lib.hid (by rw [List.take_add_one, hcr]; rfl)
      have HLi : Hid (∀ w', Below wk.heap.size wk w' → (w'.cell? ⟨w.heap.size, 0, none⟩ = some (.int .i64 t.kind) ∧ w'.cell? ⟨w.heap.size, 1, none⟩ = some (.int .i64 t.num) ∧ w'.cell? ⟨w.heap.size, 2, none⟩ = some (.int .i64 t.c1) ∧ w'.cell? ⟨w.heap.size, 3, none⟩ = some (.int .i64 t.r1) ∧ w'.cell? ⟨w.heap.size, 4, none⟩ = some (.int .i64 t.c2) ∧ w'.cell? ⟨w.heap.size, 5, none⟩ = some (.int .i64 t.r2) ∧ w'.cell? ⟨w.heap.size, 6, none⟩ = some (.string ⟨t.word.toArray⟩) ∧ w'.cell? ⟨w.heap.size, 7, none⟩ = some (.slice A t.kids.length ca)) ∧ w'.cell? ⟨gl, i * 2, none⟩ = some (.int .i64 c) ∧ w'.cell? ⟨gl, i * 2 + 1, none⟩ = some (.int .i64 r) ∧ w'.cell? ⟨w.heap.size + 1 + 1, 0, none⟩ = some (.int .i64 px) ∧ w'.cell? ⟨w.heap.size + 1 + 1, 1, none⟩ = some (.int .i64 py)) := Lib.hid fun w' hb => ⟨HC.out w' hb, (HHat.out w' hb i c r hcr).1, (HHat.out w' hb i c r hcr).2, (HD.out w' hb).2.1, (HD.out w' hb).2.2⟩
      have HBr := Lib.hid hb
      clear hat
      go_wp2_with fail
      go_region_held3 (fun w' => (w'.cell? ⟨w.heap.size, 0, none⟩ = some (.int .i64 t.kind) ∧ w'.cell? ⟨w.heap.size, 1, none⟩ = some (.int .i64 t.num) ∧ w'.cell? ⟨w.heap.size, 2, none⟩ = some (.int .i64 t.c1) ∧ w'.cell? ⟨w.heap.size, 3, none⟩ = some (.int .i64 t.r1) ∧ w'.cell? ⟨w.heap.size, 4, none⟩ = some (.int .i64 t.c2) ∧ w'.cell? ⟨w.heap.size, 5, none⟩ = some (.int .i64 t.r2) ∧ w'.cell? ⟨w.heap.size, 6, none⟩ = some (.string ⟨t.word.toArray⟩) ∧ w'.cell? ⟨w.heap.size, 7, none⟩ = some (.slice A t.kids.length ca)) ∧ w'.cell? ⟨gl, i * 2, none⟩ = some (.int .i64 c) ∧ w'.cell? ⟨gl, i * 2 + 1, none⟩ = some (.int .i64 r) ∧ w'.cell? ⟨w.heap.size + 1 + 1, 0, none⟩ = some (.int .i64 px) ∧ w'.cell? ⟨w.heap.size + 1 + 1, 1, none⟩ = some (.int .i64 py))
        (with_reducible exact HLi.out _ (by repeat' (first | with_reducible exact HBr.out | with_reducible exact B5 | with_reducible refine Below.drew ?_)))
        (first
        | (go_at_call 13; refine (HUc.out _ hb.drew).mono ?_; rintro e w5 ⟨rfl, q5⟩
           have B5 : Below wk.heap.size wk w5 := hb.drew.trans (q5.mono hb.drew.size))
        | fail)
      have HB5 := Lib.hid B5
      obtain ⟨_, a0, a1, p0, p1⟩ := HLi.out w5 B5
      clear hb B5
      have HN : Hid (decide ((px, py) ∈ L.take (i + 1)) = (decide ((px, py) ∈ L.take i) || (c == px && r == py))) := Lib.hid (by
        rw [HTK.out, Bool.eq_iff_iff]
        simp only [decide_eq_true_iff, List.mem_append, List.mem_singleton, Prod.mk.injEq, Bool.or_eq_true, Bool.and_eq_true, beq_iff_eq]
        constructor
        · rintro (h | ⟨h1, h2⟩)
          · exact .inl h
          · exact .inr ⟨h1.symm, h2.symm⟩
        · rintro (h | ⟨h1, h2⟩)
          · exact .inl h
          · exact .inr ⟨h1.symm, h2.symm⟩)
      have heq := eql_place c r px py
      have hgd := fun op X Y W => guard_place op X Y #[.int .i64 c, .int .i64 r] #[.int .i64 px, .int .i64 py] W
      generalize decide ((px, py) ∈ L.take i) = hh at *
      generalize (c == px && r == py) = hq at *
      cases hh
      all_goals
        go_wp2_with fail
        go_quiet (fail)
        go_wp2_with fail
        by_cases hi0 : i = 0
        · subst hi0
          have hz : decide ((0 : Int) < 0) = false := by decide
          go_quiet (fail)
          go_wp2_with fail
          go_roundw
          case rel => exact ⟨1, by omega, by go_num, by rw [HN.out]; simp, by repeat' (first | with_reducible exact HB5.out | with_reducible refine below_drewN ?_ _)⟩
          case measure => simp [intOf]; omega
        · obtain ⟨j, hij⟩ : ∃ j : Nat, i = j + 1 := ⟨i - 1, by omega⟩
          have HIJ := Lib.hid hij
          obtain ⟨d, z, hdz⟩ : ∃ d z, L[j]? = some (d, z) := ⟨(L[j]'(by omega)).1, (L[j]'(by omega)).2, List.getElem?_eq_getElem (by omega)⟩
          have HLj : Hid (∀ w', Below wk.heap.size wk w' → w'.cell? ⟨gl, j * 2, none⟩ = some (.int .i64 d) ∧ w'.cell? ⟨gl, j * 2 + 1, none⟩ = some (.int .i64 z) ∧ w'.cell? ⟨gl, i * 2, none⟩ = some (.int .i64 c) ∧ w'.cell? ⟨gl, i * 2 + 1, none⟩ = some (.int .i64 r)) := Lib.hid fun w' hb => ⟨(HHat.out w' hb j d z hdz).1, (HHat.out w' hb j d z hdz).2, (HHat.out w' hb i c r hcr).1, (HHat.out w' hb i c r hcr).2⟩
          have hrs := HRS.out j d z c r hdz (hij ▸ hcr)
          have HI1 := Lib.hid (fun w => rindex_any d z w)
          have HI2 := Lib.hid (fun w => rindex_any c r w)
          have hge : decide (idxN c r ≤ idxN d z) = false := decide_eq_false (by omega)
          have hj1 : (i : Int) - 1 = (j : Int) := by omega
          have hj2 : j < L.length := by omega
          have hgt : decide ((0 : Int) < (i : Int)) = true := decide_eq_true (by omega)
          have hgn : decide (0 < i) = true := decide_eq_true (by omega)
          have hip : 0 < i := by omega
          have hwr : wrap64 ((i : Int) - 1) = (j : Int) := by rw [hj1]; exact IntWalk.wrap64_in _ (by omega)
          have hwr2 : IntKind.i64.wrap ((i : Int) - 1) = (j : Int) := by rw [IntWalk.i64_left]; exact hwr
          have hwj : IntKind.i64.wrap (j : Int) = (j : Int) := IntWalk.i64_in _ (by omega)
          have hjp : (0 : Int) ≤ (j : Int) := by omega
          have hjq : (j : Int) < (L.length : Int) := by omega
          have hiq : (i : Int) < (L.length : Int) := by omega
          clear hij hi0
          have HBq : Hid (Below wk.heap.size wk (w5.drewN nq)) := Lib.hid (below_drewN HB5.out nq)
          generalize idxN c r = I2 at *
          generalize idxN d z = I1 at *
          clear a0 a1 p0 p1
          go_region_held3 (fun w' => w'.cell? ⟨gl, j * 2, none⟩ = some (.int .i64 d) ∧ w'.cell? ⟨gl, j * 2 + 1, none⟩ = some (.int .i64 z) ∧ w'.cell? ⟨gl, i * 2, none⟩ = some (.int .i64 c) ∧ w'.cell? ⟨gl, i * 2 + 1, none⟩ = some (.int .i64 r))
            (with_reducible exact HLj.out _ (by repeat' (first | with_reducible exact HBq.out | with_reducible exact B6 | with_reducible exact B7 | with_reducible refine Below.drew ?_)))
            (first
            | (have hB6 := B6; clear hB6; go_at_call 20; refine (HI2.out _).mono ?_; rintro e w7 ⟨rfl, q7⟩
               have B7 : Below wk.heap.size wk w7 := B6.trans (q7.mono B6.size))
            | (go_at_call 20; refine (HI1.out _).mono ?_; rintro e w6 ⟨rfl, q6⟩
               have B6 : Below wk.heap.size wk w6 := HBq.out.drew.trans (q6.mono HBq.out.drew.size))
            | fail)
          go_wp2_with fail
          go_roundw
          case rel => exact ⟨i + 1, by omega, by go_num, by rw [HN.out]; simp, B7⟩
          case measure => simp [intOf]; omega
    · have hii : i = L.length := by omega
      subst hii
      have hmem : decide ((px, py) ∈ L.take L.length) = usV px py t := by rw [List.take_length]; exact HMem.out
      rw [hmem]
      have HUp := Lib.hid (HUt.out _ (HW.out _ hb) px py)
      clear hmem HMem
      generalize usV px py t = q0 at *
      have HBr := Lib.hid hb
      obtain ⟨c0, c1, c2, c3, c4, c5, c6, c7⟩ := HC.out _ hb
      obtain ⟨_, p0, p1⟩ := HD.out _ hb
      clear hb hil hi
      go_wp2_with fail
      refine HUp.out.mono ?_; rintro e w5 ⟨rfl, q5⟩
      have B5 : Below wk.heap.size wk w5 := HBr.out.trans (q5.mono HBr.out.size)
      have hqq : (q0 != q0) = false := by simp
      clear c0 c1 c2 c3 c4 c5 c6 c7 p0 p1 q5 HUp HBr HRS HUt
      go_wp2_with fail
      clear hqq
      by_cases hN : N2 = N1
      · subst hN
        have hNN : (N2 != N2) = false := by unfold bne; rw [beq_self_eq_true]; rfl
        by_cases hl : L.length = 0
        · have hL0 : L = [] := List.length_eq_zero_iff.1 hl
          have hm : M.length = 0 := by rw [HNone.out hL0]; rfl
          clear hL0
          go_region_held3 (fun w' => (w'.cell? ⟨w.heap.size, 0, none⟩ = some (.int .i64 t.kind) ∧ w'.cell? ⟨w.heap.size, 1, none⟩ = some (.int .i64 t.num) ∧ w'.cell? ⟨w.heap.size, 2, none⟩ = some (.int .i64 t.c1) ∧ w'.cell? ⟨w.heap.size, 3, none⟩ = some (.int .i64 t.r1) ∧ w'.cell? ⟨w.heap.size, 4, none⟩ = some (.int .i64 t.c2) ∧ w'.cell? ⟨w.heap.size, 5, none⟩ = some (.int .i64 t.r2) ∧ w'.cell? ⟨w.heap.size, 6, none⟩ = some (.string ⟨t.word.toArray⟩) ∧ w'.cell? ⟨w.heap.size, 7, none⟩ = some (.slice A t.kids.length ca)) ∧ (w'.cell? ⟨w3.heap.size, 0, none⟩ = some (.int .i64 U.kind) ∧ w'.cell? ⟨w3.heap.size, 1, none⟩ = some (.int .i64 U.num) ∧ w'.cell? ⟨w3.heap.size, 2, none⟩ = some (.int .i64 U.c1) ∧ w'.cell? ⟨w3.heap.size, 3, none⟩ = some (.int .i64 U.r1) ∧ w'.cell? ⟨w3.heap.size, 4, none⟩ = some (.int .i64 U.c2) ∧ w'.cell? ⟨w3.heap.size, 5, none⟩ = some (.int .i64 U.r2) ∧ w'.cell? ⟨w3.heap.size, 6, none⟩ = some (.string ⟨U.word.toArray⟩) ∧ w'.cell? ⟨w3.heap.size, 7, none⟩ = some (.slice A1 U.kids.length cu)))
            (with_reducible exact HL.out _ (by repeat' (first | with_reducible exact B5 | with_reducible exact B6 | with_reducible exact B7 | with_reducible refine Below.drew ?_)))
            (first
            | (have hB6 := B6; clear hB6; go_at_call 15; refine (HBt.out _ (HW.out _ B6)).mono ?_; rintro e w7 ⟨rfl, q7⟩
               have B7 : Below wk.heap.size wk w7 := B6.trans (q7.mono B6.size))
            | (go_at_call 15; refine (HBu.out _ (HW.out _ B5.drew) A1 cu (HU.out _ B5.drew).2).mono ?_; rintro e w6 ⟨rfl, q6⟩
               have B6 : Below wk.heap.size wk w6 := B5.drew.trans (q6.mono B5.drew.size))
            | fail)
          go_wp2_with fail
          refine (HAl.out _ (HW.out _ B7)).mono ?_; rintro e w8 ⟨rfl, q8⟩
          have B8 : Below wk.heap.size wk w8 := B7.trans (q8.mono B7.size)
          go_wp2_with fail
          go_ret
          exact ⟨rfl, HW.out _ B8⟩
        · have hp1 : (0 : Int) < (L.length : Int) := by omega
          have hz1 : ((L.length : Int) == 0) = false := by rw [beq_eq_false_iff_ne]; omega
          have hml : M = L.map (fun p => (p.1 + x, p.2 + y)) := HOn.out rfl
          have hmn : M.length = L.length := by rw [hml, List.length_map]
          have hQ := HBk.out rfl
          rw [hQ] at HSb
          have HMi : Hid (∀ (i : Nat) (c r : Int), L[i]? = some (c, r) → M[i]? = some (c + x, r + y) ∧ (0 ≤ c ∧ c ≤ 15 ∧ 0 ≤ r ∧ r ≤ 63) ∧ (0 ≤ c + x ∧ c + x ≤ 15 ∧ 0 ≤ r + y ∧ r + y ≤ 63)) := Lib.hid fun i c r h => by
            have hm : M[i]? = some (c + x, r + y) := by rw [hml, List.getElem?_map, h]; rfl
            exact ⟨hm, (HAT.out i c r h).2, HAM.out i _ _ hm⟩
          have hxy : (-15 ≤ x ∧ x ≤ 15) ∧ (-63 ≤ y ∧ y ≤ 63) := by
            have h0 : L[0]? = some (L[0]'(by omega)) := List.getElem?_eq_getElem (by omega)
            have := HMi.out 0 _ _ h0
            omega
          have HXY := Lib.hid hxy
          clear hml hQ HOn HBk HNone HAT HAM hxy
          go_region_held3 (fun w' => (w'.cell? ⟨w.heap.size, 0, none⟩ = some (.int .i64 t.kind) ∧ w'.cell? ⟨w.heap.size, 1, none⟩ = some (.int .i64 t.num) ∧ w'.cell? ⟨w.heap.size, 2, none⟩ = some (.int .i64 t.c1) ∧ w'.cell? ⟨w.heap.size, 3, none⟩ = some (.int .i64 t.r1) ∧ w'.cell? ⟨w.heap.size, 4, none⟩ = some (.int .i64 t.c2) ∧ w'.cell? ⟨w.heap.size, 5, none⟩ = some (.int .i64 t.r2) ∧ w'.cell? ⟨w.heap.size, 6, none⟩ = some (.string ⟨t.word.toArray⟩) ∧ w'.cell? ⟨w.heap.size, 7, none⟩ = some (.slice A t.kids.length ca)) ∧ (w'.cell? ⟨w3.heap.size, 0, none⟩ = some (.int .i64 U.kind) ∧ w'.cell? ⟨w3.heap.size, 1, none⟩ = some (.int .i64 U.num) ∧ w'.cell? ⟨w3.heap.size, 2, none⟩ = some (.int .i64 U.c1) ∧ w'.cell? ⟨w3.heap.size, 3, none⟩ = some (.int .i64 U.r1) ∧ w'.cell? ⟨w3.heap.size, 4, none⟩ = some (.int .i64 U.c2) ∧ w'.cell? ⟨w3.heap.size, 5, none⟩ = some (.int .i64 U.r2) ∧ w'.cell? ⟨w3.heap.size, 6, none⟩ = some (.string ⟨U.word.toArray⟩) ∧ w'.cell? ⟨w3.heap.size, 7, none⟩ = some (.slice A1 U.kids.length cu)))
            (with_reducible exact HL.out _ (by repeat' (first | with_reducible exact B5 | with_reducible exact B6 | with_reducible exact B7 | with_reducible refine Below.drew ?_)))
            (first
            | (have hB6 := B6; clear hB6; go_at_call 15; refine (HBt.out _ (HW.out _ B6)).mono ?_; rintro e w7 ⟨rfl, q7⟩
               have B7 : Below wk.heap.size wk w7 := B6.trans (q7.mono B6.size))
            | (go_at_call 15; refine (HBu.out _ (HW.out _ B5.drew) A1 cu (HU.out _ B5.drew).2).mono ?_; rintro e w6 ⟨rfl, q6⟩
               have B6 : Below wk.heap.size wk w6 := B5.drew.trans (q6.mono B5.drew.size))
            | fail)
          clear hz1 hNN
          have hll : ((L.length : Int) != (L.length : Int)) = false := by unfold bne; rw [beq_self_eq_true]; rfl
          go_wp2_with fail
          clear hll hp1 hl
          have HLN := Lib.hid hmn
          go_loopw [16] (fun vi wr => ∃ i : Nat, i ≤ L.length ∧ vi = .int .i64 (i : Int) ∧ Below wk.heap.size wk wr) (fun vi _ => L.length - (intOf vi).toNat)
          case atStart => exact ⟨0, Nat.zero_le _, rfl, B7⟩
          case round =>
            clear B5 B6 B7
            obtain ⟨i, hi, rfl, hb⟩ := hrel
            by_cases hil : i < L.length
            · obtain ⟨gl, rfl, hat⟩ := HLa.out i hil
              have him : i < M.length := by have := HLN.out; omega
              obtain ⟨gm, rfl, hatm⟩ := HMa.out i him
              obtain ⟨c, r, hcr⟩ : ∃ c r, L[i]? = some (c, r) := ⟨(L[i]'hil).1, (L[i]'hil).2, List.getElem?_eq_getElem hil⟩
              obtain ⟨hm, hb1, hb2⟩ := HMi.out i c r hcr
              obtain ⟨a0, a1⟩ := hat wr hb i c r hcr
              obtain ⟨m0, m1⟩ := hatm wr hb i _ _ hm
              obtain ⟨⟨d0, d1⟩, _⟩ := HD.out wr hb
              have HBr := Lib.hid hb
              have hx1 : c + x - c = x := by omega
              have hx2 : IntKind.i64.wrap x = x := IntWalk.i64_in _ (by have := HXY.out; omega)
              have hx3 : IntKind.i64.wrap (c + x - c) = x := by rw [hx1]; exact hx2
              have hx4 : wrap64 (c + x - c) = x := by rw [hx1]; exact IntWalk.wrap64_in _ (by have := HXY.out; omega)
              have hy1 : r + y - r = y := by omega
              have hy2 : IntKind.i64.wrap y = y := IntWalk.i64_in _ (by have := HXY.out; omega)
              have hy3 : IntKind.i64.wrap (r + y - r) = y := by rw [hy1]; exact hy2
              have hy4 : wrap64 (r + y - r) = y := by rw [hy1]; exact IntWalk.wrap64_in _ (by have := HXY.out; omega)
              have hxx : (x != x) = false := by unfold bne; rw [beq_self_eq_true]; rfl
              have hyy : (y != y) = false := by unfold bne; rw [beq_self_eq_true]; rfl
              have hi0 : (0 : Int) ≤ (i : Int) := by omega
              have hi1 : (i : Int) < (L.length : Int) := by omega
              have hi2 : (i : Int) < (M.length : Int) := by omega
              clear hat hatm hb hcr hm hb1 hb2
              go_wp2_with fail
              go_quiet (fail)
              go_wp2_with fail
              go_roundw
              case rel => exact ⟨i + 1, by omega, by go_num, by repeat' (first | with_reducible exact HBr.out | with_reducible refine below_drewN ?_ _)⟩
              case measure => simp [intOf]; omega
            · have hii : i = L.length := by omega
              subst hii
              obtain ⟨⟨d0, d1⟩, _⟩ := HD.out _ hb
              obtain ⟨u0, u1, u2, u3, u4, u5, u6, u7⟩ := (HU.out _ hb).1
              have HBr := Lib.hid hb
              have hn1 : IntKind.i64.wrap (-x) = -x := IntWalk.i64_in _ (by have := HXY.out; omega)
              have hn2 : wrap64 (-x) = -x := IntWalk.wrap64_in _ (by have := HXY.out; omega)
              have hn3 : IntKind.i64.wrap (-y) = -y := IntWalk.i64_in _ (by have := HXY.out; omega)
              have hn4 : wrap64 (-y) = -y := IntWalk.wrap64_in _ (by have := HXY.out; omega)
              have h1 : B63 (-x) := by have := HXY.out; unfold B63; omega
              have h2 : B63 (-y) := by have := HXY.out; unfold B63; omega
              have HSq := Lib.hid (HSb.out _ (HW.out _ hb) A1 cu (HU.out _ hb).2 h1 h2)
              clear hb hil hi h1 h2 HSb HBt HBu HLa HMa HMi HLN
              go_wp2_with fail
              refine HSq.out.mono ?_; rintro e w9 ⟨⟨A2, cv, rfl, hv⟩, q9⟩
              have b9 : Below wr.heap.size wr (w9.alloc (.cells #[.int .i64 t.kind, .int .i64 t.num, .int .i64 t.c1, .int .i64 t.r1, .int .i64 t.c2, .int .i64 t.r2, .string ⟨t.word.toArray⟩, .slice A2 t.kids.length cv] 29)) := q9.alloc q9.size _
              have B9 := HBr.out.trans (b9.mono HBr.out.size)
              have U9 := Lib.hid (Here.new w9 t A2 cv)
              have V9 : Hid (KV (w9.alloc (.cells #[.int .i64 t.kind, .int .i64 t.num, .int .i64 t.c1, .int .i64 t.r1, .int .i64 t.c2, .int .i64 t.r2, .string ⟨t.word.toArray⟩, .slice A2 t.kids.length cv] 29)) (fun _ => True) t A2) := Lib.hid ((hv.imp fun _ _ => trivial).kept (Kept.of_below ((Below.refl _ _).alloc (Nat.le_refl _) _)))
              have H9 := Lib.hid B9
              obtain ⟨c0, c1, c2, c3, c4, c5, c6, c7⟩ := HC.out _ B9
              obtain ⟨v0, v1, v2, v3, v4, v5, v6, v7⟩ := U9.out
              clear b9 q9 hv HBr HSq u0 u1 u2 u3 u4 u5 u6 u7 d0 d1 B9 hn1 hn2 hn3 hn4
              go_wp2_with fail
              refine (HSm.out _ _ _ _ _ _ _ (HK.out _ (HW.out _ H9.out)) V9.out).mono ?_; rintro e w10 ⟨rfl, q10⟩
              have H10 := Lib.hid (H9.out.trans (q10.mono H9.out.size))
              clear q10 c0 c1 c2 c3 c4 c5 c6 c7 v0 v1 v2 v3 v4 v5 v6 v7 U9 V9
              go_wp2_with fail
              refine (HAl.out _ (HW.out _ H10.out)).mono ?_; rintro e w11 ⟨rfl, q11⟩
              have H11 := Lib.hid (H10.out.trans (q11.mono H10.out.size))
              clear q11
              go_wp2_with fail
              go_ret
              exact ⟨rfl, HW.out _ H11.out⟩
      · have hNN : (N2 != N1) = true := by unfold bne; rw [beq_eq_false_iff_ne.2 hN]; rfl
        clear hN
        refine wp_region_held_drew (S := fun w' => (w'.cell? ⟨w.heap.size, 0, none⟩ = some (.int .i64 t.kind) ∧ w'.cell? ⟨w.heap.size, 1, none⟩ = some (.int .i64 t.num) ∧ w'.cell? ⟨w.heap.size, 2, none⟩ = some (.int .i64 t.c1) ∧ w'.cell? ⟨w.heap.size, 3, none⟩ = some (.int .i64 t.r1) ∧ w'.cell? ⟨w.heap.size, 4, none⟩ = some (.int .i64 t.c2) ∧ w'.cell? ⟨w.heap.size, 5, none⟩ = some (.int .i64 t.r2) ∧ w'.cell? ⟨w.heap.size, 6, none⟩ = some (.string ⟨t.word.toArray⟩) ∧ w'.cell? ⟨w.heap.size, 7, none⟩ = some (.slice A t.kids.length ca)) ∧ (w'.cell? ⟨w3.heap.size, 0, none⟩ = some (.int .i64 U.kind) ∧ w'.cell? ⟨w3.heap.size, 1, none⟩ = some (.int .i64 U.num) ∧ w'.cell? ⟨w3.heap.size, 2, none⟩ = some (.int .i64 U.c1) ∧ w'.cell? ⟨w3.heap.size, 3, none⟩ = some (.int .i64 U.r1) ∧ w'.cell? ⟨w3.heap.size, 4, none⟩ = some (.int .i64 U.c2) ∧ w'.cell? ⟨w3.heap.size, 5, none⟩ = some (.int .i64 U.r2) ∧ w'.cell? ⟨w3.heap.size, 6, none⟩ = some (.string ⟨U.word.toArray⟩) ∧ w'.cell? ⟨w3.heap.size, 7, none⟩ = some (.slice A1 U.kids.length cu))) (by kernel_rfl) ?_ (fun hHeld => ?_)
        · try dsimp only
          (with_reducible exact HL.out _ (by repeat' (first | with_reducible exact B5 | with_reducible exact B6 | with_reducible exact B7 | with_reducible refine Below.drew ?_)))
        refine wpAnyH_take (i := 0) (oi := ⟨some 102, .load 29 (.tmp 9), 29, "law.go:59", #[], none⟩) (v := ?_) rfl (by kernel_rfl) (by kernel_rfl) (by kernel_rfl) (fun _ _ _ h => h) (Or.inl ⟨by rfl, ?_⟩) (by assumption) ?_
        rotate_left
        · (intro w hSw; (try dsimp only at hSw); go_simp)
          try with_reducible rfl
        try simp only [Act.put, List.setIfInBounds_toArray, List.set_cons_zero, List.set_cons_succ]
        refine wpAnyH_take (i := 2) (oi := ⟨some 104, .load 29 (.tmp 3), 29, "law.go:59", #[], none⟩) (v := ?_) rfl (by kernel_rfl) (by kernel_rfl) (by kernel_rfl) (fun _ _ _ h => h) (Or.inl ⟨by rfl, ?_⟩) (by assumption) ?_
        rotate_left
        · (intro w hSw; (try dsimp only at hSw); go_simp)
          try with_reducible rfl
        try simp only [Act.put, List.setIfInBounds_toArray, List.set_cons_zero, List.set_cons_succ]
        refine wpAnyH_ready (rs := [1]) (by kernel_rfl) (by simp) ?_
        refine AllReadyH.cons (o := ⟨some 103, .call { callee := .value (.func 15), args := #[.tmp 102], argTypes := #[29] }, 3, "law.go:59", #[⟨0, .data⟩], none⟩) rfl (fun K hK => ?_) AllReadyH.nil
        go_simp
        refine (HBu.out _ (HW.out _ B5.drew) A1 cu (HU.out _ B5.drew).2).mono ?_; rintro e w6 ⟨rfl, q6⟩
        have B6 : Below wk.heap.size wk w6 := B5.drew.trans (q6.mono B5.drew.size)
        go_wp2_with fail
        refine hK.out _ _ ?_ (fun hHeld => ?_)
        · try dsimp only
          (with_reducible exact HL.out _ (by repeat' (first | with_reducible exact B5 | with_reducible exact B6 | with_reducible exact B7 | with_reducible refine Below.drew ?_)))
        clear hK K
        try simp only [Act.put, List.setIfInBounds_toArray, List.set_cons_zero, List.set_cons_succ]
        refine wpAnyH_ready (rs := [3]) (by kernel_rfl) (by simp) ?_
        refine AllReadyH.cons (o := ⟨some 105, .call { callee := .value (.func 15), args := #[.tmp 104], argTypes := #[29] }, 3, "law.go:59", #[⟨2, .data⟩, ⟨1, .chain⟩], none⟩) rfl (fun K hK => ?_) AllReadyH.nil
        go_simp
        refine (HBt.out _ (HW.out _ B6)).mono ?_; rintro e w7 ⟨rfl, q7⟩
        have B7 : Below wk.heap.size wk w7 := B6.trans (q7.mono B6.size)
        go_wp2_with fail
        refine hK.out _ _ ?_ (fun hHeld => ?_)
        · try dsimp only
          (with_reducible exact HL.out _ (by repeat' (first | with_reducible exact B5 | with_reducible exact B6 | with_reducible exact B7 | with_reducible refine Below.drew ?_)))
        clear hK K
        try simp only [Act.put, List.setIfInBounds_toArray, List.set_cons_zero, List.set_cons_succ]
        refine wpAnyH_take (i := 4) (oi := ⟨some 106, .binOp .neq 3 (.tmp 103) (.tmp 105) 3, 4, "law.go:59", #[⟨1, .data⟩, ⟨3, .data⟩], none⟩) (v := ?_) rfl (by kernel_rfl) (by kernel_rfl) (by kernel_rfl) (fun _ _ _ h => h) (Or.inl ⟨by rfl, ?_⟩) (by assumption) ?_
        rotate_left
        · (intro w hSw; (try dsimp only at hSw); go_simp)
          try with_reducible rfl
        try simp only [Act.put, List.setIfInBounds_toArray, List.set_cons_zero, List.set_cons_succ]
        refine wpAnyH_take (i := 5) (oi := ⟨some 107, .move (.tmp 106), 4, "law.go:59", #[⟨4, .data⟩, ⟨3, .chain⟩], none⟩) (v := ?_) rfl (by kernel_rfl) (by kernel_rfl) (by kernel_rfl) (fun _ _ _ h => h) (Or.inl ⟨by rfl, ?_⟩) (by assumption) ?_
        rotate_left
        · (intro w hSw; (try dsimp only at hSw); go_simp)
          try with_reducible rfl
        try simp only [Act.put, List.setIfInBounds_toArray, List.set_cons_zero, List.set_cons_succ]
        refine anyH_pass (i := 6) (d := 108) rfl rfl (by kernel_rfl) (by kernel_rfl) (by kernel_rfl) (fun _ _ _ h => h) rfl (by rfl) (by assumption) ?_
        try simp only [List.setIfInBounds_toArray, List.set_cons_zero, List.set_cons_succ]
        refine anyH_pass (i := 7) (d := 109) rfl rfl (by kernel_rfl) (by kernel_rfl) (by kernel_rfl) (fun _ _ _ h => h) rfl (by rfl) (by assumption) ?_
        try simp only [List.setIfInBounds_toArray, List.set_cons_zero, List.set_cons_succ]
        refine anyH_pass (i := 8) (d := 110) rfl rfl (by kernel_rfl) (by kernel_rfl) (by kernel_rfl) (fun _ _ _ h => h) rfl (by rfl) (by assumption) ?_
        try simp only [List.setIfInBounds_toArray, List.set_cons_zero, List.set_cons_succ]
        refine wpAnyH_take (i := 9) (oi := ⟨some 111, .pick (.tmp 107) (.const (.bool true)) (.tmp 110), 4, "law.go:59", #[⟨5, .data⟩, ⟨8, .data⟩], none⟩) (v := ?_) rfl (by kernel_rfl) (by kernel_rfl) (by kernel_rfl) (fun _ _ _ h => h) (Or.inl ⟨by rfl, ?_⟩) (by assumption) ?_
        rotate_left
        · (intro w hSw; (try dsimp only at hSw); go_simp)
          try with_reducible rfl
        try simp only [Act.put, List.setIfInBounds_toArray, List.set_cons_zero, List.set_cons_succ]
        refine wpAnyH_done (by kernel_rfl) ?_ _
        go_wp2_with fail
        refine (HAl.out _ (HW.out _ B7)).mono ?_; rintro e w8 ⟨rfl, q8⟩
        have B8 : Below wk.heap.size wk w8 := B7.trans (q8.mono B7.size)
        clear B5 B6 B7 q8 hNN
        by_cases hl : L.length = 0
        · have hL0 : L = [] := List.length_eq_zero_iff.1 hl
          have hm : M.length = 0 := by rw [HNone.out hL0]; rfl
          clear hL0
          go_wp2_with fail
          go_ret
          exact ⟨rfl, HW.out _ B8⟩
        · have hp1 : (0 : Int) < (L.length : Int) := by omega
          have hp2 : decide ((0 : Int) < (L.length : Int)) = true := decide_eq_true hp1
          have hp3 : 0 < L.length := by omega
          go_wp2_with fail
          go_ret
          exact ⟨rfl, HW.out _ B8⟩
theorem shback_any (x y px py : Int) (hx : B63 x) (hy : B63 y) (_ : B63 px) (_ : B63 py) (t : Tr) (hW : Wid t) (hF : Fit t) (w : World) (A : Option Addr) (ca : Nat) (hA : KV w (fun _ => True) t A) (hSt : Strs w.heap.size w.heap.size w) :
    Calls Tryd.prog 4 #[tv t A ca, .agg #[.int .i64 x, .int .i64 y], .agg #[.int .i64 px, .int .i64 py]] w (Yes w) := by
  cases hf : fitsB t with
  | false => exact shback_no1 x y px py t hW hf w A ca hA (Nat.le_refl _) hSt
  | true =>
    cases hr : rightP t with
    | false => exact shback_no2 x y px py t hW hf hr w A ca hA (Nat.le_refl _) hSt
    | true => exact shback_yes x y px py hx hy t (GT.of hW hF hf) hf hr w A ca hA (Nat.le_refl _) hSt
end Go.Proofs.YteflmfifhmlpiaaDoor
