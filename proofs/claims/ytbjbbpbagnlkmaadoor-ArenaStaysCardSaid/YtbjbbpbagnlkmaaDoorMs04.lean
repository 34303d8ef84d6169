/- Texts joined: NfH, NfI, NfS, NfU. -/
import Derived.Test.YtbjbbpbagnlkmaaDoorMs03
import Derived.Test.YtbjbbpbagnlkmaaDoorMs02
set_option linter.all false
namespace Go.Proofs.YtbjbbpbagnlkmaaDoor
open Go.RowKit Go.Maps
theorem look_of {w : World} {K : Nat → Prop} {g : Nat} {n : Nd} (h : NdAt w K g n) (hf : FitK n) (hE : TabE w) :
    Calls Tryd.prog 42 #[.pointer (some ⟨g, 0, none⟩)] w fun e w' => e = .returned (lookV n) ∧ Below w.heap.size w w' := by
  obtain ⟨_, B, cb, C, cc, h4, hr, hn⟩ := h
  exact plook_any h4 hr hn hf hE
def lowOf (w : World) (a : Nat) : Nat := match w.cell? ⟨a, 3, none⟩ with
  | some (.int _ l) => l.toNat
  | _ => 0
theorem lowOf_eq {w : World} {a low : Nat} (h : w.cell? ⟨a, 3, none⟩ = some (.int .i64 (low : Int))) : lowOf w a = low := by unfold lowOf; rw [h]; simp
theorem lowK_next {t : Sh} {low : Nat} {n : Nd} (h : LowK t low) (hn : t[low]? = some (some n)) : LowK t (low + 1) := fun i hi => by
  by_cases e : i = low
  · rw [e, hn]; simp
  · exact h i (by omega)
theorem free_low {t : Sh} {low : Nat} (h : LowK t low) (hl : low ≤ t.length) (he : low = t.length ∨ t[low]? = some none) : freeH t = low + 1 := by
  refine freeH_least (by omega) ?_ fun k h1 hk => ?_
  · unfold live
    rw [show ((low + 1 : Nat) : Int) = (low : Int) + 1 by omega, ndAt_succ]
    rcases he with e | e
    · rw [List.getElem?_eq_none_iff.2 (by omega)]; rfl
    · rw [e]; rfl
  · obtain ⟨i, rfl⟩ : ∃ i, k = i + 1 := ⟨k - 1, by omega⟩
    unfold live
    rw [show ((i + 1 : Nat) : Int) = (i : Int) + 1 by omega, ndAt_succ]
    have := h i (by omega)
    cases e : t[i]? with
    | none => rw [List.getElem?_eq_none_iff] at e; omega
    | some o =>
      cases o with
      | none => exact absurd e this
      | some n => rfl
theorem ptr_info : (Tryd.prog.info? 74).map (fun i => (i.zero, i.size, i.bytes)) = some (some (.pointer none), 1, 8) := by kernel_rfl
theorem live_all : ∀ (s : Sh) (k : Int), (∀ i : Nat, s[i]? ≠ some none) → (liveF k s).length = s.length
  | [], _, _ => rfl
  | none :: s, k, h => absurd rfl (h 0)
  | some _ :: s, k, h => by
    rw [liveF, List.length_cons, List.length_cons, live_all s (k + 1) fun i => by have := h (i + 1); simpa using this]
theorem ar_own {α : Type} {E : TypeId} {n : Nat} {f : α → List Value} {base : Nat} {w : World} {A : Option Addr} {len cap : Nat} {L : List α} (h : OwnR E n f base w (.slice A len cap) L) {k : Nat} (hk : (Value.slice A len cap).ownBlock = some k) : ∃ o, A = some ⟨k, o, none⟩ := by
  rcases h.2 with ⟨e, hl⟩ | ⟨g, c, cur, e, h1, h2, h3⟩
  · rw [e] at hk; cases hk
  · rw [e] at hk
    cases hk
    simp at e
    exact ⟨0, e.1⟩
theorem lowK_set {t : Sh} {x : Nd} {lw : Nat} (h : LowK t lw) (hl : lw ≤ t.length) (hf : freeH t = lw + 1) : LowK (setH t (freeH t) x) (lw + 1) := fun i hi e => by
  have h1 := setH_at t x ((i : Int) + 1)
  rw [ndAt_succ, e, hf] at h1
  by_cases hil : i = lw
  · rw [if_pos (by omega)] at h1; cases h1
  · rw [if_neg (by omega), ndAt_succ] at h1
    have h2 := h i (by omega)
    cases e2 : t[i]? with
    | none => rw [List.getElem?_eq_none_iff] at e2; omega
    | some o =>
      rw [e2] at h1 h2
      cases o with
      | none => exact h2 rfl
      | some n => cases h1
section
variable {w w' : World} {K : Nat → Prop} {a room cS bK low : Nat} {ps : List (Option Nat)} {t tm : Sh} {A : Option Addr}
set_option maxHeartbeats 16000000 in
set_option maxRecDepth 10000 in
theorem play_any (h : AR w K a room ps t t A cS bK low) (hlow : LowK t low) (hft : FitT t) (x : Nd) {B C : Option Addr} {cb cc : Nat} (hr : RowI w K B x.refs) (hn : RowI w K C x.nums) (hx : FitK x) (h0 : ∀ k, ndAt t k ≠ some x) (hfree : (liveA t).length < room) {Bs : Nat} (hE : ∀ w', Below Bs w w' → TabE w') (hBs : Bs ≤ w.heap.size) (hCB : ∀ g, Chg a bK A g → Bs ≤ g) :
    Calls Tryd.prog 44 #[.pointer (some ⟨a, 0, none⟩), ndV x B cb C cc] w fun e w' => e = .returned (.int .i64 (freeH t : Int)) ∧
      ∃ ps' A' cS' low', AR w' (fun g => K g ∨ g = w.heap.size) a room ps' (setH t (freeH t) x) (setH t (freeH t) x) A' cS' bK low' ∧ LowK (setH t (freeH t) x) low' ∧ (∀ g, Chg a bK A' g → Chg a bK A g ∨ w.heap.size < g) ∧ ButS (Chg a bK A) w w' := by
  have hba : Below w.heap.size w (w.alloc (.cells #[.int .i64 x.kind, .slice B x.refs.length cb, .slice C x.nums.length cc, .string ⟨x.text.toArray⟩] 40)) := (Below.refl _ _).alloc (Nat.le_refl _) _
  have hblk := (MapKept.heap_alloc w (.cells #[.int .i64 x.kind, .slice B x.refs.length cb, .slice C x.nums.length cc, .string ⟨x.text.toArray⟩] 40)).1
  have hA0 : AR (w.alloc (.cells #[.int .i64 x.kind, .slice B x.refs.length cb, .slice C x.nums.length cc, .string ⟨x.text.toArray⟩] 40)) (fun g => K g ∨ g = w.heap.size) a room ps t t A cS bK low := by
    have h1 := h.lA
    have h2 := h.lB
    refine (h.below hba).mono (fun g hg _ => .inl hg) (fun e => ?_) (fun e => ?_) (fun g o e e' => ?_) (fun g hg => ?_)
    · rcases e with e | e; exact h.ka e; omega
    · rcases e with e | e; exact h.kb e; omega
    · rcases e' with e' | e'; exact (h.ks g o e).1 e'; have := h.lS e; omega
    · rcases hg with hg | hg
      · have := h.kl g hg; simp; omega
      · rw [hg]; simp
  have hN0 : At4 (w.alloc (.cells #[.int .i64 x.kind, .slice B x.refs.length cb, .slice C x.nums.length cc, .string ⟨x.text.toArray⟩] 40)) w.heap.size 0 x B cb C cc :=
    ⟨by rw [Lib.cell_of_heap hblk]; rfl, by rw [Lib.cell_of_heap hblk]; rfl, by rw [Lib.cell_of_heap hblk]; rfl, by rw [Lib.cell_of_heap hblk]; rfl⟩
  have hR0 := (hr.below hba).mono (Q := fun g => K g ∨ g = w.heap.size) fun g hg _ => .inl hg
  have hC0 := (hn.below hba).mono (Q := fun g => K g ∨ g = w.heap.size) fun g hg _ => .inl hg
  have hsz : (w.alloc (.cells #[.int .i64 x.kind, .slice B x.refs.length cb, .slice C x.nums.length cc, .string ⟨x.text.toArray⟩] 40)).heap.size = w.heap.size + 1 := by simp
  have HA0 := Lib.hid hA0
  have HN0 := Lib.hid hN0
  have HR0 := Lib.hid hR0
  have HC0 := Lib.hid hC0
  have HBa := Lib.hid hba
  have HSz := Lib.hid hsz
  have HTE := Lib.hid hE
  have HCB := Lib.hid hCB
  have HFt := Lib.hid hft
  have HX := Lib.hid hx
  have HX0 := Lib.hid h0
  have HLow := Lib.hid hlow
  have hwide := h.wide
  have hlen := h.len
  have HCh := Lib.hid (fun g (hg : Chg a bK A g) => h.chg hg)
  clear h hlow hr hn hba hblk hA0 hN0 hR0 hC0 hsz hE hft hx h0 hCB
  unfold ndV
  go_enter Tryd.func44, Tryd.ntmps44
  go_wp2_with fail
  generalize w.alloc (.cells #[.int .i64 x.kind, .slice B x.refs.length cb, .slice C x.nums.length cc, .string ⟨x.text.toArray⟩] 40) = W0 at *
  go_loopw [] (fun wr => ∃ lw, Hid (AR wr (fun g => K g ∨ g = w.heap.size) a room ps t t A cS bK lw) ∧ Hid (LowK t lw) ∧ Hid (ButS (fun g => g = a) W0 wr)) (fun wr => t.length - lowOf wr a)
  case atStart => exact ⟨low, HA0, HLow, Lib.hid (ButS.refl _ _)⟩
  case round =>
    obtain ⟨lw, HA, HL, HB⟩ := hrel
    have HKc : Hid (∀ g, (K g ∨ g = w.heap.size) → ¬ Chg a bK A g) := Lib.hid fun g hg hc => by
      have := HCh.out g hc
      rcases hg with e | e
      · exact this.1 e
      · omega
    have c1 := HA.out.c1
    have c3 := HA.out.c3
    have fA3 := HA.out.fA 3
    have hl1 := HA.out.low1
    have HLo : Hid (lowOf wr a = lw) := Lib.hid (lowOf_eq c3)
    by_cases hlt : lw < t.length
    · obtain ⟨g, q, rfl, hg, hq, q0, _⟩ := HA.out.slot hlt
      cases hti : t[lw]? with
      | none => rw [List.getElem?_eq_none_iff] at hti; omega
      | some o =>
        cases o with
        | some n =>
          obtain ⟨g1, hq1, _⟩ := HA.out.at1 lw n hti
          rw [hq] at hq1
          cases hq1
          change wr.cell? ⟨g, lw, none⟩ = some (.pointer (some ⟨g1, 0, none⟩)) at q0
          have HL2 := Lib.hid (lowK_next HL.out hti)
          have HA2 := Lib.hid (fun n => (HA.out.below (below_drewN (Below.refl _ _) n)).setLow (low' := lw + 1) (by omega))
          have HLt : Hid (lw < t.length) := Lib.hid hlt
          clear hq hti HL HLow
          generalize hTN : t.length = TN at *
          go_wp2_with fail
          go_quiet (fail)
          go_wp2_with fail
          go_roundw
          case rel => exact ⟨lw + 1, HA2.out _, HL2, Lib.hid ((HB.out.drewN _).setCell (.inl rfl) _)⟩
          case measure =>
            have e := lowOf_eq (HA2.out nq).c3
            rw [HLo.out, show ((lw : Int) + 1) = ((lw + 1 : Nat) : Int) by omega, e]
            have := HLt.out
            omega
        | none =>
          have hq1 := HA.out.at0 lw hti
          rw [hq] at hq1
          cases hq1
          change wr.cell? ⟨g, lw, none⟩ = some (.pointer none) at q0
          have dn : ((lw : Int) == (t.length : Int)) = false := by simp; omega
          have HFr := Lib.hid (free_low HL.out hl1 (.inr hti))
          have HLk9 := Lib.hid (lowK_set (x := x) HL.out hl1 HFr.out)
          have HA5 := Lib.hid (fun n m => HA.out.below (below_drewN (below_drewN (Below.refl _ _) n) m))
          have HE : Hid (t.set lw (some x) = setH t (freeH t) x) := Lib.hid (by unfold setH; rw [HFr.out, if_pos (by omega)]; rfl)
          have Hlt : Hid (lw < t.length) := Lib.hid hlt
          have HBx := Lib.hid (fun n m => ((HB.out.mono fun k (hg : k = a) => (.inl hg : Chg a bK (some ⟨g, 0, none⟩) k)).drewN n).drewN m)
          have HCx : Hid (∀ k, Chg a bK (some ⟨g, 0, none⟩) k → Chg a bK (some ⟨g, 0, none⟩) k ∨ w.heap.size < k) := Lib.hid fun k hk => .inl hk
          clear hq hti HLow
          generalize hTN : t.length = NN at *
          have HTN := Lib.hid hTN
          clear hTN
          go_wp2_with fail
          go_quiet (fail)
          generalize nq = n1 at *
          go_wp2_with fail
          go_quiet (fail)
          replace HA5 := Lib.hid (HA5.out n1 nq)
          replace HBx := Lib.hid (HBx.out n1 nq)
          generalize (wr.drewN n1).drewN nq = w5 at *
          clear c1 c3 q0 fA3 dn HA HB
          have Hlt' := Lib.hid (show lw < t.length by rw [HTN.out]; exact Hlt.out)
          obtain ⟨gS', q, hAS, hgS, hq, q0, fS⟩ := HA5.out.slot Hlt'.out
          cases hAS
          have hks := HA5.out.ks g 0 rfl
          have HNd : Hid (NdAt w5 (fun g => K g ∨ g = w.heap.size) w.heap.size x) := Lib.hid (NdAt.kept ⟨.inr rfl, B, cb, C, cc, HN0.out, HR0.out, HC0.out⟩ ⟨HBx.out.size, fun k hg hl => HBx.out.block k hl fun hc => HKc.out k hg hc⟩)
          have c1 := HA5.out.c1
          rw [HTN.out] at c1
          have c3 := HA5.out.c3
          have HS5 := Lib.hid (fun w' (hb : ButS (fun k => k = g) w5 w') => (show (w'.cell? ⟨a, 1, none⟩ = some (.slice (some ⟨g, 0, none⟩) NN cS) ∧ w'.cell? ⟨a, 3, none⟩ = some (.int .i64 (lw : Int))) from ⟨hb.cell (fun e => hks.2.1 e.symm) c1, hb.cell (fun e => hks.2.1 e.symm) c3⟩))
          have HNd6 := Lib.hid ((HNd.out.kept (w' := w5.setCell ⟨g, lw, none⟩ (.pointer (some ⟨w.heap.size, 0, none⟩))) ⟨by simp, fun k hg hl => Below.heap_setCell _ _ _ k fun e => hks.1 (by rw [← show k = g from e]; exact hg)⟩).kept (Kept.of_below (Below.drew (Below.refl _ _))))
          have HA6 : Hid (AR ((w5.setCell ⟨g, lw, none⟩ (.pointer (some ⟨w.heap.size, 0, none⟩))).drew) (fun g => K g ∨ g = w.heap.size) a room (ps.set lw (some w.heap.size)) (setH t (freeH t) x) t (some ⟨g, 0, none⟩) cS bK lw) := Lib.hid (by
            rw [← HE.out]
            exact (HA5.out.setSlot Hlt'.out rfl (q := some w.heap.size) (o := some x) (.inr ⟨w.heap.size, x, rfl, rfl, HNd.out⟩)).below (Below.drew (Below.refl _ _)))
          have HB6 : Hid (ButS (fun k => Chg a bK (some ⟨g, 0, none⟩) k ∨ w.heap.size < k) W0 ((w5.setCell ⟨g, lw, none⟩ (.pointer (some ⟨w.heap.size, 0, none⟩))).drew)) := Lib.hid (((HBx.out.mono fun k hg => .inl hg).setCell (p := ⟨g, lw, none⟩) (.inl (HCx.out g (.inr (.inr ⟨0, rfl⟩)))) _).drew)
          have hlw := HA5.out.low1
          rw [HTN.out] at hlw
          have hlen5 := HA5.out.len
          rw [HTN.out] at hlen5
          have hN1 : lw < NN := Hlt.out
          have HSl : Hid (lw + 1 ≤ (setH t (freeH t) x).length) := Lib.hid (by rw [← HE.out, List.length_set, HTN.out]; omega)
          have hz6 : w.heap.size < w5.heap.size := by have := HBx.out.size; have := HSz.out; omega
          clear HNd HBx hks hq HE Hlt
          go_wp2_with fail
          go_region_held3 (fun w' => w'.cell? ⟨a, 1, none⟩ = some (.slice (some ⟨g, 0, none⟩) NN cS) ∧ w'.cell? ⟨a, 3, none⟩ = some (.int .i64 (lw : Int)))
            (first | with_reducible exact HS5.out _ (by with_reducible repeat' (first | exact ButS.refl _ _ | exact Or.inl rfl | refine ButS.drew ?_ | refine ButS.setCell ?_ ?_ _)) | fail)
            (first | fail | fail)
          clear HS5 c1 c3 q0 fS HA5
          generalize (w5.setCell ⟨g, lw, none⟩ (.pointer (some ⟨w.heap.size, 0, none⟩))).drew = w6 at *
          have c3 := HA6.out.c3
          have f3 := HA6.out.fA 3
          have HA7 : Hid (AR (w6.setCell ⟨a, 3, none⟩ (.int .i64 ((lw : Int) + 1))) (fun g => K g ∨ g = w.heap.size) a room (ps.set lw (some w.heap.size)) (setH t (freeH t) x) t (some ⟨g, 0, none⟩) cS bK (lw + 1)) := Lib.hid (HA6.out.setLow (low' := lw + 1) (by have := HSl.out; omega))
          have HNd7 : Hid (NdAt (w6.setCell ⟨a, 3, none⟩ (.int .i64 ((lw : Int) + 1))) (fun g => K g ∨ g = w.heap.size) w.heap.size x) := Lib.hid (HNd6.out.kept ⟨by simp, fun k hg hl => Below.heap_setCell _ _ _ k fun e => HA6.out.ka (by rw [← show k = a from e]; exact hg)⟩)
          have HB7 : Hid (ButS (fun k => Chg a bK (some ⟨g, 0, none⟩) k ∨ w.heap.size < k) W0 (w6.setCell ⟨a, 3, none⟩ (.int .i64 ((lw : Int) + 1)))) := Lib.hid (HB6.out.setCell (.inl (.inl (.inl rfl))) _)
          have w64 : IntKind.i64.wrap ((lw : Int) + 1) = (lw : Int) + 1 := by rw [IntKind.wrap_i64]; omega
          clear HA6 HNd6 HB6
          go_wp2_with fail
          clear c3 f3
          generalize w6.setCell ⟨a, 3, none⟩ (.int .i64 ((lw : Int) + 1)) = w7 at *
          have HTE7 : Hid (∀ w', Below w7.heap.size w7 w' → TabE w') := Lib.hid fun w' hb => HTE.out w' ((HBa.out.mono hBs).trans ((HB7.out.below (n := Bs) (fun k hk hf => by
            rcases hf with hf | hf
            · have := HCB.out k hf; omega
            · omega) (by have := HSz.out; omega)).trans (hb.mono (by have := HB7.out.size; have := HSz.out; omega))))
          have HLk := Lib.hid (fun w' (hb : Below w7.heap.size w7 w') => look_of (HNd7.out.kept (Kept.of_below hb)) HX.out (HTE7.out w' hb))
          have HU := Lib.hid (fun w' (hb : Below w7.heap.size w7 w') => (HA7.out.below hb).map.put (t' := setH t (freeH t) x) HFt.out (by unfold maxLen; omega) HX.out (k := (lw : Int) + 1) (by omega) HX0.out (fun j => by rw [setH_at, HFr.out]; rfl) (by have := freeH_dead t; rw [HFr.out] at this; exact this))
          have hab : a ≠ bK := HA7.out.ab
          have c2 := HA7.out.c2
          have c3 : w7.cell? ⟨a, 3, none⟩ = some (.int .i64 ((lw : Int) + 1)) := HA7.out.c3
          have HS7 := Lib.hid (fun w' (hb : ButS (fun k => k = bK) w7 w') => (show (w'.cell? ⟨a, 2, none⟩ = some (.map (some bK)) ∧ w'.cell? ⟨a, 3, none⟩ = some (.int .i64 ((lw : Int) + 1))) from ⟨hb.cell hab c2, hb.cell hab c3⟩))
          clear c2 c3
          go_region_held3 (fun w' => w'.cell? ⟨a, 2, none⟩ = some (.map (some bK)) ∧ w'.cell? ⟨a, 3, none⟩ = some (.int .i64 ((lw : Int) + 1)))
            (first | with_reducible exact HS7.out _ (by with_reducible repeat' (first | exact ButS.refl _ _ | exact hs8 | exact hs9 | refine ButS.drew ?_)) | fail)
            (first
            | (have hG := HLk; clear HLk; go_at_call 42
               refine (hG.out _ (by with_reducible repeat' (first | exact Below.refl _ _ | refine Below.drew ?_))).mono ?_; rintro e w8 ⟨rfl, hb8'⟩
               have hb8 : Below w7.heap.size w7 w8 := by first | exact hb8' | exact (Below.drew (Below.refl w7.heap.size w7)).trans hb8'
               have hs8 : ButS (fun k => k = bK) w7 w8 := ButS.of_below hb8
               obtain ⟨w9, hrun, hm9, hg9, hz9, hf9⟩ := HU.out w8 hb8
               have hs9 : ButS (fun k => k = bK) w7 w9 := hs8.grown hg9 (fun k hk => .inl (by cases hk; rfl))
               clear hG hb8')
            | (refine step_updm (by rfl) _ _ _ 57 (by rfl) (by rfl) (by rfl) (by rfl) hrun ?_)
            | fail)
          have HA9 := Lib.hid ((HA7.out.below hb8).setMap hm9 hg9)
          have HB9 : Hid (ButS (fun k => Chg a bK (some ⟨g, 0, none⟩) k ∨ w.heap.size < k) W0 w9) := Lib.hid ((HB7.out.trans (ButS.of_below hb8)).grown hg9 (fun k hk => .inl (by cases hk; exact .inl (.inr (.inl rfl)))))
          have c3 : w9.cell? ⟨a, 3, none⟩ = some (.int .i64 ((lw : Int) + 1)) := HA9.out.c3
          clear hb8 hs8 hrun hm9 hg9 hz9 hf9 hs9
          go_wp2_with fail
          go_ret
          refine ⟨by rw [HFr.out]; rfl, _, _, _, _, HA9.out, HLk9.out, HCx.out, ?_⟩
          exact (ButS.of_below HBa.out).trans' HB9.out fun k hk hf => by
            rcases hf with hf | hf
            · exact hf
            · omega
    · have hle : lw = t.length := by omega
      have HFr := Lib.hid (free_low HL.out hl1 (.inl hle))
      have HLk9 := Lib.hid (lowK_set (x := x) HL.out hl1 HFr.out)
      have hall : (liveA t).length = t.length := live_all t 1 fun i hi => by
        by_cases e : i < lw
        · exact HL.out i e hi
        · have := (List.getElem?_eq_some_iff.1 hi).1; omega
      have hroom : t.length + 1 ≤ room := by omega
      have dn : ((lw : Int) == (t.length : Int)) = true := by simp; omega
      have dl : decide ((lw : Int) < (t.length : Int)) = false := decide_eq_false (by omega)
      have HE : Hid ((t ++ [none]).set lw (some x) = setH t (freeH t) x) := Lib.hid (by unfold setH; rw [HFr.out, if_neg (by omega), hle]; simp)
      have HA4 := Lib.hid (fun n m => (HA.out.below (below_drewN (below_drewN (Below.refl _ _) n) m)))
      have HB4 := Lib.hid (fun n m => ((HB.out.mono fun k (hg : k = a) => (.inl hg : Chg a bK A k)).drewN n).drewN m)
      have hpl := HA.out.psl
      obtain ⟨i0, hi0, hz0, hz1, hz2⟩ := info_parts ptr_info
      generalize hTN : t.length = TN at *
      have HTN0 := Lib.hid hTN
      have HTN : Hid ((t ++ [none]).length = TN + 1) := Lib.hid (by rw [List.length_append, hTN]; rfl)
      have Hlt : Hid (lw < TN + 1) := Lib.hid (by omega)
      have HLe := Lib.hid hle
      clear hTN HLow hall hle
      go_wp2_with fail
      go_quiet (fail)
      generalize nq = n1 at *
      go_wp2_with fail
      go_quiet (fail)
      replace HA4 := Lib.hid (HA4.out n1 nq)
      replace HB4 := Lib.hid (HB4.out n1 nq)
      clear c1 c3 fA3 HA HB
      generalize (wr.drewN n1).drewN nq = w4 at *
      have c1 := HA4.out.c1
      rw [HTN0.out] at c1
      have HAl := Lib.hid (HA4.out.below ((Below.refl _ _).alloc (Nat.le_refl _) (.cells #[.pointer none] 74)))
      have HBl := Lib.hid (HB4.out.alloc (.cells #[.pointer none] 74))
      go_wp2_with (at_builtin; refine of_stop ?_)
      refine stop_of ?_
      refine wpList_append_rows (f := pW) (n := 1) (E := 74) (nb := 8) (base := 0) rfl _ _ rfl rfl (show OwnR 74 1 pW 0 _ (.slice A TN cS) ps by have := HAl.out.row; rw [HTN0.out] at this; exact this) (L2 := [none]) rfl (one_row w4 none) (by simp) (N := TN + 1) (by rw [hpl]; rfl) (Z := ps ++ [none]) rfl Tryd.underlying58 hi0 hz0 hz1 hz2 rfl (by decide) (by decide) pW_len pW_one (by omega) (Nat.zero_le _) ?_
      intro g2 k2 w2 ho2 hg2 hat2 hl2
      have hAo : ∀ k, (Value.slice A TN cS).ownBlock = some k → Chg a bK A k := fun k hk => .inr (.inr (ar_own HAl.out.row (by rw [HTN0.out]; exact hk)))
      have HA5 : Hid (AR (w2.setCell ⟨a, 1, none⟩ (.slice (some ⟨g2, 0, none⟩) (TN + 1) k2)) (fun g => K g ∨ g = w.heap.size) a room (ps ++ [none]) (t ++ [none]) t (some ⟨g2, 0, none⟩) k2 bK lw) := Lib.hid (by
        have := HAl.out.grow (g := g2) (cap := k2) (by rw [HTN0.out]; exact ho2) (by rw [HTN0.out]; exact hg2) (by rw [HTN0.out]; rcases hat2 with e | e; exact .inl e; exact .inr (.inl e)) (by rw [HTN0.out]; exact hroom)
        rwa [HTN0.out] at this)
      have HB2 := Lib.hid (HBl.out.grown hg2 fun k hk => .inl (hAo k hk))
      have HBx : Hid (ButS (Chg a bK A) W0 (w2.setCell ⟨a, 1, none⟩ (.slice (some ⟨g2, 0, none⟩) (TN + 1) k2))) := Lib.hid (HB2.out.setCell (.inl (.inl rfl)) _)
      have HCx : Hid (∀ k, Chg a bK (some ⟨g2, 0, none⟩) k → Chg a bK A k ∨ w.heap.size < k) := Lib.hid fun k hk => by
        rcases hk with e | e | ⟨o, e⟩
        · exact .inl (.inl e)
        · exact .inl (.inr (.inl e))
        · cases e
          rcases hat2 with e | e
          · exact .inl (hAo _ e)
          · have := HSz.out; have := HB4.out.size; simp at e; exact .inr (by omega)
      have hga : w2.heap[a]? = (w4.alloc (.cells #[.pointer none] 74)).heap[a]? := hg2.block a HAl.out.lA fun e => by
        obtain ⟨o, e'⟩ := ar_own HAl.out.row (show (Value.slice A t.length cS).ownBlock = some a by rw [HTN0.out]; exact e.symm)
        exact (HAl.out.ks a o e').2.1 rfl
      have y1 : w2.cell? ⟨a, 1, none⟩ = some (.slice A TN cS) := by rw [World.cell?_of_block (w := w4.alloc (.cells #[.pointer none] 74)) hga]; have := HAl.out.c1; rwa [HTN0.out] at this
      have z1 : w2.frozen? ⟨a, 1, none⟩ = false := by rw [World.frozen?_of_block (w := w4.alloc (.cells #[.pointer none] 74)) hga]; exact HAl.out.fA 1
      clear ho2 hg2 hat2 hl2 hAo hga HB2 HAl HBl HA4 HB4 c1
      go_wp2_with fail
      generalize w2.setCell ⟨a, 1, none⟩ (.slice (some ⟨g2, 0, none⟩) (TN + 1) k2) = w5 at *
      clear y1 z1
      have hNN := HTN.out
      generalize TN + 1 = NN at *
      clear hNN dn dl hpl hroom hlt
      have Hlt' := Lib.hid (show lw < (t ++ [none]).length by rw [HTN.out]; exact Hlt.out)
      obtain ⟨gS', q, hAS, hgS, hq, q0, fS⟩ := HA5.out.slot Hlt'.out
      cases hAS
      have hks := HA5.out.ks g2 0 rfl
      have HNd : Hid (NdAt w5 (fun g => K g ∨ g = w.heap.size) w.heap.size x) := Lib.hid (NdAt.kept ⟨.inr rfl, B, cb, C, cc, HN0.out, HR0.out, HC0.out⟩ ⟨HBx.out.size, fun k hg hl => HBx.out.block k hl fun hc => HKc.out k hg hc⟩)
      have c1 := HA5.out.c1
      rw [HTN.out] at c1
      have c3 := HA5.out.c3
      have HS5 := Lib.hid (fun w' (hb : ButS (fun k => k = g2) w5 w') => (show (w'.cell? ⟨a, 1, none⟩ = some (.slice (some ⟨g2, 0, none⟩) NN k2) ∧ w'.cell? ⟨a, 3, none⟩ = some (.int .i64 (lw : Int))) from ⟨hb.cell (fun e => hks.2.1 e.symm) c1, hb.cell (fun e => hks.2.1 e.symm) c3⟩))
      have HNd6 := Lib.hid ((HNd.out.kept (w' := w5.setCell ⟨g2, lw, none⟩ (.pointer (some ⟨w.heap.size, 0, none⟩))) ⟨by simp, fun k hg hl => Below.heap_setCell _ _ _ k fun e => hks.1 (by rw [← show k = g2 from e]; exact hg)⟩).kept (Kept.of_below (Below.drew (Below.refl _ _))))
      have HA6 : Hid (AR ((w5.setCell ⟨g2, lw, none⟩ (.pointer (some ⟨w.heap.size, 0, none⟩))).drew) (fun g => K g ∨ g = w.heap.size) a room ((ps ++ [none]).set lw (some w.heap.size)) (setH t (freeH t) x) t (some ⟨g2, 0, none⟩) k2 bK lw) := Lib.hid (by
        rw [← HE.out]
        exact (HA5.out.setSlot Hlt'.out rfl (q := some w.heap.size) (o := some x) (.inr ⟨w.heap.size, x, rfl, rfl, HNd.out⟩)).below (Below.drew (Below.refl _ _)))
      have HB6 : Hid (ButS (fun k => Chg a bK A k ∨ w.heap.size < k) W0 ((w5.setCell ⟨g2, lw, none⟩ (.pointer (some ⟨w.heap.size, 0, none⟩))).drew)) := Lib.hid (((HBx.out.mono fun k hg => .inl hg).setCell (p := ⟨g2, lw, none⟩) (.inl (HCx.out g2 (.inr (.inr ⟨0, rfl⟩)))) _).drew)
      have hlw := HA5.out.low1
      rw [HTN.out] at hlw
      have hlen5 := HA5.out.len
      rw [HTN.out] at hlen5
      have hN1 : lw < NN := Hlt.out
      have HSl : Hid (lw + 1 ≤ (setH t (freeH t) x).length) := Lib.hid (by rw [← HE.out, List.length_set, HTN.out]; omega)
      have hz6 : w.heap.size < w5.heap.size := by have := HBx.out.size; have := HSz.out; omega
      clear HNd HBx hks hq HE Hlt
      go_wp2_with fail
      go_region_held3 (fun w' => w'.cell? ⟨a, 1, none⟩ = some (.slice (some ⟨g2, 0, none⟩) NN k2) ∧ w'.cell? ⟨a, 3, none⟩ = some (.int .i64 (lw : Int)))
        (first | with_reducible exact HS5.out _ (by with_reducible repeat' (first | exact ButS.refl _ _ | exact Or.inl rfl | refine ButS.drew ?_ | refine ButS.setCell ?_ ?_ _)) | fail)
        (first | fail | fail)
      clear HS5 c1 c3 q0 fS HA5
      generalize (w5.setCell ⟨g2, lw, none⟩ (.pointer (some ⟨w.heap.size, 0, none⟩))).drew = w6 at *
      have c3 := HA6.out.c3
      have f3 := HA6.out.fA 3
      have HA7 : Hid (AR (w6.setCell ⟨a, 3, none⟩ (.int .i64 ((lw : Int) + 1))) (fun g => K g ∨ g = w.heap.size) a room ((ps ++ [none]).set lw (some w.heap.size)) (setH t (freeH t) x) t (some ⟨g2, 0, none⟩) k2 bK (lw + 1)) := Lib.hid (HA6.out.setLow (low' := lw + 1) (by have := HSl.out; omega))
      have HNd7 : Hid (NdAt (w6.setCell ⟨a, 3, none⟩ (.int .i64 ((lw : Int) + 1))) (fun g => K g ∨ g = w.heap.size) w.heap.size x) := Lib.hid (HNd6.out.kept ⟨by simp, fun k hg hl => Below.heap_setCell _ _ _ k fun e => HA6.out.ka (by rw [← show k = a from e]; exact hg)⟩)
      have HB7 : Hid (ButS (fun k => Chg a bK A k ∨ w.heap.size < k) W0 (w6.setCell ⟨a, 3, none⟩ (.int .i64 ((lw : Int) + 1)))) := Lib.hid (HB6.out.setCell (.inl (.inl (.inl rfl))) _)
      have w64 : IntKind.i64.wrap ((lw : Int) + 1) = (lw : Int) + 1 := by rw [IntKind.wrap_i64]; omega
      clear HA6 HNd6 HB6
      go_wp2_with fail
      clear c3 f3
      generalize w6.setCell ⟨a, 3, none⟩ (.int .i64 ((lw : Int) + 1)) = w7 at *
      have HTE7 : Hid (∀ w', Below w7.heap.size w7 w' → TabE w') := Lib.hid fun w' hb => HTE.out w' ((HBa.out.mono hBs).trans ((HB7.out.below (n := Bs) (fun k hk hf => by
        rcases hf with hf | hf
        · have := HCB.out k hf; omega
        · omega) (by have := HSz.out; omega)).trans (hb.mono (by have := HB7.out.size; have := HSz.out; omega))))
      have HLk := Lib.hid (fun w' (hb : Below w7.heap.size w7 w') => look_of (HNd7.out.kept (Kept.of_below hb)) HX.out (HTE7.out w' hb))
      have HU := Lib.hid (fun w' (hb : Below w7.heap.size w7 w') => (HA7.out.below hb).map.put (t' := setH t (freeH t) x) HFt.out (by unfold maxLen; omega) HX.out (k := (lw : Int) + 1) (by omega) HX0.out (fun j => by rw [setH_at, HFr.out]; rfl) (by have := freeH_dead t; rw [HFr.out] at this; exact this))
      have hab : a ≠ bK := HA7.out.ab
      have c2 := HA7.out.c2
      have c3 : w7.cell? ⟨a, 3, none⟩ = some (.int .i64 ((lw : Int) + 1)) := HA7.out.c3
      have HS7 := Lib.hid (fun w' (hb : ButS (fun k => k = bK) w7 w') => (show (w'.cell? ⟨a, 2, none⟩ = some (.map (some bK)) ∧ w'.cell? ⟨a, 3, none⟩ = some (.int .i64 ((lw : Int) + 1))) from ⟨hb.cell hab c2, hb.cell hab c3⟩))
      clear c2 c3
      go_region_held3 (fun w' => w'.cell? ⟨a, 2, none⟩ = some (.map (some bK)) ∧ w'.cell? ⟨a, 3, none⟩ = some (.int .i64 ((lw : Int) + 1)))
        (first | with_reducible exact HS7.out _ (by with_reducible repeat' (first | exact ButS.refl _ _ | exact hs8 | exact hs9 | refine ButS.drew ?_)) | fail)
        (first
        | (have hG := HLk; clear HLk; go_at_call 42
           refine (hG.out _ (by with_reducible repeat' (first | exact Below.refl _ _ | refine Below.drew ?_))).mono ?_; rintro e w8 ⟨rfl, hb8'⟩
           have hb8 : Below w7.heap.size w7 w8 := by first | exact hb8' | exact (Below.drew (Below.refl w7.heap.size w7)).trans hb8'
           have hs8 : ButS (fun k => k = bK) w7 w8 := ButS.of_below hb8
           obtain ⟨w9, hrun, hm9, hg9, hz9, hf9⟩ := HU.out w8 hb8
           have hs9 : ButS (fun k => k = bK) w7 w9 := hs8.grown hg9 (fun k hk => .inl (by cases hk; rfl))
           clear hG hb8')
        | (refine step_updm (by rfl) _ _ _ 57 (by rfl) (by rfl) (by rfl) (by rfl) hrun ?_)
        | fail)
      have HA9 := Lib.hid ((HA7.out.below hb8).setMap hm9 hg9)
      have HB9 : Hid (ButS (fun k => Chg a bK A k ∨ w.heap.size < k) W0 w9) := Lib.hid ((HB7.out.trans (ButS.of_below hb8)).grown hg9 (fun k hk => .inl (by cases hk; exact .inl (.inr (.inl rfl)))))
      have c3 : w9.cell? ⟨a, 3, none⟩ = some (.int .i64 ((lw : Int) + 1)) := HA9.out.c3
      clear hb8 hs8 hrun hm9 hg9 hz9 hf9 hs9
      go_wp2_with fail
      go_ret
      refine ⟨by rw [HFr.out]; rfl, _, _, _, _, HA9.out, HLk9.out, HCx.out, ?_⟩
      exact (ButS.of_below HBa.out).trans' HB9.out fun k hk hf => by
        rcases hf with hf | hf
        · exact hf
        · omega
end
end Go.Proofs.YtbjbbpbagnlkmaaDoor
namespace Go.Proofs.YtbjbbpbagnlkmaaDoor
open Go.RowKit Go.Maps
def clr (t : Sh) (i : Nat) : Sh := t.set i none
theorem clr_at (t : Sh) (i : Nat) (j : Int) : ndAt (clr t i) j = if j = (i : Int) + 1 then none else ndAt t j := by
  unfold clr
  by_cases h0 : 0 < j
  · obtain ⟨k, rfl⟩ : ∃ k : Nat, j = (k : Int) + 1 := ⟨(j - 1).toNat, by omega⟩
    rw [ndAt_succ, ndAt_succ, List.getElem?_set]
    by_cases e : i = k
    · subst e
      rw [if_pos rfl, if_pos rfl]
      split <;> rfl
    · rw [if_neg e, if_neg (by omega)]
  · unfold ndAt
    rw [if_neg h0, if_neg h0, if_neg (by omega)]
theorem fit_clr {t : Sh} (h : FitT t) (i : Nat) : FitT (clr t i) := fun j n hn => by
  rw [clr_at] at hn
  split at hn
  · cases hn
  · exact h j n hn
theorem lowK_clr {t : Sh} {low : Nat} (h : LowK t low) (i : Nat) : LowK (clr t i) (min low i) := fun j hj => by
  unfold clr
  rw [List.getElem?_set_ne (by omega)]
  exact h j (by omega)
section
variable {w w' : World} {K : Nat → Prop} {a room cS bK low : Nat} {ps : List (Option Nat)} {t tm : Sh} {A : Option Addr}
set_option maxHeartbeats 16000000 in
set_option maxRecDepth 10000 in
theorem pdrop_any (h : AR w K a room ps t t A cS bK low) (hlow : LowK t low) (hft : FitT t) (h1 : ∀ h k n, ndAt t h = some n → ndAt t k = some n → h = k) {i : Nat} {x : Nd} (hx : t[i]? = some (some x)) {r : Int} (hr : r = (i : Int) + 1) {Bs : Nat} (hE : ∀ w', Below Bs w w' → TabE w') (hBs : Bs ≤ w.heap.size) :
    Calls Tryd.prog 34 #[.pointer (some ⟨a, 0, none⟩), .int .i64 r] w fun e w' => e = .returned (.tuple #[]) ∧
      AR w' K a room (ps.set i none) (clr t i) (clr t i) A cS bK (min low i) ∧ LowK (clr t i) (min low i) ∧ ButS (Chg a bK A) w w' := by
  have hi : i < t.length := (List.getElem?_eq_some_iff.1 hx).1
  have hat : ndAt t r = some x := by rw [hr, ndAt_succ, hx]; rfl
  have hlr := h.len
  have hwd := h.wide
  have e1 : r - 1 = (i : Int) := by omega
  have hwi : IntKind.i64.wrap (i : Int) = (i : Int) := by rw [IntKind.wrap_i64]; omega
  have hr64 : -9223372036854775808 ≤ r ∧ r ≤ 9223372036854775807 := by omega
  obtain ⟨gS, q, hAS, hgS, hq, q0, fS⟩ := h.slot hi
  obtain ⟨g, hq1, hnd⟩ := h.at1 i x hx
  rw [hq] at hq1
  cases hq1
  change w.cell? ⟨gS, i, none⟩ = some (.pointer (some ⟨g, 0, none⟩)) at q0
  have hks := h.ks gS 0 hAS
  have hab := h.ab
  have c1 := h.c1
  have c2 := h.c2
  rw [hAS] at c1
  have hxk : FitK x := hft r x hat
  have HLk := Lib.hid (fun w' (hb : Below w.heap.size w w') => look_of (hnd.kept (Kept.of_below hb)) hxk (hE w' (hb.mono hBs)))
  have HU := Lib.hid (fun w' (hb : Below w.heap.size w w') => (h.below hb).map.del (t' := clr t i) hft h1 hat (fun j => by rw [clr_at, hr]) 0)
  have HS := Lib.hid (fun w' (hb : ButS (fun k => k = bK) w w') => (show (w'.cell? ⟨a, 1, none⟩ = some (.slice (some ⟨gS, 0, none⟩) t.length cS) ∧ w'.cell? ⟨a, 2, none⟩ = some (.map (some bK)) ∧ w'.cell? ⟨gS, i, none⟩ = some (.pointer (some ⟨g, 0, none⟩))) from ⟨hb.cell hab c1, hb.cell hab c2, hb.cell hks.2.2 q0⟩))
  have HA := Lib.hid h
  have HLo := Lib.hid (lowK_clr hlow i)
  have HAS := Lib.hid hAS
  generalize hTN : t.length = TN at *
  have HTN := Lib.hid hTN
  have HR := Lib.hid hr
  clear h hlow hft h1 hx hr hE hat hnd hq hxk c1 c2 q0 fS hAS hTN
  go_enter Tryd.func34, Tryd.ntmps34
  go_upto_region 0 with fail
  go_region_held3 (fun w' => w'.cell? ⟨a, 1, none⟩ = some (.slice (some ⟨gS, 0, none⟩) TN cS) ∧ w'.cell? ⟨a, 2, none⟩ = some (.map (some bK)) ∧ w'.cell? ⟨gS, i, none⟩ = some (.pointer (some ⟨g, 0, none⟩)))
    (first | with_reducible exact HS.out _ (by with_reducible repeat' (first | exact ButS.refl _ _ | exact hs8 | exact hs9 | refine ButS.drew ?_)) | fail)
    (first
    | (have hG := HLk; clear HLk; go_at_call 42
       refine (hG.out _ (by with_reducible repeat' (first | exact Below.refl _ _ | refine Below.drew ?_))).mono ?_; rintro e w8 ⟨rfl, hb8'⟩
       have hb8 : Below w.heap.size w w8 := by first | exact hb8' | exact (Below.drew (Below.refl w.heap.size w)).trans hb8'
       have hs8 : ButS (fun k => k = bK) w w8 := ButS.of_below hb8
       obtain ⟨w9, hrun, hm9, hg9, hz9, hf9⟩ := HU.out w8 hb8
       have hs9 : ButS (fun k => k = bK) w w9 := hs8.grown hg9 (fun k hk => .inl (by cases hk; rfl))
       clear hG hb8')
    | (refine step_delm (by rfl) _ _ 57 72 (by rfl) (by rfl) (by rfl) hrun ?_)
    | fail)
  have HA9 := Lib.hid ((HA.out.below hb8).setMap hm9 hg9)
  have HB9 := Lib.hid (hs9.mono (Q := Chg a bK A) fun k hk => .inr (.inl hk))
  clear hb8 hs8 hrun hm9 hg9 hz9 hf9 hs9 HS HU HA
  obtain ⟨gS', q, hAS', _, hq, q0, fS⟩ := HA9.out.slot (i := i) (by rw [HTN.out]; omega)
  rw [HAS.out] at hAS'
  cases hAS'
  have c1 := HA9.out.c1
  rw [HTN.out, HAS.out] at c1
  have HA10 : Hid (AR (w9.setCell ⟨gS, i, none⟩ (.pointer none)) K a room (ps.set i none) (clr t i) (clr t i) A cS bK low) := Lib.hid (HA9.out.setSlot (by rw [HTN.out]; omega) HAS.out (q := none) (o := none) (.inl ⟨rfl, rfl⟩))
  have HB10 : Hid (ButS (Chg a bK A) w (w9.setCell ⟨gS, i, none⟩ (.pointer none))) := Lib.hid (HB9.out.setCell (.inl (.inr (.inr ⟨0, HAS.out⟩))) _)
  have c3 := HA10.out.c3
  have f3 := HA10.out.fA 3
  have c3' : w9.cell? ⟨a, 3, none⟩ = some (.int .i64 (low : Int)) := HA9.out.c3
  have f3' := HA9.out.fA 3
  have hnga : gS ≠ a := hks.2.1
  have hmin : min (low : Int) (i : Int) = ((min low i : Nat) : Int) := by omega
  have HMin := Lib.hid hmin
  have HA11 : Hid (AR ((w9.setCell ⟨gS, i, none⟩ (.pointer none)).setCell ⟨a, 3, none⟩ (.int .i64 (min (low : Int) (i : Int)))) K a room (ps.set i none) (clr t i) (clr t i) A cS bK (min low i)) := Lib.hid (by rw [hmin]; exact HA10.out.setLow (low' := min low i) (by have := HA10.out.low1; omega))
  have HB11 := Lib.hid (HB10.out.setCell (p := ⟨a, 3, none⟩) (.inl (.inl rfl)) (.int .i64 (min (low : Int) (i : Int))))
  clear hmin
  clear HA9 HA10 hq
  go_wp2_with fail
  go_end0
  exact ⟨rfl, HA11.out, HLo.out, HB11.out⟩
end
end Go.Proofs.YtbjbbpbagnlkmaaDoor
namespace Go.Proofs.YtbjbbpbagnlkmaaDoor
open Go.RowKit Go.Maps
theorem nodup_len : ∀ {S T : List Int}, S.Nodup → (∀ x ∈ S, x ∈ T) → S.length ≤ T.length
  | [], T, _, _ => Nat.zero_le _
  | a :: S, T, h, hs => by
    obtain ⟨h1, h2⟩ := List.nodup_cons.1 h
    have ha := hs a List.mem_cons_self
    have := nodup_len (S := S) (T := T.erase a) h2 fun x hx => (List.mem_erase_of_ne (fun (e : x = a) => h1 (by rw [← e]; exact hx))).2 (hs x (List.mem_cons_of_mem _ hx))
    rw [List.length_erase_of_mem ha] at this
    have hp := List.length_pos_of_mem ha
    rw [List.length_cons]
    omega
theorem boolZero9 (w : World) : (zeroValue 4).run Tryd.prog w = .ok (.bool false) w := by kernel_rfl
theorem int9Keyed : Keyed Tryd.prog 3 := int_keyed Tryd.underlying3
def MapS (w : World) (m : Nat) (S : List Int) : Prop := ∃ D : DataW Unit, w.ownsMap Tryd.prog 3 (plainElem Tryd.prog 4) m (Maps.size D) D ∧ S.Nodup ∧ (∀ x, x ∈ S ↔ has D (.int .i64 x) = true) ∧ ∀ x ∈ S, D.atKey (.int .i64 x) (.lit (.bool false)) = .lit (.bool true)
theorem MapS.block {w w' : World} {m : Nat} {S : List Int} (h : MapS w m S) (hb : w'.heap[m]? = w.heap[m]?) : MapS w' m S := by
  obtain ⟨D, h1, h2⟩ := h
  exact ⟨D, own_block h1 hb, h2⟩
theorem MapS.lt {w : World} {m : Nat} {S : List Int} (h : MapS w m S) : m < w.heap.size := by
  obtain ⟨D, h1, h2⟩ := h
  exact h1.lt
theorem MapS.nd {w : World} {m : Nat} {S : List Int} (h : MapS w m S) : S.Nodup := by
  obtain ⟨D, h1, h2, _⟩ := h
  exact h2
theorem MapS.made (w : World) : MapS (w.alloc (.map #[] 0)) w.heap.size [] :=
  ⟨.map [], World.ownsMap_made w Tryd.prog 3 _, List.nodup_nil, fun x => ⟨fun h => (List.not_mem_nil h).elim, fun h => by cases h⟩, fun x h => (List.not_mem_nil h).elim⟩
def mapSz (w : World) (m : Nat) : Nat := match w.heap[m]? with
  | some (.map es _) => es.size
  | _ => 0
theorem keys_wf {D : DataW Unit} {w : World} {m n : Nat} (h : w.ownsMap Tryd.prog 3 (plainElem Tryd.prog 4) m n D) {S : List Int} (hn : S.Nodup) (hm : ∀ x, x ∈ S ↔ has D (.int .i64 x) = true) : S.Perm (intKeys D) := by
  obtain ⟨es, hD, hpw, _⟩ := h.entries int9Keyed
  obtain ⟨es', hD', hko⟩ := h.keysOf
  obtain rfl : es = es' := by rw [hD] at hD'; simpa using hD'
  subst hD
  exact perm_intKeys hpw (fun p hp => by obtain ⟨v, hv⟩ := hko p hp; obtain ⟨x, _, hx, _⟩ := Maps.keyOf_i64 Tryd.underlying3 hv; exact ⟨x, hx⟩) hn hm
theorem MapS.size {w : World} {m : Nat} {S : List Int} (h : MapS w m S) : mapSz w m = S.length := by
  obtain ⟨D, h1, h2, h3, _⟩ := h
  have hp := (keys_wf h1 h2 h3).length_eq
  obtain ⟨es, clock, hb, F, hs, hD⟩ := h1
  have e : mapSz w m = es.size := by unfold mapSz; rw [hb]
  rw [e, hp, hD]
  show _ = (List.map _ _).length
  rw [List.length_map, length_sorted]; simp
set_option maxRecDepth 100000 in
theorem MapS.look {w : World} {m : Nat} {S : List Int} (h : MapS w m S) {x : Int} (hx : -9223372036854775808 ≤ x ∧ x ≤ 9223372036854775807) :
    (Instr.lookup 79 (.map (some m)) (.int .i64 x) false).run Tryd.prog w = .ok (.bool (decide (x ∈ S))) w := by
  obtain ⟨D, h1, h2, h3, h4⟩ := h
  obtain ⟨v, ps, hrun, hv⟩ := h1.lookup int9Keyed Tryd.underlying79 (boolZero9 w) (zd := .lit (.bool false)) (zp := []) (plainElem_bool Tryd.underlying4 false) (keyOf_int_mk Tryd.underlying3 (wf64' hx))
  rw [hrun]
  have hb : ∀ c : Bool, plainElem (H := Unit) Tryd.prog 4 v = some (.lit (.bool c), ps) → v = .bool c := fun c hc => by
    unfold plainElem at hc
    rw [Tryd.underlying4] at hc
    cases v <;> simp at hc
    rw [hc.1]
  by_cases e : x ∈ S
  · rw [h4 x e] at hv
    rw [hb true hv, decide_eq_true e]
  · have hn : has D (.int .i64 x) = false := by
      cases e' : has D (.int .i64 x) with
      | false => rfl
      | true => exact absurd ((h3 x).2 e') e
    rw [atKey_of_not_has hn] at hv
    rw [hb false hv, decide_eq_false e]
theorem MapS.put {w : World} {m : Nat} {S : List Int} (h : MapS w m S) (hS : S.length < maxLen) {x : Int} (hx : -9223372036854775808 ≤ x ∧ x ≤ 9223372036854775807) (hn : x ∉ S) :
    ∃ w', (Instr.mapUpdate 79 (.map (some m)) (.int .i64 x) (.bool true)).run Tryd.prog w = .ok () w' ∧ MapS w' m (S ++ [x]) ∧ w.grownBy w' (some m) := by
  obtain ⟨D, h1, h2, h3, h4⟩ := h
  have hsz : Maps.size D = S.length := by
    have hp := (keys_wf h1 h2 h3).length_eq
    obtain ⟨es, hD, _⟩ := h1.entries int9Keyed
    rw [hp, hD]
    show es.length = (es.map _).length
    rw [List.length_map]
  have hkey := keyOf_int_mk (P := Tryd.prog) Tryd.underlying3 (wf64' hx)
  obtain ⟨w', hrun, r1, r2⟩ := h1.store int9Keyed Tryd.underlying79 (by omega) hkey (plainElem_bool Tryd.underlying4 true)
  have hk := int9Keyed.key hkey
  refine ⟨w', hrun, ⟨_, own_tight r1, ?_, fun y => ?_, fun y hy => ?_⟩, r2.grown⟩
  · exact List.nodup_append.2 ⟨h2, by simp, fun a ha b hb => by rintro rfl; exact hn (List.mem_singleton.1 hb ▸ ha)⟩
  · by_cases e : y = x
    · subst e
      rw [has_put_same h1.isMap hk]; simp
    · have hne : Lit.int .i64 y ≠ Lit.int .i64 x := fun e' => e (by simpa using e')
      rw [has_put_other hne, ← h3 y]; simp [e]
  · by_cases e : y = x
    · subst e
      exact atKey_put_same h1.isMap hk _ _
    · have hne : Lit.int .i64 y ≠ Lit.int .i64 x := fun e' => e (by simpa using e')
      rw [atKey_put_other hne]
      exact h4 y (by simpa [e] using hy)
structure Rea (t : Sh) (roots : List Int) (S L : List Int) : Prop where
  sS : ∀ x ∈ S, Rch t roots x
  sL : ∀ x ∈ L, live t x = true → Rch t roots x
  cR : ∀ x ∈ roots, live t x = true → x ∈ S ∨ x ∈ L
  cS : ∀ x ∈ S, ∀ n, ndAt t x = some n → ∀ r ∈ n.refs, live t r = true → r ∈ S ∨ r ∈ L
theorem Rea.start (t : Sh) (roots : List Int) : Rea t roots [] roots :=
  ⟨fun x h => (List.not_mem_nil h).elim, fun x h hl => .root x h hl, fun x h _ => .inr h, fun x h => (List.not_mem_nil h).elim⟩
theorem Rea.done {room : Nat} {t : Sh} {roots S : List Int} (h : Rea t roots S []) (hi : Inv room t) (x : Int) : x ∈ S ↔ Rch t roots x := by
  refine ⟨h.sS x, fun hr => ?_⟩
  induction hr with
  | root r hm hl => exact (h.cR r hm hl).resolve_right List.not_mem_nil
  | ref y r n _ hn hm hp ih =>
    rcases hi.shut y n hn r hm with e | e
    · omega
    · exact (h.cS y ih n hn r hm e).resolve_right List.not_mem_nil
theorem Rea.skip {t : Sh} {roots S L : List Int} {x : Int} (h : Rea t roots S (L ++ [x])) (hx : live t x = false ∨ x ∈ S) : Rea t roots S L := by
  have key : ∀ y, live t y = true → y ∈ S ∨ y ∈ L ++ [x] → y ∈ S ∨ y ∈ L := fun y hl hy => by
    rcases hy with hy | hy
    · exact .inl hy
    · rcases List.mem_append.1 hy with hy | hy
      · exact .inr hy
      · rw [List.mem_singleton.1 hy] at hl ⊢
        rcases hx with e | e
        · rw [e] at hl; cases hl
        · exact .inl e
  exact ⟨h.sS, fun y hy hl => h.sL y (List.mem_append_left _ hy) hl, fun y hy hl => key y hl (h.cR y hy hl), fun y hy n hn r hr hl => key r hl (h.cS y hy n hn r hr hl)⟩
theorem Rea.next {t : Sh} {roots S L : List Int} {x : Int} {n : Nd} (h : Rea t roots S (L ++ [x])) (hn : ndAt t x = some n) : Rea t roots (S ++ [x]) (L ++ n.refs) := by
  have hx := h.sL x (by simp) (live_iff.2 ⟨n, hn⟩)
  have key : ∀ y, y ∈ S ∨ y ∈ L ++ [x] → y ∈ S ++ [x] ∨ y ∈ L ++ n.refs := fun y hy => by
    rcases hy with hy | hy
    · exact .inl (List.mem_append_left _ hy)
    · rcases List.mem_append.1 hy with hy | hy
      · exact .inr (List.mem_append_left _ hy)
      · exact .inl (List.mem_append_right _ hy)
  refine ⟨fun y hy => ?_, fun y hy hl => ?_, fun y hy hl => key y (h.cR y hy hl), fun y hy m hm r hr hl => ?_⟩
  · rcases List.mem_append.1 hy with hy | hy
    · exact h.sS y hy
    · rw [List.mem_singleton.1 hy]; exact hx
  · rcases List.mem_append.1 hy with hy | hy
    · exact h.sL y (List.mem_append_left _ hy) hl
    · exact .ref x y n hx hn hy (by have := (live_bound hl).1; omega)
  · rcases List.mem_append.1 hy with hy | hy
    · exact key r (h.cS y hy m hm r hr hl)
    · rw [List.mem_singleton.1 hy, hn] at hm
      cases hm
      exact .inr (List.mem_append_right _ hr)
end Go.Proofs.YtbjbbpbagnlkmaaDoor
namespace Go.Proofs.YtbjbbpbagnlkmaaDoor
open Go.RowKit
theorem run_append_zero {P : Program} (w : World) (t ty e : TypeId) (i : TypeInfo) (ht : P.underlying t = some (.slice e)) (hi : P.info? e = some i) (p : Addr) (n c : Nat) (hn : n ≤ c) (A : Option Addr) (c' : Nat) :
    (Builtin.append_ #[t, t] ty #[.slice (some p) n c, .slice A 0 c']).run P w = .ok (.slice (some p) n c) w := by
  cases A <;> simp [Builtin.append_, run_underlying ht, sizeOf, typeInfo, hi, Builtin.lenOf, Builtin.firstCells, loadCells, loadCellsFrom, storeCells, hn]
theorem wpList_append_zero {P : Program} {w : World} {ops : Array Oper} {rest : List Oper} {o : Oper} {a : Act} {Q : Exit → Act → World → Prop} (hgd : o.guard = none) (s x : Operand) (t : TypeId)
    (ho : o.op = .call { callee := .builtin .append, args := #[s, x], argTypes := #[t, t] }) (e : TypeId) (i : TypeInfo) (ht : P.underlying t = some (.slice e)) (hi : P.info? e = some i) (p : Addr) (n c : Nat) (hn : n ≤ c) (A : Option Addr) (c' : Nat)
    (hs : a.eval s = .slice (some p) n c) (hx : a.eval x = .slice A 0 c') (h : wpList P ops Q rest (a.put o.dst (.slice (some p) n c)) w) : wpList P ops Q (o :: rest) a w := by
  refine wpList_plain hgd fun K' hK' => ?_
  unfold Oper.wp execOp
  simp only [ho, Go.resolve, invoke, builtin, Sem.run_bind, Sem.run_pure, Result.andThen_ok, List.map_toArray, List.map_cons, List.map_nil, hs, hx, run_append_zero w t o.type e i ht hi p n c hn A c']
  exact hK' _ _ h
section
variable {α : Type} {E : TypeId} {n : Nat} {f : α → List Value}
theorem wpList_append_long {S : TypeId} {i0 : TypeInfo} {z : Value} {nb : Nat}
    {w : World} {ops : Array Oper} {rest : List Oper} {o : Oper} {a : Act} {Q : Exit → Act → World → Prop} (hg : o.guard = none) (s x : Operand) (ho : o.op = .call { callee := .builtin .append, args := #[s, x], argTypes := #[S, S] }) {base : Nat} {v : Value} {X : List α}
    (hs : a.eval s = v) (hown : OwnR E n f base w v X) {g2 o2 c2 : Nat} {L2 : List α} (hx : a.eval x = .slice (some ⟨g2, o2, none⟩) L2.length c2) (hL : AtR f n w g2 o2 L2) (h0 : 0 < L2.length) {N : Nat} (hN : X.length + L2.length = N) {Z : List α} (hZ : X ++ L2 = Z)
    (hu : Tryd.prog.underlying S = some (.slice E)) (hi0 : Tryd.prog.info? E = some i0) (hz0 : i0.zero = some z) (hz1 : i0.size = n) (hz2 : i0.bytes = nb) (hzc : z.cells.size = n) (hn0 : 0 < n)
    (hf : ∀ q, (f q).length = n) (h1c : ∀ q, ∀ u ∈ f q, u.oneCell' = true) (hroom : nb * (X.length + L2.length) ≤ 200000000) (hlen : X.length + L2.length ≤ 25000000) (hbase : base ≤ w.heap.size)
    (h : ∀ g cap w', OwnR E n f base w' (.slice (some ⟨g, 0, none⟩) N cap) Z → w.grownBy w' v.ownBlock → (v.ownBlock = some g ∨ g = w.heap.size) → g < w'.heap.size → wpList Tryd.prog ops Q rest (a.put o.dst (.slice (some ⟨g, 0, none⟩) N cap)) w') : wpList Tryd.prog ops Q (o :: rest) a w := by
  subst hN hZ
  refine wpList_append_lies _ hg s x S ho base E i0 z n nb hu hi0 hz0 hz1 hz2 hzc hn0 v X.length (X.flatMap f) hs hown ⟨g2, o2, none⟩ L2.length c2 (L2.flatMap f) hx (flatR_len hf L2) ?_ ?_ h0 (by unfold maxLen; omega) ?_ hbase w.heap.size rfl fun g cap w' hown' hg' hat hlt => h g cap w' ?_ hg' hat hlt
  · intro j u hj
    obtain ⟨i, q, k, hi, hk, e⟩ := flatR_split hf hn0 hj
    have := hL i q hi k u hk
    rw [Go.WideShapes.add_plain, e, ← Nat.add_assoc]; exact this
  · intro u hu'
    obtain ⟨q, _, hq⟩ := List.mem_flatMap.1 hu'
    exact h1c q u hq
  · have e : nb * (X.length + L2.length) = (X.length + L2.length) * nb := Nat.mul_comm _ _
    omega
  · unfold OwnR
    rw [List.length_append, List.flatMap_append]
    exact hown'
theorem OwnR.cut {base : Nat} {w : World} {A : Option Addr} {N cap : Nat} {L : List α} (hf : ∀ q, (f q).length = n) (h : OwnR E n f base w (.slice A N cap) L) (hne : 0 < L.length) (k : Nat) (hk : k ≤ L.length) : OwnR E n f base w (.slice A k cap) (L.take k) := by
  obtain ⟨h1, h2⟩ := h
  have hkl : (L.take k).length = k := by rw [List.length_take]; omega
  rcases h2 with ⟨_, hz⟩ | ⟨g, c, cur, e, h3, h4, h5, h6, h7, h8⟩
  · omega
  · simp only [Value.slice.injEq] at e
    obtain ⟨rfl, rfl, rfl⟩ := e
    refine ⟨by rw [flatR_len hf, hkl], .inr ⟨g, cap, cur, by rw [hkl], h3, h4, by omega, h6, h7, ?_⟩⟩
    rw [hkl]
    have e2 : (L.take k).flatMap f = (L.flatMap f).take (k * n) := by
      conv => rhs; rw [← List.take_append_drop k L, List.flatMap_append, List.take_append_of_le_length (by rw [flatR_len hf, hkl]; exact Nat.le_refl _), List.take_of_length_le (by rw [flatR_len hf, hkl]; exact Nat.le_refl _)]
    rw [e2, ← h8, List.take_take, Nat.min_eq_left (Nat.mul_le_mul_right n hk)]
end
end Go.Proofs.YtbjbbpbagnlkmaaDoor
