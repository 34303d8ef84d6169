/- Texts joined: NfH, NfI, NfJ. -/
import Derived.Test.YtjgjacihdggimaaGreatDoorDk17
set_option linter.all false
namespace Go.Proofs.YtjgjacihdggimaaGreatDoor
open Go.RowKit Go.Maps
theorem look_of {w : World} {K : Nat → Prop} {g : Nat} {n : Nd} (h : NdAt w K g n) (hf : FitK n) (hE : TabE w) :
    Calls Tryz.prog 82 #[.pointer (some ⟨g, 0, none⟩)] w fun e w' => e = .returned (lookV n) ∧ Below w.heap.size w w' := by
  obtain ⟨_, B, cb, C, cc, h4, hr, hn⟩ := h
  exact plook_any h4 hr hn hf hE
def lowOf (w : World) (a : Nat) : Nat := match w.cell? ⟨a, 3, none⟩ with
  | some (.int _ l) => l.toNat
  | _ => 0
theorem lowOf_eq {w : World} {a low : Nat} (h : w.cell? ⟨a, 3, none⟩ = some (.int .i64 (low : Int))) : lowOf w a = low := by unfold lowOf; rw [h]; simp
theorem lowK_next {t : Sh} {low : Nat} {n : Nd} (h : LowK t low) (hn : t[low]? = some (some n)) : LowK t (low + 1) := fun i hi => by
  by_cases e : i = low
  · rw [e, hn]; simp
  · exact h i (by omega)
theorem free_low {t : Sh} {low : Nat} (h : LowK t low) (hl : low ≤ t.length) (he : low = t.length ∨ t[low]? = some none) : freeH t = low + 1 := by
  refine freeH_least (by omega) ?_ fun k h1 hk => ?_
  · unfold live
    rw [show ((low + 1 : Nat) : Int) = (low : Int) + 1 by omega, ndAt_succ]
    rcases he with e | e
    · rw [List.getElem?_eq_none_iff.2 (by omega)]; rfl
    · rw [e]; rfl
  · obtain ⟨i, rfl⟩ : ∃ i, k = i + 1 := ⟨k - 1, by omega⟩
    unfold live
    rw [show ((i + 1 : Nat) : Int) = (i : Int) + 1 by omega, ndAt_succ]
    have := h i (by omega)
    cases e : t[i]? with
    | none => rw [List.getElem?_eq_none_iff] at e; omega
    | some o =>
      cases o with
      | none => exact absurd e this
      | some n => rfl
theorem ptr_info : (Tryz.prog.info? 138).map (fun i => (i.zero, i.size, i.bytes)) = some (some (.pointer none), 1, 8) := by kernel_rfl
theorem live_all : ∀ (s : Sh) (k : Int), (∀ i : Nat, s[i]? ≠ some none) → (liveF k s).length = s.length
  | [], _, _ => rfl
  | none :: s, k, h => absurd rfl (h 0)
  | some _ :: s, k, h => by
    rw [liveF, List.length_cons, List.length_cons, live_all s (k + 1) fun i => by have := h (i + 1); simpa using this]
theorem ar_own {α : Type} {E : TypeId} {n : Nat} {f : α → List Value} {base : Nat} {w : World} {A : Option Addr} {len cap : Nat} {L : List α} (h : OwnR E n f base w (.slice A len cap) L) {k : Nat} (hk : (Value.slice A len cap).ownBlock = some k) : ∃ o, A = some ⟨k, o, none⟩ := by
  rcases h.2 with ⟨e, hl⟩ | ⟨g, c, cur, e, h1, h2, h3⟩
  · rw [e] at hk; cases hk
  · rw [e] at hk
    cases hk
    simp at e
    exact ⟨0, e.1⟩
theorem lowK_set {t : Sh} {x : Nd} {lw : Nat} (h : LowK t lw) (hl : lw ≤ t.length) (hf : freeH t = lw + 1) : LowK (setH t (freeH t) x) (lw + 1) := fun i hi e => by
  have h1 := setH_at t x ((i : Int) + 1)
  rw [ndAt_succ, e, hf] at h1
  by_cases hil : i = lw
  · rw [if_pos (by omega)] at h1; cases h1
  · rw [if_neg (by omega), ndAt_succ] at h1
    have h2 := h i (by omega)
    cases e2 : t[i]? with
    | none => rw [List.getElem?_eq_none_iff] at e2; omega
    | some o =>
      rw [e2] at h1 h2
      cases o with
      | none => exact h2 rfl
      | some n => cases h1
section
variable {w w' : World} {K : Nat → Prop} {a room cS bK low : Nat} {ps : List (Option Nat)} {t tm : Sh} {A : Option Addr}
set_option maxHeartbeats 16000000 in
set_option maxRecDepth 10000 in
theorem play_any (h : AR w K a room ps t t A cS bK low) (hlow : LowK t low) (hft : FitT t) (x : Nd) {B C : Option Addr} {cb cc : Nat} (hr : RowI w K B x.refs) (hn : RowI w K C x.nums) (hx : FitK x) (h0 : ∀ k, ndAt t k ≠ some x) (hfree : (liveA t).length < room) {Bs : Nat} (hE : ∀ w', Below Bs w w' → TabE w') (hBs : Bs ≤ w.heap.size) (hCB : ∀ g, Chg a bK A g → Bs ≤ g) :
    Calls Tryz.prog 84 #[.pointer (some ⟨a, 0, none⟩), ndV x B cb C cc] w fun e w' => e = .returned (.int .i64 (freeH t : Int)) ∧
      ∃ ps' A' cS' low', AR w' (fun g => K g ∨ g = w.heap.size) a room ps' (setH t (freeH t) x) (setH t (freeH t) x) A' cS' bK low' ∧ LowK (setH t (freeH t) x) low' ∧ (∀ g, Chg a bK A' g → Chg a bK A g ∨ w.heap.size < g) ∧ ButS (Chg a bK A) w w' := by
  have hba : Below w.heap.size w (w.alloc (.cells #[.int .i64 x.kind, .slice B x.refs.length cb, .slice C x.nums.length cc, .string ⟨x.text.toArray⟩] 126)) := (Below.refl _ _).alloc (Nat.le_refl _) _
  have hblk := (MapKept.heap_alloc w (.cells #[.int .i64 x.kind, .slice B x.refs.length cb, .slice C x.nums.length cc, .string ⟨x.text.toArray⟩] 126)).1
  have hA0 : AR (w.alloc (.cells #[.int .i64 x.kind, .slice B x.refs.length cb, .slice C x.nums.length cc, .string ⟨x.text.toArray⟩] 126)) (fun g => K g ∨ g = w.heap.size) a room ps t t A cS bK low := by
    have h1 := h.lA
    have h2 := h.lB
    refine (h.below hba).mono (fun g hg _ => .inl hg) (fun e => ?_) (fun e => ?_) (fun g o e e' => ?_) (fun g hg => ?_)
    · rcases e with e | e; exact h.ka e; omega
    · rcases e with e | e; exact h.kb e; omega
    · rcases e' with e' | e'; exact (h.ks g o e).1 e'; have := h.lS e; omega
    · rcases hg with hg | hg
      · have := h.kl g hg; simp; omega
      · rw [hg]; simp
  have hN0 : At4 (w.alloc (.cells #[.int .i64 x.kind, .slice B x.refs.length cb, .slice C x.nums.length cc, .string ⟨x.text.toArray⟩] 126)) w.heap.size 0 x B cb C cc :=
    ⟨by rw [Lib.cell_of_heap hblk]; rfl, by rw [Lib.cell_of_heap hblk]; rfl, by rw [Lib.cell_of_heap hblk]; rfl, by rw [Lib.cell_of_heap hblk]; rfl⟩
  have hR0 := (hr.below hba).mono (Q := fun g => K g ∨ g = w.heap.size) fun g hg _ => .inl hg
  have hC0 := (hn.below hba).mono (Q := fun g => K g ∨ g = w.heap.size) fun g hg _ => .inl hg
  have hsz : (w.alloc (.cells #[.int .i64 x.kind, .slice B x.refs.length cb, .slice C x.nums.length cc, .string ⟨x.text.toArray⟩] 126)).heap.size = w.heap.size + 1 := by simp
  have HA0 := Lib.hid hA0
  have HN0 := Lib.hid hN0
  have HR0 := Lib.hid hR0
  have HC0 := Lib.hid hC0
  have HBa := Lib.hid hba
  have HSz := Lib.hid hsz
  have HTE := Lib.hid hE
  have HCB := Lib.hid hCB
  have HFt := Lib.hid hft
  have HX := Lib.hid hx
  have HX0 := Lib.hid h0
  have HLow := Lib.hid hlow
  have hwide := h.wide
  have hlen := h.len
  have HCh := Lib.hid (fun g (hg : Chg a bK A g) => h.chg hg)
  clear h hlow hr hn hba hblk hA0 hN0 hR0 hC0 hsz hE hft hx h0 hCB
  unfold ndV
  go_enter Tryz.func84, Tryz.ntmps84
  go_wp2_with fail
  generalize w.alloc (.cells #[.int .i64 x.kind, .slice B x.refs.length cb, .slice C x.nums.length cc, .string ⟨x.text.toArray⟩] 126) = W0 at *
  go_loopw [] (fun wr => ∃ lw, Hid (AR wr (fun g => K g ∨ g = w.heap.size) a room ps t t A cS bK lw) ∧ Hid (LowK t lw) ∧ Hid (ButS (fun g => g = a) W0 wr)) (fun wr => t.length - lowOf wr a)
  case atStart => exact ⟨low, HA0, HLow, Lib.hid (ButS.refl _ _)⟩
  case round =>
    obtain ⟨lw, HA, HL, HB⟩ := hrel
    have HKc : Hid (∀ g, (K g ∨ g = w.heap.size) → ¬ Chg a bK A g) := Lib.hid fun g hg hc => by
      have := HCh.out g hc
      rcases hg with e | e
      · exact this.1 e
      · omega
    have c1 := HA.out.c1
    have c3 := HA.out.c3
    have fA3 := HA.out.fA 3
    have hl1 := HA.out.low1
    have HLo : Hid (lowOf wr a = lw) := Lib.hid (lowOf_eq c3)
    by_cases hlt : lw < t.length
    · obtain ⟨g, q, rfl, hg, hq, q0, _⟩ := HA.out.slot hlt
      cases hti : t[lw]? with
      | none => rw [List.getElem?_eq_none_iff] at hti; omega
      | some o =>
        cases o with
        | some n =>
          obtain ⟨g1, hq1, _⟩ := HA.out.at1 lw n hti
          rw [hq] at hq1
          cases hq1
          change wr.cell? ⟨g, lw, none⟩ = some (.pointer (some ⟨g1, 0, none⟩)) at q0
          have HL2 := Lib.hid (lowK_next HL.out hti)
          have HA2 := Lib.hid (fun n => (HA.out.below (below_drewN (Below.refl _ _) n)).setLow (low' := lw + 1) (by omega))
          have HLt : Hid (lw < t.length) := Lib.hid hlt
          clear hq hti HL HLow
          generalize hTN : t.length = TN at *
          go_wp2_with fail
          go_quiet (fail)
          go_wp2_with fail
          go_roundw
          case rel => exact ⟨lw + 1, HA2.out _, HL2, Lib.hid ((HB.out.drewN _).setCell (.inl rfl) _)⟩
          case measure =>
            have e := lowOf_eq (HA2.out nq).c3
            rw [HLo.out, show ((lw : Int) + 1) = ((lw + 1 : Nat) : Int) by omega, e]
            have := HLt.out
            omega
        | none =>
          have hq1 := HA.out.at0 lw hti
          rw [hq] at hq1
          cases hq1
          change wr.cell? ⟨g, lw, none⟩ = some (.pointer none) at q0
          have dn : ((lw : Int) == (t.length : Int)) = false := by simp; omega
          have HFr := Lib.hid (free_low HL.out hl1 (.inr hti))
          have HLk9 := Lib.hid (lowK_set (x := x) HL.out hl1 HFr.out)
          have HA5 := Lib.hid (fun n m => HA.out.below (below_drewN (below_drewN (Below.refl _ _) n) m))
          have HE : Hid (t.set lw (some x) = setH t (freeH t) x) := Lib.hid (by unfold setH; rw [HFr.out, if_pos (by omega)]; rfl)
          have Hlt : Hid (lw < t.length) := Lib.hid hlt
          have HBx := Lib.hid (fun n m => ((HB.out.mono fun k (hg : k = a) => (.inl hg : Chg a bK (some ⟨g, 0, none⟩) k)).drewN n).drewN m)
          have HCx : Hid (∀ k, Chg a bK (some ⟨g, 0, none⟩) k → Chg a bK (some ⟨g, 0, none⟩) k ∨ w.heap.size < k) := Lib.hid fun k hk => .inl hk
          clear hq hti HLow
          generalize hTN : t.length = NN at *
          have HTN := Lib.hid hTN
          clear hTN
          go_wp2_with fail
          go_quiet (fail)
          generalize nq = n1 at *
          go_wp2_with fail
          go_quiet (fail)
          replace HA5 := Lib.hid (HA5.out n1 nq)
          replace HBx := Lib.hid (HBx.out n1 nq)
          generalize (wr.drewN n1).drewN nq = w5 at *
          clear c1 c3 q0 fA3 dn HA HB
          have Hlt' := Lib.hid (show lw < t.length by rw [HTN.out]; exact Hlt.out)
          obtain ⟨gS', q, hAS, hgS, hq, q0, fS⟩ := HA5.out.slot Hlt'.out
          cases hAS
          have hks := HA5.out.ks g 0 rfl
          have HNd : Hid (NdAt w5 (fun g => K g ∨ g = w.heap.size) w.heap.size x) := Lib.hid (NdAt.kept ⟨.inr rfl, B, cb, C, cc, HN0.out, HR0.out, HC0.out⟩ ⟨HBx.out.size, fun k hg hl => HBx.out.block k hl fun hc => HKc.out k hg hc⟩)
          have c1 := HA5.out.c1
          rw [HTN.out] at c1
          have c3 := HA5.out.c3
          have HS5 := Lib.hid (fun w' (hb : ButS (fun k => k = g) w5 w') => (show (w'.cell? ⟨a, 1, none⟩ = some (.slice (some ⟨g, 0, none⟩) NN cS) ∧ w'.cell? ⟨a, 3, none⟩ = some (.int .i64 (lw : Int))) from ⟨hb.cell (fun e => hks.2.1 e.symm) c1, hb.cell (fun e => hks.2.1 e.symm) c3⟩))
          have HNd6 := Lib.hid ((HNd.out.kept (w' := w5.setCell ⟨g, lw, none⟩ (.pointer (some ⟨w.heap.size, 0, none⟩))) ⟨by simp, fun k hg hl => Below.heap_setCell _ _ _ k fun e => hks.1 (by rw [← show k = g from e]; exact hg)⟩).kept (Kept.of_below (Below.drew (Below.refl _ _))))
          have HA6 : Hid (AR ((w5.setCell ⟨g, lw, none⟩ (.pointer (some ⟨w.heap.size, 0, none⟩))).drew) (fun g => K g ∨ g = w.heap.size) a room (ps.set lw (some w.heap.size)) (setH t (freeH t) x) t (some ⟨g, 0, none⟩) cS bK lw) := Lib.hid (by
            rw [← HE.out]
            exact (HA5.out.setSlot Hlt'.out rfl (q := some w.heap.size) (o := some x) (.inr ⟨w.heap.size, x, rfl, rfl, HNd.out⟩)).below (Below.drew (Below.refl _ _)))
          have HB6 : Hid (ButS (fun k => Chg a bK (some ⟨g, 0, none⟩) k ∨ w.heap.size < k) W0 ((w5.setCell ⟨g, lw, none⟩ (.pointer (some ⟨w.heap.size, 0, none⟩))).drew)) := Lib.hid (((HBx.out.mono fun k hg => .inl hg).setCell (p := ⟨g, lw, none⟩) (.inl (HCx.out g (.inr (.inr ⟨0, rfl⟩)))) _).drew)
          have hlw := HA5.out.low1
          rw [HTN.out] at hlw
          have hlen5 := HA5.out.len
          rw [HTN.out] at hlen5
          have hN1 : lw < NN := Hlt.out
          have HSl : Hid (lw + 1 ≤ (setH t (freeH t) x).length) := Lib.hid (by rw [← HE.out, List.length_set, HTN.out]; omega)
          have hz6 : w.heap.size < w5.heap.size := by have := HBx.out.size; have := HSz.out; omega
          clear HNd HBx hks hq HE Hlt
          go_wp2_with fail
          go_region_held3 (fun w' => w'.cell? ⟨a, 1, none⟩ = some (.slice (some ⟨g, 0, none⟩) NN cS) ∧ w'.cell? ⟨a, 3, none⟩ = some (.int .i64 (lw : Int)))
            (first | with_reducible exact HS5.out _ (by with_reducible repeat' (first | exact ButS.refl _ _ | exact Or.inl rfl | refine ButS.drew ?_ | refine ButS.setCell ?_ ?_ _)) | fail)
            (first | fail | fail)
          clear HS5 c1 c3 q0 fS HA5
          generalize (w5.setCell ⟨g, lw, none⟩ (.pointer (some ⟨w.heap.size, 0, none⟩))).drew = w6 at *
          have c3 := HA6.out.c3
          have f3 := HA6.out.fA 3
          have HA7 : Hid (AR (w6.setCell ⟨a, 3, none⟩ (.int .i64 ((lw : Int) + 1))) (fun g => K g ∨ g = w.heap.size) a room (ps.set lw (some w.heap.size)) (setH t (freeH t) x) t (some ⟨g, 0, none⟩) cS bK (lw + 1)) := Lib.hid (HA6.out.setLow (low' := lw + 1) (by have := HSl.out; omega))
          have HNd7 : Hid (NdAt (w6.setCell ⟨a, 3, none⟩ (.int .i64 ((lw : Int) + 1))) (fun g => K g ∨ g = w.heap.size) w.heap.size x) := Lib.hid (HNd6.out.kept ⟨by simp, fun k hg hl => Below.heap_setCell _ _ _ k fun e => HA6.out.ka (by rw [← show k = a from e]; exact hg)⟩)
          have HB7 : Hid (ButS (fun k => Chg a bK (some ⟨g, 0, none⟩) k ∨ w.heap.size < k) W0 (w6.setCell ⟨a, 3, none⟩ (.int .i64 ((lw : Int) + 1)))) := Lib.hid (HB6.out.setCell (.inl (.inl (.inl rfl))) _)
          have w64 : IntKind.i64.wrap ((lw : Int) + 1) = (lw : Int) + 1 := by rw [IntKind.wrap_i64]; omega
          clear HA6 HNd6 HB6
          go_wp2_with fail
          clear c3 f3
          generalize w6.setCell ⟨a, 3, none⟩ (.int .i64 ((lw : Int) + 1)) = w7 at *
          have HTE7 : Hid (∀ w', Below w7.heap.size w7 w' → TabE w') := Lib.hid fun w' hb => HTE.out w' ((HBa.out.mono hBs).trans ((HB7.out.below (n := Bs) (fun k hk hf => by
            rcases hf with hf | hf
            · have := HCB.out k hf; omega
            · omega) (by have := HSz.out; omega)).trans (hb.mono (by have := HB7.out.size; have := HSz.out; omega))))
          have HLk := Lib.hid (fun w' (hb : Below w7.heap.size w7 w') => look_of (HNd7.out.kept (Kept.of_below hb)) HX.out (HTE7.out w' hb))
          have HU := Lib.hid (fun w' (hb : Below w7.heap.size w7 w') => (HA7.out.below hb).map.put (t' := setH t (freeH t) x) HFt.out (by unfold maxLen; omega) HX.out (k := (lw : Int) + 1) (by omega) HX0.out (fun j => by rw [setH_at, HFr.out]; rfl) (by have := freeH_dead t; rw [HFr.out] at this; exact this))
          have hab : a ≠ bK := HA7.out.ab
          have c2 := HA7.out.c2
          have c3 : w7.cell? ⟨a, 3, none⟩ = some (.int .i64 ((lw : Int) + 1)) := HA7.out.c3
          have HS7 := Lib.hid (fun w' (hb : ButS (fun k => k = bK) w7 w') => (show (w'.cell? ⟨a, 2, none⟩ = some (.map (some bK)) ∧ w'.cell? ⟨a, 3, none⟩ = some (.int .i64 ((lw : Int) + 1))) from ⟨hb.cell hab c2, hb.cell hab c3⟩))
          clear c2 c3
          go_region_held3 (fun w' => w'.cell? ⟨a, 2, none⟩ = some (.map (some bK)) ∧ w'.cell? ⟨a, 3, none⟩ = some (.int .i64 ((lw : Int) + 1)))
            (first | with_reducible exact HS7.out _ (by with_reducible repeat' (first | exact ButS.refl _ _ | exact hs8 | exact hs9 | refine ButS.drew ?_)) | fail)
            (first
            | (have hG := HLk; clear HLk; go_at_call 82
               refine (hG.out _ (by with_reducible repeat' (first | exact Below.refl _ _ | refine Below.drew ?_))).mono ?_; rintro e w8 ⟨rfl, hb8'⟩
               have hb8 : Below w7.heap.size w7 w8 := by first | exact hb8' | exact (Below.drew (Below.refl w7.heap.size w7)).trans hb8'
               have hs8 : ButS (fun k => k = bK) w7 w8 := ButS.of_below hb8
               obtain ⟨w9, hrun, hm9, hg9, hz9, hf9⟩ := HU.out w8 hb8
               have hs9 : ButS (fun k => k = bK) w7 w9 := hs8.grown hg9 (fun k hk => .inl (by cases hk; rfl))
               clear hG hb8')
            | (refine step_updm (by rfl) _ _ _ 61 (by rfl) (by rfl) (by rfl) (by rfl) hrun ?_)
            | fail)
          have HA9 := Lib.hid ((HA7.out.below hb8).setMap hm9 hg9)
          have HB9 : Hid (ButS (fun k => Chg a bK (some ⟨g, 0, none⟩) k ∨ w.heap.size < k) W0 w9) := Lib.hid ((HB7.out.trans (ButS.of_below hb8)).grown hg9 (fun k hk => .inl (by cases hk; exact .inl (.inr (.inl rfl)))))
          have c3 : w9.cell? ⟨a, 3, none⟩ = some (.int .i64 ((lw : Int) + 1)) := HA9.out.c3
          clear hb8 hs8 hrun hm9 hg9 hz9 hf9 hs9
          go_wp2_with fail
          go_ret
          refine ⟨by rw [HFr.out]; rfl, _, _, _, _, HA9.out, HLk9.out, HCx.out, ?_⟩
          exact (ButS.of_below HBa.out).trans' HB9.out fun k hk hf => by
            rcases hf with hf | hf
            · exact hf
            · omega
    · have hle : lw = t.length := by omega
      have HFr := Lib.hid (free_low HL.out hl1 (.inl hle))
      have HLk9 := Lib.hid (lowK_set (x := x) HL.out hl1 HFr.out)
      have hall : (liveA t).length = t.length := live_all t 1 fun i hi => by
        by_cases e : i < lw
        · exact HL.out i e hi
        · have := (List.getElem?_eq_some_iff.1 hi).1; omega
      have hroom : t.length + 1 ≤ room := by omega
      have dn : ((lw : Int) == (t.length : Int)) = true := by simp; omega
      have dl : decide ((lw : Int) < (t.length : Int)) = false := decide_eq_false (by omega)
      have HE : Hid ((t ++ [none]).set lw (some x) = setH t (freeH t) x) := Lib.hid (by unfold setH; rw [HFr.out, if_neg (by omega), hle]; simp)
      have HA4 := Lib.hid (fun n m => (HA.out.below (below_drewN (below_drewN (Below.refl _ _) n) m)))
      have HB4 := Lib.hid (fun n m => ((HB.out.mono fun k (hg : k = a) => (.inl hg : Chg a bK A k)).drewN n).drewN m)
      have hpl := HA.out.psl
      obtain ⟨i0, hi0, hz0, hz1, hz2⟩ := info_parts ptr_info
      generalize hTN : t.length = TN at *
      have HTN0 := Lib.hid hTN
      have HTN : Hid ((t ++ [none]).length = TN + 1) := Lib.hid (by rw [List.length_append, hTN]; rfl)
      have Hlt : Hid (lw < TN + 1) := Lib.hid (by omega)
      have HLe := Lib.hid hle
      clear hTN HLow hall hle
      go_wp2_with fail
      go_quiet (fail)
      generalize nq = n1 at *
      go_wp2_with fail
      go_quiet (fail)
      replace HA4 := Lib.hid (HA4.out n1 nq)
      replace HB4 := Lib.hid (HB4.out n1 nq)
      clear c1 c3 fA3 HA HB
      generalize (wr.drewN n1).drewN nq = w4 at *
      have c1 := HA4.out.c1
      rw [HTN0.out] at c1
      have HAl := Lib.hid (HA4.out.below ((Below.refl _ _).alloc (Nat.le_refl _) (.cells #[.pointer none] 138)))
      have HBl := Lib.hid (HB4.out.alloc (.cells #[.pointer none] 138))
      go_wp2_with (at_builtin; refine of_stop ?_)
      refine stop_of ?_
      refine wpList_append_rows (f := pW) (n := 1) (E := 138) (nb := 8) (base := 0) rfl _ _ rfl rfl (show OwnR 138 1 pW 0 _ (.slice A TN cS) ps by have := HAl.out.row; rw [HTN0.out] at this; exact this) (L2 := [none]) rfl (one_row w4 none) (by simp) (N := TN + 1) (by rw [hpl]; rfl) (Z := ps ++ [none]) rfl Tryz.underlying62 hi0 hz0 hz1 hz2 rfl (by decide) (by decide) pW_len pW_one (by omega) (Nat.zero_le _) ?_
      intro g2 k2 w2 ho2 hg2 hat2 hl2
      have hAo : ∀ k, (Value.slice A TN cS).ownBlock = some k → Chg a bK A k := fun k hk => .inr (.inr (ar_own HAl.out.row (by rw [HTN0.out]; exact hk)))
      have HA5 : Hid (AR (w2.setCell ⟨a, 1, none⟩ (.slice (some ⟨g2, 0, none⟩) (TN + 1) k2)) (fun g => K g ∨ g = w.heap.size) a room (ps ++ [none]) (t ++ [none]) t (some ⟨g2, 0, none⟩) k2 bK lw) := Lib.hid (by
        have := HAl.out.grow (g := g2) (cap := k2) (by rw [HTN0.out]; exact ho2) (by rw [HTN0.out]; exact hg2) (by rw [HTN0.out]; rcases hat2 with e | e; exact .inl e; exact .inr (.inl e)) (by rw [HTN0.out]; exact hroom)
        rwa [HTN0.out] at this)
      have HB2 := Lib.hid (HBl.out.grown hg2 fun k hk => .inl (hAo k hk))
      have HBx : Hid (ButS (Chg a bK A) W0 (w2.setCell ⟨a, 1, none⟩ (.slice (some ⟨g2, 0, none⟩) (TN + 1) k2))) := Lib.hid (HB2.out.setCell (.inl (.inl rfl)) _)
      have HCx : Hid (∀ k, Chg a bK (some ⟨g2, 0, none⟩) k → Chg a bK A k ∨ w.heap.size < k) := Lib.hid fun k hk => by
        rcases hk with e | e | ⟨o, e⟩
        · exact .inl (.inl e)
        · exact .inl (.inr (.inl e))
        · cases e
          rcases hat2 with e | e
          · exact .inl (hAo _ e)
          · have := HSz.out; have := HB4.out.size; simp at e; exact .inr (by omega)
      have hga : w2.heap[a]? = (w4.alloc (.cells #[.pointer none] 138)).heap[a]? := hg2.block a HAl.out.lA fun e => by
        obtain ⟨o, e'⟩ := ar_own HAl.out.row (show (Value.slice A t.length cS).ownBlock = some a by rw [HTN0.out]; exact e.symm)
        exact (HAl.out.ks a o e').2.1 rfl
      have y1 : w2.cell? ⟨a, 1, none⟩ = some (.slice A TN cS) := by rw [World.cell?_of_block (w := w4.alloc (.cells #[.pointer none] 138)) hga]; have := HAl.out.c1; rwa [HTN0.out] at this
      have z1 : w2.frozen? ⟨a, 1, none⟩ = false := by rw [World.frozen?_of_block (w := w4.alloc (.cells #[.pointer none] 138)) hga]; exact HAl.out.fA 1
      clear ho2 hg2 hat2 hl2 hAo hga HB2 HAl HBl HA4 HB4 c1
      go_wp2_with fail
      generalize w2.setCell ⟨a, 1, none⟩ (.slice (some ⟨g2, 0, none⟩) (TN + 1) k2) = w5 at *
      clear y1 z1
      have hNN := HTN.out
      generalize TN + 1 = NN at *
      clear hNN dn dl hpl hroom hlt
      have Hlt' := Lib.hid (show lw < (t ++ [none]).length by rw [HTN.out]; exact Hlt.out)
      obtain ⟨gS', q, hAS, hgS, hq, q0, fS⟩ := HA5.out.slot Hlt'.out
      cases hAS
      have hks := HA5.out.ks g2 0 rfl
      have HNd : Hid (NdAt w5 (fun g => K g ∨ g = w.heap.size) w.heap.size x) := Lib.hid (NdAt.kept ⟨.inr rfl, B, cb, C, cc, HN0.out, HR0.out, HC0.out⟩ ⟨HBx.out.size, fun k hg hl => HBx.out.block k hl fun hc => HKc.out k hg hc⟩)
      have c1 := HA5.out.c1
      rw [HTN.out] at c1
      have c3 := HA5.out.c3
      have HS5 := Lib.hid (fun w' (hb : ButS (fun k => k = g2) w5 w') => (show (w'.cell? ⟨a, 1, none⟩ = some (.slice (some ⟨g2, 0, none⟩) NN k2) ∧ w'.cell? ⟨a, 3, none⟩ = some (.int .i64 (lw : Int))) from ⟨hb.cell (fun e => hks.2.1 e.symm) c1, hb.cell (fun e => hks.2.1 e.symm) c3⟩))
      have HNd6 := Lib.hid ((HNd.out.kept (w' := w5.setCell ⟨g2, lw, none⟩ (.pointer (some ⟨w.heap.size, 0, none⟩))) ⟨by simp, fun k hg hl => Below.heap_setCell _ _ _ k fun e => hks.1 (by rw [← show k = g2 from e]; exact hg)⟩).kept (Kept.of_below (Below.drew (Below.refl _ _))))
      have HA6 : Hid (AR ((w5.setCell ⟨g2, lw, none⟩ (.pointer (some ⟨w.heap.size, 0, none⟩))).drew) (fun g => K g ∨ g = w.heap.size) a room ((ps ++ [none]).set lw (some w.heap.size)) (setH t (freeH t) x) t (some ⟨g2, 0, none⟩) k2 bK lw) := Lib.hid (by
        rw [← HE.out]
        exact (HA5.out.setSlot Hlt'.out rfl (q := some w.heap.size) (o := some x) (.inr ⟨w.heap.size, x, rfl, rfl, HNd.out⟩)).below (Below.drew (Below.refl _ _)))
      have HB6 : Hid (ButS (fun k => Chg a bK A k ∨ w.heap.size < k) W0 ((w5.setCell ⟨g2, lw, none⟩ (.pointer (some ⟨w.heap.size, 0, none⟩))).drew)) := Lib.hid (((HBx.out.mono fun k hg => .inl hg).setCell (p := ⟨g2, lw, none⟩) (.inl (HCx.out g2 (.inr (.inr ⟨0, rfl⟩)))) _).drew)
      have hlw := HA5.out.low1
      rw [HTN.out] at hlw
      have hlen5 := HA5.out.len
      rw [HTN.out] at hlen5
      have hN1 : lw < NN := Hlt.out
      have HSl : Hid (lw + 1 ≤ (setH t (freeH t) x).length) := Lib.hid (by rw [← HE.out, List.length_set, HTN.out]; omega)
      have hz6 : w.heap.size < w5.heap.size := by have := HBx.out.size; have := HSz.out; omega
      clear HNd HBx hks hq HE Hlt
      go_wp2_with fail
      go_region_held3 (fun w' => w'.cell? ⟨a, 1, none⟩ = some (.slice (some ⟨g2, 0, none⟩) NN k2) ∧ w'.cell? ⟨a, 3, none⟩ = some (.int .i64 (lw : Int)))
        (first | with_reducible exact HS5.out _ (by with_reducible repeat' (first | exact ButS.refl _ _ | exact Or.inl rfl | refine ButS.drew ?_ | refine ButS.setCell ?_ ?_ _)) | fail)
        (first | fail | fail)
      clear HS5 c1 c3 q0 fS HA5
      generalize (w5.setCell ⟨g2, lw, none⟩ (.pointer (some ⟨w.heap.size, 0, none⟩))).drew = w6 at *
      have c3 := HA6.out.c3
      have f3 := HA6.out.fA 3
      have HA7 : Hid (AR (w6.setCell ⟨a, 3, none⟩ (.int .i64 ((lw : Int) + 1))) (fun g => K g ∨ g = w.heap.size) a room ((ps ++ [none]).set lw (some w.heap.size)) (setH t (freeH t) x) t (some ⟨g2, 0, none⟩) k2 bK (lw + 1)) := Lib.hid (HA6.out.setLow (low' := lw + 1) (by have := HSl.out; omega))
      have HNd7 : Hid (NdAt (w6.setCell ⟨a, 3, none⟩ (.int .i64 ((lw : Int) + 1))) (fun g => K g ∨ g = w.heap.size) w.heap.size x) := Lib.hid (HNd6.out.kept ⟨by simp, fun k hg hl => Below.heap_setCell _ _ _ k fun e => HA6.out.ka (by rw [← show k = a from e]; exact hg)⟩)
      have HB7 : Hid (ButS (fun k => Chg a bK A k ∨ w.heap.size < k) W0 (w6.setCell ⟨a, 3, none⟩ (.int .i64 ((lw : Int) + 1)))) := Lib.hid (HB6.out.setCell (.inl (.inl (.inl rfl))) _)
      have w64 : IntKind.i64.wrap ((lw : Int) + 1) = (lw : Int) + 1 := by rw [IntKind.wrap_i64]; omega
      clear HA6 HNd6 HB6
      go_wp2_with fail
      clear c3 f3
      generalize w6.setCell ⟨a, 3, none⟩ (.int .i64 ((lw : Int) + 1)) = w7 at *
      have HTE7 : Hid (∀ w', Below w7.heap.size w7 w' → TabE w') := Lib.hid fun w' hb => HTE.out w' ((HBa.out.mono hBs).trans ((HB7.out.below (n := Bs) (fun k hk hf => by
        rcases hf with hf | hf
        · have := HCB.out k hf; omega
        · omega) (by have := HSz.out; omega)).trans (hb.mono (by have := HB7.out.size; have := HSz.out; omega))))
      have HLk := Lib.hid (fun w' (hb : Below w7.heap.size w7 w') => look_of (HNd7.out.kept (Kept.of_below hb)) HX.out (HTE7.out w' hb))
      have HU := Lib.hid (fun w' (hb : Below w7.heap.size w7 w') => (HA7.out.below hb).map.put (t' := setH t (freeH t) x) HFt.out (by unfold maxLen; omega) HX.out (k := (lw : Int) + 1) (by omega) HX0.out (fun j => by rw [setH_at, HFr.out]; rfl) (by have := freeH_dead t; rw [HFr.out] at this; exact this))
      have hab : a ≠ bK := HA7.out.ab
      have c2 := HA7.out.c2
      have c3 : w7.cell? ⟨a, 3, none⟩ = some (.int .i64 ((lw : Int) + 1)) := HA7.out.c3
      have HS7 := Lib.hid (fun w' (hb : ButS (fun k => k = bK) w7 w') => (show (w'.cell? ⟨a, 2, none⟩ = some (.map (some bK)) ∧ w'.cell? ⟨a, 3, none⟩ = some (.int .i64 ((lw : Int) + 1))) from ⟨hb.cell hab c2, hb.cell hab c3⟩))
      clear c2 c3
      go_region_held3 (fun w' => w'.cell? ⟨a, 2, none⟩ = some (.map (some bK)) ∧ w'.cell? ⟨a, 3, none⟩ = some (.int .i64 ((lw : Int) + 1)))
        (first | with_reducible exact HS7.out _ (by with_reducible repeat' (first | exact ButS.refl _ _ | exact hs8 | exact hs9 | refine ButS.drew ?_)) | fail)
        (first
        | (have hG := HLk; clear HLk; go_at_call 82
           refine (hG.out _ (by with_reducible repeat' (first | exact Below.refl _ _ | refine Below.drew ?_))).mono ?_; rintro e w8 ⟨rfl, hb8'⟩
           have hb8 : Below w7.heap.size w7 w8 := by first | exact hb8' | exact (Below.drew (Below.refl w7.heap.size w7)).trans hb8'
           have hs8 : ButS (fun k => k = bK) w7 w8 := ButS.of_below hb8
           obtain ⟨w9, hrun, hm9, hg9, hz9, hf9⟩ := HU.out w8 hb8
           have hs9 : ButS (fun k => k = bK) w7 w9 := hs8.grown hg9 (fun k hk => .inl (by cases hk; rfl))
           clear hG hb8')
        | (refine step_updm (by rfl) _ _ _ 61 (by rfl) (by rfl) (by rfl) (by rfl) hrun ?_)
        | fail)
      have HA9 := Lib.hid ((HA7.out.below hb8).setMap hm9 hg9)
      have HB9 : Hid (ButS (fun k => Chg a bK A k ∨ w.heap.size < k) W0 w9) := Lib.hid ((HB7.out.trans (ButS.of_below hb8)).grown hg9 (fun k hk => .inl (by cases hk; exact .inl (.inr (.inl rfl)))))
      have c3 : w9.cell? ⟨a, 3, none⟩ = some (.int .i64 ((lw : Int) + 1)) := HA9.out.c3
      clear hb8 hs8 hrun hm9 hg9 hz9 hf9 hs9
      go_wp2_with fail
      go_ret
      refine ⟨by rw [HFr.out]; rfl, _, _, _, _, HA9.out, HLk9.out, HCx.out, ?_⟩
      exact (ButS.of_below HBa.out).trans' HB9.out fun k hk hf => by
        rcases hf with hf | hf
        · exact hf
        · omega
end
end Go.Proofs.YtjgjacihdggimaaGreatDoor
namespace Go.Proofs.YtjgjacihdggimaaGreatDoor
open Go.RowKit Go.Maps
def clr (t : Sh) (i : Nat) : Sh := t.set i none
theorem clr_at (t : Sh) (i : Nat) (j : Int) : ndAt (clr t i) j = if j = (i : Int) + 1 then none else ndAt t j := by
  unfold clr
  by_cases h0 : 0 < j
  · obtain ⟨k, rfl⟩ : ∃ k : Nat, j = (k : Int) + 1 := ⟨(j - 1).toNat, by omega⟩
    rw [ndAt_succ, ndAt_succ, List.getElem?_set]
    by_cases e : i = k
    · subst e
      rw [if_pos rfl, if_pos rfl]
      split <;> rfl
    · rw [if_neg e, if_neg (by omega)]
  · unfold ndAt
    rw [if_neg h0, if_neg h0, if_neg (by omega)]
theorem fit_clr {t : Sh} (h : FitT t) (i : Nat) : FitT (clr t i) := fun j n hn => by
  rw [clr_at] at hn
  split at hn
  · cases hn
  · exact h j n hn
theorem lowK_clr {t : Sh} {low : Nat} (h : LowK t low) (i : Nat) : LowK (clr t i) (min low i) := fun j hj => by
  unfold clr
  rw [List.getElem?_set_ne (by omega)]
  exact h j (by omega)
section
variable {w w' : World} {K : Nat → Prop} {a room cS bK low : Nat} {ps : List (Option Nat)} {t tm : Sh} {A : Option Addr}
set_option maxHeartbeats 16000000 in
set_option maxRecDepth 10000 in
theorem pdrop_any (h : AR w K a room ps t t A cS bK low) (hlow : LowK t low) (hft : FitT t) (h1 : ∀ h k n, ndAt t h = some n → ndAt t k = some n → h = k) {i : Nat} {x : Nd} (hx : t[i]? = some (some x)) {r : Int} (hr : r = (i : Int) + 1) {Bs : Nat} (hE : ∀ w', Below Bs w w' → TabE w') (hBs : Bs ≤ w.heap.size) :
    Calls Tryz.prog 85 #[.pointer (some ⟨a, 0, none⟩), .int .i64 r] w fun e w' => e = .returned (.tuple #[]) ∧
      AR w' K a room (ps.set i none) (clr t i) (clr t i) A cS bK (min low i) ∧ LowK (clr t i) (min low i) ∧ ButS (Chg a bK A) w w' := by
  have hi : i < t.length := (List.getElem?_eq_some_iff.1 hx).1
  have hat : ndAt t r = some x := by rw [hr, ndAt_succ, hx]; rfl
  have hlr := h.len
  have hwd := h.wide
  have e1 : r - 1 = (i : Int) := by omega
  have hwi : IntKind.i64.wrap (i : Int) = (i : Int) := by rw [IntKind.wrap_i64]; omega
  have hr64 : -9223372036854775808 ≤ r ∧ r ≤ 9223372036854775807 := by omega
  obtain ⟨gS, q, hAS, hgS, hq, q0, fS⟩ := h.slot hi
  obtain ⟨g, hq1, hnd⟩ := h.at1 i x hx
  rw [hq] at hq1
  cases hq1
  change w.cell? ⟨gS, i, none⟩ = some (.pointer (some ⟨g, 0, none⟩)) at q0
  have hks := h.ks gS 0 hAS
  have hab := h.ab
  have c1 := h.c1
  have c2 := h.c2
  rw [hAS] at c1
  have hxk : FitK x := hft r x hat
  have HLk := Lib.hid (fun w' (hb : Below w.heap.size w w') => look_of (hnd.kept (Kept.of_below hb)) hxk (hE w' (hb.mono hBs)))
  have HU := Lib.hid (fun w' (hb : Below w.heap.size w w') => (h.below hb).map.del (t' := clr t i) hft h1 hat (fun j => by rw [clr_at, hr]) 0)
  have HS := Lib.hid (fun w' (hb : ButS (fun k => k = bK) w w') => (show (w'.cell? ⟨a, 1, none⟩ = some (.slice (some ⟨gS, 0, none⟩) t.length cS) ∧ w'.cell? ⟨a, 2, none⟩ = some (.map (some bK)) ∧ w'.cell? ⟨gS, i, none⟩ = some (.pointer (some ⟨g, 0, none⟩))) from ⟨hb.cell hab c1, hb.cell hab c2, hb.cell hks.2.2 q0⟩))
  have HA := Lib.hid h
  have HLo := Lib.hid (lowK_clr hlow i)
  have HAS := Lib.hid hAS
  generalize hTN : t.length = TN at *
  have HTN := Lib.hid hTN
  have HR := Lib.hid hr
  clear h hlow hft h1 hx hr hE hat hnd hq hxk c1 c2 q0 fS hAS hTN
  go_enter Tryz.func85, Tryz.ntmps85
  go_upto_region 0 with fail
  go_region_held3 (fun w' => w'.cell? ⟨a, 1, none⟩ = some (.slice (some ⟨gS, 0, none⟩) TN cS) ∧ w'.cell? ⟨a, 2, none⟩ = some (.map (some bK)) ∧ w'.cell? ⟨gS, i, none⟩ = some (.pointer (some ⟨g, 0, none⟩)))
    (first | with_reducible exact HS.out _ (by with_reducible repeat' (first | exact ButS.refl _ _ | exact hs8 | exact hs9 | refine ButS.drew ?_)) | fail)
    (first
    | (have hG := HLk; clear HLk; go_at_call 82
       refine (hG.out _ (by with_reducible repeat' (first | exact Below.refl _ _ | refine Below.drew ?_))).mono ?_; rintro e w8 ⟨rfl, hb8'⟩
       have hb8 : Below w.heap.size w w8 := by first | exact hb8' | exact (Below.drew (Below.refl w.heap.size w)).trans hb8'
       have hs8 : ButS (fun k => k = bK) w w8 := ButS.of_below hb8
       obtain ⟨w9, hrun, hm9, hg9, hz9, hf9⟩ := HU.out w8 hb8
       have hs9 : ButS (fun k => k = bK) w w9 := hs8.grown hg9 (fun k hk => .inl (by cases hk; rfl))
       clear hG hb8')
    | (refine step_delm (by rfl) _ _ 61 144 (by rfl) (by rfl) (by rfl) hrun ?_)
    | fail)
  have HA9 := Lib.hid ((HA.out.below hb8).setMap hm9 hg9)
  have HB9 := Lib.hid (hs9.mono (Q := Chg a bK A) fun k hk => .inr (.inl hk))
  clear hb8 hs8 hrun hm9 hg9 hz9 hf9 hs9 HS HU HA
  obtain ⟨gS', q, hAS', _, hq, q0, fS⟩ := HA9.out.slot (i := i) (by rw [HTN.out]; omega)
  rw [HAS.out] at hAS'
  cases hAS'
  have c1 := HA9.out.c1
  rw [HTN.out, HAS.out] at c1
  have HA10 : Hid (AR (w9.setCell ⟨gS, i, none⟩ (.pointer none)) K a room (ps.set i none) (clr t i) (clr t i) A cS bK low) := Lib.hid (HA9.out.setSlot (by rw [HTN.out]; omega) HAS.out (q := none) (o := none) (.inl ⟨rfl, rfl⟩))
  have HB10 : Hid (ButS (Chg a bK A) w (w9.setCell ⟨gS, i, none⟩ (.pointer none))) := Lib.hid (HB9.out.setCell (.inl (.inr (.inr ⟨0, HAS.out⟩))) _)
  have c3 := HA10.out.c3
  have f3 := HA10.out.fA 3
  have c3' : w9.cell? ⟨a, 3, none⟩ = some (.int .i64 (low : Int)) := HA9.out.c3
  have f3' := HA9.out.fA 3
  have hnga : gS ≠ a := hks.2.1
  have hmin : min (low : Int) (i : Int) = ((min low i : Nat) : Int) := by omega
  have HMin := Lib.hid hmin
  have HA11 : Hid (AR ((w9.setCell ⟨gS, i, none⟩ (.pointer none)).setCell ⟨a, 3, none⟩ (.int .i64 (min (low : Int) (i : Int)))) K a room (ps.set i none) (clr t i) (clr t i) A cS bK (min low i)) := Lib.hid (by rw [hmin]; exact HA10.out.setLow (low' := min low i) (by have := HA10.out.low1; omega))
  have HB11 := Lib.hid (HB10.out.setCell (p := ⟨a, 3, none⟩) (.inl (.inl rfl)) (.int .i64 (min (low : Int) (i : Int))))
  clear hmin
  clear HA9 HA10 hq
  go_wp2_with fail
  go_end0
  exact ⟨rfl, HA11.out, HLo.out, HB11.out⟩
end
end Go.Proofs.YtjgjacihdggimaaGreatDoor
namespace Go.Proofs.YtjgjacihdggimaaGreatDoor
open Go.RowKit Go.Maps
theorem not_i64 (r : Int) (h : -9223372036854775808 ≤ r ∧ r ≤ 9223372036854775807) : bits BinOp.xor IntKind.i64 (-1) r = -1 - r := by
  show IntKind.i64.wrap ((BitVec.ofInt 64 (-1) ^^^ BitVec.ofInt 64 r).toNat : Int) = _
  rw [show BitVec.ofInt 64 (-1) = BitVec.allOnes 64 from by decide, BitVec.allOnes_xor, BitVec.toNat_not, BitVec.toNat_ofInt, IntKind.wrap_i64]
  simp only [Nat.reducePow, Int.reducePow]
  omega
def CI (w : World) (g : Nat) (l : List Int) : Prop := ∀ (i : Nat) (x : Int), l[i]? = some x → w.cell? ⟨g, i, none⟩ = some (.int .i64 x)
theorem CI.set {w : World} {g i : Nat} {l : List Int} (h : CI w g l) (hi : i < l.length) (y : Int) : CI (w.setCell ⟨g, i, none⟩ (.int .i64 y)) g (l.set i y) := fun j x hj => by
  by_cases e : i = j
  · subst e
    rw [List.getElem?_set_self hi] at hj
    cases hj
    exact World.cell?_setCell_same _ _ _ (h i _ (List.getElem?_eq_getElem hi))
  · rw [List.getElem?_set_ne e] at hj
    rw [World.cell?_setCell_other _ _ _ _ (by simpa using Ne.symm e)]
    exact h j x hj
def resL (out refs : List Int) (i : Nat) : List Int := (refs.take i).map (resolve out) ++ refs.drop i
theorem resL_len (out refs : List Int) (i : Nat) : (resL out refs i).length = refs.length := by
  unfold resL; rw [List.length_append, List.length_map, List.length_take, List.length_drop]; omega
theorem resL_at {out refs : List Int} {i : Nat} {r : Int} (h : refs[i]? = some r) : (resL out refs i)[i]? = some r := by
  have hl := (List.getElem?_eq_some_iff.1 h).1
  unfold resL
  rw [List.getElem?_append_right (by rw [List.length_map, List.length_take]; omega), List.length_map, List.length_take, List.getElem?_drop, ← h]
  congr 1; omega
theorem resL_next {out refs : List Int} {i : Nat} {r : Int} (h : refs[i]? = some r) : (resL out refs i).set i (resolve out r) = resL out refs (i + 1) := by
  have hl := (List.getElem?_eq_some_iff.1 h).1
  apply List.ext_getElem?
  intro j
  have h1 : ((refs.take i).map (resolve out)).length = i := by rw [List.length_map, List.length_take]; omega
  have h2 : ((refs.take (i + 1)).map (resolve out)).length = i + 1 := by rw [List.length_map, List.length_take]; omega
  by_cases e : i = j
  · subst e
    rw [List.getElem?_set_self (by rw [resL_len]; exact hl)]
    unfold resL
    rw [List.getElem?_append_left (by omega), List.getElem?_map, List.getElem?_take_of_lt (by omega), h]; rfl
  · rw [List.getElem?_set_ne e]
    unfold resL
    by_cases e2 : j < i
    · rw [List.getElem?_append_left (by omega), List.getElem?_append_left (by omega), List.getElem?_map, List.getElem?_map, List.getElem?_take_of_lt e2, List.getElem?_take_of_lt (by omega)]
    · rw [List.getElem?_append_right (by omega), List.getElem?_append_right (by omega), h1, h2, List.getElem?_drop, List.getElem?_drop]
      congr 1; omega
theorem resL_same {out refs : List Int} {i : Nat} {r : Int} (h : refs[i]? = some r) (hr : resolve out r = r) : resL out refs i = resL out refs (i + 1) := by
  rw [← resL_next h, hr]
  apply List.ext_getElem?
  intro j
  by_cases e : i = j
  · subst e
    rw [List.getElem?_set_self (by rw [resL_len]; exact (List.getElem?_eq_some_iff.1 h).1), resL_at h]
  · rw [List.getElem?_set_ne e]
set_option maxHeartbeats 16000000 in
set_option maxRecDepth 10000 in
theorem presolved_any {w : World} {b : Nat} {out refs : List Int} {H A : Option Addr} {cH ca : Nat} {P Q : Nat → Prop} (hH : w.cell? ⟨b, 1, none⟩ = some (.slice H out.length cH)) (hQ : RowI w Q H out) (hA : RowI w P A refs) (hl : refs.length ≤ 200) (ho : out.length ≤ 100000) (hr : ∀ r ∈ refs, -(out.length : Int) ≤ r) :
    Calls Tryz.prog 81 #[.pointer (some ⟨b, 0, none⟩), .slice A refs.length ca] w fun e w' => ∃ O co, e = .returned (.slice O refs.length co) ∧ RowI w' (fun g => w.heap.size ≤ g) O (refs.map (resolve out)) ∧ Below w.heap.size w w' := by
  have HCl := Lib.hid (pclone_any refs A ca w P hA (by omega))
  have HQ := Lib.hid hQ
  have HH := Lib.hid hH
  have HR := Lib.hid hr
  clear hA hQ hH hr
  go_enter Tryz.func81, Tryz.ntmps81
  go_wp2_with fail
  refine HCl.out.mono ?_; rintro e w1 ⟨O, co, rfl, hO, hb1⟩
  have HB1 := Lib.hid hb1
  have HO := Lib.hid hO
  have hz1 := hb1.size
  clear hb1 hO HCl
  go_wp2_with fail
  go_loopw [6, 7, 12] (fun _ _ vi wr => ∃ i : Nat, i ≤ refs.length ∧ vi = .int .i64 (i : Int) ∧ Hid (∀ g, O = some ⟨g, 0, none⟩ → refs ≠ [] → CI wr g (resL out refs i)) ∧ Hid (∀ g j, O = some ⟨g, 0, none⟩ → refs ≠ [] → j < refs.length → wr.frozen? ⟨g, j, none⟩ = false) ∧ Hid (Below w.heap.size w1 wr)) (fun _ _ vi _ => refs.length - (RowKit.intOf vi).toNat)
  case atStart =>
    refine ⟨0, Nat.zero_le _, rfl, Lib.hid fun g hg hne i x hi => ?_, Lib.hid fun g j hg hne hj => ?_, Lib.hid ((Below.refl _ _))⟩
    · rcases HO.out with e | ⟨g', e, h1, h2, h3⟩
      · exact absurd e hne
      · rw [hg] at e; cases e
        have := OwnR.at (f := inW) (fun _ => rfl) h3 rfl i x (by simpa [resL] using hi) 0 _ rfl
        simpa using this
    · rcases HO.out with e | ⟨g', e, h1, h2, h3⟩
      · exact absurd e hne
      · rw [hg] at e; cases e
        exact World.ownsRow.frozenAt h3 j
  case round =>
    obtain ⟨i, hi, rfl, HCI, HFr, HB⟩ := hrel
    by_cases hlt : i < refs.length
    · have hne : refs ≠ [] := fun e => by rw [e] at hlt; simp at hlt
      obtain ⟨g, rfl, hg1, hg2, _⟩ : ∃ g, O = some ⟨g, 0, none⟩ ∧ w.heap.size ≤ g ∧ g < w1.heap.size ∧ True := by
        rcases HO.out with e | ⟨g', e, h1, h2, h3⟩
        · exact absurd e hne
        · exact ⟨g', e, h1, h2, trivial⟩
      obtain ⟨r, hrr⟩ : ∃ r, refs[i]? = some r := ⟨_, List.getElem?_eq_getElem hlt⟩
      have q0 := HCI.out g rfl hne i r (resL_at hrr)
      have f0 := HFr.out g i rfl hne hlt
      have hrb := HR.out r (List.mem_of_getElem? hrr)
      by_cases hneg : r < 0
      · have dn : decide (r < 0) = true := decide_eq_true hneg
        obtain ⟨k, rfl⟩ : ∃ k : Nat, r = -1 - (k : Int) := ⟨(-1 - r).toNat, by omega⟩
        obtain ⟨y, hy⟩ : ∃ y, out[k]? = some y := ⟨_, List.getElem?_eq_getElem (by omega)⟩
        have hk : k < out.length := (List.getElem?_eq_some_iff.1 hy).1
        obtain ⟨g2, o2, rfl, _, hg2l, hca⟩ := HQ.out.at hk
        have hby : Below w.heap.size w wr := HB1.out.trans HB.out
        have h1 := keep_cell hby HH.out
        have y0 := keep_cell hby (hca k y hy)
        have hres : resolve out (-1 - (k : Int)) = y := by
          unfold resolve
          rw [if_pos hneg, show (-1 - (-1 - (k : Int))).toNat = k by omega, List.getD_eq_getElem?_getD, hy]; rfl
        have HNx : Hid (∀ g', (some ⟨g, 0, none⟩ : Option Addr) = some ⟨g', 0, none⟩ → refs ≠ [] → CI (wr.setCell ⟨g, i, none⟩ (.int .i64 y)) g' (resL out refs (i + 1))) := Lib.hid fun g' hg' _ => by
          cases hg'
          rw [← resL_next hrr, hres]
          exact (HCI.out g rfl hne).set (by rw [resL_len]; exact hlt) y
        have HFx : Hid (∀ g' j, (some ⟨g, 0, none⟩ : Option Addr) = some ⟨g', 0, none⟩ → refs ≠ [] → j < refs.length → (wr.setCell ⟨g, i, none⟩ (.int .i64 y)).frozen? ⟨g', j, none⟩ = false) := Lib.hid fun g' j hg' h2 h3 => by
          rw [World.frozen?_setCell]; exact HFr.out g' j hg' h2 h3
        have HBx : Hid (Below w.heap.size w1 (wr.setCell ⟨g, i, none⟩ (.int .i64 y))) := Lib.hid (HB.out.setCell hg1 _)
        have hxo : bits BinOp.xor IntKind.i64 (-1) (-1 - (k : Int)) = (k : Int) := by rw [not_i64 _ (by omega)]; omega
        clear hca hby hrr hres hy HCI HFr
        go_wp2_with fail
        go_roundw
        case rel => exact ⟨i + 1, by omega, by go_num, HNx, HFx, HBx⟩
        case measure => simp [RowKit.intOf]; omega
      · have dn : decide (r < 0) = false := decide_eq_false hneg
        have hres : resolve out r = r := by unfold resolve; rw [if_neg hneg]
        have HNx : Hid (∀ g', (some ⟨g, 0, none⟩ : Option Addr) = some ⟨g', 0, none⟩ → refs ≠ [] → CI wr g' (resL out refs (i + 1))) := Lib.hid fun g' hg' hn => by
          rw [← resL_same hrr hres]; exact HCI.out g' hg' hn
        clear hrr hres HCI
        go_wp2_with fail
        go_roundw
        case rel => exact ⟨i + 1, by omega, by go_num, HNx, HFr, HB⟩
        case measure => simp [RowKit.intOf]; omega
    · have hii : i = refs.length := by omega
      subst hii
      have HRow : Hid (RowI wr (fun g => w.heap.size ≤ g) O (refs.map (resolve out))) := Lib.hid (by
        rcases HO.out with e | ⟨g', rfl, h1, h2, h3⟩
        · exact .inl (by rw [e]; rfl)
        · by_cases hne : refs = []
          · exact .inl (by rw [hne]; rfl)
          · refine .inr ⟨g', 0, rfl, h1, Nat.lt_of_lt_of_le h2 HB.out.size, fun j x hj => ?_⟩
            have := HCI.out g' rfl hne j x (by unfold resL; rw [List.take_length, List.drop_length, List.append_nil]; exact hj)
            simpa using this)
      clear HCI HFr
      go_wp2_with fail
      go_ret
      exact ⟨O, co, rfl, HRow.out, HB1.out.trans HB.out⟩
end Go.Proofs.YtjgjacihdggimaaGreatDoor
