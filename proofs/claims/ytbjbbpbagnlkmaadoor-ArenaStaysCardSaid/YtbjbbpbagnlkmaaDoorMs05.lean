/- Texts joined: NfT, NfV, NdN, NdM, NdO, NdP, NdQ, NdR, NfW. -/
import Derived.Test.YtbjbbpbagnlkmaaDoorMs04
import Derived.WalkMore
import Derived.ScopeJumps
import Derived.Test.YtbjbbpbagnlkmaaDoorShelfN
import Derived.Shelf.AbstractIn
import Derived.RangeFuncMany
import Derived.RangeFuncLeaves
import Derived.Sort.MapsRangeIn
import Derived.Sort.KeysCollected
import Derived.WalkKit
import Derived.OwnWalkIn
import Derived.TacticsInMore
import Derived.RegionIn
import Derived.LoopNIn
import Derived.LoopIn
import Derived.Test.YtbjbbpbagnlkmaaDoorMs03
import Derived.Deep.LoopGhost
set_option linter.all false
namespace Go.Proofs.YtbjbbpbagnlkmaaDoor
open Go.RowKit Go.Maps
theorem mu_step (X a b : Nat) (h : b ≤ 200) : X + (a + b) < X + 201 + (a + 1) := by omega
theorem Rea.empty {t : Sh} {roots S L : List Int} (h : Rea t roots S L) (hL : L = []) : Rea t roots S [] := by
  subst hL
  exact h
structure RJ (w : World) (t : Sh) (roots : List Int) (m : Nat) (S L : List Int) (O : Option Addr) (co : Nat) (wr : World) : Prop where
  ms : MapS wr m S
  own : L = [] ∨ OwnR 3 1 inW (m + 1) wr (.slice O L.length co) L
  re : Rea t roots S L
  sl : ∀ x ∈ S, live t x = true
  b64 : B64s L
  bw : Below w.heap.size w wr
  mw : w.heap.size ≤ m
  ll : L.length ≤ 1000 + 200 * S.length
def JR (w : World) (a : Nat) (t : Sh) (roots : List Int) (A : Option Addr) (ca : Nat) (a' : Act) (w' : World) : Prop :=
  ∃ (m : Nat) (S L : List Int) (O : Option Addr) (co : Nat) (u7 u8 u9 u10 u11 u12 u13 u14 u15 u16 u17 u18 u19 u20 u21 u22 u23 u24 u25 u26 u27 u28 u29 u30 u31 u32 u33 u34 u35 u36 u37 u38 u39 u40 u41 u42 u43 u44 u45 u46 u47 u48 u49 : Value), a' = { tmps := #[.pointer (some ⟨a, 0, none⟩), .slice A roots.length ca, undef, undef, .map none, .map (some m), .slice O L.length co, u7, u8, u9, u10, u11, u12, u13, u14, u15, u16, u17, u18, u19, u20, u21, u22, u23, u24, u25, u26, u27, u28, u29, u30, u31, u32, u33, u34, u35, u36, u37, u38, u39, u40, u41, u42, u43, u44, u45, u46, u47, u48, u49], defers := [] } ∧ RJ w t roots m S L O co w'
def muR (n : Nat) (a' : Act) (w' : World) : Nat := (n - (match a'.tmps.getD 5 undef with | .map (some m) => mapSz w' m | _ => 0)) * 201 + (match a'.tmps.getD 6 undef with | .slice _ n _ => n | _ => 0)
theorem run_makeMap8 (w : World) : (Instr.makeMap 79 none).run Tryd.prog w = .ok (.map (some w.heap.size)) (w.alloc (.map #[] 0)) := rfl
section
variable {w : World} {K : Nat → Prop} {a room cS bK low : Nat} {ps : List (Option Nat)} {t : Sh} {SA : Option Addr}
theorem own_parts {base : Nat} {w : World} {A : Option Addr} {N cap : Nat} {L : List Int} (h : OwnR 3 1 inW base w (.slice A N cap) L) (hne : 0 < L.length) : ∃ g, A = some ⟨g, 0, none⟩ ∧ base ≤ g ∧ g < w.heap.size ∧ N ≤ cap ∧ ∀ (i : Nat) (x : Int), L[i]? = some x → w.cell? ⟨g, i, none⟩ = some (.int .i64 x) := by
  have h' := h
  obtain ⟨h1, h2⟩ := h
  rcases h2 with ⟨_, hz⟩ | ⟨g, c, cur, e, h3, h4, h5, h6, h7, h8⟩
  · omega
  · simp only [Value.slice.injEq] at e
    obtain ⟨rfl, rfl, rfl⟩ := e
    exact ⟨g, rfl, h3, (Array.getElem?_eq_some_iff.1 h4).1, h5, fun i x hi => by
      have := OwnR.at (f := inW) (fun _ => rfl) h' rfl i x hi 0 _ rfl
      simpa using this⟩
set_option maxHeartbeats 32000000 in
set_option maxRecDepth 20000 in
theorem preached_any (h : AR w K a room ps t t SA cS bK low) (hft : FitT t) (hI : Inv room t) (roots : List Int) (Q : Nat → Prop) (A : Option Addr) (ca : Nat) (hl : RowI w Q A roots) (hll : roots.length ≤ 1000) (h64 : B64s roots) :
    Calls Tryd.prog 33 #[.pointer (some ⟨a, 0, none⟩), .slice A roots.length ca] w fun e w' => ∃ m S, e = .returned (.map (some m)) ∧ w.heap.size ≤ m ∧ MapS w' m S ∧ (∀ x, x ∈ S ↔ Rch t roots x) ∧ Below w.heap.size w w' := by
  have hmk := run_makeMap8 w
  have hba : Below w.heap.size w (w.alloc (.map #[] 0)) := (Below.refl _ _).alloc (Nat.le_refl _) _
  have HCl := Lib.hid (pclone_any roots A ca (w.alloc (.map #[] 0)) Q (hl.below hba) (by omega))
  have HA := Lib.hid h
  have HFt := Lib.hid hft
  have HI := Lib.hid hI
  have H64 := Lib.hid h64
  have hsz : (w.alloc (.map #[] 0)).heap.size = w.heap.size + 1 := by simp
  have HMm := Lib.hid (MapS.made w)
  have HBa := Lib.hid hba
  have HSz := Lib.hid hsz
  obtain ⟨i0, hi0, hz0, hz1, hz2⟩ := info_parts int_info
  have hwd := h.wide
  have hln := h.len
  have hlv : (liveA t).length ≤ 65536 := by
    have := liveF_len t 1
    unfold liveA; omega
  clear h hft hI hl h64 hba hsz
  go_enter Tryd.func33, Tryd.ntmps33
  go_wp2_with fail
  refine wp_scope_jumps 0 (JR w a t roots A ca) (muR (liveA t).length) rfl ?_ ?_
  · go_wp2_with fail
    refine HCl.out.mono ?_; rintro e wr ⟨O, co, rfl, hO, hb1⟩
    have HJ : Hid (RJ w t roots w.heap.size [] roots O co wr) := Lib.hid
      { ms := HMm.out.block (hb1.block _ (by rw [HSz.out]; omega))
        own := by
          rcases hO with e | ⟨g, rfl, h1, h2, h3⟩
          · exact .inl e
          · rw [HSz.out] at h3; exact .inr h3
        re := Rea.start t roots
        sl := fun x hx => (List.not_mem_nil hx).elim
        b64 := H64.out
        bw := HBa.out.trans (hb1.mono (by rw [HSz.out]; omega))
        mw := Nat.le_refl _
        ll := by simpa using hll }
    clear hO hb1 hmk HCl
    go_wp2_with fail
    go_step3
    have hmw := HJ.out.mw
    have hbs := HJ.out.bw.size
    have hSl : ([] : List Int).length ≤ (liveA t).length := nodup_len HJ.out.ms.nd fun x hx => liveA_mem.2 (HJ.out.sl x hx)
    have hLl := HJ.out.ll
    by_cases hL : roots = []
    · have d0 : ((roots.length : Int) == 0) = true := by rw [hL]; rfl
      have HRe : Hid (Rea t roots ([] : List Int) []) := Lib.hid (HJ.out.re.empty hL)
      clear hL
      go_wp2_with fail
      simp only [Exit.jump]
      go_ret
      exact ⟨w.heap.size, ([] : List Int), rfl, HJ.out.mw, HJ.out.ms, HRe.out.done HI.out, HJ.out.bw⟩
    · obtain ⟨L1, r, hLr⟩ : ∃ L1 r, roots = L1 ++ [r] := ⟨roots.dropLast, roots.getLast hL, (List.dropLast_concat_getLast hL).symm⟩
      have hN : roots.length = L1.length + 1 := by rw [hLr, List.length_append]; rfl
      have hown := HJ.out.own.resolve_left hL
      obtain ⟨gL, hOO, hgb, hgl, hcap, hat⟩ := own_parts hown (by omega)
      have hr64 := HJ.out.b64 r (by rw [hLr]; simp)
      have q0 : wr.cell? ⟨gL, L1.length, none⟩ = some (.int .i64 r) := hat L1.length r (by rw [hLr, List.getElem?_append_right (Nat.le_refl _)]; simp)
      have HOwn : Hid (OwnR 3 1 inW (w.heap.size + 1) wr (.slice (some ⟨gL, 0, none⟩) L1.length co) L1) := Lib.hid (by
        have := OwnR.cut (f := inW) (fun _ => rfl) hown (by omega) L1.length (by omega)
        rw [hLr, List.take_left, hOO] at this; exact this)
      have hRe : Rea t roots ([] : List Int) (L1 ++ [r]) := by rw [← hLr]; exact HJ.out.re
      have h64L : B64s L1 := fun x hx => HJ.out.b64 x (by rw [hLr]; exact List.mem_append_left _ hx)
      have HRe := Lib.hid hRe
      have H64L := Lib.hid h64L
      have HLive := Lib.hid (plive_any (HA.out.below HJ.out.bw) r hr64)
      have hlk := HJ.out.ms.look hr64
      have d0 : ((roots.length : Int) == 0) = false := by simp; exact hL
      have e1 : (roots.length : Int) - 1 = (L1.length : Int) := by omega
      have e2 : wrap64 ((roots.length : Int) - 1) = (L1.length : Int) := by simp only [wrap64]; omega
      have hi1 : (L1.length : Int) < (roots.length : Int) := by omega
      have hi2 : (0 : Int) ≤ (L1.length : Int) := by omega
      have HMu := Lib.hid hN
      subst hOO
      clear hown hat hL hRe h64L hN hLr
      generalize hNN : L1.length = NN at *
      have HNN := Lib.hid hNN
      clear hNN
      go_wp2_with fail
      refine HLive.out.mono ?_; rintro e w2 ⟨rfl, rfl⟩
      cases hv : live t r with
      | false =>
        clear hlk
        go_wp2_with fail
        go_step3
        refine ⟨rfl, w.heap.size, ([] : List Int), L1, some ⟨gL, 0, none⟩, co, _, _, _, _, _, _, _, _, _, _, _, _, _, _, _, _, _, _, _, _, _, _, _, _, _, _, _, _, _, _, _, _, _, _, _, _, _, _, _, _, _, _, _, by rw [HNN.out], ?_⟩
        exact { ms := HJ.out.ms, own := .inr (by rw [HNN.out]; exact HOwn.out), re := HRe.out.skip (.inl hv), sl := HJ.out.sl, b64 := H64L.out, bw := HJ.out.bw, mw := hmw, ll := by rw [HNN.out]; omega }
      | true =>
        by_cases hm : r ∈ ([] : List Int)
        · rw [decide_eq_true hm] at hlk
          go_wp2_with fail
          go_step3
          refine ⟨rfl, w.heap.size, ([] : List Int), L1, some ⟨gL, 0, none⟩, co, _, _, _, _, _, _, _, _, _, _, _, _, _, _, _, _, _, _, _, _, _, _, _, _, _, _, _, _, _, _, _, _, _, _, _, _, _, _, _, _, _, _, _, by rw [HNN.out], ?_⟩
          exact { ms := HJ.out.ms, own := .inr (by rw [HNN.out]; exact HOwn.out), re := HRe.out.skip (.inr hm), sl := HJ.out.sl, b64 := H64L.out, bw := HJ.out.bw, mw := hmw, ll := by rw [HNN.out]; omega }
        · rw [decide_eq_false hm] at hlk
          obtain ⟨n, hn⟩ := live_iff.1 hv
          obtain ⟨i, hi, hin⟩ := ndAt_some hn
          have hil : i < t.length := by have := live_bound hv; omega
          have hSlt : ([] : List Int).length + 1 ≤ (liveA t).length := by
            have := nodup_len (S := ([] : List Int) ++ [r]) (T := liveA t) (List.nodup_append.2 ⟨HJ.out.ms.nd, by simp, fun y hy z hz => by rintro rfl; exact hm (List.mem_singleton.1 hz ▸ hy)⟩) fun x hx => by
              rcases List.mem_append.1 hx with hx | hx
              · exact liveA_mem.2 (HJ.out.sl x hx)
              · rw [List.mem_singleton.1 hx]; exact liveA_mem.2 hv
            rw [List.length_append] at this
            exact this
          obtain ⟨w3, hup, hms3, hg3⟩ := HJ.out.ms.put (by unfold maxLen; omega) hr64 hm
          have hbw3 : Below w.heap.size w w3 := HJ.out.bw.grown hg3 hbs (fun k hk => by cases hk; exact hmw)
          have hA3 := HA.out.below hbw3
          obtain ⟨gS, q, hAS, hgS, hq, s0, _⟩ := hA3.slot hil
          obtain ⟨g, hq1, hnd⟩ := hA3.at1 i n hin
          rw [hq] at hq1
          cases hq1
          change w3.cell? ⟨gS, i, none⟩ = some (.pointer (some ⟨g, 0, none⟩)) at s0
          obtain ⟨_, B, cb, C, cc, ⟨m0, m1, m2, m3⟩, hB, hC⟩ := hnd
          have b1 : w3.cell? ⟨g, 1, none⟩ = some (.slice B n.refs.length cb) := m1
          have c1 := hA3.c1
          rw [hAS] at c1
          have hfn := HFt.out r n hn
          have hrl := hfn.1.1
          have er : r - 1 = (i : Int) := by omega
          have hwi : IntKind.i64.wrap (i : Int) = (i : Int) := by rw [IntKind.wrap_i64]; omega
          have HOwn3 : Hid (OwnR 3 1 inW (w.heap.size + 1) w3 (.slice (some ⟨gL, 0, none⟩) NN co) L1) := Lib.hid (own_blk HOwn.out fun g' o e => by cases e; exact hg3.block _ hgl fun e => by cases e; omega)
          have HRe3 := Lib.hid (HRe.out.next hn)
          have H64n := Lib.hid hfn.2.1
          have HB3 := Lib.hid hB
          have HBw3 := Lib.hid hbw3
          have HMs3 := Lib.hid hms3
          have HSl3 : Hid (∀ x ∈ ([] : List Int) ++ [r], live t x = true) := Lib.hid fun x hx => by
            rcases List.mem_append.1 hx with hx | hx
            · exact HJ.out.sl x hx
            · rw [List.mem_singleton.1 hx]; exact hv
          have hz3 : w.heap.size + 1 ≤ w3.heap.size := by have := HMs3.out.lt; omega
          have hli : (i : Int) < (t.length : Int) := by omega
          generalize t.length = TN at *
          clear hq hA3 hn hi hin hms3 hg3 hbw3 m0 m2 m3 hB hC hAS hfn m1 HLive HOwn HRe
          by_cases hne : n.refs = []
          · rw [hne] at b1 HRe3
            go_wp2_with (at_builtin; refine of_stop ?_)
            refine stop_of ?_
            refine wpList_append_zero rfl _ _ 33 rfl 3 i0 Tryd.underlying33 hi0 ⟨gL, 0, none⟩ NN co (by omega) B cb rfl rfl ?_
            go_wp2_with fail
            go_step3
            refine ⟨rfl, w.heap.size, (([] : List Int) ++ [r]), (L1 ++ []), some ⟨gL, 0, none⟩, co, _, _, _, _, _, _, _, _, _, _, _, _, _, _, _, _, _, _, _, _, _, _, _, _, _, _, _, _, _, _, _, _, _, _, _, _, _, _, _, _, _, _, _, by rw [List.append_nil, HNN.out], ?_⟩
            exact { ms := HMs3.out, own := .inr (by rw [List.append_nil, HNN.out]; exact HOwn3.out), re := HRe3.out, sl := HSl3.out, b64 := by rw [List.append_nil]; exact H64L.out, bw := HBw3.out, mw := hmw, ll := by rw [List.append_nil, HNN.out, List.length_append]; simp; omega }
          · rcases HB3.out with e | ⟨g5, o5, rfl, _, _, hc5⟩
            · exact absurd e hne
            have hpos : 0 < n.refs.length := List.length_pos_iff.2 hne
            have HC5 := Lib.hid hc5
            clear hc5
            go_wp2_with (at_builtin; refine of_stop ?_)
            refine stop_of ?_
            refine wpList_append_long (f := inW) (n := 1) (E := 3) (nb := 8) (X := L1) (base := w.heap.size + 1) rfl _ _ rfl rfl HOwn3.out (L2 := n.refs) rfl (fun i x hi j u hj => ?_) hpos (N := (L1 ++ n.refs).length) (by rw [List.length_append]) (Z := L1 ++ n.refs) rfl Tryd.underlying33 hi0 hz0 hz1 hz2 rfl (by decide) (fun _ => rfl) inW_one (by rw [HNN.out]; omega) (by rw [HNN.out]; omega) hz3 ?_
            · have := HC5.out i x hi
              cases j with
              | zero => rw [← Option.some.inj hj, Nat.mul_one]; exact this
              | succ j => simp [inW] at hj
            intro g6 k6 w6 ho6 hg6 hat6 hl6
            have HO6 := Lib.hid ho6
            have hb6 : Below w.heap.size w w6 := HBw3.out.grown hg6 HBw3.out.size (fun k hk => by have := (World.ownsRow.lt HOwn3.out k hk).1; omega)
            have hm6 : MapS w6 w.heap.size (([] : List Int) ++ [r]) := HMs3.out.block (hg6.block w.heap.size HMs3.out.lt fun e => by have := (World.ownsRow.lt HOwn3.out w.heap.size e.symm).1; omega)
            have HB6 := Lib.hid hb6
            have HM6 := Lib.hid hm6
            clear ho6 hg6 hat6 hl6 hb6 hm6
            go_wp2_with fail
            go_step3
            refine ⟨rfl, w.heap.size, (([] : List Int) ++ [r]), (L1 ++ n.refs), some ⟨g6, 0, none⟩, k6, _, _, _, _, _, _, _, _, _, _, _, _, _, _, _, _, _, _, _, _, _, _, _, _, _, _, _, _, _, _, _, _, _, _, _, _, _, _, _, _, _, _, _, by rw [List.length_append], ?_⟩
            exact { ms := HM6.out, own := .inr HO6.out, re := HRe3.out, sl := HSl3.out, b64 := fun x hx => (List.mem_append.1 hx).elim (H64L.out x) (H64n.out x), bw := HB6.out, mw := hmw, ll := by rw [List.length_append, List.length_append, HNN.out]; simp; omega }
  · rintro a' wr ⟨m, S, L, O, co, u7, u8, u9, u10, u11, u12, u13, u14, u15, u16, u17, u18, u19, u20, u21, u22, u23, u24, u25, u26, u27, u28, u29, u30, u31, u32, u33, u34, u35, u36, u37, u38, u39, u40, u41, u42, u43, u44, u45, u46, u47, u48, u49, rfl, hJ⟩
    have HJ := Lib.hid hJ
    clear hJ hmk HCl
    have hmw := HJ.out.mw
    have hbs := HJ.out.bw.size
    have hSl : S.length ≤ (liveA t).length := nodup_len HJ.out.ms.nd fun x hx => liveA_mem.2 (HJ.out.sl x hx)
    have hLl := HJ.out.ll
    by_cases hL : L = []
    · have d0 : ((L.length : Int) == 0) = true := by rw [hL]; rfl
      have HRe : Hid (Rea t roots S []) := Lib.hid (HJ.out.re.empty hL)
      clear hL
      go_wp2_with fail
      simp only [Exit.jump]
      go_ret
      exact ⟨m, S, rfl, HJ.out.mw, HJ.out.ms, HRe.out.done HI.out, HJ.out.bw⟩
    · obtain ⟨L1, r, hLr⟩ : ∃ L1 r, L = L1 ++ [r] := ⟨L.dropLast, L.getLast hL, (List.dropLast_concat_getLast hL).symm⟩
      have hN : L.length = L1.length + 1 := by rw [hLr, List.length_append]; rfl
      have hown := HJ.out.own.resolve_left hL
      obtain ⟨gL, hOO, hgb, hgl, hcap, hat⟩ := own_parts hown (by omega)
      have hr64 := HJ.out.b64 r (by rw [hLr]; simp)
      have q0 : wr.cell? ⟨gL, L1.length, none⟩ = some (.int .i64 r) := hat L1.length r (by rw [hLr, List.getElem?_append_right (Nat.le_refl _)]; simp)
      have HOwn : Hid (OwnR 3 1 inW (m + 1) wr (.slice (some ⟨gL, 0, none⟩) L1.length co) L1) := Lib.hid (by
        have := OwnR.cut (f := inW) (fun _ => rfl) hown (by omega) L1.length (by omega)
        rw [hLr, List.take_left, hOO] at this; exact this)
      have hRe : Rea t roots S (L1 ++ [r]) := by rw [← hLr]; exact HJ.out.re
      have h64L : B64s L1 := fun x hx => HJ.out.b64 x (by rw [hLr]; exact List.mem_append_left _ hx)
      have HRe := Lib.hid hRe
      have H64L := Lib.hid h64L
      have HLive := Lib.hid (plive_any (HA.out.below HJ.out.bw) r hr64)
      have hlk := HJ.out.ms.look hr64
      have d0 : ((L.length : Int) == 0) = false := by simp; exact hL
      have e1 : (L.length : Int) - 1 = (L1.length : Int) := by omega
      have e2 : wrap64 ((L.length : Int) - 1) = (L1.length : Int) := by simp only [wrap64]; omega
      have hi1 : (L1.length : Int) < (L.length : Int) := by omega
      have hi2 : (0 : Int) ≤ (L1.length : Int) := by omega
      have HMu := Lib.hid hN
      subst hOO
      clear hown hat hL hRe h64L hN hLr
      generalize hNN : L1.length = NN at *
      have HNN := Lib.hid hNN
      clear hNN
      go_wp2_with fail
      refine HLive.out.mono ?_; rintro e w2 ⟨rfl, rfl⟩
      cases hv : live t r with
      | false =>
        clear hlk
        go_wp2_with fail
        go_step3
        refine ⟨rfl, ⟨m, S, L1, some ⟨gL, 0, none⟩, co, _, _, _, _, _, _, _, _, _, _, _, _, _, _, _, _, _, _, _, _, _, _, _, _, _, _, _, _, _, _, _, _, _, _, _, _, _, _, _, _, _, _, _, by rw [HNN.out], ?_⟩, ?_⟩
        · exact { ms := HJ.out.ms, own := .inr (by rw [HNN.out]; exact HOwn.out), re := HRe.out.skip (.inl hv), sl := HJ.out.sl, b64 := H64L.out, bw := HJ.out.bw, mw := hmw, ll := by rw [HNN.out]; omega }
        · simp only [muR]; simp; have := HMu.out; omega
      | true =>
        by_cases hm : r ∈ S
        · rw [decide_eq_true hm] at hlk
          go_wp2_with fail
          go_step3
          refine ⟨rfl, ⟨m, S, L1, some ⟨gL, 0, none⟩, co, _, _, _, _, _, _, _, _, _, _, _, _, _, _, _, _, _, _, _, _, _, _, _, _, _, _, _, _, _, _, _, _, _, _, _, _, _, _, _, _, _, _, _, by rw [HNN.out], ?_⟩, ?_⟩
          · exact { ms := HJ.out.ms, own := .inr (by rw [HNN.out]; exact HOwn.out), re := HRe.out.skip (.inr hm), sl := HJ.out.sl, b64 := H64L.out, bw := HJ.out.bw, mw := hmw, ll := by rw [HNN.out]; omega }
          · simp only [muR]; simp; have := HMu.out; omega
        · rw [decide_eq_false hm] at hlk
          obtain ⟨n, hn⟩ := live_iff.1 hv
          obtain ⟨i, hi, hin⟩ := ndAt_some hn
          have hil : i < t.length := by have := live_bound hv; omega
          have hSlt : S.length + 1 ≤ (liveA t).length := by
            have := nodup_len (S := S ++ [r]) (T := liveA t) (List.nodup_append.2 ⟨HJ.out.ms.nd, by simp, fun y hy z hz => by rintro rfl; exact hm (List.mem_singleton.1 hz ▸ hy)⟩) fun x hx => by
              rcases List.mem_append.1 hx with hx | hx
              · exact liveA_mem.2 (HJ.out.sl x hx)
              · rw [List.mem_singleton.1 hx]; exact liveA_mem.2 hv
            rw [List.length_append] at this
            exact this
          obtain ⟨w3, hup, hms3, hg3⟩ := HJ.out.ms.put (by unfold maxLen; omega) hr64 hm
          have hbw3 : Below w.heap.size w w3 := HJ.out.bw.grown hg3 hbs (fun k hk => by cases hk; exact hmw)
          have hA3 := HA.out.below hbw3
          obtain ⟨gS, q, hAS, hgS, hq, s0, _⟩ := hA3.slot hil
          obtain ⟨g, hq1, hnd⟩ := hA3.at1 i n hin
          rw [hq] at hq1
          cases hq1
          change w3.cell? ⟨gS, i, none⟩ = some (.pointer (some ⟨g, 0, none⟩)) at s0
          obtain ⟨_, B, cb, C, cc, ⟨m0, m1, m2, m3⟩, hB, hC⟩ := hnd
          have b1 : w3.cell? ⟨g, 1, none⟩ = some (.slice B n.refs.length cb) := m1
          have c1 := hA3.c1
          rw [hAS] at c1
          have hfn := HFt.out r n hn
          have hrl := hfn.1.1
          have er : r - 1 = (i : Int) := by omega
          have hwi : IntKind.i64.wrap (i : Int) = (i : Int) := by rw [IntKind.wrap_i64]; omega
          have HOwn3 : Hid (OwnR 3 1 inW (m + 1) w3 (.slice (some ⟨gL, 0, none⟩) NN co) L1) := Lib.hid (own_blk HOwn.out fun g' o e => by cases e; exact hg3.block _ hgl fun e => by cases e; omega)
          have HRe3 := Lib.hid (HRe.out.next hn)
          have H64n := Lib.hid hfn.2.1
          have HB3 := Lib.hid hB
          have HBw3 := Lib.hid hbw3
          have HMs3 := Lib.hid hms3
          have HSl3 : Hid (∀ x ∈ S ++ [r], live t x = true) := Lib.hid fun x hx => by
            rcases List.mem_append.1 hx with hx | hx
            · exact HJ.out.sl x hx
            · rw [List.mem_singleton.1 hx]; exact hv
          have hz3 : m + 1 ≤ w3.heap.size := by have := HMs3.out.lt; omega
          have hli : (i : Int) < (t.length : Int) := by omega
          generalize t.length = TN at *
          clear hq hA3 hn hi hin hms3 hg3 hbw3 m0 m2 m3 hB hC hAS hfn m1 HLive HOwn HRe
          by_cases hne : n.refs = []
          · rw [hne] at b1 HRe3
            go_wp2_with (at_builtin; refine of_stop ?_)
            refine stop_of ?_
            refine wpList_append_zero rfl _ _ 33 rfl 3 i0 Tryd.underlying33 hi0 ⟨gL, 0, none⟩ NN co (by omega) B cb rfl rfl ?_
            go_wp2_with fail
            go_step3
            refine ⟨rfl, ⟨m, (S ++ [r]), (L1 ++ []), some ⟨gL, 0, none⟩, co, _, _, _, _, _, _, _, _, _, _, _, _, _, _, _, _, _, _, _, _, _, _, _, _, _, _, _, _, _, _, _, _, _, _, _, _, _, _, _, _, _, _, _, by rw [List.append_nil, HNN.out], ?_⟩, ?_⟩
            · exact { ms := HMs3.out, own := .inr (by rw [List.append_nil, HNN.out]; exact HOwn3.out), re := HRe3.out, sl := HSl3.out, b64 := by rw [List.append_nil]; exact H64L.out, bw := HBw3.out, mw := hmw, ll := by rw [List.append_nil, HNN.out, List.length_append]; simp; omega }
            · simp only [muR]; simp; rw [HMs3.out.size, HJ.out.ms.size, List.length_append]; have := HMu.out; simp; omega
          · rcases HB3.out with e | ⟨g5, o5, rfl, _, _, hc5⟩
            · exact absurd e hne
            have hpos : 0 < n.refs.length := List.length_pos_iff.2 hne
            have HC5 := Lib.hid hc5
            clear hc5
            go_wp2_with (at_builtin; refine of_stop ?_)
            refine stop_of ?_
            refine wpList_append_long (f := inW) (n := 1) (E := 3) (nb := 8) (X := L1) (base := m + 1) rfl _ _ rfl rfl HOwn3.out (L2 := n.refs) rfl (fun i x hi j u hj => ?_) hpos (N := (L1 ++ n.refs).length) (by rw [List.length_append]) (Z := L1 ++ n.refs) rfl Tryd.underlying33 hi0 hz0 hz1 hz2 rfl (by decide) (fun _ => rfl) inW_one (by rw [HNN.out]; omega) (by rw [HNN.out]; omega) hz3 ?_
            · have := HC5.out i x hi
              cases j with
              | zero => rw [← Option.some.inj hj, Nat.mul_one]; exact this
              | succ j => simp [inW] at hj
            intro g6 k6 w6 ho6 hg6 hat6 hl6
            have HO6 := Lib.hid ho6
            have hb6 : Below w.heap.size w w6 := HBw3.out.grown hg6 HBw3.out.size (fun k hk => by have := (World.ownsRow.lt HOwn3.out k hk).1; omega)
            have hm6 : MapS w6 m (S ++ [r]) := HMs3.out.block (hg6.block m HMs3.out.lt fun e => by have := (World.ownsRow.lt HOwn3.out m e.symm).1; omega)
            have HB6 := Lib.hid hb6
            have HM6 := Lib.hid hm6
            clear ho6 hg6 hat6 hl6 hb6 hm6
            go_wp2_with fail
            go_step3
            refine ⟨rfl, ⟨m, (S ++ [r]), (L1 ++ n.refs), some ⟨g6, 0, none⟩, k6, _, _, _, _, _, _, _, _, _, _, _, _, _, _, _, _, _, _, _, _, _, _, _, _, _, _, _, _, _, _, _, _, _, _, _, _, _, _, _, _, _, _, _, by rw [List.length_append], ?_⟩, ?_⟩
            · exact { ms := HM6.out, own := .inr HO6.out, re := HRe3.out, sl := HSl3.out, b64 := fun x hx => (List.mem_append.1 hx).elim (H64L.out x) (H64n.out x), bw := HB6.out, mw := hmw, ll := by rw [List.length_append, List.length_append, HNN.out]; simp; omega }
            · simp only [muR]; simp; rw [HM6.out.size, HJ.out.ms.size, List.length_append]; have h1 := HMu.out; have h2 := HNN.out; have h3 := hrl; simp; rw [show (liveA t).length - S.length = ((liveA t).length - (S.length + 1)) + 1 by omega, Nat.succ_mul, h1, h2]; exact mu_step _ _ _ h3
end
end Go.Proofs.YtbjbbpbagnlkmaaDoor
namespace Go.Proofs.YtbjbbpbagnlkmaaDoor
open Go.RowKit Go.Maps Go.Sort Go.Shelf
def ColV (t : Sh) (left : Lit → Bool) (ss : List Int) : Prop := ss.Nodup ∧ ∀ x, x ∈ ss ↔ ∃ n, ndAt t x = some n ∧ left (kN n) = false
theorem ColV.start {D : DataW Unit} {t : Sh} (h : Maps9 D t) : ColV t (has D) [] := ⟨List.nodup_nil, fun x => ⟨fun hx => (List.not_mem_nil hx).elim, fun ⟨n, hn, e⟩ => by rw [(h.at_ x n hn).2] at e; cases e⟩⟩
theorem ColV.step {D : DataW Unit} {t : Sh} {left : Lit → Bool} {ss : List Int} (h : Maps9 D t) (hf : FitT t) (hC : ColV t left ss) {kl : Lit} {c : Int} (hlk : left kl = true) (hat : ∀ zd, D.atKey kl zd = .lit (.int .i64 c)) : ColV t (fun z => left z && !z.sameKey kl) (ss ++ [c]) ∧ live t c = true := by
  obtain ⟨k, n, hn, rfl⟩ := h.only kl (has_true_of_atKey hat)
  have hc : c = k := by
    have := (h.at_ k n hn).1
    rw [hat] at this
    unfold hV at this
    simpa using this
  subst hc
  have hkey := lookKeyed.key (key_look (hf _ n hn))
  have hnew : c ∉ ss := fun hx => by
    obtain ⟨m, hm, e⟩ := (hC.2 c).1 hx
    rw [hn] at hm
    cases hm
    rw [hlk] at e; cases e
  refine ⟨⟨List.nodup_append.2 ⟨hC.1, by simp, fun a ha b hb => by rintro rfl; exact hnew (List.mem_singleton.1 hb ▸ ha)⟩, fun x => ?_⟩, live_iff.2 ⟨n, hn⟩⟩
  rw [List.mem_append, List.mem_singleton, hC.2 x]
  constructor
  · rintro (⟨m, hm, e⟩ | rfl)
    · exact ⟨m, hm, by show (left (kN m) && !(kN m).sameKey (kN n)) = false; rw [e]; rfl⟩
    · exact ⟨n, hn, by show (left (kN n) && !(kN n).sameKey (kN n)) = false; rw [WideAt.sameKey_self hkey]; simp⟩
  · rintro ⟨m, hm, e⟩
    change (left (kN m) && !(kN m).sameKey (kN n)) = false at e
    cases hl : left (kN m) with
    | false => exact .inl ⟨m, hm, hl⟩
    | true =>
      rw [hl] at e
      simp only [Bool.true_and, Bool.not_eq_false'] at e
      have e2 := kN_inj (hf x m hm) (hf _ n hn) (WideAt.sameKey_eq e)
      subst e2
      have h1 := (h.at_ x m hm).1
      have h2 := (h.at_ c m hn).1
      rw [h1] at h2
      unfold hV at h2
      exact .inr (by simpa using h2)
theorem ColV.perm {t : Sh} {left : Lit → Bool} {ss : List Int} (hC : ColV t left ss) (hl : ∀ kl, left kl = false) : ss.Perm (liveA t) := by
  refine (List.perm_ext_iff_of_nodup hC.1 ((liveF_up t 1).1.imp fun {a b} hab => by omega)).2 fun x => ?_
  show _ ↔ x ∈ liveA t
  rw [hC.2 x, liveA_mem, live_iff]
  exact ⟨fun ⟨n, hn, _⟩ => ⟨n, hn⟩, fun ⟨n, hn⟩ => ⟨n, hn, hl _⟩⟩
set_option maxRecDepth 100000 in
set_option maxHeartbeats 4000000 in
theorem pvals1_in (n : Nat) (hn : 1 ≤ n) (l Bm b nn : Nat) (D0 : DataW Unit) (t : Sh) (hM : Maps9 D0 t) (hf : FitT t) (J : List Int → World → Prop)
    (hY : ∀ pre x W, J pre W → pre.length < Maps.size D0 → YieldAt Fence.wide (n - 1) Tryd.prog l #[encZ x] W fun e W' => e = .returned (.bool true) ∧ J (pre ++ [x]) W' ∧ KeepsWalks W W')
    (W : World) (hJ : AbidesFrom W.heap.size J) (hm : W.cell? ⟨Bm, 0, none⟩ = some (.map (some b))) (hown : W.ownsMap Tryd.prog 72 (plainElem Tryd.prog 3) b nn D0) (h0 : J [] W) :
    CallsIn Fence.wide n Tryd.prog 40 #[.func (.yield l) #[] #[], .pointer (some ⟨Bm, 0, none⟩)] W fun e W' => (∃ v, e = .returned v) ∧ ∃ ss : List Int, ss.Perm (liveA t) ∧ J ss W' := by
  refine callsIn_of_wp Tryd.func40 rfl trivial ?_ rfl
  simp only [Tryd.ntmps40, List.size_toArray, List.length_cons, List.length_nil, Nat.reduceAdd, Nat.reduceSub, Array.replicate_succ, Array.replicate_zero, List.push_toArray, List.append_toArray, List.nil_append, List.cons_append]
  gi_wp2_with (first
    | (gi_at_range; refine wpListIn_range_own _ rfl _ 57 rfl 72 3 lookKeyed Tryd.underlying57 _ b nn _ rfl hown ?_; intro w0 hrg0 hg0 hs0)
    | gi_in)
  go_frame
  gi_loopw [4] (fun _ wr => ∃ (left : Lit → Bool) (cnt : Nat) (ss : List Int), wr.ranges Tryd.prog 72 (plainElem Tryd.prog 3) b W.heap.size nn D0 left cnt ∧ ss.length + cnt ≤ Maps.size D0 ∧ ColV t left ss ∧ J ss wr)
    (fun _ wr => wr.rangeLeft b W.heap.size)
  case atStart =>
    exact ⟨_, _, [], hrg0, by simp, ColV.start hM, hJ [] W w0 none h0 hg0 (fun r e => by cases e)⟩
  case round =>
    obtain ⟨left, cnt, ss, hrg, hcs, hC, hJs⟩ := hrel
    gi_wp2_with (first
      | (gi_at_next; refine wpListIn_next_ranges _ rfl _ rfl 72 lookKeyed (plainElem Tryd.prog 3) (id : Value → Value) (Value.int .i64) (fun key kl hk => ⟨key, rfl⟩) (fun v y hv => by obtain ⟨c, rfl, _⟩ := plainElem_int_inv Tryd.underlying3 hv; exact ⟨c, rfl⟩) b W.heap.size nn _ _ _ rfl hrg ?_ ?_)
      | gi_in)
    · intro hc0 hl0
      gi_wp2
      go_end0
      exact ⟨⟨_, rfl⟩, ss, hC.perm hl0, hJs⟩
    · intro x c kl yd yp w2 cnt2 hkey hlk hv hat hrg2 hlt hg2 hs2 hen
      obtain ⟨c', ec, ez, _⟩ := plainElem_int_inv Tryd.underlying3 hv
      obtain rfl : c = c' := by simpa using ec
      obtain rfl : yd = .lit (.int .i64 c) := (Prod.mk.inj ez).1
      have hJ2 : J ss w2 := hJ ss wr w2 (some W.heap.size) hJs hg2 (fun r e => by cases e; exact ⟨Nat.le_refl _, hrg.iter_walk⟩)
      obtain ⟨fn, tmps, assign, body, hy, hR⟩ := hY ss c w2 hJ2 (by omega)
      clear hs2
      gi_wp2
      refine hR.mono ?_
      rintro e W3 ⟨rfl, hJ3, hk3⟩
      gi_wp2
      have hrg3 := hrg2.of_walks hk3
      go_roundw
      case rel => exact ⟨_, cnt2, ss ++ [c], hrg3, by simp; omega, (hC.step hM hf hlk hat).1, hJ3⟩
      case measure => rw [hrg3.left_eq, hrg.left_eq]; exact hlt
theorem pvals_gives (n : Nat) (hn : 1 ≤ n) (Bm b nn : Nat) (D0 : DataW Unit) (t : Sh) (hM : Maps9 D0 t) (hf : FitT t) (w : World) (hBm : Bm < w.heap.size) (hm : w.cell? ⟨Bm, 0, none⟩ = some (.map (some b))) (hown : w.ownsMap Tryd.prog 72 (plainElem Tryd.prog 3) b nn D0) :
    SeqGives Fence.wide n Tryd.prog 40 #[.pointer (some ⟨Bm, 0, none⟩)] encZ (fun ss => ss.Perm (liveA t)) (Maps.size D0) w := fun l J W hW hJ hY h0 =>
  pvals1_in n hn l Bm b nn D0 t hM hf J hY W hJ ((hW.cell (p := ⟨Bm, 0, none⟩) hBm).trans hm) (own_block hown (hW.block b hown.lt)) h0
theorem sortsA9 (m : Nat) : AnyZI.SortsIn Tryd.prog Tryd.sortedA_ren Fence.wide m :=
  ⟨fun blk off cap ss W hH hblk hsz => callsIn_wide.2 (AnyM.slices_Sort_int Tryd.sortA blk off cap ss W hH hblk hsz),
   fun p cap W => callsIn_wide.2 (AnyM.slices_Sort_int_none Tryd.sortA p cap W)⟩
theorem rowI_of_own {w : World} {base : Nat} {v : Value} {l : List Int} (h : w.ownsRow base 3 1 v l.length (l.map encZ)) : ∃ O co, v = .slice O l.length co ∧ RowI w (fun g => base ≤ g) O l := by
  have hm : l.map encZ = l.flatMap inW := by
    rw [List.map_eq_flatMap]; rfl
  rw [hm] at h
  obtain ⟨O, co, e, _, hc⟩ := OwnR.shape (f := inW) (n := 1) (fun _ => rfl) (show OwnR 3 1 inW base w v l from h)
  refine ⟨O, co, e, ?_⟩
  by_cases hne : l = []
  · exact .inl hne
  · obtain ⟨g, o, e', hat⟩ := hc hne
    have hob : v.ownBlock = some g := by rw [e, e']; rfl
    have hl := World.ownsRow.lt h g hob
    exact .inr ⟨g, o, e', hl.1, hl.2, fun j x hj => by have := hat j x hj 0 _ rfl; simpa using this⟩
theorem psorted_of {w : World} (g : Nat) (lb : Array Value) (eg : ∀ args w, (callFunc g args).run Tryd.prog w = .ok (.enter g args) w) {t : Sh} (S : List Int → Prop) (hS : ∀ ss, S ss → ss.Perm (liveA t)) (N : Nat) (hN : N ≤ 65536) (hseq : SeqGives Fence.wide 2 Tryd.prog g lb encZ S N w) :
    Calls Tryd.prog 25 #[.func (.func g) #[] lb] w fun e w' => ∃ O co, e = .returned (.slice O (liveA t).length co) ∧ RowI w' (fun k => w.heap.size ≤ k) O (liveA t) ∧ Below w.heap.size w w' := by
  have cS := AnyZI.sorted_in Tryd.sortedA Fence.wide 5 trivial trivial trivial trivial rfl (by omega) (sortsA9 _) (enters_of Tryd.func39 (by kernel_rfl) rfl) g lb trivial eg _ _ (by unfold maxLen; omega) (by omega) w hseq
  refine (callsIn_wide.1 cS).mono fun e w' ⟨v, ss, he, hs, hrow, _, hb⟩ => ?_
  have e1 := sorted_live (hS ss hs)
  have e2 := (hS ss hs).length_eq
  rw [e1, e2] at hrow
  obtain ⟨O, co, hv, hr⟩ := rowI_of_own hrow
  exact ⟨O, co, by rw [he, hv], hr, hb⟩
end Go.Proofs.YtbjbbpbagnlkmaaDoor
namespace Go.Proofs.YtbjbbpbagnlkmaaDoor
open Go.RowKit
theorem RowN.at {w : World} {P : Nat → Prop} {A : Option Addr} {l : List Nd} (h : RowN w P A l) {i : Nat} (hi : i < l.length) : ∃ g o, A = some ⟨g, o, none⟩ ∧ P g ∧ g < w.heap.size ∧
    ∀ (i : Nat) (n : Nd), l[i]? = some n → ∃ B cb C cc, At4 w g (o + i * 4) n B cb C cc ∧ RowI w P B n.refs ∧ RowI w P C n.nums := by
  rcases h with rfl | h
  · simp at hi
  · exact h
theorem wrong_next {s : Sh} {l : List Nd} {i : Nat} {n : Nd} (hi : l[i]? = some n) (h : n.refs.all (okRef s i) = true) : wrongF s i (l.drop i) = wrongF s (i + 1) (l.drop (i + 1)) := by
  obtain ⟨hl, he⟩ := List.getElem?_eq_some_iff.1 hi
  rw [List.drop_eq_getElem_cons hl, wrongF, he, h]; rfl
theorem wrong_yes {s : Sh} {l : List Nd} {i k : Nat} {n : Nd} {r : Int} (hi : l[i]? = some n) (hk : n.refs[k]? = some r) (h : okRef s i r = false) : wrongF s i (l.drop i) = true := by
  obtain ⟨hl, he⟩ := List.getElem?_eq_some_iff.1 hi
  have : n.refs.all (okRef s i) = false := by
    rw [Bool.eq_false_iff]
    intro hh
    have := List.all_eq_true.1 hh r (List.mem_of_getElem? hk)
    rw [h] at this; cases this
  rw [List.drop_eq_getElem_cons hl, wrongF, he, this]; rfl
theorem all_next {p : Int → Bool} {l : List Int} {k : Nat} {r : Int} (hk : l[k]? = some r) (h : (l.take k).all p = true) (hr : p r = true) : (l.take (k + 1)).all p = true := by
  rw [List.take_add_one, hk, List.all_append, h]
  simp [hr]
end Go.Proofs.YtbjbbpbagnlkmaaDoor
namespace Go.Proofs.YtbjbbpbagnlkmaaDoor
open Go.RowKit
def getN (s : Sh) (h : Int) : Nd := (ndAt s h).getD nd0
def getE (s : Sh) (h : Int) : Int := if live s h = true then 0 else 4
end Go.Proofs.YtbjbbpbagnlkmaaDoor
namespace Go.Proofs.YtbjbbpbagnlkmaaDoor
open Go.RowKit
theorem OwnR.block {α : Type} {E : TypeId} {n : Nat} {f : α → List Value} {base : Nat} {w w' : World} {v : Value} {L : List α} (h : OwnR E n f base w v L) (hb : ∀ k, v.ownBlock = some k → w'.heap[k]? = w.heap[k]?) : OwnR E n f base w' v L := by
  obtain ⟨h1, h2⟩ := h
  refine ⟨h1, ?_⟩
  rcases h2 with h2 | ⟨g, cap, cur, hv, hbs, hg, rest⟩
  · exact .inl h2
  · exact .inr ⟨g, cap, cur, hv, hbs, (hb g (by rw [hv]; rfl)).trans hg, rest⟩
theorem okRef_low {s : Sh} {i : Nat} {r : Int} (h : okRef s i r = true) : -(i : Int) ≤ r := by
  unfold okRef at h
  simp only [Bool.or_eq_true, decide_eq_true_eq, Bool.and_eq_true] at h
  rcases h with (h | h) | h
  · omega
  · have := (live_bound h).1; omega
  · exact h.2
section
variable {w w' : World} {P Q : Nat → Prop} {m gN cN gB cB room : Nat} {nds : List Nd} {bs : List Bool}
theorem RM.tight (h : RM w P m gN cN gB cB room nds bs) : RM w (fun g => P g ∧ g < w.heap.size) m gN cN gB cB room nds bs :=
  { h with
    pM := ⟨h.pM, h.lM⟩
    pN := ⟨h.pN, h.lN⟩
    pB := ⟨h.pB, h.lB⟩
    rows := fun i n hi => by
      obtain ⟨B, cb, C, cc, h4, hr, hn⟩ := h.rows i n hi
      exact ⟨B, cb, C, cc, h4, hr.mono fun g hg hl => ⟨⟨hg.1, hl⟩, hg.2⟩, hn.mono fun g hg hl => ⟨⟨hg.1, hl⟩, hg.2⟩⟩ }
theorem RM.cut {nds1 : List Nd} {bs1 : List Bool} (h : RM w P m gN cN gB cB room nds1 bs1) {gW kW : Nat} (hl : bs.length ≤ bs1.length) (h1 : 1 ≤ bs.length) (hW : AtR boV 1 w gW 0 bs) (hF : ∀ j, w.frozen? ⟨gW, j, none⟩ = false) (hP : ¬ P gW) (hlt : gW < w.heap.size) :
    RM ((w.setCell ⟨m, 2, none⟩ (.slice (some ⟨gW, 0, none⟩) bs.length kW)).setCell ⟨m, 1, none⟩ (.slice (some ⟨gN, 0, none⟩) bs.length cN)) (fun g => P g ∨ g = gW) m gN cN gW kW room (nds1.take bs.length) bs := by
  have hlen := h.len
  have hm : m ≠ gW := fun e => hP (e ▸ h.pM)
  have hN : gN ≠ gW := fun e => hP (e ▸ h.pN)
  have hmc := (h.mc.set2 (.slice (some ⟨gW, 0, none⟩) bs.length kW)).set1 (.slice (some ⟨gN, 0, none⟩) bs.length cN)
  have hbut : ButS (fun g => g = m) w ((w.setCell ⟨m, 2, none⟩ (.slice (some ⟨gW, 0, none⟩) bs.length kW)).setCell ⟨m, 1, none⟩ (.slice (some ⟨gN, 0, none⟩) bs.length cN)) := ((ButS.refl (fun g => g = m) w).setCell (p := ⟨m, 2, none⟩) (.inl rfl) _).setCell (p := ⟨m, 1, none⟩) (.inl rfl) _
  have hfr : ∀ p, ((w.setCell ⟨m, 2, none⟩ (.slice (some ⟨gW, 0, none⟩) bs.length kW)).setCell ⟨m, 1, none⟩ (.slice (some ⟨gN, 0, none⟩) bs.length cN)).frozen? p = w.frozen? p := fun p => by rw [World.frozen?_setCell, World.frozen?_setCell]
  have e1 : (nds1.take bs.length).length = bs.length := by rw [List.length_take]; omega
  have hnM : gN ≠ m := h.nMN.symm
  have hkI : ∀ (A : Option Addr) (l : List Int), RowI w (fun g => P g ∧ g ≠ m ∧ g ≠ gN ∧ g ≠ gB) A l → RowI ((w.setCell ⟨m, 2, none⟩ (.slice (some ⟨gW, 0, none⟩) bs.length kW)).setCell ⟨m, 1, none⟩ (.slice (some ⟨gN, 0, none⟩) bs.length cN)) (fun g => (P g ∨ g = gW) ∧ g ≠ m ∧ g ≠ gN ∧ g ≠ gW) A l := fun A l hR =>
    (hR.mono (Q := fun g => (P g ∨ g = gW) ∧ g ≠ m ∧ g ≠ gN ∧ g ≠ gW) fun g hg _ => ⟨.inl hg.1, hg.2.1, hg.2.2.1, fun e => hP (e ▸ hg.1)⟩).kept (hbut.keptQ fun g hg => hg.2.1)
  refine ⟨hmc.c0, by rw [e1]; exact hmc.c1, hmc.c2, hmc.fM, fun j => by rw [hfr]; exact h.fN j, fun j => by rw [hfr]; exact hF j, .inl h.pM, .inl h.pN, .inr rfl, h.nMN, hm, hN, Nat.lt_of_lt_of_le h.lN hbut.size, Nat.lt_of_lt_of_le hlt hbut.size, fun i n hi => ?_, fun i b hi => hbut.cell (by exact hm.symm) (bits_atR hW i b hi), e1, h1, by have := h.cap; omega, h.small, fun n hn => h.wide n (List.mem_of_mem_take hn), by rw [e1]; have := h.room'; omega⟩
  rw [List.getElem?_take] at hi
  split at hi
  · obtain ⟨B, cb, C, cc, ⟨q0, q1, q2, q3⟩, hR, hN'⟩ := h.rows i n hi
    exact ⟨B, cb, C, cc, ⟨hbut.cell hnM q0, hbut.cell hnM q1, hbut.cell hnM q2, hbut.cell hnM q3⟩, hkI _ _ hR, hkI _ _ hN'⟩
  · cases hi
def PutP (w : World) (P : Nat → Prop) (m room : Nat) (nds : List Nd) (bs : List Bool) (l : List Nd) (e : Ending) (w' : World) : Prop :=
  ∃ O co gN' cN' gB' cB' nds' bs' out c, e = .returned (.tuple #[.slice O out.length co, .int .i64 ((c : Nat) : Int)]) ∧ putA room (stOf nds bs) l = (stOf nds' bs', out, c) ∧ RowI w' (fun g => w.heap.size ≤ g) O out ∧ RM w' (fun g => P g ∨ w.heap.size ≤ g) m gN' cN' gB' cB' room nds' bs' ∧ ButS P w w'
def LPr (w : World) (P : Nat → Prop) (gW : Nat) (v : Value) (g : Nat) : Prop := ((P g ∧ g < w.heap.size) ∨ (w.heap.size ≤ g ∧ g ≠ gW)) ∧ ¬ v.ownBlock = some g
structure LoopP (w wr : World) (P : Nat → Prop) (m room : Nat) (nds : List Nd) (bs : List Bool) (gW b : Nat) (out : List Int) (v : Value) (gN1 cN1 gB1 cB1 : Nat) (nds1 : List Nd) (bs1 : List Bool) : Prop where
  rm : RM wr (LPr w P gW v) m gN1 cN1 gB1 cB1 room nds1 bs1
  grew : Grew nds bs nds1 bs1
  but : ButS P w wr
  own : OwnR 3 1 inW b wr v out
  was : AtR boV 1 wr gW 0 bs
  froz : ∀ j, wr.frozen? ⟨gW, j, none⟩ = false
  loW : w.heap.size ≤ gW
  hiW : gW < b
  size : b ≤ wr.heap.size
theorem LPr.old {w : World} {P : Nat → Prop} {gW g : Nat} {v : Value} (h : LPr w P gW v g) (hl : g < w.heap.size) : P g := by
  rcases h.1 with q | q
  · exact q.1
  · omega
theorem LPr.ne {w : World} {P : Nat → Prop} {gW g : Nat} {v : Value} (h : LPr w P gW v g) (hl : w.heap.size ≤ gW) : gW ≠ g := by
  rcases h.1 with q | q
  · have := q.2; omega
  · exact q.2.symm
section
variable {wr w2 w3 : World} {gW b gN1 cN1 gB1 cB1 : Nat} {out : List Int} {v : Value} {nds1 nds' : List Nd} {bs1 bs' : List Bool} {gN' cN' gB' cB' : Nat}
theorem LoopP.one (h : LoopP w wr P m room nds bs gW b out v gN1 cN1 gB1 cB1 nds1 bs1) (hR : RM w2 (fun g => LPr w P gW v g ∨ wr.heap.size ≤ g) m gN' cN' gB' cB' room nds' bs') (hG : Grew nds1 bs1 nds' bs')
    (hB : ButS (fun g => g = m ∨ g = gN1 ∨ g = gB1) wr w2) : LoopP w w2 P m room nds bs gW b out v gN' cN' gB' cB' nds' bs' := by
  have hs := h.size
  have h4 := h.loW
  have h5 := h.hiW
  have hlt : ∀ k, v.ownBlock = some k → b ≤ k ∧ k < wr.heap.size := fun k hk => World.ownsRow.lt h.own k hk
  have hoff : ∀ k, v.ownBlock = some k → ¬ (k = m ∨ k = gN1 ∨ k = gB1) := fun k hk e => by
    rcases e with rfl | rfl | rfl
    · exact h.rm.pM.2 hk
    · exact h.rm.pN.2 hk
    · exact h.rm.pB.2 hk
  have hWoff : ¬ (gW = m ∨ gW = gN1 ∨ gW = gB1) := fun e => by
    rcases e with e | e | e
    · exact h.rm.pM.ne h4 e
    · exact h.rm.pN.ne h4 e
    · exact h.rm.pB.ne h4 e
  refine ⟨hR.mono fun g hg => ?_, h.grew.trans hG, h.but.trans' hB fun g hg e => ?_, OwnR.block h.own fun k hk => hB.block k (hlt k hk).2 (hoff k hk), fun i q hi j u hj => hB.cell (by exact hWoff) (h.was i q hi j u hj), fun j => hB.frozen (by exact hWoff) (by show gW < _; omega) (h.froz j), h4, h5, Nat.le_trans hs hB.size⟩
  · rcases hg with hg | hg
    · exact hg
    · exact ⟨.inr ⟨by omega, by omega⟩, fun e => by have := (hlt g e).2; omega⟩
  · rcases e with rfl | rfl | rfl
    · exact h.rm.pM.old hg
    · exact h.rm.pN.old hg
    · exact h.rm.pB.old hg
theorem LoopP.app {y : Int} {T : TypeId} {g N k : Nat} {L' : List Int} (h : LoopP w wr P m room nds bs gW b out v gN1 cN1 gB1 cB1 nds1 bs1) (hg : (wr.alloc (.cells #[.int .i64 y] T)).grownBy w3 v.ownBlock) (ho : OwnR 3 1 inW b w3 (.slice (some ⟨g, 0, none⟩) N k) L') (hat : v.ownBlock = some g ∨ g = (wr.alloc (.cells #[.int .i64 y] T)).heap.size) :
    LoopP w w3 P m room nds bs gW b L' (.slice (some ⟨g, 0, none⟩) N k) gN1 cN1 gB1 cB1 nds1 bs1 := by
  have hs := h.size
  have h4 := h.loW
  have h5 := h.hiW
  have hlt : ∀ k, v.ownBlock = some k → b ≤ k ∧ k < wr.heap.size := fun k hk => World.ownsRow.lt h.own k hk
  have hgr : wr.heap.size ≤ w3.heap.size := by have := hg.size; simp at this; omega
  have hbl : ∀ k, k < wr.heap.size → some k ≠ v.ownBlock → w3.heap[k]? = wr.heap[k]? := fun k hk hn => (hg.block k (by simp; omega) hn).trans (Below.heap_alloc wr _ k hk)
  have hbut : ButS (fun k => v.ownBlock = some k) wr w3 := ⟨hg.os, hg.tape, hg.output, hgr, fun k hk hn => hbl k hk fun e => hn e.symm⟩
  have hWo : ¬ v.ownBlock = some gW := fun e => by have := (hlt _ e).1; omega
  have hrm := (h.rm.tight.kept (w' := w3) (hbut.keptQ fun g hg => hg.1.2))
  refine ⟨hrm.mono fun g' hg' => ⟨hg'.1.1, fun e => ?_⟩, h.grew, h.but.trans' hbut fun k hk e => ?_, ho, fun i q hi j u hj => hbut.cell (by exact hWo) (h.was i q hi j u hj), fun j => hbut.frozen (by exact hWo) (by show gW < _; omega) (h.froz j), h4, h5, Nat.le_trans hs hgr⟩
  · have e2 := own_of (g := g) (k := g') rfl e
    rcases hat with q | q
    · exact hg'.1.2 (e2 ▸ q)
    · have := hg'.2; simp at q; omega
  · have := (hlt k e).1; omega
end
end
end Go.Proofs.YtbjbbpbagnlkmaaDoor
namespace Go.Proofs.YtbjbbpbagnlkmaaDoor
open Go.RowKit
theorem put_wrong {room : Nat} {s : Sh} {l : List Nd} (h : wrongF s 0 l = true) : putA room s l = (s, [], 1) := by unfold putA; rw [if_pos h]
theorem put_full {room : Nat} {s : Sh} {l : List Nd} (h : wrongF s 0 l = false) (h2 : putL room s [] l = none) : putA room s l = (s, [], 3) := by unfold putA; rw [if_neg (by rw [h]; decide), h2]
theorem put_good {room : Nat} {s s' : Sh} {l : List Nd} {out : List Int} (h : wrongF s 0 l = false) (h2 : putL room s [] l = some (s', out)) : putA room s l = (s', out, 0) := by unfold putA; rw [if_neg (by rw [h]; decide), h2]
theorem putL_next {room : Nat} {s s' : Sh} {l : List Nd} {i : Nat} {n : Nd} {out : List Int} {k : Int} (hi : l[i]? = some n) (h : oneA room s (asPut out n) = some (s', k)) : putL room s out (l.drop i) = putL room s' (out ++ [k]) (l.drop (i + 1)) := by
  obtain ⟨hl, he⟩ := List.getElem?_eq_some_iff.1 hi
  rw [List.drop_eq_getElem_cons hl, putL, he, h]
theorem putL_stop {room : Nat} {s : Sh} {l : List Nd} {i : Nat} {n : Nd} {out : List Int} (hi : l[i]? = some n) (h : oneA room s (asPut out n) = none) : putL room s out (l.drop i) = none := by
  obtain ⟨hl, he⟩ := List.getElem?_eq_some_iff.1 hi
  rw [List.drop_eq_getElem_cons hl, putL, he, h]
end Go.Proofs.YtbjbbpbagnlkmaaDoor
namespace Go.Proofs.YtbjbbpbagnlkmaaDoor
open Go.RowKit
structure BI (w : World) (g : Nat) (ins : List Bool) : Prop where
  bits : ∀ (i : Nat) (b : Bool), ins[i]? = some b → w.cell? ⟨g, i, none⟩ = some (.bool b)
  froz : ∀ j, w.frozen? ⟨g, j, none⟩ = false
  lt : g < w.heap.size
theorem BI.set {w : World} {g : Nat} {ins : List Bool} (h : BI w g ins) {j : Nat} (hj : j < ins.length) : BI (w.setCell ⟨g, j, none⟩ (.bool true)) g (ins.set j true) := by
  refine ⟨fun i b hi => ?_, fun i => by rw [World.frozen?_setCell]; exact h.froz i, by simpa using h.lt⟩
  by_cases e : j = i
  · subst e
    rw [List.getElem?_set_self hj] at hi
    obtain rfl := Option.some.inj hi
    exact World.cell?_setCell_same _ _ _ (h.bits j _ (List.getElem?_eq_getElem hj))
  · rw [List.getElem?_set_ne e] at hi
    rw [World.cell?_setCell_other _ _ _ _ (fun e' => e (by have := congrArg Addr.off e'; exact this))]
    exact h.bits i b hi
theorem BI.below {w w' : World} {g : Nat} {ins : List Bool} (h : BI w g ins) (hb : Below w.heap.size w w') : BI w' g ins :=
  ⟨fun i b hi => keep_cell hb (h.bits i b hi), fun j => keep_frozen hb (by exact h.lt) (h.froz j), Nat.lt_of_lt_of_le h.lt hb.size⟩
theorem made_bits (n : Nat) : (madeCells (Value.bool false).cells (n * 1)).toList = (List.replicate n false).flatMap boV := by
  apply List.ext_getElem?
  intro i
  by_cases hi : i < n
  · have h1 : ((List.replicate n false).flatMap boV)[i]? = some (.bool false) := by
      have := flatR_at (f := boV) (n := 1) (fun _ => rfl) (List.replicate n false) i false (by rw [List.getElem?_replicate, if_pos hi]) 0 (.bool false) rfl
      simpa using this
    rw [h1]
    simp [madeCells, hi, Value.cells, Nat.mod_one]
  · rw [List.getElem?_eq_none_iff.2 (by simp [madeCells]; omega), List.getElem?_eq_none_iff.2 (by rw [flatR_len (f := boV) (n := 1) (fun _ => rfl)]; simp; omega)]
theorem BI.made {w : World} {base g n c : Nat} (h : w.ownsRow base 4 1 (.slice (some ⟨g, 0, none⟩) n c) n (madeCells (Value.bool false).cells (n * 1)).toList) : BI w g (List.replicate n false) := by
  rw [made_bits] at h
  have ho : OwnR 4 1 boV base w (.slice (some ⟨g, 0, none⟩) n c) (List.replicate n false) := by unfold OwnR; rw [List.length_replicate]; exact h
  exact ⟨bits_atR (OwnR.at (fun _ => rfl) ho (by rw [List.length_replicate])), World.ownsRow.frozenAt h, (World.ownsRow.lt h g rfl).2⟩
structure MkI (s : Sh) (roots : List Int) (n : Nat) (ins : List Bool) : Prop where
  len : ins.length = n
  sound : ∀ j : Nat, ins[j]? = some true → 1 ≤ j ∧ Rch s roots (j : Int)
theorem MkI.set {s : Sh} {roots : List Int} {n : Nat} {ins : List Bool} {i : Nat} (h : MkI s roots n ins) (h1 : 1 ≤ i) (hr : Rch s roots (i : Int)) : MkI s roots n (ins.set i true) :=
  ⟨by rw [List.length_set]; exact h.len, fun j hj => by
    by_cases e : i = j
    · subst e; exact ⟨h1, hr⟩
    · rw [List.getElem?_set_ne e] at hj; exact h.sound j hj⟩
end Go.Proofs.YtbjbbpbagnlkmaaDoor
namespace Go.Proofs.YtbjbbpbagnlkmaaDoor
open Go.RowKit
theorem sweep_yes {s : Sh} {roots : List Int} (h : roots.all (fun r => decide (r = 0) || live s r) = true) : sweepA s roots = (leftA s roots, (liveA s).length - (reachA s roots).length, 0) := by
  unfold sweepA; rw [if_pos h]
end Go.Proofs.YtbjbbpbagnlkmaaDoor
namespace Go.Proofs.YtbjbbpbagnlkmaaDoor
open Go.RowKit Go.Maps Go.Sort Go.Shelf
set_option maxHeartbeats 4000000 in
set_option maxRecDepth 10000 in
theorem pValues_any (mb : Option Nat) (w : World) : Calls Tryd.prog 26 #[.map mb] w fun e w' => e = .returned (.func (.func 40) #[] #[.pointer (some ⟨w.heap.size, 0, none⟩)]) ∧ w' = w.alloc (.cells #[.map mb] 57) := by
  go_enter Tryd.func26, Tryd.ntmps26
  go_wp2_with fail
  go_ret
  exact ⟨rfl, rfl⟩
set_option maxHeartbeats 4000000 in
set_option maxRecDepth 10000 in
theorem pKeys_any (mb : Option Nat) (w : World) : Calls Tryd.prog 35 #[.map mb] w fun e w' => e = .returned (.func (.func 45) #[] #[.pointer (some ⟨w.heap.size, 0, none⟩)]) ∧ w' = w.alloc (.cells #[.map mb] 79) := by
  go_enter Tryd.func35, Tryd.ntmps35
  go_wp2_with fail
  go_ret
  exact ⟨rfl, rfl⟩
section
variable {w : World} {K : Nat → Prop} {a room cS bK low : Nat} {ps : List (Option Nat)} {t : Sh} {SA : Option Addr}
set_option maxHeartbeats 8000000 in
set_option maxRecDepth 10000 in
theorem pLive_any (h : AR w K a room ps t t SA cS bK low) (hft : FitT t) : Calls Tryd.prog 11 #[.pointer (some ⟨a, 0, none⟩)] w fun e w' => ∃ O co, e = .returned (.slice O (liveA t).length co) ∧ RowI w' (fun g => w.heap.size ≤ g) O (liveA t) ∧ Below w.heap.size w w' := by
  have c2 := h.c2
  have hba : Below w.heap.size w (w.alloc (.cells #[.map (some bK)] 57)) := (Below.refl _ _).alloc (Nat.le_refl _) _
  have hblk := (MapKept.heap_alloc w (.cells #[.map (some bK)] 57)).1
  obtain ⟨D, hD, hM⟩ := (h.below hba).map
  have hsz := (MapA.size hD hM).1
  have hlv : (liveA t).length ≤ 65536 := by
    have := liveF_len t 1
    have := h.len
    have := h.wide
    unfold liveA; omega
  have hcell : (w.alloc (.cells #[.map (some bK)] 57)).cell? ⟨w.heap.size, 0, none⟩ = some (.map (some bK)) := by rw [Lib.cell_of_heap hblk]; rfl
  have HS := Lib.hid (psorted_of 40 #[.pointer (some ⟨w.heap.size, 0, none⟩)] (enters_of Tryd.func40 (by kernel_rfl) rfl) (fun ss => ss.Perm (liveA t)) (fun ss hs => hs) (Maps.size D) (by omega)
    (pvals_gives 2 (by omega) w.heap.size bK _ D t hM hft (w.alloc (.cells #[.map (some bK)] 57)) (by simp) hcell hD))
  have HBa := Lib.hid hba
  clear h hD hM hblk hcell hba
  go_enter Tryd.func11, Tryd.ntmps11
  go_wp2_with fail
  refine (pValues_any (some bK) w).mono ?_; rintro e w1 ⟨rfl, rfl⟩
  go_wp2_with fail
  refine HS.out.mono ?_; rintro e w2 ⟨O, co, rfl, hr, hb⟩
  have HR := Lib.hid hr
  have HB := Lib.hid hb
  clear hr hb
  go_wp2_with fail
  go_ret
  exact ⟨O, co, rfl, HR.out.mono fun g hg _ => Nat.le_trans HBa.out.size hg, HBa.out.trans (HB.out.mono HBa.out.size)⟩
set_option maxHeartbeats 8000000 in
set_option maxRecDepth 10000 in
theorem pReach_any (h : AR w K a room ps t t SA cS bK low) (hft : FitT t) (hI : Inv room t) (roots : List Int) (Q : Nat → Prop) (A : Option Addr) (ca : Nat) (hl : RowI w Q A roots) (hll : roots.length ≤ 1000) (h64 : B64s roots) :
    Calls Tryd.prog 20 #[.pointer (some ⟨a, 0, none⟩), .slice A roots.length ca] w fun e w' => ∃ O co, e = .returned (.slice O (reachA t roots).length co) ∧ RowI w' (fun g => w.heap.size ≤ g) O (reachA t roots) ∧ Below w.heap.size w w' := by
  have HRe := Lib.hid (preached_any h hft hI roots Q A ca hl hll h64)
  have hlv : (liveA t).length ≤ 65536 := by
    have := liveF_len t 1
    have := h.len
    have := h.wide
    unfold liveA; omega
  have HI := Lib.hid hI
  clear h hft hl h64
  go_enter Tryd.func20, Tryd.ntmps20
  go_wp2_with fail
  refine HRe.out.mono ?_; rintro e w1 ⟨m, S, rfl, hm, hms, hS, hb1⟩
  have hba : Below w1.heap.size w1 (w1.alloc (.cells #[.map (some m)] 79)) := (Below.refl _ _).alloc (Nat.le_refl _) _
  have hblk := (MapKept.heap_alloc w1 (.cells #[.map (some m)] 79)).1
  have hcell : (w1.alloc (.cells #[.map (some m)] 79)).cell? ⟨w1.heap.size, 0, none⟩ = some (.map (some m)) := by rw [Lib.cell_of_heap hblk]; rfl
  have hP : S.Perm (liveA (leftA t roots)) := by
    refine (List.perm_ext_iff_of_nodup hms.nd ((liveF_up (leftA t roots) 1).1.imp fun {a b} hab => by omega)).2 fun x => ?_
    show _ ↔ x ∈ liveA (leftA t roots)
    rw [hS x, liveA_mem]
    unfold live
    rw [left_at]
    constructor
    · intro hr
      rw [if_pos hr]
      exact rch_live hI hr
    · intro hl
      by_cases hr : Rch t roots x
      · exact hr
      · rw [if_neg hr] at hl; cases hl
  have hSl : S.length ≤ 65536 := by
    have h1 := hP.length_eq
    have h2 := left_len t roots
    unfold reachA at h2
    omega
  obtain ⟨D, hD, hnd, hkD, _⟩ := hms.block (Below.heap_alloc w1 (.cells #[.map (some m)] 79) m hms.lt)
  have hpk := keys_wf hD hnd hkD
  have hsz : Maps.size D = S.length := by
    obtain ⟨es, hDe, _⟩ := hD.entries int9Keyed
    rw [hpk.length_eq, hDe]
    show es.length = (es.map _).length
    rw [List.length_map]
  have HS := Lib.hid (psorted_of 45 #[.pointer (some ⟨w1.heap.size, 0, none⟩)] (enters_of Tryd.func45 (by kernel_rfl) rfl) (t := leftA t roots) (fun ss => ss.Perm (intKeys D)) (fun ss hs => hs.trans (hpk.symm.trans hP)) (Maps.size D) (by omega)
    (AnyZI.keys_gives (ρ := Tryd.keysA_ren) { Tryd.keysA with } Fence.wide _ trivial rfl (by omega) w1.heap.size m _ D (w1.alloc (.cells #[.map (some m)] 79)) (by simp) hcell hD))
  have HBa := Lib.hid hba
  have HB1 := Lib.hid hb1
  clear hD hblk hcell hba hms hb1 hP hpk hkD hnd hS hsz HRe
  go_wp2_with fail
  refine (pKeys_any (some m) w1).mono ?_; rintro e w2 ⟨rfl, rfl⟩
  go_wp2_with fail
  refine HS.out.mono ?_; rintro e w2 ⟨O, co, rfl, hr, hb⟩
  have HR := Lib.hid hr
  have HB := Lib.hid hb
  clear hr hb
  go_wp2_with fail
  go_ret
  exact ⟨O, co, rfl, HR.out.mono fun g hg _ => Nat.le_trans (Nat.le_trans HB1.out.size HBa.out.size) hg, HB1.out.trans ((HBa.out.trans (HB.out.mono HBa.out.size)).mono HB1.out.size)⟩
end
end Go.Proofs.YtbjbbpbagnlkmaaDoor
