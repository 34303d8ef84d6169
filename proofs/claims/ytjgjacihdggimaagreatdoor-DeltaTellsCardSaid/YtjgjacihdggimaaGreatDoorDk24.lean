/- Texts joined: NfT, NfVv, NfWr, OaR. -/
import Derived.Test.YtjgjacihdggimaaGreatDoorDk23
import Derived.WalkMore
import Derived.ScopeJumps
import Derived.Shelf.AbstractIn
import Derived.RangeFuncMany
import Derived.RangeFuncLeaves
import Derived.Sort.MapsRangeIn
import Derived.Sort.KeysCollected
import Derived.WalkKit
import Derived.OwnWalkIn
import Derived.TacticsInMore
import Derived.RegionIn
import Derived.LoopNIn
import Derived.LoopIn
import Derived.Test.YtjgjacihdggimaaGreatDoorShelfN
import Derived.Test.YtjgjacihdggimaaGreatDoorDk21
set_option linter.all false
namespace Go.Proofs.YtjgjacihdggimaaGreatDoor
open Go.RowKit Go.Maps
theorem mu_step (X a b : Nat) (h : b ≤ 200) : X + (a + b) < X + 201 + (a + 1) := by omega
theorem Rea.empty {t : Sh} {roots S L : List Int} (h : Rea t roots S L) (hL : L = []) : Rea t roots S [] := by
  subst hL
  exact h
structure RJ (w : World) (t : Sh) (roots : List Int) (m : Nat) (S L : List Int) (O : Option Addr) (co : Nat) (wr : World) : Prop where
  ms : MapS wr m S
  own : L = [] ∨ OwnR 3 1 inW (m + 1) wr (.slice O L.length co) L
  re : Rea t roots S L
  sl : ∀ x ∈ S, live t x = true
  b64 : B64s L
  bw : Below w.heap.size w wr
  mw : w.heap.size ≤ m
  ll : L.length ≤ 1000 + 200 * S.length
def JR (w : World) (a : Nat) (t : Sh) (roots : List Int) (A : Option Addr) (ca : Nat) (a' : Act) (w' : World) : Prop :=
  ∃ (m : Nat) (S L : List Int) (O : Option Addr) (co : Nat) (u7 u8 u9 u10 u11 u12 u13 u14 u15 u16 u17 u18 u19 u20 u21 u22 u23 u24 u25 u26 u27 u28 u29 u30 u31 u32 u33 u34 u35 u36 u37 u38 u39 u40 u41 u42 u43 u44 u45 u46 u47 u48 u49 : Value), a' = { tmps := #[.pointer (some ⟨a, 0, none⟩), .slice A roots.length ca, undef, undef, .map none, .map (some m), .slice O L.length co, u7, u8, u9, u10, u11, u12, u13, u14, u15, u16, u17, u18, u19, u20, u21, u22, u23, u24, u25, u26, u27, u28, u29, u30, u31, u32, u33, u34, u35, u36, u37, u38, u39, u40, u41, u42, u43, u44, u45, u46, u47, u48, u49], defers := [] } ∧ RJ w t roots m S L O co w'
def muR (n : Nat) (a' : Act) (w' : World) : Nat := (n - (match a'.tmps.getD 5 undef with | .map (some m) => mapSz w' m | _ => 0)) * 201 + (match a'.tmps.getD 6 undef with | .slice _ n _ => n | _ => 0)
theorem run_makeMap8 (w : World) : (Instr.makeMap 117 none).run Tryz.prog w = .ok (.map (some w.heap.size)) (w.alloc (.map #[] 0)) := rfl
section
variable {w : World} {K : Nat → Prop} {a room cS bK low : Nat} {ps : List (Option Nat)} {t : Sh} {SA : Option Addr}
theorem own_parts {base : Nat} {w : World} {A : Option Addr} {N cap : Nat} {L : List Int} (h : OwnR 3 1 inW base w (.slice A N cap) L) (hne : 0 < L.length) : ∃ g, A = some ⟨g, 0, none⟩ ∧ base ≤ g ∧ g < w.heap.size ∧ N ≤ cap ∧ ∀ (i : Nat) (x : Int), L[i]? = some x → w.cell? ⟨g, i, none⟩ = some (.int .i64 x) := by
  have h' := h
  obtain ⟨h1, h2⟩ := h
  rcases h2 with ⟨_, hz⟩ | ⟨g, c, cur, e, h3, h4, h5, h6, h7, h8⟩
  · omega
  · simp only [Value.slice.injEq] at e
    obtain ⟨rfl, rfl, rfl⟩ := e
    exact ⟨g, rfl, h3, (Array.getElem?_eq_some_iff.1 h4).1, h5, fun i x hi => by
      have := OwnR.at (f := inW) (fun _ => rfl) h' rfl i x hi 0 _ rfl
      simpa using this⟩
set_option maxHeartbeats 32000000 in
set_option maxRecDepth 20000 in
theorem preached_any (h : AR w K a room ps t t SA cS bK low) (hft : FitT t) (hI : Inv room t) (roots : List Int) (Q : Nat → Prop) (A : Option Addr) (ca : Nat) (hl : RowI w Q A roots) (hll : roots.length ≤ 1000) (h64 : B64s roots) :
    Calls Tryz.prog 59 #[.pointer (some ⟨a, 0, none⟩), .slice A roots.length ca] w fun e w' => ∃ m S, e = .returned (.map (some m)) ∧ w.heap.size ≤ m ∧ MapS w' m S ∧ (∀ x, x ∈ S ↔ Rch t roots x) ∧ Below w.heap.size w w' := by
  have hmk := run_makeMap8 w
  have hba : Below w.heap.size w (w.alloc (.map #[] 0)) := (Below.refl _ _).alloc (Nat.le_refl _) _
  have HCl := Lib.hid (pclone_any roots A ca (w.alloc (.map #[] 0)) Q (hl.below hba) (by omega))
  have HA := Lib.hid h
  have HFt := Lib.hid hft
  have HI := Lib.hid hI
  have H64 := Lib.hid h64
  have hsz : (w.alloc (.map #[] 0)).heap.size = w.heap.size + 1 := by simp
  have HMm := Lib.hid (MapS.made w)
  have HBa := Lib.hid hba
  have HSz := Lib.hid hsz
  obtain ⟨i0, hi0, hz0, hz1, hz2⟩ := info_parts int_info
  have hwd := h.wide
  have hln := h.len
  have hlv : (liveA t).length ≤ 65536 := by
    have := liveF_len t 1
    unfold liveA; omega
  clear h hft hI hl h64 hba hsz
  go_enter Tryz.func59, Tryz.ntmps59
  go_wp2_with fail
  refine wp_scope_jumps 0 (JR w a t roots A ca) (muR (liveA t).length) rfl ?_ ?_
  · go_wp2_with fail
    refine HCl.out.mono ?_; rintro e wr ⟨O, co, rfl, hO, hb1⟩
    have HJ : Hid (RJ w t roots w.heap.size [] roots O co wr) := Lib.hid
      { ms := HMm.out.block (hb1.block _ (by rw [HSz.out]; omega))
        own := by
          rcases hO with e | ⟨g, rfl, h1, h2, h3⟩
          · exact .inl e
          · rw [HSz.out] at h3; exact .inr h3
        re := Rea.start t roots
        sl := fun x hx => (List.not_mem_nil hx).elim
        b64 := H64.out
        bw := HBa.out.trans (hb1.mono (by rw [HSz.out]; omega))
        mw := Nat.le_refl _
        ll := by simpa using hll }
    clear hO hb1 hmk HCl
    go_wp2_with fail
    go_step3
    have hmw := HJ.out.mw
    have hbs := HJ.out.bw.size
    have hSl : ([] : List Int).length ≤ (liveA t).length := nodup_len HJ.out.ms.nd fun x hx => liveA_mem.2 (HJ.out.sl x hx)
    have hLl := HJ.out.ll
    by_cases hL : roots = []
    · have d0 : ((roots.length : Int) == 0) = true := by rw [hL]; rfl
      have HRe : Hid (Rea t roots ([] : List Int) []) := Lib.hid (HJ.out.re.empty hL)
      clear hL
      go_wp2_with fail
      simp only [Exit.jump]
      go_ret
      exact ⟨w.heap.size, ([] : List Int), rfl, HJ.out.mw, HJ.out.ms, HRe.out.done HI.out, HJ.out.bw⟩
    · obtain ⟨L1, r, hLr⟩ : ∃ L1 r, roots = L1 ++ [r] := ⟨roots.dropLast, roots.getLast hL, (List.dropLast_concat_getLast hL).symm⟩
      have hN : roots.length = L1.length + 1 := by rw [hLr, List.length_append]; rfl
      have hown := HJ.out.own.resolve_left hL
      obtain ⟨gL, hOO, hgb, hgl, hcap, hat⟩ := own_parts hown (by omega)
      have hr64 := HJ.out.b64 r (by rw [hLr]; simp)
      have q0 : wr.cell? ⟨gL, L1.length, none⟩ = some (.int .i64 r) := hat L1.length r (by rw [hLr, List.getElem?_append_right (Nat.le_refl _)]; simp)
      have HOwn : Hid (OwnR 3 1 inW (w.heap.size + 1) wr (.slice (some ⟨gL, 0, none⟩) L1.length co) L1) := Lib.hid (by
        have := OwnR.cut (f := inW) (fun _ => rfl) hown (by omega) L1.length (by omega)
        rw [hLr, List.take_left, hOO] at this; exact this)
      have hRe : Rea t roots ([] : List Int) (L1 ++ [r]) := by rw [← hLr]; exact HJ.out.re
      have h64L : B64s L1 := fun x hx => HJ.out.b64 x (by rw [hLr]; exact List.mem_append_left _ hx)
      have HRe := Lib.hid hRe
      have H64L := Lib.hid h64L
      have HLive := Lib.hid (plive_any (HA.out.below HJ.out.bw) r hr64)
      have hlk := HJ.out.ms.look hr64
      have d0 : ((roots.length : Int) == 0) = false := by simp; exact hL
      have e1 : (roots.length : Int) - 1 = (L1.length : Int) := by omega
      have e2 : wrap64 ((roots.length : Int) - 1) = (L1.length : Int) := by simp only [wrap64]; omega
      have hi1 : (L1.length : Int) < (roots.length : Int) := by omega
      have hi2 : (0 : Int) ≤ (L1.length : Int) := by omega
      have HMu := Lib.hid hN
      subst hOO
      clear hown hat hL hRe h64L hN hLr
      generalize hNN : L1.length = NN at *
      have HNN := Lib.hid hNN
      clear hNN
      go_wp2_with fail
      refine HLive.out.mono ?_; rintro e w2 ⟨rfl, rfl⟩
      cases hv : live t r with
      | false =>
        clear hlk
        go_wp2_with fail
        go_step3
        refine ⟨rfl, w.heap.size, ([] : List Int), L1, some ⟨gL, 0, none⟩, co, _, _, _, _, _, _, _, _, _, _, _, _, _, _, _, _, _, _, _, _, _, _, _, _, _, _, _, _, _, _, _, _, _, _, _, _, _, _, _, _, _, _, _, by rw [HNN.out], ?_⟩
        exact { ms := HJ.out.ms, own := .inr (by rw [HNN.out]; exact HOwn.out), re := HRe.out.skip (.inl hv), sl := HJ.out.sl, b64 := H64L.out, bw := HJ.out.bw, mw := hmw, ll := by rw [HNN.out]; omega }
      | true =>
        by_cases hm : r ∈ ([] : List Int)
        · rw [decide_eq_true hm] at hlk
          go_wp2_with fail
          go_step3
          refine ⟨rfl, w.heap.size, ([] : List Int), L1, some ⟨gL, 0, none⟩, co, _, _, _, _, _, _, _, _, _, _, _, _, _, _, _, _, _, _, _, _, _, _, _, _, _, _, _, _, _, _, _, _, _, _, _, _, _, _, _, _, _, _, _, by rw [HNN.out], ?_⟩
          exact { ms := HJ.out.ms, own := .inr (by rw [HNN.out]; exact HOwn.out), re := HRe.out.skip (.inr hm), sl := HJ.out.sl, b64 := H64L.out, bw := HJ.out.bw, mw := hmw, ll := by rw [HNN.out]; omega }
        · rw [decide_eq_false hm] at hlk
          obtain ⟨n, hn⟩ := live_iff.1 hv
          obtain ⟨i, hi, hin⟩ := ndAt_some hn
          have hil : i < t.length := by have := live_bound hv; omega
          have hSlt : ([] : List Int).length + 1 ≤ (liveA t).length := by
            have := nodup_len (S := ([] : List Int) ++ [r]) (T := liveA t) (List.nodup_append.2 ⟨HJ.out.ms.nd, by simp, fun y hy z hz => by rintro rfl; exact hm (List.mem_singleton.1 hz ▸ hy)⟩) fun x hx => by
              rcases List.mem_append.1 hx with hx | hx
              · exact liveA_mem.2 (HJ.out.sl x hx)
              · rw [List.mem_singleton.1 hx]; exact liveA_mem.2 hv
            rw [List.length_append] at this
            exact this
          obtain ⟨w3, hup, hms3, hg3⟩ := HJ.out.ms.put (by unfold maxLen; omega) hr64 hm
          have hbw3 : Below w.heap.size w w3 := HJ.out.bw.grown hg3 hbs (fun k hk => by cases hk; exact hmw)
          have hA3 := HA.out.below hbw3
          obtain ⟨gS, q, hAS, hgS, hq, s0, _⟩ := hA3.slot hil
          obtain ⟨g, hq1, hnd⟩ := hA3.at1 i n hin
          rw [hq] at hq1
          cases hq1
          change w3.cell? ⟨gS, i, none⟩ = some (.pointer (some ⟨g, 0, none⟩)) at s0
          obtain ⟨_, B, cb, C, cc, ⟨m0, m1, m2, m3⟩, hB, hC⟩ := hnd
          have b1 : w3.cell? ⟨g, 1, none⟩ = some (.slice B n.refs.length cb) := m1
          have c1 := hA3.c1
          rw [hAS] at c1
          have hfn := HFt.out r n hn
          have hrl := hfn.1.1
          have er : r - 1 = (i : Int) := by omega
          have hwi : IntKind.i64.wrap (i : Int) = (i : Int) := by rw [IntKind.wrap_i64]; omega
          have HOwn3 : Hid (OwnR 3 1 inW (w.heap.size + 1) w3 (.slice (some ⟨gL, 0, none⟩) NN co) L1) := Lib.hid (own_blk HOwn.out fun g' o e => by cases e; exact hg3.block _ hgl fun e => by cases e; omega)
          have HRe3 := Lib.hid (HRe.out.next hn)
          have H64n := Lib.hid hfn.2.1
          have HB3 := Lib.hid hB
          have HBw3 := Lib.hid hbw3
          have HMs3 := Lib.hid hms3
          have HSl3 : Hid (∀ x ∈ ([] : List Int) ++ [r], live t x = true) := Lib.hid fun x hx => by
            rcases List.mem_append.1 hx with hx | hx
            · exact HJ.out.sl x hx
            · rw [List.mem_singleton.1 hx]; exact hv
          have hz3 : w.heap.size + 1 ≤ w3.heap.size := by have := HMs3.out.lt; omega
          have hli : (i : Int) < (t.length : Int) := by omega
          generalize t.length = TN at *
          clear hq hA3 hn hi hin hms3 hg3 hbw3 m0 m2 m3 hB hC hAS hfn m1 HLive HOwn HRe
          by_cases hne : n.refs = []
          · rw [hne] at b1 HRe3
            go_wp2_with (at_builtin; refine of_stop ?_)
            refine stop_of ?_
            refine wpList_append_zero rfl _ _ 54 rfl 3 i0 Tryz.underlying54 hi0 ⟨gL, 0, none⟩ NN co (by omega) B cb rfl rfl ?_
            go_wp2_with fail
            go_step3
            refine ⟨rfl, w.heap.size, (([] : List Int) ++ [r]), (L1 ++ []), some ⟨gL, 0, none⟩, co, _, _, _, _, _, _, _, _, _, _, _, _, _, _, _, _, _, _, _, _, _, _, _, _, _, _, _, _, _, _, _, _, _, _, _, _, _, _, _, _, _, _, _, by rw [List.append_nil, HNN.out], ?_⟩
            exact { ms := HMs3.out, own := .inr (by rw [List.append_nil, HNN.out]; exact HOwn3.out), re := HRe3.out, sl := HSl3.out, b64 := by rw [List.append_nil]; exact H64L.out, bw := HBw3.out, mw := hmw, ll := by rw [List.append_nil, HNN.out, List.length_append]; simp; omega }
          · rcases HB3.out with e | ⟨g5, o5, rfl, _, _, hc5⟩
            · exact absurd e hne
            have hpos : 0 < n.refs.length := List.length_pos_iff.2 hne
            have HC5 := Lib.hid hc5
            clear hc5
            go_wp2_with (at_builtin; refine of_stop ?_)
            refine stop_of ?_
            refine wpList_append_long (f := inW) (n := 1) (E := 3) (nb := 8) (X := L1) (base := w.heap.size + 1) rfl _ _ rfl rfl HOwn3.out (L2 := n.refs) rfl (fun i x hi j u hj => ?_) hpos (N := (L1 ++ n.refs).length) (by rw [List.length_append]) (Z := L1 ++ n.refs) rfl Tryz.underlying54 hi0 hz0 hz1 hz2 rfl (by decide) (fun _ => rfl) inW_one (by rw [HNN.out]; omega) (by rw [HNN.out]; omega) hz3 ?_
            · have := HC5.out i x hi
              cases j with
              | zero => rw [← Option.some.inj hj, Nat.mul_one]; exact this
              | succ j => simp [inW] at hj
            intro g6 k6 w6 ho6 hg6 hat6 hl6
            have HO6 := Lib.hid ho6
            have hb6 : Below w.heap.size w w6 := HBw3.out.grown hg6 HBw3.out.size (fun k hk => by have := (World.ownsRow.lt HOwn3.out k hk).1; omega)
            have hm6 : MapS w6 w.heap.size (([] : List Int) ++ [r]) := HMs3.out.block (hg6.block w.heap.size HMs3.out.lt fun e => by have := (World.ownsRow.lt HOwn3.out w.heap.size e.symm).1; omega)
            have HB6 := Lib.hid hb6
            have HM6 := Lib.hid hm6
            clear ho6 hg6 hat6 hl6 hb6 hm6
            go_wp2_with fail
            go_step3
            refine ⟨rfl, w.heap.size, (([] : List Int) ++ [r]), (L1 ++ n.refs), some ⟨g6, 0, none⟩, k6, _, _, _, _, _, _, _, _, _, _, _, _, _, _, _, _, _, _, _, _, _, _, _, _, _, _, _, _, _, _, _, _, _, _, _, _, _, _, _, _, _, _, _, by rw [List.length_append], ?_⟩
            exact { ms := HM6.out, own := .inr HO6.out, re := HRe3.out, sl := HSl3.out, b64 := fun x hx => (List.mem_append.1 hx).elim (H64L.out x) (H64n.out x), bw := HB6.out, mw := hmw, ll := by rw [List.length_append, List.length_append, HNN.out]; simp; omega }
  · rintro a' wr ⟨m, S, L, O, co, u7, u8, u9, u10, u11, u12, u13, u14, u15, u16, u17, u18, u19, u20, u21, u22, u23, u24, u25, u26, u27, u28, u29, u30, u31, u32, u33, u34, u35, u36, u37, u38, u39, u40, u41, u42, u43, u44, u45, u46, u47, u48, u49, rfl, hJ⟩
    have HJ := Lib.hid hJ
    clear hJ hmk HCl
    have hmw := HJ.out.mw
    have hbs := HJ.out.bw.size
    have hSl : S.length ≤ (liveA t).length := nodup_len HJ.out.ms.nd fun x hx => liveA_mem.2 (HJ.out.sl x hx)
    have hLl := HJ.out.ll
    by_cases hL : L = []
    · have d0 : ((L.length : Int) == 0) = true := by rw [hL]; rfl
      have HRe : Hid (Rea t roots S []) := Lib.hid (HJ.out.re.empty hL)
      clear hL
      go_wp2_with fail
      simp only [Exit.jump]
      go_ret
      exact ⟨m, S, rfl, HJ.out.mw, HJ.out.ms, HRe.out.done HI.out, HJ.out.bw⟩
    · obtain ⟨L1, r, hLr⟩ : ∃ L1 r, L = L1 ++ [r] := ⟨L.dropLast, L.getLast hL, (List.dropLast_concat_getLast hL).symm⟩
      have hN : L.length = L1.length + 1 := by rw [hLr, List.length_append]; rfl
      have hown := HJ.out.own.resolve_left hL
      obtain ⟨gL, hOO, hgb, hgl, hcap, hat⟩ := own_parts hown (by omega)
      have hr64 := HJ.out.b64 r (by rw [hLr]; simp)
      have q0 : wr.cell? ⟨gL, L1.length, none⟩ = some (.int .i64 r) := hat L1.length r (by rw [hLr, List.getElem?_append_right (Nat.le_refl _)]; simp)
      have HOwn : Hid (OwnR 3 1 inW (m + 1) wr (.slice (some ⟨gL, 0, none⟩) L1.length co) L1) := Lib.hid (by
        have := OwnR.cut (f := inW) (fun _ => rfl) hown (by omega) L1.length (by omega)
        rw [hLr, List.take_left, hOO] at this; exact this)
      have hRe : Rea t roots S (L1 ++ [r]) := by rw [← hLr]; exact HJ.out.re
      have h64L : B64s L1 := fun x hx => HJ.out.b64 x (by rw [hLr]; exact List.mem_append_left _ hx)
      have HRe := Lib.hid hRe
      have H64L := Lib.hid h64L
      have HLive := Lib.hid (plive_any (HA.out.below HJ.out.bw) r hr64)
      have hlk := HJ.out.ms.look hr64
      have d0 : ((L.length : Int) == 0) = false := by simp; exact hL
      have e1 : (L.length : Int) - 1 = (L1.length : Int) := by omega
      have e2 : wrap64 ((L.length : Int) - 1) = (L1.length : Int) := by simp only [wrap64]; omega
      have hi1 : (L1.length : Int) < (L.length : Int) := by omega
      have hi2 : (0 : Int) ≤ (L1.length : Int) := by omega
      have HMu := Lib.hid hN
      subst hOO
      clear hown hat hL hRe h64L hN hLr
      generalize hNN : L1.length = NN at *
      have HNN := Lib.hid hNN
      clear hNN
      go_wp2_with fail
      refine HLive.out.mono ?_; rintro e w2 ⟨rfl, rfl⟩
      cases hv : live t r with
      | false =>
        clear hlk
        go_wp2_with fail
        go_step3
        refine ⟨rfl, ⟨m, S, L1, some ⟨gL, 0, none⟩, co, _, _, _, _, _, _, _, _, _, _, _, _, _, _, _, _, _, _, _, _, _, _, _, _, _, _, _, _, _, _, _, _, _, _, _, _, _, _, _, _, _, _, _, by rw [HNN.out], ?_⟩, ?_⟩
        · exact { ms := HJ.out.ms, own := .inr (by rw [HNN.out]; exact HOwn.out), re := HRe.out.skip (.inl hv), sl := HJ.out.sl, b64 := H64L.out, bw := HJ.out.bw, mw := hmw, ll := by rw [HNN.out]; omega }
        · simp only [muR]; simp; have := HMu.out; omega
      | true =>
        by_cases hm : r ∈ S
        · rw [decide_eq_true hm] at hlk
          go_wp2_with fail
          go_step3
          refine ⟨rfl, ⟨m, S, L1, some ⟨gL, 0, none⟩, co, _, _, _, _, _, _, _, _, _, _, _, _, _, _, _, _, _, _, _, _, _, _, _, _, _, _, _, _, _, _, _, _, _, _, _, _, _, _, _, _, _, _, _, by rw [HNN.out], ?_⟩, ?_⟩
          · exact { ms := HJ.out.ms, own := .inr (by rw [HNN.out]; exact HOwn.out), re := HRe.out.skip (.inr hm), sl := HJ.out.sl, b64 := H64L.out, bw := HJ.out.bw, mw := hmw, ll := by rw [HNN.out]; omega }
          · simp only [muR]; simp; have := HMu.out; omega
        · rw [decide_eq_false hm] at hlk
          obtain ⟨n, hn⟩ := live_iff.1 hv
          obtain ⟨i, hi, hin⟩ := ndAt_some hn
          have hil : i < t.length := by have := live_bound hv; omega
          have hSlt : S.length + 1 ≤ (liveA t).length := by
            have := nodup_len (S := S ++ [r]) (T := liveA t) (List.nodup_append.2 ⟨HJ.out.ms.nd, by simp, fun y hy z hz => by rintro rfl; exact hm (List.mem_singleton.1 hz ▸ hy)⟩) fun x hx => by
              rcases List.mem_append.1 hx with hx | hx
              · exact liveA_mem.2 (HJ.out.sl x hx)
              · rw [List.mem_singleton.1 hx]; exact liveA_mem.2 hv
            rw [List.length_append] at this
            exact this
          obtain ⟨w3, hup, hms3, hg3⟩ := HJ.out.ms.put (by unfold maxLen; omega) hr64 hm
          have hbw3 : Below w.heap.size w w3 := HJ.out.bw.grown hg3 hbs (fun k hk => by cases hk; exact hmw)
          have hA3 := HA.out.below hbw3
          obtain ⟨gS, q, hAS, hgS, hq, s0, _⟩ := hA3.slot hil
          obtain ⟨g, hq1, hnd⟩ := hA3.at1 i n hin
          rw [hq] at hq1
          cases hq1
          change w3.cell? ⟨gS, i, none⟩ = some (.pointer (some ⟨g, 0, none⟩)) at s0
          obtain ⟨_, B, cb, C, cc, ⟨m0, m1, m2, m3⟩, hB, hC⟩ := hnd
          have b1 : w3.cell? ⟨g, 1, none⟩ = some (.slice B n.refs.length cb) := m1
          have c1 := hA3.c1
          rw [hAS] at c1
          have hfn := HFt.out r n hn
          have hrl := hfn.1.1
          have er : r - 1 = (i : Int) := by omega
          have hwi : IntKind.i64.wrap (i : Int) = (i : Int) := by rw [IntKind.wrap_i64]; omega
          have HOwn3 : Hid (OwnR 3 1 inW (m + 1) w3 (.slice (some ⟨gL, 0, none⟩) NN co) L1) := Lib.hid (own_blk HOwn.out fun g' o e => by cases e; exact hg3.block _ hgl fun e => by cases e; omega)
          have HRe3 := Lib.hid (HRe.out.next hn)
          have H64n := Lib.hid hfn.2.1
          have HB3 := Lib.hid hB
          have HBw3 := Lib.hid hbw3
          have HMs3 := Lib.hid hms3
          have HSl3 : Hid (∀ x ∈ S ++ [r], live t x = true) := Lib.hid fun x hx => by
            rcases List.mem_append.1 hx with hx | hx
            · exact HJ.out.sl x hx
            · rw [List.mem_singleton.1 hx]; exact hv
          have hz3 : m + 1 ≤ w3.heap.size := by have := HMs3.out.lt; omega
          have hli : (i : Int) < (t.length : Int) := by omega
          generalize t.length = TN at *
          clear hq hA3 hn hi hin hms3 hg3 hbw3 m0 m2 m3 hB hC hAS hfn m1 HLive HOwn HRe
          by_cases hne : n.refs = []
          · rw [hne] at b1 HRe3
            go_wp2_with (at_builtin; refine of_stop ?_)
            refine stop_of ?_
            refine wpList_append_zero rfl _ _ 54 rfl 3 i0 Tryz.underlying54 hi0 ⟨gL, 0, none⟩ NN co (by omega) B cb rfl rfl ?_
            go_wp2_with fail
            go_step3
            refine ⟨rfl, ⟨m, (S ++ [r]), (L1 ++ []), some ⟨gL, 0, none⟩, co, _, _, _, _, _, _, _, _, _, _, _, _, _, _, _, _, _, _, _, _, _, _, _, _, _, _, _, _, _, _, _, _, _, _, _, _, _, _, _, _, _, _, _, by rw [List.append_nil, HNN.out], ?_⟩, ?_⟩
            · exact { ms := HMs3.out, own := .inr (by rw [List.append_nil, HNN.out]; exact HOwn3.out), re := HRe3.out, sl := HSl3.out, b64 := by rw [List.append_nil]; exact H64L.out, bw := HBw3.out, mw := hmw, ll := by rw [List.append_nil, HNN.out, List.length_append]; simp; omega }
            · simp only [muR]; simp; rw [HMs3.out.size, HJ.out.ms.size, List.length_append]; have := HMu.out; simp; omega
          · rcases HB3.out with e | ⟨g5, o5, rfl, _, _, hc5⟩
            · exact absurd e hne
            have hpos : 0 < n.refs.length := List.length_pos_iff.2 hne
            have HC5 := Lib.hid hc5
            clear hc5
            go_wp2_with (at_builtin; refine of_stop ?_)
            refine stop_of ?_
            refine wpList_append_long (f := inW) (n := 1) (E := 3) (nb := 8) (X := L1) (base := m + 1) rfl _ _ rfl rfl HOwn3.out (L2 := n.refs) rfl (fun i x hi j u hj => ?_) hpos (N := (L1 ++ n.refs).length) (by rw [List.length_append]) (Z := L1 ++ n.refs) rfl Tryz.underlying54 hi0 hz0 hz1 hz2 rfl (by decide) (fun _ => rfl) inW_one (by rw [HNN.out]; omega) (by rw [HNN.out]; omega) hz3 ?_
            · have := HC5.out i x hi
              cases j with
              | zero => rw [← Option.some.inj hj, Nat.mul_one]; exact this
              | succ j => simp [inW] at hj
            intro g6 k6 w6 ho6 hg6 hat6 hl6
            have HO6 := Lib.hid ho6
            have hb6 : Below w.heap.size w w6 := HBw3.out.grown hg6 HBw3.out.size (fun k hk => by have := (World.ownsRow.lt HOwn3.out k hk).1; omega)
            have hm6 : MapS w6 m (S ++ [r]) := HMs3.out.block (hg6.block m HMs3.out.lt fun e => by have := (World.ownsRow.lt HOwn3.out m e.symm).1; omega)
            have HB6 := Lib.hid hb6
            have HM6 := Lib.hid hm6
            clear ho6 hg6 hat6 hl6 hb6 hm6
            go_wp2_with fail
            go_step3
            refine ⟨rfl, ⟨m, (S ++ [r]), (L1 ++ n.refs), some ⟨g6, 0, none⟩, k6, _, _, _, _, _, _, _, _, _, _, _, _, _, _, _, _, _, _, _, _, _, _, _, _, _, _, _, _, _, _, _, _, _, _, _, _, _, _, _, _, _, _, _, by rw [List.length_append], ?_⟩, ?_⟩
            · exact { ms := HM6.out, own := .inr HO6.out, re := HRe3.out, sl := HSl3.out, b64 := fun x hx => (List.mem_append.1 hx).elim (H64L.out x) (H64n.out x), bw := HB6.out, mw := hmw, ll := by rw [List.length_append, List.length_append, HNN.out]; simp; omega }
            · simp only [muR]; simp; rw [HM6.out.size, HJ.out.ms.size, List.length_append]; have h1 := HMu.out; have h2 := HNN.out; have h3 := hrl; simp; rw [show (liveA t).length - S.length = ((liveA t).length - (S.length + 1)) + 1 by omega, Nat.succ_mul, h1, h2]; exact mu_step _ _ _ h3
end
end Go.Proofs.YtjgjacihdggimaaGreatDoor
namespace Go.Proofs.YtjgjacihdggimaaGreatDoor
open Go.RowKit Go.Maps Go.Sort Go.Shelf
theorem sortsA9 (m : Nat) : AnyZI.SortsIn Tryz.prog Tryz.sortedA_ren Fence.wide m :=
  ⟨fun blk off cap ss W hH hblk hsz => callsIn_wide.2 (AnyM.slices_Sort_int Tryz.sortA blk off cap ss W hH hblk hsz),
   fun p cap W => callsIn_wide.2 (AnyM.slices_Sort_int_none Tryz.sortA p cap W)⟩
theorem rowI_of_own {w : World} {base : Nat} {v : Value} {l : List Int} (h : w.ownsRow base 3 1 v l.length (l.map encZ)) : ∃ O co, v = .slice O l.length co ∧ RowI w (fun g => base ≤ g) O l := by
  have hm : l.map encZ = l.flatMap inW := by
    rw [List.map_eq_flatMap]; rfl
  rw [hm] at h
  obtain ⟨O, co, e, _, hc⟩ := OwnR.shape (f := inW) (n := 1) (fun _ => rfl) (show OwnR 3 1 inW base w v l from h)
  refine ⟨O, co, e, ?_⟩
  by_cases hne : l = []
  · exact .inl hne
  · obtain ⟨g, o, e', hat⟩ := hc hne
    have hob : v.ownBlock = some g := by rw [e, e']; rfl
    have hl := World.ownsRow.lt h g hob
    exact .inr ⟨g, o, e', hl.1, hl.2, fun j x hj => by have := hat j x hj 0 _ rfl; simpa using this⟩
theorem psorted_of {w : World} (g : Nat) (lb : Array Value) (eg : ∀ args w, (callFunc g args).run Tryz.prog w = .ok (.enter g args) w) {t : Sh} (S : List Int → Prop) (hS : ∀ ss, S ss → ss.Perm (liveA t)) (N : Nat) (hN : N ≤ 65536) (hseq : SeqGives Fence.wide 2 Tryz.prog g lb encZ S N w) :
    Calls Tryz.prog 57 #[.func (.func g) #[] lb] w fun e w' => ∃ O co, e = .returned (.slice O (liveA t).length co) ∧ RowI w' (fun k => w.heap.size ≤ k) O (liveA t) ∧ Below w.heap.size w w' := by
  have cS := AnyZI.sorted_in Tryz.sortedA Fence.wide 5 trivial trivial trivial trivial rfl (by omega) (sortsA9 _) (enters_of Tryz.func75 (by kernel_rfl) rfl) g lb trivial eg _ _ (by unfold maxLen; omega) (by omega) w hseq
  refine (callsIn_wide.1 cS).mono fun e w' ⟨v, ss, he, hs, hrow, _, hb⟩ => ?_
  have e1 := sorted_live (hS ss hs)
  have e2 := (hS ss hs).length_eq
  rw [e1, e2] at hrow
  obtain ⟨O, co, hv, hr⟩ := rowI_of_own hrow
  exact ⟨O, co, by rw [he, hv], hr, hb⟩
end Go.Proofs.YtjgjacihdggimaaGreatDoor
namespace Go.Proofs.YtjgjacihdggimaaGreatDoor
open Go.RowKit Go.Maps Go.Sort Go.Shelf
set_option maxHeartbeats 4000000 in
set_option maxRecDepth 10000 in
theorem pKeys_any (mb : Option Nat) (w : World) : Calls Tryz.prog 58 #[.map mb] w fun e w' => e = .returned (.func (.func 76) #[] #[.pointer (some ⟨w.heap.size, 0, none⟩)]) ∧ w' = w.alloc (.cells #[.map mb] 117) := by
  go_enter Tryz.func58, Tryz.ntmps58
  go_wp2_with fail
  go_ret
  exact ⟨rfl, rfl⟩
section
variable {w : World} {K : Nat → Prop} {a room cS bK low : Nat} {ps : List (Option Nat)} {t : Sh} {SA : Option Addr}
set_option maxHeartbeats 8000000 in
set_option maxRecDepth 10000 in
theorem pReach_any (h : AR w K a room ps t t SA cS bK low) (hft : FitT t) (hI : Inv room t) (roots : List Int) (Q : Nat → Prop) (A : Option Addr) (ca : Nat) (hl : RowI w Q A roots) (hll : roots.length ≤ 1000) (h64 : B64s roots) :
    Calls Tryz.prog 36 #[.pointer (some ⟨a, 0, none⟩), .slice A roots.length ca] w fun e w' => ∃ O co, e = .returned (.slice O (reachA t roots).length co) ∧ RowI w' (fun g => w.heap.size ≤ g) O (reachA t roots) ∧ Below w.heap.size w w' := by
  have HRe := Lib.hid (preached_any h hft hI roots Q A ca hl hll h64)
  have hlv : (liveA t).length ≤ 65536 := by
    have := liveF_len t 1
    have := h.len
    have := h.wide
    unfold liveA; omega
  have HI := Lib.hid hI
  clear h hft hl h64
  go_enter Tryz.func36, Tryz.ntmps36
  go_wp2_with fail
  refine HRe.out.mono ?_; rintro e w1 ⟨m, S, rfl, hm, hms, hS, hb1⟩
  have hba : Below w1.heap.size w1 (w1.alloc (.cells #[.map (some m)] 117)) := (Below.refl _ _).alloc (Nat.le_refl _) _
  have hblk := (MapKept.heap_alloc w1 (.cells #[.map (some m)] 117)).1
  have hcell : (w1.alloc (.cells #[.map (some m)] 117)).cell? ⟨w1.heap.size, 0, none⟩ = some (.map (some m)) := by rw [Lib.cell_of_heap hblk]; rfl
  have hP : S.Perm (liveA (leftA t roots)) := by
    refine (List.perm_ext_iff_of_nodup hms.nd ((liveF_up (leftA t roots) 1).1.imp fun {a b} hab => by omega)).2 fun x => ?_
    show _ ↔ x ∈ liveA (leftA t roots)
    rw [hS x, liveA_mem]
    unfold live
    rw [left_at]
    constructor
    · intro hr
      rw [if_pos hr]
      exact rch_live hI hr
    · intro hl
      by_cases hr : Rch t roots x
      · exact hr
      · rw [if_neg hr] at hl; cases hl
  have hSl : S.length ≤ 65536 := by
    have h1 := hP.length_eq
    have h2 := left_len t roots
    unfold reachA at h2
    omega
  obtain ⟨D, hD, hnd, hkD, _⟩ := hms.block (Below.heap_alloc w1 (.cells #[.map (some m)] 117) m hms.lt)
  have hpk := keys_wf hD hnd hkD
  have hsz : Maps.size D = S.length := by
    obtain ⟨es, hDe, _⟩ := hD.entries int9Keyed
    rw [hpk.length_eq, hDe]
    show es.length = (es.map _).length
    rw [List.length_map]
  have HS := Lib.hid (psorted_of 76 #[.pointer (some ⟨w1.heap.size, 0, none⟩)] (enters_of Tryz.func76 (by kernel_rfl) rfl) (t := leftA t roots) (fun ss => ss.Perm (intKeys D)) (fun ss hs => hs.trans (hpk.symm.trans hP)) (Maps.size D) (by omega)
    (AnyZI.keys_gives (ρ := Tryz.keysA_ren) { Tryz.keysA with } Fence.wide _ trivial rfl (by omega) w1.heap.size m _ D (w1.alloc (.cells #[.map (some m)] 117)) (by simp) hcell hD))
  have HBa := Lib.hid hba
  have HB1 := Lib.hid hb1
  clear hD hblk hcell hba hms hb1 hP hpk hkD hnd hS hsz HRe
  go_wp2_with fail
  refine (pKeys_any (some m) w1).mono ?_; rintro e w2 ⟨rfl, rfl⟩
  go_wp2_with fail
  refine HS.out.mono ?_; rintro e w2 ⟨O, co, rfl, hr, hb⟩
  have HR := Lib.hid hr
  have HB := Lib.hid hb
  clear hr hb
  go_wp2_with fail
  go_ret
  exact ⟨O, co, rfl, HR.out.mono fun g hg _ => Nat.le_trans (Nat.le_trans HB1.out.size HBa.out.size) hg, HB1.out.trans ((HBa.out.trans (HB.out.mono HBa.out.size)).mono HB1.out.size)⟩
end
end Go.Proofs.YtjgjacihdggimaaGreatDoor
namespace Go.Proofs.YtjgjacihdggimaaGreatDoor
open Go.RowKit Go.Maps
theorem o9Reach {w : World} {B a room : Nat} {K : Nat → Prop} {s : Sh} (h : On9 w B a room s K) (l : List Int) (Al : Option Addr) (ca : Nat) {Q : Nat → Prop} (hl : RowI w Q Al l) (hll : l.length ≤ 1000) (h64 : B64s l) :
    Calls Tryz.prog 36 #[.pointer (some ⟨a, 0, none⟩), .slice Al l.length ca] w fun e w' => ∃ O co, e = .returned (.slice O (reachA s l).length co) ∧ RowI w' (fun g => w.heap.size ≤ g) O (reachA s l) ∧ Below w.heap.size w w' := by
  obtain ⟨F, h⟩ := h
  have hI := h.inv
  obtain ⟨K, ps, t, A, cS, bK, low, hA, hL, hF, hE, hO, hC, hB, hT⟩ := h.ap
  refine (pReach_any hA hF (inv_eqv hI hE hA.len) l Q Al ca hl hll h64).mono fun e w' ⟨O, co, he, hr, hb⟩ => ?_
  rw [hE.reach l] at he hr
  exact ⟨O, co, he, hr, hb⟩
end Go.Proofs.YtjgjacihdggimaaGreatDoor
