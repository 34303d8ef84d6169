/- Texts joined: GpE, GpI. -/
import Derived.Test.YtbppkflgokfjhaaGk05
import Derived.Test.YtbppkflgokfjhaaGk04
import Derived.Laws.BitsAllLaws
set_option linter.all false
namespace Go.Proofs.Ytbppkflgokfjhaa
open Go.RowKit
theorem bits_not (n : Int) (h0 : -1048576 ≤ n) (h1 : n < 1048576) : bits .xor .i64 (-1) n = bn n := by
  show IntKind.i64.wrap ((BitVec.ofInt 64 (-1) ^^^ BitVec.ofInt 64 n).toNat : Int) = _
  have h1 : BitVec.ofInt 64 (-1) = BitVec.allOnes 64 := by decide
  rw [h1, BitVec.allOnes_xor, BitVec.toNat_not, BitVec.toNat_ofInt]
  unfold bn
  simp [IntKind.wrap, IntKind.bits, IntKind.signed]
  omega
def rdM (w : World) (X : Nat) : Int → Bool := fun n => match w.cell? ⟨X, n.toNat, none⟩ with
  | some (.bool b) => b
  | _ => false
theorem rdM_is {w : World} {X : Nat} {M : Int → Bool} (h : MkG w X M) {j : Nat} (hj : j < 1024) : rdM w X (j : Int) = M (j : Int) := by
  unfold rdM
  rw [Int.toNat_natCast, (h.cell hj).1]
theorem wtN_congr {R1 : Int → List Int} {M M' : Int → Bool} : ∀ {k : Nat}, (∀ j : Nat, j < k → M (j : Int) = M' (j : Int)) → wtN R1 M k = wtN R1 M' k
  | 0, _ => rfl
  | k + 1, h => by rw [wtN, wtN, wtN_congr fun j hj => h j (by omega), h k (by omega)]
theorem rdM_wt {R1 : Int → List Int} {w : World} {X : Nat} {M : Int → Bool} (h : MkG w X M) : wtN R1 (rdM w X) 1024 = wtN R1 M 1024 := wtN_congr fun _ hj => rdM_is h hj
def slN : Value → Nat | .slice _ n _ => n | _ => 0
def BehQ (w : World) (L : List Lk) (e : Ending) (w' : World) : Prop := ∃ (l : List Int) (v : Value), e = .returned v ∧ OwnR 3 1 inW w.heap.size w' v l ∧ FinL L l ∧ l.Nodup ∧ (∀ n, isN L n → n ∈ l) ∧ (∀ n ∈ l, okN n) ∧ l.length ≤ 1024 ∧ Below w.heap.size w w'
theorem nlg_al {n : Nat} {w : World} {o : Obj} (h : n ≤ w.heap.size) : n ≤ (w.alloc o).heap.size := Nat.le_trans h (by simp)
theorem nlg_d {n : Nat} {w : World} (h : n ≤ w.heap.size) : n ≤ w.drew.heap.size := h
theorem apart_grown {v v' u : Value} {w : World} {base : Nat} {L : List Int} (hu : OwnR 3 1 inW base w u L) (ha : Apart v u) (h : v'.ownBlock = v.ownBlock ∨ ∃ s, w.heap.size ≤ s ∧ v'.ownBlock = some s) : Apart v' u := fun k hv hk => by
  rcases h with e | ⟨s, hs, e⟩
  · exact ha k (e ▸ hv) hk
  · have := (World.ownsRow.lt hu k hk).2
    rw [e] at hv
    cases hv
    omega
set_option maxHeartbeats 32000000 in
set_option maxRecDepth 10000 in
theorem behind_any (w : World) (g : Nat) (L : List Lk) (hP : GP12 w g L) (hk : OkK L) :
    Calls Try.prog 27 #[.pointer (some ⟨g, 0, none⟩)] w fun e w' => BehQ w L e w' := by
  obtain ⟨i0, hi0, hz0, hz1, hz2⟩ := info_parts gint_info
  have hb1 : Below w.heap.size w (w.alloc (.cells Try.zeroCells59 59)) := (Below.refl _ _).alloc (Nat.le_refl _) _
  have HB1 := Lib.hid hb1
  have HM1 : Hid (MkG (w.alloc (.cells Try.zeroCells59 59)) w.heap.size (fun _ => false)) := Lib.hid (Ar.made marksG_zero w)
  have HNd := Lib.hid (pnodes_any _ g L (hP.below hb1) hk)
  obtain ⟨b1, b2, n1, n2, f1, f2, R1, R2, hG⟩ := hP
  have HGet := Lib.hid (fun (W : World) (hb : Below w.heap.size w W) (x : Int) (hx : KB x) => hG.reads hb hx)
  have HEd := Lib.hid (fun (n y : Int) => hG.ok.r1 n y)
  have HRl := Lib.hid hG.ok.l1
  have HK := Lib.hid hk
  have HX : Hid (w.heap.size < (w.alloc (.cells Try.zeroCells59 59)).heap.size) := Lib.hid (by simp)
  clear hG hk hb1
  go_enter Try.func27, Try.ntmps27
  go_wp2_with fail
  refine wp_scope_meets 0 (fun a' wr => ∃ (left : List Int) (M : Int → Bool) (l : List Int) (v3 v5 u6 u7 u8 u9 u10 u11 u12 u13 u14 u15 u16 u17 u18 u19 u20 u21 u22 u23 u24 u25 u26 u27 u28 u29 u30 u31 u32 u33 u34 u35 u36 u37 u38 u39 u40 u41 u42 u43 u44 u45 u46 u47 u48 u49 u50 : Value), a' = { tmps := #[.pointer (some ⟨g, 0, none⟩), undef, .slice none 0 0, v3, .pointer (some ⟨w.heap.size, 0, none⟩), v5, u6, u7, u8, u9, u10, u11, u12, u13, u14, u15, u16, u17, u18, u19, u20, u21, u22, u23, u24, u25, u26, u27, u28, u29, u30, u31, u32, u33, u34, u35, u36, u37, u38, u39, u40, u41, u42, u43, u44, u45, u46, u47, u48, u49, u50], defers := [] } ∧ Hid (Dfs L left M l) ∧ Hid (OwnR 3 1 inW (w.heap.size + 1) wr v3 l) ∧ Hid (OwnR 3 1 inW (w.heap.size + 1) wr v5 left) ∧ Hid (Apart v3 v5) ∧ Hid (MkG wr w.heap.size M) ∧ Hid (Below w.heap.size w wr) ∧ Hid (left.length + wtN R1 M 1024 ≤ 63488)) (fun a' wr => slN (a'.tmps.getD 5 undef) + wtN R1 (rdM wr w.heap.size) 1024) rfl ?_ ?_
  · rintro a' wr ⟨left, M, l, v3, v5, u6, u7, u8, u9, u10, u11, u12, u13, u14, u15, u16, u17, u18, u19, u20, u21, u22, u23, u24, u25, u26, u27, u28, u29, u30, u31, u32, u33, u34, u35, u36, u37, u38, u39, u40, u41, u42, u43, u44, u45, u46, u47, u48, u49, u50, rfl, HD, H3, H5, HAp, HMk, HB, HW⟩
    obtain ⟨A5, c5, rfl, hc5, hat5, hr5⟩ := own_rowH H5.out
    by_cases hnil : left = []
    · subst hnil
      have HF : Hid (BehQ w L (.returned v3) wr) := Lib.hid (by
        obtain ⟨d1, d2, d3⟩ := HD.out.done
        exact ⟨l, v3, rfl, OwnR.lowerG H3.out (by omega), d1, d2, d3, HD.out.lr, HD.out.len, HB.out⟩)
      rw [List.length_nil]
      clear HD H3 H5 HAp HMk HB HW hr5 hat5 hc5
      go_wp2_with fail
      simp only [Exit.jump]
      go_ret
      exact HF.out
    · obtain ⟨g5, rfl⟩ := hat5 hnil
      obtain ⟨lf, n, rfl⟩ : ∃ lf n, left = lf ++ [n] := ⟨left.dropLast, left.getLast hnil, (List.dropLast_concat_getLast hnil).symm⟩
      have hlen : (lf ++ [n]).length = lf.length + 1 := by simp
      have hw := HW.out
      have hl2 := HD.out.len
      have H5c := Lib.hid (OwnR.cut (f := inW) (fun _ => rfl) H5.out (by rw [hlen]; omega) lf.length (by rw [hlen]; omega))
      rw [List.take_left'  rfl] at H5c
      rw [hlen] at hc5 hw ⊢
      have hcn : wr.cell? ⟨g5, lf.length, none⟩ = some (.int .i64 n) := by
        rcases hr5 with h | ⟨g', o', e', _, _, hh⟩
        · simp at h
        · cases e'
          have := holds_row hh (i := lf.length) (x := n) (by simp)
          rwa [Nat.zero_add] at this
      have hrn := HD.out.rng n (by simp)
      have hd : ((lf.length : Int) + 1 == 0) = false := by simp; omega
      have w64 : IntKind.i64.wrap ((lf.length : Int) + 1 - 1) = (lf.length : Int) := by rw [IntKind.wrap_i64]; omega
      have hlt : (lf.length : Int) < ((lf.length + 1 : Nat) : Int) := by omega
      have hge : (0 : Int) ≤ (lf.length : Int) := by omega
      have HWt := Lib.hid (rdM_wt (R1 := R1) HMk.out)
      have HC5 := Lib.hid hc5
      have HRn := Lib.hid hrn
      clear hr5 hat5 HW hnil
      obtain ⟨ln, hln⟩ : ∃ ln, lf.length = ln := ⟨_, rfl⟩
      have HLn := Lib.hid hln
      rw [hln] at hcn hd w64 hlt hge H5c hc5 hw ⊢
      clear hln hlen
      by_cases hneg : n < 0
      · have hbx : bits .xor .i64 (-1) n = bn n := by
          unfold okN num at hrn
          rw [if_pos hneg] at hrn
          exact bits_not n (by omega) (by omega)
        have HD2 := Lib.hid (HD.out.close HK.out hneg)
        have hbs := HB.out.size
        have HAp3 : Hid (∀ q, v3.ownBlock = some q → w.heap.size + 1 ≤ q) := Lib.hid fun q hq => (World.ownsRow.lt H3.out q hq).1
        clear hrn HD
        go_wp2_with (at_builtin; refine of_stop ?_)
        refine stop_of ?_
        have b0 : Below wr.heap.size wr (wr.alloc (.cells #[.int .i64 (bn n)] 3)) := (Below.refl _ _).alloc (Nat.le_refl _) _
        have hX1 := HX.out
        have hMl := HMk.out.lt
        refine wpList_append_all rfl _ _ rfl rfl (OwnR.below H3.out b0) (L2 := [bn n]) rfl (one_rowI wr (bn n)) (Z := l ++ [bn n]) rfl hi0 hz0 hz1 hz2 rfl (by simp; omega) (by simp; omega) ?_
        intro v4 w4 ho4 hg4 hat4
        have HO4 := Lib.hid ho4
        have H54 := Lib.hid ((OwnR.below H5c.out b0).beside hg4 HAp.out)
        have HA4 : Hid (Apart v4 (.slice (some ⟨g5, 0, none⟩) ln c5)) := Lib.hid (apart_grown (OwnR.below H5c.out b0) HAp.out (hat4.imp id fun e => ⟨_, Nat.le_refl _, e⟩))
        have HM4 : Hid (MkG w4 w.heap.size M) := Lib.hid ((HMk.out.below b0).world (hg4.block _ (HMk.out.below b0).lt fun e => by have := HAp3.out _ e.symm; omega))
        have HB4 : Hid (Below w.heap.size w w4) := Lib.hid ((HB.out.trans (b0.mono hbs)).grown hg4 (by simp; omega) fun k hk => by have := HAp3.out k hk; omega)
        have HMu : Hid (ln + wtN R1 (rdM w4 w.heap.size) 1024 < ln + 1 + wtN R1 (rdM wr w.heap.size) 1024) := Lib.hid (by rw [rdM_wt HM4.out, HWt.out]; omega)
        have HW4 : Hid (lf.length + wtN R1 M 1024 ≤ 63488) := Lib.hid (by rw [HLn.out]; omega)
        clear ho4 hg4 hat4 b0 HMk HB HAp H5c H5 H3 HWt
        go_wp2_with fail
        go_step3
        exact ⟨rfl, ⟨lf, M, l ++ [bn n], _, _, _, _, _, _, _, _, _, _, _, _, _, _, _, _, _, _, _, _, _, _, _, _, _, _, _, _, _, _, _, _, _, _, _, _, _, _, _, _, _, _, _, _, _, _, _, rfl, HD2, HO4, H54, HA4, HM4, HB4, HW4⟩, HMu.out⟩
      · have hn0 : 0 ≤ n := by omega
        rw [num_pos hn0] at hrn
        obtain ⟨j, rfl⟩ : ∃ j : Nat, n = (j : Int) := ⟨n.toNat, by omega⟩
        have hj1 : j < 1024 := by unfold okN at hrn; omega
        have hkb : KB (j : Int) := kb_ok hrn
        obtain ⟨m0, m1⟩ := HMk.out.cell hj1
        have hbs := HB.out.size
        have hI : (j : Int) < 1024 := by omega
        have hlt0 : decide ((j : Int) < 0) = false := decide_eq_false (by omega)
        cases hm : M (j : Int) with
        | true =>
          have HD2 := Lib.hid (HD.out.drop hn0 hm)
          have HW4 : Hid (lf.length + wtN R1 M 1024 ≤ 63488) := Lib.hid (by rw [HLn.out]; omega)
          have HMu : Hid (ln + wtN R1 (rdM wr w.heap.size) 1024 < ln + 1 + wtN R1 (rdM wr w.heap.size) 1024) := Lib.hid (by omega)
          rw [hm] at m0
          clear HD hm H5
          go_wp2_with fail
          go_step3
          exact ⟨rfl, ⟨lf, M, l, _, _, _, _, _, _, _, _, _, _, _, _, _, _, _, _, _, _, _, _, _, _, _, _, _, _, _, _, _, _, _, _, _, _, _, _, _, _, _, _, _, _, _, _, _, _, _, rfl, HD2, H3, H5c, HAp, HMk, HB, HW4⟩, HMu.out⟩
        | false =>
          have hbx : bits .xor .i64 (-1) (j : Int) = bn (j : Int) := bits_not _ (by omega) (by omega)
          have HD2 := Lib.hid (HD.out.meet HK.out hn0 hm (fun y => HEd.out (j : Int) y))
          have hwu := wtN_upd (R1 := R1) hm hj1
          have hrl := HRl.out (j : Int)
          have HM9 : Hid (MkG (wr.setCell ⟨w.heap.size, j, none⟩ (.bool true)) w.heap.size (updB M (j : Int))) := Lib.hid (HMk.out.set (enc := Value.bool) (j := j) true)
          have hX5 : g5 ≠ w.heap.size := by have := (World.ownsRow.lt H5.out g5 rfl).1; omega
          have HX3 : Hid (∀ q, v3.ownBlock = some q → q ≠ w.heap.size) := Lib.hid fun q hq => by have := (World.ownsRow.lt H3.out q hq).1; omega
          have H39 := Lib.hid (OwnR.block H3.out (w' := wr.setCell ⟨w.heap.size, j, none⟩ (.bool true)) fun q hq => Below.heap_setCell _ _ _ q (fun e => HX3.out q hq e))
          have H59 := Lib.hid (OwnR.block H5c.out (w' := wr.setCell ⟨w.heap.size, j, none⟩ (.bool true)) fun q hq => Below.heap_setCell _ _ _ q (fun e => by cases hq; exact hX5 e))
          have HB9 := Lib.hid (HB.out.setCell (p := ⟨w.heap.size, j, none⟩) (Nat.le_refl _) (.bool true))
          have hz8 := HMk.out.lt
          have hz9 : w.heap.size ≤ (wr.setCell ⟨w.heap.size, j, none⟩ (.bool true)).heap.size := by simp; omega
          have hz7 : w.heap.size + 1 ≤ (wr.setCell ⟨w.heap.size, j, none⟩ (.bool true)).heap.size := by simp; omega
          have HC0 := (HGet.out _ HB9.out (j : Int) hkb).1.1
          rw [hm] at m0
          have HWr := HWt.out
          have HX5 : Hid (g5 ≠ w.heap.size) := Lib.hid hX5
          have HAs := Lib.hid HAp.out.symm
          clear HD hm H5 H5c H3 HMk hX5 HWt
          go_wp2_with fail
          clear m0 m1
          generalize wr.setCell ⟨w.heap.size, j, none⟩ (.bool true) = w9 at *
          have hbq : ∀ q, Below w.heap.size w (w9.alloc (.cells #[.int .i64 q] 3)).drew := fun q => Below.drew (HB9.out.alloc hz9 _)
          have hcd : ∀ q, (w9.alloc (.cells #[.int .i64 q] 3)).drew.cell? ⟨g, 0, none⟩ = some (.map (some b1)) := fun q => (HGet.out _ (hbq q) (j : Int) hkb).1.1
          have hld : ∀ q, (Instr.lookup 46 (.map (some b1)) (.int .i64 (j : Int)) false).run Try.prog (w9.alloc (.cells #[.int .i64 q] 3)).drew = .ok (.slice ((f1 (j : Int)).getD sl0).addr (R1 (j : Int)).length ((f1 (j : Int)).getD sl0).cap) (w9.alloc (.cells #[.int .i64 q] 3)).drew := fun q => (HGet.out _ (hbq q) (j : Int) hkb).1.2
          have hce : w9.drew.cell? ⟨g, 0, none⟩ = some (.map (some b1)) := HC0
          have hle := (HGet.out w9.drew (Below.drew HB9.out) (j : Int) hkb).1.2
          have hbq2 : ∀ q, Below w.heap.size w (w9.drew.alloc (.cells #[.int .i64 q] 3)) := fun q => (Below.drew HB9.out).alloc hz9 _
          have hcf : ∀ q, (w9.drew.alloc (.cells #[.int .i64 q] 3)).cell? ⟨g, 0, none⟩ = some (.map (some b1)) := fun q => (HGet.out _ (hbq2 q) (j : Int) hkb).1.1
          have hlf : ∀ q, (Instr.lookup 46 (.map (some b1)) (.int .i64 (j : Int)) false).run Try.prog (w9.drew.alloc (.cells #[.int .i64 q] 3)) = .ok (.slice ((f1 (j : Int)).getD sl0).addr (R1 (j : Int)).length ((f1 (j : Int)).getD sl0).cap) (w9.drew.alloc (.cells #[.int .i64 q] 3)) := fun q => (HGet.out _ (hbq2 q) (j : Int) hkb).1.2
          clear hbq hbq2
          go_region_law (first
            | (refine step_append_all (by rfl) _ _ (by rfl) (by rfl) (OwnR.below H59.out (by with_reducible repeat' (first | exact Below.refl _ _ | exact Nat.le_refl _ | refine Below.drew ?_ | refine Below.alloc ?_ ?_ _ | refine nlg_al ?_ | refine nlg_d ?_))) (L2 := [_]) (by rfl) (by first | exact (one_rowI _ _).below (Below.drew (Below.refl _ _)) | exact one_rowI _ _) (Z := lf ++ [bn (j : Int)]) (by exact congrArg (fun x => lf ++ [x]) (bits_not _ (by omega) (by omega))) hi0 hz0 hz1 hz2 rfl (by have := HLn.out; simp; omega) (by with_reducible repeat' (first | exact hz7 | refine nlg_al ?_ | refine nlg_d ?_)) ?_
               intro v4 w4 ho4 hg4 hat4
               have hs4 : w.heap.size + 1 ≤ w4.heap.size := Nat.le_trans (by with_reducible repeat' (first | exact hz7 | refine nlg_al ?_ | refine nlg_d ?_)) hg4.size
               have hB4 : Below w.heap.size w w4 := Below.grown ((by with_reducible repeat' (first | exact HB9.out | exact hz9 | refine Below.drew ?_ | refine Below.alloc ?_ ?_ _ | refine nlg_al ?_ | refine nlg_d ?_))) hg4 (by with_reducible repeat' (first | exact hz9 | refine nlg_al ?_ | refine nlg_d ?_)) (fun k hk => by have := (World.ownsRow.lt H59.out k hk).1; omega)
               have hc4 := (HGet.out _ hB4 (j : Int) hkb).1.1
               have hl4 := (HGet.out _ hB4 (j : Int) hkb).1.2
               have H34 := Lib.hid ((OwnR.below H39.out (by with_reducible repeat' (first | exact Below.refl _ _ | exact Nat.le_refl _ | refine Below.drew ?_ | refine Below.alloc ?_ ?_ _ | refine nlg_al ?_ | refine nlg_d ?_))).beside hg4 HAs.out)
               have HA4 := Lib.hid (apart_grown (OwnR.below H39.out (by with_reducible repeat' (first | exact Below.refl _ _ | exact Nat.le_refl _ | refine Below.drew ?_ | refine Below.alloc ?_ ?_ _ | refine nlg_al ?_ | refine nlg_d ?_))) HAs.out (hat4.imp id fun e => ⟨_, Nat.le_refl _, e⟩))
               have HM4 : Hid (MkG w4 w.heap.size (updB M (j : Int))) := Lib.hid ((HM9.out.below (by with_reducible repeat' (first | exact Below.refl _ _ | exact Nat.le_refl _ | refine Below.drew ?_ | refine Below.alloc ?_ ?_ _ | refine nlg_al ?_ | refine nlg_d ?_))).world (hg4.block _ (HM9.out.below (by with_reducible repeat' (first | exact Below.refl _ _ | exact Nat.le_refl _ | refine Below.drew ?_ | refine Below.alloc ?_ ?_ _ | refine nlg_al ?_ | refine nlg_d ?_))).lt fun e => HX5.out (Option.some.inj e).symm))
               have HO4 := Lib.hid ho4
               clear hg4 hat4 ho4)
            | (refine step_lookm (by rfl) _ _ 46 false (by rfl) (by rfl) (by rfl) (HGet.out _ (by with_reducible repeat' (first | exact hB4 | exact HB9.out | exact hz9 | refine Below.drew ?_ | refine Below.alloc ?_ ?_ _ | refine nlg_al ?_ | refine nlg_d ?_)) (j : Int) hkb).1.2 ?_)
            | (refine step_append_all (by rfl) _ _ (by rfl) (by rfl) HO4.out (L2 := R1 (j : Int)) (by rfl) (HGet.out _ hB4 (j : Int) hkb).2 (Z := lf ++ bn (j : Int) :: R1 (j : Int)) (by simp) hi0 hz0 hz1 hz2 rfl (by have := HLn.out; simp; omega) hs4 ?_
               intro v5 w5 ho5 hg5 hat5
               have H35 := Lib.hid (H34.out.beside hg5 HA4.out)
               have HA5 := Lib.hid (apart_grown H34.out HA4.out (hat5.imp id fun e => ⟨_, Nat.le_refl _, e⟩)).symm
               have HM5 : Hid (MkG w5 w.heap.size (updB M (j : Int))) := Lib.hid (HM4.out.world (hg5.block _ HM4.out.lt fun e => by have := (World.ownsRow.lt HO4.out _ e.symm).1; omega))
               have HB5 : Hid (Below w.heap.size w w5) := Lib.hid (Below.grown hB4 hg5 (by omega) fun k hk => by have := (World.ownsRow.lt HO4.out k hk).1; omega)
               have HO5 := Lib.hid ho5
               have hsl : slN v5 = ln + (1 + (R1 (j : Int)).length) := by
                 obtain ⟨A, cap, e, _⟩ := own_rowG ho5
                 rw [e]
                 show (lf ++ bn (j : Int) :: R1 (j : Int)).length = _
                 have := HLn.out
                 simp; omega
               have HMu : Hid (slN v5 + wtN R1 (rdM w5 w.heap.size) 1024 < ln + 1 + wtN R1 (rdM wr w.heap.size) 1024) := Lib.hid (by rw [rdM_wt HM5.out, HWr, hsl]; omega)
               clear hg5 hat5 ho5 hsl hB4 hc4 hl4 hs4 H34 HA4 HM4 HO4)
            | fail)
          all_goals
            have HW5 : Hid ((lf ++ bn (j : Int) :: R1 (j : Int)).length + wtN R1 (updB M (j : Int)) 1024 ≤ 63488) := Lib.hid (by have := HLn.out; simp; omega)
            clear hcd hld hce hle hcf hlf hwu hrl HC0 H39 H59 HB9 hz9 hz8 hz7 HM9
            go_wp2_with fail
            go_step3
            exact ⟨rfl, ⟨lf ++ bn (j : Int) :: R1 (j : Int), updB M (j : Int), l, _, _, _, _, _, _, _, _, _, _, _, _, _, _, _, _, _, _, _, _, _, _, _, _, _, _, _, _, _, _, _, _, _, _, _, _, _, _, _, _, _, _, _, _, _, _, _, rfl, HD2, H35, HO5, HA5, HM5, HB5, HW5⟩, HMu.out⟩
  · intro HJ
    go_wp2_with fail
    refine HNd.out.mono ?_; rintro e w1 ⟨v, rfl, ho, hb⟩
    have HB2 := Lib.hid (HB1.out.trans (hb.mono HB1.out.size))
    have HO := Lib.hid (OwnR.lowerG ho (b' := w.heap.size + 1) (by have := HX.out; omega))
    have HM2 : Hid (MkG w1 w.heap.size (fun _ => false)) := Lib.hid (HM1.out.below hb)
    have HW : Hid ((nodesG L 1024).length + wtN R1 (fun _ => false) 1024 ≤ 63488) := Lib.hid (by
      have h1 : (nodesG L 1024).length ≤ 1024 := upto_len _ _
      have h2 := wtN_le (M := fun _ => false) HRl.out 1024
      omega)
    clear ho hb HNd
    go_wp2_with fail
    go_step3
    rename_i K1 hK1
    exact hK1 _ _ (HJ _ _ ⟨nodesG L 1024, _, [], _, _, _, _, _, _, _, _, _, _, _, _, _, _, _, _, _, _, _, _, _, _, _, _, _, _, _, _, _, _, _, _, _, _, _, _, _, _, _, _, _, _, _, _, _, _, _, rfl, Lib.hid (Dfs.start HK.out), Lib.hid (World.ownsRow_nil _ _ _ _), HO, Lib.hid (Apart.nil _), HM2, HB2, HW⟩)
end Go.Proofs.Ytbppkflgokfjhaa
namespace Go.Proofs.Ytbppkflgokfjhaa
open Go.RowKit
theorem hanging_any (w0 w : World) (g : Nat) (L : List Lk) (hP : GP12 w0 g L) (hb0 : Below w0.heap.size w0 w) (hk : OkK L) (hL : L.length ≤ 60) (X : Nat) (hX : w0.heap.size ≤ X) (M : Int → Bool) (hM : MkG w X M) (on : List Int) (O : Option Addr) (co : Nat) {Q : Nat → Prop} (ho : RowI w Q O on) (hol : on.length ≤ 60) (hkb : ∀ x ∈ on, KB x) :
    Calls Try.prog 28 #[.pointer (some ⟨g, 0, none⟩), .pointer (some ⟨X, 0, none⟩), .slice O on.length co] w fun e w' => HgQ w L M on X e w' := by
  by_cases h : on = []
  · subst h
    exact hanging_none L M w g X hM O co
  · exact hanging_some w0 w g L hP hb0 hk hL X hX M hM on O co ho hol hkb h
set_option maxHeartbeats 8000000 in
set_option maxRecDepth 10000 in
theorem phang_any (w : World) (g : Nat) (L : List Lk) (on : List Int) (O : Option Addr) (co : Nat) (Q : Nat → Prop) (hP : GP12 w g L) (hk : OkK L) (hL : L.length ≤ 60) (ho : RowI w Q O on) (hol : on.length ≤ 60) (hkb : ∀ x ∈ on, KB x) :
    Calls Try.prog 17 #[.pointer (some ⟨g, 0, none⟩), .slice O on.length co] w fun e w' => GRow w (hangG L on 1024) e w' := by
  have hb1 : Below w.heap.size w (w.alloc (.cells Try.zeroCells59 59)) := (Below.refl _ _).alloc (Nat.le_refl _) _
  have HB1 := Lib.hid hb1
  have HH := Lib.hid (hanging_any w _ g L hP hb1 hk hL w.heap.size (Nat.le_refl _) (fun _ => false) (Ar.made marksG_zero w) on O co (ho.below hb1) hol hkb)
  have HK := Lib.hid hk
  clear hP hb1 ho hkb hk
  go_enter Try.func17, Try.ntmps17
  go_wp2_with fail
  refine HH.out.mono ?_; rintro e w2 ⟨found, M', P, c, rfl, hc, hI, hf, hM, hr, hbt⟩
  have HC := Lib.hid hc
  have HS : Hid (found.mergeSort leI = hangG L on 1024) := Lib.hid (sort_is hI.nd (upto_rise _ _) fun x => by rw [hf x, unm_none, hangG_mem HK.out])
  have hlen : (hangG L on 1024).length = found.length := by rw [← HS.out]; simp
  have HLe := Lib.hid hlen
  have hll : found.length ≤ 1024 := by rw [← hlen]; exact upto_len _ _
  have hb2 := hbt.below (n := w.heap.size) (Nat.le_refl _) (by have := HB1.out.size; omega)
  have HB2 := Lib.hid (HB1.out.trans hb2)
  have HT := Lib.hid (sort_row found P c w2 (hr.mono (Q := fun h => w.heap.size ≤ h) fun h hh _ => by have := HB1.out.size; omega) (by omega) w.heap.size (fun _ h => h) HB2.out.size)
  clear hc hI hf hM hr hbt hlen hll hb2 HH
  go_wp2_with fail
  refine HT.out.mono ?_; rintro e w3 ⟨rfl, hr3, hb3, _⟩
  rw [HS.out] at hr3
  have HR := Lib.hid hr3.row
  have HB3 := Lib.hid (HB2.out.trans hb3)
  clear hr3 hb3 HT
  go_wp2_with fail
  go_ret
  exact ⟨P, c, by rw [HLe.out]; rfl, by rw [HLe.out]; exact HC.out, HR.out, HB3.out⟩
end Go.Proofs.Ytbppkflgokfjhaa
