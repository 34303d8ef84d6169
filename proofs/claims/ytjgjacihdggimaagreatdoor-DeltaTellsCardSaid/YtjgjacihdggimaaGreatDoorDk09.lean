/- Texts joined: TsF, TsG, TqC, TqD, TqE. -/
import Derived.Test.YtjgjacihdggimaaGreatDoorDk06
import Derived.Test.YtjgjacihdggimaaGreatDoorDk08
import Derived.Test.YtjgjacihdggimaaGreatDoorDk05
import Derived.Shelf.Abstract
import Derived.Deep.WholeRow
set_option linter.all false
namespace Go.Proofs.YtjgjacihdggimaaGreatDoor
open Go.RowKit
theorem leaf_rows {w W : World} {base : Nat} {v : Value} {L : List NdM} {R : Nat → Prop} (h : OwN w base v L R) (hb : Below w.heap.size w W) {T : TypeId} {k : Int} (hn : W.heap[w.heap.size]? = some (.cells #[.int .i64 k] T (0, 0))) :
    OwN W base v L (fun g => R g ∨ g = w.heap.size) ∧ RowI W (fun g => R g ∨ g = w.heap.size) (some ⟨w.heap.size, 0, none⟩) [k] := by
  have hW := (Array.getElem?_eq_some_iff.1 hn).1
  refine ⟨(h.below hb).mono (fun g hg => .inl hg) fun g hg => ?_, rowI_lit hn rfl (.inr rfl)⟩
  rcases hg with hg | hg
  · exact (h.below hb).rR g hg
  · subst hg
    exact ⟨h.bs, hW, fun e => by have := (World.ownsRow.lt h.own _ e).2; omega⟩
theorem one_row2 (w : World) (o1 : Obj) (q : NdM) : AtR ndW 4 ((w.alloc o1).alloc (.cells (ndW q).toArray 110)).drew (w.heap.size + 1) 0 [q] := by
  have h := one_row (f := ndW) (n := 4) (E := 110) (w.alloc o1) q
  have e : (w.alloc o1).heap.size = w.heap.size + 1 := by simp
  rw [e] at h
  exact h
set_option maxHeartbeats 16000000 in
set_option maxRecDepth 10000 in
theorem rn_leaf {w : World} {base : Nat} {v : Value} {L : List NdM} {R : Nat → Prop} (hM : OwN w base v L R) (x : En) (lv : Int) {A : Option Addr} {ca : Nat} {Q : Nat → Prop} (hl : RowE w Q A [x]) (hlen : L.length + 1 ≤ 1000000) :
    Calls Tryz.prog 31 #[.slice A 1 ca, .int .i64 lv, v] w fun e w' => NQ w base v L R (leafT x) e w' := by
  obtain ⟨i0, hi0, hz0, hz1, hz2⟩ := info_parts rnode_info
  obtain ⟨g, o, rfl, _, hgl, hat⟩ := hl.at (i := 0) (by simp)
  obtain ⟨q0, q1⟩ := hat.two (i := 0) (x := x) rfl
  rw [Nat.zero_mul, Nat.add_zero] at q0
  rw [Nat.zero_mul, Nat.add_zero] at q1
  obtain ⟨O, co, rfl, _, _⟩ := OwnR.shape (f := ndW) (fun _ => rfl) hM.own
  have HM := Lib.hid hM
  obtain ⟨N, hN⟩ : ∃ N, L.length + 1 = N := ⟨_, rfl⟩
  have HN := Lib.hid hN
  rw [hN] at hlen
  have hbs := hM.bs
  obtain ⟨kx, tx⟩ := x
  clear hat hl hM hN
  go_enter Tryz.func31, Tryz.ntmps31
  go_wp2_with fail
  go_region_law (first
    | (refine step_append_rows (f := ndW) (n := 4) (E := 110) (nb := 72) (X := L) (base := base) (by rfl) _ _ (by rfl) (by rfl) (OwnR.below HM.out.own (by with_reducible repeat' (first | exact Below.refl _ _ | exact Nat.le_refl _ | refine Below.drew ?_ | refine Below.alloc ?_ ?_ _ | refine nl_al ?_ | refine nl_d ?_))) (L2 := [(⟨⟨1, [], [kx], tx⟩, none, 0, some ⟨w.heap.size, 0, none⟩, 1⟩ : NdM)]) (by rfl) (by exact one_row2 w _ (⟨⟨1, [], [kx], tx⟩, none, 0, some ⟨w.heap.size, 0, none⟩, 1⟩ : NdM)) (by simp) (N := N) (by rw [HN.out.symm]; rfl) (Z := L ++ [(⟨⟨1, [], [kx], tx⟩, none, 0, some ⟨w.heap.size, 0, none⟩, 1⟩ : NdM)]) rfl Tryz.underlying65 hi0 hz0 hz1 hz2 rfl (by decide) (by decide) (fun _ => rfl) ndW_one (by omega) (by first | omega | (simp; done) | (simp; omega)) ?_; intro g4 k4 w4 ho4 hg4 hat4 hl4
       have hR := leaf_rows HM.out (W := ((w.alloc (.cells #[.int .i64 kx] 3)).alloc (.cells (ndW (⟨⟨1, [], [kx], tx⟩, none, 0, some ⟨w.heap.size, 0, none⟩, 1⟩ : NdM)).toArray 110)).drew) (by with_reducible repeat' (first | exact Below.refl _ _ | exact Nat.le_refl _ | refine Below.drew ?_ | refine Below.alloc ?_ ?_ _ | refine nl_al ?_)) (by exact heapA_old w _ _)
       have hNQ := OwN.app (w := w) (t := leafT ⟨kx, tx⟩) (L := L) (n := ⟨1, [], [kx], tx⟩) (v := .slice O L.length co) hR.1 (.inl rfl) hR.2 (fl_leafD (⟨kx, tx⟩ : En) _).symm (fun g hg => hg.imp id (fun e => Nat.le_of_eq e.symm)) (.inl rfl) (ButS.of_below (by with_reducible repeat' (first | exact Below.refl _ _ | exact Nat.le_refl _ | refine Below.drew ?_ | refine Below.alloc ?_ ?_ _ | refine nl_al ?_))) (Below.refl _ _) ho4 hg4 (hat4.elim (fun e => .inl e.symm) (fun e => .inr ⟨g4, rfl, Nat.le_of_eq e.symm⟩))
       have HNQ := Lib.hid hNQ
       clear hR hNQ ho4 hg4 hat4 hl4)
    | fail)
  all_goals
    go_wp2_with fail
    go_ret
    exact HNQ.out
end Go.Proofs.YtjgjacihdggimaaGreatDoor
namespace Go.Proofs.YtjgjacihdggimaaGreatDoor
open Go.RowKit
theorem rtone_any (l : List En) (hne : l ≠ []) (A : Option Addr) (ca : Nat) (w : World) {Q : Nat → Prop} (hl : RowE w Q A l) (hll : l.length ≤ 1000000) :
    Calls Tryz.prog 55 #[.slice A l.length ca] w fun e w' => e = .returned (.bool (oneH l)) ∧ ∃ n, w' = w.drewN n := by
  cases l with
  | nil => exact absurd rfl hne
  | cons x r => exact rone1_any x r A ca w hl hll
set_option maxHeartbeats 16000000 in
set_option maxRecDepth 10000 in
theorem rn_buk {w : World} {base : Nat} {v : Value} {L : List NdM} {R : Nat → Prop} (hM : OwN w base v L R) (l : List En) (h2 : 2 ≤ l.length) (hll : l.length ≤ 100000) (hoh : oneH l = true) (lv : Int) {A : Option Addr} {ca : Nat} (hca : l.length ≤ ca) {Q : Nat → Prop} (hl : RowE w Q A l) (hQ : ∀ g, Q g → ¬ ChN v g) (hlen : (fl (.mk 2 [] [] (l.map leafT)) (L.map NdM.n)).length ≤ 1000000) :
    Calls Tryz.prog 31 #[.slice A l.length ca, .int .i64 lv, v] w fun e w' => NQ w base v L R (.mk 2 [] [] (l.map leafT)) e w' := by
  obtain ⟨i0, hi0, hz0, hz1, hz2⟩ := info_parts rnode_info
  have hOn := rtone_any l (fun e => by rw [e] at h2; simp at h2) A ca w hl (by omega)
  rw [hoh] at hOn
  have HOn := Lib.hid hOn
  have hlp : 0 < l.length := by omega
  obtain ⟨g, o, rfl, _, _, _⟩ := hl.at hlp
  have HM := Lib.hid hM
  have HL := Lib.hid hl
  have HQ := Lib.hid hQ
  have dl0 : ((l.length : Int) == 0) = false := by rw [beq_eq_false_iff_ne]; omega
  have dl1 : ((l.length : Int) == 1) = false := by rw [beq_eq_false_iff_ne]; omega
  clear hOn hM hl hQ hoh
  go_enter Tryz.func31, Tryz.ntmps31
  go_wp2_with fail
  refine HOn.out.mono ?_; rintro e w1 ⟨rfl, nd, rfl⟩
  have HB1 := Lib.hid (below_drewN (Below.refl w.heap.size w) nd)
  generalize w.drewN nd = w1 at *
  have hblk := heap_alloc_new w1 (.cells #[.int .i64 2, .slice none 0 0, .slice none 0 0, .string ⟨#[]⟩] 110)
  have hbW : Below w1.heap.size w1 (w1.alloc (.cells #[.int .i64 2, .slice none 0 0, .slice none 0 0, .string ⟨#[]⟩] 110)) := (Below.refl _ _).alloc (Nat.le_refl _) _
  have hM1 := HM.out.below HB1.out
  have hLQ := LQ.start (k := 2) (vN := .slice none 0 0) hM1 (hM1.below hbW) hbW (Lib.cell_of_heap hblk 0) (Lib.cell_of_heap hblk 1) (Lib.cell_of_heap hblk 2) (Lib.cell_of_heap hblk 3) (fun j => by unfold World.frozen?; rw [hblk]; simp)
  have HLQ0 := Lib.hid hLQ
  have hL1 : RowE w1 (fun g => ¬ ChN v g ∧ g < w1.heap.size) (some ⟨g, o, none⟩) l := by
    have h1 := HL.out.below HB1.out
    exact h1.mono fun g hg hl => ⟨HQ.out g hg, hl⟩
  have HL1 := Lib.hid hL1
  clear hblk hbW hM1 hLQ HL hL1 HM HQ HOn
  go_wp2_with fail
  go_loopw [2, 9] (fun vo vi wr => ∃ (i : Nat) (vR : Value) (L' : List NdM) (R' : Nat → Prop), i ≤ l.length ∧ vi = .int .i64 (i : Int) ∧ Hid (LQ w1 wr base v L R ((l.take i).map leafT) vR 2 (.slice none 0 0) vo L' R')) (fun _ vi _ => l.length - (RowKit.intOf vi).toNat)
  case atStart => exact ⟨0, _, _, _, Nat.zero_le _, rfl, HLQ0⟩
  case round =>
    clear HLQ0
    obtain ⟨i, vR, L', R', hi, rfl, HLQ⟩ := hrel
    by_cases hlt : i < l.length
    · obtain ⟨x, hx⟩ : ∃ x, l[i]? = some x := ⟨_, List.getElem?_eq_getElem hlt⟩
      have HT : Hid (((l.take i).map leafT) ++ [leafT x] = (l.take (i + 1)).map leafT) := Lib.hid (by rw [List.take_add_one, hx, List.map_append]; rfl)
      have hrow : RowE wr (fun _ => True) (some ⟨g, o + i * 2, none⟩) [x] := by
        have hk := HL1.out.kept (HLQ.out.but.keptQ fun g hg => hg.1)
        obtain ⟨g', o', e, hg', hgl', hat⟩ := hk.at hlt
        obtain ⟨rfl, rfl⟩ : g = g' ∧ o = o' := by injection e with e; injection e with a b; exact ⟨a, b⟩
        refine .inr ⟨g, o + i * 2, rfl, trivial, hgl', ?_⟩
        have := hat.part i 1
        rwa [List.drop_eq_getElem_cons hlt, List.take_succ_cons, List.take_zero, show l[i] = x from (List.getElem?_eq_some_iff.1 hx).2] at this
      have hlx : L'.length + 1 ≤ 1000000 := by
        have h1 := flL_mono (l.map leafT) (i + 1) (L.map NdM.n) []
        rw [← List.map_take, ← HT.out, flL_snoc, ← HLQ.out.eq, fl_leafD, List.length_append, List.length_map] at h1
        exact Nat.le_trans h1 (Nat.le_trans (fl_ge 2 [] [] _ _) hlen)
      have HC := Lib.hid (rn_leaf HLQ.out.md x lv (A := some ⟨g, o + i * 2, none⟩) (ca := ca - i) hrow hlx)
      have r1 := HLQ.out.x1
      have zX := HLQ.out.lt
      have hlr : (flL ((l.take i).map leafT) (L.map NdM.n) []).2.length = i := by
        obtain ⟨m, e, hm⟩ := flL_refs ((l.take i).map leafT) (L.map NdM.n) []
        rw [e, List.nil_append, hm, List.length_map, List.length_take]; omega
      have HLr := Lib.hid hlr
      obtain ⟨j0, hj0, hk0, hk1, hk2⟩ := info_parts int_info
      have hkI : (i : Int) < (l.length : Int) := by omega
      have hkw : IntKind.i64.wrap ((i : Int) + 1) = (i : Int) + 1 := by rw [IntKind.wrap_i64]; omega
      have hkv : (i : Int) + 1 ≤ (ca : Int) := by omega
      have hkvN : i + 1 ≤ ca := by omega
      have hkvL : i < ca := by omega
      have hkvI : (i : Int) < (ca : Int) := by omega
      have hkvZ : ¬ (ca - i = 0) := by omega
      have hkvE : ¬ (ca = i) := by omega
      have hki0 : (0 : Int) ≤ (i : Int) := by omega
      have hkk : (i : Int) ≤ (i : Int) + 1 := by omega
      clear hx hrow hlr
      go_wp2_with fail
      refine HC.out.mono ?_; rintro e w2 ⟨v2, M2, R2, rfl, hM2, hf2, hR2, hv2, hbu2⟩
      have hcl := LQ.call HLQ.out (Below.refl _ _) hbu2
      have y1 := hcl.1
      have zX2 : w1.heap.size < w2.heap.size := Lib.lt_of_cell y1
      have HO2 := Lib.hid hcl.2
      obtain ⟨O2, c2, rfl, _, _⟩ := OwnR.shape (f := ndW) (fun _ => rfl) hM2.own
      have hm2 : M2.length ≤ 1000000 := by
        have := congrArg List.length hf2
        rw [List.length_map, fl_leafD, List.length_append, List.length_map] at this
        simp only [List.length_cons, List.length_nil] at this
        omega
      have HM2 := Lib.hid hM2
      have HF2 := Lib.hid hf2
      have HR2 := Lib.hid hR2
      have HV2 := Lib.hid hv2
      have HB2 := Lib.hid hbu2
      clear hcl hM2 hf2 hR2 hv2 hbu2 HC r1
      go_wp2_with (at_builtin; refine of_stop ?_)
      refine stop_of ?_
      refine wpList_append_rows (f := inW) (n := 1) (E := 3) (nb := 8) (X := (flL ((l.take i).map leafT) (L.map NdM.n) []).2) (base := w1.heap.size + 1) rfl _ _ rfl rfl (OwnR.below HO2.out (by with_reducible repeat' (first | exact Below.refl _ _ | exact Nat.le_refl _ | refine Below.drew ?_ | refine Below.alloc ?_ ?_ _ | refine nl_al ?_ | refine nl_d ?_))) (L2 := [-(M2.length : Int)]) rfl (one_row _ _) (by simp) (N := i + 1) (by rw [HLr.out]; rfl) (Z := (flL ((l.take i).map leafT) (L.map NdM.n) []).2 ++ [-(M2.length : Int)]) rfl Tryz.underlying54 hj0 hk0 hk1 hk2 rfl (by decide) (by decide) (fun _ => rfl) inW_one (by omega) (by simp; omega) ?_
      intro g4 k4 w4 ho4 hg4 hat4 hl4
      have hgr := LQ.grown HLQ.out (Below.refl _ _) HB2.out (w2 := w2.alloc _) (by exact (Below.refl _ _).alloc (Nat.le_refl _) _) hg4
      have f4 := hgr.2
      have c4 := hgr.1
      have hN4 := LQ.next HLQ.out (Below.refl _ _) HM2.out HF2.out HR2.out HV2.out HB2.out (w2 := w2.alloc _) (by exact (Below.refl _ _).alloc (Nat.le_refl _) _) ho4 hg4 (hat4.elim (fun e => .inl e.symm) (fun e => .inr ⟨g4, rfl, Nat.le_of_eq e.symm⟩))
      have hN5 := hN4.1
      rw [HT.out] at hN5
      have HN5 := Lib.hid hN5
      clear hgr ho4 hg4 hat4 hN4 hN5 HM2 HF2 HR2 HV2 HB2 HO2 y1 HLQ HT HLr
      go_wp2_with fail
      go_roundw
      case rel => exact ⟨i + 1, _, _, _, by omega, by go_num, HN5⟩
      case measure => simp [RowKit.intOf]; omega
    · have hii : i = l.length := by omega
      subst hii
      have hq := HLQ.out
      rw [List.take_length] at hq
      obtain ⟨A2, ca2, R2, rfl, hO, hA, hB, hR⟩ := LQ.done hq (nums := []) (B := none) (RN := fun _ => False) (.inl rfl) (fun g hg => hg.elim)
      obtain ⟨O2, co2, rfl, _, _⟩ := OwnR.shape (f := ndW) (fun _ => rfl) hq.md.own
      obtain ⟨rs, hrs⟩ : ∃ rs, (flL (l.map leafT) (L.map NdM.n) []).2 = rs := ⟨_, rfl⟩
      rw [hrs] at hA hq
      have hx0 := hq.x0
      have hx1 := hq.x1
      have hx2 := hq.x2
      have hx3 := hq.x3
      have hf : L'.map NdM.n ++ [⟨2, rs, [], []⟩] = fl (.mk 2 [] [] (l.map leafT)) (L.map NdM.n) := by rw [fl, hq.eq, hrs]
      have hlen2 : L'.length + 1 ≤ 1000000 := by
        have := congrArg List.length hf
        rw [List.length_append, List.length_map] at this
        simp only [List.length_cons, List.length_nil] at this
        omega
      obtain ⟨N, hN⟩ : ∃ N, L'.length + 1 = N := ⟨_, rfl⟩
      rw [hN] at hlen2
      have HN := Lib.hid hN
      have hbs := hq.bs
      have zX := hq.lt
      have HO := Lib.hid hO
      have HA := Lib.hid hA
      have HBn := Lib.hid hB
      have HF := Lib.hid hf
      have HR := Lib.hid hR
      have HV := Lib.hid hq.v2
      have HBu := Lib.hid hq.but
      clear hO hA hB hf hR hq HLQ hN hlen
      go_wp2_with (at_builtin; refine of_stop ?_)
      refine stop_of ?_
      refine wpList_append_rows (f := ndW) (n := 4) (E := 110) (nb := 72) (X := L') (base := base) rfl _ _ rfl rfl (OwnR.below HO.out.own (by with_reducible repeat' (first | exact Below.refl _ _ | exact Nat.le_refl _ | refine Below.drew ?_ | refine Below.alloc ?_ ?_ _ | refine nl_al ?_ | refine nl_d ?_))) (L2 := [(⟨⟨2, rs, [], []⟩, A2, ca2, none, 0⟩ : NdM)]) rfl (one_row wr (⟨⟨2, rs, [], []⟩, A2, ca2, none, 0⟩ : NdM)) (by simp) (N := N) HN.out (Z := L' ++ [(⟨⟨2, rs, [], []⟩, A2, ca2, none, 0⟩ : NdM)]) rfl Tryz.underlying65 hi0 hz0 hz1 hz2 rfl (by decide) (by decide) (fun _ => rfl) ndW_one (by omega) (by simp; omega) ?_
      intro g4 k4 w4 ho4 hg4 hat4 hl4
      have hNQ := OwN.app (w := w1) (t := .mk 2 [] [] (l.map leafT)) (L := L) HO.out HA.out HBn.out HF.out HR.out HV.out HBu.out (by with_reducible repeat' (first | exact Below.refl _ _ | exact Nat.le_refl _ | refine Below.drew ?_ | refine Below.alloc ?_ ?_ _ | refine nl_al ?_ | refine nl_d ?_)) ho4 hg4 (hat4.elim (fun e => .inl e.symm) (fun e => .inr ⟨g4, rfl, Nat.le_of_eq e.symm⟩))
      have HNQ := Lib.hid (NQ.from HB1.out hNQ)
      clear hNQ ho4 hg4 hat4 hl4 HO HA HBn HF HR HV HBu hx0 hx1 hx2 hx3
      go_wp2_with fail
      go_ret
      exact HNQ.out
end Go.Proofs.YtjgjacihdggimaaGreatDoor
namespace Go.Proofs.YtjgjacihdggimaaGreatDoor
open Go.RowKit
def enV (x : En) : Value := .agg #[.int .i64 x.key, .string ⟨x.text.toArray⟩]
set_option maxHeartbeats 4000000 in
set_option maxRecDepth 10000 in
theorem pindex0_any {F : Nat} {p : En → Bool} {l : List En} {A : Option Addr} {ca : Nat} {w : World} {Q : Nat → Prop} (hE : ∀ (args : Array Value) (w : World), (callFunc F args).run Tryz.prog w = .ok (.enter F args) w) (hl : RowE w Q A l) (hll : l.length ≤ 1000000)
    (hR : ∀ x ∈ l, ∀ w', Below w.heap.size w w' → Calls Tryz.prog F #[enV x] w' fun e w'' => e = .returned (.bool (p x)) ∧ Below w'.heap.size w' w'') :
    Calls Tryz.prog 49 #[.slice A l.length ca, .func (.func F) #[] #[]] w fun e w' => ∃ r : Int, e = .returned (.int .i64 r) ∧ decide (0 ≤ r) = l.any p ∧ Below w.heap.size w w' := by
  have HL := Lib.hid hl
  have HR := Lib.hid hR
  clear hl hR
  unfold enV at HR
  go_enter Tryz.func49, Tryz.ntmps49
  go_wp2_with fail
  go_loopw [8] (fun vi wr => ∃ i : Nat, i ≤ l.length ∧ vi = .int .i64 (i : Int) ∧ Hid ((l.take i).any p = false) ∧ Below w.heap.size w wr) (fun vi _ => l.length - (RowKit.intOf vi).toNat)
  case atStart => exact ⟨0, Nat.zero_le _, rfl, Lib.hid (by rw [List.take_zero]; rfl), Below.refl _ _⟩
  case round =>
    obtain ⟨i, hi, rfl, HN, hb⟩ := hrel
    by_cases hlt : i < l.length
    · obtain ⟨x, hx⟩ : ∃ x, l[i]? = some x := ⟨_, List.getElem?_eq_getElem hlt⟩
      obtain ⟨g, o, rfl, _, hgl, hat⟩ := HL.out.at hlt
      obtain ⟨q0, q1⟩ := hat.two hx
      have k0 := keep_cell hb q0
      have k1 := keep_cell hb q1
      have HX := Lib.hid (HR.out x (List.mem_of_getElem? hx) wr hb)
      have hI : (i : Int) < (l.length : Int) := by omega
      have hm := List.mem_of_getElem? hx
      have HY : Hid (p x = true → l.any p = true) := Lib.hid fun h => List.any_eq_true.2 ⟨x, hm, h⟩
      have HZ : Hid (p x = false → (l.take (i + 1)).any p = false) := Lib.hid fun h => by rw [List.take_add_one, hx, List.any_append, HN.out]; simp [h]
      clear hat q0 q1 hx hm
      cases hp : p x with
      | true =>
        rw [hp] at HX
        have HY2 := Lib.hid (HY.out hp)
        clear hp HY HZ
        go_wp2_with fail
        refine HX.out.mono ?_; rintro e w1 ⟨rfl, hb1⟩
        go_wp2_with fail
        go_ret
        exact ⟨_, rfl, by rw [HY2.out]; exact decide_eq_true (by omega), hb.trans (hb1.mono hb.size)⟩
      | false =>
        rw [hp] at HX
        have HZ2 := Lib.hid (HZ.out hp)
        clear hp HY HZ HN
        go_wp2_with fail
        refine HX.out.mono ?_; rintro e w1 ⟨rfl, hb1⟩
        have hb2 := hb.trans (hb1.mono hb.size)
        go_wp2_with fail
        go_roundw
        case rel => exact ⟨i + 1, by omega, by go_num, HZ2, hb2⟩
        case measure => simp [RowKit.intOf]; omega
    · have hii : i = l.length := by omega
      subst hii
      have hn := HN.out
      rw [List.take_length] at hn
      have HN2 := Lib.hid hn
      clear hn HN
      go_wp2_with fail
      go_ret
      exact ⟨_, rfl, by rw [HN2.out]; rfl, hb⟩
set_option maxHeartbeats 4000000 in
set_option maxRecDepth 10000 in
theorem pcontains0_any {F : Nat} {p : En → Bool} {l : List En} {A : Option Addr} {ca : Nat} {w : World} {Q : Nat → Prop} (hE : ∀ (args : Array Value) (w : World), (callFunc F args).run Tryz.prog w = .ok (.enter F args) w) (hl : RowE w Q A l) (hll : l.length ≤ 1000000)
    (hR : ∀ x ∈ l, ∀ w', Below w.heap.size w w' → Calls Tryz.prog F #[enV x] w' fun e w'' => e = .returned (.bool (p x)) ∧ Below w'.heap.size w' w'') :
    Calls Tryz.prog 25 #[.slice A l.length ca, .func (.func F) #[] #[]] w fun e w' => e = .returned (.bool (l.any p)) ∧ Below w.heap.size w w' := by
  have HI := Lib.hid (pindex0_any (ca := ca) hE hl hll hR)
  clear hl hR
  go_enter Tryz.func25, Tryz.ntmps25
  go_wp2_with fail
  refine HI.out.mono ?_; rintro e w1 ⟨r, rfl, hr, hb1⟩
  have HR1 := Lib.hid hr
  generalize hd : decide (0 ≤ r) = d at *
  go_wp2_with fail
  go_ret
  exact ⟨by rw [← HR1.out]; rfl, hb1⟩
set_option maxHeartbeats 4000000 in
set_option maxRecDepth 10000 in
theorem pindex1_any {F : Nat} {C : Value} {p : En → Bool} {l : List En} {A : Option Addr} {ca : Nat} {w : World} {Q : Nat → Prop} (hE : ∀ (args : Array Value) (w : World), (callFunc F args).run Tryz.prog w = .ok (.enter F args) w) (hl : RowE w Q A l) (hll : l.length ≤ 1000000)
    (hR : ∀ x ∈ l, ∀ w', Below w.heap.size w w' → Calls Tryz.prog F #[enV x, C] w' fun e w'' => e = .returned (.bool (p x)) ∧ Below w'.heap.size w' w'') :
    Calls Tryz.prog 49 #[.slice A l.length ca, .func (.func F) #[] #[C]] w fun e w' => ∃ r : Int, e = .returned (.int .i64 r) ∧ decide (0 ≤ r) = l.any p ∧ Below w.heap.size w w' := by
  have HL := Lib.hid hl
  have HR := Lib.hid hR
  clear hl hR
  unfold enV at HR
  go_enter Tryz.func49, Tryz.ntmps49
  go_wp2_with fail
  go_loopw [8] (fun vi wr => ∃ i : Nat, i ≤ l.length ∧ vi = .int .i64 (i : Int) ∧ Hid ((l.take i).any p = false) ∧ Below w.heap.size w wr) (fun vi _ => l.length - (RowKit.intOf vi).toNat)
  case atStart => exact ⟨0, Nat.zero_le _, rfl, Lib.hid (by rw [List.take_zero]; rfl), Below.refl _ _⟩
  case round =>
    obtain ⟨i, hi, rfl, HN, hb⟩ := hrel
    by_cases hlt : i < l.length
    · obtain ⟨x, hx⟩ : ∃ x, l[i]? = some x := ⟨_, List.getElem?_eq_getElem hlt⟩
      obtain ⟨g, o, rfl, _, hgl, hat⟩ := HL.out.at hlt
      obtain ⟨q0, q1⟩ := hat.two hx
      have k0 := keep_cell hb q0
      have k1 := keep_cell hb q1
      have HX := Lib.hid (HR.out x (List.mem_of_getElem? hx) wr hb)
      have hI : (i : Int) < (l.length : Int) := by omega
      have hm := List.mem_of_getElem? hx
      have HY : Hid (p x = true → l.any p = true) := Lib.hid fun h => List.any_eq_true.2 ⟨x, hm, h⟩
      have HZ : Hid (p x = false → (l.take (i + 1)).any p = false) := Lib.hid fun h => by rw [List.take_add_one, hx, List.any_append, HN.out]; simp [h]
      clear hat q0 q1 hx hm
      cases hp : p x with
      | true =>
        rw [hp] at HX
        have HY2 := Lib.hid (HY.out hp)
        clear hp HY HZ
        go_wp2_with fail
        refine HX.out.mono ?_; rintro e w1 ⟨rfl, hb1⟩
        go_wp2_with fail
        go_ret
        exact ⟨_, rfl, by rw [HY2.out]; exact decide_eq_true (by omega), hb.trans (hb1.mono hb.size)⟩
      | false =>
        rw [hp] at HX
        have HZ2 := Lib.hid (HZ.out hp)
        clear hp HY HZ HN
        go_wp2_with fail
        refine HX.out.mono ?_; rintro e w1 ⟨rfl, hb1⟩
        have hb2 := hb.trans (hb1.mono hb.size)
        go_wp2_with fail
        go_roundw
        case rel => exact ⟨i + 1, by omega, by go_num, HZ2, hb2⟩
        case measure => simp [RowKit.intOf]; omega
    · have hii : i = l.length := by omega
      subst hii
      have hn := HN.out
      rw [List.take_length] at hn
      have HN2 := Lib.hid hn
      clear hn HN
      go_wp2_with fail
      go_ret
      exact ⟨_, rfl, by rw [HN2.out]; rfl, hb⟩
set_option maxHeartbeats 4000000 in
set_option maxRecDepth 10000 in
theorem pcontains1_any {F : Nat} {C : Value} {p : En → Bool} {l : List En} {A : Option Addr} {ca : Nat} {w : World} {Q : Nat → Prop} (hE : ∀ (args : Array Value) (w : World), (callFunc F args).run Tryz.prog w = .ok (.enter F args) w) (hl : RowE w Q A l) (hll : l.length ≤ 1000000)
    (hR : ∀ x ∈ l, ∀ w', Below w.heap.size w w' → Calls Tryz.prog F #[enV x, C] w' fun e w'' => e = .returned (.bool (p x)) ∧ Below w'.heap.size w' w'') :
    Calls Tryz.prog 25 #[.slice A l.length ca, .func (.func F) #[] #[C]] w fun e w' => e = .returned (.bool (l.any p)) ∧ Below w.heap.size w w' := by
  have HI := Lib.hid (pindex1_any (ca := ca) hE hl hll hR)
  clear hl hR
  go_enter Tryz.func25, Tryz.ntmps25
  go_wp2_with fail
  refine HI.out.mono ?_; rintro e w1 ⟨r, rfl, hr, hb1⟩
  have HR1 := Lib.hid hr
  generalize hd : decide (0 ≤ r) = d at *
  go_wp2_with fail
  go_ret
  exact ⟨by rw [← HR1.out]; rfl, hb1⟩
end Go.Proofs.YtjgjacihdggimaaGreatDoor
namespace Go.Proofs.YtjgjacihdggimaaGreatDoor
open Go.RowKit Go.Shelf
theorem oneH_any {y : En} {r : List En} : oneH (y :: r) = !((y :: r).any fun x => hashK x.key != hashK y.key) := by
  show (r.all fun z => decide (hashK z.key = hashK y.key)) = _
  rw [List.any_cons, show (hashK y.key != hashK y.key) = false by simp, Bool.false_or, List.all_eq_not_any_not]
  rfl
set_option maxHeartbeats 4000000 in
set_option maxRecDepth 10000 in
theorem palike1_any {x y : En} {l : List En} {A : Option Addr} {ca B : Nat} {w : World} {Q : Nat → Prop} (hl : RowE w Q A l) (h0 : l[0]? = some y) (hc : w.cell? ⟨B, 0, none⟩ = some (.slice A l.length ca)) :
    Calls Tryz.prog 86 #[enV x, .pointer (some ⟨B, 0, none⟩)] w fun e w' => e = .returned (.bool (hashK x.key != hashK y.key)) ∧ Below w.heap.size w w' := by
  have hlt : 0 < l.length := (List.getElem?_eq_some_iff.1 h0).1
  obtain ⟨g, o, rfl, _, hgl, hat⟩ := hl.at hlt
  obtain ⟨q0, q1⟩ := hat.two h0
  rw [Nat.zero_mul, Nat.add_zero] at q0
  have HH := Lib.hid (fun k w => phash_any k w)
  have hba : Below w.heap.size w (w.alloc (.cells #[.int .i64 x.key, .string ⟨x.text.toArray⟩] 60)) := (Below.refl _ _).alloc (Nat.le_refl _) _
  have k0 := keep_cell hba q0
  have k1 := keep_cell hba hc
  have HBa := Lib.hid hba
  clear hat q1 hba q0 hc hl h0
  unfold enV
  go_enter Tryz.func86, Tryz.ntmps86
  go_wp2_with fail
  go_region_law (first
    | (go_simp; go_at_call 50
       refine (HH.out _ _).mono ?_; rintro e w1 ⟨rfl, rfl⟩))
  all_goals
    go_wp2_with fail
    go_ret
    exact ⟨rfl, by first | exact HBa.out | exact HBa.out.drew⟩
set_option maxHeartbeats 4000000 in
set_option maxRecDepth 10000 in
theorem palike_any (l : List En) (hne : l ≠ []) (hll : l.length ≤ 1000000) (A : Option Addr) (ca : Nat) (w : World) (Q : Nat → Prop) (hl : RowE w Q A l) :
    Calls Tryz.prog 70 #[.slice A l.length ca] w fun e w' => e = .returned (.bool (oneH l)) ∧ Below w.heap.size w w' := by
  obtain ⟨y, r, rfl⟩ : ∃ y r, l = y :: r := by cases l with | nil => exact absurd rfl hne | cons y r => exact ⟨y, r, rfl⟩
  have HO := Lib.hid (oneH_any (y := y) (r := r))
  have hba : Below w.heap.size w (w.alloc (.cells #[.slice A (y :: r).length ca] 22)) := (Below.refl _ _).alloc (Nat.le_refl _) _
  have hblk := (heap_alloc_new w (.cells #[.slice A (y :: r).length ca] 22))
  have hz : w.heap.size < (w.alloc (.cells #[.slice A (y :: r).length ca] 22)).heap.size := by simp
  have HC := Lib.hid (pcontains1_any (F := 86) (C := .pointer (some ⟨w.heap.size, 0, none⟩)) (p := fun x => hashK x.key != hashK y.key) (ca := ca) (enters_of Tryz.func86 (by kernel_rfl) rfl) (hl.below hba) hll
    (fun x _ w' hb => palike1_any ((hl.below hba).below hb) rfl (by rw [hb.cell hz, Lib.cell_of_heap hblk]; rfl)))
  have HBa := Lib.hid hba
  clear hba hblk hz hl
  generalize ((y :: r).any fun x => hashK x.key != hashK y.key) = V at HO HC
  generalize hN : (y :: r).length = N at *
  clear hN
  go_enter Tryz.func70, Tryz.ntmps70
  go_wp2_with fail
  refine HC.out.mono ?_; rintro e w1 ⟨rfl, hb1⟩
  have hb2 := HBa.out.trans (hb1.mono HBa.out.size)
  go_wp2_with fail
  go_ret
  exact ⟨by rw [HO.out]; rfl, hb2⟩
end Go.Proofs.YtjgjacihdggimaaGreatDoor
namespace Go.Proofs.YtjgjacihdggimaaGreatDoor
open Go.RowKit Go.Shelf
def arC (vs : Nat → Value) : Array Value := ((List.range 32).map vs).toArray
theorem arC_size (vs : Nat → Value) : (arC vs).size = 32 := by
  unfold arC
  rw [List.size_toArray, List.length_map, List.length_range]
theorem arC_at (vs : Nat → Value) {j : Nat} (h : j < 32) : (arC vs)[j]? = some (vs j) := by
  unfold arC
  rw [List.getElem?_toArray, List.getElem?_map, List.getElem?_range h]; rfl
theorem arC_set (vs : Nat → Value) (k : Nat) (hk : k < 32) (v : Value) : (arC vs).setIfInBounds k v = arC fun d => if d = k then v else vs d := by
  apply Array.ext_getElem?
  intro i
  rw [Array.getElem?_setIfInBounds, arC_size]
  by_cases hi : i < 32
  · rw [arC_at _ hi, arC_at _ hi]
    by_cases e : k = i
    · subst e
      rw [if_pos rfl, if_pos hk, if_pos rfl]
    · rw [if_neg e, if_neg fun h => e h.symm]
  · rw [if_neg (by omega), Array.getElem?_eq_none_iff.2 (by rw [arC_size]; omega), Array.getElem?_eq_none_iff.2 (by rw [arC_size]; omega)]
theorem parts_under : Tryz.prog.underlying 135 = some (.array 32 22) := by kernel_rfl
theorem parts_info : (Tryz.prog.info? 135).map (·.size) = some 32 := by kernel_rfl
structure PT (w : World) (base B : Nat) (vs : Nat → Value) (L : Nat → List En) : Prop where
  blk : w.heap[B]? = some (.cells (arC vs) 135 (0, 0))
  own : ∀ d, d < 32 → OwnR 60 2 enW base w (vs d) (L d)
  apart : ∀ d e, d < 32 → e < 32 → d ≠ e → Apart (vs d) (vs e)
  lo : B < base
theorem PT.lt {w : World} {base B : Nat} {vs : Nat → Value} {L : Nat → List En} (h : PT w base B vs L) : B < w.heap.size := (Array.getElem?_eq_some_iff.1 h.blk).1
theorem PT.below {w w' : World} {base B : Nat} {vs : Nat → Value} {L : Nat → List En} (h : PT w base B vs L) (hb : Below w.heap.size w w') : PT w' base B vs L :=
  ⟨(hb.block B h.lt).trans h.blk, fun d hd => (h.own d hd).below hb, h.apart, h.lo⟩
theorem PT.cell {w : World} {base B : Nat} {vs : Nat → Value} {L : Nat → List En} (h : PT w base B vs L) {d : Nat} (hd : d < 32) : w.cell? ⟨B, d, none⟩ = some (vs d) := by
  rw [Lib.cell_of_heap h.blk d]; exact arC_at vs hd
theorem PT.frozen {w : World} {base B : Nat} {vs : Nat → Value} {L : Nat → List En} (h : PT w base B vs L) (d : Nat) : w.frozen? ⟨B, d, none⟩ = false := by
  unfold World.frozen?; rw [h.blk]; simp
theorem ent_set {E : TypeId} {base B d : Nat} {w : World} {v u : Value} {L : List En} (h : OwnR E 2 enW base w v L) (hB : B < base) : OwnR E 2 enW base (w.setCell ⟨B, d, none⟩ u) v L := by
  have hb := (Below.refl 0 w).setCell (p := (⟨B, d, none⟩ : Addr)) (Nat.zero_le _) u
  refine World.ownsRow.kept h (row := some B) ⟨hb.os, hb.tape, hb.output, hb.size, fun k _ hk => Below.heap_setCell w _ u k fun e => hk (by rw [e])⟩ (.inr fun e => ?_)
  have := World.ownsRow.lt h B (by first | exact e | exact e.symm)
  omega
theorem PT.app {w w' : World} {base B d : Nat} {vs : Nat → Value} {L : Nat → List En} {v' : Value} {x : En} (h : PT w base B vs L) (hd : d < 32) (hg : w.grownBy w' (vs d).ownBlock) (ho : OwnR 60 2 enW base w' v' (L d ++ [x])) (ha : v'.ownBlock = (vs d).ownBlock ∨ ∃ k, v'.ownBlock = some k ∧ w.heap.size ≤ k) :
    PT (w'.setCell ⟨B, d, none⟩ v') base B (fun e => if e = d then v' else vs e) (fun e => if e = d then L d ++ [x] else L e) where
  blk := by
    have hb : w'.heap[B]? = w.heap[B]? := hg.block B h.lt fun e => by
      have := World.ownsRow.lt (h.own d hd) B (by first | exact e | exact e.symm)
      have := h.lo; omega
    rw [row_set (hb.trans h.blk), arC_set vs d hd]
  own := fun e he => by
    by_cases hed : e = d
    · subst hed
      rw [if_pos rfl, if_pos rfl]
      exact ent_set ho h.lo
    · rw [if_neg hed, if_neg hed]
      exact ent_set ((h.own e he).beside hg (h.apart d e hd he fun q => hed q.symm)) h.lo
  apart := fun e f he hf hef => by
    have key : ∀ k, k < 32 → k ≠ d → Apart v' (vs k) := fun k hk hkd q h1 h2 => by
      rcases ha with e | ⟨j, e, hj⟩
      · exact h.apart d k hd hk (fun q => hkd q.symm) q (e ▸ h1) h2
      · have hq : q = j := by rw [e] at h1; exact (Option.some.inj h1).symm
        have := (World.ownsRow.lt (h.own k hk) q h2).2
        omega
    by_cases hed : e = d
    · rw [if_pos hed, if_neg (fun q => hef (hed.trans q.symm))]
      exact key f hf fun q => hef (hed.trans q.symm)
    · rw [if_neg hed]
      by_cases hfd : f = d
      · rw [if_pos hfd]
        exact (key e he hed).symm
      · rw [if_neg hfd]
        exact h.apart e f he hf hef
  lo := h.lo
theorem PT.grown_blk {w w' : World} {base B d : Nat} {vs : Nat → Value} {L : Nat → List En} {vd : Value} (h : PT w base B vs L) (hd : d < 32) (hv : vs d = vd) (hg : w.grownBy w' vd.ownBlock) : w'.heap[B]? = some (.cells (arC vs) 135 (0, 0)) := by
  subst hv
  refine (hg.block B h.lt fun e => ?_).trans h.blk
  have := World.ownsRow.lt (h.own d hd) B (by first | exact e | exact e.symm)
  have := h.lo; omega
theorem PT.grown_old {w w' : World} {base B d g : Nat} {vs : Nat → Value} {L : Nat → List En} {vd : Value} (h : PT w base B vs L) (hd : d < 32) (hv : vs d = vd) (hg : w.grownBy w' vd.ownBlock) (hgb : g < base) (hgl : g < w.heap.size) : w'.heap[g]? = w.heap[g]? := by
  subst hv
  refine hg.block g hgl fun e => ?_
  have := World.ownsRow.lt (h.own d hd) g (by first | exact e | exact e.symm)
  omega
theorem PT.app' {w w' : World} {base B d : Nat} {vs : Nat → Value} {L : Nat → List En} {v' vd : Value} {x : En} (h : PT w base B vs L) (hd : d < 32) (hv : vs d = vd) (hg : w.grownBy w' vd.ownBlock) (ho : OwnR 60 2 enW base w' v' (L d ++ [x])) (ha : v'.ownBlock = vd.ownBlock ∨ ∃ k, v'.ownBlock = some k ∧ w.heap.size ≤ k) :
    PT (w'.setCell ⟨B, d, none⟩ v') base B (fun e => if e = d then v' else vs e) (fun e => if e = d then L d ++ [x] else L e) := by
  subst hv
  exact h.app hd hg ho ha
theorem part_take {l : List En} {lv i : Nat} {x : En} (hx : l[i]? = some x) (d : Nat) : partD (l.take (i + 1)) lv d = partD (l.take i) lv d ++ if digK x.key lv = (d : Int) then [x] else [] := by
  unfold partD
  rw [List.take_add_one, hx, List.filter_append]
  congr 1
  by_cases h : digK x.key lv = (d : Int)
  · rw [if_pos h]; simp [h]
  · rw [if_neg h]; simp [h]
theorem pent_info' : (Tryz.prog.info? 60).map (fun i => (i.zero, i.size, i.bytes)) = some (some (.agg #[.int .i64 0, .string ⟨#[]⟩]), 2, 24) := by kernel_rfl
def PtR (w wr : World) (L : Nat → List En) : Prop := ∃ vs, PT wr (w.heap.size + 2) (w.heap.size + 1) vs L ∧ Below w.heap.size w wr ∧ wr.heap[w.heap.size]? = some (.cells (arC fun _ => .slice none 0 0) 135 (0, 0)) ∧ w.heap.size + 2 ≤ wr.heap.size
def PartQ (w w' : World) (e : Ending) (L : Nat → List En) : Prop := ∃ vs, e = .returned (.agg (arC vs)) ∧ (∀ d, d < 32 → ∃ A ca, vs d = .slice A (L d).length ca ∧ (L d).length ≤ ca ∧ RowE w' (fun g => w.heap.size + 2 ≤ g) A (L d)) ∧ Below w.heap.size w w'
set_option maxHeartbeats 8000000 in
set_option maxRecDepth 10000 in
theorem pparted_any (l : List En) (hk : KeyIn l) (hll : l.length ≤ 1000000) (lv : Nat) (A : Option Addr) (ca : Nat) (w : World) (Q : Nat → Prop) (hl : RowE w Q A l) :
    Calls Tryz.prog 71 #[.slice A l.length ca, .int .i64 (lv : Int)] w fun e w' => PartQ w w' e (partD l lv) := by
  obtain ⟨i0, hi0, hz0, hz1, hz2⟩ := info_parts pent_info'
  have HL := Lib.hid hl
  have HK := Lib.hid hk
  have HD := Lib.hid (fun (k : Int) hk w => pdigit_any k hk lv w)
  clear hl hk
  go_enter Tryz.func71, Tryz.ntmps71
  go_wp2_with fail
  have hP0 : PtR w ((w.alloc (.cells (arC fun _ => .slice none 0 0) 135)).alloc (.cells (arC fun _ => .slice none 0 0) 135)) (fun d => partD (l.take 0) lv d) := by
    refine ⟨fun _ => .slice none 0 0, ⟨heap_alloc2_new w _ _, fun d _ => World.ownsRow_nil _ _ _ _, fun d e _ _ _ k hk _ => (by cases hk), by omega⟩, ((Below.refl _ _).alloc (Nat.le_refl _) _).alloc (by simp) _, heap_alloc2_old w _ _, by simp⟩
  have HP0 := Lib.hid hP0
  clear hP0
  go_loopw [11] (fun vi wr => ∃ i : Nat, i ≤ l.length ∧ vi = .int .i64 (i : Int) ∧ Hid (PtR w wr (fun d => partD (l.take i) lv d))) (fun vi _ => l.length - (RowKit.intOf vi).toNat)
  case atStart => exact ⟨0, Nat.zero_le _, rfl, HP0⟩
  case round =>
    obtain ⟨i, hi, rfl, HP⟩ := hrel
    by_cases hlt : i < l.length
    · obtain ⟨x, hx⟩ : ∃ x, l[i]? = some x := ⟨_, List.getElem?_eq_getElem hlt⟩
      obtain ⟨g, o, rfl, _, hgl, hat⟩ := HL.out.at hlt
      obtain ⟨vs, hPT, hb, hblk, hsz⟩ := HP.out
      obtain ⟨q0, q1⟩ := hat.two hx
      have k0 := keep_cell hb q0
      have k1 := keep_cell hb q1
      have hkx := HK.out x (List.mem_of_getElem? hx)
      obtain ⟨d, hd⟩ : ∃ d : Nat, digK x.key lv = (d : Int) := ⟨(digK x.key lv).toNat, by have := dig_bound hkx lv; omega⟩
      have hd32 : d < 32 := by have := dig_bound hkx lv; omega
      have HX := Lib.hid (HD.out x.key hkx)
      rw [hd] at HX
      have HT : Hid ((fun e => partD (l.take (i + 1)) lv e) = fun e => if e = d then partD (l.take i) lv d ++ [x] else partD (l.take i) lv e) := Lib.hid (by
        funext e
        rw [part_take hx e, hd]
        by_cases h : e = d
        · rw [if_pos h, h, if_pos rfl]
        · rw [if_neg h, if_neg (by omega), List.append_nil])
      have hI : (i : Int) < (l.length : Int) := by omega
      have hdI : (d : Int) < 32 := by omega
      have hpl : (partD (l.take i) lv d).length ≤ 1000000 := by
        have h1 : (partD (l.take i) lv d).length ≤ (l.take i).length := List.length_filter_le _ _
        rw [List.length_take] at h1; omega
      have hba : Below wr.heap.size wr (wr.alloc (.cells #[.int .i64 x.key, .string ⟨x.text.toArray⟩] 60)) := (Below.refl _ _).alloc (Nat.le_refl _) _
      have hP1 := hPT.below hba
      have c5 := hP1.cell hd32
      have f5 := hP1.frozen d
      have zB := hP1.lt
      have HP1 := Lib.hid hP1
      have HBa := Lib.hid hba
      have Hb := Lib.hid hb
      have HBl := Lib.hid hblk
      generalize hvd : vs d = vd at *
      have HV := Lib.hid hvd
      have hO1 := hP1.own d hd32
      rw [hvd] at hO1
      have HO := Lib.hid hO1
      clear hO1
      have hsz1 : w.heap.size + 2 ≤ (wr.alloc (.cells #[.int .i64 x.key, .string ⟨x.text.toArray⟩] 60)).heap.size := by simp; omega
      clear hat q0 q1 hx hPT hb hblk hba hP1 hd HD hkx HP hvd
      go_wp2_with fail
      refine (HX.out _).mono ?_; rintro e w1 ⟨rfl, rfl⟩
      go_wp2_with fail
      have b0 : (wr.alloc (.cells #[.int .i64 x.key, .string ⟨x.text.toArray⟩] 60)).cell? ⟨wr.heap.size, 0, none⟩ = some (.int .i64 x.key) := by rw [Lib.cell_of_heap (heap_alloc_new wr _)]; rfl
      have b1 : (wr.alloc (.cells #[.int .i64 x.key, .string ⟨x.text.toArray⟩] 60)).cell? ⟨wr.heap.size, 1, none⟩ = some (.string ⟨x.text.toArray⟩) := by rw [Lib.cell_of_heap (heap_alloc_new wr _)]; rfl
      have HbW : Hid (∀ w', Below (wr.alloc (.cells #[.int .i64 x.key, .string ⟨x.text.toArray⟩] 60)).heap.size (wr.alloc (.cells #[.int .i64 x.key, .string ⟨x.text.toArray⟩] 60)) w' → Below w.heap.size w w') := Lib.hid fun w' hb' => Hb.out.trans ((HBa.out.trans (hb'.mono HBa.out.size)).mono Hb.out.size)
      have HBlW : Hid (∀ w', Below (wr.alloc (.cells #[.int .i64 x.key, .string ⟨x.text.toArray⟩] 60)).heap.size (wr.alloc (.cells #[.int .i64 x.key, .string ⟨x.text.toArray⟩] 60)) w' → w'.heap[w.heap.size]? = some (.cells (arC fun _ => .slice none 0 0) 135 (0, 0))) := Lib.hid fun w' hb' => ((hb'.block _ (by simp; omega)).trans (Below.heap_alloc wr _ _ (by omega))).trans HBl.out
      have hsw : wr.heap.size < (wr.alloc (.cells #[.int .i64 x.key, .string ⟨x.text.toArray⟩] 60)).heap.size := by simp
      generalize wr.alloc (.cells #[.int .i64 x.key, .string ⟨x.text.toArray⟩] 60) = W1 at *
      go_region_law (first
        | (refine step_append_rows (f := enW) (n := 2) (E := 60) (nb := 24) (X := partD (l.take i) lv d) (base := w.heap.size + 2) (by rfl) _ _ (by rfl) (by rfl) (OwnR.below HO.out (by with_reducible repeat' (first | exact Below.refl _ _ | exact Nat.le_refl _ | refine Below.drew ?_ | refine Below.alloc ?_ ?_ _))) (L2 := [x]) (by rfl) (one_row _ x) (by simp) (N := (partD (l.take i) lv d).length + 1) (by rfl) (Z := partD (l.take i) lv d ++ [x]) rfl Tryz.underlying22 hi0 hz0 hz1 hz2 rfl (by decide) (by decide) (fun _ => rfl) enW_one (by omega) (by first | omega | (simp; omega)) ?_; intro g4 k4 w4 ho4 hg4 hat4 hl4
           have hk4 := PT.grown_blk (PT.below HP1.out (by with_reducible repeat' (first | exact Below.refl _ _ | exact Nat.le_refl _ | refine Below.drew ?_ | refine Below.alloc ?_ ?_ _))) hd32 HV.out hg4
           have f4 : w4.frozen? ⟨w.heap.size + 1, d, none⟩ = false := by unfold World.frozen?; rw [hk4]; simp
           have c4 : w4.cell? ⟨w.heap.size + 1, d, none⟩ = some vd := by rw [Lib.cell_of_heap hk4, arC_at vs hd32, HV.out]
           have HA4 := Lib.hid (PT.app' (d := d) (PT.below HP1.out (by with_reducible repeat' (first | exact Below.refl _ _ | exact Nat.le_refl _ | refine Below.drew ?_ | refine Below.alloc ?_ ?_ _))) hd32 HV.out hg4 ho4 (hat4.elim (fun e => .inl e.symm) (fun e => .inr ⟨g4, rfl, Nat.le_of_eq e.symm⟩)))
           have hlo4 := (PT.grown_old (g := w.heap.size) (PT.below HP1.out (by with_reducible repeat' (first | exact Below.refl _ _ | exact Nat.le_refl _ | refine Below.drew ?_ | refine Below.alloc ?_ ?_ _))) hd32 HV.out hg4 (by omega) (by first | omega | (simp; omega))).trans (HBlW.out _ (by with_reducible repeat' (first | exact Below.refl _ _ | exact Nat.le_refl _ | refine Below.drew ?_ | refine Below.alloc ?_ ?_ _)))
           have hbl4 := Below.grown (HbW.out _ (by with_reducible repeat' (first | exact Below.refl _ _ | exact Nat.le_refl _ | refine Below.drew ?_ | refine Below.alloc ?_ ?_ _))) hg4 (by first | omega | (simp; omega)) (fun k hk => by have := (World.ownsRow.lt HO.out k hk).1; omega)
           have hsz4 : W1.heap.size ≤ w4.heap.size := Nat.le_trans (by first | exact Nat.le_refl _ | (simp; done) | (simp; omega)) hg4.size
           have HX4 := Lib.hid (And.intro hlo4 (And.intro hbl4 hsz4))
           clear hlo4 hbl4 hsz4
           clear ho4 hg4 hat4 hk4)
        | fail)
      all_goals
        obtain ⟨hlo4, hbl4, hsz4⟩ := HX4.out
        have hP4 := HA4.out
        rw [← HT.out] at hP4
        have hR4 : PtR w (w4.setCell ⟨w.heap.size + 1, d, none⟩ (.slice (some ⟨g4, 0, none⟩) ((partD (l.take i) lv d).length + 1) k4)) (fun d => partD (l.take (i + 1)) lv d) :=
          ⟨_, hP4, hbl4.setCell (by simp) _, (Below.heap_setCell _ _ _ _ (by simp)).trans hlo4, by simp; omega⟩
        have HR4 := Lib.hid hR4
        clear hP4 hR4 hlo4 hbl4 HX4 HA4 HT
        go_wp2_with fail
        go_roundw
        case rel => exact ⟨i + 1, by omega, by go_num, HR4⟩
        case measure => simp [RowKit.intOf]; omega
    · have hii : i = l.length := by omega
      subst hii
      obtain ⟨vs, hPT, hb, hblk, hsz⟩ := HP.out
      rw [List.take_length] at hPT
      have HP9 := Lib.hid hPT
      have Hb9 := Lib.hid hb
      have Hk9 := Lib.hid hblk
      have hs5 : w.heap.size + 1 < wr.heap.size := by omega
      have hHS : (arC vs).size = 32 := arC_size vs
      have h1c : (arC vs).all (·.oneCell') = true := by
        unfold arC
        rw [Array.all_eq_true]
        intro j hj
        have hj32 : j < 32 := by rw [List.size_toArray, List.length_map, List.length_range] at hj; exact hj
        obtain ⟨A', c', hv, _⟩ := own_rowE (HP9.out.own j hj32)
        simp only [List.getElem_toArray, List.getElem_map, List.getElem_range, hv]
        rfl
      have HC := Lib.hid h1c
      have hrows : ∀ d, d < 32 → ∃ A ca, vs d = .slice A (partD l lv d).length ca ∧ (partD l lv d).length ≤ ca ∧ RowE (wr.setRow w.heap.size (arC vs)) (fun g => w.heap.size + 2 ≤ g) A (partD l lv d) := fun d hd => by
        obtain ⟨A', c', hv, hcc, hr⟩ := own_rowE (HP9.out.own d hd)
        exact ⟨A', c', hv, hcc, hr.kept ⟨Nat.le_of_eq (by simp), fun g hg _ => heap_setRow_other wr _ (by have h : w.heap.size + 2 ≤ g := hg; omega)⟩⟩
      have HRw := Lib.hid hrows
      have Hbl9 : Hid (Below w.heap.size w (wr.setRow w.heap.size (arC vs))) := Lib.hid (below_setRow' Hb9.out (Nat.le_refl _) _)
      have Hnew : Hid ((wr.setRow w.heap.size (arC vs)).heap[w.heap.size]? = some (.cells (arC vs) 135 (0, 0))) := Lib.hid (heap_setRow_self Hk9.out _)
      clear hPT hb hblk h1c hrows
      go_wp2_with (first
        | (refine wpList_load_row rfl 135 _ rfl (w.heap.size + 1) rfl 135 (arC vs) (0, 0) _ HP9.out.blk parts_under rfl (by rw [hHS]; exact parts_info) ?_)
        | (refine wpList_store_row rfl 135 _ _ rfl w.heap.size (arC vs) rfl rfl 135 (arC fun _ => .slice none 0 0) Hk9.out (by rw [hHS]; exact parts_info) (by rw [hHS, arC_size]) HC.out ?_))
      exact bodyPost_ret (v := .agg (arC vs)) (results_cell_row (p := 4) (ty := 135) (by kernel_rfl) _ _ w.heap.size 135 (arC vs) (0, 0) _ rfl Hnew.out parts_under rfl (by rw [hHS]; exact parts_info)) rfl ⟨vs, rfl, HRw.out, Hbl9.out⟩
end Go.Proofs.YtjgjacihdggimaaGreatDoor
