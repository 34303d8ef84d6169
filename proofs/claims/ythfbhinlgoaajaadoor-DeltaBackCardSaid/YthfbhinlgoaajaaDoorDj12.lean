/- Texts joined: TqD, TqE, NdKk, NdOb, NdJm, NdIm, NdYk, TqFa. -/
import Derived.Test.YthfbhinlgoaajaaDoorDj11
import Derived.Shelf.Abstract
import Derived.Deep.WholeRow
import Derived.Test.YthfbhinlgoaajaaDoorDj03
import Derived.Test.YthfbhinlgoaajaaDoorDj02
import Derived.Test.YthfbhinlgoaajaaDoorDj04
import Derived.Test.YthfbhinlgoaajaaDoorDj05
import Derived.Test.YthfbhinlgoaajaaDoorDj01
set_option linter.all false
namespace Go.Proofs.YthfbhinlgoaajaaDoor
open Go.RowKit Go.Shelf
theorem oneH_any {y : En} {r : List En} : oneH (y :: r) = !((y :: r).any fun x => hashK x.key != hashK y.key) := by
  show (r.all fun z => decide (hashK z.key = hashK y.key)) = _
  rw [List.any_cons, show (hashK y.key != hashK y.key) = false by simp, Bool.false_or, List.all_eq_not_any_not]
  rfl
set_option maxHeartbeats 4000000 in
set_option maxRecDepth 10000 in
theorem palike1_any {x y : En} {l : List En} {A : Option Addr} {ca B : Nat} {w : World} {Q : Nat → Prop} (hl : RowE w Q A l) (h0 : l[0]? = some y) (hc : w.cell? ⟨B, 0, none⟩ = some (.slice A l.length ca)) :
    Calls Tryd.prog 54 #[enV x, .pointer (some ⟨B, 0, none⟩)] w fun e w' => e = .returned (.bool (hashK x.key != hashK y.key)) ∧ Below w.heap.size w w' := by
  have hlt : 0 < l.length := (List.getElem?_eq_some_iff.1 h0).1
  obtain ⟨g, o, rfl, _, hgl, hat⟩ := hl.at hlt
  obtain ⟨q0, q1⟩ := hat.two h0
  rw [Nat.zero_mul, Nat.add_zero] at q0
  have HH := Lib.hid (fun k w => phash_any k w)
  have hba : Below w.heap.size w (w.alloc (.cells #[.int .i64 x.key, .string ⟨x.text.toArray⟩] 42)) := (Below.refl _ _).alloc (Nat.le_refl _) _
  have k0 := keep_cell hba q0
  have k1 := keep_cell hba hc
  have HBa := Lib.hid hba
  clear hat q1 hba q0 hc hl h0
  unfold enV
  go_enter Tryd.func54, Tryd.ntmps54
  go_wp2_with fail
  go_region_law (first
    | (go_simp; go_at_call 22
       refine (HH.out _ _).mono ?_; rintro e w1 ⟨rfl, rfl⟩))
  all_goals
    go_wp2_with fail
    go_ret
    exact ⟨rfl, by first | exact HBa.out | exact HBa.out.drew⟩
set_option maxHeartbeats 4000000 in
set_option maxRecDepth 10000 in
theorem palike_any (l : List En) (hne : l ≠ []) (hll : l.length ≤ 1000000) (A : Option Addr) (ca : Nat) (w : World) (Q : Nat → Prop) (hl : RowE w Q A l) :
    Calls Tryd.prog 41 #[.slice A l.length ca] w fun e w' => e = .returned (.bool (oneH l)) ∧ Below w.heap.size w w' := by
  obtain ⟨y, r, rfl⟩ : ∃ y r, l = y :: r := by cases l with | nil => exact absurd rfl hne | cons y r => exact ⟨y, r, rfl⟩
  have HO := Lib.hid (oneH_any (y := y) (r := r))
  have hba : Below w.heap.size w (w.alloc (.cells #[.slice A (y :: r).length ca] 22)) := (Below.refl _ _).alloc (Nat.le_refl _) _
  have hblk := (heap_alloc_new w (.cells #[.slice A (y :: r).length ca] 22))
  have hz : w.heap.size < (w.alloc (.cells #[.slice A (y :: r).length ca] 22)).heap.size := by simp
  have HC := Lib.hid (pcontains1_any (F := 54) (C := .pointer (some ⟨w.heap.size, 0, none⟩)) (p := fun x => hashK x.key != hashK y.key) (ca := ca) (enters_of Tryd.func54 (by kernel_rfl) rfl) (hl.below hba) hll
    (fun x _ w' hb => palike1_any ((hl.below hba).below hb) rfl (by rw [hb.cell hz, Lib.cell_of_heap hblk]; rfl)))
  have HBa := Lib.hid hba
  clear hba hblk hz hl
  generalize ((y :: r).any fun x => hashK x.key != hashK y.key) = V at HO HC
  generalize hN : (y :: r).length = N at *
  clear hN
  go_enter Tryd.func41, Tryd.ntmps41
  go_wp2_with fail
  refine HC.out.mono ?_; rintro e w1 ⟨rfl, hb1⟩
  have hb2 := HBa.out.trans (hb1.mono HBa.out.size)
  go_wp2_with fail
  go_ret
  exact ⟨by rw [HO.out]; rfl, hb2⟩
end Go.Proofs.YthfbhinlgoaajaaDoor
namespace Go.Proofs.YthfbhinlgoaajaaDoor
open Go.RowKit Go.Shelf
def arC (vs : Nat → Value) : Array Value := ((List.range 32).map vs).toArray
theorem arC_size (vs : Nat → Value) : (arC vs).size = 32 := by
  unfold arC
  rw [List.size_toArray, List.length_map, List.length_range]
theorem arC_at (vs : Nat → Value) {j : Nat} (h : j < 32) : (arC vs)[j]? = some (vs j) := by
  unfold arC
  rw [List.getElem?_toArray, List.getElem?_map, List.getElem?_range h]; rfl
theorem arC_set (vs : Nat → Value) (k : Nat) (hk : k < 32) (v : Value) : (arC vs).setIfInBounds k v = arC fun d => if d = k then v else vs d := by
  apply Array.ext_getElem?
  intro i
  rw [Array.getElem?_setIfInBounds, arC_size]
  by_cases hi : i < 32
  · rw [arC_at _ hi, arC_at _ hi]
    by_cases e : k = i
    · subst e
      rw [if_pos rfl, if_pos hk, if_pos rfl]
    · rw [if_neg e, if_neg fun h => e h.symm]
  · rw [if_neg (by omega), Array.getElem?_eq_none_iff.2 (by rw [arC_size]; omega), Array.getElem?_eq_none_iff.2 (by rw [arC_size]; omega)]
theorem parts_under : Tryd.prog.underlying 93 = some (.array 32 22) := by kernel_rfl
theorem parts_info : (Tryd.prog.info? 93).map (·.size) = some 32 := by kernel_rfl
structure PT (w : World) (base B : Nat) (vs : Nat → Value) (L : Nat → List En) : Prop where
  blk : w.heap[B]? = some (.cells (arC vs) 93 (0, 0))
  own : ∀ d, d < 32 → OwnR 42 2 enW base w (vs d) (L d)
  apart : ∀ d e, d < 32 → e < 32 → d ≠ e → Apart (vs d) (vs e)
  lo : B < base
theorem PT.lt {w : World} {base B : Nat} {vs : Nat → Value} {L : Nat → List En} (h : PT w base B vs L) : B < w.heap.size := (Array.getElem?_eq_some_iff.1 h.blk).1
theorem PT.below {w w' : World} {base B : Nat} {vs : Nat → Value} {L : Nat → List En} (h : PT w base B vs L) (hb : Below w.heap.size w w') : PT w' base B vs L :=
  ⟨(hb.block B h.lt).trans h.blk, fun d hd => (h.own d hd).below hb, h.apart, h.lo⟩
theorem PT.cell {w : World} {base B : Nat} {vs : Nat → Value} {L : Nat → List En} (h : PT w base B vs L) {d : Nat} (hd : d < 32) : w.cell? ⟨B, d, none⟩ = some (vs d) := by
  rw [Lib.cell_of_heap h.blk d]; exact arC_at vs hd
theorem PT.frozen {w : World} {base B : Nat} {vs : Nat → Value} {L : Nat → List En} (h : PT w base B vs L) (d : Nat) : w.frozen? ⟨B, d, none⟩ = false := by
  unfold World.frozen?; rw [h.blk]; simp
theorem ent_set {E : TypeId} {base B d : Nat} {w : World} {v u : Value} {L : List En} (h : OwnR E 2 enW base w v L) (hB : B < base) : OwnR E 2 enW base (w.setCell ⟨B, d, none⟩ u) v L := by
  have hb := (Below.refl 0 w).setCell (p := (⟨B, d, none⟩ : Addr)) (Nat.zero_le _) u
  refine World.ownsRow.kept h (row := some B) ⟨hb.os, hb.tape, hb.output, hb.size, fun k _ hk => Below.heap_setCell w _ u k fun e => hk (by rw [e])⟩ (.inr fun e => ?_)
  have := World.ownsRow.lt h B (by first | exact e | exact e.symm)
  omega
theorem PT.app {w w' : World} {base B d : Nat} {vs : Nat → Value} {L : Nat → List En} {v' : Value} {x : En} (h : PT w base B vs L) (hd : d < 32) (hg : w.grownBy w' (vs d).ownBlock) (ho : OwnR 42 2 enW base w' v' (L d ++ [x])) (ha : v'.ownBlock = (vs d).ownBlock ∨ ∃ k, v'.ownBlock = some k ∧ w.heap.size ≤ k) :
    PT (w'.setCell ⟨B, d, none⟩ v') base B (fun e => if e = d then v' else vs e) (fun e => if e = d then L d ++ [x] else L e) where
  blk := by
    have hb : w'.heap[B]? = w.heap[B]? := hg.block B h.lt fun e => by
      have := World.ownsRow.lt (h.own d hd) B (by first | exact e | exact e.symm)
      have := h.lo; omega
    rw [row_set (hb.trans h.blk), arC_set vs d hd]
  own := fun e he => by
    by_cases hed : e = d
    · subst hed
      rw [if_pos rfl, if_pos rfl]
      exact ent_set ho h.lo
    · rw [if_neg hed, if_neg hed]
      exact ent_set ((h.own e he).beside hg (h.apart d e hd he fun q => hed q.symm)) h.lo
  apart := fun e f he hf hef => by
    have key : ∀ k, k < 32 → k ≠ d → Apart v' (vs k) := fun k hk hkd q h1 h2 => by
      rcases ha with e | ⟨j, e, hj⟩
      · exact h.apart d k hd hk (fun q => hkd q.symm) q (e ▸ h1) h2
      · have hq : q = j := by rw [e] at h1; exact (Option.some.inj h1).symm
        have := (World.ownsRow.lt (h.own k hk) q h2).2
        omega
    by_cases hed : e = d
    · rw [if_pos hed, if_neg (fun q => hef (hed.trans q.symm))]
      exact key f hf fun q => hef (hed.trans q.symm)
    · rw [if_neg hed]
      by_cases hfd : f = d
      · rw [if_pos hfd]
        exact (key e he hed).symm
      · rw [if_neg hfd]
        exact h.apart e f he hf hef
  lo := h.lo
theorem PT.grown_blk {w w' : World} {base B d : Nat} {vs : Nat → Value} {L : Nat → List En} {vd : Value} (h : PT w base B vs L) (hd : d < 32) (hv : vs d = vd) (hg : w.grownBy w' vd.ownBlock) : w'.heap[B]? = some (.cells (arC vs) 93 (0, 0)) := by
  subst hv
  refine (hg.block B h.lt fun e => ?_).trans h.blk
  have := World.ownsRow.lt (h.own d hd) B (by first | exact e | exact e.symm)
  have := h.lo; omega
theorem PT.grown_old {w w' : World} {base B d g : Nat} {vs : Nat → Value} {L : Nat → List En} {vd : Value} (h : PT w base B vs L) (hd : d < 32) (hv : vs d = vd) (hg : w.grownBy w' vd.ownBlock) (hgb : g < base) (hgl : g < w.heap.size) : w'.heap[g]? = w.heap[g]? := by
  subst hv
  refine hg.block g hgl fun e => ?_
  have := World.ownsRow.lt (h.own d hd) g (by first | exact e | exact e.symm)
  omega
theorem PT.app' {w w' : World} {base B d : Nat} {vs : Nat → Value} {L : Nat → List En} {v' vd : Value} {x : En} (h : PT w base B vs L) (hd : d < 32) (hv : vs d = vd) (hg : w.grownBy w' vd.ownBlock) (ho : OwnR 42 2 enW base w' v' (L d ++ [x])) (ha : v'.ownBlock = vd.ownBlock ∨ ∃ k, v'.ownBlock = some k ∧ w.heap.size ≤ k) :
    PT (w'.setCell ⟨B, d, none⟩ v') base B (fun e => if e = d then v' else vs e) (fun e => if e = d then L d ++ [x] else L e) := by
  subst hv
  exact h.app hd hg ho ha
theorem part_take {l : List En} {lv i : Nat} {x : En} (hx : l[i]? = some x) (d : Nat) : partD (l.take (i + 1)) lv d = partD (l.take i) lv d ++ if digK x.key lv = (d : Int) then [x] else [] := by
  unfold partD
  rw [List.take_add_one, hx, List.filter_append]
  congr 1
  by_cases h : digK x.key lv = (d : Int)
  · rw [if_pos h]; simp [h]
  · rw [if_neg h]; simp [h]
theorem pent_info' : (Tryd.prog.info? 42).map (fun i => (i.zero, i.size, i.bytes)) = some (some (.agg #[.int .i64 0, .string ⟨#[]⟩]), 2, 24) := by kernel_rfl
def PtR (w wr : World) (L : Nat → List En) : Prop := ∃ vs, PT wr (w.heap.size + 2) (w.heap.size + 1) vs L ∧ Below w.heap.size w wr ∧ wr.heap[w.heap.size]? = some (.cells (arC fun _ => .slice none 0 0) 93 (0, 0)) ∧ w.heap.size + 2 ≤ wr.heap.size
def PartQ (w w' : World) (e : Ending) (L : Nat → List En) : Prop := ∃ vs, e = .returned (.agg (arC vs)) ∧ (∀ d, d < 32 → ∃ A ca, vs d = .slice A (L d).length ca ∧ (L d).length ≤ ca ∧ RowE w' (fun g => w.heap.size + 2 ≤ g) A (L d)) ∧ Below w.heap.size w w'
set_option maxHeartbeats 8000000 in
set_option maxRecDepth 10000 in
theorem pparted_any (l : List En) (hk : KeyIn l) (hll : l.length ≤ 1000000) (lv : Nat) (A : Option Addr) (ca : Nat) (w : World) (Q : Nat → Prop) (hl : RowE w Q A l) :
    Calls Tryd.prog 42 #[.slice A l.length ca, .int .i64 (lv : Int)] w fun e w' => PartQ w w' e (partD l lv) := by
  obtain ⟨i0, hi0, hz0, hz1, hz2⟩ := info_parts pent_info'
  have HL := Lib.hid hl
  have HK := Lib.hid hk
  have HD := Lib.hid (fun (k : Int) hk w => pdigit_any k hk lv w)
  clear hl hk
  go_enter Tryd.func42, Tryd.ntmps42
  go_wp2_with fail
  have hP0 : PtR w ((w.alloc (.cells (arC fun _ => .slice none 0 0) 93)).alloc (.cells (arC fun _ => .slice none 0 0) 93)) (fun d => partD (l.take 0) lv d) := by
    refine ⟨fun _ => .slice none 0 0, ⟨heap_alloc2_new w _ _, fun d _ => World.ownsRow_nil _ _ _ _, fun d e _ _ _ k hk _ => (by cases hk), by omega⟩, ((Below.refl _ _).alloc (Nat.le_refl _) _).alloc (by simp) _, heap_alloc2_old w _ _, by simp⟩
  have HP0 := Lib.hid hP0
  clear hP0
  go_loopw [11] (fun vi wr => ∃ i : Nat, i ≤ l.length ∧ vi = .int .i64 (i : Int) ∧ Hid (PtR w wr (fun d => partD (l.take i) lv d))) (fun vi _ => l.length - (RowKit.intOf vi).toNat)
  case atStart => exact ⟨0, Nat.zero_le _, rfl, HP0⟩
  case round =>
    obtain ⟨i, hi, rfl, HP⟩ := hrel
    by_cases hlt : i < l.length
    · obtain ⟨x, hx⟩ : ∃ x, l[i]? = some x := ⟨_, List.getElem?_eq_getElem hlt⟩
      obtain ⟨g, o, rfl, _, hgl, hat⟩ := HL.out.at hlt
      obtain ⟨vs, hPT, hb, hblk, hsz⟩ := HP.out
      obtain ⟨q0, q1⟩ := hat.two hx
      have k0 := keep_cell hb q0
      have k1 := keep_cell hb q1
      have hkx := HK.out x (List.mem_of_getElem? hx)
      obtain ⟨d, hd⟩ : ∃ d : Nat, digK x.key lv = (d : Int) := ⟨(digK x.key lv).toNat, by have := dig_bound hkx lv; omega⟩
      have hd32 : d < 32 := by have := dig_bound hkx lv; omega
      have HX := Lib.hid (HD.out x.key hkx)
      rw [hd] at HX
      have HT : Hid ((fun e => partD (l.take (i + 1)) lv e) = fun e => if e = d then partD (l.take i) lv d ++ [x] else partD (l.take i) lv e) := Lib.hid (by
        funext e
        rw [part_take hx e, hd]
        by_cases h : e = d
        · rw [if_pos h, h, if_pos rfl]
        · rw [if_neg h, if_neg (by omega), List.append_nil])
      have hI : (i : Int) < (l.length : Int) := by omega
      have hdI : (d : Int) < 32 := by omega
      have hpl : (partD (l.take i) lv d).length ≤ 1000000 := by
        have h1 : (partD (l.take i) lv d).length ≤ (l.take i).length := List.length_filter_le _ _
        rw [List.length_take] at h1; omega
      have hba : Below wr.heap.size wr (wr.alloc (.cells #[.int .i64 x.key, .string ⟨x.text.toArray⟩] 42)) := (Below.refl _ _).alloc (Nat.le_refl _) _
      have hP1 := hPT.below hba
      have c5 := hP1.cell hd32
      have f5 := hP1.frozen d
      have zB := hP1.lt
      have HP1 := Lib.hid hP1
      have HBa := Lib.hid hba
      have Hb := Lib.hid hb
      have HBl := Lib.hid hblk
      generalize hvd : vs d = vd at *
      have HV := Lib.hid hvd
      have hO1 := hP1.own d hd32
      rw [hvd] at hO1
      have HO := Lib.hid hO1
      clear hO1
      have hsz1 : w.heap.size + 2 ≤ (wr.alloc (.cells #[.int .i64 x.key, .string ⟨x.text.toArray⟩] 42)).heap.size := by simp; omega
      clear hat q0 q1 hx hPT hb hblk hba hP1 hd HD hkx HP hvd
      go_wp2_with fail
      refine (HX.out _).mono ?_; rintro e w1 ⟨rfl, rfl⟩
      go_wp2_with fail
      have b0 : (wr.alloc (.cells #[.int .i64 x.key, .string ⟨x.text.toArray⟩] 42)).cell? ⟨wr.heap.size, 0, none⟩ = some (.int .i64 x.key) := by rw [Lib.cell_of_heap (heap_alloc_new wr _)]; rfl
      have b1 : (wr.alloc (.cells #[.int .i64 x.key, .string ⟨x.text.toArray⟩] 42)).cell? ⟨wr.heap.size, 1, none⟩ = some (.string ⟨x.text.toArray⟩) := by rw [Lib.cell_of_heap (heap_alloc_new wr _)]; rfl
      have HbW : Hid (∀ w', Below (wr.alloc (.cells #[.int .i64 x.key, .string ⟨x.text.toArray⟩] 42)).heap.size (wr.alloc (.cells #[.int .i64 x.key, .string ⟨x.text.toArray⟩] 42)) w' → Below w.heap.size w w') := Lib.hid fun w' hb' => Hb.out.trans ((HBa.out.trans (hb'.mono HBa.out.size)).mono Hb.out.size)
      have HBlW : Hid (∀ w', Below (wr.alloc (.cells #[.int .i64 x.key, .string ⟨x.text.toArray⟩] 42)).heap.size (wr.alloc (.cells #[.int .i64 x.key, .string ⟨x.text.toArray⟩] 42)) w' → w'.heap[w.heap.size]? = some (.cells (arC fun _ => .slice none 0 0) 93 (0, 0))) := Lib.hid fun w' hb' => ((hb'.block _ (by simp; omega)).trans (Below.heap_alloc wr _ _ (by omega))).trans HBl.out
      have hsw : wr.heap.size < (wr.alloc (.cells #[.int .i64 x.key, .string ⟨x.text.toArray⟩] 42)).heap.size := by simp
      generalize wr.alloc (.cells #[.int .i64 x.key, .string ⟨x.text.toArray⟩] 42) = W1 at *
      go_region_law (first
        | (refine step_append_rows (f := enW) (n := 2) (E := 42) (nb := 24) (X := partD (l.take i) lv d) (base := w.heap.size + 2) (by rfl) _ _ (by rfl) (by rfl) (OwnR.below HO.out (by with_reducible repeat' (first | exact Below.refl _ _ | exact Nat.le_refl _ | refine Below.drew ?_ | refine Below.alloc ?_ ?_ _))) (L2 := [x]) (by rfl) (one_row _ x) (by simp) (N := (partD (l.take i) lv d).length + 1) (by rfl) (Z := partD (l.take i) lv d ++ [x]) rfl Tryd.underlying22 hi0 hz0 hz1 hz2 rfl (by decide) (by decide) (fun _ => rfl) enW_one (by omega) (by first | omega | (simp; omega)) ?_; intro g4 k4 w4 ho4 hg4 hat4 hl4
           have hk4 := PT.grown_blk (PT.below HP1.out (by with_reducible repeat' (first | exact Below.refl _ _ | exact Nat.le_refl _ | refine Below.drew ?_ | refine Below.alloc ?_ ?_ _))) hd32 HV.out hg4
           have f4 : w4.frozen? ⟨w.heap.size + 1, d, none⟩ = false := by unfold World.frozen?; rw [hk4]; simp
           have c4 : w4.cell? ⟨w.heap.size + 1, d, none⟩ = some vd := by rw [Lib.cell_of_heap hk4, arC_at vs hd32, HV.out]
           have HA4 := Lib.hid (PT.app' (d := d) (PT.below HP1.out (by with_reducible repeat' (first | exact Below.refl _ _ | exact Nat.le_refl _ | refine Below.drew ?_ | refine Below.alloc ?_ ?_ _))) hd32 HV.out hg4 ho4 (hat4.elim (fun e => .inl e.symm) (fun e => .inr ⟨g4, rfl, Nat.le_of_eq e.symm⟩)))
           have hlo4 := (PT.grown_old (g := w.heap.size) (PT.below HP1.out (by with_reducible repeat' (first | exact Below.refl _ _ | exact Nat.le_refl _ | refine Below.drew ?_ | refine Below.alloc ?_ ?_ _))) hd32 HV.out hg4 (by omega) (by first | omega | (simp; omega))).trans (HBlW.out _ (by with_reducible repeat' (first | exact Below.refl _ _ | exact Nat.le_refl _ | refine Below.drew ?_ | refine Below.alloc ?_ ?_ _)))
           have hbl4 := Below.grown (HbW.out _ (by with_reducible repeat' (first | exact Below.refl _ _ | exact Nat.le_refl _ | refine Below.drew ?_ | refine Below.alloc ?_ ?_ _))) hg4 (by first | omega | (simp; omega)) (fun k hk => by have := (World.ownsRow.lt HO.out k hk).1; omega)
           have hsz4 : W1.heap.size ≤ w4.heap.size := Nat.le_trans (by first | exact Nat.le_refl _ | (simp; done) | (simp; omega)) hg4.size
           have HX4 := Lib.hid (And.intro hlo4 (And.intro hbl4 hsz4))
           clear hlo4 hbl4 hsz4
           clear ho4 hg4 hat4 hk4)
        | fail)
      all_goals
        obtain ⟨hlo4, hbl4, hsz4⟩ := HX4.out
        have hP4 := HA4.out
        rw [← HT.out] at hP4
        have hR4 : PtR w (w4.setCell ⟨w.heap.size + 1, d, none⟩ (.slice (some ⟨g4, 0, none⟩) ((partD (l.take i) lv d).length + 1) k4)) (fun d => partD (l.take (i + 1)) lv d) :=
          ⟨_, hP4, hbl4.setCell (by simp) _, (Below.heap_setCell _ _ _ _ (by simp)).trans hlo4, by simp; omega⟩
        have HR4 := Lib.hid hR4
        clear hP4 hR4 hlo4 hbl4 HX4 HA4 HT
        go_wp2_with fail
        go_roundw
        case rel => exact ⟨i + 1, by omega, by go_num, HR4⟩
        case measure => simp [RowKit.intOf]; omega
    · have hii : i = l.length := by omega
      subst hii
      obtain ⟨vs, hPT, hb, hblk, hsz⟩ := HP.out
      rw [List.take_length] at hPT
      have HP9 := Lib.hid hPT
      have Hb9 := Lib.hid hb
      have Hk9 := Lib.hid hblk
      have hs5 : w.heap.size + 1 < wr.heap.size := by omega
      have hHS : (arC vs).size = 32 := arC_size vs
      have h1c : (arC vs).all (·.oneCell') = true := by
        unfold arC
        rw [Array.all_eq_true]
        intro j hj
        have hj32 : j < 32 := by rw [List.size_toArray, List.length_map, List.length_range] at hj; exact hj
        obtain ⟨A', c', hv, _⟩ := own_rowE (HP9.out.own j hj32)
        simp only [List.getElem_toArray, List.getElem_map, List.getElem_range, hv]
        rfl
      have HC := Lib.hid h1c
      have hrows : ∀ d, d < 32 → ∃ A ca, vs d = .slice A (partD l lv d).length ca ∧ (partD l lv d).length ≤ ca ∧ RowE (wr.setRow w.heap.size (arC vs)) (fun g => w.heap.size + 2 ≤ g) A (partD l lv d) := fun d hd => by
        obtain ⟨A', c', hv, hcc, hr⟩ := own_rowE (HP9.out.own d hd)
        exact ⟨A', c', hv, hcc, hr.kept ⟨Nat.le_of_eq (by simp), fun g hg _ => heap_setRow_other wr _ (by have h : w.heap.size + 2 ≤ g := hg; omega)⟩⟩
      have HRw := Lib.hid hrows
      have Hbl9 : Hid (Below w.heap.size w (wr.setRow w.heap.size (arC vs))) := Lib.hid (below_setRow' Hb9.out (Nat.le_refl _) _)
      have Hnew : Hid ((wr.setRow w.heap.size (arC vs)).heap[w.heap.size]? = some (.cells (arC vs) 93 (0, 0))) := Lib.hid (heap_setRow_self Hk9.out _)
      clear hPT hb hblk h1c hrows
      go_wp2_with (first
        | (refine wpList_load_row rfl 93 _ rfl (w.heap.size + 1) rfl 93 (arC vs) (0, 0) _ HP9.out.blk parts_under rfl (by rw [hHS]; exact parts_info) ?_)
        | (refine wpList_store_row rfl 93 _ _ rfl w.heap.size (arC vs) rfl rfl 93 (arC fun _ => .slice none 0 0) Hk9.out (by rw [hHS]; exact parts_info) (by rw [hHS, arC_size]) HC.out ?_))
      exact bodyPost_ret (v := .agg (arC vs)) (results_cell_row (p := 4) (ty := 93) (by kernel_rfl) _ _ w.heap.size 93 (arC vs) (0, 0) _ rfl Hnew.out parts_under rfl (by rw [hHS]; exact parts_info)) rfl ⟨vs, rfl, HRw.out, Hbl9.out⟩
end Go.Proofs.YthfbhinlgoaajaaDoor
namespace Go.Proofs.YthfbhinlgoaajaaDoor
open Go.RowKit
def set4 (w : World) (g o : Nat) (a b c d : Value) : World := (((w.setCell ⟨g, o, none⟩ a).setCell ⟨g, o + 1, none⟩ b).setCell ⟨g, o + 2, none⟩ c).setCell ⟨g, o + 3, none⟩ d
section
variable {w w' : World} {g o : Nat} {a b c d : Value}
theorem set4_far {p : Addr} (h : ∀ j, j < 4 → p ≠ ⟨g, o + j, none⟩) : (set4 w g o a b c d).cell? p = w.cell? p := by
  unfold set4
  rw [World.cell?_setCell_other _ _ _ _ (h 3 (by decide)).symm, World.cell?_setCell_other _ _ _ _ (h 2 (by decide)).symm, World.cell?_setCell_other _ _ _ _ (h 1 (by decide)).symm, World.cell?_setCell_other _ _ _ _ (show (⟨g, o, none⟩ : Addr) ≠ p from (h 0 (by decide)).symm)]
theorem set4_frozen (p : Addr) : (set4 w g o a b c d).frozen? p = w.frozen? p := by
  unfold set4
  rw [World.frozen?_setCell, World.frozen?_setCell, World.frozen?_setCell, World.frozen?_setCell]
theorem set4_size : (set4 w g o a b c d).heap.size = w.heap.size := by unfold set4; simp
theorem set4_near {u0 u1 u2 u3 : Value} (h0 : w.cell? ⟨g, o, none⟩ = some u0) (h1 : w.cell? ⟨g, o + 1, none⟩ = some u1) (h2 : w.cell? ⟨g, o + 2, none⟩ = some u2) (h3 : w.cell? ⟨g, o + 3, none⟩ = some u3) :
    (set4 w g o a b c d).cell? ⟨g, o, none⟩ = some a ∧ (set4 w g o a b c d).cell? ⟨g, o + 1, none⟩ = some b ∧ (set4 w g o a b c d).cell? ⟨g, o + 2, none⟩ = some c ∧ (set4 w g o a b c d).cell? ⟨g, o + 3, none⟩ = some d := by
  have ne : ∀ i j, i ≠ j → (⟨g, o + i, none⟩ : Addr) ≠ ⟨g, o + j, none⟩ := fun i j h e => h (by have := congrArg Addr.off e; simp at this; exact this)
  have n01 := ne 0 1 (by decide)
  have n02 := ne 0 2 (by decide)
  have n03 := ne 0 3 (by decide)
  have n12 := ne 1 2 (by decide)
  have n13 := ne 1 3 (by decide)
  have n23 := ne 2 3 (by decide)
  rw [Nat.add_zero] at n01 n02 n03
  unfold set4
  refine ⟨?_, ?_, ?_, ?_⟩
  · rw [World.cell?_setCell_other _ _ _ _ n03.symm, World.cell?_setCell_other _ _ _ _ n02.symm, World.cell?_setCell_other _ _ _ _ n01.symm]
    exact World.cell?_setCell_same _ _ _ h0
  · rw [World.cell?_setCell_other _ _ _ _ n13.symm, World.cell?_setCell_other _ _ _ _ n12.symm]
    exact World.cell?_setCell_same _ _ _ (by rw [World.cell?_setCell_other _ _ _ _ n01]; exact h1)
  · rw [World.cell?_setCell_other _ _ _ _ n23.symm]
    exact World.cell?_setCell_same _ _ _ (by rw [World.cell?_setCell_other _ _ _ _ n12, World.cell?_setCell_other _ _ _ _ n02]; exact h2)
  · exact World.cell?_setCell_same _ _ _ (by rw [World.cell?_setCell_other _ _ _ _ n23, World.cell?_setCell_other _ _ _ _ n13, World.cell?_setCell_other _ _ _ _ n03]; exact h3)
theorem ButS.set4 {P : Nat → Prop} {v : World} (h : ButS P v w) (hg : P g ∨ v.heap.size ≤ g) : ButS P v (set4 w g o a b c d) := by
  unfold Go.Proofs.YthfbhinlgoaajaaDoor.set4
  exact (((h.setCell (p := ⟨g, o, none⟩) hg a).setCell (p := ⟨g, o + 1, none⟩) hg b).setCell (p := ⟨g, o + 2, none⟩) hg c).setCell (p := ⟨g, o + 3, none⟩) hg d
end
end Go.Proofs.YthfbhinlgoaajaaDoor
namespace Go.Proofs.YthfbhinlgoaajaaDoor
open Go.RowKit
theorem OwnR.block {α : Type} {E : TypeId} {n : Nat} {f : α → List Value} {base : Nat} {w w' : World} {v : Value} {L : List α} (h : OwnR E n f base w v L) (hb : ∀ k, v.ownBlock = some k → w'.heap[k]? = w.heap[k]?) : OwnR E n f base w' v L := by
  obtain ⟨h1, h2⟩ := h
  refine ⟨h1, ?_⟩
  rcases h2 with h2 | ⟨g, cap, cur, hv, hbs, hg, rest⟩
  · exact .inl h2
  · exact .inr ⟨g, cap, cur, hv, hbs, (hb g (by rw [hv]; rfl)).trans hg, rest⟩
end Go.Proofs.YthfbhinlgoaajaaDoor
namespace Go.Proofs.YthfbhinlgoaajaaDoor
open Go.RowKit
theorem atR_row {w : World} {g o : Nat} {l : List Int} (h : AtR inW 1 w g o l) : ∀ (i : Nat) (x : Int), l[i]? = some x → w.cell? ⟨g, o + i, none⟩ = some (.int .i64 x) := fun i b hi => by
  have := h i b hi 0 _ rfl
  rwa [Nat.mul_one, Nat.add_zero] at this
theorem own_rowI {w : World} {base : Nat} {v : Value} {L : List Int} (h : OwnR 3 1 inW base w v L) : ∃ (A : Option Addr) (cap : Nat), v = .slice A L.length cap ∧ RowI w (fun g => base ≤ g) A L := by
  rcases Nat.eq_zero_or_pos L.length with e | e
  · have hn : L = [] := List.length_eq_zero_iff.1 e
    obtain ⟨A, cap, rfl, _, _⟩ := OwnR.shape (f := inW) (fun _ => rfl) h
    exact ⟨A, cap, rfl, .inl hn⟩
  · obtain ⟨g, cap, rfl, hb, hg⟩ := World.ownsRow.form h e
    have ha := OwnR.at (f := inW) (fun _ => rfl) h rfl
    exact ⟨_, cap, rfl, .inr ⟨g, 0, rfl, hb, hg, atR_row ha⟩⟩
end Go.Proofs.YthfbhinlgoaajaaDoor
namespace Go.Proofs.YthfbhinlgoaajaaDoor
open Go.RowKit
def boV (b : Bool) : List Value := [.bool b]
section
variable {w : World} {bs : List Bool}
theorem atR_bits {g : Nat} (h : ∀ (i : Nat) (b : Bool), bs[i]? = some b → w.cell? ⟨g, i, none⟩ = some (.bool b)) : AtR boV 1 w g 0 bs := fun i b hi j u hj => by
  cases j with
  | succ j => simp [boV] at hj
  | zero =>
    obtain rfl : Value.bool b = u := by simpa [boV] using hj
    have := h i b hi
    rwa [Nat.zero_add, Nat.mul_one, Nat.add_zero]
theorem bits_atR {g : Nat} (h : AtR boV 1 w g 0 bs) : ∀ (i : Nat) (b : Bool), bs[i]? = some b → w.cell? ⟨g, i, none⟩ = some (.bool b) := fun i b hi => by
  have := h i b hi 0 _ rfl
  rwa [Nat.zero_add, Nat.mul_one, Nat.add_zero] at this
theorem atR_rows {g : Nat} {L : List NdM} (h : ∀ (i : Nat) (q : NdM), L[i]? = some q → At4 w g (i * 4) q.n q.A q.ca q.B q.cb) : AtR ndW 4 w g 0 L := fun i q hi j u hj => by
  obtain ⟨h0, h1, h2, h3⟩ := h i q hi
  rw [Nat.zero_add]
  match j with
  | 0 => obtain rfl : _ = u := by simpa [ndW] using hj
         exact h0
  | 1 => obtain rfl : _ = u := by simpa [ndW] using hj
         exact h1
  | 2 => obtain rfl : _ = u := by simpa [ndW] using hj
         exact h2
  | 3 => obtain rfl : _ = u := by simpa [ndW] using hj
         exact h3
  | j + 4 => simp [ndW] at hj
theorem rows_atR {g : Nat} {L : List NdM} (h : AtR ndW 4 w g 0 L) : ∀ (i : Nat) (q : NdM), L[i]? = some q → At4 w g (i * 4) q.n q.A q.ca q.B q.cb := fun i q hi => by
  have h0 := h i q hi 0 _ rfl
  have h1 := h i q hi 1 _ rfl
  have h2 := h i q hi 2 _ rfl
  have h3 := h i q hi 3 _ rfl
  rw [Nat.zero_add] at h0 h1 h2 h3
  exact ⟨h0, h1, h2, h3⟩
end
end Go.Proofs.YthfbhinlgoaajaaDoor
namespace Go.Proofs.YthfbhinlgoaajaaDoor
open Go.RowKit
theorem rowI_lit {w : World} {g : Nat} {cs : Array Value} {T : TypeId} {Q : Nat → Prop} {l : List Int} (hh : w.heap[g]? = some (.cells cs T (0, 0))) (hc : cs.toList = l.flatMap inW) (hQ : Q g) : RowI w Q (some ⟨g, 0, none⟩) l := by
  refine .inr ⟨g, 0, rfl, hQ, (Array.getElem?_eq_some_iff.1 hh).1, atR_row (fun i q hi j u hj => ?_)⟩
  rw [Nat.zero_add, Lib.cell_of_heap hh (i * 1 + j)]
  have := flatR_at (f := inW) (n := 1) (fun _ => rfl) l i q hi j u hj
  rw [← hc] at this
  simpa using this
end Go.Proofs.YthfbhinlgoaajaaDoor
namespace Go.Proofs.YthfbhinlgoaajaaDoor
open Go.RowKit Go.Shelf
theorem pnd_info : (Tryd.prog.info? 78).map (fun i => (i.zero, i.size, i.bytes)) = some (some (.agg #[.int .i64 0, .slice none 0 0, .slice none 0 0, .string ⟨#[]⟩]), 4, 72) := by kernel_rfl
theorem ndW_oneP : ∀ q : NdM, ∀ u ∈ ndW q, u.oneCell' = true := by
  intro q u hu
  simp only [ndW, List.mem_cons, List.not_mem_nil, or_false] at hu
  rcases hu with rfl | rfl | rfl | rfl <;> rfl
structure MD (w : World) (base bL bM : Nat) (v : Value) (L : List NdM) (R : Nat → Prop) : Prop where
  lay : w.cell? ⟨bL, 0, none⟩ = some (.func (.func 40) #[] #[.pointer (some ⟨bL, 0, none⟩), .pointer (some ⟨bM, 0, none⟩)])
  made : w.cell? ⟨bM, 0, none⟩ = some v
  fM : w.frozen? ⟨bM, 0, none⟩ = false
  own : OwnR 78 4 ndW base w v L
  rows : ∀ q ∈ L, RowI w R q.A q.n.refs ∧ RowI w R q.B q.n.nums
  rR : ∀ g, R g → base ≤ g ∧ g < w.heap.size ∧ v.ownBlock ≠ some g
  bl : bL < base ∧ bM < base ∧ bL ≠ bM
  bs : base ≤ w.heap.size
def ChM (bM : Nat) (v : Value) (g : Nat) : Prop := g = bM ∨ v.ownBlock = some g
theorem MD.below {w w' : World} {base bL bM : Nat} {v : Value} {L : List NdM} {R : Nat → Prop} (h : MD w base bL bM v L R) (hb : Below w.heap.size w w') : MD w' base bL bM v L R where
  lay := keep_cell hb h.lay
  made := keep_cell hb h.made
  fM := keep_frozen hb (Lib.lt_of_cell h.made) h.fM
  own := h.own.below hb
  rows := fun q hq => ⟨(h.rows q hq).1.below hb, (h.rows q hq).2.below hb⟩
  rR := fun g hg => ⟨(h.rR g hg).1, Nat.lt_of_lt_of_le (h.rR g hg).2.1 hb.size, (h.rR g hg).2.2⟩
  bl := h.bl
  bs := Nat.le_trans h.bs hb.size
theorem MD.but {w w' : World} {base bL bM : Nat} {v : Value} {L : List NdM} {R S : Nat → Prop} (h : MD w base bL bM v L R) (hb : ButS S w w') (hS : ∀ g, S g → base ≤ g ∧ v.ownBlock ≠ some g ∧ ¬ R g) : MD w' base bL bM v L R where
  lay := hb.cell (fun e => by have h1 : base ≤ bL := (hS _ e).1; have := h.bl.1; omega) h.lay
  made := hb.cell (fun e => by have h1 : base ≤ bM := (hS _ e).1; have := h.bl.2.1; omega) h.made
  fM := hb.frozen (fun e => by have h1 : base ≤ bM := (hS _ e).1; have := h.bl.2.1; omega) (Lib.lt_of_cell h.made) h.fM
  own := OwnR.block h.own fun k hk => hb.block k (World.ownsRow.lt h.own k hk).2 fun e => (hS k e).2.1 hk
  rows := fun q hq => by
    have hk : Kept w w' R := hb.keptQ fun g hg e => (hS g e).2.2 hg
    exact ⟨(h.rows q hq).1.kept hk, (h.rows q hq).2.kept hk⟩
  rR := fun g hg => ⟨(h.rR g hg).1, Nat.lt_of_lt_of_le (h.rR g hg).2.1 hb.size, (h.rR g hg).2.2⟩
  bl := h.bl
  bs := Nat.le_trans h.bs hb.size
theorem MD.mono {w : World} {base bL bM : Nat} {v : Value} {L : List NdM} {R R' : Nat → Prop} (h : MD w base bL bM v L R) (hR : ∀ g, R g → R' g) (hr : ∀ g, R' g → base ≤ g ∧ g < w.heap.size ∧ v.ownBlock ≠ some g) : MD w base bL bM v L R' :=
  { h with rows := fun q hq => ⟨(h.rows q hq).1.mono fun g hg _ => hR g hg, (h.rows q hq).2.mono fun g hg _ => hR g hg⟩, rR := hr }
def NP (w : World) (base bL bM : Nat) (v : Value) (L : List NdM) (R : Nat → Prop) (t : Tr) (e : Ending) (w' : World) : Prop :=
  ∃ v' L' R', e = .returned (.int .i64 (-(L'.length : Int))) ∧ MD w' base bL bM v' L' R' ∧ L'.map NdM.n = fl t (L.map NdM.n) ∧ (∀ g, R' g → R g ∨ w.heap.size ≤ g) ∧ (v'.ownBlock = v.ownBlock ∨ ∃ k, v'.ownBlock = some k ∧ w.heap.size ≤ k) ∧ ButS (ChM bM v) w w'
def MidN (w wx : World) (X base bL bM : Nat) (v : Value) (L : List NdM) (R : Nat → Prop) (t : Tr) : Prop :=
  ∃ n A ca B cb v' L' R', MD wx base bL bM v' L' R' ∧ At4 wx X 0 n A ca B cb ∧ RowI wx R' A n.refs ∧ RowI wx R' B n.nums ∧ L'.map NdM.n ++ [n] = fl t (L.map NdM.n) ∧ (∀ g, R' g → R g ∨ w.heap.size ≤ g) ∧ (v'.ownBlock = v.ownBlock ∨ ∃ k, v'.ownBlock = some k ∧ w.heap.size ≤ k) ∧ ButS (ChM bM v) w wx
theorem MD.app {w wx w1 w4 : World} {base bL bM : Nat} {v v' v4 : Value} {L L' : List NdM} {R R' : Nat → Prop} {t : Tr} {n : Nd} {A B : Option Addr} {ca cb : Nat} (h : MD wx base bL bM v' L' R') (hA : RowI wx R' A n.refs) (hB : RowI wx R' B n.nums)
    (hf : L'.map NdM.n ++ [n] = fl t (L.map NdM.n)) (hR : ∀ g, R' g → R g ∨ w.heap.size ≤ g) (hv : v'.ownBlock = v.ownBlock ∨ ∃ k, v'.ownBlock = some k ∧ w.heap.size ≤ k) (hbut : ButS (ChM bM v) w wx)
    (hb1 : Below wx.heap.size wx w1) (ho : OwnR 78 4 ndW base w4 v4 (L' ++ [⟨n, A, ca, B, cb⟩])) (hg : w1.grownBy w4 v'.ownBlock) (hat : v4.ownBlock = v'.ownBlock ∨ ∃ k, v4.ownBlock = some k ∧ w1.heap.size ≤ k) :
    NP w base bL bM v L R t (.returned (.int .i64 (-((L'.length + 1 : Nat) : Int)))) (w4.setCell ⟨bM, 0, none⟩ v4) := by
  have h1 := h.below hb1
  have hlo : ∀ k, v'.ownBlock = some k → base ≤ k := fun k hk => (World.ownsRow.lt h1.own k hk).1
  have hbk : ∀ k, k < base → w4.heap[k]? = w1.heap[k]? := fun k hk => hg.block k (Nat.lt_of_lt_of_le hk h1.bs) fun e => by have := hlo k (by first | exact e | exact e.symm); omega
  have hsz := hg.size
  have hszx := hb1.size
  have hkR : Kept w1 (w4.setCell ⟨bM, 0, none⟩ v4) R' := ⟨by simpa using hsz, fun g hgR hgl => by
    have hr := h1.rR g hgR
    rw [Below.heap_setCell _ _ _ _ (show g ≠ bM by have := h1.bl.2.1; omega)]
    exact hg.block g hgl fun e => hr.2.2 (by first | exact e | exact e.symm)⟩
  refine ⟨v4, L' ++ [⟨n, A, ca, B, cb⟩], R', by rw [List.length_append]; rfl, ⟨?_, ?_, ?_, ?_, fun q hq => ?_, fun g hgR => ?_, h1.bl, by simpa using Nat.le_trans h1.bs hsz⟩, by rw [List.map_append, ← hf]; rfl, hR, ?_, ?_⟩
  · rw [World.cell?_setCell_other _ _ _ _ (by intro e; have := congrArg Addr.block e; exact h1.bl.2.2 this.symm), World.cell?_of_block (w := w1) (hbk bL h1.bl.1)]
    exact h1.lay
  · exact World.cell?_setCell_same _ _ _ (u := v') (by rw [World.cell?_of_block (w := w1) (hbk bM h1.bl.2.1)]; exact h1.made)
  · rw [World.frozen?_setCell, World.frozen?_of_block (w := w1) (hbk bM h1.bl.2.1)]; exact h1.fM
  · have hb := (Below.refl 0 w4).setCell (p := (⟨bM, 0, none⟩ : Addr)) (Nat.zero_le _) v4
    refine World.ownsRow.kept ho (row := some bM) ⟨hb.os, hb.tape, hb.output, hb.size, fun k _ hk => Below.heap_setCell w4 _ v4 k fun e => hk (by rw [e])⟩ (.inr fun e => ?_)
    have := (World.ownsRow.lt ho bM (by first | exact e | exact e.symm)).1
    have := h1.bl.2.1; omega
  · rcases List.mem_append.1 hq with e | e
    · exact ⟨(h1.rows q e).1.kept hkR, (h1.rows q e).2.kept hkR⟩
    · obtain rfl : q = ⟨n, A, ca, B, cb⟩ := by simpa using e
      exact ⟨(hA.below hb1).kept hkR, (hB.below hb1).kept hkR⟩
  · have hr := h1.rR g hgR
    refine ⟨hr.1, by simp; omega, ?_⟩
    rcases hat with e | ⟨k, e, hk⟩
    · rw [e]; exact hr.2.2
    · rw [e]; intro e'; have := Option.some.inj e'; omega
  · rcases hat with e | ⟨k, e, hk⟩
    · rw [e]; exact hv
    · exact .inr ⟨k, e, by have := hbut.size; omega⟩
  · refine ((hbut.trans (ButS.of_below hb1)).grown hg fun k hk => ?_).setCell (.inl (.inl rfl)) _
    rcases hv with e | ⟨j, e, hj⟩
    · exact .inl (.inr (by rw [← e]; exact hk))
    · rw [e] at hk; cases hk; exact .inr hj
theorem MD.grownM {wx w1 w4 : World} {base bL bM : Nat} {v' : Value} {L' : List NdM} {R' : Nat → Prop} (h : MD wx base bL bM v' L' R') (hb1 : Below wx.heap.size wx w1) (hg : w1.grownBy w4 v'.ownBlock) : w4.cell? ⟨bM, 0, none⟩ = some v' ∧ w4.frozen? ⟨bM, 0, none⟩ = false := by
  have h1 := h.below hb1
  have hbk : w4.heap[bM]? = w1.heap[bM]? := hg.block bM (Nat.lt_of_lt_of_le h1.bl.2.1 h1.bs) fun e => by have := (World.ownsRow.lt h1.own bM (by first | exact e | exact e.symm)).1; have := h1.bl.2.1; omega
  exact ⟨by rw [World.cell?_of_block (w := w1) hbk]; exact h1.made, by rw [World.frozen?_of_block (w := w1) hbk]; exact h1.fM⟩
theorem at4_new {w : World} {X : Nat} {u0 u1 u2 u3 : Value} (h0 : w.cell? ⟨X, 0, none⟩ = some u0) (h1 : w.cell? ⟨X, 1, none⟩ = some u1) (h2 : w.cell? ⟨X, 2, none⟩ = some u2) (h3 : w.cell? ⟨X, 3, none⟩ = some u3) (n : Nd) (A : Option Addr) (ca : Nat) (B : Option Addr) (cb : Nat) :
    At4 ((((w.setCell ⟨X, 0, none⟩ (.int .i64 n.kind)).setCell ⟨X, 1, none⟩ (.slice A n.refs.length ca)).setCell ⟨X, 2, none⟩ (.slice B n.nums.length cb)).setCell ⟨X, 3, none⟩ (.string ⟨n.text.toArray⟩)) X 0 n A ca B cb :=
  set4_near (g := X) (o := 0) h0 h1 h2 h3
theorem fl_leaf (x : En) (out : List Nd) : fl (leafT x) out = out ++ [⟨1, [], [x.key], x.text⟩] := by
  unfold leafT
  rw [fl, flL]
theorem leaf_mid {w W0 : World} {base bL bM : Nat} {v : Value} {L : List NdM} {R : Nat → Prop} {x : En} (hM : MD w base bL bM v L R) (hM0 : MD W0 base bL bM v L R) (hbW : Below w.heap.size w W0) (hz : W0.heap.size = w.heap.size + 1) {u0 u1 u2 u3 : Value}
    (x0 : W0.cell? ⟨w.heap.size, 0, none⟩ = some u0) (x1 : W0.cell? ⟨w.heap.size, 1, none⟩ = some u1) (x2 : W0.cell? ⟨w.heap.size, 2, none⟩ = some u2) (x3 : W0.cell? ⟨w.heap.size, 3, none⟩ = some u3) :
    MidN w ((((((W0.setCell ⟨w.heap.size, 0, none⟩ (.int .i64 1)).setCell ⟨w.heap.size, 1, none⟩ (.slice none 0 0)).setCell ⟨w.heap.size, 2, none⟩ (.slice (some ⟨W0.heap.size, 0, none⟩) 1 1)).setCell ⟨w.heap.size, 3, none⟩ (.string ⟨x.text.toArray⟩)).alloc (.cells #[.int .i64 x.key] 3)).drew) w.heap.size base bL bM v L R (leafT x) := by
  have h4 := at4_new x0 x1 x2 x3 ⟨1, [], [x.key], x.text⟩ none 0 (some ⟨W0.heap.size, 0, none⟩) 1
  have hq : ∀ (W : World) (j : Nat) (u : Value), ButS (fun g => g = w.heap.size) W0 W → ButS (fun g => g = w.heap.size) W0 (W.setCell ⟨w.heap.size, j, none⟩ u) := fun W j u h => h.setCell (p := ⟨w.heap.size, j, none⟩) (.inl rfl) u
  have hbu : ButS (fun g => g = w.heap.size) W0 ((((W0.setCell ⟨w.heap.size, 0, none⟩ (.int .i64 1)).setCell ⟨w.heap.size, 1, none⟩ (.slice none 0 0)).setCell ⟨w.heap.size, 2, none⟩ (.slice (some ⟨W0.heap.size, 0, none⟩) 1 1)).setCell ⟨w.heap.size, 3, none⟩ (.string ⟨x.text.toArray⟩)) :=
    hq _ _ _ (hq _ _ _ (hq _ _ _ (hq _ _ _ (ButS.refl _ _))))
  have hs4 : ((((W0.setCell ⟨w.heap.size, 0, none⟩ (.int .i64 1)).setCell ⟨w.heap.size, 1, none⟩ (.slice none 0 0)).setCell ⟨w.heap.size, 2, none⟩ (.slice (some ⟨W0.heap.size, 0, none⟩) 1 1)).setCell ⟨w.heap.size, 3, none⟩ (.string ⟨x.text.toArray⟩)).heap.size = W0.heap.size := by simp
  change At4 ((((W0.setCell ⟨w.heap.size, 0, none⟩ (.int .i64 1)).setCell ⟨w.heap.size, 1, none⟩ (.slice none 0 0)).setCell ⟨w.heap.size, 2, none⟩ (.slice (some ⟨W0.heap.size, 0, none⟩) 1 1)).setCell ⟨w.heap.size, 3, none⟩ (.string ⟨x.text.toArray⟩)) _ 0 _ none 0 _ 1 at h4
  generalize ((((W0.setCell ⟨w.heap.size, 0, none⟩ (.int .i64 1)).setCell ⟨w.heap.size, 1, none⟩ (.slice none 0 0)).setCell ⟨w.heap.size, 2, none⟩ (.slice (some ⟨W0.heap.size, 0, none⟩) 1 1)).setCell ⟨w.heap.size, 3, none⟩ (.string ⟨x.text.toArray⟩)) = S4 at *
  have hnew : (S4.alloc (.cells #[.int .i64 x.key] 3)).drew.heap[W0.heap.size]? = some (.cells #[.int .i64 x.key] 3 (0, 0)) := by
    have := heap_alloc_new S4 (.cells #[.int .i64 x.key] 3)
    rw [hs4] at this; exact this
  have hbu2 : ButS (fun g => g = w.heap.size) W0 (S4.alloc (.cells #[.int .i64 x.key] 3)).drew := (hbu.alloc _).drew
  have hsz := hbu2.size
  have hbS : Below S4.heap.size S4 (S4.alloc (.cells #[.int .i64 x.key] 3)).drew := ((Below.refl _ _).alloc (Nat.le_refl _) _).drew
  have hown : ∀ k, v.ownBlock = some k → k < w.heap.size := fun k hk => (World.ownsRow.lt hM.own k hk).2
  refine ⟨⟨1, [], [x.key], x.text⟩, none, 0, some ⟨W0.heap.size, 0, none⟩, 1, v, L, fun g => R g ∨ g = W0.heap.size, (hM0.but hbu2 fun g hg => ?_).mono (fun g hg => .inl hg) fun g hg => ?_, ?_, .inl rfl, rowI_lit hnew rfl (.inr rfl), (fl_leaf x _).symm, fun g hg => ?_, .inl rfl, ?_⟩
  · subst hg
    have := hM.bs
    exact ⟨this, fun e => by have := hown _ e; omega, fun e => by have := (hM.rR _ e).2.1; omega⟩
  · rcases hg with hg | hg
    · have := hM0.rR g hg
      exact ⟨this.1, by omega, this.2.2⟩
    · subst hg
      have := hM0.bs
      refine ⟨this, ?_, fun e => by have := hown _ e; omega⟩
      exact (Array.getElem?_eq_some_iff.1 hnew).1
  · exact ⟨keep_cell hbS h4.1, keep_cell hbS h4.2.1, keep_cell hbS h4.2.2.1, keep_cell hbS h4.2.2.2⟩
  · rcases hg with hg | hg
    · exact .inl hg
    · exact .inr (by omega)
  · exact (ButS.of_below hbW).trans' hbu2 fun g hgl hg => by omega
end Go.Proofs.YthfbhinlgoaajaaDoor
