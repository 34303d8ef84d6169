/- Texts joined: RefG, RefIa, CeB, UaE, UaF. -/
import Derived.Test.YthaoalmhhgllmaaGreatDoorMa03
import Derived.OwnWalk
import Derived.Deep.Onto
import Derived.Test.YthaoalmhhgllmaaGreatDoorMa10
import Derived.Deep.RegionWith
import Derived.Deep.CutRange
import Derived.Deep.RegionHeld3
import Derived.Deep.AppendLies
import Derived.Test.YthaoalmhhgllmaaGreatDoorMa02
import Derived.Maps.OwnSet
set_option linter.all false
set_option linter.unusedVariables false
set_option linter.unusedSimpArgs false
namespace Go.Proofs.YthaoalmhhgllmaaGreatDoor
open Go.RowKit

set_option maxHeartbeats 2000000 in
set_option maxRecDepth 10000 in
theorem rcells_any (a b c d : Int) (w : World) :
    Calls Tryz.prog 107 #[.agg #[.int .i64 a, .int .i64 b, .int .i64 c, .int .i64 d]] w fun e w' => ∃ v, e = .returned v ∧
      w'.ownsRow w.heap.size 24 2 v (cellsTo a b c d 1024).length (cells2 (cellsTo a b c d 1024)) ∧ Below w.heap.size w w' := by
  obtain ⟨i0, hi0, hz0, hz1, hz2⟩ := info_parts place_info
  have HI := Lib.hid hi0
  have HZ0 := Lib.hid hz0
  have HZ1 := Lib.hid hz1
  have HZ2 := Lib.hid hz2
  clear hi0 hz0 hz1 hz2
  go_enter Tryz.func107, Tryz.ntmps107
  go_wp2_with fail
  go_loopw [3, 4] (fun v n wr => ∃ i : Nat, i ≤ 1024 ∧ n = .int .i64 i ∧ wr.ownsRow (w.heap.size + 1) 24 2 v (cellsTo a b c d i).length (cells2 (cellsTo a b c d i)) ∧
      Below (w.heap.size + 1) (w.alloc (.cells #[.int .i64 a, .int .i64 b, .int .i64 c, .int .i64 d] 26)) wr) (fun _ n _ => leftG n)
  case atStart => exact ⟨0, by omega, rfl, World.ownsRow_nil _ _ _ _, Below.refl _ _⟩
  case round =>
    obtain ⟨i, hi, rfl, hown, hb⟩ := hrel
    have HO := Lib.hid hown
    have hlen := cellsTo_le a b c d i
    have k0 : wr.cell? ⟨w.heap.size, 0, none⟩ = some (.int .i64 a) := by rw [hb.cell (by simp)]; simp
    have k1 : wr.cell? ⟨w.heap.size, 1, none⟩ = some (.int .i64 b) := by rw [hb.cell (by simp)]; simp
    have k2 : wr.cell? ⟨w.heap.size, 2, none⟩ = some (.int .i64 c) := by rw [hb.cell (by simp)]; simp
    have k3 : wr.cell? ⟨w.heap.size, 3, none⟩ = some (.int .i64 d) := by rw [hb.cell (by simp)]; simp
    have z0 : w.heap.size < wr.heap.size := by have := hb.size; simp at this; omega
    have b0 : Below w.heap.size w wr := ((Below.refl _ _).alloc (Nat.le_refl _) _).trans (hb.mono (by omega))
    clear hown
    by_cases hlt : i < 1024
    · have HH := Lib.hid (rhas_any a b c d (atC i) (atR i))
      go_wp2_with fail
      refine (rat_any _ _).mono ?_; rintro e w2 ⟨rfl, b2⟩
      have q0 := keep_cell b2 k0
      have q1 := keep_cell b2 k1
      have q2 := keep_cell b2 k2
      have q3 := keep_cell b2 k3
      have z2 : w.heap.size < w2.heap.size := by have := b2.size; omega
      have HO2 := Lib.hid (own_below HO.out b2)
      have hb2 := hb.trans (b2.mono (by omega))
      clear k0 k1 k2 k3
      cases hh : hasB a b c d (atC i) (atR i) with
      | true =>
        rw [hh] at HH
        have HS := Lib.hid (cellsTo_yes hh)
        clear hh
        go_wp2_with fail
        refine (HH.out _).mono ?_; rintro e w3 ⟨rfl, b3⟩
        have m0 := keep_fresh b3 0 (v := .int .i64 (atC i)) rfl
        have m1 := keep_fresh b3 1 (v := .int .i64 (atR i)) rfl
        have HO3 := Lib.hid (own_below (HO2.out.alloc _) b3)
        have hb3 := (hb2.alloc (by omega) _).trans (b3.mono (by simp; omega))
        have z3 : w.heap.size + 1 ≤ w3.heap.size := by have := b3.size; simp at this; omega
        have b3' := b0.trans (b2.mono (by omega))
        have b4 := (b3'.alloc (by omega) (.cells #[.int .i64 (atC i), .int .i64 (atR i)] 24)).trans (b3.mono (by simp; omega))
        clear b2 b3 q0 q1 q2 q3
        go_wp2_with (at_builtin
                     refine wpList_append_own _ rfl _ _ 39 rfl (w.heap.size + 1) 24 i0 (.agg #[.int .i64 0, .int .i64 0]) 2 16 Tryz.underlying39 HI.out HZ0.out HZ1.out HZ2.out rfl (by decide) _ _ _ rfl (HO3.out.alloc _)
                       ⟨w3.heap.size, 0, none⟩ 1 1 [.int .i64 (atC i), .int .i64 (atR i)] rfl rfl ?c1 ?c2 ?c3 ?c4 ?c5 ?_)
        case c1 =>
          intro j u hj
          match j, hj with
          | 0, hj => simp at hj; subst hj; simp [Addr.add]
          | 1, hj => simp at hj; subst hj; simp [Addr.add]
        case c2 => intro u hu; simp at hu; rcases hu with rfl | rfl <;> rfl
        case c3 => unfold maxLen; omega
        case c4 => omega
        case c5 => simp; omega
        intro v' w4 hown4 hg4 _
        rw [← cells2_snoc] at hown4
        have e5 : (cellsTo a b c d i).length + 1 = (cellsTo a b c d (i + 1)).length := by rw [HS.out]; simp
        rw [e5, ← HS.out] at hown4
        have HO4 := Lib.hid hown4
        clear hown4 e5
        have hb4 : Below (w.heap.size + 1) (w.alloc (.cells #[.int .i64 a, .int .i64 b, .int .i64 c, .int .i64 d] 26)) w4 := (hb3.alloc z3 _).grown hg4 (by simp; omega) (fun g hgg => (HO3.out.lt g hgg).1)
        clear hg4
        go_wp2_with fail
        go_roundw
        case rel => exact ⟨i + 1, by omega, by go_num, HO4.out, hb4⟩
        case measure => simp [leftG, intOf]; omega
      | false =>
        rw [hh] at HH
        have HS := Lib.hid (cellsTo_no hh)
        clear hh
        go_wp2_with fail
        refine (HH.out _).mono ?_; rintro e w3 ⟨rfl, b3⟩
        have HO3 := own_below (HO2.out.alloc _) b3
        have hb3 := (hb2.alloc (by omega) _).trans (b3.mono (by simp; omega))
        rw [← HS.out] at HO3
        have HO4 := Lib.hid HO3
        clear HO3 b2 b3 q0 q1 q2 q3
        go_wp2_with fail
        go_roundw
        case rel => exact ⟨i + 1, by omega, by go_num, HO4.out, hb3⟩
        case measure => simp [leftG, intOf]; omega
    · have hi2 : i = 1024 := by omega
      subst hi2
      go_wp2_with fail
      go_ret
      exact ⟨_, rfl, HO.out.mono (by omega), b0⟩
end Go.Proofs.YthaoalmhhgllmaaGreatDoor
namespace Go.Proofs.YthaoalmhhgllmaaGreatDoor
open Go.RowKit

def both (a b c d : Int) (l : List (Int × Int)) : List (Int × Int) := l.filter fun p => hasB a b c d p.1 p.2
def fstOr (l : List (Int × Int)) : Int × Int := l.head?.getD (0, 0)
def lstOr (l : List (Int × Int)) : Int × Int := l.getLast?.getD (0, 0)
theorem both_yes {a b c d x y : Int} {l : List (Int × Int)} {i : Nat} (hi : l[i]? = some (x, y)) (h : hasB a b c d x y = true) : both a b c d (l.take (i + 1)) = both a b c d (l.take i) ++ [(x, y)] := by
  unfold both; rw [List.take_add_one, hi, List.filter_append]; simp [h]
theorem both_no {a b c d x y : Int} {l : List (Int × Int)} {i : Nat} (hi : l[i]? = some (x, y)) (h : hasB a b c d x y = false) : both a b c d (l.take (i + 1)) = both a b c d (l.take i) := by
  unfold both; rw [List.take_add_one, hi, List.filter_append]; simp [h]
theorem fst_snoc (l : List (Int × Int)) (p : Int × Int) : fstOr (l ++ [p]) = if l = [] then p else fstOr l := by
  unfold fstOr; cases l <;> simp
theorem lst_snoc (l : List (Int × Int)) (p : Int × Int) : lstOr (l ++ [p]) = p := by
  unfold lstOr; simp
def someB (l : List (Int × Int)) : Bool := !l.isEmpty
structure Out4 (w : World) (g : Nat) (l : List (Int × Int)) : Prop where
  c0 : w.cell? ⟨g, 0, none⟩ = some (.int .i64 (fstOr l).1)
  c1 : w.cell? ⟨g, 1, none⟩ = some (.int .i64 (fstOr l).2)
  c2 : w.cell? ⟨g, 2, none⟩ = some (.int .i64 (lstOr l).1)
  c3 : w.cell? ⟨g, 3, none⟩ = some (.int .i64 (lstOr l).2)
  f0 : w.frozen? ⟨g, 0, none⟩ = false
  f1 : w.frozen? ⟨g, 1, none⟩ = false
  f2 : w.frozen? ⟨g, 2, none⟩ = false
  f3 : w.frozen? ⟨g, 3, none⟩ = false
theorem Out4.to {w : World} {o : Nat} {l : List (Int × Int)} (H : Out4 w o l) (hl : l ≠ []) (x y : Int) :
    Out4 ((w.setCell ⟨o, 2, none⟩ (.int .i64 x)).setCell ⟨o, 3, none⟩ (.int .i64 y)) o (l ++ [(x, y)]) := by
  obtain ⟨c0, c1, c2, c3, f0, f1, f2, f3⟩ := H
  have e1 : fstOr (l ++ [(x, y)]) = fstOr l := by rw [fst_snoc, if_neg hl]
  refine ⟨?_, ?_, ?_, ?_, ?_, ?_, ?_, ?_⟩
  · rw [e1]; simp [go_sem, c0]
  · rw [e1]; simp [go_sem, c1]
  · rw [lst_snoc]; simp [go_sem, c2]
  · rw [lst_snoc]; simp [go_sem, c3]
  · simp [go_sem, f0]
  · simp [go_sem, f1]
  · simp [go_sem, f2]
  · simp [go_sem, f3]
theorem Out4.from_ {w : World} {o : Nat} (H : Out4 w o []) (x y : Int) :
    Out4 ((((w.setCell ⟨o, 0, none⟩ (.int .i64 x)).setCell ⟨o, 1, none⟩ (.int .i64 y)).setCell ⟨o, 2, none⟩ (.int .i64 x)).setCell ⟨o, 3, none⟩ (.int .i64 y)) o [(x, y)] := by
  obtain ⟨c0, c1, c2, c3, f0, f1, f2, f3⟩ := H
  refine ⟨?_, ?_, ?_, ?_, ?_, ?_, ?_, ?_⟩
  · show _ = some (Value.int .i64 x); simp [go_sem, c0]
  · show _ = some (Value.int .i64 y); simp [go_sem, c1]
  · show _ = some (Value.int .i64 x); simp [go_sem, c2]
  · show _ = some (Value.int .i64 y); simp [go_sem, c3]
  · simp [go_sem, f0]
  · simp [go_sem, f1]
  · simp [go_sem, f2]
  · simp [go_sem, f3]
theorem own_shape {w : World} {base : Nat} {v : Value} {l : List (Int × Int)} (h : w.ownsRow base 24 2 v l.length (cells2 l)) :
    ∃ (A : Option Addr) (cap : Nat), v = .slice A l.length cap ∧ (∀ i, i < l.length → ∃ g, A = some ⟨g, 0, none⟩ ∧ g < w.heap.size ∧ At2 w g l) := by
  have h' := h
  rcases h.2 with ⟨rfl, hl⟩ | ⟨g, cap, cur, rfl, _, hh, _⟩
  · exact ⟨none, 0, by rw [hl], fun i hi => by omega⟩
  · refine ⟨_, cap, rfl, fun i hi => ⟨g, rfl, ?_, at2_of_own h'⟩⟩
    exact (h'.lt g rfl).2
theorem at2_below {w w' : World} {B g : Nat} {l : List (Int × Int)} (h : At2 w g l) (hb : Below B w w') (hg : g < B) : At2 w' g l := by
  intro i x y hi
  obtain ⟨h1, h2⟩ := h i x y hi
  exact ⟨by rw [hb.cell (p := ⟨g, i * 2, none⟩) hg]; exact h1, by rw [hb.cell (p := ⟨g, i * 2 + 1, none⟩) hg]; exact h2⟩
def leftI (n : Nat) (v : Value) : Nat := n - (intOf v).toNat

def mtL (a b c d e f g h : Int) : List (Int × Int) := both e f g h (cellsTo a b c d 1024)
end Go.Proofs.YthaoalmhhgllmaaGreatDoor
namespace Go.Proofs.YthaoalmhhgllmaaGreatDoor
open Go.RowKit

def OwnV (base : Nat) (w : World) (v : Value) (L : List (Int × Int)) : Prop := w.ownsRow base 35 2 v L.length (cells2 L)
theorem value_info : (Tryz.prog.info? 35).map (fun i => (i.zero, i.size, i.bytes)) = some (some (.agg #[.int .i64 0, .int .i64 0]), 2, 16) := by kernel_rfl
theorem OwnV.shape {w : World} {base : Nat} {v : Value} {L : List (Int × Int)} (h : OwnV base w v L) :
    ∃ (A : Option Addr) (cap : Nat), v = .slice A L.length cap ∧ ListV w A L := by
  have h' := h
  rcases h.2 with ⟨rfl, hl⟩ | ⟨g, cap, cur, rfl, _, hh, _⟩
  · refine ⟨none, 0, by rw [hl], fun hne => ?_⟩
    exact absurd (List.length_eq_zero_iff.1 hl) hne
  · refine ⟨_, cap, rfl, fun _ => ⟨g, 0, rfl, fun i x y hi => ?_⟩⟩
    have hlt : i < L.length := (List.getElem?_eq_some_iff.1 hi).1
    obtain ⟨h1, h2⟩ := cells2_at L i x y hi
    rw [Nat.zero_add]
    exact ⟨(World.ownsRow.cellAt h' (i * 2) (by omega)).trans h1, (World.ownsRow.cellAt h' (i * 2 + 1) (by omega)).trans h2⟩
theorem own_shapeB {w : World} {base : Nat} {v : Value} {l : List (Int × Int)} (h : w.ownsRow base 24 2 v l.length (cells2 l)) :
    ∃ (A : Option Addr) (cap : Nat), v = .slice A l.length cap ∧ (∀ i, i < l.length → ∃ g, A = some ⟨g, 0, none⟩ ∧ base ≤ g ∧ g < w.heap.size ∧ At2 w g l) := by
  have h' := h
  rcases h.2 with ⟨rfl, hl⟩ | ⟨g, cap, cur, rfl, _, hh, _⟩
  · exact ⟨none, 0, by rw [hl], fun i hi => by omega⟩
  · exact ⟨_, cap, rfl, fun i hi => ⟨g, rfl, (h'.lt g rfl).1, (h'.lt g rfl).2, at2_of_own h'⟩⟩
def fmT (l : List Cel) (C : List (Int × Int)) (k : Nat) : List (Int × Int) := (C.take k).filterMap fun p => cAt p.1 p.2 l
theorem fm_yes {l : List Cel} {C : List (Int × Int)} {k : Nat} {x y : Int} {v : Int × Int} (hi : C[k]? = some (x, y)) (h : cAt x y l = some v) : fmT l C (k + 1) = fmT l C k ++ [v] := by
  unfold fmT
  rw [List.take_add_one, hi, List.filterMap_append]
  show _ ++ [(x, y)].filterMap _ = _
  rw [List.filterMap_cons_some (by exact h)]; rfl
theorem fm_no {l : List Cel} {C : List (Int × Int)} {k : Nat} {x y : Int} (hi : C[k]? = some (x, y)) (h : cAt x y l = none) : fmT l C (k + 1) = fmT l C k := by
  unfold fmT
  rw [List.take_add_one, hi, List.filterMap_append]
  show _ ++ [(x, y)].filterMap _ = _
  rw [List.filterMap_cons_none (by exact h)]; exact List.append_nil _
theorem fm_le (l : List Cel) (C : List (Int × Int)) (k : Nat) : (fmT l C k).length ≤ C.length := by
  unfold fmT
  refine Nat.le_trans (List.length_filterMap_le _ _) ?_
  rw [List.length_take]; exact Nat.min_le_right _ _
def PlA (w : World) (v : Value) (A : Option Addr) (C : List (Int × Int)) : Prop := ∀ i, i < C.length → ∃ g, A = some ⟨g, 0, none⟩ ∧ g < w.heap.size ∧ v.ownBlock ≠ some g ∧ At2 w g C
def ComeC (l : List Cel) (t : Tr) : Prop := ∀ (w : World) (P : Nat → Prop) (A : Option Addr) (cap : Nat) (LA : Option Addr) (lc : Nat), KV w P t A → ListC w LA l →
  Calls Tryz.prog 19 #[.agg #[.int .i64 t.kind, .int .i64 t.num, .int .i64 t.c1, .int .i64 t.r1, .int .i64 t.c2, .int .i64 t.r2, .string ⟨t.word.toArray⟩, .slice A t.kids.length cap], .slice LA l.length lc] w fun e w' => e = .returned (.agg #[.int .i64 (cmT l t).1, .int .i64 (cmT l t).2]) ∧ Below w.heap.size w w'
def ItemsC (l : List Cel) (t : Tr) : Prop := ∀ (w : World) (P : Nat → Prop) (A : Option Addr) (cap : Nat) (LA : Option Addr) (lc : Nat), KV w P t A → ListC w LA l →
  Calls Tryz.prog 66 #[.slice A t.kids.length cap, .slice LA l.length lc] w fun e w' => ∃ v, e = .returned v ∧ OwnV w.heap.size w' v (itL l t.kids) ∧ Below w.heap.size w w'
theorem itL_tk {l : List Cel} {ks : List Tr} {i : Nat} {u : Tr} (hu : ks[i]? = some u) (h6 : u.kind ≠ 6) : itL l (ks.take (i + 1)) = itL l (ks.take i) ++ [cmT l u] := by rw [itL_take hu, if_neg h6]
theorem itL_sp {l : List Cel} {ks : List Tr} {i : Nat} {u : Tr} (hu : ks[i]? = some u) (h6 : u.kind = 6) : itL l (ks.take (i + 1)) = itL l (ks.take i) ++ fmT l (cellsTo u.c1 u.r1 u.c2 u.r2 1024) (cellsTo u.c1 u.r1 u.c2 u.r2 1024).length := by
  rw [itL_take hu, if_pos h6]; unfold fmT; rw [List.take_length]; rfl
theorem heap_new1 (w : World) (X : Obj) : (w.alloc X).heap[w.heap.size]? = some X := (MapKept.heap_alloc w X).1
theorem cells2_one (a b : Int) : [Value.int .i64 a, Value.int .i64 b] = cells2 [(a, b)] := rfl
theorem cells2_app (a b : List (Int × Int)) : cells2 (a ++ b) = cells2 a ++ cells2 b := by unfold cells2; exact List.flatMap_append
theorem new2_at (w : World) (X : Obj) (a b : Int) (j : Nat) (u : Value) (h : [Value.int .i64 a, Value.int .i64 b][j]? = some u) : ((w.alloc X).alloc (.cells #[.int .i64 a, .int .i64 b] 35)).cell? ((⟨w.heap.size + 1, 0, none⟩ : Addr).add j) = some u := by
  match j, h with
  | 0, h => simp at h; subst h; simp [Addr.add, go_sem]
  | 1, h => simp at h; subst h; simp [Addr.add, go_sem]
theorem new2_one (a b : Int) : ∀ u ∈ [Value.int .i64 a, Value.int .i64 b], u.oneCell' = true := by
  intro x hx; simp at hx; rcases hx with rfl | rfl <;> rfl
def Stop (P : Prop) : Prop := P
theorem of_stop {P : Prop} (h : Stop P) : P := h
theorem stop_of {P : Prop} (h : P) : Stop P := h
set_option maxHeartbeats 4000000 in
set_option maxRecDepth 10000 in
theorem items_of {l : List Cel} (hl : l.length ≤ maxLen) (t : Tr) (hlen : t.kids.length ≤ 1000000) (ih : ∀ u ∈ t.kids, ComeC l u) : ItemsC l t := by
  intro w P A cap LA lc hk hc
  obtain ⟨i0, hi0, hz0, hz1, hz2⟩ := info_parts value_info
  have HI0 := Lib.hid hi0
  have HZ0 := Lib.hid hz0
  have HZ1 := Lib.hid hz1
  have HZ2 := Lib.hid hz2
  clear hi0 hz0 hz1 hz2
  have HK := Lib.hid hk
  have HI := Lib.hid ih
  have HC := Lib.hid hc
  have HLL := Lib.hid hl
  clear hk ih hc hl
  go_enter Tryz.func66, Tryz.ntmps66
  go_wp2_with fail
  go_loopw [5, 6] (fun v n wr => ∃ i : Nat, i ≤ t.kids.length ∧ n = .int .i64 (i : Int) ∧ OwnV w.heap.size wr v (itL l (t.kids.take i)) ∧ Below w.heap.size w wr) (fun _ n _ => t.kids.length - (intOf n).toNat)
  case atStart => exact ⟨0, Nat.zero_le _, rfl, by rw [List.take_zero, itL]; exact World.ownsRow_nil _ _ _ _, Below.refl _ _⟩
  case round =>
    obtain ⟨i, hi, rfl, hown, hbel⟩ := hrel
    have HO := Lib.hid hown
    have hle := itL_le l (t.kids.take i)
    have hlt1 : (t.kids.take i).length ≤ 1000000 := by rw [List.length_take]; omega
    clear hown
    by_cases hlt : i < t.kids.length
    · have hu : t.kids[i]? = some (t.kids[i]'hlt) := List.getElem?_eq_getElem hlt
      obtain ⟨g, o, rfl⟩ := HK.out.addr hu
      obtain ⟨hg, A', cap', h8, hkv⟩ := HK.out.kidAt hbel hu
      have HT1 := Lib.hid (itL_tk (l := l) hu)
      have HT2 := Lib.hid (itL_sp (l := l) hu)
      have HCo := Lib.hid (HI.out _ (List.getElem_mem hlt) wr _ A' cap' LA lc hkv (HC.out.below hbel))
      generalize t.kids[i]'hlt = u at *
      obtain ⟨q0, q1, q2, q3, q4, q5, q6, q7⟩ := h8
      have zg : g < wr.heap.size := Nat.lt_of_lt_of_le hg hbel.size
      have zs := hbel.size
      clear hkv hu
      by_cases h6 : u.kind = 6
      · have d6 : (u.kind != 6) = false := by simpa using h6
        have HT := Lib.hid (HT2.out h6)
        have HCl := Lib.hid (fun w => rcells_any u.c1 u.r1 u.c2 u.r2 w)
        have hcl := cellsTo_le u.c1 u.r1 u.c2 u.r2 1024
        clear HT1 HT2 h6 HCo
        generalize cellsTo u.c1 u.r1 u.c2 u.r2 1024 = C at *
        generalize hX : itL l (t.kids.take i) = X at *
        go_wp2_with fail
        refine (HCl.out _).mono ?_; rintro e w1 ⟨v7, rfl, hown7, b1⟩
        obtain ⟨A7, cap7, rfl, hsh⟩ := own_shapeB hown7
        have HPA : Hid (PlA w1 u5 A7 C) := Lib.hid fun j hj => by
          obtain ⟨g7, e, hb7, hl7, hat⟩ := hsh j hj
          exact ⟨g7, e, hl7, fun e2 => by have := (HO.out.lt g7 e2).2; omega, hat⟩
        have HO1 := Lib.hid (own_below HO.out b1)
        have hb1 := hbel.trans (b1.mono zs)
        clear hsh hown7 b1 q0 q1 q2 q3 q4 q5 q6 q7 HO d6 zg zs hg
        go_wp2_with fail
        go_loopw [5, 8] (fun v n wr => ∃ k : Nat, k ≤ C.length ∧ n = .int .i64 (k : Int) ∧ OwnV w.heap.size wr v (X ++ fmT l C k) ∧ Hid (PlA wr v A7 C) ∧ Below w.heap.size w wr) (fun _ n _ => C.length - (intOf n).toNat)
        case atStart => exact ⟨0, Nat.zero_le _, rfl, by (have e : fmT l C 0 = [] := rfl); rw [e, List.append_nil]; exact HO1.out, HPA, hb1⟩
        case round =>
          clear HO1 HPA hb1 hbel
          obtain ⟨k, hk2, rfl, hown2, HP2, hbel⟩ := hrel
          have HO := Lib.hid hown2
          have hfl := fm_le l C k
          have zs := hbel.size
          clear hown2
          by_cases hlt2 : k < C.length
          · obtain ⟨x, y, hxy⟩ : ∃ x y, C[k]? = some (x, y) := ⟨_, _, List.getElem?_eq_getElem hlt2⟩
            obtain ⟨g7, rfl, hg7, hn7, hat7⟩ := HP2.out k hlt2
            obtain ⟨a0, a1⟩ := hat7 k x y hxy
            clear hat7
            have HA := Lib.hid (fun (w : World) (hc : ListC w LA l) => rAt_any l HLL.out LA lc x y w hc)
            have hlc := HC.out.below hbel
            have HY := Lib.hid (fun v => fm_yes (l := l) (v := v) hxy)
            have HN := Lib.hid (fm_no (l := l) hxy)
            clear hxy
            cases hv : cAt x y l with
            | none =>
              have HN2 := Lib.hid (HN.out hv)
              have HA : Hid (∀ (w : World), ListC w LA l → Calls Tryz.prog 33 #[.slice LA l.length lc, .agg #[.int .i64 x, .int .i64 y]] w fun e w' => e = .returned (.tuple #[.agg #[.int .i64 0, .int .i64 0], .bool false]) ∧ Below w.heap.size w w') := Lib.hid fun w hc => by
                have := HA.out w hc
                rw [hv] at this
                exact this
              clear HN HY hv
              go_wp2_with fail
              refine (HA.out _ hlc).mono ?_; rintro e w2 ⟨rfl, b2⟩
              have HO2 := Lib.hid (own_below HO.out b2)
              have hb2 := hbel.trans (b2.mono zs)
              have HF : Hid (∀ wf, Below w2.heap.size w2 wf → ∃ k2 : Nat, k2 ≤ C.length ∧ Value.int .i64 ((k : Int) + 1) = .int .i64 (k2 : Int) ∧ OwnV w.heap.size wf u5 (X ++ fmT l C k2) ∧ Hid (PlA wf u5 (some ⟨g7, 0, none⟩) C) ∧ Below w.heap.size w wf) := Lib.hid fun wf bf => by
                refine ⟨k + 1, hlt2, by go_num, by rw [HN2.out]; exact own_below HO2.out bf, Lib.hid fun j hj => ?_, hb2.trans (bf.mono hb2.size)⟩
                obtain ⟨g', e, h1, h2, h3⟩ := HP2.out j hj
                exact ⟨g', e, Nat.lt_of_lt_of_le h1 (Nat.le_trans b2.size bf.size), h2, at2_below h3 (b2.trans (bf.mono b2.size)) h1⟩
              clear b2 a0 a1
              go_wp2_with fail
              go_roundw
              case rel => exact HF.out _ (by repeat' (first | with_reducible exact Below.refl _ _ | exact Nat.le_refl _ | with_reducible refine Below.alloc ?_ ?_ _ | with_reducible refine Below.setCell ?_ ?_ _))
              case measure => simp [intOf]; omega
            | some p =>
              have HY2 := Lib.hid (HY.out p hv)
              have HA : Hid (∀ (w : World), ListC w LA l → Calls Tryz.prog 33 #[.slice LA l.length lc, .agg #[.int .i64 x, .int .i64 y]] w fun e w' => e = .returned (.tuple #[.agg #[.int .i64 p.1, .int .i64 p.2], .bool true]) ∧ Below w.heap.size w w') := Lib.hid fun w hc => by
                have := HA.out w hc
                rw [hv] at this
                exact this
              clear HN HY hv
              obtain ⟨pn, pf⟩ := p
              dsimp only at HA
              go_wp2_with fail
              refine (HA.out _ hlc).mono ?_; rintro e w2 ⟨rfl, b2⟩
              have HO2 := Lib.hid (own_below HO.out b2)
              have hb2 := hbel.trans (b2.mono zs)
              have HF : Hid (∀ wf v', wf.ownsRow w.heap.size 35 2 v' ((X ++ fmT l C k).length + 1) (cells2 (X ++ fmT l C k) ++ [.int .i64 pn, .int .i64 pf]) → (∃ w3, Below w2.heap.size w2 w3 ∧ w2.heap.size ≤ w3.heap.size ∧ w3.grownBy wf u5.ownBlock ∧ ∀ q, v'.ownBlock = some q → u5.ownBlock = some q ∨ w2.heap.size ≤ q) → ∃ k2 : Nat, k2 ≤ C.length ∧ Value.int .i64 ((k : Int) + 1) = .int .i64 (k2 : Int) ∧ OwnV w.heap.size wf v' (X ++ fmT l C k2) ∧ Hid (PlA wf v' (some ⟨g7, 0, none⟩) C) ∧ Below w.heap.size w wf) := Lib.hid fun wf v' ho ⟨w3, b3, z3, hg, hq⟩ => by
                refine ⟨k + 1, hlt2, by go_num, ?_, Lib.hid fun j hj => ?_, (hb2.trans (b3.mono hb2.size)).grown hg (by have := hb2.size; omega) (fun q hk => (HO2.out.lt q hk).1)⟩
                · unfold OwnV
                  rw [HY2.out, ← List.append_assoc, List.length_append, cells2_app]
                  exact ho
                · obtain ⟨g', e, h1, h2, h3⟩ := HP2.out j hj
                  have hgl : g' < w3.heap.size := Nat.lt_of_lt_of_le h1 (Nat.le_trans b2.size b3.size)
                  refine ⟨g', e, Nat.lt_of_lt_of_le hgl hg.size, fun e2 => ?_, ?_⟩
                  · rcases hq g' e2 with h4 | h4
                    · exact h2 h4
                    · have := b2.size; omega
                  · have hat := at2_below h3 (b2.trans (b3.mono b2.size)) h1
                    intro a b c hi
                    obtain ⟨s1, s2⟩ := hat a b c hi
                    exact ⟨by rw [hg.cell_far _ hgl (fun e => h2 e.symm)]; exact s1, by rw [hg.cell_far _ hgl (fun e => h2 e.symm)]; exact s2⟩
              clear b2 a0 a1 HP2
              have z2 : w.heap.size ≤ w2.heap.size := hb2.size
              have hlen2 : (X ++ fmT l C k).length + 1 ≤ 2000000000 := by rw [List.length_append]; omega
              go_wp2_with (at_builtin; refine of_stop ?_)
              refine stop_of ?_
              refine wpList_append_lies _ rfl _ _ 93 rfl w.heap.size 35 i0 (.agg #[.int .i64 0, .int .i64 0]) 2 16 Tryz.underlying93 HI0.out HZ0.out HZ1.out HZ2.out rfl (by decide) _ _ _ rfl ((HO2.out.alloc _).alloc _)
                       ⟨w2.heap.size + 1, 0, none⟩ 1 1 [.int .i64 pn, .int .i64 pf] rfl rfl (new2_at w2 _ pn pf) (new2_one pn pf) (by decide) (by unfold maxLen; omega) (by omega) (by simp; omega) (w2.heap.size + 1 + 1) (by simp) ?_
              intro gq cq w4 hown4 hg4 hat4 _
              have hob : ∀ q, (Value.slice (some ⟨gq, 0, none⟩) ((X ++ fmT l C k).length + 1) cq).ownBlock = some q → u5.ownBlock = some q ∨ w2.heap.size ≤ q := fun q hq => by
                have e : gq = q := by simpa [Value.ownBlock] using hq
                subst e
                rcases hat4 with h | h
                · exact .inl h
                · right; omega
              have HR := Lib.hid (HF.out w4 _ hown4 ⟨_, ((Below.refl _ _).alloc (Nat.le_refl _) _).alloc (by simp) _, by simp; omega, hg4, hob⟩)
              clear HF HO2 hown4 hg4 hat4 hob
              go_wp2_with fail
              go_roundw
              case rel => have hr := HR.out; rwa [List.length_append] at hr
              case measure => simp [intOf]; omega
          · have hkk : k = C.length := by omega
            subst hkk
            have hown5 : OwnV w.heap.size wr u5 (itL l (t.kids.take (i + 1))) := by
              rw [HT.out]; exact HO.out
            clear HO
            go_wp2_with fail
            go_roundw
            case rel => exact ⟨i + 1, by omega, by go_num, hown5, hbel⟩
            case measure => simp [intOf]; omega
      · have d6 : (u.kind != 6) = true := by simpa using h6
        have HT := Lib.hid (HT1.out h6)
        clear HT1 HT2 h6
        generalize cmT l u = cu at *
        generalize hX : itL l (t.kids.take i) = X at *
        go_wp2_with fail
        refine Calls.mono HCo.out ?_; rintro e w1 ⟨rfl, b1⟩
        have HO1 := Lib.hid (own_below HO.out b1)
        have zs1 := b1.size
        have hb1 := hbel.trans (b1.mono zs)
        clear b1 q0 q1 q2 q3 q4 q5 q6 q7
        go_wp2_with (at_builtin
                     refine wpList_append_own _ rfl _ _ 93 rfl w.heap.size 35 i0 (.agg #[.int .i64 0, .int .i64 0]) 2 16 Tryz.underlying93 HI0.out HZ0.out HZ1.out HZ2.out rfl (by decide) _ _ _ rfl (HO1.out.alloc _)
                       ⟨w1.heap.size, 0, none⟩ 1 1 [.int .i64 cu.1, .int .i64 cu.2] rfl rfl ?c1 ?c2 ?c3 ?c4 ?c5 ?_)
        case c1 =>
          intro j x hj
          match j, hj with
          | 0, hj => simp at hj; subst hj; simp [Addr.add]
          | 1, hj => simp at hj; subst hj; simp [Addr.add]
        case c2 => intro x hx; simp at hx; rcases hx with rfl | rfl <;> rfl
        case c3 => unfold maxLen; omega
        case c4 => omega
        case c5 => simp; omega
        intro v' w4 hown4 hg4 _
        have hown5 : OwnV w.heap.size w4 v' (itL l (t.kids.take (i + 1))) := by
          unfold OwnV
          rw [HT.out, List.length_append, cells2_app]
          exact hown4
        have hb4 : Below w.heap.size w w4 := (hb1.alloc hb1.size _).grown hg4 (by simp; omega) (fun k hk => (HO1.out.lt k hk).1)
        clear hown4 hg4
        go_wp2_with fail
        go_roundw
        case rel => exact ⟨i + 1, by omega, by go_num, hown5, hb4⟩
        case measure => simp [intOf]; omega
    · have hii : i = t.kids.length := by omega
      subst hii
      go_wp2_with fail
      go_ret
      exact ⟨_, rfl, by have := HO.out; rwa [List.take_length] at this, hbel⟩
end Go.Proofs.YthaoalmhhgllmaaGreatDoor
namespace Go.Proofs.YthaoalmhhgllmaaGreatDoor
open Go.RowKit Go.Maps

def fnElem (v : Value) : Option (DataW Unit × List MemPlace) :=
  match v with
  | .func (.func n) a b => if a.size = 0 ∧ b.size = 0 then some (.lit (.int .i64 n), []) else none
  | .nilFunc => some (.nil, [])
  | _ => none
theorem fnElem_func {v : Value} {n : Nat} {ps : List MemPlace} (h : fnElem v = some (.lit (.int .i64 (n : Int)), ps)) : v = .func (.func n) #[] #[] := by
  unfold fnElem at h
  split at h
  · split at h
    · rename_i m a b hs
      have h1 := congrArg Prod.fst (Option.some.inj h)
      injection h1 with h2
      injection h2 with h3 h4
      have hm : m = n := Int.ofNat_inj.1 h4
      subst hm
      rw [Array.eq_empty_of_size_eq_zero hs.1, Array.eq_empty_of_size_eq_zero hs.2]
    · cases h
  · simp at h
  · cases h
theorem fnElem_nil {v : Value} {ps : List MemPlace} (h : fnElem v = some (.nil, ps)) : v = .nilFunc := by
  unfold fnElem at h
  split at h
  · split at h
    · simp at h
    · cases h
  · rfl
  · cases h
theorem actLaw : Keyed Tryz.prog 9 := string_keyed Tryz.underlying9
theorem actZero (w : World) : (zeroValue 87).run Tryz.prog w = .ok .nilFunc w := by kernel_rfl
theorem wpList_insert_own {H : Type} {P : Program} (w : World) {ops : Array Oper} {rest : List Oper} {o : Oper} {a : Act} {Q : Exit → Act → World → Prop}
    (hg : o.guard = none) (m x v : Operand) (t : TypeId) (hop : o.op = Op.insert t m x v)
    (k e : TypeId) (K : Keyed P k) (ht : P.underlying t = some (.map k e)) (R : Value → Option (DataW H × List MemPlace)) (b n : Nat) (D : DataW H)
    (hm : a.eval m = .map (some b)) (hown : w.ownsMap P k R b n D) (hn : n < maxLen) (key val : Value) (kl : Lit) (hx : a.eval x = key) (hv : a.eval v = val) (hkey : keyOf P k key = some kl)
    (d : DataW H) (ps : List MemPlace) (hval : R val = some (d, ps))
    (hK : ∀ w', w'.ownsMap P k R b (n + 1) (D.put kl d) → w.grownBy w' (some b) → wpList P ops Q rest (a.put o.dst undef) w') :
    wpList P ops Q (o :: rest) a w := by
  refine wpList_plain hg fun K' hK' => ?_
  obtain ⟨w', hrun, r1, r2⟩ := hown.update K ht hn hkey hval
  unfold Oper.wp
  simp [execOp, hop, hm, hx, hv, hrun, Result.andThen]
  exact hK' _ _ (hK w' r1 r2)

def tabReckons : DataW Unit := (((((.map [] : DataW Unit).put (.string [43]) (.lit (.int .i64 83))).put (.string [45]) (.lit (.int .i64 84))).put (.string [42]) (.lit (.int .i64 85))).put (.string [47]) (.lit (.int .i64 87)))
def opReckons (l : List UInt8) : Option Nat :=
  if l = [43] then some 83 else if l = [45] then some 84 else if l = [42] then some 85 else if l = [47] then some 87 else none
theorem atReckons_none (l : List UInt8) (h0 : l ≠ [43]) (h1 : l ≠ [45]) (h2 : l ≠ [42]) (h3 : l ≠ [47]) : tabReckons.atKey (.string l) .nil = .nil ∧ has tabReckons (.string l) = false := by
  unfold tabReckons
  constructor
  · rw [atKey_put_other (fun e => h3 (by injection e) : (Lit.string l) ≠ .string [47]), atKey_put_other (fun e => h2 (by injection e) : (Lit.string l) ≠ .string [42]), atKey_put_other (fun e => h1 (by injection e) : (Lit.string l) ≠ .string [45]), atKey_put_other (fun e => h0 (by injection e) : (Lit.string l) ≠ .string [43])]
    rfl
  · rw [has_put_other (fun e => h3 (by injection e) : (Lit.string l) ≠ .string [47]), has_put_other (fun e => h2 (by injection e) : (Lit.string l) ≠ .string [42]), has_put_other (fun e => h1 (by injection e) : (Lit.string l) ≠ .string [45]), has_put_other (fun e => h0 (by injection e) : (Lit.string l) ≠ .string [43])]
    rfl
theorem atReckons (l : List UInt8) : tabReckons.atKey (.string l) .nil = (match opReckons l with | some n => .lit (.int .i64 (n : Int)) | none => .nil) ∧ has tabReckons (.string l) = (opReckons l).isSome := by
  by_cases h0 : l = [43]
  · subst h0; exact ⟨rfl, rfl⟩
  by_cases h1 : l = [45]
  · subst h1; exact ⟨rfl, rfl⟩
  by_cases h2 : l = [42]
  · subst h2; exact ⟨rfl, rfl⟩
  by_cases h3 : l = [47]
  · subst h3; exact ⟨rfl, rfl⟩
  obtain ⟨a1, a2⟩ := atReckons_none l h0 h1 h2 h3
  have e : opReckons l = none := by unfold opReckons; simp only [h0, h1, h2, h3, if_false]
  rw [a1, a2, e]
  exact ⟨rfl, rfl⟩
def fnReckons (l : List UInt8) : Value := match opReckons l with | some n => .func (.func n) #[] #[] | none => .nilFunc
theorem fnReckons_is {v : Value} {ps : List MemPlace} {l : List UInt8} (h : fnElem v = some (tabReckons.atKey (.string l) .nil, ps)) : v = fnReckons l := by
  rw [(atReckons l).1] at h
  unfold fnReckons
  cases ho : opReckons l with
  | none => rw [ho] at h; exact fnElem_nil h
  | some n => rw [ho] at h; exact fnElem_func h
set_option maxHeartbeats 1000000 in
set_option maxRecDepth 10000 in
theorem ureckons_any (s : ByteArray) (hs : s.size ≤ maxLen) (w : World) :
    Calls Tryz.prog 52 #[.string s] w fun e w' => e = .returned (.tuple #[fnReckons s.data.toList, .bool (opReckons s.data.toList).isSome]) ∧ Below w.heap.size w w' := by
  have hmm := @run_makeMap Tryz.prog
  have hmf : ∀ (fn : Fn) (first cap : Array Value) (w : World), (Instr.makeFunc fn first cap).run Tryz.prog w = .ok (.func fn first cap) w := fun _ _ _ _ => rfl
  have hkey := WideMaps.keyOf_string_mk (P := Tryz.prog) Tryz.underlying9 hs
  have hk0 : keyOf Tryz.prog 9 (.string ⟨#[43]⟩) = some (.string [43]) := WideMaps.keyOf_string_mk (P := Tryz.prog) Tryz.underlying9 (by show [43].length ≤ maxLen; unfold maxLen; decide)
  have hk1 : keyOf Tryz.prog 9 (.string ⟨#[45]⟩) = some (.string [45]) := WideMaps.keyOf_string_mk (P := Tryz.prog) Tryz.underlying9 (by show [45].length ≤ maxLen; unfold maxLen; decide)
  have hk2 : keyOf Tryz.prog 9 (.string ⟨#[42]⟩) = some (.string [42]) := WideMaps.keyOf_string_mk (P := Tryz.prog) Tryz.underlying9 (by show [42].length ≤ maxLen; unfold maxLen; decide)
  have hk3 : keyOf Tryz.prog 9 (.string ⟨#[47]⟩) = some (.string [47]) := WideMaps.keyOf_string_mk (P := Tryz.prog) Tryz.underlying9 (by show [47].length ≤ maxLen; unfold maxLen; decide)
  have hown0 := World.ownsMap_made w Tryz.prog 9 fnElem
  have hb0 : Below w.heap.size w (w.alloc (.map #[] 0)) := (Below.refl _ _).alloc (Nat.le_refl _) _
  go_enter Tryz.func52, Tryz.ntmps52
  go_wp2_with (first
    | (refine wpList_insert_own _ rfl _ (.const (.string ⟨#[43]⟩)) (.func 83) 111 rfl 9 87 actLaw Tryz.underlying111 fnElem w.heap.size 0 _ rfl hown0 (by unfold maxLen; decide) _ _ _ rfl rfl hk0 (.lit (.int .i64 83)) [] rfl ?_; intro w1 hown1 hg1; have hb1 := hb0.grown hg1 hb0.size (fun j hj => by cases hj; exact Nat.le_refl _))
    | (refine wpList_insert_own _ rfl _ (.const (.string ⟨#[45]⟩)) (.func 84) 111 rfl 9 87 actLaw Tryz.underlying111 fnElem w.heap.size 1 _ rfl hown1 (by unfold maxLen; decide) _ _ _ rfl rfl hk1 (.lit (.int .i64 84)) [] rfl ?_; intro w2 hown2 hg2; have hb2 := hb1.grown hg2 hb1.size (fun j hj => by cases hj; exact Nat.le_refl _))
    | (refine wpList_insert_own _ rfl _ (.const (.string ⟨#[42]⟩)) (.func 85) 111 rfl 9 87 actLaw Tryz.underlying111 fnElem w.heap.size 2 _ rfl hown2 (by unfold maxLen; decide) _ _ _ rfl rfl hk2 (.lit (.int .i64 85)) [] rfl ?_; intro w3 hown3 hg3; have hb3 := hb2.grown hg3 hb2.size (fun j hj => by cases hj; exact Nat.le_refl _))
    | (refine wpList_insert_own _ rfl _ (.const (.string ⟨#[47]⟩)) (.func 87) 111 rfl 9 87 actLaw Tryz.underlying111 fnElem w.heap.size 3 _ rfl hown3 (by unfold maxLen; decide) _ _ _ rfl rfl hk3 (.lit (.int .i64 87)) [] rfl ?_; intro w4 hown4 hg4; have hb4 := hb3.grown hg4 hb3.size (fun j hj => by cases hj; exact Nat.le_refl _))
    | (refine wpList_lookup_own_ok _ rfl _ _ 111 rfl 9 87 actLaw Tryz.underlying111 fnElem (actZero _) .nil [] rfl w.heap.size 4 tabReckons rfl hown4 _ _ rfl hkey ?_; intro v ps hv; have hv2 := fnReckons_is hv; subst hv2; rw [(atReckons _).2])
    | fail)
  go_ret2
  exact ⟨rfl, hb4⟩

def tabCompares : DataW Unit := (((((((.map [] : DataW Unit).put (.string [60]) (.lit (.int .i64 89))).put (.string [60, 61]) (.lit (.int .i64 91))).put (.string [61]) (.lit (.int .i64 92))).put (.string [60, 62]) (.lit (.int .i64 93))).put (.string [62, 61]) (.lit (.int .i64 94))).put (.string [62]) (.lit (.int .i64 95)))
def opCompares (l : List UInt8) : Option Nat :=
  if l = [60] then some 89 else if l = [60, 61] then some 91 else if l = [61] then some 92 else if l = [60, 62] then some 93 else if l = [62, 61] then some 94 else if l = [62] then some 95 else none
theorem atCompares_none (l : List UInt8) (h0 : l ≠ [60]) (h1 : l ≠ [60, 61]) (h2 : l ≠ [61]) (h3 : l ≠ [60, 62]) (h4 : l ≠ [62, 61]) (h5 : l ≠ [62]) : tabCompares.atKey (.string l) .nil = .nil ∧ has tabCompares (.string l) = false := by
  unfold tabCompares
  constructor
  · rw [atKey_put_other (fun e => h5 (by injection e) : (Lit.string l) ≠ .string [62]), atKey_put_other (fun e => h4 (by injection e) : (Lit.string l) ≠ .string [62, 61]), atKey_put_other (fun e => h3 (by injection e) : (Lit.string l) ≠ .string [60, 62]), atKey_put_other (fun e => h2 (by injection e) : (Lit.string l) ≠ .string [61]), atKey_put_other (fun e => h1 (by injection e) : (Lit.string l) ≠ .string [60, 61]), atKey_put_other (fun e => h0 (by injection e) : (Lit.string l) ≠ .string [60])]
    rfl
  · rw [has_put_other (fun e => h5 (by injection e) : (Lit.string l) ≠ .string [62]), has_put_other (fun e => h4 (by injection e) : (Lit.string l) ≠ .string [62, 61]), has_put_other (fun e => h3 (by injection e) : (Lit.string l) ≠ .string [60, 62]), has_put_other (fun e => h2 (by injection e) : (Lit.string l) ≠ .string [61]), has_put_other (fun e => h1 (by injection e) : (Lit.string l) ≠ .string [60, 61]), has_put_other (fun e => h0 (by injection e) : (Lit.string l) ≠ .string [60])]
    rfl
theorem atCompares (l : List UInt8) : tabCompares.atKey (.string l) .nil = (match opCompares l with | some n => .lit (.int .i64 (n : Int)) | none => .nil) ∧ has tabCompares (.string l) = (opCompares l).isSome := by
  by_cases h0 : l = [60]
  · subst h0; exact ⟨rfl, rfl⟩
  by_cases h1 : l = [60, 61]
  · subst h1; exact ⟨rfl, rfl⟩
  by_cases h2 : l = [61]
  · subst h2; exact ⟨rfl, rfl⟩
  by_cases h3 : l = [60, 62]
  · subst h3; exact ⟨rfl, rfl⟩
  by_cases h4 : l = [62, 61]
  · subst h4; exact ⟨rfl, rfl⟩
  by_cases h5 : l = [62]
  · subst h5; exact ⟨rfl, rfl⟩
  obtain ⟨a1, a2⟩ := atCompares_none l h0 h1 h2 h3 h4 h5
  have e : opCompares l = none := by unfold opCompares; simp only [h0, h1, h2, h3, h4, h5, if_false]
  rw [a1, a2, e]
  exact ⟨rfl, rfl⟩
def fnCompares (l : List UInt8) : Value := match opCompares l with | some n => .func (.func n) #[] #[] | none => .nilFunc
theorem fnCompares_is {v : Value} {ps : List MemPlace} {l : List UInt8} (h : fnElem v = some (tabCompares.atKey (.string l) .nil, ps)) : v = fnCompares l := by
  rw [(atCompares l).1] at h
  unfold fnCompares
  cases ho : opCompares l with
  | none => rw [ho] at h; exact fnElem_nil h
  | some n => rw [ho] at h; exact fnElem_func h
set_option maxHeartbeats 1000000 in
set_option maxRecDepth 10000 in
theorem ucompares_any (s : ByteArray) (hs : s.size ≤ maxLen) (w : World) :
    Calls Tryz.prog 53 #[.string s] w fun e w' => e = .returned (.tuple #[fnCompares s.data.toList, .bool (opCompares s.data.toList).isSome]) ∧ Below w.heap.size w w' := by
  have hmm := @run_makeMap Tryz.prog
  have hmf : ∀ (fn : Fn) (first cap : Array Value) (w : World), (Instr.makeFunc fn first cap).run Tryz.prog w = .ok (.func fn first cap) w := fun _ _ _ _ => rfl
  have hkey := WideMaps.keyOf_string_mk (P := Tryz.prog) Tryz.underlying9 hs
  have hk0 : keyOf Tryz.prog 9 (.string ⟨#[60]⟩) = some (.string [60]) := WideMaps.keyOf_string_mk (P := Tryz.prog) Tryz.underlying9 (by show [60].length ≤ maxLen; unfold maxLen; decide)
  have hk1 : keyOf Tryz.prog 9 (.string ⟨#[60, 61]⟩) = some (.string [60, 61]) := WideMaps.keyOf_string_mk (P := Tryz.prog) Tryz.underlying9 (by show [60, 61].length ≤ maxLen; unfold maxLen; decide)
  have hk2 : keyOf Tryz.prog 9 (.string ⟨#[61]⟩) = some (.string [61]) := WideMaps.keyOf_string_mk (P := Tryz.prog) Tryz.underlying9 (by show [61].length ≤ maxLen; unfold maxLen; decide)
  have hk3 : keyOf Tryz.prog 9 (.string ⟨#[60, 62]⟩) = some (.string [60, 62]) := WideMaps.keyOf_string_mk (P := Tryz.prog) Tryz.underlying9 (by show [60, 62].length ≤ maxLen; unfold maxLen; decide)
  have hk4 : keyOf Tryz.prog 9 (.string ⟨#[62, 61]⟩) = some (.string [62, 61]) := WideMaps.keyOf_string_mk (P := Tryz.prog) Tryz.underlying9 (by show [62, 61].length ≤ maxLen; unfold maxLen; decide)
  have hk5 : keyOf Tryz.prog 9 (.string ⟨#[62]⟩) = some (.string [62]) := WideMaps.keyOf_string_mk (P := Tryz.prog) Tryz.underlying9 (by show [62].length ≤ maxLen; unfold maxLen; decide)
  have hown0 := World.ownsMap_made w Tryz.prog 9 fnElem
  have hb0 : Below w.heap.size w (w.alloc (.map #[] 0)) := (Below.refl _ _).alloc (Nat.le_refl _) _
  go_enter Tryz.func53, Tryz.ntmps53
  go_wp2_with (first
    | (refine wpList_insert_own _ rfl _ (.const (.string ⟨#[60]⟩)) (.func 89) 111 rfl 9 87 actLaw Tryz.underlying111 fnElem w.heap.size 0 _ rfl hown0 (by unfold maxLen; decide) _ _ _ rfl rfl hk0 (.lit (.int .i64 89)) [] rfl ?_; intro w1 hown1 hg1; have hb1 := hb0.grown hg1 hb0.size (fun j hj => by cases hj; exact Nat.le_refl _))
    | (refine wpList_insert_own _ rfl _ (.const (.string ⟨#[60, 61]⟩)) (.func 91) 111 rfl 9 87 actLaw Tryz.underlying111 fnElem w.heap.size 1 _ rfl hown1 (by unfold maxLen; decide) _ _ _ rfl rfl hk1 (.lit (.int .i64 91)) [] rfl ?_; intro w2 hown2 hg2; have hb2 := hb1.grown hg2 hb1.size (fun j hj => by cases hj; exact Nat.le_refl _))
    | (refine wpList_insert_own _ rfl _ (.const (.string ⟨#[61]⟩)) (.func 92) 111 rfl 9 87 actLaw Tryz.underlying111 fnElem w.heap.size 2 _ rfl hown2 (by unfold maxLen; decide) _ _ _ rfl rfl hk2 (.lit (.int .i64 92)) [] rfl ?_; intro w3 hown3 hg3; have hb3 := hb2.grown hg3 hb2.size (fun j hj => by cases hj; exact Nat.le_refl _))
    | (refine wpList_insert_own _ rfl _ (.const (.string ⟨#[60, 62]⟩)) (.func 93) 111 rfl 9 87 actLaw Tryz.underlying111 fnElem w.heap.size 3 _ rfl hown3 (by unfold maxLen; decide) _ _ _ rfl rfl hk3 (.lit (.int .i64 93)) [] rfl ?_; intro w4 hown4 hg4; have hb4 := hb3.grown hg4 hb3.size (fun j hj => by cases hj; exact Nat.le_refl _))
    | (refine wpList_insert_own _ rfl _ (.const (.string ⟨#[62, 61]⟩)) (.func 94) 111 rfl 9 87 actLaw Tryz.underlying111 fnElem w.heap.size 4 _ rfl hown4 (by unfold maxLen; decide) _ _ _ rfl rfl hk4 (.lit (.int .i64 94)) [] rfl ?_; intro w5 hown5 hg5; have hb5 := hb4.grown hg5 hb4.size (fun j hj => by cases hj; exact Nat.le_refl _))
    | (refine wpList_insert_own _ rfl _ (.const (.string ⟨#[62]⟩)) (.func 95) 111 rfl 9 87 actLaw Tryz.underlying111 fnElem w.heap.size 5 _ rfl hown5 (by unfold maxLen; decide) _ _ _ rfl rfl hk5 (.lit (.int .i64 95)) [] rfl ?_; intro w6 hown6 hg6; have hb6 := hb5.grown hg6 hb5.size (fun j hj => by cases hj; exact Nat.le_refl _))
    | (refine wpList_lookup_own_ok _ rfl _ _ 111 rfl 9 87 actLaw Tryz.underlying111 fnElem (actZero _) .nil [] rfl w.heap.size 6 tabCompares rfl hown6 _ _ rfl hkey ?_; intro v ps hv; have hv2 := fnCompares_is hv; subst hv2; rw [(atCompares _).2])
    | fail)
  go_ret2
  exact ⟨rfl, hb6⟩

end Go.Proofs.YthaoalmhhgllmaaGreatDoor
namespace Go.Proofs.YthaoalmhhgllmaaGreatDoor
open Go.RowKit

theorem do_num {l : List UInt8} {n f m g : Int} {p : Int × Int} (h : vOp l n m = some p) : doNum l n f m g = bothN p f g ∧ doFault l n f m g = bothF p f g ∧ (vOp l n m).isSome = true := by
  unfold doNum doFault bothN bothF
  rw [h]
  exact ⟨rfl, by simp [oFault], rfl⟩
theorem do_none {l : List UInt8} {n f m g : Int} (h : vOp l n m = none) : doNum l n f m g = 0 ∧ doFault l n f m g = 0 ∧ (vOp l n m).isSome = false := by
  unfold doNum doFault
  rw [h]
  exact ⟨by simp [oNum], rfl, rfl⟩
theorem actReckons (l : List UInt8) (n : Nat) (h : opReckons l = some n) : ∃ G, ActC n G ∧ ∀ a b, vOp l a b = some (G a b) := by
  by_cases h0 : l = [43]
  · subst h0; obtain rfl : 83 = n := Option.some.inj h; exact ⟨_, act_add, fun _ _ => rfl⟩
  by_cases h1 : l = [45]
  · subst h1; obtain rfl : 84 = n := Option.some.inj h; exact ⟨_, act_sub, fun _ _ => rfl⟩
  by_cases h2 : l = [42]
  · subst h2; obtain rfl : 85 = n := Option.some.inj h; exact ⟨_, act_mul, fun _ _ => rfl⟩
  by_cases h3 : l = [47]
  · subst h3; obtain rfl : 87 = n := Option.some.inj h; exact ⟨_, act_div, fun _ _ => rfl⟩
  unfold opReckons at h
  simp only [h0, h1, h2, h3, if_false] at h
  cases h
theorem actCompares (l : List UInt8) (n : Nat) (h : opCompares l = some n) : ∃ G, ActC n G ∧ ∀ a b, vOp l a b = some (G a b) := by
  by_cases h0 : l = [60]
  · subst h0; obtain rfl : 89 = n := Option.some.inj h; exact ⟨_, act_lt, fun _ _ => rfl⟩
  by_cases h1 : l = [60, 61]
  · subst h1; obtain rfl : 91 = n := Option.some.inj h; exact ⟨_, act_le, fun _ _ => rfl⟩
  by_cases h2 : l = [61]
  · subst h2; obtain rfl : 92 = n := Option.some.inj h; exact ⟨_, act_eq, fun _ _ => rfl⟩
  by_cases h3 : l = [60, 62]
  · subst h3; obtain rfl : 93 = n := Option.some.inj h; exact ⟨_, act_ne, fun _ _ => rfl⟩
  by_cases h4 : l = [62, 61]
  · subst h4; obtain rfl : 94 = n := Option.some.inj h; exact ⟨_, act_ge, fun _ _ => rfl⟩
  by_cases h5 : l = [62]
  · subst h5; obtain rfl : 95 = n := Option.some.inj h; exact ⟨_, act_gt, fun _ _ => rfl⟩
  unfold opCompares at h
  simp only [h0, h1, h2, h3, h4, h5, if_false] at h
  cases h
theorem act_none (l : List UInt8) (h : opReckons l = none) (h' : opCompares l = none) (a b : Int) : vOp l a b = none := by
  by_cases h0 : l = [43]
  · subst h0; exact absurd h (by decide)
  by_cases h1 : l = [45]
  · subst h1; exact absurd h (by decide)
  by_cases h2 : l = [42]
  · subst h2; exact absurd h (by decide)
  by_cases h3 : l = [47]
  · subst h3; exact absurd h (by decide)
  by_cases h4 : l = [60]
  · subst h4; exact absurd h' (by decide)
  by_cases h5 : l = [60, 61]
  · subst h5; exact absurd h' (by decide)
  by_cases h6 : l = [61]
  · subst h6; exact absurd h' (by decide)
  by_cases h7 : l = [60, 62]
  · subst h7; exact absurd h' (by decide)
  by_cases h8 : l = [62, 61]
  · subst h8; exact absurd h' (by decide)
  by_cases h9 : l = [62]
  · subst h9; exact absurd h' (by decide)
  unfold vOp
  simp only [h0, h1, h2, h3, h4, h5, h6, h7, h8, h9, if_false]

set_option maxHeartbeats 1000000 in
set_option maxRecDepth 10000 in
theorem udo_any (s : ByteArray) (hs : s.size ≤ maxLen) (n f m g : Int) (hn : B64 n) (hm : B64 m) (w : World) :
    Calls Tryz.prog 31 #[.string s, .agg #[.int .i64 n, .int .i64 f], .agg #[.int .i64 m, .int .i64 g]] w fun e w' =>
      e = .returned (.tuple #[.agg #[.int .i64 (doNum s.data.toList n f m g), .int .i64 (doFault s.data.toList n f m g)], .bool (vOp s.data.toList n m).isSome]) ∧ Below w.heap.size w w' := by
  have H := ureckons_any s hs
  have K := ucompares_any s hs
  unfold fnReckons at H
  unfold fnCompares at K
  cases ho : opReckons s.data.toList with
  | some k =>
    obtain ⟨G, hA, hG⟩ := actReckons _ _ ho
    obtain ⟨e1, e2, e3⟩ := do_num (l := s.data.toList) (f := f) (g := g) (hG n m)
    rw [e1, e2, e3]
    have HB := Lib.hid (uboth_any hA n f m g hn hm)
    rw [ho] at H
    have HH := Lib.hid H
    simp only [Option.isSome_some] at HH
    generalize bothN (G n m) f g = X at *
    generalize bothF (G n m) f g = Y at *
    clear H K ho hA hG e1 e2 e3 hn hm
    go_enter Tryz.func31, Tryz.ntmps31
    go_wp2_with fail
    refine (HH.out _).mono ?_; rintro e w1 ⟨rfl, b1⟩
    have a10 := keep_cell b1 (p := ⟨w.heap.size, 0, none⟩) (v := .int .i64 n) (by simp [go_sem])
    have a11 := keep_cell b1 (p := ⟨w.heap.size, 1, none⟩) (v := .int .i64 f) (by simp [go_sem])
    have c10 := keep_cell b1 (p := ⟨w.heap.size + 1, 0, none⟩) (v := .int .i64 m) (by simp [go_sem])
    have c11 := keep_cell b1 (p := ⟨w.heap.size + 1, 1, none⟩) (v := .int .i64 g) (by simp [go_sem])
    have k10 := keep_cell b1 (p := ⟨w.heap.size + 1 + 1, 0, none⟩) (v := .int .i64 0) (by simp [go_sem])
    have f10 := keep_frozen b1 (p := ⟨w.heap.size + 1 + 1, 0, none⟩) (by simp) (by simp [go_sem])
    have k11 := keep_cell b1 (p := ⟨w.heap.size + 1 + 1, 1, none⟩) (v := .int .i64 0) (by simp [go_sem])
    have f11 := keep_frozen b1 (p := ⟨w.heap.size + 1 + 1, 1, none⟩) (by simp) (by simp [go_sem])
    have h1 : Below w.heap.size w w1 := ((((Below.refl _ _).alloc (Nat.le_refl _) _).alloc (by simp) _).alloc (by simp; omega) _).trans (b1.mono (by simp; omega))
    have z1 : w.heap.size + 1 + 1 < w1.heap.size := Lib.lt_of_cell k10
    clear b1
    have y1 : w.heap.size + 1 < w1.heap.size := by omega
    have x1 : w.heap.size < w1.heap.size := by omega
    go_wp2_with fail
    refine (HB.out _).mono ?_; rintro e w2 ⟨rfl, b2⟩
    have a20 := keep_cell b2 a10
    have a21 := keep_cell b2 a11
    have c20 := keep_cell b2 c10
    have c21 := keep_cell b2 c11
    have k20 := keep_cell b2 k10
    have f20 := keep_frozen b2 z1 f10
    have k21 := keep_cell b2 k11
    have f21 := keep_frozen b2 z1 f11
    have h2 := h1.trans (b2.mono h1.size)
    have z2 : w.heap.size + 1 + 1 < w2.heap.size := Lib.lt_of_cell k20
    clear b2 h1 z1 a10 a11 c10 c11 k10 k11 f10 f11
    have y2 : w.heap.size + 1 < w2.heap.size := by omega
    have x2 : w.heap.size < w2.heap.size := by omega
    go_wp2_with fail
    exact bodyPost_ret (v := .tuple #[.agg #[.int .i64 X, .int .i64 Y], .bool true]) (by simp [results, Tryz.results31, go_sem, k20, k21]) rfl
      ⟨rfl, (h2.setCell (by simp; omega) _).setCell (by simp; omega) _⟩
  | none =>
    rw [ho] at H
    have HH := Lib.hid H
    simp only [Option.isSome_none] at HH
    clear H
    cases hc : opCompares s.data.toList with
    | some k =>
      obtain ⟨G, hA, hG⟩ := actCompares _ _ hc
      obtain ⟨e1, e2, e3⟩ := do_num (l := s.data.toList) (f := f) (g := g) (hG n m)
      rw [e1, e2, e3]
      have HB := Lib.hid (uboth_any hA n f m g hn hm)
      rw [hc] at K
      have HK := Lib.hid K
      simp only [Option.isSome_some] at HK
      generalize bothN (G n m) f g = X at *
      generalize bothF (G n m) f g = Y at *
      clear K ho hc hA hG e1 e2 e3 hn hm
      go_enter Tryz.func31, Tryz.ntmps31
      go_wp2_with fail
      refine (HH.out _).mono ?_; rintro e w1 ⟨rfl, b1⟩
      have a10 := keep_cell b1 (p := ⟨w.heap.size, 0, none⟩) (v := .int .i64 n) (by simp [go_sem])
      have a11 := keep_cell b1 (p := ⟨w.heap.size, 1, none⟩) (v := .int .i64 f) (by simp [go_sem])
      have c10 := keep_cell b1 (p := ⟨w.heap.size + 1, 0, none⟩) (v := .int .i64 m) (by simp [go_sem])
      have c11 := keep_cell b1 (p := ⟨w.heap.size + 1, 1, none⟩) (v := .int .i64 g) (by simp [go_sem])
      have k10 := keep_cell b1 (p := ⟨w.heap.size + 1 + 1, 0, none⟩) (v := .int .i64 0) (by simp [go_sem])
      have f10 := keep_frozen b1 (p := ⟨w.heap.size + 1 + 1, 0, none⟩) (by simp) (by simp [go_sem])
      have k11 := keep_cell b1 (p := ⟨w.heap.size + 1 + 1, 1, none⟩) (v := .int .i64 0) (by simp [go_sem])
      have f11 := keep_frozen b1 (p := ⟨w.heap.size + 1 + 1, 1, none⟩) (by simp) (by simp [go_sem])
      have h1 : Below w.heap.size w w1 := ((((Below.refl _ _).alloc (Nat.le_refl _) _).alloc (by simp) _).alloc (by simp; omega) _).trans (b1.mono (by simp; omega))
      have z1 : w.heap.size + 1 + 1 < w1.heap.size := Lib.lt_of_cell k10
      clear b1
      have y1 : w.heap.size + 1 < w1.heap.size := by omega
      have x1 : w.heap.size < w1.heap.size := by omega
      go_wp2_with fail
      refine (HK.out _).mono ?_; rintro e w2 ⟨rfl, b2⟩
      have a20 := keep_cell b2 a10
      have a21 := keep_cell b2 a11
      have c20 := keep_cell b2 c10
      have c21 := keep_cell b2 c11
      have k20 := keep_cell b2 k10
      have f20 := keep_frozen b2 z1 f10
      have k21 := keep_cell b2 k11
      have f21 := keep_frozen b2 z1 f11
      have h2 := h1.trans (b2.mono h1.size)
      have z2 : w.heap.size + 1 + 1 < w2.heap.size := Lib.lt_of_cell k20
      clear b2 h1 z1 a10 a11 c10 c11 k10 k11 f10 f11
      have y2 : w.heap.size + 1 < w2.heap.size := by omega
      have x2 : w.heap.size < w2.heap.size := by omega
      go_wp2_with fail
      refine (HB.out _).mono ?_; rintro e w3 ⟨rfl, b3⟩
      have a30 := keep_cell b3 a20
      have a31 := keep_cell b3 a21
      have c30 := keep_cell b3 c20
      have c31 := keep_cell b3 c21
      have k30 := keep_cell b3 k20
      have f30 := keep_frozen b3 z2 f20
      have k31 := keep_cell b3 k21
      have f31 := keep_frozen b3 z2 f21
      have h3 := h2.trans (b3.mono h2.size)
      have z3 : w.heap.size + 1 + 1 < w3.heap.size := Lib.lt_of_cell k30
      clear b3 h2 z2 a20 a21 c20 c21 k20 k21 f20 f21
      have y3 : w.heap.size + 1 < w3.heap.size := by omega
      have x3 : w.heap.size < w3.heap.size := by omega
      go_wp2_with fail
      exact bodyPost_ret (v := .tuple #[.agg #[.int .i64 X, .int .i64 Y], .bool true]) (by simp [results, Tryz.results31, go_sem, k30, k31]) rfl
        ⟨rfl, (h3.setCell (by simp; omega) _).setCell (by simp; omega) _⟩
    | none =>
      obtain ⟨e1, e2, e3⟩ := do_none (f := f) (g := g) (act_none _ ho hc n m)
      rw [e1, e2, e3]
      rw [hc] at K
      have HK := Lib.hid K
      simp only [Option.isSome_none] at HK
      clear K ho hc e1 e2 e3 hn hm
      go_enter Tryz.func31, Tryz.ntmps31
      go_wp2_with fail
      refine (HH.out _).mono ?_; rintro e w1 ⟨rfl, b1⟩
      have a10 := keep_cell b1 (p := ⟨w.heap.size, 0, none⟩) (v := .int .i64 n) (by simp [go_sem])
      have a11 := keep_cell b1 (p := ⟨w.heap.size, 1, none⟩) (v := .int .i64 f) (by simp [go_sem])
      have c10 := keep_cell b1 (p := ⟨w.heap.size + 1, 0, none⟩) (v := .int .i64 m) (by simp [go_sem])
      have c11 := keep_cell b1 (p := ⟨w.heap.size + 1, 1, none⟩) (v := .int .i64 g) (by simp [go_sem])
      have k10 := keep_cell b1 (p := ⟨w.heap.size + 1 + 1, 0, none⟩) (v := .int .i64 0) (by simp [go_sem])
      have f10 := keep_frozen b1 (p := ⟨w.heap.size + 1 + 1, 0, none⟩) (by simp) (by simp [go_sem])
      have k11 := keep_cell b1 (p := ⟨w.heap.size + 1 + 1, 1, none⟩) (v := .int .i64 0) (by simp [go_sem])
      have f11 := keep_frozen b1 (p := ⟨w.heap.size + 1 + 1, 1, none⟩) (by simp) (by simp [go_sem])
      have h1 : Below w.heap.size w w1 := ((((Below.refl _ _).alloc (Nat.le_refl _) _).alloc (by simp) _).alloc (by simp; omega) _).trans (b1.mono (by simp; omega))
      have z1 : w.heap.size + 1 + 1 < w1.heap.size := Lib.lt_of_cell k10
      clear b1
      have y1 : w.heap.size + 1 < w1.heap.size := by omega
      have x1 : w.heap.size < w1.heap.size := by omega
      go_wp2_with fail
      refine (HK.out _).mono ?_; rintro e w2 ⟨rfl, b2⟩
      have a20 := keep_cell b2 a10
      have a21 := keep_cell b2 a11
      have c20 := keep_cell b2 c10
      have c21 := keep_cell b2 c11
      have k20 := keep_cell b2 k10
      have f20 := keep_frozen b2 z1 f10
      have k21 := keep_cell b2 k11
      have f21 := keep_frozen b2 z1 f11
      have h2 := h1.trans (b2.mono h1.size)
      have z2 : w.heap.size + 1 + 1 < w2.heap.size := Lib.lt_of_cell k20
      clear b2 h1 z1 a10 a11 c10 c11 k10 k11 f10 f11
      have y2 : w.heap.size + 1 < w2.heap.size := by omega
      have x2 : w.heap.size < w2.heap.size := by omega
      go_wp2_with fail
      exact bodyPost_ret (v := .tuple #[.agg #[.int .i64 0, .int .i64 0], .bool false]) (by simp [results, Tryz.results31, go_sem, k20, k21]) rfl
        ⟨rfl, (h2.setCell (by simp; omega) _).setCell (by simp; omega) _⟩

set_option maxHeartbeats 1000000 in
theorem uneg_any (n f : Int) (hn : B64 n) (w : World) :
    Calls Tryz.prog 30 #[.agg #[.int .i64 n, .int .i64 f]] w fun e w' => e = .returned (.agg #[.int .i64 (doNum [45] 0 0 n f), .int .i64 (doFault [45] 0 0 n f)]) ∧ Below w.heap.size w w' := by
  have e0 : vOp [45] 0 n = some (vTold (-n)) := by
    show some (vTold (0 - n)) = _
    rw [show (0 : Int) - n = -n from by omega]
  obtain ⟨e1, e2, _⟩ := do_num (f := 0) (g := f) e0
  rw [e1, e2]
  have H := Lib.hid (uboth_any act_neg 0 0 n f (by unfold B64; omega) hn)
  have hmf : ∀ (fn : Fn) (first cap : Array Value) (w : World), (Instr.makeFunc fn first cap).run Tryz.prog w = .ok (.func fn first cap) w := fun _ _ _ _ => rfl
  clear hn e0 e1 e2
  generalize bothN (vTold (-n)) 0 f = X at *
  generalize bothF (vTold (-n)) 0 f = Y at *
  go_enter Tryz.func30, Tryz.ntmps30
  go_wp2_with fail
  refine (H.out _).mono ?_; rintro e w1 ⟨rfl, b1⟩
  have k0 := keep_cell b1 (p := ⟨w.heap.size + 1, 0, none⟩) (v := .int .i64 0) (by simp [go_sem])
  have k1 := keep_cell b1 (p := ⟨w.heap.size + 1, 1, none⟩) (v := .int .i64 0) (by simp [go_sem])
  have f0 := keep_frozen b1 (p := ⟨w.heap.size + 1, 0, none⟩) (by simp) (by simp [go_sem])
  have f1 := keep_frozen b1 (p := ⟨w.heap.size + 1, 1, none⟩) (by simp) (by simp [go_sem])
  have h1 : Below w.heap.size w w1 := (((Below.refl _ _).alloc (Nat.le_refl _) _).alloc (by simp) _).trans (b1.mono (by simp; omega))
  clear b1
  go_wp2_with fail
  exact bodyPost_ret (v := .agg #[.int .i64 X, .int .i64 Y]) (by simp [results, Tryz.results30, go_sem, k0, k1]) rfl ⟨rfl, (h1.setCell (by simp) _).setCell (by simp) _⟩
end Go.Proofs.YthaoalmhhgllmaaGreatDoor
