/- Texts joined: ShA, ShB, ShC, EvA, OpR, RefHa, TaA, CeA, FrameE, RefIa, CeB, UaE. -/
import Derived.Test.YthaoalmhhgllmaaGreatDoorMb06
import Derived.Test.YthaoalmhhgllmaaGreatDoorMb01
import Derived.Test.YthaoalmhhgllmaaGreatDoorMb02
import Derived.Test.YthaoalmhhgllmaaGreatDoorProg
import Derived.WalkKit
import Derived.OpenShut
import Derived.Deep.Slices
import Derived.Deep.SlicePairs
import Derived.ChangeSame
import Derived.Test.YthaoalmhhgllmaaGreatDoorMb05
import Derived.Deep.QuietTactic
import Derived.BigQuiet
import Derived.Test.YthaoalmhhgllmaaGreatDoorRows
import Derived.ProofKit
import Derived.Lib.SmallJoins
import Derived.Deep.DeepHandedRow
import Derived.Lib.LaidTab
import Derived.Stop.LaidErr
import Derived.LaidLaws
import Derived.Lib.LaidIn
import Derived.Deep.RegionWith
import Derived.Deep.CutRange
import Derived.OwnWalk
import Derived.Deep.Onto
import Derived.Deep.RegionHeld3
import Derived.Deep.AppendLies
import Derived.Maps.OwnSet
set_option linter.all false
namespace Go.Proofs.YthaoalmhhgllmaaGreatDoor
def hasP (a b c d x y : Int) : Bool := (rightB a b && rightB c d && (decide (a ≤ c) && decide (b ≤ d))) && decide (a ≤ x ∧ x ≤ c ∧ b ≤ y ∧ y ≤ d)
mutual
def usT (x y : Int) : Tr → Bool
  | .mk k _ c r d s _ ks => if k = 1 ∨ k = 6 then hasP c r d s x y else usL x y ks
def usL (x y : Int) : List Tr → Bool
  | [] => false
  | t :: ts => usT x y t || usL x y ts
end
mutual
def cnK (kd : Int) : Tr → Nat
  | .mk k _ _ _ _ _ _ ks => (if k = kd then 1 else 0) + cnKL kd ks
def cnKL (kd : Int) : List Tr → Nat
  | [] => 0
  | t :: ts => cnK kd t + cnKL kd ts
end
theorem may_kids {k n c r d s : Int} {w : List UInt8} {ks : List Tr} (h : mayB (.mk k n c r d s w ks) = true) : ∀ t ∈ ks, mayB t = true := by
  rw [mayB] at h
  unfold onlyB at h
  by_cases h0 : k = 0
  · subst h0; simp at h; rw [h.1.2.2]; intro t ht; cases ht
  by_cases h1 : k = 1
  · subst h1; simp at h; rw [h.1.2.2]; intro t ht; cases ht
  by_cases h2 : k = 2
  · subst h2; simp at h; rw [h.2.2.2]; intro t ht; cases ht
  by_cases h6 : k = 6
  · subst h6; simp at h; rw [h.1.2.2]; intro t ht; cases ht
  by_cases h3 : k = 3
  · subst h3; simp at h; exact fun t ht => (all_mem h.2 t ht).1
  by_cases h4 : k = 4
  · subst h4; simp at h; exact fun t ht => (all_mem h.2.1 t ht).1
  by_cases h5 : k = 5
  · subst h5
    rw [if_neg (by decide), if_neg (by decide), if_neg (by decide), if_neg (by decide), if_neg (by decide), if_neg (by decide), if_pos rfl, Bool.and_eq_true] at h
    obtain ⟨_, h⟩ := h
    rw [Bool.and_eq_true] at h
    exact fun t ht => (all_mem h.1 t ht).1
  · rw [if_neg h0, if_neg h1, if_neg h2, if_neg h6, if_neg h3, if_neg h4, if_neg h5] at h
    cases h
end Go.Proofs.YthaoalmhhgllmaaGreatDoor
namespace Go.Proofs.YthaoalmhhgllmaaGreatDoor
mutual
theorem us_right {u v : Int} : ∀ {t : Tr}, usT u v t = true → rightB u v = true
  | .mk k _ c r d s _ ks, h => by
    rw [usT] at h
    split at h
    · unfold hasP rightB at h
      unfold rightB
      simp at h ⊢
      omega
    · exact usL_right h
theorem usL_right {u v : Int} : ∀ {l : List Tr}, usL u v l = true → rightB u v = true
  | [], h => by rw [usL] at h; cases h
  | t :: ts, h => by
    rw [usL, Bool.or_eq_true] at h
    rcases h with h | h
    · exact us_right h
    · exact usL_right h
end
def rdI (t : Tr) : List Int := ((List.range 1024).filter fun (j : Nat) => usT ((j : Int) % 16) ((j : Int) / 16) t).map fun (j : Nat) => (j : Int)
theorem mem_rdI {t : Tr} {z : Int} : z ∈ rdI t ↔ 0 ≤ z ∧ z ≤ 1023 ∧ usT (z % 16) (z / 16) t = true := by
  unfold rdI
  rw [List.mem_map]
  constructor
  · rintro ⟨j, hj, rfl⟩
    obtain ⟨h1, h2⟩ := List.mem_filter.1 hj
    have := List.mem_range.1 h1
    exact ⟨by omega, by omega, h2⟩
  · rintro ⟨h0, h1, h2⟩
    refine ⟨z.toNat, List.mem_filter.2 ⟨List.mem_range.2 (by omega), ?_⟩, by omega⟩
    rw [show ((z.toNat : Nat) : Int) = z from by omega]
    exact h2
end Go.Proofs.YthaoalmhhgllmaaGreatDoor
namespace Go.Proofs.YthaoalmhhgllmaaGreatDoor
def rdr (t : Tr) : Bool := t.kind == 1 || t.kind == 6
theorem rdr_whole {t : Tr} (h : mayB t = true) (hr : rdr t = true) : (rightB t.c1 t.r1 && rightB t.c2 t.r2 && (decide (t.c1 ≤ t.c2) && decide (t.r1 ≤ t.r2))) = true := by
  cases t with
  | mk k n c r d s w ks =>
    unfold rdr at hr
    simp only [Tr.kind, Bool.or_eq_true, beq_iff_eq] at hr
    rw [mayB] at h
    unfold onlyB at h
    simp only [Tr.c1, Tr.r1, Tr.c2, Tr.r2]
    rcases hr with rfl | rfl
    · simp at h ⊢
      obtain ⟨_, h1, rfl, rfl⟩ := h
      first | exact ⟨⟨h1, h1⟩, Int.le_refl _, Int.le_refl _⟩ | (rw [h1]; simp)
    · simp at h ⊢
      obtain ⟨_, ⟨⟨a, b⟩, e⟩, f⟩ := h
      first | exact ⟨⟨a, b⟩, e, f⟩ | (rw [a, b, decide_eq_true e, decide_eq_true f]; simp) | simp [a, b, e, f]
end Go.Proofs.YthaoalmhhgllmaaGreatDoor
namespace Go.Proofs.YthaoalmhhgllmaaGreatDoor
open Go.RowKit
structure Cel where
  c : Int
  r : Int
  n : Int
  f : Int
def aloneV (q : Cel) : Int × Int := (if q.f = 0 then q.n else 0, q.f)
def cAt (x y : Int) : List Cel → Option (Int × Int)
  | [] => none
  | q :: l => if q.c = x ∧ q.r = y then some (aloneV q) else cAt x y l
def cVal (x y : Int) (l : List Cel) : Int × Int := (cAt x y l).getD (0, 0)
def cIn (l : List Cel) (a b c d : Int) : List (Int × Int) := (cellsTo a b c d 1024).filterMap fun p => cAt p.1 p.2 l
mutual
def cmT (l : List Cel) : Tr → Int × Int
  | .mk k n c r _ _ w ks =>
    if k = 0 then (n, 0)
    else if k = 1 then cVal c r l
    else if k = 3 then (doNum [45] 0 0 ((cmL l ks).getD 0 (0, 0)).1 ((cmL l ks).getD 0 (0, 0)).2, doFault [45] 0 0 ((cmL l ks).getD 0 (0, 0)).1 ((cmL l ks).getD 0 (0, 0)).2)
    else if k = 4 then (doNum w ((cmL l ks).getD 0 (0, 0)).1 ((cmL l ks).getD 0 (0, 0)).2 ((cmL l ks).getD 1 (0, 0)).1 ((cmL l ks).getD 1 (0, 0)).2, doFault w ((cmL l ks).getD 0 (0, 0)).1 ((cmL l ks).getD 0 (0, 0)).2 ((cmL l ks).getD 1 (0, 0)).1 ((cmL l ks).getD 1 (0, 0)).2)
    else if k = 5 then
      if w = [73, 70] then
        if ((cmL l ks).getD 0 (0, 0)).2 ≠ 0 then (cmL l ks).getD 0 (0, 0)
        else if ((cmL l ks).getD 0 (0, 0)).1 ≠ 0 then (cmL l ks).getD 1 (0, 0)
        else (cmL l ks).getD 2 (0, 0)
      else if w = [83, 85, 77] then allV gAdd (0, 0) (itL l ks)
      else if w = [77, 73, 78] then mostV gLow (itL l ks)
      else if w = [77, 65, 88] then mostV gTop (itL l ks)
      else if (ks.any fun u => u.kind == 2) = true then (0, 3)
      else (((itL l ks).length : Int), 0)
    else (0, 3)
def cmL (l : List Cel) : List Tr → List (Int × Int)
  | [] => []
  | t :: ts => cmT l t :: cmL l ts
def itL (l : List Cel) : List Tr → List (Int × Int)
  | [] => []
  | t :: ts => (if t.kind = 6 then cIn l t.c1 t.r1 t.c2 t.r2 else [cmT l t]) ++ itL l ts
end
def ofV (l : List Cel) (t : Tr) : Int × Int := if rightP t = true then cmT l t else (0, 3)

theorem cmL_at {l : List Cel} : ∀ {ks : List Tr} {i : Nat} {u : Tr}, ks[i]? = some u → (cmL l ks).getD i (0, 0) = cmT l u
  | [], i, u, h => by simp at h
  | t :: ts, 0, u, h => by rw [cmL]; simp at h; subst h; rfl
  | t :: ts, i + 1, u, h => by rw [cmL]; simp at h; rw [List.getD_cons_succ]; exact cmL_at h
theorem itL_app {l : List Cel} : ∀ (a b : List Tr), itL l (a ++ b) = itL l a ++ itL l b
  | [], b => by rw [itL]; rfl
  | t :: ts, b => by rw [List.cons_append, itL, itL, itL_app ts b, List.append_assoc]
theorem itL_take {l : List Cel} {ks : List Tr} {i : Nat} {u : Tr} (h : ks[i]? = some u) : itL l (ks.take (i + 1)) = itL l (ks.take i) ++ (if u.kind = 6 then cIn l u.c1 u.r1 u.c2 u.r2 else [cmT l u]) := by
  rw [List.take_add_one, h, itL_app]
  show itL l (ks.take i) ++ itL l [u] = _
  rw [itL, itL, List.append_nil]
theorem cm_num {l : List Cel} {t : Tr} (h : t.kind = 0) : cmT l t = (t.num, 0) := by
  obtain ⟨k, n, c, r, d, s, w, ks⟩ := t; rw [cmT]; exact if_pos h
theorem cm_read {l : List Cel} {t : Tr} (h : t.kind = 1) : cmT l t = cVal t.c1 t.r1 l := by
  obtain ⟨k, n, c, r, d, s, w, ks⟩ := t
  have e : k = 1 := h
  subst e; rw [cmT]; rfl
theorem cm_neg {l : List Cel} {t u : Tr} (h : t.kind = 3) (h0 : t.kids[0]? = some u) : cmT l t = (doNum [45] 0 0 (cmT l u).1 (cmT l u).2, doFault [45] 0 0 (cmT l u).1 (cmT l u).2) := by
  obtain ⟨k, n, c, r, d, s, w, ks⟩ := t
  have e : k = 3 := h
  subst e
  rw [cmT, cmL_at (l := l) (ks := ks) h0]; rfl
theorem cm_op {l : List Cel} {t u v : Tr} (h : t.kind = 4) (h0 : t.kids[0]? = some u) (h1 : t.kids[1]? = some v) :
    cmT l t = (doNum t.word (cmT l u).1 (cmT l u).2 (cmT l v).1 (cmT l v).2, doFault t.word (cmT l u).1 (cmT l u).2 (cmT l v).1 (cmT l v).2) := by
  obtain ⟨k, n, c, r, d, s, w, ks⟩ := t
  have e : k = 4 := h
  subst e
  rw [cmT, cmL_at (l := l) (ks := ks) h0, cmL_at (l := l) (ks := ks) h1]; rfl
theorem cm_if {l : List Cel} {t a b c : Tr} (h : t.kind = 5) (hw : t.word = [73, 70]) (h0 : t.kids[0]? = some a) (h1 : t.kids[1]? = some b) (h2 : t.kids[2]? = some c) :
    cmT l t = if (cmT l a).2 ≠ 0 then cmT l a else if (cmT l a).1 ≠ 0 then cmT l b else cmT l c := by
  obtain ⟨k, n, c', r, d, s, w, ks⟩ := t
  have e : k = 5 := h
  have e2 : w = [73, 70] := hw
  subst e e2
  rw [cmT, cmL_at (l := l) (ks := ks) h0, cmL_at (l := l) (ks := ks) h1, cmL_at (l := l) (ks := ks) h2]; rfl
theorem cm_sum {l : List Cel} {t : Tr} (h : t.kind = 5) (hw : t.word = [83, 85, 77]) : cmT l t = allV gAdd (0, 0) (itL l t.kids) := by
  obtain ⟨k, n, c, r, d, s, w, ks⟩ := t
  have e : k = 5 := h
  have e2 : w = [83, 85, 77] := hw
  subst e e2; rw [cmT]; rfl
theorem cm_min {l : List Cel} {t : Tr} (h : t.kind = 5) (hw : t.word = [77, 73, 78]) : cmT l t = mostV gLow (itL l t.kids) := by
  obtain ⟨k, n, c, r, d, s, w, ks⟩ := t
  have e : k = 5 := h
  have e2 : w = [77, 73, 78] := hw
  subst e e2; rw [cmT]; rfl
theorem cm_max {l : List Cel} {t : Tr} (h : t.kind = 5) (hw : t.word = [77, 65, 88]) : cmT l t = mostV gTop (itL l t.kids) := by
  obtain ⟨k, n, c, r, d, s, w, ks⟩ := t
  have e : k = 5 := h
  have e2 : w = [77, 65, 88] := hw
  subst e e2; rw [cmT]; rfl
theorem cm_count {l : List Cel} {t : Tr} (h : t.kind = 5) (hw : t.word = [67, 79, 85, 78, 84]) : cmT l t = if (t.kids.any fun u => u.kind == 2) = true then (0, 3) else (((itL l t.kids).length : Int), (0 : Int)) := by
  obtain ⟨k, n, c, r, d, s, w, ks⟩ := t
  have e : k = 5 := h
  have e2 : w = [67, 79, 85, 78, 84] := hw
  subst e e2; rw [cmT]; rfl
theorem cm_bad {l : List Cel} {t : Tr} (h : t.kind = 2 ∨ t.kind = 6) : cmT l t = (0, 3) := by
  obtain ⟨k, n, c, r, d, s, w, ks⟩ := t
  rcases h with h | h
  · have e : k = 2 := h
    subst e; rw [cmT]; rfl
  · have e : k = 6 := h
    subst e; rw [cmT]; rfl
theorem cIn_le (l : List Cel) (a b c d : Int) : (cIn l a b c d).length ≤ 1024 := by
  unfold cIn
  refine Nat.le_trans (List.length_filterMap_le _ _) ?_
  unfold cellsTo
  refine Nat.le_trans (by rw [List.length_map]; exact List.length_filter_le _ _) ?_
  rw [List.length_range]; exact Nat.le_refl _
theorem itL_le (l : List Cel) : ∀ ks : List Tr, (itL l ks).length ≤ 1024 * ks.length
  | [] => by rw [itL]; exact Nat.zero_le _
  | t :: ts => by
    rw [itL, List.length_append, List.length_cons]
    have h1 := itL_le l ts
    have h2 : (if t.kind = 6 then cIn l t.c1 t.r1 t.c2 t.r2 else [cmT l t]).length ≤ 1024 := by
      split
      · exact cIn_le _ _ _ _ _
      · simp
    omega
end Go.Proofs.YthaoalmhhgllmaaGreatDoor
namespace Go.Proofs.YthaoalmhhgllmaaGreatDoor
open Go.ChangeShapes Go.WideShapes Go.RowKit Go.Deep
section
variable {H : Type} {enc : TypeId × Value → H} {w : World} {base : Nat} {spare : Nat → Bool} {held : Bool}
def AtR {α : Type} (f : α → List Value) (k : Nat) (w : World) (g o : Nat) (l : List α) : Prop := ∀ (i : Nat) (q : α), l[i]? = some q → ∀ (j : Nat) (u : Value), (f q)[j]? = some u → w.cell? ⟨g, o + i * k + j, none⟩ = some u
set_option maxRecDepth 100000 in
theorem open_rows {α : Type} [Inhabited α] {r : Reach} {b0 : Nat} {v : Value} {d : DataW H} {p : List MemPlace} {ts te : TypeId} {k : Nat} (f : α → List Value) (Ok : α → Prop) (hf : ∀ q, (f q).length = k)
    (hts : Tryz.prog.underlying ts = some (.slice te)) (hk : Tryz.prog.cellsOf te = k) (hk0 : 0 < k)
    (hel : ∀ {fuel : Nat} {cs : List Value} {x : DataW H × List MemPlace}, cs.length = k → DataW.trod enc Tryz.prog w base spare held fuel te cs = some x → ∃ q, cs = f q ∧ Ok q)
    (hv : Value.okWide Tryz.prog w r b0 ts v) (h : DataW.Trod enc Tryz.prog w base spare held ts v d p) :
    ∃ (l : List α) (A : Option Addr) (cap : Nat), v = .slice A l.length cap ∧ l.length ≤ maxLen ∧ (∀ q ∈ l, Ok q) ∧ (l ≠ [] → ∃ g o, A = some ⟨g, o, none⟩ ∧ AtR f k w g o l) := by
  obtain ⟨a0, len, cap, rfl⟩ := okWide_slice hts hv
  obtain ⟨fuel, hfu⟩ := h
  rcases DataW.trod_slice hts hfu with ⟨e5, _⟩ | ⟨ad, len', cap', el, rs, n4, rfl, e5, _, _, hlc, hcm, hle, helem, _, _⟩
  · simp [Value.cells] at e5
    obtain ⟨rfl, rfl, rfl⟩ := e5
    exact ⟨([] : List α), none, 0, rfl, by simp, by simp, fun hh => absurd rfl hh⟩
  · simp [Value.cells] at e5
    obtain ⟨rfl, rfl, rfl⟩ := e5
    have key : ∀ i, i < len → ∃ q : α, (∀ (j : Nat) (u : Value), (f q)[j]? = some u → w.cell? ((ad.add (i * k)).add j) = some u) ∧ Ok q := by
      intro i hi
      have h1 := helem i hi
      rw [hk] at h1
      obtain ⟨y, hy⟩ : ∃ y, el[i]? = some y := ⟨el[i]'(by omega), List.getElem?_eq_getElem (by omega)⟩
      rw [hy] at h1
      obtain ⟨ce, hce, hte⟩ := Option.bind_eq_some_iff.1 h1
      obtain ⟨_, hcl, hcell⟩ := World.cells?_some hce
      obtain ⟨q, rfl, hq⟩ := hel hcl hte
      refine ⟨q, fun j u hj => ?_, hq⟩
      have hjl : j < k := by rw [← hf q]; exact (List.getElem?_eq_some_iff.1 hj).1
      rw [hcell j hjl]; exact hj
    obtain ⟨Q, hQ⟩ := choose_lt key
    refine ⟨(List.range len).map Q, some ad, cap, by simp, by simp; omega, fun q hq => ?_, fun hne => ?_⟩
    · obtain ⟨i, hi, rfl⟩ := List.mem_map.1 hq
      exact (hQ i (List.mem_range.1 hi)).2
    · have hpos : 0 < len := by
        cases len with
        | zero => simp at hne
        | succ k => omega
      obtain ⟨g, o, spot⟩ := ad
      have hspot : spot = none := by
        obtain ⟨u, hu⟩ : ∃ u, (f (Q 0))[0]? = some u := ⟨(f (Q 0))[0]'(by rw [hf]; exact hk0), List.getElem?_eq_getElem (by rw [hf]; exact hk0)⟩
        have h00 := (hQ 0 hpos).1 0 u hu
        simpa [Addr.add] using World.cell?_spot h00
      subst hspot
      refine ⟨g, o, rfl, fun i q hi j u hj => ?_⟩
      have hlt : i < len := by
        have := (List.getElem?_eq_some_iff.1 hi).1
        simpa using this
      have hq : Q i = q := by simpa [hlt] using hi
      have := (hQ i hlt).1 j u (by rw [hq]; exact hj)
      rwa [add_plain, add_plain] at this
end
end Go.Proofs.YthaoalmhhgllmaaGreatDoor
namespace Go.Proofs.YthaoalmhhgllmaaGreatDoor
open Go.RowKit
def At2 (w : World) (g : Nat) (l : List (Int × Int)) : Prop := ∀ (i : Nat) (x y : Int), l[i]? = some (x, y) → w.cell? ⟨g, i * 2, none⟩ = some (.int .i64 x) ∧ w.cell? ⟨g, i * 2 + 1, none⟩ = some (.int .i64 y)
theorem cells2_at : ∀ (l : List (Int × Int)) (i : Nat) (x y : Int), l[i]? = some (x, y) → (cells2 l)[i * 2]? = some (.int .i64 x) ∧ (cells2 l)[i * 2 + 1]? = some (.int .i64 y)
  | [], i, x, y, h => by simp at h
  | p :: t, 0, x, y, h => by
    simp at h; subst h
    exact ⟨rfl, rfl⟩
  | p :: t, i + 1, x, y, h => by
    have := cells2_at t i x y (by simpa using h)
    have e1 : (i + 1) * 2 = i * 2 + 2 := by omega
    have e : cells2 (p :: t) = .int .i64 p.1 :: .int .i64 p.2 :: cells2 t := rfl
    rw [e, e1, List.getElem?_cons_succ, List.getElem?_cons_succ, List.getElem?_cons_succ, List.getElem?_cons_succ]
    exact this
theorem at2_of_own {w : World} {base g cap : Nat} {l : List (Int × Int)} (h : w.ownsRow base 24 2 (.slice (some ⟨g, 0, none⟩) l.length cap) l.length (cells2 l)) : At2 w g l := by
  intro i x y hi
  have hlt : i < l.length := (List.getElem?_eq_some_iff.1 hi).1
  obtain ⟨h1, h2⟩ := cells2_at l i x y hi
  exact ⟨(h.cellAt (i * 2) (by omega)).trans h1, (h.cellAt (i * 2 + 1) (by omega)).trans h2⟩

theorem placeGuard : Tryz.prog.eqGuardType Tryz.prog.depth 24 = false := by kernel_rfl
theorem placeStood : Tryz.prog.stoodInHeld 24 = false := by kernel_rfl
theorem placeStruct : Tryz.prog.underlying 24 = some (.struct (Tryz.prog.fieldsOf 24)) := by kernel_rfl
theorem guard_place (op : BinOp) (X Y : Operand) (xs ys : Array Value) (W : World) : (eqGuard op 24 X Y (.agg xs) (.agg ys)).run Tryz.prog W = .ok () W := run_eqGuard_agg W op 24 X Y xs ys placeGuard
end Go.Proofs.YthaoalmhhgllmaaGreatDoor
namespace Go.Proofs.YthaoalmhhgllmaaGreatDoor
open Go.ChangeShapes Go.WideShapes Go.RowKit Go.Deep
theorem laidOutT : laidOutB Tryz.prog = true := by kernel_rfl
theorem cells_tree : Tryz.prog.cellsOf 29 = 8 := by kernel_rfl
theorem cells_kind : Tryz.prog.cellsOf 22 = 1 := by kernel_rfl
theorem cells_int : Tryz.prog.cellsOf 3 = 1 := by kernel_rfl
theorem cells_range : Tryz.prog.cellsOf 26 = 4 := by kernel_rfl
theorem cells_place : Tryz.prog.cellsOf 24 = 2 := by kernel_rfl
theorem cells_str : Tryz.prog.cellsOf 9 = 1 := by kernel_rfl
theorem cells_kids : Tryz.prog.cellsOf 27 = 1 := by kernel_rfl
def leaf0 : Tr := .mk 2 0 0 0 0 0 [] []
section
variable {H : Type} {enc : TypeId × Value → H} {w : World} {base : Nat} {spare : Nat → Bool} {held : Bool}
theorem trodPlace {fuel : Nat} {cs : List Value} {x : DataW H × List MemPlace} (hl : cs.length = 2) (h : DataW.trod enc Tryz.prog w base spare held fuel 24 cs = some x) :
    ∃ a b : Int, cs = [.int .i64 a, .int .i64 b] := by
  match cs, hl with
  | [c0, c1], _ =>
    obtain ⟨y0, y1, n, rfl, _, hy0, hy1⟩ := trod_struct2 Tryz.underlying24 h
    simp only [cells_int] at hy0 hy1
    obtain ⟨a, e0, rfl, wa⟩ := DataW.trod_int Tryz.underlying3 hy0
    obtain ⟨b, e1, rfl, wb⟩ := DataW.trod_int Tryz.underlying3 hy1
    simp at e0 e1
    subst e0 e1
    exact ⟨a, b, rfl⟩
theorem le_of_wf {n : Int} (h : (Lit.int .i64 n).wf = true) : n ≤ 9223372036854775807 := by
  have e1 : IntKind.i64.min = -9223372036854775808 := rfl
  have e2 : IntKind.i64.max = 9223372036854775807 := rfl
  simp [Lit.wf, e1, e2] at h
  exact h.2
theorem words_of (s : ByteArray) : s = ⟨s.data.toList.toArray⟩ := by cases s; simp
set_option maxRecDepth 100000 in
set_option maxHeartbeats 2000000 in
theorem tree_of_trod : ∀ (fuel : Nat) {cs : List Value} {x : DataW H × List MemPlace}, DataW.trod enc Tryz.prog w base spare held fuel 29 cs = some x →
    ∃ (t : Tr) (A : Option Addr) (cap : Nat), cs = [.int .i64 t.kind, .int .i64 t.num, .int .i64 t.c1, .int .i64 t.r1, .int .i64 t.c2, .int .i64 t.r2, .string ⟨t.word.toArray⟩, .slice A t.kids.length cap] ∧ KV w (fun _ => True) t A ∧ Wid t ∧ Fit t := by
  intro fuel
  induction fuel using Nat.strongRecOn with
  | ind fuel ih =>
  intro cs x h
  obtain ⟨xs, n, rfl, rfl, hcl, hxl, hf⟩ := DataW.trod_struct Tryz.underlying29 h
  rw [cells_tree] at hcl
  obtain ⟨c0, c1, c2, c3, c4, c5, c6, c7, rfl⟩ : ∃ c0 c1 c2 c3 c4 c5 c6 c7, cs = [c0, c1, c2, c3, c4, c5, c6, c7] := by
    match cs, hcl with
    | [a, b, c, d, e, f, g, h], _ => exact ⟨a, b, c, d, e, f, g, h, rfl⟩
  match xs, hxl with
  | [y0, y1, y2, y3, y4], _ =>
  have g0 : DataW.trod enc Tryz.prog w base spare held n 22 [c0] = some y0 := by have := hf 0 _ rfl; rw [show ∀ z : TypeId, z = 22 → Tryz.prog.cellsOf z = 1 from fun z hz => by rw [hz]; exact cells_kind] at this; exact this; rfl
  have g1 : DataW.trod enc Tryz.prog w base spare held n 3 [c1] = some y1 := by have := hf 1 _ rfl; rw [show ∀ z : TypeId, z = 3 → Tryz.prog.cellsOf z = 1 from fun z hz => by rw [hz]; exact cells_int] at this; exact this; rfl
  have g2 : DataW.trod enc Tryz.prog w base spare held n 26 [c2, c3, c4, c5] = some y2 := by have := hf 2 _ rfl; rw [show ∀ z : TypeId, z = 26 → Tryz.prog.cellsOf z = 4 from fun z hz => by rw [hz]; exact cells_range] at this; exact this; rfl
  have g3 : DataW.trod enc Tryz.prog w base spare held n 9 [c6] = some y3 := by have := hf 3 _ rfl; rw [show ∀ z : TypeId, z = 9 → Tryz.prog.cellsOf z = 1 from fun z hz => by rw [hz]; exact cells_str] at this; exact this; rfl
  have g4 : DataW.trod enc Tryz.prog w base spare held n 27 [c7] = some y4 := by have := hf 4 _ rfl; rw [show ∀ z : TypeId, z = 27 → Tryz.prog.cellsOf z = 1 from fun z hz => by rw [hz]; exact cells_kids] at this; exact this; rfl
  clear h hf
  obtain ⟨k, e0, _, _⟩ := DataW.trod_int Tryz.underlying22 g0
  obtain ⟨m, e1, _, wm⟩ := DataW.trod_int Tryz.underlying3 g1
  obtain ⟨p0, p1, n2, _, _, h0, h1⟩ := trod_struct2 Tryz.underlying26 g2
  simp only [cells_place] at h0 h1
  obtain ⟨a, b, e2⟩ := trodPlace rfl h0
  obtain ⟨c, d, e3⟩ := trodPlace rfl h1
  obtain ⟨s, e4, _, _⟩ := DataW.trod_string Tryz.underlying9 g3
  simp at e0 e1 e2 e3 e4
  obtain ⟨rfl, rfl⟩ := e2
  obtain ⟨rfl, rfl⟩ := e3
  subst e0 e1 e4
  have hm := le_of_wf wm
  clear g0 g1 g2 g3 h0 h1
  rcases DataW.trod_slice Tryz.underlying27 g4 with ⟨e5, _⟩ | ⟨ad, len, cap, el, rs, n4, rfl, e5, _, _, hlc, hcm, hel, helem, _, _⟩
  · simp at e5
    subst e5
    exact ⟨.mk k m a b c d s.data.toList [], none, 0, by simp [Tr.kind, Tr.num, Tr.c1, Tr.r1, Tr.c2, Tr.r2, Tr.word, Tr.kids], KV.mk (.inl rfl), .mk (Nat.zero_le _) (fun t ht => by cases ht), .mk hm (fun t ht => by cases ht)⟩
  · simp at e5
    subst e5
    have key : ∀ i, i < len → ∃ q : Tr × Option Addr × Nat, (w.cell? (ad.add (i * 8)) = some (.int .i64 q.1.kind) ∧ w.cell? (ad.add (i * 8 + 1)) = some (.int .i64 q.1.num) ∧ w.cell? (ad.add (i * 8 + 2)) = some (.int .i64 q.1.c1) ∧ w.cell? (ad.add (i * 8 + 3)) = some (.int .i64 q.1.r1) ∧
        w.cell? (ad.add (i * 8 + 4)) = some (.int .i64 q.1.c2) ∧ w.cell? (ad.add (i * 8 + 5)) = some (.int .i64 q.1.r2) ∧ w.cell? (ad.add (i * 8 + 6)) = some (.string ⟨q.1.word.toArray⟩) ∧ w.cell? (ad.add (i * 8 + 7)) = some (.slice q.2.1 q.1.kids.length q.2.2)) ∧ KV w (fun _ => True) q.1 q.2.1 ∧ Wid q.1 ∧ Fit q.1 := by
      intro i hi
      have h1 := helem i hi
      rw [cells_tree] at h1
      obtain ⟨y, hy⟩ : ∃ y, el[i]? = some y := ⟨el[i]'(by omega), List.getElem?_eq_getElem (by omega)⟩
      rw [hy] at h1
      obtain ⟨ce, hce, hte⟩ := Option.bind_eq_some_iff.1 h1
      obtain ⟨t, A, ca, rfl, hk, hw, hfi⟩ := ih n4 (by omega) hte
      obtain ⟨_, _, hcell⟩ := World.cells?_some hce
      refine ⟨(t, A, ca), ⟨?_, ?_, ?_, ?_, ?_, ?_, ?_, ?_⟩, hk, hw, hfi⟩
      · have := hcell 0 (by omega); rw [add_add] at this; simpa using this
      · have := hcell 1 (by omega); rw [add_add] at this; simpa using this
      · have := hcell 2 (by omega); rw [add_add] at this; simpa using this
      · have := hcell 3 (by omega); rw [add_add] at this; simpa using this
      · have := hcell 4 (by omega); rw [add_add] at this; simpa using this
      · have := hcell 5 (by omega); rw [add_add] at this; simpa using this
      · have := hcell 6 (by omega); rw [add_add] at this; simpa using this
      · have := hcell 7 (by omega); rw [add_add] at this; simpa using this
    haveI : Inhabited (Tr × Option Addr × Nat) := ⟨(leaf0, none, 0)⟩
    obtain ⟨Q, hQ⟩ := choose_lt key
    have hlen : ((List.range len).map fun i => (Q i).1).length = len := by simp
    refine ⟨.mk k m a b c d s.data.toList ((List.range len).map fun i => (Q i).1), some ad, cap, by simp [Tr.kind, Tr.num, Tr.c1, Tr.r1, Tr.c2, Tr.r2, Tr.word, Tr.kids], KV.mk ?_, .mk (by rw [hlen]; omega) (fun t ht => ?_), .mk hm (fun t ht => ?_)⟩
    · by_cases hz : len = 0
      · left; subst hz; rfl
      · right
        obtain ⟨g, o, spot⟩ := ad
        have h00 := (hQ 0 (by omega)).1.1
        have hspot : spot = none := by simpa [Addr.add] using World.cell?_spot h00
        subst hspot
        refine ⟨g, o, rfl, trivial, ?_, KL.of fun i t hi => ?_⟩
        · rw [add_plain] at h00
          exact Lib.lt_of_cell h00
        · have hi' : ((List.range len).map fun i => (Q i).1)[i]? = some t := hi
          have hlt : i < len := by
            have := (List.getElem?_eq_some_iff.1 hi').1
            simpa using this
          have hq : (Q i).1 = t := by simpa [hlt] using hi'
          obtain ⟨⟨q0, q1, q2, q3, q4, q5, q6, q7⟩, hk, _, _⟩ := hQ i hlt
          rw [add_plain] at q0 q1 q2 q3 q4 q5 q6 q7
          rw [hq] at q0 q1 q2 q3 q4 q5 q6 q7 hk
          refine ⟨(Q i).2.1, (Q i).2.2, ?_, hk⟩
          rw [Nat.mul_comm 8 i]
          exact ⟨q0, q1, q2, q3, q4, q5, q6, q7⟩
    · obtain ⟨i, hi, rfl⟩ := List.mem_map.1 ht
      exact (hQ i (by simpa using hi)).2.2.1
    · obtain ⟨i, hi, rfl⟩ := List.mem_map.1 ht
      exact (hQ i (by simpa using hi)).2.2.2
set_option maxRecDepth 100000 in
theorem open_tree {r : Reach} {b0 : Nat} {v : Value} {d : DataW H} {p : List MemPlace} (hv : Value.okWide Tryz.prog w r b0 29 v) (h : DataW.Trod enc Tryz.prog w base spare held 29 v d p) :
    ∃ (t : Tr) (A : Option Addr) (cap : Nat), v = tv t A cap ∧ KV w (fun _ => True) t A ∧ Wid t ∧ Fit t := by
  obtain ⟨cs, rfl, hsz⟩ := okWide_struct Tryz.underlying29 hv
  obtain ⟨fuel, hf⟩ := h
  obtain ⟨t, A, cap, he, hk, hw, hfi⟩ := tree_of_trod fuel hf
  refine ⟨t, A, cap, ?_, hk, hw, hfi⟩
  unfold tv
  obtain ⟨l⟩ := cs
  simp [Value.cells] at he
  rw [he]
end
end Go.Proofs.YthaoalmhhgllmaaGreatDoor
namespace Go.Proofs.YthaoalmhhgllmaaGreatDoor
open Go.RowKit
def celV (q : Cel) : List Value := [.int .i64 q.c, .int .i64 q.r, .int .i64 q.n, .int .i64 q.f]
def AtC (w : World) (g o : Nat) (l : List Cel) : Prop := AtR celV 4 w g o l
theorem AtC.get {w : World} {g o : Nat} {l : List Cel} (h : AtC w g o l) {i : Nat} {q : Cel} (hi : l[i]? = some q) :
    w.cell? ⟨g, o + i * 4, none⟩ = some (.int .i64 q.c) ∧ w.cell? ⟨g, o + i * 4 + 1, none⟩ = some (.int .i64 q.r) ∧ w.cell? ⟨g, o + i * 4 + 2, none⟩ = some (.int .i64 q.n) ∧ w.cell? ⟨g, o + i * 4 + 3, none⟩ = some (.int .i64 q.f) :=
  ⟨h i q hi 0 _ rfl, h i q hi 1 _ rfl, h i q hi 2 _ rfl, h i q hi 3 _ rfl⟩
theorem AtC.below {w w' : World} {g o : Nat} {l : List Cel} (h : AtC w g o l) (hb : Below w.heap.size w w') : AtC w' g o l := fun i q hi j u hj => keep_cell hb (h i q hi j u hj)
def ListC (w : World) (A : Option Addr) (l : List Cel) : Prop := l ≠ [] → ∃ g o, A = some ⟨g, o, none⟩ ∧ AtC w g o l
theorem ListC.below {w w' : World} {A : Option Addr} {l : List Cel} (h : ListC w A l) (hb : Below w.heap.size w w') : ListC w' A l := fun hl => by
  obtain ⟨g, o, e, hc⟩ := h hl
  exact ⟨g, o, e, hc.below hb⟩
theorem cAt_one {x y : Int} (q : Cel) : cAt x y [q] = if q.c = x ∧ q.r = y then some (aloneV q) else none := by rw [cAt, cAt]
theorem eql_place (x y p q : Int) (W : World) : (binOp .eql 24 (.agg #[.int .i64 x, .int .i64 y]) (.agg #[.int .i64 p, .int .i64 q])).run Tryz.prog W = .ok (.bool (x == p && y == q)) W := by
  rw [run_eql_struct, run_equalIn_agg W 9999 24 _ _ placeStruct placeStood]
  by_cases h1 : x = p <;> by_cases h2 : y = q <;> simp [go_sem, h1, h2]
def oN (o : Option (Int × Int)) : Int := (o.getD (0, 0)).1
def oF (o : Option (Int × Int)) : Int := (o.getD (0, 0)).2
end Go.Proofs.YthaoalmhhgllmaaGreatDoor
namespace Go.Proofs.YthaoalmhhgllmaaGreatDoor
open Go.ChangeShapes Go.WideShapes Go.ChangeAt Go.RowKit
theorem own : ownKnob Tryz.prog.godebug = none := by kernel_rfl
theorem gStr : Tryz.prog.globalNamed "gridiron/syntax.strengths" = some 0 := by kernel_rfl
theorem yStr : (Tryz.prog.globals[0]?).map (·.type) = some 123 := by kernel_rfl
theorem cellsStr : Tryz.prog.cellsOf 9 = 1 := by kernel_rfl
theorem cellsRow : Tryz.prog.cellsOf 122 = 1 := by kernel_rfl
theorem cellsThree : Tryz.prog.cellsOf 123 = 3 := by kernel_rfl
theorem cellsPlace : Tryz.prog.cellsOf 24 = 2 := by kernel_rfl
theorem ba_of_list {s : ByteArray} {l : List UInt8} (h : s.data.toList = l) : s = ⟨l.toArray⟩ := by
  obtain ⟨d⟩ := s
  simp only at h
  rw [← h]
theorem strs_of_trod {w : World} {fuel : Nat} {c : Value} {y : DataW Unit × List MemPlace} {l : List ByteArray} (hl : 0 < l.length)
    (h : DataW.trod (fun _ => ()) Tryz.prog w 0 (fun _ => true) false fuel 122 [c] = some y) (hy : y.1 = .slice (l.map fun s => .lit (.string s.data.toList)) []) :
    ∃ g o cap, c = .slice (some ⟨g, o, none⟩) l.length cap ∧ SAt w g o l := by
  rcases DataW.trod_slice Tryz.underlying122 h with ⟨_, hx⟩ | ⟨a, len, cap, el, rs, m, rfl, hcs, hx, _, hlc, _, hel, helem, hsp, _⟩
  · rw [hx] at hy; cases hy
  rw [hx] at hy
  simp only [DataW.slice.injEq] at hy
  obtain ⟨eE, eR⟩ := hy
  have hlen : len = l.length := by
    have := congrArg List.length eE
    simp at this
    omega
  have hcell : ∀ i (s : ByteArray), l[i]? = some s → w.cell? (a.add i) = some (.string s) := by
    intro i s hi
    have hil : i < l.length := (List.getElem?_eq_some_iff.1 hi).1
    have h1 := helem i (by omega)
    rw [cellsStr] at h1
    obtain ⟨b, hb⟩ : ∃ b, el[i]? = some b := ⟨el[i]'(by omega), List.getElem?_eq_getElem (by omega)⟩
    rw [hb] at h1
    obtain ⟨ce, hce, hte⟩ := Option.bind_eq_some_iff.1 h1
    obtain ⟨z, hz, hbz, _⟩ := DataW.trod_string Tryz.underlying9 hte
    have hb1 : b.1 = .lit (.string s.data.toList) := by
      have h5 : (el.map (·.1))[i]? = some b.1 := by rw [List.getElem?_map, hb]; rfl
      rw [eE, List.getElem?_map, hi] at h5
      exact (Option.some.inj h5).symm
    rw [hbz] at hb1
    simp only [DataW.lit.injEq, Lit.string.injEq] at hb1
    have hzs : z = s := by
      have := ba_of_list hb1
      rw [this]
    obtain ⟨_, _, hcc⟩ := World.cells?_some hce
    have := hcc 0 (by omega)
    rw [hz] at this
    simp only [Nat.mul_one] at this
    have e1 : (a.add i).add 0 = a.add i := by simp [Addr.add]
    rw [e1] at this
    rw [this, hzs]
    rfl
  obtain ⟨R, o, sR⟩ := a
  obtain ⟨s0, hs0⟩ : ∃ s, l[0]? = some s := ⟨l[0]'hl, List.getElem?_eq_getElem hl⟩
  have h00 := hcell 0 s0 hs0
  have hspot : sR = none := by simpa [Addr.add] using World.cell?_spot h00
  subst hspot
  refine ⟨R, o, cap, ?_, fun j s hj => ?_⟩
  · simp only [List.cons.injEq, and_true] at hcs
    rw [hcs, hlen]
  · have := hcell j s hj
    rwa [add_plain] at this
theorem strs_of {w : World} {r : List (String × DataW Unit)} (h : laidMet Tryz.prog (("gridiron/syntax.strengths", Rows.laid_gridiron_syntax_strengths) :: r) w) : Strs w.heap.size w.heap.size w := by
  obtain ⟨ps, ⟨g, t, cs, fuel, p, q, hg, ht, hvar, hd, _, _⟩, _⟩ := h
  obtain rfl := Option.some.inj (gStr.symm.trans hg)
  obtain rfl := Option.some.inj (yStr.symm.trans ht)
  obtain ⟨l⟩ := cs
  cases fuel with
  | zero => simp [DataW.trod] at hd
  | succ fuel =>
    simp only [DataW.trod, Tryz.underlying123, cellsThree, cellsRow] at hd
    split at hd
    · rename_i hl
      obtain ⟨c0, c1, c2, rfl⟩ : ∃ c0 c1 c2, l = [c0, c1, c2] := by
        match l, hl with
        | [a, b, c], _ => exact ⟨a, b, c, rfl⟩
      have e : List.range 3 = [0, 1, 2] := rfl
      rw [e] at hd
      simp only [Option.map_eq_some_iff, List.mapM_cons, List.mapM_nil, Option.bind_eq_bind, Option.bind_eq_some_iff, Option.pure_def, Option.some.injEq] at hd
      obtain ⟨xs, ⟨y0, h0, _, ⟨y1, h1, _, ⟨y2, h2, _, rfl, rfl⟩, rfl⟩, rfl⟩, hx⟩ := hd
      have hx1 := congrArg Prod.fst hx
      simp only [Rows.laid_gridiron_syntax_strengths, List.map_cons, List.map_nil, DataW.agg.injEq, List.cons.injEq, and_true] at hx1
      obtain ⟨e0, e1, e2⟩ := hx1
      obtain ⟨g0, o0, k0, rfl, a0⟩ := strs_of_trod (l := strL 0) (by decide) h0 e0
      obtain ⟨g1, o1, k1, rfl, a1⟩ := strs_of_trod (l := strL 1) (by decide) h1 e1
      obtain ⟨g2, o2, k2, rfl, a2⟩ := strs_of_trod (l := strL 2) (by decide) h2 e2
      have v0 := World.var?_cell hg hvar 0
      have v1 := World.var?_cell hg hvar 1
      have v2 := World.var?_cell hg hvar 2
      have hG : 0 < w.heap.size := Lib.lt_of_cell v0
      have l0 : g0 < w.heap.size := Lib.lt_of_cell (a0 0 _ rfl)
      have l1 : g1 < w.heap.size := Lib.lt_of_cell (a1 0 _ rfl)
      have l2 : g2 < w.heap.size := Lib.lt_of_cell (a2 0 _ rfl)
      refine ⟨⟨Nat.ne_of_gt hG, hG⟩, fun i hi => ?_⟩
      match i, hi with
      | 0, _ => exact ⟨g0, o0, k0, ⟨Nat.ne_of_lt l0, l0⟩, v0, a0⟩
      | 1, _ => exact ⟨g1, o1, k1, ⟨Nat.ne_of_lt l1, l1⟩, v1, a1⟩
      | 2, _ => exact ⟨g2, o2, k2, ⟨Nat.ne_of_lt l2, l2⟩, v2, a2⟩
    · cases hd
theorem b64_of_wf {a : Int} (h : (Lit.int .i64 a).wf = true) : B64 a := by
  have e1 : IntKind.i64.min = -9223372036854775808 := rfl
  have e2 : IntKind.i64.max = 9223372036854775807 := rfl
  simp [Lit.wf, e1, e2] at h
  exact h
section
variable {H : Type} {enc : TypeId × Value → H} {w : World} {base : Nat} {spare : Nat → Bool} {held : Bool}
theorem trodTwo {t f g : TypeId} {fuel : Nat} {cs : List Value} {x : DataW H × List MemPlace} {F0 F1 : Field} (ht : Tryz.prog.underlying t = some (.struct #[F0, F1])) (e0 : F0.type = f ∧ F0.offset = 0) (e1 : F1.type = g ∧ F1.offset = 1) (hf : Tryz.prog.underlying f = some (.int .i64)) (hg : Tryz.prog.underlying g = some (.int .i64)) (cf : Tryz.prog.cellsOf f = 1) (cg : Tryz.prog.cellsOf g = 1)
    (hl : cs.length = 2) (h : DataW.trod enc Tryz.prog w base spare held fuel t cs = some x) : ∃ a b : Int, cs = [.int .i64 a, .int .i64 b] ∧ B64 a ∧ B64 b := by
  match cs, hl with
  | [c0, c1], _ =>
    obtain ⟨y0, y1, n, rfl, _, hy0, hy1⟩ := trod_struct2 ht h
    rw [e0.1, e0.2, cf] at hy0
    rw [e1.1, e1.2, cg] at hy1
    obtain ⟨a, h0, rfl, wa⟩ := DataW.trod_int hf hy0
    obtain ⟨b, h1, rfl, wb⟩ := DataW.trod_int hg hy1
    simp at h0 h1
    subst h0 h1
    exact ⟨a, b, rfl, b64_of_wf wa, b64_of_wf wb⟩
theorem cellsFault : Tryz.prog.cellsOf 33 = 1 := by kernel_rfl
theorem cellsInt : Tryz.prog.cellsOf 3 = 1 := by kernel_rfl
theorem cellsVal : Tryz.prog.cellsOf 35 = 2 := by kernel_rfl
theorem cellsCell : Tryz.prog.cellsOf 44 = 4 := by kernel_rfl
set_option maxRecDepth 100000 in
theorem open_cells {r : Reach} {b0 : Nat} {v : Value} {d : DataW H} {p : List MemPlace} (hv : Value.okWide Tryz.prog w r b0 30 v) (h : DataW.Trod enc Tryz.prog w base spare held 30 v d p) :
    ∃ (l : List Cel) (A : Option Addr) (cap : Nat), v = .slice A l.length cap ∧ l.length ≤ maxLen ∧ (∀ q ∈ l, B64 q.n ∧ B64 q.c ∧ B64 q.r) ∧ ListC w A l := by
  haveI : Inhabited Cel := ⟨⟨0, 0, 0, 0⟩⟩
  refine open_rows celV (fun q => B64 q.n ∧ B64 q.c ∧ B64 q.r) (fun _ => rfl) Tryz.underlying30 cellsCell (by decide) (fun {fuel cs x} hl ht => ?_) hv h
  match cs, hl with
  | [c0, c1, c2, c3], _ =>
    obtain ⟨y0, y1, n, rfl, _, hy0, hy1⟩ := trod_struct2 Tryz.underlying44 ht
    simp only [cellsPlace, cellsVal] at hy0 hy1
    obtain ⟨a, b, e1, wa, wb⟩ := trodTwo Tryz.underlying24 ⟨rfl, rfl⟩ ⟨rfl, rfl⟩ Tryz.underlying3 Tryz.underlying3 cellsInt cellsInt rfl hy0
    obtain ⟨c, f, e2, wc, _⟩ := trodTwo Tryz.underlying35 ⟨rfl, rfl⟩ ⟨rfl, rfl⟩ Tryz.underlying3 Tryz.underlying33 cellsInt cellsFault rfl hy1
    simp at e1 e2
    obtain ⟨rfl, rfl⟩ := e1
    obtain ⟨rfl, rfl⟩ := e2
    exact ⟨⟨a, b, c, f⟩, rfl, wc, wa, wb⟩
end
noncomputable def low : Nat := (World.holding Tryz.prog default ⟨#[], #[], []⟩).heap.size
noncomputable def laidWorld (os : Os) : World :=
  let w0 := World.holding Tryz.prog os ⟨#[.cells #[.string ⟨#[60]⟩, .string ⟨#[60, 61]⟩, .string ⟨#[61]⟩, .string ⟨#[60, 62]⟩, .string ⟨#[62, 61]⟩, .string ⟨#[62]⟩] 9, .cells #[.string ⟨#[43]⟩, .string ⟨#[45]⟩] 9, .cells #[.string ⟨#[42]⟩, .string ⟨#[47]⟩] 9], #[], []⟩
  let put (h : Array Obj) (g : Nat) (cs : Array Value) : Array Obj := h.modify g fun
    | .cells _ t frozen => .cells cs t frozen
    | o => o
  { w0 with heap := put w0.heap 0 #[.slice (some ⟨low, 0, none⟩) 6 6, .slice (some ⟨low + 1, 0, none⟩) 2 2, .slice (some ⟨low + 2, 0, none⟩) 2 2] }
set_option maxRecDepth 100000 in
theorem laid_met2 (os : Os) (args : Array Value) : laidMet Tryz.prog Rows.evalReadsRow.laid ((laidWorld os).forCall (fun _ _ => 0) ⟨#[], args, []⟩).memory :=
  laidMet_of_run' 8 (by kernel_rfl) (by kernel_rfl)
end Go.Proofs.YthaoalmhhgllmaaGreatDoor
namespace Go.Proofs.YthaoalmhhgllmaaGreatDoor
open Go.RowKit
def fstOr (l : List (Int × Int)) : Int × Int := l.head?.getD (0, 0)
def lstOr (l : List (Int × Int)) : Int × Int := l.getLast?.getD (0, 0)
theorem fst_snoc (l : List (Int × Int)) (p : Int × Int) : fstOr (l ++ [p]) = if l = [] then p else fstOr l := by
  unfold fstOr; cases l <;> simp
theorem lst_snoc (l : List (Int × Int)) (p : Int × Int) : lstOr (l ++ [p]) = p := by
  unfold lstOr; simp
structure Out4 (w : World) (g : Nat) (l : List (Int × Int)) : Prop where
  c0 : w.cell? ⟨g, 0, none⟩ = some (.int .i64 (fstOr l).1)
  c1 : w.cell? ⟨g, 1, none⟩ = some (.int .i64 (fstOr l).2)
  c2 : w.cell? ⟨g, 2, none⟩ = some (.int .i64 (lstOr l).1)
  c3 : w.cell? ⟨g, 3, none⟩ = some (.int .i64 (lstOr l).2)
  f0 : w.frozen? ⟨g, 0, none⟩ = false
  f1 : w.frozen? ⟨g, 1, none⟩ = false
  f2 : w.frozen? ⟨g, 2, none⟩ = false
  f3 : w.frozen? ⟨g, 3, none⟩ = false
theorem Out4.to {w : World} {o : Nat} {l : List (Int × Int)} (H : Out4 w o l) (hl : l ≠ []) (x y : Int) :
    Out4 ((w.setCell ⟨o, 2, none⟩ (.int .i64 x)).setCell ⟨o, 3, none⟩ (.int .i64 y)) o (l ++ [(x, y)]) := by
  obtain ⟨c0, c1, c2, c3, f0, f1, f2, f3⟩ := H
  have e1 : fstOr (l ++ [(x, y)]) = fstOr l := by rw [fst_snoc, if_neg hl]
  refine ⟨?_, ?_, ?_, ?_, ?_, ?_, ?_, ?_⟩
  · rw [e1]; simp [go_sem, c0]
  · rw [e1]; simp [go_sem, c1]
  · rw [lst_snoc]; simp [go_sem, c2]
  · rw [lst_snoc]; simp [go_sem, c3]
  · simp [go_sem, f0]
  · simp [go_sem, f1]
  · simp [go_sem, f2]
  · simp [go_sem, f3]
theorem at2_below {w w' : World} {B g : Nat} {l : List (Int × Int)} (h : At2 w g l) (hb : Below B w w') (hg : g < B) : At2 w' g l := by
  intro i x y hi
  obtain ⟨h1, h2⟩ := h i x y hi
  exact ⟨by rw [hb.cell (p := ⟨g, i * 2, none⟩) hg]; exact h1, by rw [hb.cell (p := ⟨g, i * 2 + 1, none⟩) hg]; exact h2⟩
end Go.Proofs.YthaoalmhhgllmaaGreatDoor
namespace Go.Proofs.YthaoalmhhgllmaaGreatDoor
open Go.RowKit
def OwnV (base : Nat) (w : World) (v : Value) (L : List (Int × Int)) : Prop := w.ownsRow base 35 2 v L.length (cells2 L)
theorem value_info : (Tryz.prog.info? 35).map (fun i => (i.zero, i.size, i.bytes)) = some (some (.agg #[.int .i64 0, .int .i64 0]), 2, 16) := by kernel_rfl
theorem OwnV.shape {w : World} {base : Nat} {v : Value} {L : List (Int × Int)} (h : OwnV base w v L) :
    ∃ (A : Option Addr) (cap : Nat), v = .slice A L.length cap ∧ ListV w A L := by
  have h' := h
  rcases h.2 with ⟨rfl, hl⟩ | ⟨g, cap, cur, rfl, _, hh, _⟩
  · refine ⟨none, 0, by rw [hl], fun hne => ?_⟩
    exact absurd (List.length_eq_zero_iff.1 hl) hne
  · refine ⟨_, cap, rfl, fun _ => ⟨g, 0, rfl, fun i x y hi => ?_⟩⟩
    have hlt : i < L.length := (List.getElem?_eq_some_iff.1 hi).1
    obtain ⟨h1, h2⟩ := cells2_at L i x y hi
    rw [Nat.zero_add]
    exact ⟨(World.ownsRow.cellAt h' (i * 2) (by omega)).trans h1, (World.ownsRow.cellAt h' (i * 2 + 1) (by omega)).trans h2⟩
theorem own_shapeB {w : World} {base : Nat} {v : Value} {l : List (Int × Int)} (h : w.ownsRow base 24 2 v l.length (cells2 l)) :
    ∃ (A : Option Addr) (cap : Nat), v = .slice A l.length cap ∧ (∀ i, i < l.length → ∃ g, A = some ⟨g, 0, none⟩ ∧ base ≤ g ∧ g < w.heap.size ∧ At2 w g l) := by
  have h' := h
  rcases h.2 with ⟨rfl, hl⟩ | ⟨g, cap, cur, rfl, _, hh, _⟩
  · exact ⟨none, 0, by rw [hl], fun i hi => by omega⟩
  · exact ⟨_, cap, rfl, fun i hi => ⟨g, rfl, (h'.lt g rfl).1, (h'.lt g rfl).2, at2_of_own h'⟩⟩
def fmT (l : List Cel) (C : List (Int × Int)) (k : Nat) : List (Int × Int) := (C.take k).filterMap fun p => cAt p.1 p.2 l
theorem fm_yes {l : List Cel} {C : List (Int × Int)} {k : Nat} {x y : Int} {v : Int × Int} (hi : C[k]? = some (x, y)) (h : cAt x y l = some v) : fmT l C (k + 1) = fmT l C k ++ [v] := by
  unfold fmT
  rw [List.take_add_one, hi, List.filterMap_append]
  show _ ++ [(x, y)].filterMap _ = _
  rw [List.filterMap_cons_some (by exact h)]; rfl
theorem fm_no {l : List Cel} {C : List (Int × Int)} {k : Nat} {x y : Int} (hi : C[k]? = some (x, y)) (h : cAt x y l = none) : fmT l C (k + 1) = fmT l C k := by
  unfold fmT
  rw [List.take_add_one, hi, List.filterMap_append]
  show _ ++ [(x, y)].filterMap _ = _
  rw [List.filterMap_cons_none (by exact h)]; exact List.append_nil _
theorem fm_le (l : List Cel) (C : List (Int × Int)) (k : Nat) : (fmT l C k).length ≤ C.length := by
  unfold fmT
  refine Nat.le_trans (List.length_filterMap_le _ _) ?_
  rw [List.length_take]; exact Nat.min_le_right _ _
def PlA (w : World) (v : Value) (A : Option Addr) (C : List (Int × Int)) : Prop := ∀ i, i < C.length → ∃ g, A = some ⟨g, 0, none⟩ ∧ g < w.heap.size ∧ v.ownBlock ≠ some g ∧ At2 w g C
theorem itL_tk {l : List Cel} {ks : List Tr} {i : Nat} {u : Tr} (hu : ks[i]? = some u) (h6 : u.kind ≠ 6) : itL l (ks.take (i + 1)) = itL l (ks.take i) ++ [cmT l u] := by rw [itL_take hu, if_neg h6]
theorem heap_new1 (w : World) (X : Obj) : (w.alloc X).heap[w.heap.size]? = some X := (MapKept.heap_alloc w X).1
theorem cells2_app (a b : List (Int × Int)) : cells2 (a ++ b) = cells2 a ++ cells2 b := by unfold cells2; exact List.flatMap_append
theorem new2_one (a b : Int) : ∀ u ∈ [Value.int .i64 a, Value.int .i64 b], u.oneCell' = true := by
  intro x hx; simp at hx; rcases hx with rfl | rfl <;> rfl
def Stop (P : Prop) : Prop := P
theorem of_stop {P : Prop} (h : Stop P) : P := h
theorem stop_of {P : Prop} (h : P) : Stop P := h
end Go.Proofs.YthaoalmhhgllmaaGreatDoor
namespace Go.Proofs.YthaoalmhhgllmaaGreatDoor
open Go.RowKit Go.Maps
def fnElem (v : Value) : Option (DataW Unit × List MemPlace) :=
  match v with
  | .func (.func n) a b => if a.size = 0 ∧ b.size = 0 then some (.lit (.int .i64 n), []) else none
  | .nilFunc => some (.nil, [])
  | _ => none
theorem fnElem_func {v : Value} {n : Nat} {ps : List MemPlace} (h : fnElem v = some (.lit (.int .i64 (n : Int)), ps)) : v = .func (.func n) #[] #[] := by
  unfold fnElem at h
  split at h
  · split at h
    · rename_i m a b hs
      have h1 := congrArg Prod.fst (Option.some.inj h)
      injection h1 with h2
      injection h2 with h3 h4
      have hm : m = n := Int.ofNat_inj.1 h4
      subst hm
      rw [Array.eq_empty_of_size_eq_zero hs.1, Array.eq_empty_of_size_eq_zero hs.2]
    · cases h
  · simp at h
  · cases h
theorem fnElem_nil {v : Value} {ps : List MemPlace} (h : fnElem v = some (.nil, ps)) : v = .nilFunc := by
  unfold fnElem at h
  split at h
  · split at h
    · simp at h
    · cases h
  · rfl
  · cases h
theorem actLaw : Keyed Tryz.prog 9 := string_keyed Tryz.underlying9
theorem actZero (w : World) : (zeroValue 87).run Tryz.prog w = .ok .nilFunc w := by kernel_rfl
theorem wpList_insert_own {H : Type} {P : Program} (w : World) {ops : Array Oper} {rest : List Oper} {o : Oper} {a : Act} {Q : Exit → Act → World → Prop}
    (hg : o.guard = none) (m x v : Operand) (t : TypeId) (hop : o.op = Op.insert t m x v)
    (k e : TypeId) (K : Keyed P k) (ht : P.underlying t = some (.map k e)) (R : Value → Option (DataW H × List MemPlace)) (b n : Nat) (D : DataW H)
    (hm : a.eval m = .map (some b)) (hown : w.ownsMap P k R b n D) (hn : n < maxLen) (key val : Value) (kl : Lit) (hx : a.eval x = key) (hv : a.eval v = val) (hkey : keyOf P k key = some kl)
    (d : DataW H) (ps : List MemPlace) (hval : R val = some (d, ps))
    (hK : ∀ w', w'.ownsMap P k R b (n + 1) (D.put kl d) → w.grownBy w' (some b) → wpList P ops Q rest (a.put o.dst undef) w') :
    wpList P ops Q (o :: rest) a w := by
  refine wpList_plain hg fun K' hK' => ?_
  obtain ⟨w', hrun, r1, r2⟩ := hown.update K ht hn hkey hval
  unfold Oper.wp
  simp [execOp, hop, hm, hx, hv, hrun, Result.andThen]
  exact hK' _ _ (hK w' r1 r2)

def tabReckons : DataW Unit := (((((.map [] : DataW Unit).put (.string [43]) (.lit (.int .i64 83))).put (.string [45]) (.lit (.int .i64 84))).put (.string [42]) (.lit (.int .i64 85))).put (.string [47]) (.lit (.int .i64 87)))
def opReckons (l : List UInt8) : Option Nat :=
  if l = [43] then some 83 else if l = [45] then some 84 else if l = [42] then some 85 else if l = [47] then some 87 else none
theorem atReckons_none (l : List UInt8) (h0 : l ≠ [43]) (h1 : l ≠ [45]) (h2 : l ≠ [42]) (h3 : l ≠ [47]) : tabReckons.atKey (.string l) .nil = .nil ∧ has tabReckons (.string l) = false := by
  unfold tabReckons
  constructor
  · rw [atKey_put_other (fun e => h3 (by injection e) : (Lit.string l) ≠ .string [47]), atKey_put_other (fun e => h2 (by injection e) : (Lit.string l) ≠ .string [42]), atKey_put_other (fun e => h1 (by injection e) : (Lit.string l) ≠ .string [45]), atKey_put_other (fun e => h0 (by injection e) : (Lit.string l) ≠ .string [43])]
    rfl
  · rw [has_put_other (fun e => h3 (by injection e) : (Lit.string l) ≠ .string [47]), has_put_other (fun e => h2 (by injection e) : (Lit.string l) ≠ .string [42]), has_put_other (fun e => h1 (by injection e) : (Lit.string l) ≠ .string [45]), has_put_other (fun e => h0 (by injection e) : (Lit.string l) ≠ .string [43])]
    rfl
theorem atReckons (l : List UInt8) : tabReckons.atKey (.string l) .nil = (match opReckons l with | some n => .lit (.int .i64 (n : Int)) | none => .nil) ∧ has tabReckons (.string l) = (opReckons l).isSome := by
  by_cases h0 : l = [43]
  · subst h0; exact ⟨rfl, rfl⟩
  by_cases h1 : l = [45]
  · subst h1; exact ⟨rfl, rfl⟩
  by_cases h2 : l = [42]
  · subst h2; exact ⟨rfl, rfl⟩
  by_cases h3 : l = [47]
  · subst h3; exact ⟨rfl, rfl⟩
  obtain ⟨a1, a2⟩ := atReckons_none l h0 h1 h2 h3
  have e : opReckons l = none := by unfold opReckons; simp only [h0, h1, h2, h3, if_false]
  rw [a1, a2, e]
  exact ⟨rfl, rfl⟩
def fnReckons (l : List UInt8) : Value := match opReckons l with | some n => .func (.func n) #[] #[] | none => .nilFunc
theorem fnReckons_is {v : Value} {ps : List MemPlace} {l : List UInt8} (h : fnElem v = some (tabReckons.atKey (.string l) .nil, ps)) : v = fnReckons l := by
  rw [(atReckons l).1] at h
  unfold fnReckons
  cases ho : opReckons l with
  | none => rw [ho] at h; exact fnElem_nil h
  | some n => rw [ho] at h; exact fnElem_func h
set_option maxHeartbeats 1000000 in
set_option maxRecDepth 10000 in
theorem ureckons_any (s : ByteArray) (hs : s.size ≤ maxLen) (w : World) :
    Calls Tryz.prog 52 #[.string s] w fun e w' => e = .returned (.tuple #[fnReckons s.data.toList, .bool (opReckons s.data.toList).isSome]) ∧ Below w.heap.size w w' := by
  have hmm := @run_makeMap Tryz.prog
  have hmf : ∀ (fn : Fn) (first cap : Array Value) (w : World), (Instr.makeFunc fn first cap).run Tryz.prog w = .ok (.func fn first cap) w := fun _ _ _ _ => rfl
  have hkey := WideMaps.keyOf_string_mk (P := Tryz.prog) Tryz.underlying9 hs
  have hk0 : keyOf Tryz.prog 9 (.string ⟨#[43]⟩) = some (.string [43]) := WideMaps.keyOf_string_mk (P := Tryz.prog) Tryz.underlying9 (by show [43].length ≤ maxLen; unfold maxLen; decide)
  have hk1 : keyOf Tryz.prog 9 (.string ⟨#[45]⟩) = some (.string [45]) := WideMaps.keyOf_string_mk (P := Tryz.prog) Tryz.underlying9 (by show [45].length ≤ maxLen; unfold maxLen; decide)
  have hk2 : keyOf Tryz.prog 9 (.string ⟨#[42]⟩) = some (.string [42]) := WideMaps.keyOf_string_mk (P := Tryz.prog) Tryz.underlying9 (by show [42].length ≤ maxLen; unfold maxLen; decide)
  have hk3 : keyOf Tryz.prog 9 (.string ⟨#[47]⟩) = some (.string [47]) := WideMaps.keyOf_string_mk (P := Tryz.prog) Tryz.underlying9 (by show [47].length ≤ maxLen; unfold maxLen; decide)
  have hown0 := World.ownsMap_made w Tryz.prog 9 fnElem
  have hb0 : Below w.heap.size w (w.alloc (.map #[] 0)) := (Below.refl _ _).alloc (Nat.le_refl _) _
  go_enter Tryz.func52, Tryz.ntmps52
  go_wp2_with (first
    | (refine wpList_insert_own _ rfl _ (.const (.string ⟨#[43]⟩)) (.func 83) 111 rfl 9 87 actLaw Tryz.underlying111 fnElem w.heap.size 0 _ rfl hown0 (by unfold maxLen; decide) _ _ _ rfl rfl hk0 (.lit (.int .i64 83)) [] rfl ?_; intro w1 hown1 hg1; have hb1 := hb0.grown hg1 hb0.size (fun j hj => by cases hj; exact Nat.le_refl _))
    | (refine wpList_insert_own _ rfl _ (.const (.string ⟨#[45]⟩)) (.func 84) 111 rfl 9 87 actLaw Tryz.underlying111 fnElem w.heap.size 1 _ rfl hown1 (by unfold maxLen; decide) _ _ _ rfl rfl hk1 (.lit (.int .i64 84)) [] rfl ?_; intro w2 hown2 hg2; have hb2 := hb1.grown hg2 hb1.size (fun j hj => by cases hj; exact Nat.le_refl _))
    | (refine wpList_insert_own _ rfl _ (.const (.string ⟨#[42]⟩)) (.func 85) 111 rfl 9 87 actLaw Tryz.underlying111 fnElem w.heap.size 2 _ rfl hown2 (by unfold maxLen; decide) _ _ _ rfl rfl hk2 (.lit (.int .i64 85)) [] rfl ?_; intro w3 hown3 hg3; have hb3 := hb2.grown hg3 hb2.size (fun j hj => by cases hj; exact Nat.le_refl _))
    | (refine wpList_insert_own _ rfl _ (.const (.string ⟨#[47]⟩)) (.func 87) 111 rfl 9 87 actLaw Tryz.underlying111 fnElem w.heap.size 3 _ rfl hown3 (by unfold maxLen; decide) _ _ _ rfl rfl hk3 (.lit (.int .i64 87)) [] rfl ?_; intro w4 hown4 hg4; have hb4 := hb3.grown hg4 hb3.size (fun j hj => by cases hj; exact Nat.le_refl _))
    | (refine wpList_lookup_own_ok _ rfl _ _ 111 rfl 9 87 actLaw Tryz.underlying111 fnElem (actZero _) .nil [] rfl w.heap.size 4 tabReckons rfl hown4 _ _ rfl hkey ?_; intro v ps hv; have hv2 := fnReckons_is hv; subst hv2; rw [(atReckons _).2])
    | fail)
  go_ret2
  exact ⟨rfl, hb4⟩

def tabCompares : DataW Unit := (((((((.map [] : DataW Unit).put (.string [60]) (.lit (.int .i64 89))).put (.string [60, 61]) (.lit (.int .i64 91))).put (.string [61]) (.lit (.int .i64 92))).put (.string [60, 62]) (.lit (.int .i64 93))).put (.string [62, 61]) (.lit (.int .i64 94))).put (.string [62]) (.lit (.int .i64 95)))
def opCompares (l : List UInt8) : Option Nat :=
  if l = [60] then some 89 else if l = [60, 61] then some 91 else if l = [61] then some 92 else if l = [60, 62] then some 93 else if l = [62, 61] then some 94 else if l = [62] then some 95 else none
theorem atCompares_none (l : List UInt8) (h0 : l ≠ [60]) (h1 : l ≠ [60, 61]) (h2 : l ≠ [61]) (h3 : l ≠ [60, 62]) (h4 : l ≠ [62, 61]) (h5 : l ≠ [62]) : tabCompares.atKey (.string l) .nil = .nil ∧ has tabCompares (.string l) = false := by
  unfold tabCompares
  constructor
  · rw [atKey_put_other (fun e => h5 (by injection e) : (Lit.string l) ≠ .string [62]), atKey_put_other (fun e => h4 (by injection e) : (Lit.string l) ≠ .string [62, 61]), atKey_put_other (fun e => h3 (by injection e) : (Lit.string l) ≠ .string [60, 62]), atKey_put_other (fun e => h2 (by injection e) : (Lit.string l) ≠ .string [61]), atKey_put_other (fun e => h1 (by injection e) : (Lit.string l) ≠ .string [60, 61]), atKey_put_other (fun e => h0 (by injection e) : (Lit.string l) ≠ .string [60])]
    rfl
  · rw [has_put_other (fun e => h5 (by injection e) : (Lit.string l) ≠ .string [62]), has_put_other (fun e => h4 (by injection e) : (Lit.string l) ≠ .string [62, 61]), has_put_other (fun e => h3 (by injection e) : (Lit.string l) ≠ .string [60, 62]), has_put_other (fun e => h2 (by injection e) : (Lit.string l) ≠ .string [61]), has_put_other (fun e => h1 (by injection e) : (Lit.string l) ≠ .string [60, 61]), has_put_other (fun e => h0 (by injection e) : (Lit.string l) ≠ .string [60])]
    rfl
theorem atCompares (l : List UInt8) : tabCompares.atKey (.string l) .nil = (match opCompares l with | some n => .lit (.int .i64 (n : Int)) | none => .nil) ∧ has tabCompares (.string l) = (opCompares l).isSome := by
  by_cases h0 : l = [60]
  · subst h0; exact ⟨rfl, rfl⟩
  by_cases h1 : l = [60, 61]
  · subst h1; exact ⟨rfl, rfl⟩
  by_cases h2 : l = [61]
  · subst h2; exact ⟨rfl, rfl⟩
  by_cases h3 : l = [60, 62]
  · subst h3; exact ⟨rfl, rfl⟩
  by_cases h4 : l = [62, 61]
  · subst h4; exact ⟨rfl, rfl⟩
  by_cases h5 : l = [62]
  · subst h5; exact ⟨rfl, rfl⟩
  obtain ⟨a1, a2⟩ := atCompares_none l h0 h1 h2 h3 h4 h5
  have e : opCompares l = none := by unfold opCompares; simp only [h0, h1, h2, h3, h4, h5, if_false]
  rw [a1, a2, e]
  exact ⟨rfl, rfl⟩
def fnCompares (l : List UInt8) : Value := match opCompares l with | some n => .func (.func n) #[] #[] | none => .nilFunc
theorem fnCompares_is {v : Value} {ps : List MemPlace} {l : List UInt8} (h : fnElem v = some (tabCompares.atKey (.string l) .nil, ps)) : v = fnCompares l := by
  rw [(atCompares l).1] at h
  unfold fnCompares
  cases ho : opCompares l with
  | none => rw [ho] at h; exact fnElem_nil h
  | some n => rw [ho] at h; exact fnElem_func h
set_option maxHeartbeats 1000000 in
set_option maxRecDepth 10000 in
theorem ucompares_any (s : ByteArray) (hs : s.size ≤ maxLen) (w : World) :
    Calls Tryz.prog 53 #[.string s] w fun e w' => e = .returned (.tuple #[fnCompares s.data.toList, .bool (opCompares s.data.toList).isSome]) ∧ Below w.heap.size w w' := by
  have hmm := @run_makeMap Tryz.prog
  have hmf : ∀ (fn : Fn) (first cap : Array Value) (w : World), (Instr.makeFunc fn first cap).run Tryz.prog w = .ok (.func fn first cap) w := fun _ _ _ _ => rfl
  have hkey := WideMaps.keyOf_string_mk (P := Tryz.prog) Tryz.underlying9 hs
  have hk0 : keyOf Tryz.prog 9 (.string ⟨#[60]⟩) = some (.string [60]) := WideMaps.keyOf_string_mk (P := Tryz.prog) Tryz.underlying9 (by show [60].length ≤ maxLen; unfold maxLen; decide)
  have hk1 : keyOf Tryz.prog 9 (.string ⟨#[60, 61]⟩) = some (.string [60, 61]) := WideMaps.keyOf_string_mk (P := Tryz.prog) Tryz.underlying9 (by show [60, 61].length ≤ maxLen; unfold maxLen; decide)
  have hk2 : keyOf Tryz.prog 9 (.string ⟨#[61]⟩) = some (.string [61]) := WideMaps.keyOf_string_mk (P := Tryz.prog) Tryz.underlying9 (by show [61].length ≤ maxLen; unfold maxLen; decide)
  have hk3 : keyOf Tryz.prog 9 (.string ⟨#[60, 62]⟩) = some (.string [60, 62]) := WideMaps.keyOf_string_mk (P := Tryz.prog) Tryz.underlying9 (by show [60, 62].length ≤ maxLen; unfold maxLen; decide)
  have hk4 : keyOf Tryz.prog 9 (.string ⟨#[62, 61]⟩) = some (.string [62, 61]) := WideMaps.keyOf_string_mk (P := Tryz.prog) Tryz.underlying9 (by show [62, 61].length ≤ maxLen; unfold maxLen; decide)
  have hk5 : keyOf Tryz.prog 9 (.string ⟨#[62]⟩) = some (.string [62]) := WideMaps.keyOf_string_mk (P := Tryz.prog) Tryz.underlying9 (by show [62].length ≤ maxLen; unfold maxLen; decide)
  have hown0 := World.ownsMap_made w Tryz.prog 9 fnElem
  have hb0 : Below w.heap.size w (w.alloc (.map #[] 0)) := (Below.refl _ _).alloc (Nat.le_refl _) _
  go_enter Tryz.func53, Tryz.ntmps53
  go_wp2_with (first
    | (refine wpList_insert_own _ rfl _ (.const (.string ⟨#[60]⟩)) (.func 89) 111 rfl 9 87 actLaw Tryz.underlying111 fnElem w.heap.size 0 _ rfl hown0 (by unfold maxLen; decide) _ _ _ rfl rfl hk0 (.lit (.int .i64 89)) [] rfl ?_; intro w1 hown1 hg1; have hb1 := hb0.grown hg1 hb0.size (fun j hj => by cases hj; exact Nat.le_refl _))
    | (refine wpList_insert_own _ rfl _ (.const (.string ⟨#[60, 61]⟩)) (.func 91) 111 rfl 9 87 actLaw Tryz.underlying111 fnElem w.heap.size 1 _ rfl hown1 (by unfold maxLen; decide) _ _ _ rfl rfl hk1 (.lit (.int .i64 91)) [] rfl ?_; intro w2 hown2 hg2; have hb2 := hb1.grown hg2 hb1.size (fun j hj => by cases hj; exact Nat.le_refl _))
    | (refine wpList_insert_own _ rfl _ (.const (.string ⟨#[61]⟩)) (.func 92) 111 rfl 9 87 actLaw Tryz.underlying111 fnElem w.heap.size 2 _ rfl hown2 (by unfold maxLen; decide) _ _ _ rfl rfl hk2 (.lit (.int .i64 92)) [] rfl ?_; intro w3 hown3 hg3; have hb3 := hb2.grown hg3 hb2.size (fun j hj => by cases hj; exact Nat.le_refl _))
    | (refine wpList_insert_own _ rfl _ (.const (.string ⟨#[60, 62]⟩)) (.func 93) 111 rfl 9 87 actLaw Tryz.underlying111 fnElem w.heap.size 3 _ rfl hown3 (by unfold maxLen; decide) _ _ _ rfl rfl hk3 (.lit (.int .i64 93)) [] rfl ?_; intro w4 hown4 hg4; have hb4 := hb3.grown hg4 hb3.size (fun j hj => by cases hj; exact Nat.le_refl _))
    | (refine wpList_insert_own _ rfl _ (.const (.string ⟨#[62, 61]⟩)) (.func 94) 111 rfl 9 87 actLaw Tryz.underlying111 fnElem w.heap.size 4 _ rfl hown4 (by unfold maxLen; decide) _ _ _ rfl rfl hk4 (.lit (.int .i64 94)) [] rfl ?_; intro w5 hown5 hg5; have hb5 := hb4.grown hg5 hb4.size (fun j hj => by cases hj; exact Nat.le_refl _))
    | (refine wpList_insert_own _ rfl _ (.const (.string ⟨#[62]⟩)) (.func 95) 111 rfl 9 87 actLaw Tryz.underlying111 fnElem w.heap.size 5 _ rfl hown5 (by unfold maxLen; decide) _ _ _ rfl rfl hk5 (.lit (.int .i64 95)) [] rfl ?_; intro w6 hown6 hg6; have hb6 := hb5.grown hg6 hb5.size (fun j hj => by cases hj; exact Nat.le_refl _))
    | (refine wpList_lookup_own_ok _ rfl _ _ 111 rfl 9 87 actLaw Tryz.underlying111 fnElem (actZero _) .nil [] rfl w.heap.size 6 tabCompares rfl hown6 _ _ rfl hkey ?_; intro v ps hv; have hv2 := fnCompares_is hv; subst hv2; rw [(atCompares _).2])
    | fail)
  go_ret2
  exact ⟨rfl, hb6⟩

end Go.Proofs.YthaoalmhhgllmaaGreatDoor
