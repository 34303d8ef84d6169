/- Texts joined: SzA, TbA, ShA, EvA, MoA, OpR, RefHa, TaA, CeA, MoC, FrameM. -/
import Derived.Test.YthaoalmhhgllmaaDoorMb06
import Derived.Deep.RegionWith
import Derived.Test.YthaoalmhhgllmaaDoorMb02
import Derived.Lib.ItoaLen
import Derived.Test.YthaoalmhhgllmaaDoorMb01
import Derived.Test.YthaoalmhhgllmaaDoorProg
import Derived.WalkKit
import Derived.OpenShut
import Derived.Deep.Slices
import Derived.Deep.SlicePairs
import Derived.ChangeSame
import Derived.Deep.QuietTactic
import Derived.BigQuiet
import Derived.Test.YthaoalmhhgllmaaDoorRows
import Derived.ProofKit
import Derived.Lib.SmallJoins
import Derived.Deep.DeepHandedRow
import Derived.Lib.LaidTab
import Derived.Stop.LaidErr
import Derived.LaidLaws
import Derived.Lib.LaidIn
set_option linter.all false
namespace Go.Proofs.YthaoalmhhgllmaaDoor
open Go.RowKit
mutual
def szT : Tr → Int → Int
  | .mk _ _ _ _ _ _ _ ks, m => szL ks 1 m
def szL : List Tr → Int → Int → Int
  | [], n, _ => n
  | u :: r, n, m => if n ≤ m then szL r (n + szT u (m - n)) m else n
end
mutual
theorem szT_bound : ∀ (t : Tr) (m : Int), 0 ≤ m → 1 ≤ szT t m ∧ szT t m ≤ m + 1
  | .mk _ _ _ _ _ _ _ ks, m, h => by
    rw [szT]
    exact szL_bound ks 1 m (by omega) (by omega)
theorem szL_bound : ∀ (ks : List Tr) (n m : Int), 1 ≤ n → n ≤ m + 1 → 1 ≤ szL ks n m ∧ szL ks n m ≤ m + 1
  | [], n, m, h1, h2 => by rw [szL]; exact ⟨h1, h2⟩
  | u :: r, n, m, h1, h2 => by
    rw [szL]
    by_cases h : n ≤ m
    · rw [if_pos h]
      have := szT_bound u (m - n) (by omega)
      exact szL_bound r _ m (by omega) (by omega)
    · rw [if_neg h]; exact ⟨h1, h2⟩
end
theorem szT_eq (t : Tr) (m : Int) : szT t m = szL t.kids 1 m := by cases t; rw [szT]; rfl
def SizeC (t : Tr) : Prop := ∀ (m : Int), 0 ≤ m → m ≤ 400 → ∀ (w : World) (P : Nat → Prop) (A : Option Addr) (cap : Nat), KV w P t A →
  Calls Tryd.prog 16 #[.agg #[.int .i64 t.kind, .int .i64 t.num, .int .i64 t.c1, .int .i64 t.r1, .int .i64 t.c2, .int .i64 t.r2, .string ⟨t.word.toArray⟩, .slice A t.kids.length cap], .int .i64 m] w fun e w' => e = .returned (.int .i64 (szT t m)) ∧ Below w.heap.size w w'
set_option maxHeartbeats 1000000 in
set_option maxRecDepth 10000 in
theorem size_level (t : Tr) (hlen : t.kids.length ≤ maxLen) (ih : ∀ u ∈ t.kids, SizeC u) : SizeC t := by
  intro m m0 m4 w P A cap hk
  have HK := Lib.hid hk
  have HI := Lib.hid ih
  have HE := Lib.hid (szT_eq t m)
  unfold maxLen at hlen
  generalize szT t m = Z at *
  clear hk ih
  go_enter Tryd.func16, Tryd.ntmps16
  go_wp2_with fail
  go_loopw [5, 6] (fun vn vi wr => ∃ (i : Nat) (n : Int), i ≤ t.kids.length ∧ vn = .int .i64 n ∧ vi = .int .i64 (i : Int) ∧ (1 ≤ n ∧ n ≤ m + 1) ∧ Hid (Z = szL (t.kids.drop i) n m) ∧ Below w.heap.size w wr ∧ w.heap.size < wr.heap.size ∧ wr.cell? ⟨w.heap.size, 7, none⟩ = some (.slice A t.kids.length cap)) (fun _ vi _ => t.kids.length - (intOf vi).toNat)
  case atStart => exact ⟨0, 1, Nat.zero_le _, rfl, rfl, ⟨by omega, by omega⟩, HE, (Below.refl _ _).alloc (Nat.le_refl _) _, by simp, by simp [go_sem]⟩
  case round =>
    obtain ⟨i, n, hi, rfl, rfl, ⟨n1, n2⟩, HZ, hbel, hsz, c7⟩ := hrel
    by_cases hlt : i < t.kids.length
    · by_cases hnm : n ≤ m
      · have hu : t.kids[i]? = some (t.kids[i]'hlt) := List.getElem?_eq_getElem hlt
        obtain ⟨g, o, rfl⟩ := HK.out.addr hu
        obtain ⟨hg, A', cap', h8, hkv⟩ := HK.out.kidAt hbel hu
        have hb := szT_bound (t.kids[i]'hlt) (m - n) (by omega)
        have HC := Lib.hid (HI.out _ (List.getElem_mem hlt) (m - n) (by omega) (by omega) wr _ A' cap' hkv)
        have HN : Hid (Z = szL (t.kids.drop (i + 1)) (n + szT (t.kids[i]'hlt) (m - n)) m) := Lib.hid (by
          have h := HZ.out
          rw [List.drop_eq_getElem_cons hlt, szL, if_pos hnm] at h
          exact h)
        have dn : decide (n ≤ m) = true := decide_eq_true hnm
        generalize szT (t.kids[i]'hlt) (m - n) = q at *
        generalize t.kids[i]'hlt = u at *
        obtain ⟨q0, q1, q2, q3, q4, q5, q6, q7⟩ := h8
        have hgw : g < wr.heap.size := by have := hbel.size; omega
        clear hu hkv HZ
        go_wp2_with fail
        refine Calls.mono HC.out ?_; rintro e w2 ⟨rfl, b2⟩
        have h2 := hbel.trans (b2.mono hbel.size)
        have k2 := keep_cell b2 c7
        have z2 : w.heap.size < w2.heap.size := Nat.lt_of_lt_of_le hsz b2.size
        clear b2 q0 q1 q2 q3 q4 q5 q6 q7
        go_wp2_with fail
        go_roundw
        case rel => exact ⟨i + 1, n + q, by omega, by go_num, by go_num, ⟨by omega, by omega⟩, HN, h2, z2, k2⟩
        case measure => simp [intOf]; omega
      · have HN : Hid (Z = n) := Lib.hid (by
          have h := HZ.out
          rw [List.drop_eq_getElem_cons hlt, szL, if_neg hnm] at h
          exact h)
        have dn : decide (n ≤ m) = false := decide_eq_false hnm
        clear HZ
        go_wp2_with fail
        go_ret
        exact ⟨by rw [HN.out]; rfl, hbel⟩
    · have HN : Hid (Z = n) := Lib.hid (by
        have h := HZ.out
        rw [List.drop_eq_nil_of_le (by omega), szL] at h
        exact h)
      clear HZ
      go_wp2_with fail
      go_ret
      exact ⟨by rw [HN.out]; rfl, hbel⟩
theorem lsize_any : ∀ {t : Tr}, Wid t → SizeC t := by
  intro t hW
  induction hW with
  | @mk k n c r d s w ks hl hk ih => exact size_level _ hl ih
end Go.Proofs.YthaoalmhhgllmaaDoor
namespace Go.Proofs.YthaoalmhhgllmaaDoor
open Go.RowKit
mutual
def cntT : Tr → Nat
  | .mk _ _ _ _ _ _ _ ks => cntL ks + 1
def cntL : List Tr → Nat
  | [] => 0
  | t :: ts => cntT t + cntL ts
end
theorem szL_ge : ∀ (ks : List Tr) (n m : Int), 1 ≤ n → n ≤ m + 1 → n ≤ szL ks n m
  | [], n, m, _, _ => by rw [szL]; exact Int.le_refl _
  | u :: r, n, m, h1, h2 => by
    rw [szL]
    by_cases h : n ≤ m
    · rw [if_pos h]
      have := szT_bound u (m - n) (by omega)
      have := szL_ge r (n + szT u (m - n)) m (by omega) (by omega)
      omega
    · rw [if_neg h]; exact Int.le_refl _
mutual
theorem szT_cnt : ∀ (t : Tr) (m : Int), 0 ≤ m → szT t m ≤ m → szT t m = (cntT t : Int)
  | .mk _ _ _ _ _ _ _ ks, m, h, hm => by
    rw [szT] at hm ⊢
    rw [cntT, szL_cnt ks 1 m (by omega) (by omega) hm]
    omega
theorem szL_cnt : ∀ (ks : List Tr) (n m : Int), 1 ≤ n → n ≤ m + 1 → szL ks n m ≤ m → szL ks n m = n + (cntL ks : Int)
  | [], n, m, _, _, _ => by rw [szL, cntL]; omega
  | u :: r, n, m, h1, h2, hm => by
    rw [szL] at hm ⊢
    by_cases h : n ≤ m
    · rw [if_pos h] at hm ⊢
      have hb := szT_bound u (m - n) (by omega)
      have hg := szL_ge r (n + szT u (m - n)) m (by omega) (by omega)
      have hu := szT_cnt u (m - n) (by omega) (by omega)
      rw [szL_cnt r _ m (by omega) (by omega) hm, hu, cntL]
      omega
    · rw [if_neg h] at hm; omega
end
end Go.Proofs.YthaoalmhhgllmaaDoor
namespace Go.Proofs.YthaoalmhhgllmaaDoor
theorem may_kids {k n c r d s : Int} {w : List UInt8} {ks : List Tr} (h : mayB (.mk k n c r d s w ks) = true) : ∀ t ∈ ks, mayB t = true := by
  rw [mayB] at h
  unfold onlyB at h
  by_cases h0 : k = 0
  · subst h0; simp at h; rw [h.1.2.2]; intro t ht; cases ht
  by_cases h1 : k = 1
  · subst h1; simp at h; rw [h.1.2.2]; intro t ht; cases ht
  by_cases h2 : k = 2
  · subst h2; simp at h; rw [h.2.2.2]; intro t ht; cases ht
  by_cases h6 : k = 6
  · subst h6; simp at h; rw [h.1.2.2]; intro t ht; cases ht
  by_cases h3 : k = 3
  · subst h3; simp at h; exact fun t ht => (all_mem h.2 t ht).1
  by_cases h4 : k = 4
  · subst h4; simp at h; exact fun t ht => (all_mem h.2.1 t ht).1
  by_cases h5 : k = 5
  · subst h5
    rw [if_neg (by decide), if_neg (by decide), if_neg (by decide), if_neg (by decide), if_neg (by decide), if_neg (by decide), if_pos rfl, Bool.and_eq_true] at h
    obtain ⟨_, h⟩ := h
    rw [Bool.and_eq_true] at h
    exact fun t ht => (all_mem h.1 t ht).1
  · rw [if_neg h0, if_neg h1, if_neg h2, if_neg h6, if_neg h3, if_neg h4, if_neg h5] at h
    cases h
end Go.Proofs.YthaoalmhhgllmaaDoor
namespace Go.Proofs.YthaoalmhhgllmaaDoor
open Go.RowKit
structure Cel where
  c : Int
  r : Int
  n : Int
  f : Int
def aloneV (q : Cel) : Int × Int := (if q.f = 0 then q.n else 0, q.f)
def cAt (x y : Int) : List Cel → Option (Int × Int)
  | [] => none
  | q :: l => if q.c = x ∧ q.r = y then some (aloneV q) else cAt x y l
def cVal (x y : Int) (l : List Cel) : Int × Int := (cAt x y l).getD (0, 0)
def cIn (l : List Cel) (a b c d : Int) : List (Int × Int) := (cellsTo a b c d 1024).filterMap fun p => cAt p.1 p.2 l
mutual
def cmT (l : List Cel) : Tr → Int × Int
  | .mk k n c r _ _ w ks =>
    if k = 0 then (n, 0)
    else if k = 1 then cVal c r l
    else if k = 3 then (doNum [45] 0 0 ((cmL l ks).getD 0 (0, 0)).1 ((cmL l ks).getD 0 (0, 0)).2, doFault [45] 0 0 ((cmL l ks).getD 0 (0, 0)).1 ((cmL l ks).getD 0 (0, 0)).2)
    else if k = 4 then (doNum w ((cmL l ks).getD 0 (0, 0)).1 ((cmL l ks).getD 0 (0, 0)).2 ((cmL l ks).getD 1 (0, 0)).1 ((cmL l ks).getD 1 (0, 0)).2, doFault w ((cmL l ks).getD 0 (0, 0)).1 ((cmL l ks).getD 0 (0, 0)).2 ((cmL l ks).getD 1 (0, 0)).1 ((cmL l ks).getD 1 (0, 0)).2)
    else if k = 5 then
      if w = [73, 70] then
        if ((cmL l ks).getD 0 (0, 0)).2 ≠ 0 then (cmL l ks).getD 0 (0, 0)
        else if ((cmL l ks).getD 0 (0, 0)).1 ≠ 0 then (cmL l ks).getD 1 (0, 0)
        else (cmL l ks).getD 2 (0, 0)
      else if w = [83, 85, 77] then allV gAdd (0, 0) (itL l ks)
      else if w = [77, 73, 78] then mostV gLow (itL l ks)
      else if w = [77, 65, 88] then mostV gTop (itL l ks)
      else if (ks.any fun u => u.kind == 2) = true then (0, 3)
      else (((itL l ks).length : Int), 0)
    else (0, 3)
def cmL (l : List Cel) : List Tr → List (Int × Int)
  | [] => []
  | t :: ts => cmT l t :: cmL l ts
def itL (l : List Cel) : List Tr → List (Int × Int)
  | [] => []
  | t :: ts => (if t.kind = 6 then cIn l t.c1 t.r1 t.c2 t.r2 else [cmT l t]) ++ itL l ts
end
def ofV (l : List Cel) (t : Tr) : Int × Int := if rightP t = true then cmT l t else (0, 3)

theorem cmL_at {l : List Cel} : ∀ {ks : List Tr} {i : Nat} {u : Tr}, ks[i]? = some u → (cmL l ks).getD i (0, 0) = cmT l u
  | [], i, u, h => by simp at h
  | t :: ts, 0, u, h => by rw [cmL]; simp at h; subst h; rfl
  | t :: ts, i + 1, u, h => by rw [cmL]; simp at h; rw [List.getD_cons_succ]; exact cmL_at h
theorem itL_app {l : List Cel} : ∀ (a b : List Tr), itL l (a ++ b) = itL l a ++ itL l b
  | [], b => by rw [itL]; rfl
  | t :: ts, b => by rw [List.cons_append, itL, itL, itL_app ts b, List.append_assoc]
theorem itL_take {l : List Cel} {ks : List Tr} {i : Nat} {u : Tr} (h : ks[i]? = some u) : itL l (ks.take (i + 1)) = itL l (ks.take i) ++ (if u.kind = 6 then cIn l u.c1 u.r1 u.c2 u.r2 else [cmT l u]) := by
  rw [List.take_add_one, h, itL_app]
  show itL l (ks.take i) ++ itL l [u] = _
  rw [itL, itL, List.append_nil]
theorem cm_num {l : List Cel} {t : Tr} (h : t.kind = 0) : cmT l t = (t.num, 0) := by
  obtain ⟨k, n, c, r, d, s, w, ks⟩ := t; rw [cmT]; exact if_pos h
theorem cm_read {l : List Cel} {t : Tr} (h : t.kind = 1) : cmT l t = cVal t.c1 t.r1 l := by
  obtain ⟨k, n, c, r, d, s, w, ks⟩ := t
  have e : k = 1 := h
  subst e; rw [cmT]; rfl
theorem cm_neg {l : List Cel} {t u : Tr} (h : t.kind = 3) (h0 : t.kids[0]? = some u) : cmT l t = (doNum [45] 0 0 (cmT l u).1 (cmT l u).2, doFault [45] 0 0 (cmT l u).1 (cmT l u).2) := by
  obtain ⟨k, n, c, r, d, s, w, ks⟩ := t
  have e : k = 3 := h
  subst e
  rw [cmT, cmL_at (l := l) (ks := ks) h0]; rfl
theorem cm_op {l : List Cel} {t u v : Tr} (h : t.kind = 4) (h0 : t.kids[0]? = some u) (h1 : t.kids[1]? = some v) :
    cmT l t = (doNum t.word (cmT l u).1 (cmT l u).2 (cmT l v).1 (cmT l v).2, doFault t.word (cmT l u).1 (cmT l u).2 (cmT l v).1 (cmT l v).2) := by
  obtain ⟨k, n, c, r, d, s, w, ks⟩ := t
  have e : k = 4 := h
  subst e
  rw [cmT, cmL_at (l := l) (ks := ks) h0, cmL_at (l := l) (ks := ks) h1]; rfl
theorem cm_if {l : List Cel} {t a b c : Tr} (h : t.kind = 5) (hw : t.word = [73, 70]) (h0 : t.kids[0]? = some a) (h1 : t.kids[1]? = some b) (h2 : t.kids[2]? = some c) :
    cmT l t = if (cmT l a).2 ≠ 0 then cmT l a else if (cmT l a).1 ≠ 0 then cmT l b else cmT l c := by
  obtain ⟨k, n, c', r, d, s, w, ks⟩ := t
  have e : k = 5 := h
  have e2 : w = [73, 70] := hw
  subst e e2
  rw [cmT, cmL_at (l := l) (ks := ks) h0, cmL_at (l := l) (ks := ks) h1, cmL_at (l := l) (ks := ks) h2]; rfl
theorem cm_sum {l : List Cel} {t : Tr} (h : t.kind = 5) (hw : t.word = [83, 85, 77]) : cmT l t = allV gAdd (0, 0) (itL l t.kids) := by
  obtain ⟨k, n, c, r, d, s, w, ks⟩ := t
  have e : k = 5 := h
  have e2 : w = [83, 85, 77] := hw
  subst e e2; rw [cmT]; rfl
theorem cm_min {l : List Cel} {t : Tr} (h : t.kind = 5) (hw : t.word = [77, 73, 78]) : cmT l t = mostV gLow (itL l t.kids) := by
  obtain ⟨k, n, c, r, d, s, w, ks⟩ := t
  have e : k = 5 := h
  have e2 : w = [77, 73, 78] := hw
  subst e e2; rw [cmT]; rfl
theorem cm_max {l : List Cel} {t : Tr} (h : t.kind = 5) (hw : t.word = [77, 65, 88]) : cmT l t = mostV gTop (itL l t.kids) := by
  obtain ⟨k, n, c, r, d, s, w, ks⟩ := t
  have e : k = 5 := h
  have e2 : w = [77, 65, 88] := hw
  subst e e2; rw [cmT]; rfl
theorem cm_count {l : List Cel} {t : Tr} (h : t.kind = 5) (hw : t.word = [67, 79, 85, 78, 84]) : cmT l t = if (t.kids.any fun u => u.kind == 2) = true then (0, 3) else (((itL l t.kids).length : Int), (0 : Int)) := by
  obtain ⟨k, n, c, r, d, s, w, ks⟩ := t
  have e : k = 5 := h
  have e2 : w = [67, 79, 85, 78, 84] := hw
  subst e e2; rw [cmT]; rfl
theorem cm_bad {l : List Cel} {t : Tr} (h : t.kind = 2 ∨ t.kind = 6) : cmT l t = (0, 3) := by
  obtain ⟨k, n, c, r, d, s, w, ks⟩ := t
  rcases h with h | h
  · have e : k = 2 := h
    subst e; rw [cmT]; rfl
  · have e : k = 6 := h
    subst e; rw [cmT]; rfl
theorem cIn_le (l : List Cel) (a b c d : Int) : (cIn l a b c d).length ≤ 1024 := by
  unfold cIn
  refine Nat.le_trans (List.length_filterMap_le _ _) ?_
  unfold cellsTo
  refine Nat.le_trans (by rw [List.length_map]; exact List.length_filter_le _ _) ?_
  rw [List.length_range]; exact Nat.le_refl _
theorem itL_le (l : List Cel) : ∀ ks : List Tr, (itL l ks).length ≤ 1024 * ks.length
  | [] => by rw [itL]; exact Nat.zero_le _
  | t :: ts => by
    rw [itL, List.length_append, List.length_cons]
    have h1 := itL_le l ts
    have h2 : (if t.kind = 6 then cIn l t.c1 t.r1 t.c2 t.r2 else [cmT l t]).length ≤ 1024 := by
      split
      · exact cIn_le _ _ _ _ _
      · simp
    omega
end Go.Proofs.YthaoalmhhgllmaaDoor
namespace Go.Proofs.YthaoalmhhgllmaaDoor
open Go.RowKit
structure Kno where
  c : Int
  r : Int
  w : Int
def cleanW (w : Int) : Int := if w < 0 ∨ 3 < w then 3 else w
def joinW (a b : Int) : Int := if cleanW a = 0 ∨ cleanW a = cleanW b then cleanW b else if cleanW b = 0 then cleanW a else 3
def flipW (w : Int) : Int := if w = 1 then 2 else if w = 2 then 1 else cleanW w
def wAt (x y : Int) : List Kno → Int
  | [] => 0
  | k :: l => if k.c = x ∧ k.r = y then cleanW k.w else wAt x y l
def joinL (l : List Int) : Int := l.foldl joinW 0
def wIn (l : List Kno) (a b c d : Int) : Int := joinL ((cellsTo a b c d 1024).map fun p => wAt p.1 p.2 l)
mutual
def cstT : Tr → Option Int
  | .mk k n _ _ _ _ _ ks => if k = 0 then some (min n 1) else if k = 3 then (cstL ks).map fun z => -z else none
def cstL : List Tr → Option Int
  | [] => none
  | t :: _ => cstT t
end
def byW (w s : Int) : Int := if s < 0 then flipW w else w
def stW (a b : Int) : Int := if a = 0 ∧ b = 0 then 0 else 3
def opW (w : List UInt8) (a b : Int) (p q : Option Int) : Int :=
  if w = [43] then joinW a b
  else if w = [45] ∨ w = [62] ∨ w = [62, 61] then joinW a (flipW b)
  else if w = [60] ∨ w = [60, 61] then flipW (joinW a (flipW b))
  else if w = [42] then (match q with | some n => byW a n | none => match p with | some m => byW b m | none => stW a b)
  else if w = [47] then (match q with | some n => if n = 0 then stW a b else byW a n | none => stW a b)
  else stW a b
def cstAt (ks : List Tr) (i : Nat) : Option Int := ks[i]?.bind cstT
mutual
def wyT (l : List Kno) : Tr → Int
  | .mk k _ c r d s w ks =>
    if k = 1 then wAt c r l
    else if k = 3 then flipW ((wyL l ks).getD 0 0)
    else if k = 4 then opW w ((wyL l ks).getD 0 0) ((wyL l ks).getD 1 0) (cstAt ks 0) (cstAt ks 1)
    else if k = 6 then wIn l c r d s
    else if k = 5 then (if w = [67, 79, 85, 78, 84] then 0 else if w = [73, 70] ∧ (wyL l ks).getD 0 0 ≠ 0 then 3 else joinL (wyL l ks))
    else 0
def wyL (l : List Kno) : List Tr → List Int
  | [] => []
  | t :: ts => wyT l t :: wyL l ts
end
def owV (l : List Kno) (t : Tr) : Int := if rightP t = true then wyT l t else 3

def OkW (w : Int) : Prop := w = 0 ∨ w = 1 ∨ w = 2 ∨ w = 3
theorem ok_clean (w : Int) : OkW (cleanW w) := by unfold cleanW OkW; split <;> omega
theorem clean_ok {w : Int} (h : OkW w) : cleanW w = w := by unfold cleanW OkW at *; split <;> omega
theorem ok_join (a b : Int) : OkW (joinW a b) := by
  have ha := ok_clean a
  have hb := ok_clean b
  unfold joinW
  repeat' split
  all_goals first | exact ha | exact hb | exact .inr (.inr (.inr rfl))
theorem ok_flip (a : Int) : OkW (flipW a) := by
  have ha := ok_clean a
  unfold flipW
  repeat' split
  all_goals first | exact ha | exact .inr (.inl rfl) | exact .inr (.inr (.inl rfl))
theorem ok_wAt (x y : Int) : ∀ l, OkW (wAt x y l)
  | [] => .inl rfl
  | k :: l => by rw [wAt]; split; exact ok_clean _; exact ok_wAt x y l
theorem ok_fold : ∀ (l : List Int) (o : Int), OkW o → OkW (l.foldl joinW o)
  | [], _, h => h
  | a :: l, o, _ => ok_fold l _ (ok_join o a)
theorem ok_joinL (l : List Int) : OkW (joinL l) := ok_fold l 0 (.inl rfl)
theorem ok_by {w : Int} (h : OkW w) (s : Int) : OkW (byW w s) := by unfold byW; split; exact ok_flip _; exact h
theorem ok_st (a b : Int) : OkW (stW a b) := by unfold stW; split; exact .inl rfl; exact .inr (.inr (.inr rfl))
theorem ok_opW {w : List UInt8} {a b : Int} (ha : OkW a) (hb : OkW b) (p q : Option Int) : OkW (opW w a b p q) := by
  unfold opW
  repeat' split
  all_goals first | exact ok_join _ _ | exact ok_flip _ | exact ok_st _ _ | exact ok_by ha _ | exact ok_by hb _
theorem okw_get {l : List Int} (h : ∀ q ∈ l, OkW q) (i : Nat) : OkW (l.getD i 0) := by
  rw [List.getD_eq_getElem?_getD]
  cases hi : l[i]? with
  | none => exact .inl rfl
  | some v => exact h v (List.mem_of_getElem? hi)
mutual
theorem ok_wy (l : List Kno) : ∀ t, OkW (wyT l t)
  | .mk k n c r d s w ks => by
    have h := ok_wyL l ks
    rw [wyT]
    by_cases h1 : k = 1
    · rw [if_pos h1]; exact ok_wAt _ _ _
    rw [if_neg h1]
    by_cases h3 : k = 3
    · rw [if_pos h3]; exact ok_flip _
    rw [if_neg h3]
    by_cases h4 : k = 4
    · rw [if_pos h4]; exact ok_opW (okw_get h _) (okw_get h _) _ _
    rw [if_neg h4]
    by_cases h6 : k = 6
    · rw [if_pos h6]; exact ok_joinL _
    rw [if_neg h6]
    by_cases h5 : k = 5
    · rw [if_pos h5]
      by_cases hc : w = [67, 79, 85, 78, 84]
      · rw [if_pos hc]; exact .inl rfl
      rw [if_neg hc]
      by_cases hi : w = [73, 70] ∧ (wyL l ks).getD 0 0 ≠ 0
      · rw [if_pos hi]; exact .inr (.inr (.inr rfl))
      rw [if_neg hi]; exact ok_joinL _
    rw [if_neg h5]; exact .inl rfl
theorem ok_wyL (l : List Kno) : ∀ ks, ∀ q ∈ wyL l ks, OkW q
  | [], q, h => by rw [wyL] at h; cases h
  | t :: ts, q, h => by
    rw [wyL] at h
    rcases List.mem_cons.1 h with rfl | h
    · exact ok_wy l t
    · exact ok_wyL l ts q h
end
theorem wyL_at {l : List Kno} : ∀ {ks : List Tr} {i : Nat} {u : Tr}, ks[i]? = some u → (wyL l ks).getD i 0 = wyT l u
  | [], i, u, h => by simp at h
  | t :: ts, 0, u, h => by rw [wyL]; simp at h; subst h; rfl
  | t :: ts, i + 1, u, h => by rw [wyL]; simp at h; rw [List.getD_cons_succ]; exact wyL_at h
theorem wyL_app {l : List Kno} : ∀ (a b : List Tr), wyL l (a ++ b) = wyL l a ++ wyL l b
  | [], b => by rw [wyL]; rfl
  | t :: ts, b => by rw [List.cons_append, wyL, wyL, wyL_app ts b, List.cons_append]
theorem wyL_take {l : List Kno} {ks : List Tr} {i : Nat} {u : Tr} (h : ks[i]? = some u) : wyL l (ks.take (i + 1)) = wyL l (ks.take i) ++ [wyT l u] := by
  rw [List.take_add_one, h, wyL_app]
  show wyL l (ks.take i) ++ wyL l [u] = _
  rw [wyL, wyL]
theorem joinL_snoc (l : List Int) (x : Int) : joinL (l ++ [x]) = joinW (joinL l) x := by unfold joinL; rw [List.foldl_append]; rfl
theorem joinL_take {l : List Kno} {ks : List Tr} {i : Nat} {u : Tr} (h : ks[i]? = some u) : joinL (wyL l (ks.take (i + 1))) = joinW (joinL (wyL l (ks.take i))) (wyT l u) := by
  rw [wyL_take h, joinL_snoc]
theorem wy_read {l : List Kno} {t : Tr} (h : t.kind = 1) : wyT l t = wAt t.c1 t.r1 l := by
  obtain ⟨k, n, c, r, d, s, w, ks⟩ := t; rw [wyT]; exact if_pos h
theorem wy_neg {l : List Kno} {t u : Tr} (h : t.kind = 3) (h0 : t.kids[0]? = some u) : wyT l t = flipW (wyT l u) := by
  obtain ⟨k, n, c, r, d, s, w, ks⟩ := t
  have e : k = 3 := h
  subst e
  rw [wyT, wyL_at (l := l) (ks := ks) h0]; rfl
theorem wy_op {l : List Kno} {t u v : Tr} (h : t.kind = 4) (h0 : t.kids[0]? = some u) (h1 : t.kids[1]? = some v) : wyT l t = opW t.word (wyT l u) (wyT l v) (cstT u) (cstT v) := by
  obtain ⟨k, n, c, r, d, s, w, ks⟩ := t
  have e : k = 4 := h
  subst e
  have e0 : cstAt ks 0 = cstT u := by unfold cstAt; rw [show ks[0]? = some u from h0]; rfl
  have e1 : cstAt ks 1 = cstT v := by unfold cstAt; rw [show ks[1]? = some v from h1]; rfl
  rw [wyT, wyL_at (l := l) (ks := ks) h0, wyL_at (l := l) (ks := ks) h1, e0, e1]; rfl
theorem wy_span {l : List Kno} {t : Tr} (h : t.kind = 6) : wyT l t = wIn l t.c1 t.r1 t.c2 t.r2 := by
  obtain ⟨k, n, c, r, d, s, w, ks⟩ := t
  have e : k = 6 := h
  subst e; rw [wyT]; rfl
theorem wy_rest {l : List Kno} {t : Tr} (h1 : t.kind ≠ 1) (h3 : t.kind ≠ 3) (h4 : t.kind ≠ 4) (h5 : t.kind ≠ 5) (h6 : t.kind ≠ 6) : wyT l t = 0 := by
  obtain ⟨k, n, c, r, d, s, w, ks⟩ := t
  rw [wyT, if_neg (show ¬ k = 1 from h1), if_neg (show ¬ k = 3 from h3), if_neg (show ¬ k = 4 from h4), if_neg (show ¬ k = 6 from h6), if_neg (show ¬ k = 5 from h5)]
theorem wy_call {l : List Kno} {t : Tr} (h : t.kind = 5) : wyT l t = if t.word = [67, 79, 85, 78, 84] then 0 else if t.word = [73, 70] ∧ (wyL l t.kids).getD 0 0 ≠ 0 then 3 else joinL (wyL l t.kids) := by
  obtain ⟨k, n, c, r, d, s, w, ks⟩ := t
  have e : k = 5 := h
  subst e; rw [wyT]; rfl
end Go.Proofs.YthaoalmhhgllmaaDoor
namespace Go.Proofs.YthaoalmhhgllmaaDoor
open Go.ChangeShapes Go.WideShapes Go.RowKit Go.Deep
section
variable {H : Type} {enc : TypeId × Value → H} {w : World} {base : Nat} {spare : Nat → Bool} {held : Bool}
def AtR {α : Type} (f : α → List Value) (k : Nat) (w : World) (g o : Nat) (l : List α) : Prop := ∀ (i : Nat) (q : α), l[i]? = some q → ∀ (j : Nat) (u : Value), (f q)[j]? = some u → w.cell? ⟨g, o + i * k + j, none⟩ = some u
set_option maxRecDepth 100000 in
theorem open_rows {α : Type} [Inhabited α] {r : Reach} {b0 : Nat} {v : Value} {d : DataW H} {p : List MemPlace} {ts te : TypeId} {k : Nat} (f : α → List Value) (Ok : α → Prop) (hf : ∀ q, (f q).length = k)
    (hts : Tryd.prog.underlying ts = some (.slice te)) (hk : Tryd.prog.cellsOf te = k) (hk0 : 0 < k)
    (hel : ∀ {fuel : Nat} {cs : List Value} {x : DataW H × List MemPlace}, cs.length = k → DataW.trod enc Tryd.prog w base spare held fuel te cs = some x → ∃ q, cs = f q ∧ Ok q)
    (hv : Value.okWide Tryd.prog w r b0 ts v) (h : DataW.Trod enc Tryd.prog w base spare held ts v d p) :
    ∃ (l : List α) (A : Option Addr) (cap : Nat), v = .slice A l.length cap ∧ l.length ≤ maxLen ∧ (∀ q ∈ l, Ok q) ∧ (l ≠ [] → ∃ g o, A = some ⟨g, o, none⟩ ∧ AtR f k w g o l) := by
  obtain ⟨a0, len, cap, rfl⟩ := okWide_slice hts hv
  obtain ⟨fuel, hfu⟩ := h
  rcases DataW.trod_slice hts hfu with ⟨e5, _⟩ | ⟨ad, len', cap', el, rs, n4, rfl, e5, _, _, hlc, hcm, hle, helem, _, _⟩
  · simp [Value.cells] at e5
    obtain ⟨rfl, rfl, rfl⟩ := e5
    exact ⟨([] : List α), none, 0, rfl, by simp, by simp, fun hh => absurd rfl hh⟩
  · simp [Value.cells] at e5
    obtain ⟨rfl, rfl, rfl⟩ := e5
    have key : ∀ i, i < len → ∃ q : α, (∀ (j : Nat) (u : Value), (f q)[j]? = some u → w.cell? ((ad.add (i * k)).add j) = some u) ∧ Ok q := by
      intro i hi
      have h1 := helem i hi
      rw [hk] at h1
      obtain ⟨y, hy⟩ : ∃ y, el[i]? = some y := ⟨el[i]'(by omega), List.getElem?_eq_getElem (by omega)⟩
      rw [hy] at h1
      obtain ⟨ce, hce, hte⟩ := Option.bind_eq_some_iff.1 h1
      obtain ⟨_, hcl, hcell⟩ := World.cells?_some hce
      obtain ⟨q, rfl, hq⟩ := hel hcl hte
      refine ⟨q, fun j u hj => ?_, hq⟩
      have hjl : j < k := by rw [← hf q]; exact (List.getElem?_eq_some_iff.1 hj).1
      rw [hcell j hjl]; exact hj
    obtain ⟨Q, hQ⟩ := choose_lt key
    refine ⟨(List.range len).map Q, some ad, cap, by simp, by simp; omega, fun q hq => ?_, fun hne => ?_⟩
    · obtain ⟨i, hi, rfl⟩ := List.mem_map.1 hq
      exact (hQ i (List.mem_range.1 hi)).2
    · have hpos : 0 < len := by
        cases len with
        | zero => simp at hne
        | succ k => omega
      obtain ⟨g, o, spot⟩ := ad
      have hspot : spot = none := by
        obtain ⟨u, hu⟩ : ∃ u, (f (Q 0))[0]? = some u := ⟨(f (Q 0))[0]'(by rw [hf]; exact hk0), List.getElem?_eq_getElem (by rw [hf]; exact hk0)⟩
        have h00 := (hQ 0 hpos).1 0 u hu
        simpa [Addr.add] using World.cell?_spot h00
      subst hspot
      refine ⟨g, o, rfl, fun i q hi j u hj => ?_⟩
      have hlt : i < len := by
        have := (List.getElem?_eq_some_iff.1 hi).1
        simpa using this
      have hq : Q i = q := by simpa [hlt] using hi
      have := (hQ i hlt).1 j u (by rw [hq]; exact hj)
      rwa [add_plain, add_plain] at this
end
end Go.Proofs.YthaoalmhhgllmaaDoor
namespace Go.Proofs.YthaoalmhhgllmaaDoor
open Go.RowKit
def At2 (w : World) (g : Nat) (l : List (Int × Int)) : Prop := ∀ (i : Nat) (x y : Int), l[i]? = some (x, y) → w.cell? ⟨g, i * 2, none⟩ = some (.int .i64 x) ∧ w.cell? ⟨g, i * 2 + 1, none⟩ = some (.int .i64 y)
theorem cells2_at : ∀ (l : List (Int × Int)) (i : Nat) (x y : Int), l[i]? = some (x, y) → (cells2 l)[i * 2]? = some (.int .i64 x) ∧ (cells2 l)[i * 2 + 1]? = some (.int .i64 y)
  | [], i, x, y, h => by simp at h
  | p :: t, 0, x, y, h => by
    simp at h; subst h
    exact ⟨rfl, rfl⟩
  | p :: t, i + 1, x, y, h => by
    have := cells2_at t i x y (by simpa using h)
    have e1 : (i + 1) * 2 = i * 2 + 2 := by omega
    have e : cells2 (p :: t) = .int .i64 p.1 :: .int .i64 p.2 :: cells2 t := rfl
    rw [e, e1, List.getElem?_cons_succ, List.getElem?_cons_succ, List.getElem?_cons_succ, List.getElem?_cons_succ]
    exact this
theorem at2_of_own {w : World} {base g cap : Nat} {l : List (Int × Int)} (h : w.ownsRow base 24 2 (.slice (some ⟨g, 0, none⟩) l.length cap) l.length (cells2 l)) : At2 w g l := by
  intro i x y hi
  have hlt : i < l.length := (List.getElem?_eq_some_iff.1 hi).1
  obtain ⟨h1, h2⟩ := cells2_at l i x y hi
  exact ⟨(h.cellAt (i * 2) (by omega)).trans h1, (h.cellAt (i * 2 + 1) (by omega)).trans h2⟩

theorem placeGuard : Tryd.prog.eqGuardType Tryd.prog.depth 24 = false := by kernel_rfl
theorem placeStood : Tryd.prog.stoodInHeld 24 = false := by kernel_rfl
theorem placeStruct : Tryd.prog.underlying 24 = some (.struct (Tryd.prog.fieldsOf 24)) := by kernel_rfl
theorem guard_place (op : BinOp) (X Y : Operand) (xs ys : Array Value) (W : World) : (eqGuard op 24 X Y (.agg xs) (.agg ys)).run Tryd.prog W = .ok () W := run_eqGuard_agg W op 24 X Y xs ys placeGuard
end Go.Proofs.YthaoalmhhgllmaaDoor
namespace Go.Proofs.YthaoalmhhgllmaaDoor
open Go.ChangeShapes Go.WideShapes Go.RowKit Go.Deep
theorem laidOutT : laidOutB Tryd.prog = true := by kernel_rfl
theorem cells_tree : Tryd.prog.cellsOf 29 = 8 := by kernel_rfl
theorem cells_kind : Tryd.prog.cellsOf 22 = 1 := by kernel_rfl
theorem cells_int : Tryd.prog.cellsOf 3 = 1 := by kernel_rfl
theorem cells_range : Tryd.prog.cellsOf 26 = 4 := by kernel_rfl
theorem cells_place : Tryd.prog.cellsOf 24 = 2 := by kernel_rfl
theorem cells_str : Tryd.prog.cellsOf 9 = 1 := by kernel_rfl
theorem cells_kids : Tryd.prog.cellsOf 27 = 1 := by kernel_rfl
def leaf0 : Tr := .mk 2 0 0 0 0 0 [] []
section
variable {H : Type} {enc : TypeId × Value → H} {w : World} {base : Nat} {spare : Nat → Bool} {held : Bool}
theorem trodPlace {fuel : Nat} {cs : List Value} {x : DataW H × List MemPlace} (hl : cs.length = 2) (h : DataW.trod enc Tryd.prog w base spare held fuel 24 cs = some x) :
    ∃ a b : Int, cs = [.int .i64 a, .int .i64 b] := by
  match cs, hl with
  | [c0, c1], _ =>
    obtain ⟨y0, y1, n, rfl, _, hy0, hy1⟩ := trod_struct2 Tryd.underlying24 h
    simp only [cells_int] at hy0 hy1
    obtain ⟨a, e0, rfl, wa⟩ := DataW.trod_int Tryd.underlying3 hy0
    obtain ⟨b, e1, rfl, wb⟩ := DataW.trod_int Tryd.underlying3 hy1
    simp at e0 e1
    subst e0 e1
    exact ⟨a, b, rfl⟩
theorem le_of_wf {n : Int} (h : (Lit.int .i64 n).wf = true) : n ≤ 9223372036854775807 := by
  have e1 : IntKind.i64.min = -9223372036854775808 := rfl
  have e2 : IntKind.i64.max = 9223372036854775807 := rfl
  simp [Lit.wf, e1, e2] at h
  exact h.2
theorem words_of (s : ByteArray) : s = ⟨s.data.toList.toArray⟩ := by cases s; simp
set_option maxRecDepth 100000 in
set_option maxHeartbeats 2000000 in
theorem tree_of_trod : ∀ (fuel : Nat) {cs : List Value} {x : DataW H × List MemPlace}, DataW.trod enc Tryd.prog w base spare held fuel 29 cs = some x →
    ∃ (t : Tr) (A : Option Addr) (cap : Nat), cs = [.int .i64 t.kind, .int .i64 t.num, .int .i64 t.c1, .int .i64 t.r1, .int .i64 t.c2, .int .i64 t.r2, .string ⟨t.word.toArray⟩, .slice A t.kids.length cap] ∧ KV w (fun _ => True) t A ∧ Wid t ∧ Fit t := by
  intro fuel
  induction fuel using Nat.strongRecOn with
  | ind fuel ih =>
  intro cs x h
  obtain ⟨xs, n, rfl, rfl, hcl, hxl, hf⟩ := DataW.trod_struct Tryd.underlying29 h
  rw [cells_tree] at hcl
  obtain ⟨c0, c1, c2, c3, c4, c5, c6, c7, rfl⟩ : ∃ c0 c1 c2 c3 c4 c5 c6 c7, cs = [c0, c1, c2, c3, c4, c5, c6, c7] := by
    match cs, hcl with
    | [a, b, c, d, e, f, g, h], _ => exact ⟨a, b, c, d, e, f, g, h, rfl⟩
  match xs, hxl with
  | [y0, y1, y2, y3, y4], _ =>
  have g0 : DataW.trod enc Tryd.prog w base spare held n 22 [c0] = some y0 := by have := hf 0 _ rfl; rw [show ∀ z : TypeId, z = 22 → Tryd.prog.cellsOf z = 1 from fun z hz => by rw [hz]; exact cells_kind] at this; exact this; rfl
  have g1 : DataW.trod enc Tryd.prog w base spare held n 3 [c1] = some y1 := by have := hf 1 _ rfl; rw [show ∀ z : TypeId, z = 3 → Tryd.prog.cellsOf z = 1 from fun z hz => by rw [hz]; exact cells_int] at this; exact this; rfl
  have g2 : DataW.trod enc Tryd.prog w base spare held n 26 [c2, c3, c4, c5] = some y2 := by have := hf 2 _ rfl; rw [show ∀ z : TypeId, z = 26 → Tryd.prog.cellsOf z = 4 from fun z hz => by rw [hz]; exact cells_range] at this; exact this; rfl
  have g3 : DataW.trod enc Tryd.prog w base spare held n 9 [c6] = some y3 := by have := hf 3 _ rfl; rw [show ∀ z : TypeId, z = 9 → Tryd.prog.cellsOf z = 1 from fun z hz => by rw [hz]; exact cells_str] at this; exact this; rfl
  have g4 : DataW.trod enc Tryd.prog w base spare held n 27 [c7] = some y4 := by have := hf 4 _ rfl; rw [show ∀ z : TypeId, z = 27 → Tryd.prog.cellsOf z = 1 from fun z hz => by rw [hz]; exact cells_kids] at this; exact this; rfl
  clear h hf
  obtain ⟨k, e0, _, _⟩ := DataW.trod_int Tryd.underlying22 g0
  obtain ⟨m, e1, _, wm⟩ := DataW.trod_int Tryd.underlying3 g1
  obtain ⟨p0, p1, n2, _, _, h0, h1⟩ := trod_struct2 Tryd.underlying26 g2
  simp only [cells_place] at h0 h1
  obtain ⟨a, b, e2⟩ := trodPlace rfl h0
  obtain ⟨c, d, e3⟩ := trodPlace rfl h1
  obtain ⟨s, e4, _, _⟩ := DataW.trod_string Tryd.underlying9 g3
  simp at e0 e1 e2 e3 e4
  obtain ⟨rfl, rfl⟩ := e2
  obtain ⟨rfl, rfl⟩ := e3
  subst e0 e1 e4
  have hm := le_of_wf wm
  clear g0 g1 g2 g3 h0 h1
  rcases DataW.trod_slice Tryd.underlying27 g4 with ⟨e5, _⟩ | ⟨ad, len, cap, el, rs, n4, rfl, e5, _, _, hlc, hcm, hel, helem, _, _⟩
  · simp at e5
    subst e5
    exact ⟨.mk k m a b c d s.data.toList [], none, 0, by simp [Tr.kind, Tr.num, Tr.c1, Tr.r1, Tr.c2, Tr.r2, Tr.word, Tr.kids], KV.mk (.inl rfl), .mk (Nat.zero_le _) (fun t ht => by cases ht), .mk hm (fun t ht => by cases ht)⟩
  · simp at e5
    subst e5
    have key : ∀ i, i < len → ∃ q : Tr × Option Addr × Nat, (w.cell? (ad.add (i * 8)) = some (.int .i64 q.1.kind) ∧ w.cell? (ad.add (i * 8 + 1)) = some (.int .i64 q.1.num) ∧ w.cell? (ad.add (i * 8 + 2)) = some (.int .i64 q.1.c1) ∧ w.cell? (ad.add (i * 8 + 3)) = some (.int .i64 q.1.r1) ∧
        w.cell? (ad.add (i * 8 + 4)) = some (.int .i64 q.1.c2) ∧ w.cell? (ad.add (i * 8 + 5)) = some (.int .i64 q.1.r2) ∧ w.cell? (ad.add (i * 8 + 6)) = some (.string ⟨q.1.word.toArray⟩) ∧ w.cell? (ad.add (i * 8 + 7)) = some (.slice q.2.1 q.1.kids.length q.2.2)) ∧ KV w (fun _ => True) q.1 q.2.1 ∧ Wid q.1 ∧ Fit q.1 := by
      intro i hi
      have h1 := helem i hi
      rw [cells_tree] at h1
      obtain ⟨y, hy⟩ : ∃ y, el[i]? = some y := ⟨el[i]'(by omega), List.getElem?_eq_getElem (by omega)⟩
      rw [hy] at h1
      obtain ⟨ce, hce, hte⟩ := Option.bind_eq_some_iff.1 h1
      obtain ⟨t, A, ca, rfl, hk, hw, hfi⟩ := ih n4 (by omega) hte
      obtain ⟨_, _, hcell⟩ := World.cells?_some hce
      refine ⟨(t, A, ca), ⟨?_, ?_, ?_, ?_, ?_, ?_, ?_, ?_⟩, hk, hw, hfi⟩
      · have := hcell 0 (by omega); rw [add_add] at this; simpa using this
      · have := hcell 1 (by omega); rw [add_add] at this; simpa using this
      · have := hcell 2 (by omega); rw [add_add] at this; simpa using this
      · have := hcell 3 (by omega); rw [add_add] at this; simpa using this
      · have := hcell 4 (by omega); rw [add_add] at this; simpa using this
      · have := hcell 5 (by omega); rw [add_add] at this; simpa using this
      · have := hcell 6 (by omega); rw [add_add] at this; simpa using this
      · have := hcell 7 (by omega); rw [add_add] at this; simpa using this
    haveI : Inhabited (Tr × Option Addr × Nat) := ⟨(leaf0, none, 0)⟩
    obtain ⟨Q, hQ⟩ := choose_lt key
    have hlen : ((List.range len).map fun i => (Q i).1).length = len := by simp
    refine ⟨.mk k m a b c d s.data.toList ((List.range len).map fun i => (Q i).1), some ad, cap, by simp [Tr.kind, Tr.num, Tr.c1, Tr.r1, Tr.c2, Tr.r2, Tr.word, Tr.kids], KV.mk ?_, .mk (by rw [hlen]; omega) (fun t ht => ?_), .mk hm (fun t ht => ?_)⟩
    · by_cases hz : len = 0
      · left; subst hz; rfl
      · right
        obtain ⟨g, o, spot⟩ := ad
        have h00 := (hQ 0 (by omega)).1.1
        have hspot : spot = none := by simpa [Addr.add] using World.cell?_spot h00
        subst hspot
        refine ⟨g, o, rfl, trivial, ?_, KL.of fun i t hi => ?_⟩
        · rw [add_plain] at h00
          exact Lib.lt_of_cell h00
        · have hi' : ((List.range len).map fun i => (Q i).1)[i]? = some t := hi
          have hlt : i < len := by
            have := (List.getElem?_eq_some_iff.1 hi').1
            simpa using this
          have hq : (Q i).1 = t := by simpa [hlt] using hi'
          obtain ⟨⟨q0, q1, q2, q3, q4, q5, q6, q7⟩, hk, _, _⟩ := hQ i hlt
          rw [add_plain] at q0 q1 q2 q3 q4 q5 q6 q7
          rw [hq] at q0 q1 q2 q3 q4 q5 q6 q7 hk
          refine ⟨(Q i).2.1, (Q i).2.2, ?_, hk⟩
          rw [Nat.mul_comm 8 i]
          exact ⟨q0, q1, q2, q3, q4, q5, q6, q7⟩
    · obtain ⟨i, hi, rfl⟩ := List.mem_map.1 ht
      exact (hQ i (by simpa using hi)).2.2.1
    · obtain ⟨i, hi, rfl⟩ := List.mem_map.1 ht
      exact (hQ i (by simpa using hi)).2.2.2
set_option maxRecDepth 100000 in
theorem open_tree {r : Reach} {b0 : Nat} {v : Value} {d : DataW H} {p : List MemPlace} (hv : Value.okWide Tryd.prog w r b0 29 v) (h : DataW.Trod enc Tryd.prog w base spare held 29 v d p) :
    ∃ (t : Tr) (A : Option Addr) (cap : Nat), v = tv t A cap ∧ KV w (fun _ => True) t A ∧ Wid t ∧ Fit t := by
  obtain ⟨cs, rfl, hsz⟩ := okWide_struct Tryd.underlying29 hv
  obtain ⟨fuel, hf⟩ := h
  obtain ⟨t, A, cap, he, hk, hw, hfi⟩ := tree_of_trod fuel hf
  refine ⟨t, A, cap, ?_, hk, hw, hfi⟩
  unfold tv
  obtain ⟨l⟩ := cs
  simp [Value.cells] at he
  rw [he]
end
end Go.Proofs.YthaoalmhhgllmaaDoor
namespace Go.Proofs.YthaoalmhhgllmaaDoor
open Go.RowKit
def celV (q : Cel) : List Value := [.int .i64 q.c, .int .i64 q.r, .int .i64 q.n, .int .i64 q.f]
def AtC (w : World) (g o : Nat) (l : List Cel) : Prop := AtR celV 4 w g o l
theorem AtC.get {w : World} {g o : Nat} {l : List Cel} (h : AtC w g o l) {i : Nat} {q : Cel} (hi : l[i]? = some q) :
    w.cell? ⟨g, o + i * 4, none⟩ = some (.int .i64 q.c) ∧ w.cell? ⟨g, o + i * 4 + 1, none⟩ = some (.int .i64 q.r) ∧ w.cell? ⟨g, o + i * 4 + 2, none⟩ = some (.int .i64 q.n) ∧ w.cell? ⟨g, o + i * 4 + 3, none⟩ = some (.int .i64 q.f) :=
  ⟨h i q hi 0 _ rfl, h i q hi 1 _ rfl, h i q hi 2 _ rfl, h i q hi 3 _ rfl⟩
theorem AtC.below {w w' : World} {g o : Nat} {l : List Cel} (h : AtC w g o l) (hb : Below w.heap.size w w') : AtC w' g o l := fun i q hi j u hj => keep_cell hb (h i q hi j u hj)
def ListC (w : World) (A : Option Addr) (l : List Cel) : Prop := l ≠ [] → ∃ g o, A = some ⟨g, o, none⟩ ∧ AtC w g o l
theorem ListC.below {w w' : World} {A : Option Addr} {l : List Cel} (h : ListC w A l) (hb : Below w.heap.size w w') : ListC w' A l := fun hl => by
  obtain ⟨g, o, e, hc⟩ := h hl
  exact ⟨g, o, e, hc.below hb⟩
theorem cAt_app' {x y : Int} : ∀ (l m : List Cel), cAt x y l = none → cAt x y (l ++ m) = cAt x y m
  | [], m, _ => rfl
  | q :: l, m, h => by
    rw [cAt] at h
    by_cases hp : q.c = x ∧ q.r = y
    · rw [if_pos hp] at h; cases h
    · rw [if_neg hp] at h
      rw [List.cons_append, cAt, if_neg hp]; exact cAt_app' l m h
theorem cAt_mono {x y : Int} : ∀ (l m : List Cel) {v : Int × Int}, cAt x y l = some v → cAt x y (l ++ m) = some v
  | [], m, v, h => by cases h
  | q :: l, m, v, h => by
    rw [cAt] at h
    rw [List.cons_append, cAt]
    by_cases hp : q.c = x ∧ q.r = y
    · rw [if_pos hp] at h ⊢; exact h
    · rw [if_neg hp] at h ⊢; exact cAt_mono l m h
theorem cAt_one {x y : Int} (q : Cel) : cAt x y [q] = if q.c = x ∧ q.r = y then some (aloneV q) else none := by rw [cAt, cAt]
theorem cAt_no {x y : Int} {l : List Cel} {i : Nat} {q : Cel} (hi : l[i]? = some q) (hp : cAt x y (l.take i) = none) (hq : (q.c == x && q.r == y) = false) : cAt x y (l.take (i + 1)) = none := by
  rw [List.take_add_one, hi, cAt_app' _ _ hp]
  show cAt x y [q] = none
  rw [cAt_one, if_neg (by simpa using hq)]
theorem cAt_yes {x y : Int} {l : List Cel} {i : Nat} {q : Cel} (hi : l[i]? = some q) (hp : cAt x y (l.take i) = none) (hq : (q.c == x && q.r == y) = true) : cAt x y l = some (aloneV q) := by
  have h : cAt x y (l.take (i + 1)) = some (aloneV q) := by
    rw [List.take_add_one, hi, cAt_app' _ _ hp]
    show cAt x y [q] = _
    rw [cAt_one, if_pos (by simpa using hq)]
  have := cAt_mono (l.take (i + 1)) (l.drop (i + 1)) h
  rwa [List.take_append_drop] at this
theorem eql_place (x y p q : Int) (W : World) : (binOp .eql 24 (.agg #[.int .i64 x, .int .i64 y]) (.agg #[.int .i64 p, .int .i64 q])).run Tryd.prog W = .ok (.bool (x == p && y == q)) W := by
  rw [run_eql_struct, run_equalIn_agg W 9999 24 _ _ placeStruct placeStood]
  by_cases h1 : x = p <;> by_cases h2 : y = q <;> simp [go_sem, h1, h2]
def oN (o : Option (Int × Int)) : Int := (o.getD (0, 0)).1
def oF (o : Option (Int × Int)) : Int := (o.getD (0, 0)).2
set_option maxHeartbeats 2000000 in
set_option maxRecDepth 10000 in
theorem rAt_any (l : List Cel) (hl : l.length ≤ maxLen) (A : Option Addr) (cap : Nat) (x y : Int) (w : World) (hc : ListC w A l) :
    Calls Tryd.prog 27 #[.slice A l.length cap, .agg #[.int .i64 x, .int .i64 y]] w fun e w' => e = .returned (.tuple #[.agg #[.int .i64 (oN (cAt x y l)), .int .i64 (oF (cAt x y l))], .bool (cAt x y l).isSome]) ∧ Below w.heap.size w w' := by
  have HC := Lib.hid hc
  unfold maxLen at hl
  clear hc
  go_enter Tryd.func27, Tryd.ntmps27
  go_wp2_with fail
  go_loopw [6] (fun vi wr => ∃ i : Nat, i ≤ l.length ∧ vi = .int .i64 (i : Int) ∧ Hid (cAt x y (l.take i) = none) ∧ Below (w.heap.size + 1 + 1) ((w.alloc (.cells #[.int .i64 x, .int .i64 y] 24)).alloc (.cells #[.int .i64 0, .int .i64 0] 53)) wr) (fun vi _ => l.length - (intOf vi).toNat)
  case atStart => exact ⟨0, Nat.zero_le _, rfl, Lib.hid (by rw [List.take_zero, cAt]), Below.refl _ _⟩
  case round =>
    obtain ⟨i, hi, rfl, HT, hb⟩ := hrel
    have p0 : wr.cell? ⟨w.heap.size, 0, none⟩ = some (.int .i64 x) := by rw [hb.cell (by simp; omega)]; simp [go_sem]
    have p1 : wr.cell? ⟨w.heap.size, 1, none⟩ = some (.int .i64 y) := by rw [hb.cell (by simp; omega)]; simp [go_sem]
    have k0 : wr.cell? ⟨w.heap.size + 1, 0, none⟩ = some (.int .i64 0) := by rw [hb.cell (by simp)]; simp [go_sem]
    have k1 : wr.cell? ⟨w.heap.size + 1, 1, none⟩ = some (.int .i64 0) := by rw [hb.cell (by simp)]; simp [go_sem]
    have f0 : wr.frozen? ⟨w.heap.size + 1, 0, none⟩ = false := by rw [hb.frozen (by simp)]; simp [go_sem]
    have f1 : wr.frozen? ⟨w.heap.size + 1, 1, none⟩ = false := by rw [hb.frozen (by simp)]; simp [go_sem]
    have z0 : w.heap.size + 1 < wr.heap.size := by have := hb.size; simp at this; omega
    have z1 : w.heap.size < wr.heap.size := by omega
    have b0 : Below w.heap.size w wr := (((Below.refl _ _).alloc (Nat.le_refl _) _).alloc (by simp) _).trans (hb.mono (by omega))
    by_cases hlt : i < l.length
    · obtain ⟨q, hq⟩ : ∃ q, l[i]? = some q := ⟨_, List.getElem?_eq_getElem hlt⟩
      obtain ⟨g, o, rfl, hat⟩ := HC.out (by rintro rfl; simp at hlt)
      obtain ⟨c0, c1, c2, c3⟩ := (hat.below b0).get hq
      have hG := fun X Y W => guard_place .eql X Y #[.int .i64 q.c, .int .i64 q.r] #[.int .i64 x, .int .i64 y] W
      have hE := eql_place q.c q.r x y
      have HN := Lib.hid (cAt_no (x := x) (y := y) hq HT.out)
      have HY := Lib.hid (cAt_yes (x := x) (y := y) hq HT.out)
      clear hq hat
      generalize (q.c == x && q.r == y) = M at *
      cases M with
      | false =>
        have HN2 := Lib.hid (HN.out rfl)
        clear HN HY k0 k1 f0 f1 c2 c3
        go_wp2_with fail
        go_quiet (fail)
        go_wp2_with fail
        go_roundw
        case rel => exact ⟨i + 1, by omega, by go_num, HN2, below_drewN hb _⟩
        case measure => simp [intOf]; omega
      | true =>
        have HY2 := Lib.hid (HY.out rfl)
        clear HN HY
        cases hf : (q.f != 0) with
        | true =>
          have E1 : Hid (oN (cAt x y l) = 0 ∧ oF (cAt x y l) = q.f ∧ (cAt x y l).isSome = true) := Lib.hid (by
            rw [HY2.out]; unfold oN oF aloneV
            have hn : ¬ q.f = 0 := by simpa using hf
            simp [hn])
          clear c2
          go_wp2_with fail
          go_quiet (fail)
          go_wp2_with fail
          exact bodyPost_ret (v := .tuple #[.agg #[.int .i64 0, .int .i64 q.f], .bool true]) (by simp [results, Tryd.results27, go_sem, k0, k1]) rfl
            ⟨by rw [E1.out.1, E1.out.2.1, E1.out.2.2], by repeat' (first | with_reducible exact b0 | exact Nat.le_succ _ | with_reducible refine Below.setCell ?_ ?_ _ | with_reducible refine below_drewN ?_ _)⟩
        | false =>
          have E1 : Hid (oN (cAt x y l) = q.n ∧ oF (cAt x y l) = q.f ∧ (cAt x y l).isSome = true) := Lib.hid (by
            rw [HY2.out]; unfold oN oF aloneV
            have hn : q.f = 0 := by simpa using hf
            simp [hn])
          go_wp2_with fail
          go_quiet (fail)
          go_wp2_with fail
          exact bodyPost_ret (v := .tuple #[.agg #[.int .i64 q.n, .int .i64 q.f], .bool true]) (by simp [results, Tryd.results27, go_sem, k0, k1]) rfl
            ⟨by rw [E1.out.1, E1.out.2.1, E1.out.2.2], by repeat' (first | with_reducible exact b0 | exact Nat.le_succ _ | with_reducible refine Below.setCell ?_ ?_ _ | with_reducible refine below_drewN ?_ _)⟩
    · have hii : i = l.length := by omega
      subst hii
      have hz := HT.out
      rw [List.take_length] at hz
      have HZ : Hid (oN (cAt x y l) = 0 ∧ oF (cAt x y l) = 0 ∧ (cAt x y l).isSome = false) := Lib.hid (by rw [hz]; exact ⟨rfl, rfl, rfl⟩)
      clear hz
      go_wp2_with fail
      exact bodyPost_ret (v := .tuple #[.agg #[.int .i64 0, .int .i64 0], .bool false]) (by simp [results, Tryd.results27, go_sem, k0, k1]) rfl
        ⟨by rw [HZ.out.1, HZ.out.2.1, HZ.out.2.2], by repeat' (first | with_reducible exact b0 | exact Nat.le_succ _ | with_reducible refine Below.setCell ?_ ?_ _ | with_reducible refine below_drewN ?_ _)⟩
end Go.Proofs.YthaoalmhhgllmaaDoor
namespace Go.Proofs.YthaoalmhhgllmaaDoor
open Go.RowKit
def AtI (w : World) (g o : Nat) (l : List Int) : Prop := AtR (fun x : Int => [.int .i64 x]) 1 w g o l
def ListI (w : World) (A : Option Addr) (l : List Int) : Prop := l ≠ [] → ∃ g o, A = some ⟨g, o, none⟩ ∧ AtI w g o l
theorem ListI.below {w w' : World} {A : Option Addr} {l : List Int} (h : ListI w A l) (hb : Below w.heap.size w w') : ListI w' A l := fun hl => by
  obtain ⟨g, o, e, hc⟩ := h hl
  exact ⟨g, o, e, fun i q hi j u hj => keep_cell hb (hc i q hi j u hj)⟩
theorem joinL_tk {l : List Int} {i : Nat} {x : Int} (h : l[i]? = some x) : joinL (l.take (i + 1)) = joinW (joinL (l.take i)) x := by rw [List.take_add_one, h]; exact joinL_snoc _ _
def knoV (q : Kno) : List Value := [.int .i64 q.c, .int .i64 q.r, .int .i64 q.w]
def AtK (w : World) (g o : Nat) (l : List Kno) : Prop := AtR knoV 3 w g o l
def ListK (w : World) (A : Option Addr) (l : List Kno) : Prop := l ≠ [] → ∃ g o, A = some ⟨g, o, none⟩ ∧ AtK w g o l
theorem ListK.below {w w' : World} {A : Option Addr} {l : List Kno} (h : ListK w A l) (hb : Below w.heap.size w w') : ListK w' A l := fun hl => by
  obtain ⟨g, o, e, hc⟩ := h hl
  exact ⟨g, o, e, fun i q hi j u hj => keep_cell hb (hc i q hi j u hj)⟩
end Go.Proofs.YthaoalmhhgllmaaDoor
namespace Go.Proofs.YthaoalmhhgllmaaDoor
open Go.ChangeShapes Go.WideShapes Go.ChangeAt Go.RowKit
theorem own : ownKnob Tryd.prog.godebug = none := by kernel_rfl
theorem gStr : Tryd.prog.globalNamed "gridiron/syntax.strengths" = some 0 := by kernel_rfl
theorem yStr : (Tryd.prog.globals[0]?).map (·.type) = some 135 := by kernel_rfl
theorem cellsStr : Tryd.prog.cellsOf 9 = 1 := by kernel_rfl
theorem cellsRow : Tryd.prog.cellsOf 134 = 1 := by kernel_rfl
theorem cellsThree : Tryd.prog.cellsOf 135 = 3 := by kernel_rfl
theorem cellsPlace : Tryd.prog.cellsOf 24 = 2 := by kernel_rfl
theorem ba_of_list {s : ByteArray} {l : List UInt8} (h : s.data.toList = l) : s = ⟨l.toArray⟩ := by
  obtain ⟨d⟩ := s
  simp only at h
  rw [← h]
theorem strs_of_trod {w : World} {fuel : Nat} {c : Value} {y : DataW Unit × List MemPlace} {l : List ByteArray} (hl : 0 < l.length)
    (h : DataW.trod (fun _ => ()) Tryd.prog w 0 (fun _ => true) false fuel 134 [c] = some y) (hy : y.1 = .slice (l.map fun s => .lit (.string s.data.toList)) []) :
    ∃ g o cap, c = .slice (some ⟨g, o, none⟩) l.length cap ∧ SAt w g o l := by
  rcases DataW.trod_slice Tryd.underlying134 h with ⟨_, hx⟩ | ⟨a, len, cap, el, rs, m, rfl, hcs, hx, _, hlc, _, hel, helem, hsp, _⟩
  · rw [hx] at hy; cases hy
  rw [hx] at hy
  simp only [DataW.slice.injEq] at hy
  obtain ⟨eE, eR⟩ := hy
  have hlen : len = l.length := by
    have := congrArg List.length eE
    simp at this
    omega
  have hcell : ∀ i (s : ByteArray), l[i]? = some s → w.cell? (a.add i) = some (.string s) := by
    intro i s hi
    have hil : i < l.length := (List.getElem?_eq_some_iff.1 hi).1
    have h1 := helem i (by omega)
    rw [cellsStr] at h1
    obtain ⟨b, hb⟩ : ∃ b, el[i]? = some b := ⟨el[i]'(by omega), List.getElem?_eq_getElem (by omega)⟩
    rw [hb] at h1
    obtain ⟨ce, hce, hte⟩ := Option.bind_eq_some_iff.1 h1
    obtain ⟨z, hz, hbz, _⟩ := DataW.trod_string Tryd.underlying9 hte
    have hb1 : b.1 = .lit (.string s.data.toList) := by
      have h5 : (el.map (·.1))[i]? = some b.1 := by rw [List.getElem?_map, hb]; rfl
      rw [eE, List.getElem?_map, hi] at h5
      exact (Option.some.inj h5).symm
    rw [hbz] at hb1
    simp only [DataW.lit.injEq, Lit.string.injEq] at hb1
    have hzs : z = s := by
      have := ba_of_list hb1
      rw [this]
    obtain ⟨_, _, hcc⟩ := World.cells?_some hce
    have := hcc 0 (by omega)
    rw [hz] at this
    simp only [Nat.mul_one] at this
    have e1 : (a.add i).add 0 = a.add i := by simp [Addr.add]
    rw [e1] at this
    rw [this, hzs]
    rfl
  obtain ⟨R, o, sR⟩ := a
  obtain ⟨s0, hs0⟩ : ∃ s, l[0]? = some s := ⟨l[0]'hl, List.getElem?_eq_getElem hl⟩
  have h00 := hcell 0 s0 hs0
  have hspot : sR = none := by simpa [Addr.add] using World.cell?_spot h00
  subst hspot
  refine ⟨R, o, cap, ?_, fun j s hj => ?_⟩
  · simp only [List.cons.injEq, and_true] at hcs
    rw [hcs, hlen]
  · have := hcell j s hj
    rwa [add_plain] at this
theorem strs_of {w : World} {r : List (String × DataW Unit)} (h : laidMet Tryd.prog (("gridiron/syntax.strengths", Rows.laid_gridiron_syntax_strengths) :: r) w) : Strs w.heap.size w.heap.size w := by
  obtain ⟨ps, ⟨g, t, cs, fuel, p, q, hg, ht, hvar, hd, _, _⟩, _⟩ := h
  obtain rfl := Option.some.inj (gStr.symm.trans hg)
  obtain rfl := Option.some.inj (yStr.symm.trans ht)
  obtain ⟨l⟩ := cs
  cases fuel with
  | zero => simp [DataW.trod] at hd
  | succ fuel =>
    simp only [DataW.trod, Tryd.underlying135, cellsThree, cellsRow] at hd
    split at hd
    · rename_i hl
      obtain ⟨c0, c1, c2, rfl⟩ : ∃ c0 c1 c2, l = [c0, c1, c2] := by
        match l, hl with
        | [a, b, c], _ => exact ⟨a, b, c, rfl⟩
      have e : List.range 3 = [0, 1, 2] := rfl
      rw [e] at hd
      simp only [Option.map_eq_some_iff, List.mapM_cons, List.mapM_nil, Option.bind_eq_bind, Option.bind_eq_some_iff, Option.pure_def, Option.some.injEq] at hd
      obtain ⟨xs, ⟨y0, h0, _, ⟨y1, h1, _, ⟨y2, h2, _, rfl, rfl⟩, rfl⟩, rfl⟩, hx⟩ := hd
      have hx1 := congrArg Prod.fst hx
      simp only [Rows.laid_gridiron_syntax_strengths, List.map_cons, List.map_nil, DataW.agg.injEq, List.cons.injEq, and_true] at hx1
      obtain ⟨e0, e1, e2⟩ := hx1
      obtain ⟨g0, o0, k0, rfl, a0⟩ := strs_of_trod (l := strL 0) (by decide) h0 e0
      obtain ⟨g1, o1, k1, rfl, a1⟩ := strs_of_trod (l := strL 1) (by decide) h1 e1
      obtain ⟨g2, o2, k2, rfl, a2⟩ := strs_of_trod (l := strL 2) (by decide) h2 e2
      have v0 := World.var?_cell hg hvar 0
      have v1 := World.var?_cell hg hvar 1
      have v2 := World.var?_cell hg hvar 2
      have hG : 0 < w.heap.size := Lib.lt_of_cell v0
      have l0 : g0 < w.heap.size := Lib.lt_of_cell (a0 0 _ rfl)
      have l1 : g1 < w.heap.size := Lib.lt_of_cell (a1 0 _ rfl)
      have l2 : g2 < w.heap.size := Lib.lt_of_cell (a2 0 _ rfl)
      refine ⟨⟨Nat.ne_of_gt hG, hG⟩, fun i hi => ?_⟩
      match i, hi with
      | 0, _ => exact ⟨g0, o0, k0, ⟨Nat.ne_of_lt l0, l0⟩, v0, a0⟩
      | 1, _ => exact ⟨g1, o1, k1, ⟨Nat.ne_of_lt l1, l1⟩, v1, a1⟩
      | 2, _ => exact ⟨g2, o2, k2, ⟨Nat.ne_of_lt l2, l2⟩, v2, a2⟩
    · cases hd
theorem b64_of_wf {a : Int} (h : (Lit.int .i64 a).wf = true) : B64 a := by
  have e1 : IntKind.i64.min = -9223372036854775808 := rfl
  have e2 : IntKind.i64.max = 9223372036854775807 := rfl
  simp [Lit.wf, e1, e2] at h
  exact h
section
variable {H : Type} {enc : TypeId × Value → H} {w : World} {base : Nat} {spare : Nat → Bool} {held : Bool}
theorem trodTwo {t f g : TypeId} {fuel : Nat} {cs : List Value} {x : DataW H × List MemPlace} {F0 F1 : Field} (ht : Tryd.prog.underlying t = some (.struct #[F0, F1])) (e0 : F0.type = f ∧ F0.offset = 0) (e1 : F1.type = g ∧ F1.offset = 1) (hf : Tryd.prog.underlying f = some (.int .i64)) (hg : Tryd.prog.underlying g = some (.int .i64)) (cf : Tryd.prog.cellsOf f = 1) (cg : Tryd.prog.cellsOf g = 1)
    (hl : cs.length = 2) (h : DataW.trod enc Tryd.prog w base spare held fuel t cs = some x) : ∃ a b : Int, cs = [.int .i64 a, .int .i64 b] ∧ B64 a ∧ B64 b := by
  match cs, hl with
  | [c0, c1], _ =>
    obtain ⟨y0, y1, n, rfl, _, hy0, hy1⟩ := trod_struct2 ht h
    rw [e0.1, e0.2, cf] at hy0
    rw [e1.1, e1.2, cg] at hy1
    obtain ⟨a, h0, rfl, wa⟩ := DataW.trod_int hf hy0
    obtain ⟨b, h1, rfl, wb⟩ := DataW.trod_int hg hy1
    simp at h0 h1
    subst h0 h1
    exact ⟨a, b, rfl, b64_of_wf wa, b64_of_wf wb⟩
theorem cellsInt : Tryd.prog.cellsOf 3 = 1 := by kernel_rfl
theorem cellsWay : Tryd.prog.cellsOf 31 = 1 := by kernel_rfl
theorem cellsKnown : Tryd.prog.cellsOf 37 = 3 := by kernel_rfl
set_option maxRecDepth 100000 in
theorem open_knowns {r : Reach} {b0 : Nat} {v : Value} {d : DataW H} {p : List MemPlace} (hv : Value.okWide Tryd.prog w r b0 30 v) (h : DataW.Trod enc Tryd.prog w base spare held 30 v d p) :
    ∃ (l : List Kno) (A : Option Addr) (cap : Nat), v = .slice A l.length cap ∧ l.length ≤ maxLen ∧ (∀ q ∈ l, B64 q.c ∧ B64 q.r) ∧ ListK w A l := by
  haveI : Inhabited Kno := ⟨⟨0, 0, 0⟩⟩
  refine open_rows knoV (fun q => B64 q.c ∧ B64 q.r) (fun _ => rfl) Tryd.underlying30 cellsKnown (by decide) (fun {fuel cs x} hl ht => ?_) hv h
  match cs, hl with
  | [c0, c1, c2], _ =>
    obtain ⟨y0, y1, n, rfl, _, hy0, hy1⟩ := trod_struct2 Tryd.underlying37 ht
    simp only [cellsPlace, cellsWay] at hy0 hy1
    obtain ⟨a, b, e1, wa, wb⟩ := trodTwo Tryd.underlying24 ⟨rfl, rfl⟩ ⟨rfl, rfl⟩ Tryd.underlying3 Tryd.underlying3 cellsInt cellsInt rfl hy0
    obtain ⟨z, e2, _, _⟩ := DataW.trod_int Tryd.underlying31 hy1
    simp at e1 e2
    obtain ⟨rfl, rfl⟩ := e1
    subst e2
    exact ⟨⟨a, b, z⟩, rfl, wa, wb⟩
structure Mov where
  c : Int
  r : Int
  w : Int
  f : Int
  b : Int
def movV (q : Mov) : List Value := [.int .i64 q.c, .int .i64 q.r, .int .u8 q.w, .int .i64 q.f, .int .u64 q.b]
def AtM (w : World) (g o : Nat) (l : List Mov) : Prop := AtR movV 5 w g o l
def ListM (w : World) (A : Option Addr) (l : List Mov) : Prop := l ≠ [] → ∃ g o, A = some ⟨g, o, none⟩ ∧ AtM w g o l
def OkM (q : Mov) : Prop := B64 q.c ∧ B64 q.r ∧ (0 ≤ q.w ∧ q.w ≤ 255) ∧ B64 q.f ∧ 0 ≤ q.b ∧ q.b ≤ 18446744073709551615
theorem cellsMove : Tryd.prog.cellsOf 70 = 5 := by kernel_rfl
theorem cellsU8 : Tryd.prog.cellsOf 5 = 1 := by kernel_rfl
theorem cellsU64 : Tryd.prog.cellsOf 68 = 1 := by kernel_rfl
theorem u8_of_wf {a : Int} (h : (Lit.int .u8 a).wf = true) : 0 ≤ a ∧ a ≤ 255 := by
  have e1 : IntKind.u8.min = 0 := rfl
  have e2 : IntKind.u8.max = 255 := rfl
  simp [Lit.wf, e1, e2] at h
  exact h
theorem u64_of_wf {a : Int} (h : (Lit.int .u64 a).wf = true) : 0 ≤ a ∧ a ≤ 18446744073709551615 := by
  have e1 : IntKind.u64.min = 0 := rfl
  have e2 : IntKind.u64.max = 18446744073709551615 := rfl
  simp [Lit.wf, e1, e2] at h
  exact h
set_option maxRecDepth 100000 in
theorem open_moves {r : Reach} {b0 : Nat} {v : Value} {d : DataW H} {p : List MemPlace} (hv : Value.okWide Tryd.prog w r b0 47 v) (h : DataW.Trod enc Tryd.prog w base spare held 47 v d p) :
    ∃ (l : List Mov) (A : Option Addr) (cap : Nat), v = .slice A l.length cap ∧ l.length ≤ maxLen ∧ (∀ q ∈ l, OkM q) ∧ ListM w A l := by
  haveI : Inhabited Mov := ⟨⟨0, 0, 0, 0, 0⟩⟩
  refine open_rows movV OkM (fun _ => rfl) Tryd.underlying47 cellsMove (by decide) (fun {fuel cs x} hl ht => ?_) hv h
  match cs, hl with
  | [c0, c1, c2, c3, c4], _ =>
    obtain ⟨xs, n, rfl, rfl, hcl, hxl, hf⟩ := DataW.trod_struct Tryd.underlying70 ht
    match xs, hxl with
    | [y0, y1, y2, y3], _ =>
    have g0 : DataW.trod enc Tryd.prog w base spare held n 24 [c0, c1] = some y0 := by have := hf 0 _ rfl; rw [show ∀ z : TypeId, z = 24 → Tryd.prog.cellsOf z = 2 from fun z hz => by rw [hz]; exact cellsPlace] at this; exact this; rfl
    have g1 : DataW.trod enc Tryd.prog w base spare held n 5 [c2] = some y1 := by have := hf 1 _ rfl; rw [show ∀ z : TypeId, z = 5 → Tryd.prog.cellsOf z = 1 from fun z hz => by rw [hz]; exact cellsU8] at this; exact this; rfl
    have g2 : DataW.trod enc Tryd.prog w base spare held n 3 [c3] = some y2 := by have := hf 2 _ rfl; rw [show ∀ z : TypeId, z = 3 → Tryd.prog.cellsOf z = 1 from fun z hz => by rw [hz]; exact cellsInt] at this; exact this; rfl
    have g3 : DataW.trod enc Tryd.prog w base spare held n 68 [c4] = some y3 := by have := hf 3 _ rfl; rw [show ∀ z : TypeId, z = 68 → Tryd.prog.cellsOf z = 1 from fun z hz => by rw [hz]; exact cellsU64] at this; exact this; rfl
    obtain ⟨a, b, e1, wa, wb⟩ := trodTwo Tryd.underlying24 ⟨rfl, rfl⟩ ⟨rfl, rfl⟩ Tryd.underlying3 Tryd.underlying3 cellsInt cellsInt rfl g0
    obtain ⟨z, e2, _, wz⟩ := DataW.trod_int Tryd.underlying5 g1
    obtain ⟨f, e3, _, wf⟩ := DataW.trod_int Tryd.underlying3 g2
    obtain ⟨u, e4, _, wu⟩ := DataW.trod_int Tryd.underlying68 g3
    simp at e1 e2 e3 e4
    obtain ⟨rfl, rfl⟩ := e1
    subst e2 e3 e4
    exact ⟨⟨a, b, z, f, u⟩, rfl, wa, wb, u8_of_wf wz, b64_of_wf wf, u64_of_wf wu⟩
end
noncomputable def low : Nat := (World.holding Tryd.prog default ⟨#[], #[], []⟩).heap.size
noncomputable def laidWorld (os : Os) : World :=
  let w0 := World.holding Tryd.prog os ⟨#[.cells #[.string ⟨#[60]⟩, .string ⟨#[60, 61]⟩, .string ⟨#[61]⟩, .string ⟨#[60, 62]⟩, .string ⟨#[62, 61]⟩, .string ⟨#[62]⟩] 9, .cells #[.string ⟨#[43]⟩, .string ⟨#[45]⟩] 9, .cells #[.string ⟨#[42]⟩, .string ⟨#[47]⟩] 9], #[], []⟩
  let put (h : Array Obj) (g : Nat) (cs : Array Value) : Array Obj := h.modify g fun
    | .cells _ t frozen => .cells cs t frozen
    | o => o
  { w0 with heap := put w0.heap 0 #[.slice (some ⟨low, 0, none⟩) 6 6, .slice (some ⟨low + 1, 0, none⟩) 2 2, .slice (some ⟨low + 2, 0, none⟩) 2 2] }
set_option maxRecDepth 100000 in
theorem laid_met2 (os : Os) (args : Array Value) : laidMet Tryd.prog Rows.monoHoldsRow.laid ((laidWorld os).forCall (fun _ _ => 0) ⟨#[], args, []⟩).memory :=
  laidMet_of_run' 8 (by kernel_rfl) (by kernel_rfl)
end Go.Proofs.YthaoalmhhgllmaaDoor
