/- Texts joined: CeC, TrS, TrU, TrV, TrC, TrD. -/
import Derived.Test.YthaoalmhhgllmaaGreatDoorMa11
import Derived.Test.YthaoalmhhgllmaaGreatDoorMa12
import Derived.Test.YthaoalmhhgllmaaGreatDoorMa08
import Derived.Deep.RegionWith
import Derived.Deep.QuietTactic
import Derived.BigQuiet
import Derived.Deep.RegionHeld3
import Derived.Test.YthaoalmhhgllmaaGreatDoorMa06
set_option linter.all false
set_option linter.unusedVariables false
set_option linter.unusedSimpArgs false
namespace Go.Proofs.YthaoalmhhgllmaaGreatDoor
open Go.RowKit

theorem par8 {w w1 : World} {v0 v1 v2 v3 v4 v5 v6 v7 : Value} (hb : Below (w.heap.size + 1 + 1) ((w.alloc (.cells #[v0, v1, v2, v3, v4, v5, v6, v7] 29)).alloc (.cells #[.int .i64 0, .int .i64 0] 35)) w1) :
    (w1.cell? ⟨w.heap.size, 0, none⟩ = some v0 ∧ w1.cell? ⟨w.heap.size, 1, none⟩ = some v1 ∧ w1.cell? ⟨w.heap.size, 2, none⟩ = some v2 ∧ w1.cell? ⟨w.heap.size, 3, none⟩ = some v3 ∧ w1.cell? ⟨w.heap.size, 4, none⟩ = some v4 ∧ w1.cell? ⟨w.heap.size, 5, none⟩ = some v5 ∧ w1.cell? ⟨w.heap.size, 6, none⟩ = some v6 ∧ w1.cell? ⟨w.heap.size, 7, none⟩ = some v7) ∧
    (w1.cell? ⟨w.heap.size + 1, 0, none⟩ = some (.int .i64 0) ∧ w1.cell? ⟨w.heap.size + 1, 1, none⟩ = some (.int .i64 0) ∧ w1.frozen? ⟨w.heap.size + 1, 0, none⟩ = false ∧ w1.frozen? ⟨w.heap.size + 1, 1, none⟩ = false) ∧ w.heap.size < w1.heap.size ∧ w.heap.size + 1 < w1.heap.size ∧ Below w.heap.size w w1 := by
  have hs := hb.size
  simp at hs
  have c : ∀ (i : Nat) (v : Value), ((w.alloc (.cells #[v0, v1, v2, v3, v4, v5, v6, v7] 29)).alloc (.cells #[.int .i64 0, .int .i64 0] 35)).cell? ⟨w.heap.size, i, none⟩ = some v → w1.cell? ⟨w.heap.size, i, none⟩ = some v := fun i v h => by rw [hb.cell (by simp; omega)]; exact h
  refine ⟨⟨c _ _ ?_, c _ _ ?_, c _ _ ?_, c _ _ ?_, c _ _ ?_, c _ _ ?_, c _ _ ?_, c _ _ ?_⟩, ⟨?_, ?_, ?_, ?_⟩, by omega, by omega, (((Below.refl _ _).alloc (Nat.le_refl _) _).alloc (by simp) _).trans (hb.mono (by omega))⟩
  all_goals first | (simp [go_sem]; done) | (rw [hb.cell (by simp)]; simp [go_sem]; done) | (rw [hb.frozen (by simp)]; simp [go_sem])
structure GE (t : Tr) : Prop where
  may : mayB t = true
  fit : Fit t
  cnt : cntT t ≤ 1000000
theorem GE.kid {t u : Tr} (h : GE t) (hu : u ∈ t.kids) : GE u := by
  obtain ⟨k, n, c, r, d, s, w, ks⟩ := t
  have hc := h.cnt
  rw [cntT] at hc
  refine ⟨may_kids h.may u hu, by have hf := h.fit; cases hf with | mk _ hf => exact hf u hu, ?_⟩
  have : ∀ ks : List Tr, u ∈ ks → cntT u ≤ cntL ks := by
    intro ks
    induction ks with
    | nil => intro h; cases h
    | cons a b ih =>
      intro h
      rw [cntL]
      rcases List.mem_cons.1 h with rfl | h
      · omega
      · have := ih h; omega
  have := this ks hu
  omega
theorem GE.len {t : Tr} (h : GE t) : t.kids.length ≤ 1000000 := by
  obtain ⟨k, n, c, r, d, s, w, ks⟩ := t
  have hc := h.cnt
  rw [cntT] at hc
  have := cnt_len ks
  show ks.length ≤ _
  omega
theorem GE.b64 {t : Tr} (h : GE t) {l : List Cel} (hc : ∀ q ∈ l, B64 q.n) : B64 (cmT l t).1 := b_cm hc t h.may h.fit h.cnt
theorem GE.itB {t : Tr} (h : GE t) {l : List Cel} (hc : ∀ q ∈ l, B64 q.n) : ∀ q ∈ itL l t.kids, B64 q.1 := by
  obtain ⟨k, n, c, r, d, s, w, ks⟩ := t
  have hcn := h.cnt
  rw [cntT] at hcn
  have hf := h.fit
  cases hf with
  | mk _ hf => exact b_itL hc ks (may_kids h.may) hf (show cntL ks ≤ 1000000 by omega)
theorem GE.itLen {t : Tr} (h : GE t) (l : List Cel) : (itL l t.kids).length ≤ maxLen := by
  have h1 := itL_le l t.kids
  have h2 := h.len
  unfold maxLen; omega
def CallCm (l : List Cel) (t : Tr) : Prop := ∀ (w : World) (P : Nat → Prop) (A : Option Addr) (cap : Nat) (LA : Option Addr) (lc : Nat), KV w P t A → ListC w LA l →
  Calls Tryz.prog 36 #[.agg #[.int .i64 t.kind, .int .i64 t.num, .int .i64 t.c1, .int .i64 t.r1, .int .i64 t.c2, .int .i64 t.r2, .string ⟨t.word.toArray⟩, .slice A t.kids.length cap], .slice LA l.length lc] w fun e w' => e = .returned (.agg #[.int .i64 (cmT l t).1, .int .i64 (cmT l t).2]) ∧ Below w.heap.size w w'

set_option maxHeartbeats 4000000 in
set_option maxRecDepth 10000 in
theorem call_ifF {l : List Cel} (hl : l.length ≤ maxLen) (t a b c : Tr) (hlen : t.kids.length ≤ 1000000) (h5 : t.kind = 5) (hwd : t.word = [73, 70]) (h0 : t.kids[0]? = some a) (h1 : t.kids[1]? = some b) (h2 : t.kids[2]? = some c) (ih : ∀ u ∈ t.kids, ComeC l u) (hf : (cmT l a).2 ≠ 0) : CallCm l t := by
  intro w P A cap LA lc hk hc
  have HE : Hid (cmT l t = cmT l a) := Lib.hid (by rw [cm_if h5 hwd h0 h1 h2]; exact if_pos hf)
  have xIF : (t.word == [73, 70]) = true := by rw [hwd]; rfl
  obtain ⟨g, o, rfl⟩ := hk.addr h0
  have HA := Lib.hid (ih a (List.mem_of_getElem? h0))
  have HR := Lib.hid (ih a (List.mem_of_getElem? h0))
  have HK := Lib.hid hk
  have HC := Lib.hid hc
  have HLL := Lib.hid hl
  have Ha := Lib.hid h0
  have Hz := Lib.hid h0
  have l2 : 2 < t.kids.length := (List.getElem?_eq_some_iff.1 h2).1
  have df : ((cmT l a).2 != 0) = true := by simpa using hf
  have hb0 : Below (w.heap.size + 1 + 1) ((w.alloc (.cells #[.int .i64 t.kind, .int .i64 t.num, .int .i64 t.c1, .int .i64 t.r1, .int .i64 t.c2, .int .i64 t.r2, .string ⟨t.word.toArray⟩, .slice (some ⟨g, o, none⟩) t.kids.length cap] 29)).alloc (.cells #[.int .i64 0, .int .i64 0] 35)) ((w.alloc (.cells #[.int .i64 t.kind, .int .i64 t.num, .int .i64 t.c1, .int .i64 t.r1, .int .i64 t.c2, .int .i64 t.r2, .string ⟨t.word.toArray⟩, .slice (some ⟨g, o, none⟩) t.kids.length cap] 29)).alloc (.cells #[.int .i64 0, .int .i64 0] 35)) := Below.refl _ _
  obtain ⟨⟨k0, k1, k2, k3, k4, k5, k6, k7⟩, ⟨kr0, kr1, kf0, kf1⟩, kz0, kz1, kb⟩ := par8 hb0
  obtain ⟨hg, A0, c0, ⟨q0, q1, q2, q3, q4, q5, q6, q7⟩, hk0⟩ := HK.out.kidAt kb Ha.out
  simp only [Nat.zero_mul, Nat.add_zero] at q0 q1 q2 q3 q4 q5 q6 q7
  have HC0 := Lib.hid (HA.out _ _ A0 c0 LA lc hk0 (HC.out.below kb))
  clear hk hc hl h0 h1 h2 ih h5 hwd hf hk0 hg HA
  clear k0 k1 k2 k3 k4 k5 k6 k7 kr0 kr1 kf0 kf1
  go_enter Tryz.func36, Tryz.ntmps36
  go_wp2_with fail
  refine Calls.mono HC0.out ?_; rintro e w1 ⟨rfl, b1⟩
  have hb1 := hb0.trans (b1.mono (by simp))
  obtain ⟨⟨m0, m1, m2, m3, m4, m5, m6, m7⟩, ⟨mr0, mr1, mf0, mf1⟩, mz0, mz1, mb⟩ := par8 hb1
  clear b1 hb1 q0 q1 q2 q3 q4 q5 q6 q7 kb kz0 kz1
  go_wp2_with fail
  exact bodyPost_ret (v := .agg #[.int .i64 (cmT l a).1, .int .i64 (cmT l a).2]) (by simp [results, Tryz.results36, go_sem, mr0, mr1, mz1, mf0, mf1]) rfl
    ⟨by rw [HE.out], (by repeat' (first | with_reducible assumption | exact Nat.le_succ _ | with_reducible exact Nat.le_refl _ | with_reducible refine Below.setCell ?_ ?_ _ | with_reducible refine Below.alloc ?_ ?_ _ | (simp; omega)))⟩
set_option maxHeartbeats 4000000 in
set_option maxRecDepth 10000 in
theorem call_ifY {l : List Cel} (hl : l.length ≤ maxLen) (t a b c : Tr) (hlen : t.kids.length ≤ 1000000) (h5 : t.kind = 5) (hwd : t.word = [73, 70]) (h0 : t.kids[0]? = some a) (h1 : t.kids[1]? = some b) (h2 : t.kids[2]? = some c) (ih : ∀ u ∈ t.kids, ComeC l u) (hf : (cmT l a).2 = 0) (hn : (cmT l a).1 ≠ 0) : CallCm l t := by
  intro w P A cap LA lc hk hc
  have HE : Hid (cmT l t = cmT l b) := Lib.hid (by rw [cm_if h5 hwd h0 h1 h2]; rw [if_neg (fun h => h hf)]; exact if_pos hn)
  have xIF : (t.word == [73, 70]) = true := by rw [hwd]; rfl
  obtain ⟨g, o, rfl⟩ := hk.addr h0
  have HA := Lib.hid (ih a (List.mem_of_getElem? h0))
  have HR := Lib.hid (ih b (List.mem_of_getElem? h1))
  have HK := Lib.hid hk
  have HC := Lib.hid hc
  have HLL := Lib.hid hl
  have Ha := Lib.hid h0
  have Hb := Lib.hid h1
  have l2 : 2 < t.kids.length := (List.getElem?_eq_some_iff.1 h2).1
  have df : ((cmT l a).2 != 0) = false := by simpa using hf
  have dn : ((cmT l a).1 != 0) = true := by simpa using hn
  have hb0 : Below (w.heap.size + 1 + 1) ((w.alloc (.cells #[.int .i64 t.kind, .int .i64 t.num, .int .i64 t.c1, .int .i64 t.r1, .int .i64 t.c2, .int .i64 t.r2, .string ⟨t.word.toArray⟩, .slice (some ⟨g, o, none⟩) t.kids.length cap] 29)).alloc (.cells #[.int .i64 0, .int .i64 0] 35)) ((w.alloc (.cells #[.int .i64 t.kind, .int .i64 t.num, .int .i64 t.c1, .int .i64 t.r1, .int .i64 t.c2, .int .i64 t.r2, .string ⟨t.word.toArray⟩, .slice (some ⟨g, o, none⟩) t.kids.length cap] 29)).alloc (.cells #[.int .i64 0, .int .i64 0] 35)) := Below.refl _ _
  obtain ⟨⟨k0, k1, k2, k3, k4, k5, k6, k7⟩, ⟨kr0, kr1, kf0, kf1⟩, kz0, kz1, kb⟩ := par8 hb0
  obtain ⟨hg, A0, c0, ⟨q0, q1, q2, q3, q4, q5, q6, q7⟩, hk0⟩ := HK.out.kidAt kb Ha.out
  simp only [Nat.zero_mul, Nat.add_zero] at q0 q1 q2 q3 q4 q5 q6 q7
  have HC0 := Lib.hid (HA.out _ _ A0 c0 LA lc hk0 (HC.out.below kb))
  clear hk hc hl h0 h1 h2 ih h5 hwd hf hn hk0 hg HA
  clear k0 k1 k2 k3 k4 k5 k6 k7 kr0 kr1 kf0 kf1
  go_enter Tryz.func36, Tryz.ntmps36
  go_wp2_with fail
  refine Calls.mono HC0.out ?_; rintro e w1 ⟨rfl, b1⟩
  have hb1 := hb0.trans (b1.mono (by simp))
  obtain ⟨⟨m0, m1, m2, m3, m4, m5, m6, m7⟩, ⟨mr0, mr1, mf0, mf1⟩, mz0, mz1, mb⟩ := par8 hb1
  obtain ⟨hg2, A1, c1, ⟨p0, p1, p2, p3, p4, p5, p6, p7⟩, hk1⟩ := HK.out.kidAt mb Hb.out
  simp only [Nat.one_mul, Nat.reduceMul, Nat.add_assoc, Nat.reduceAdd] at p0 p1 p2 p3 p4 p5 p6 p7
  have HC1 := Lib.hid fun ob => HR.out (w1.alloc ob) _ A1 c1 LA lc (hk1.kept (Kept.of_below ((Below.refl _ w1).alloc (Nat.le_refl _) ob))) ((HC.out.below mb).below ((Below.refl _ w1).alloc (Nat.le_refl _) ob))
  have zg : g < w1.heap.size := Lib.lt_of_cell p0
  clear b1 q0 q1 q2 q3 q4 q5 q6 q7 kb kz0 kz1 hk1 hg2
  go_wp2_with fail
  refine Calls.mono (HC1.out _) ?_; rintro e w2 ⟨rfl, b2⟩
  have hb2 := (hb1.alloc (by omega) _).trans (b2.mono (by simp; omega))
  obtain ⟨⟨n0, n1, n2, n3, n4, n5, n6, n7⟩, ⟨nr0, nr1, nf0, nf1⟩, nz0, nz1, nb⟩ := par8 hb2
  clear b2 hb1 hb2 m0 m1 m2 m3 m4 m5 m6 m7 mr0 mr1 mf0 mf1 mz0 mz1 mb p0 p1 p2 p3 p4 p5 p6 p7
  go_wp2_with fail
  exact bodyPost_ret (v := .agg #[.int .i64 (cmT l b).1, .int .i64 (cmT l b).2]) (by simp [results, Tryz.results36, go_sem, nr0, nr1, nz1, nf0, nf1]) rfl
    ⟨by rw [HE.out], (by repeat' (first | with_reducible assumption | exact Nat.le_succ _ | with_reducible exact Nat.le_refl _ | with_reducible refine Below.setCell ?_ ?_ _ | with_reducible refine Below.alloc ?_ ?_ _ | (simp; omega)))⟩
set_option maxHeartbeats 4000000 in
set_option maxRecDepth 10000 in
theorem call_ifN {l : List Cel} (hl : l.length ≤ maxLen) (t a b c : Tr) (hlen : t.kids.length ≤ 1000000) (h5 : t.kind = 5) (hwd : t.word = [73, 70]) (h0 : t.kids[0]? = some a) (h1 : t.kids[1]? = some b) (h2 : t.kids[2]? = some c) (ih : ∀ u ∈ t.kids, ComeC l u) (hf : (cmT l a).2 = 0) (hn : (cmT l a).1 = 0) : CallCm l t := by
  intro w P A cap LA lc hk hc
  have HE : Hid (cmT l t = cmT l c) := Lib.hid (by rw [cm_if h5 hwd h0 h1 h2]; rw [if_neg (fun h => h hf)]; exact if_neg (fun h => h hn))
  have xIF : (t.word == [73, 70]) = true := by rw [hwd]; rfl
  obtain ⟨g, o, rfl⟩ := hk.addr h0
  have HA := Lib.hid (ih a (List.mem_of_getElem? h0))
  have HR := Lib.hid (ih c (List.mem_of_getElem? h2))
  have HK := Lib.hid hk
  have HC := Lib.hid hc
  have HLL := Lib.hid hl
  have Ha := Lib.hid h0
  have Hc := Lib.hid h2
  have l2 : 2 < t.kids.length := (List.getElem?_eq_some_iff.1 h2).1
  have df : ((cmT l a).2 != 0) = false := by simpa using hf
  have dn : ((cmT l a).1 != 0) = false := by simpa using hn
  have hb0 : Below (w.heap.size + 1 + 1) ((w.alloc (.cells #[.int .i64 t.kind, .int .i64 t.num, .int .i64 t.c1, .int .i64 t.r1, .int .i64 t.c2, .int .i64 t.r2, .string ⟨t.word.toArray⟩, .slice (some ⟨g, o, none⟩) t.kids.length cap] 29)).alloc (.cells #[.int .i64 0, .int .i64 0] 35)) ((w.alloc (.cells #[.int .i64 t.kind, .int .i64 t.num, .int .i64 t.c1, .int .i64 t.r1, .int .i64 t.c2, .int .i64 t.r2, .string ⟨t.word.toArray⟩, .slice (some ⟨g, o, none⟩) t.kids.length cap] 29)).alloc (.cells #[.int .i64 0, .int .i64 0] 35)) := Below.refl _ _
  obtain ⟨⟨k0, k1, k2, k3, k4, k5, k6, k7⟩, ⟨kr0, kr1, kf0, kf1⟩, kz0, kz1, kb⟩ := par8 hb0
  obtain ⟨hg, A0, c0, ⟨q0, q1, q2, q3, q4, q5, q6, q7⟩, hk0⟩ := HK.out.kidAt kb Ha.out
  simp only [Nat.zero_mul, Nat.add_zero] at q0 q1 q2 q3 q4 q5 q6 q7
  have HC0 := Lib.hid (HA.out _ _ A0 c0 LA lc hk0 (HC.out.below kb))
  clear hk hc hl h0 h1 h2 ih h5 hwd hf hn hk0 hg HA
  clear k0 k1 k2 k3 k4 k5 k6 k7 kr0 kr1 kf0 kf1
  go_enter Tryz.func36, Tryz.ntmps36
  go_wp2_with fail
  refine Calls.mono HC0.out ?_; rintro e w1 ⟨rfl, b1⟩
  have hb1 := hb0.trans (b1.mono (by simp))
  obtain ⟨⟨m0, m1, m2, m3, m4, m5, m6, m7⟩, ⟨mr0, mr1, mf0, mf1⟩, mz0, mz1, mb⟩ := par8 hb1
  obtain ⟨hg2, A1, c1, ⟨p0, p1, p2, p3, p4, p5, p6, p7⟩, hk1⟩ := HK.out.kidAt mb Hc.out
  simp only [Nat.one_mul, Nat.reduceMul, Nat.add_assoc, Nat.reduceAdd] at p0 p1 p2 p3 p4 p5 p6 p7
  have HC1 := Lib.hid fun ob => HR.out (w1.alloc ob) _ A1 c1 LA lc (hk1.kept (Kept.of_below ((Below.refl _ w1).alloc (Nat.le_refl _) ob))) ((HC.out.below mb).below ((Below.refl _ w1).alloc (Nat.le_refl _) ob))
  have zg : g < w1.heap.size := Lib.lt_of_cell p0
  clear b1 q0 q1 q2 q3 q4 q5 q6 q7 kb kz0 kz1 hk1 hg2
  go_wp2_with fail
  refine Calls.mono (HC1.out _) ?_; rintro e w2 ⟨rfl, b2⟩
  have hb2 := (hb1.alloc (by omega) _).trans (b2.mono (by simp; omega))
  obtain ⟨⟨n0, n1, n2, n3, n4, n5, n6, n7⟩, ⟨nr0, nr1, nf0, nf1⟩, nz0, nz1, nb⟩ := par8 hb2
  clear b2 hb1 hb2 m0 m1 m2 m3 m4 m5 m6 m7 mr0 mr1 mf0 mf1 mz0 mz1 mb p0 p1 p2 p3 p4 p5 p6 p7
  go_wp2_with fail
  exact bodyPost_ret (v := .agg #[.int .i64 (cmT l c).1, .int .i64 (cmT l c).2]) (by simp [results, Tryz.results36, go_sem, nr0, nr1, nz1, nf0, nf1]) rfl
    ⟨by rw [HE.out], (by repeat' (first | with_reducible assumption | exact Nat.le_succ _ | with_reducible exact Nat.le_refl _ | with_reducible refine Below.setCell ?_ ?_ _ | with_reducible refine Below.alloc ?_ ?_ _ | (simp; omega)))⟩
set_option maxHeartbeats 4000000 in
set_option maxRecDepth 10000 in
theorem call_SUM {l : List Cel} (hl : l.length ≤ maxLen) (t : Tr) (ge : GE t) (hcb : ∀ q ∈ l, B64 q.n) (h5 : t.kind = 5) (hwd : t.word = [83, 85, 77]) (hi : ItemsC l t) : CallCm l t := by
  intro w P A cap LA lc hk hc
  have HE : Hid (cmT l t = allV gAdd (0, 0) (itL l t.kids)) := Lib.hid (cm_sum h5 hwd)
  have xIF : (t.word == [73, 70]) = false := by rw [hwd]; rfl
  have xSUM : (t.word == [83, 85, 77]) = true := by rw [hwd]; rfl
  have xMIN : (t.word == [77, 73, 78]) = false := by rw [hwd]; rfl
  have xMAX : (t.word == [77, 65, 88]) = false := by rw [hwd]; rfl
  have xCOUNT : (t.word == [67, 79, 85, 78, 84]) = false := by rw [hwd]; rfl
  have hb0 : Below (w.heap.size + 1 + 1) ((w.alloc (.cells #[.int .i64 t.kind, .int .i64 t.num, .int .i64 t.c1, .int .i64 t.r1, .int .i64 t.c2, .int .i64 t.r2, .string ⟨t.word.toArray⟩, .slice A t.kids.length cap] 29)).alloc (.cells #[.int .i64 0, .int .i64 0] 35)) ((w.alloc (.cells #[.int .i64 t.kind, .int .i64 t.num, .int .i64 t.c1, .int .i64 t.r1, .int .i64 t.c2, .int .i64 t.r2, .string ⟨t.word.toArray⟩, .slice A t.kids.length cap] 29)).alloc (.cells #[.int .i64 0, .int .i64 0] 35)) := Below.refl _ _
  obtain ⟨⟨k0, k1, k2, k3, k4, k5, k6, k7⟩, ⟨kr0, kr1, kf0, kf1⟩, kz0, kz1, kb⟩ := par8 hb0
  have HI := Lib.hid (hi _ P A cap LA lc (hk.kept (Kept.of_below kb)) (hc.below kb))
  have hlt := ge.len
  have HLL := Lib.hid hl
  clear hk hc hl h5 hwd hi
  clear k0 k1 k2 k3 k4 k5 k6 k7 kr0 kr1 kf0 kf1
  go_enter Tryz.func36, Tryz.ntmps36
  go_wp2_with fail
  refine Calls.mono HI.out ?_; rintro e w1 ⟨v, rfl, hown, b1⟩
  obtain ⟨A2, cap2, rfl, hL⟩ := hown.shape
  have hb1 := hb0.trans (b1.mono (by simp))
  obtain ⟨⟨m0, m1, m2, m3, m4, m5, m6, m7⟩, ⟨mr0, mr1, mf0, mf1⟩, mz0, mz1, mb⟩ := par8 hb1
  have HS := Lib.hid (vsum_any (itL l t.kids) (ge.itLen l) (ge.itB hcb) A2 cap2 w1 hL)
  have hLl := ge.itLen l
  unfold maxLen at hLl
  clear hown hL b1 kb kz0 kz1 HI ge hcb mr0 mr1 mf0 mf1
  generalize itL l t.kids = L at *
  go_wp2_with fail
  refine Calls.mono HS.out ?_; rintro e w2 ⟨rfl, b2⟩
  have hb2 := hb1.trans (b2.mono (by have := hb1.size; simpa using this))
  obtain ⟨⟨n0, n1, n2, n3, n4, n5, n6, n7⟩, ⟨nr0, nr1, nf0, nf1⟩, nz0, nz1, nb⟩ := par8 hb2
  clear b2 hb1 hb2 m0 m1 m2 m3 m4 m5 m6 m7 mz0 mz1 mb n0 n1 n2 n3 n4 n5 n6 n7
  go_wp2_with fail
  exact bodyPost_ret (v := .agg #[.int .i64 (allV gAdd (0, 0) L).1, .int .i64 (allV gAdd (0, 0) L).2]) (by simp [results, Tryz.results36, go_sem, nr0, nr1, nz1, nf0, nf1]) rfl
    ⟨by rw [HE.out], (by repeat' (first | with_reducible assumption | exact Nat.le_succ _ | with_reducible exact Nat.le_refl _ | with_reducible refine Below.setCell ?_ ?_ _ | with_reducible refine Below.alloc ?_ ?_ _ | (simp; omega)))⟩
set_option maxHeartbeats 4000000 in
set_option maxRecDepth 10000 in
theorem call_MIN {l : List Cel} (hl : l.length ≤ maxLen) (t : Tr) (ge : GE t) (hcb : ∀ q ∈ l, B64 q.n) (h5 : t.kind = 5) (hwd : t.word = [77, 73, 78]) (hi : ItemsC l t) : CallCm l t := by
  intro w P A cap LA lc hk hc
  have HE : Hid (cmT l t = mostV gLow (itL l t.kids)) := Lib.hid (cm_min h5 hwd)
  have xIF : (t.word == [73, 70]) = false := by rw [hwd]; rfl
  have xSUM : (t.word == [83, 85, 77]) = false := by rw [hwd]; rfl
  have xMIN : (t.word == [77, 73, 78]) = true := by rw [hwd]; rfl
  have xMAX : (t.word == [77, 65, 88]) = false := by rw [hwd]; rfl
  have xCOUNT : (t.word == [67, 79, 85, 78, 84]) = false := by rw [hwd]; rfl
  have hb0 : Below (w.heap.size + 1 + 1) ((w.alloc (.cells #[.int .i64 t.kind, .int .i64 t.num, .int .i64 t.c1, .int .i64 t.r1, .int .i64 t.c2, .int .i64 t.r2, .string ⟨t.word.toArray⟩, .slice A t.kids.length cap] 29)).alloc (.cells #[.int .i64 0, .int .i64 0] 35)) ((w.alloc (.cells #[.int .i64 t.kind, .int .i64 t.num, .int .i64 t.c1, .int .i64 t.r1, .int .i64 t.c2, .int .i64 t.r2, .string ⟨t.word.toArray⟩, .slice A t.kids.length cap] 29)).alloc (.cells #[.int .i64 0, .int .i64 0] 35)) := Below.refl _ _
  obtain ⟨⟨k0, k1, k2, k3, k4, k5, k6, k7⟩, ⟨kr0, kr1, kf0, kf1⟩, kz0, kz1, kb⟩ := par8 hb0
  have HI := Lib.hid (hi _ P A cap LA lc (hk.kept (Kept.of_below kb)) (hc.below kb))
  have hlt := ge.len
  have HLL := Lib.hid hl
  clear hk hc hl h5 hwd hi
  clear k0 k1 k2 k3 k4 k5 k6 k7 kr0 kr1 kf0 kf1
  go_enter Tryz.func36, Tryz.ntmps36
  go_wp2_with fail
  refine Calls.mono HI.out ?_; rintro e w1 ⟨v, rfl, hown, b1⟩
  obtain ⟨A2, cap2, rfl, hL⟩ := hown.shape
  have hb1 := hb0.trans (b1.mono (by simp))
  obtain ⟨⟨m0, m1, m2, m3, m4, m5, m6, m7⟩, ⟨mr0, mr1, mf0, mf1⟩, mz0, mz1, mb⟩ := par8 hb1
  have HS := Lib.hid (vlow_any (itL l t.kids) (ge.itLen l) A2 cap2 w1 hL)
  have hLl := ge.itLen l
  unfold maxLen at hLl
  clear hown hL b1 kb kz0 kz1 HI ge hcb mr0 mr1 mf0 mf1
  generalize itL l t.kids = L at *
  go_wp2_with fail
  refine Calls.mono HS.out ?_; rintro e w2 ⟨rfl, b2⟩
  have hb2 := hb1.trans (b2.mono (by have := hb1.size; simpa using this))
  obtain ⟨⟨n0, n1, n2, n3, n4, n5, n6, n7⟩, ⟨nr0, nr1, nf0, nf1⟩, nz0, nz1, nb⟩ := par8 hb2
  clear b2 hb1 hb2 m0 m1 m2 m3 m4 m5 m6 m7 mz0 mz1 mb n0 n1 n2 n3 n4 n5 n6 n7
  go_wp2_with fail
  exact bodyPost_ret (v := .agg #[.int .i64 (mostV gLow L).1, .int .i64 (mostV gLow L).2]) (by simp [results, Tryz.results36, go_sem, nr0, nr1, nz1, nf0, nf1]) rfl
    ⟨by rw [HE.out], (by repeat' (first | with_reducible assumption | exact Nat.le_succ _ | with_reducible exact Nat.le_refl _ | with_reducible refine Below.setCell ?_ ?_ _ | with_reducible refine Below.alloc ?_ ?_ _ | (simp; omega)))⟩
set_option maxHeartbeats 4000000 in
set_option maxRecDepth 10000 in
theorem call_MAX {l : List Cel} (hl : l.length ≤ maxLen) (t : Tr) (ge : GE t) (hcb : ∀ q ∈ l, B64 q.n) (h5 : t.kind = 5) (hwd : t.word = [77, 65, 88]) (hi : ItemsC l t) : CallCm l t := by
  intro w P A cap LA lc hk hc
  have HE : Hid (cmT l t = mostV gTop (itL l t.kids)) := Lib.hid (cm_max h5 hwd)
  have xIF : (t.word == [73, 70]) = false := by rw [hwd]; rfl
  have xSUM : (t.word == [83, 85, 77]) = false := by rw [hwd]; rfl
  have xMIN : (t.word == [77, 73, 78]) = false := by rw [hwd]; rfl
  have xMAX : (t.word == [77, 65, 88]) = true := by rw [hwd]; rfl
  have xCOUNT : (t.word == [67, 79, 85, 78, 84]) = false := by rw [hwd]; rfl
  have hb0 : Below (w.heap.size + 1 + 1) ((w.alloc (.cells #[.int .i64 t.kind, .int .i64 t.num, .int .i64 t.c1, .int .i64 t.r1, .int .i64 t.c2, .int .i64 t.r2, .string ⟨t.word.toArray⟩, .slice A t.kids.length cap] 29)).alloc (.cells #[.int .i64 0, .int .i64 0] 35)) ((w.alloc (.cells #[.int .i64 t.kind, .int .i64 t.num, .int .i64 t.c1, .int .i64 t.r1, .int .i64 t.c2, .int .i64 t.r2, .string ⟨t.word.toArray⟩, .slice A t.kids.length cap] 29)).alloc (.cells #[.int .i64 0, .int .i64 0] 35)) := Below.refl _ _
  obtain ⟨⟨k0, k1, k2, k3, k4, k5, k6, k7⟩, ⟨kr0, kr1, kf0, kf1⟩, kz0, kz1, kb⟩ := par8 hb0
  have HI := Lib.hid (hi _ P A cap LA lc (hk.kept (Kept.of_below kb)) (hc.below kb))
  have hlt := ge.len
  have HLL := Lib.hid hl
  clear hk hc hl h5 hwd hi
  clear k0 k1 k2 k3 k4 k5 k6 k7 kr0 kr1 kf0 kf1
  go_enter Tryz.func36, Tryz.ntmps36
  go_wp2_with fail
  refine Calls.mono HI.out ?_; rintro e w1 ⟨v, rfl, hown, b1⟩
  obtain ⟨A2, cap2, rfl, hL⟩ := hown.shape
  have hb1 := hb0.trans (b1.mono (by simp))
  obtain ⟨⟨m0, m1, m2, m3, m4, m5, m6, m7⟩, ⟨mr0, mr1, mf0, mf1⟩, mz0, mz1, mb⟩ := par8 hb1
  have HS := Lib.hid (vtop_any (itL l t.kids) (ge.itLen l) A2 cap2 w1 hL)
  have hLl := ge.itLen l
  unfold maxLen at hLl
  clear hown hL b1 kb kz0 kz1 HI ge hcb mr0 mr1 mf0 mf1
  generalize itL l t.kids = L at *
  go_wp2_with fail
  refine Calls.mono HS.out ?_; rintro e w2 ⟨rfl, b2⟩
  have hb2 := hb1.trans (b2.mono (by have := hb1.size; simpa using this))
  obtain ⟨⟨n0, n1, n2, n3, n4, n5, n6, n7⟩, ⟨nr0, nr1, nf0, nf1⟩, nz0, nz1, nb⟩ := par8 hb2
  clear b2 hb1 hb2 m0 m1 m2 m3 m4 m5 m6 m7 mz0 mz1 mb n0 n1 n2 n3 n4 n5 n6 n7
  go_wp2_with fail
  exact bodyPost_ret (v := .agg #[.int .i64 (mostV gTop L).1, .int .i64 (mostV gTop L).2]) (by simp [results, Tryz.results36, go_sem, nr0, nr1, nz1, nf0, nf1]) rfl
    ⟨by rw [HE.out], (by repeat' (first | with_reducible assumption | exact Nat.le_succ _ | with_reducible exact Nat.le_refl _ | with_reducible refine Below.setCell ?_ ?_ _ | with_reducible refine Below.alloc ?_ ?_ _ | (simp; omega)))⟩
theorem any_yes {ks : List Tr} {i : Nat} {u : Tr} (h : ks[i]? = some u) (hk : (u.kind == 2) = true) : (ks.any fun u => u.kind == 2) = true := List.any_eq_true.2 ⟨u, List.mem_of_getElem? h, hk⟩
theorem any_no {ks : List Tr} {i : Nat} {u : Tr} (h : ks[i]? = some u) (hp : ((ks.take i).any fun u => u.kind == 2) = false) (hk : (u.kind == 2) = false) : ((ks.take (i + 1)).any fun u => u.kind == 2) = false := by
  rw [List.take_add_one, h, List.any_append, hp]
  show (false || ([u].any fun u => u.kind == 2)) = false
  rw [List.any_cons, hk]; rfl
set_option maxHeartbeats 4000000 in
set_option maxRecDepth 10000 in
theorem call_COUNT {l : List Cel} (hl : l.length ≤ maxLen) (t : Tr) (ge : GE t) (h5 : t.kind = 5) (hwd : t.word = [67, 79, 85, 78, 84]) (hi : ItemsC l t) : CallCm l t := by
  intro w P A cap LA lc hk hc
  have HE1 : Hid ((t.kids.any fun u => u.kind == 2) = true → cmT l t = (0, 3)) := Lib.hid fun h => by rw [cm_count h5 hwd, if_pos h]
  have HE2 : Hid ((t.kids.any fun u => u.kind == 2) = false → cmT l t = (((itL l t.kids).length : Int), 0)) := Lib.hid fun h => by rw [cm_count h5 hwd, if_neg (by rw [h]; decide)]
  have xIF : (t.word == [73, 70]) = false := by rw [hwd]; rfl
  have xSUM : (t.word == [83, 85, 77]) = false := by rw [hwd]; rfl
  have xMIN : (t.word == [77, 73, 78]) = false := by rw [hwd]; rfl
  have xMAX : (t.word == [77, 65, 88]) = false := by rw [hwd]; rfl
  have xCOUNT : (t.word == [67, 79, 85, 78, 84]) = true := by rw [hwd]; rfl
  have hb0 : Below (w.heap.size + 1 + 1) ((w.alloc (.cells #[.int .i64 t.kind, .int .i64 t.num, .int .i64 t.c1, .int .i64 t.r1, .int .i64 t.c2, .int .i64 t.r2, .string ⟨t.word.toArray⟩, .slice A t.kids.length cap] 29)).alloc (.cells #[.int .i64 0, .int .i64 0] 35)) ((w.alloc (.cells #[.int .i64 t.kind, .int .i64 t.num, .int .i64 t.c1, .int .i64 t.r1, .int .i64 t.c2, .int .i64 t.r2, .string ⟨t.word.toArray⟩, .slice A t.kids.length cap] 29)).alloc (.cells #[.int .i64 0, .int .i64 0] 35)) := Below.refl _ _
  obtain ⟨⟨k0, k1, k2, k3, k4, k5, k6, k7⟩, ⟨kr0, kr1, kf0, kf1⟩, kz0, kz1, kb⟩ := par8 hb0
  have HI := Lib.hid (hi _ P A cap LA lc (hk.kept (Kept.of_below kb)) (hc.below kb))
  have hlt := ge.len
  have HK := Lib.hid hk
  clear hk hc hl h5 hwd hi
  clear k0 k1 k2 k3 k4 k5 k6 k7 kr0 kr1 kf0 kf1
  go_enter Tryz.func36, Tryz.ntmps36
  go_wp2_with fail
  refine Calls.mono HI.out ?_; rintro e w1 ⟨v, rfl, hown, b1⟩
  obtain ⟨A2, cap2, rfl, hL⟩ := hown.shape
  have hb1 := hb0.trans (b1.mono (by simp))
  obtain ⟨⟨m0, m1, m2, m3, m4, m5, m6, m7⟩, ⟨mr0, mr1, mf0, mf1⟩, mz0, mz1, mb⟩ := par8 hb1
  have hLl := ge.itLen l
  unfold maxLen at hLl
  clear hown hL b1 kb kz0 kz1 HI ge
  generalize itL l t.kids = L at *
  go_wp2_with fail
  go_loopw [7] (fun vi wr => ∃ i : Nat, i ≤ t.kids.length ∧ vi = .int .i64 (i : Int) ∧ Hid (((t.kids.take i).any fun u => u.kind == 2) = false) ∧ wr = w1) (fun vi _ => t.kids.length - (intOf vi).toNat)
  case atStart => exact ⟨0, Nat.zero_le _, rfl, Lib.hid (by rw [List.take_zero]; rfl), rfl⟩
  case round =>
    obtain ⟨i, hi, rfl, HT, rfl⟩ := hrel
    by_cases hlt2 : i < t.kids.length
    · have hu : t.kids[i]? = some (t.kids[i]'hlt2) := List.getElem?_eq_getElem hlt2
      obtain ⟨g, o, rfl⟩ := HK.out.addr hu
      obtain ⟨hg, A', cap', ⟨q0, q1, q2, q3, q4, q5, q6, q7⟩, hkv⟩ := HK.out.kidAt mb hu
      have HY := Lib.hid (any_yes hu)
      have HN := Lib.hid (any_no hu HT.out)
      generalize t.kids[i]'hlt2 = u at *
      clear hkv hu q1 q2 q3 q4 q5 q6 q7
      generalize u.kind = uk at *
      cases hk2 : (uk == 2) with
      | true =>
        have HE := Lib.hid (HE1.out (HY.out hk2))
        clear HY HN HE1 HE2
        go_wp2_with fail
        exact bodyPost_ret (v := .agg #[.int .i64 0, .int .i64 3]) (by simp [results, Tryz.results36, go_sem, mr0, mr1, mz1, mf0, mf1]) rfl
          ⟨by rw [HE.out], (by repeat' (first | with_reducible assumption | exact Nat.le_succ _ | with_reducible exact Nat.le_refl _ | with_reducible refine Below.setCell ?_ ?_ _ | with_reducible refine Below.alloc ?_ ?_ _ | (simp; omega)))⟩
      | false =>
        have HT2 := Lib.hid (HN.out hk2)
        clear HY HN
        go_wp2_with fail
        go_roundw
        case rel => exact ⟨i + 1, by omega, by go_num, HT2, trivial⟩
        case measure => simp [intOf]; omega
    · have hii : i = t.kids.length := by omega
      subst hii
      have hz := HT.out
      rw [List.take_length] at hz
      have HE := Lib.hid (HE2.out hz)
      clear hz HE1 HE2
      go_wp2_with fail
      exact bodyPost_ret (v := .agg #[.int .i64 L.length, .int .i64 0]) (by simp [results, Tryz.results36, go_sem, mr0, mr1, mz1, mf0, mf1]) rfl
        ⟨by rw [HE.out], (by repeat' (first | with_reducible assumption | exact Nat.le_succ _ | with_reducible exact Nat.le_refl _ | with_reducible refine Below.setCell ?_ ?_ _ | with_reducible refine Below.alloc ?_ ?_ _ | (simp; omega)))⟩
end Go.Proofs.YthaoalmhhgllmaaGreatDoor
namespace Go.Proofs.YthaoalmhhgllmaaGreatDoor
open Go.RowKit

set_option maxHeartbeats 2000000 in
set_option maxRecDepth 10000 in
theorem rdeep_any : ∀ (d : Nat) (t : Tr), deepT t ≤ d → d ≤ 1000000000 → Wid t → ∀ (w : World) (P : Nat → Prop) (A : Option Addr) (cap : Nat), KV w P t A →
    Calls Tryz.prog 20 #[tv t A cap] w fun e w' => e = .returned (.int .i64 (deepT t : Int)) ∧ Below w.heap.size w w' := by
  intro d
  induction d with
  | zero => intro t h; rw [deep_eq] at h; omega
  | succ d ih =>
    intro t hd hb hw w P A cap hk
    unfold tv
    have hlen := hw.len
    unfold maxLen at hlen
    have HW := Lib.hid hw
    have HK := Lib.hid hk
    have HI := Lib.hid ih
    have HE := Lib.hid (deep_eq t)
    have hdl : deepL t.kids ≤ d := by rw [deep_eq] at hd; omega
    clear hk hd ih hw
    go_enter Tryz.func20, Tryz.ntmps20
    go_wp2_with fail
    go_loopw [3, 4] (fun vn vi wr => ∃ i : Nat, i ≤ t.kids.length ∧ vn = .int .i64 (deepL (t.kids.take i) : Int) ∧ vi = .int .i64 (i : Int) ∧ Below w.heap.size w wr ∧ w.heap.size < wr.heap.size ∧ wr.cell? ⟨w.heap.size, 7, none⟩ = some (.slice A t.kids.length cap)) (fun _ vi _ => t.kids.length - (intOf vi).toNat)
    case atStart => exact ⟨0, Nat.zero_le _, by rw [List.take_zero, deepL]; rfl, rfl, (Below.refl _ _).alloc (Nat.le_refl _) _, by simp, by simp [go_sem]⟩
    case round =>
      obtain ⟨i, hi, rfl, rfl, hbel, hsz, c7⟩ := hrel
      have htl := deep_take_le t.kids i
      by_cases hlt : i < t.kids.length
      · have hu : t.kids[i]? = some (t.kids[i]'hlt) := List.getElem?_eq_getElem hlt
        obtain ⟨g, o, rfl⟩ := HK.out.addr hu
        obtain ⟨hg, A', cap', h8, hkv⟩ := HK.out.kidAt hbel hu
        have htk := Lib.hid (deep_take hu)
        have hdu := deep_kid hu
        have HC := Lib.hid (HI.out _ (Nat.le_trans hdu hdl) (by omega) (HW.out.kid hu) wr _ A' cap' hkv)
        generalize t.kids[i]'hlt = u at *
        unfold At8 at h8
        unfold tv at HC
        obtain ⟨q0, q1, q2, q3, q4, q5, q6, q7⟩ := h8
        clear hkv hu
        go_wp2_with fail
        refine HC.out.mono ?_; rintro e w1 ⟨rfl, b1⟩
        have e7 := keep_cell b1 c7
        have s7 : w.heap.size < w1.heap.size := Nat.lt_of_lt_of_le hsz b1.size
        have hb1 := hbel.trans (b1.mono hbel.size)
        clear b1 c7 q0 q1 q2 q3 q4 q5 q6 q7
        go_wp2_with fail
        go_roundw
        case rel => exact ⟨i + 1, by omega, by rw [htk.out]; congr 1; omega, by go_num, hb1, s7, e7⟩
        case measure => simp [intOf]; omega
      · have hii : i = t.kids.length := by omega
        subst hii
        rw [List.take_length] at *
        have hw : wrap64 ((deepL t.kids : Int) + 1) = (deepL t.kids : Int) + 1 := IntWalk.wrap64_in _ (by omega)
        go_wp2_with fail
        go_ret
        exact ⟨ret_int (by have := HE.out; omega), hbel⟩
end Go.Proofs.YthaoalmhhgllmaaGreatDoor
namespace Go.Proofs.YthaoalmhhgllmaaGreatDoor
open Go.RowKit

set_option maxHeartbeats 4000000 in
set_option maxRecDepth 10000 in
theorem ronly_at (t : Tr) (A : Option Addr) (cap : Nat) (n : Int) (w : World) (B0 N0 B1 B6 AT B4 B5 W0 LN : Bool) (h0 : (t.kind == 0) = B0) (hn : (t.num == 0) = N0) (h1 : (t.kind == 1) = B1) (h6 : (t.kind == 6) = B6)
    (hA : ∀ W, (binOp .eql 26 (.agg #[.int .i64 t.c1, .int .i64 t.r1, .int .i64 t.c2, .int .i64 t.r2]) (.agg #[.int .i64 0, .int .i64 0, .int .i64 0, .int .i64 0])).run Tryz.prog W = .ok (.bool AT) W)
    (h4 : (t.kind == 4) = B4) (h5 : (t.kind == 5) = B5) (hw : (t.word == []) = W0) (hl : ((t.kids.length : Int) == n) = LN) :
    Calls Tryz.prog 37 #[.agg #[.int .i64 t.kind, .int .i64 t.num, .int .i64 t.c1, .int .i64 t.r1, .int .i64 t.c2, .int .i64 t.r2, .string ⟨t.word.toArray⟩, .slice A t.kids.length cap], .int .i64 n] w fun e w' => e = .returned (.bool ((B0 || N0) && ((B1 || (B6 || AT)) && ((B4 || (B5 || W0)) && LN)))) ∧ Below w.heap.size w w' := by
  have hG := fun op X Y W => guard_range op X Y #[.int .i64 t.c1, .int .i64 t.r1, .int .i64 t.c2, .int .i64 t.r2] #[.int .i64 0, .int .i64 0, .int .i64 0, .int .i64 0] W
  cases B0 with
  | true =>
    cases B1 with
    | true =>
      cases B4 with
      | true =>
        cases LN with
        | true =>
          go_enter Tryz.func37, Tryz.ntmps37
          go_wp2_with fail
          go_ret
          exact ⟨rfl, (Below.refl _ _).alloc (Nat.le_refl _) _⟩
        | false =>
          go_enter Tryz.func37, Tryz.ntmps37
          go_wp2_with fail
          go_ret
          exact ⟨rfl, (Below.refl _ _).alloc (Nat.le_refl _) _⟩
      | false =>
        cases B5 with
        | true =>
          cases LN with
          | true =>
            go_enter Tryz.func37, Tryz.ntmps37
            go_wp2_with fail
            go_ret
            exact ⟨rfl, (Below.refl _ _).alloc (Nat.le_refl _) _⟩
          | false =>
            go_enter Tryz.func37, Tryz.ntmps37
            go_wp2_with fail
            go_ret
            exact ⟨rfl, (Below.refl _ _).alloc (Nat.le_refl _) _⟩
        | false =>
          cases W0 with
          | true =>
            cases LN with
            | true =>
              go_enter Tryz.func37, Tryz.ntmps37
              go_wp2_with fail
              go_ret
              exact ⟨rfl, (Below.refl _ _).alloc (Nat.le_refl _) _⟩
            | false =>
              go_enter Tryz.func37, Tryz.ntmps37
              go_wp2_with fail
              go_ret
              exact ⟨rfl, (Below.refl _ _).alloc (Nat.le_refl _) _⟩
          | false =>
            go_enter Tryz.func37, Tryz.ntmps37
            go_wp2_with fail
            go_ret
            exact ⟨rfl, (Below.refl _ _).alloc (Nat.le_refl _) _⟩
    | false =>
      cases B6 with
      | true =>
        cases B4 with
        | true =>
          cases LN with
          | true =>
            go_enter Tryz.func37, Tryz.ntmps37
            go_wp2_with fail
            go_ret
            exact ⟨rfl, (Below.refl _ _).alloc (Nat.le_refl _) _⟩
          | false =>
            go_enter Tryz.func37, Tryz.ntmps37
            go_wp2_with fail
            go_ret
            exact ⟨rfl, (Below.refl _ _).alloc (Nat.le_refl _) _⟩
        | false =>
          cases B5 with
          | true =>
            cases LN with
            | true =>
              go_enter Tryz.func37, Tryz.ntmps37
              go_wp2_with fail
              go_ret
              exact ⟨rfl, (Below.refl _ _).alloc (Nat.le_refl _) _⟩
            | false =>
              go_enter Tryz.func37, Tryz.ntmps37
              go_wp2_with fail
              go_ret
              exact ⟨rfl, (Below.refl _ _).alloc (Nat.le_refl _) _⟩
          | false =>
            cases W0 with
            | true =>
              cases LN with
              | true =>
                go_enter Tryz.func37, Tryz.ntmps37
                go_wp2_with fail
                go_ret
                exact ⟨rfl, (Below.refl _ _).alloc (Nat.le_refl _) _⟩
              | false =>
                go_enter Tryz.func37, Tryz.ntmps37
                go_wp2_with fail
                go_ret
                exact ⟨rfl, (Below.refl _ _).alloc (Nat.le_refl _) _⟩
            | false =>
              go_enter Tryz.func37, Tryz.ntmps37
              go_wp2_with fail
              go_ret
              exact ⟨rfl, (Below.refl _ _).alloc (Nat.le_refl _) _⟩
      | false =>
        cases AT with
        | true =>
          cases B4 with
          | true =>
            cases LN with
            | true =>
              go_enter Tryz.func37, Tryz.ntmps37
              go_wp2_with fail
              go_ret
              exact ⟨rfl, (Below.refl _ _).alloc (Nat.le_refl _) _⟩
            | false =>
              go_enter Tryz.func37, Tryz.ntmps37
              go_wp2_with fail
              go_ret
              exact ⟨rfl, (Below.refl _ _).alloc (Nat.le_refl _) _⟩
          | false =>
            cases B5 with
            | true =>
              cases LN with
              | true =>
                go_enter Tryz.func37, Tryz.ntmps37
                go_wp2_with fail
                go_ret
                exact ⟨rfl, (Below.refl _ _).alloc (Nat.le_refl _) _⟩
              | false =>
                go_enter Tryz.func37, Tryz.ntmps37
                go_wp2_with fail
                go_ret
                exact ⟨rfl, (Below.refl _ _).alloc (Nat.le_refl _) _⟩
            | false =>
              cases W0 with
              | true =>
                cases LN with
                | true =>
                  go_enter Tryz.func37, Tryz.ntmps37
                  go_wp2_with fail
                  go_ret
                  exact ⟨rfl, (Below.refl _ _).alloc (Nat.le_refl _) _⟩
                | false =>
                  go_enter Tryz.func37, Tryz.ntmps37
                  go_wp2_with fail
                  go_ret
                  exact ⟨rfl, (Below.refl _ _).alloc (Nat.le_refl _) _⟩
              | false =>
                go_enter Tryz.func37, Tryz.ntmps37
                go_wp2_with fail
                go_ret
                exact ⟨rfl, (Below.refl _ _).alloc (Nat.le_refl _) _⟩
        | false =>
          go_enter Tryz.func37, Tryz.ntmps37
          go_wp2_with fail
          go_ret
          exact ⟨rfl, (Below.refl _ _).alloc (Nat.le_refl _) _⟩
  | false =>
    cases N0 with
    | true =>
      cases B1 with
      | true =>
        cases B4 with
        | true =>
          cases LN with
          | true =>
            go_enter Tryz.func37, Tryz.ntmps37
            go_wp2_with fail
            go_ret
            exact ⟨rfl, (Below.refl _ _).alloc (Nat.le_refl _) _⟩
          | false =>
            go_enter Tryz.func37, Tryz.ntmps37
            go_wp2_with fail
            go_ret
            exact ⟨rfl, (Below.refl _ _).alloc (Nat.le_refl _) _⟩
        | false =>
          cases B5 with
          | true =>
            cases LN with
            | true =>
              go_enter Tryz.func37, Tryz.ntmps37
              go_wp2_with fail
              go_ret
              exact ⟨rfl, (Below.refl _ _).alloc (Nat.le_refl _) _⟩
            | false =>
              go_enter Tryz.func37, Tryz.ntmps37
              go_wp2_with fail
              go_ret
              exact ⟨rfl, (Below.refl _ _).alloc (Nat.le_refl _) _⟩
          | false =>
            cases W0 with
            | true =>
              cases LN with
              | true =>
                go_enter Tryz.func37, Tryz.ntmps37
                go_wp2_with fail
                go_ret
                exact ⟨rfl, (Below.refl _ _).alloc (Nat.le_refl _) _⟩
              | false =>
                go_enter Tryz.func37, Tryz.ntmps37
                go_wp2_with fail
                go_ret
                exact ⟨rfl, (Below.refl _ _).alloc (Nat.le_refl _) _⟩
            | false =>
              go_enter Tryz.func37, Tryz.ntmps37
              go_wp2_with fail
              go_ret
              exact ⟨rfl, (Below.refl _ _).alloc (Nat.le_refl _) _⟩
      | false =>
        cases B6 with
        | true =>
          cases B4 with
          | true =>
            cases LN with
            | true =>
              go_enter Tryz.func37, Tryz.ntmps37
              go_wp2_with fail
              go_ret
              exact ⟨rfl, (Below.refl _ _).alloc (Nat.le_refl _) _⟩
            | false =>
              go_enter Tryz.func37, Tryz.ntmps37
              go_wp2_with fail
              go_ret
              exact ⟨rfl, (Below.refl _ _).alloc (Nat.le_refl _) _⟩
          | false =>
            cases B5 with
            | true =>
              cases LN with
              | true =>
                go_enter Tryz.func37, Tryz.ntmps37
                go_wp2_with fail
                go_ret
                exact ⟨rfl, (Below.refl _ _).alloc (Nat.le_refl _) _⟩
              | false =>
                go_enter Tryz.func37, Tryz.ntmps37
                go_wp2_with fail
                go_ret
                exact ⟨rfl, (Below.refl _ _).alloc (Nat.le_refl _) _⟩
            | false =>
              cases W0 with
              | true =>
                cases LN with
                | true =>
                  go_enter Tryz.func37, Tryz.ntmps37
                  go_wp2_with fail
                  go_ret
                  exact ⟨rfl, (Below.refl _ _).alloc (Nat.le_refl _) _⟩
                | false =>
                  go_enter Tryz.func37, Tryz.ntmps37
                  go_wp2_with fail
                  go_ret
                  exact ⟨rfl, (Below.refl _ _).alloc (Nat.le_refl _) _⟩
              | false =>
                go_enter Tryz.func37, Tryz.ntmps37
                go_wp2_with fail
                go_ret
                exact ⟨rfl, (Below.refl _ _).alloc (Nat.le_refl _) _⟩
        | false =>
          cases AT with
          | true =>
            cases B4 with
            | true =>
              cases LN with
              | true =>
                go_enter Tryz.func37, Tryz.ntmps37
                go_wp2_with fail
                go_ret
                exact ⟨rfl, (Below.refl _ _).alloc (Nat.le_refl _) _⟩
              | false =>
                go_enter Tryz.func37, Tryz.ntmps37
                go_wp2_with fail
                go_ret
                exact ⟨rfl, (Below.refl _ _).alloc (Nat.le_refl _) _⟩
            | false =>
              cases B5 with
              | true =>
                cases LN with
                | true =>
                  go_enter Tryz.func37, Tryz.ntmps37
                  go_wp2_with fail
                  go_ret
                  exact ⟨rfl, (Below.refl _ _).alloc (Nat.le_refl _) _⟩
                | false =>
                  go_enter Tryz.func37, Tryz.ntmps37
                  go_wp2_with fail
                  go_ret
                  exact ⟨rfl, (Below.refl _ _).alloc (Nat.le_refl _) _⟩
              | false =>
                cases W0 with
                | true =>
                  cases LN with
                  | true =>
                    go_enter Tryz.func37, Tryz.ntmps37
                    go_wp2_with fail
                    go_ret
                    exact ⟨rfl, (Below.refl _ _).alloc (Nat.le_refl _) _⟩
                  | false =>
                    go_enter Tryz.func37, Tryz.ntmps37
                    go_wp2_with fail
                    go_ret
                    exact ⟨rfl, (Below.refl _ _).alloc (Nat.le_refl _) _⟩
                | false =>
                  go_enter Tryz.func37, Tryz.ntmps37
                  go_wp2_with fail
                  go_ret
                  exact ⟨rfl, (Below.refl _ _).alloc (Nat.le_refl _) _⟩
          | false =>
            go_enter Tryz.func37, Tryz.ntmps37
            go_wp2_with fail
            go_ret
            exact ⟨rfl, (Below.refl _ _).alloc (Nat.le_refl _) _⟩
    | false =>
      go_enter Tryz.func37, Tryz.ntmps37
      go_wp2_with fail
      go_ret
      exact ⟨rfl, (Below.refl _ _).alloc (Nat.le_refl _) _⟩
theorem ronly_any (t : Tr) (A : Option Addr) (cap n : Nat) (w : World) :
    Calls Tryz.prog 37 #[tv t A cap, .int .i64 (n : Int)] w fun e w' => e = .returned (.bool (onlyB t n)) ∧ Below w.heap.size w w' := by
  refine (ronly_at t A cap (n : Int) w _ _ _ _ _ _ _ _ _ rfl rfl rfl rfl (fun W => eql_range _ _ _ _ _ _ _ _ W) rfl rfl rfl rfl).mono fun e w' ⟨he, hb⟩ => ⟨he.trans (ret_bool ?_), hb⟩
  cases t with
  | mk k num c r d s wd ks =>
    unfold onlyB
    simp only [Tr.kind, Tr.num, Tr.c1, Tr.r1, Tr.c2, Tr.r2, Tr.word, Tr.kids]
    have e : ((ks.length : Int) == (n : Int)) = (ks.length == n) := by rw [Bool.eq_iff_iff, beq_iff_eq, beq_iff_eq]; omega
    rw [e]
    simp only [Bool.or_assoc, Bool.and_assoc]
end Go.Proofs.YthaoalmhhgllmaaGreatDoor
namespace Go.Proofs.YthaoalmhhgllmaaGreatDoor
open Go.RowKit

def kidB (x : Tr) (spans corners : Bool) : Bool := mayB x && ((spans || x.kind != 6) && (!corners || x.kind == 6 || x.kind == 2))
theorem all_cons (t : Tr) (ts : List Tr) (a b : Bool) : allB (t :: ts) a b = (kidB t a b && allB ts a b) := by rw [allB]; rfl
theorem all_nil (a b : Bool) : allB [] a b = true := by rw [allB]
theorem all_snoc : ∀ (ks : List Tr) (u : Tr) (a b : Bool), allB (ks ++ [u]) a b = (allB ks a b && kidB u a b)
  | [], u, a, b => by simp only [List.nil_append]; rw [all_cons, all_nil, Bool.and_true, Bool.true_and]
  | t :: ts, u, a, b => by simp only [List.cons_append]; rw [all_cons, all_cons, all_snoc ts u a b, Bool.and_assoc]
theorem all_take {ks : List Tr} {i : Nat} {u : Tr} {a b : Bool} (h : ks[i]? = some u) (ha : allB (ks.take i) a b = true) (hu : kidB u a b = true) : allB (ks.take (i + 1)) a b = true := by
  rw [List.take_add_one, h]
  exact (all_snoc _ _ _ _).trans (by rw [ha, hu]; rfl)
theorem all_bad : ∀ {ks : List Tr} {i : Nat} {u : Tr} {a b : Bool}, ks[i]? = some u → kidB u a b = false → allB ks a b = false
  | [], i, u, a, b, h, _ => by simp at h
  | t :: ts, 0, u, a, b, h, hu => by simp at h; subst h; rw [all_cons, hu, Bool.false_and]
  | t :: ts, i + 1, u, a, b, h, hu => by rw [all_cons, all_bad (ks := ts) (i := i) (by simpa using h) hu, Bool.and_false]
theorem kids_deep {t : Tr} {d : Nat} (h : deepT t ≤ d + 1) : deepL t.kids ≤ d := by rw [deep_eq] at h; omega
def MayC (d : Nat) : Prop := ∀ (t : Tr), deepT t ≤ d → Wid t → ∀ (w : World) (P : Nat → Prop) (A : Option Addr) (cap : Nat), KV w P t A →
    Calls Tryz.prog 21 #[tv t A cap] w fun e w' => e = .returned (.bool (mayB t)) ∧ Below w.heap.size w w'
set_option maxHeartbeats 4000000 in
set_option maxRecDepth 10000 in
theorem rall_any {d : Nat} (ih : MayC d) (t : Tr) (hd : deepL t.kids ≤ d) (hw : Wid t) (a b : Bool) (w : World) (P : Nat → Prop) (A : Option Addr) (cap : Nat) (hk : KV w P t A) :
    Calls Tryz.prog 40 #[tv t A cap, .bool a, .bool b] w fun e w' => e = .returned (.bool (allB t.kids a b)) ∧ Below w.heap.size w w' := by
  unfold tv
  have hlen := hw.len
  unfold maxLen at hlen
  have HW := Lib.hid hw
  have HK := Lib.hid hk
  have HI := Lib.hid ih
  clear hk ih hw
  go_enter Tryz.func40, Tryz.ntmps40
  go_wp2_with fail
  go_loopw [7] (fun vi wr => ∃ i : Nat, i ≤ t.kids.length ∧ vi = .int .i64 (i : Int) ∧ Hid (allB (t.kids.take i) a b = true) ∧ Below w.heap.size w wr ∧ w.heap.size < wr.heap.size ∧ wr.cell? ⟨w.heap.size, 7, none⟩ = some (.slice A t.kids.length cap)) (fun vi _ => t.kids.length - (intOf vi).toNat)
  case atStart => exact ⟨0, Nat.zero_le _, rfl, Lib.hid (by rw [List.take_zero]; exact all_nil _ _), (Below.refl _ _).alloc (Nat.le_refl _) _, by simp, by simp [go_sem]⟩
  case round =>
    obtain ⟨i, hi, rfl, HTK, hbel, hsz, c7⟩ := hrel
    by_cases hlt : i < t.kids.length
    · have hu : t.kids[i]? = some (t.kids[i]'hlt) := List.getElem?_eq_getElem hlt
      obtain ⟨g, o, rfl⟩ := HK.out.addr hu
      obtain ⟨hg, A', cap', h8, hkv⟩ := HK.out.kidAt hbel hu
      have HTE := Lib.hid fun e => all_take (a := a) (b := b) hu HTK.out e
      have HTB := Lib.hid fun e => all_bad (a := a) (b := b) hu e
      have hdu := Nat.le_trans (deep_kid hu) hd
      have hwu := HW.out.kid hu
      generalize t.kids[i]'hlt = x at *
      have HC := Lib.hid (HI.out x hdu hwu (wr.alloc (.cells #[.int .i64 x.kind, .int .i64 x.num, .int .i64 x.c1, .int .i64 x.r1, .int .i64 x.c2, .int .i64 x.r2, .string ⟨x.word.toArray⟩, .slice A' x.kids.length cap'] 29)) _ A' cap' (hkv.kept (Kept.alloc (Kept.refl _ _) _)))
      unfold At8 at h8
      unfold tv at HC
      obtain ⟨q0, q1, q2, q3, q4, q5, q6, q7⟩ := h8
      clear hkv hu hdu hwu
      have HKB : Hid (kidB x a b = (mayB x && ((a || x.kind != 6) && (!b || x.kind == 6 || x.kind == 2)))) := Lib.hid rfl
      go_wp2_with fail
      refine HC.out.mono ?_; rintro e w1 ⟨rfl, b1⟩
      have e7 := keep_cell b1 (p := ⟨w.heap.size, 7, none⟩) (kc_alloc c7 _)
      have e0 := keep_fresh b1 0 (v := .int .i64 x.kind) rfl
      have s7 : w.heap.size < w1.heap.size := by have := b1.size; simp at this; omega
      have hb1 : Below w.heap.size w w1 := (hbel.alloc hbel.size _).trans (b1.mono (by have := hbel.size; simp; omega))
      clear b1 c7 q0 q1 q2 q3 q4 q5 q6 q7
      generalize mayB x = M at *
      cases M with
      | false =>
        have HF := Lib.hid (HTB.out (by rw [HKB.out]; rfl))
        clear HTE HTB HKB
        go_wp2_with fail
        go_ret
        exact ⟨by rw [HF.out]; rfl, hb1⟩
      | true =>
        have m6 : (x.kind != 6) = !(x.kind == 6) := rfl
        have m2 : (x.kind != 2) = !(x.kind == 2) := rfl
        cases h6 : (x.kind == 6) with
        | true =>
          rw [h6] at m6
          cases a with
          | false =>
            have HF := Lib.hid (HTB.out (by rw [HKB.out, m6]; rfl))
            clear HTE HTB HKB
            go_wp2_with fail
            go_ret
            exact ⟨by rw [HF.out]; rfl, hb1⟩
          | true =>
            cases b with
            | false =>
              have HG := Lib.hid (HTE.out (by rw [HKB.out, m6]; rfl))
              clear HTE HTB HKB
              go_wp2_with fail
              go_roundw
              case rel => exact ⟨i + 1, by omega, by go_num, HG, hb1, s7, e7⟩
              case measure => simp [intOf]; omega
            | true =>
              have HG := Lib.hid (HTE.out (by rw [HKB.out, m6, h6]; rfl))
              clear HTE HTB HKB
              go_wp2_with fail
              go_roundw
              case rel => exact ⟨i + 1, by omega, by go_num, HG, hb1, s7, e7⟩
              case measure => simp [intOf]; omega
        | false =>
          rw [h6] at m6
          cases b with
          | false =>
            cases a with
            | false =>
              have HG := Lib.hid (HTE.out (by rw [HKB.out, m6]; rfl))
              clear HTE HTB HKB
              go_wp2_with fail
              go_roundw
              case rel => exact ⟨i + 1, by omega, by go_num, HG, hb1, s7, e7⟩
              case measure => simp [intOf]; omega
            | true =>
              have HG := Lib.hid (HTE.out (by rw [HKB.out, m6]; rfl))
              clear HTE HTB HKB
              go_wp2_with fail
              go_roundw
              case rel => exact ⟨i + 1, by omega, by go_num, HG, hb1, s7, e7⟩
              case measure => simp [intOf]; omega
          | true =>
            cases h2 : (x.kind == 2) with
            | true =>
              rw [h2] at m2
              cases a with
              | false =>
                have HG := Lib.hid (HTE.out (by rw [HKB.out, m6, h6, h2]; rfl))
                clear HTE HTB HKB
                go_wp2_with fail
                go_roundw
                case rel => exact ⟨i + 1, by omega, by go_num, HG, hb1, s7, e7⟩
                case measure => simp [intOf]; omega
              | true =>
                have HG := Lib.hid (HTE.out (by rw [HKB.out, m6, h6, h2]; rfl))
                clear HTE HTB HKB
                go_wp2_with fail
                go_roundw
                case rel => exact ⟨i + 1, by omega, by go_num, HG, hb1, s7, e7⟩
                case measure => simp [intOf]; omega
            | false =>
              rw [h2] at m2
              cases a with
              | false =>
                have HF := Lib.hid (HTB.out (by rw [HKB.out, m6, h6, h2]; rfl))
                clear HTE HTB HKB
                go_wp2_with fail
                go_ret
                exact ⟨by rw [HF.out]; rfl, hb1⟩
              | true =>
                have HF := Lib.hid (HTB.out (by rw [HKB.out, m6, h6, h2]; rfl))
                clear HTE HTB HKB
                go_wp2_with fail
                go_ret
                exact ⟨by rw [HF.out]; rfl, hb1⟩
    · have hii : i = t.kids.length := by omega
      subst hii
      have hz : allB t.kids a b = true := by have := HTK.out; rwa [List.take_length] at this
      have HZ := Lib.hid hz
      clear hz
      go_wp2_with fail
      go_ret
      exact ⟨by rw [HZ.out]; rfl, hbel⟩
end Go.Proofs.YthaoalmhhgllmaaGreatDoor
namespace Go.Proofs.YthaoalmhhgllmaaGreatDoor

inductive St where
  | run (p : Nat)
  | out (x : Nat)
abbrev Got := St × Option Tr
def toS : Option Res → Option Got
  | none => none
  | some (.ok t q) => some (.run q, some t)
  | some (.bad x) => some (.out x, none)
def goS (f : Nat → Option Res) : St → Option Got
  | .out x => some (.out x, none)
  | .run p => toS (f p)
def mustS (L : List Tok) (E : Nat) (s : List UInt8) : St → St
  | .out x => .out x
  | .run p => if isMark L p s = true then .run (p + 1) else .out (whr L E p)
def markR (L : List Tok) (m : Nat) (s : List UInt8) : St → Bool
  | .out _ => false
  | .run p => isMark L (p + m) s
def levelS (L : List Tok) : St → Nat
  | .out _ => 0
  | .run p => levelAt L p
def endS (L : List Tok) : St → Bool
  | .out _ => false
  | .run p => isEnd L p
def failS (L : List Tok) (E : Nat) : St → St
  | .out x => .out x
  | .run p => .out (whr L E p)
def OkS (L : List Tok) : St → Prop
  | .out _ => True
  | .run p => p ≤ L.length
theorem toS_next {a : Option Res} {f : Tr → Nat → Option Res} {g : Got} (h : toS (Res.next a f) = some g) :
    (∃ t q, toS a = some (.run q, some t) ∧ toS (f t q) = some g) ∨ (∃ x, toS a = some (.out x, none) ∧ g = (.out x, none)) := by
  cases a with
  | none => cases h
  | some r =>
    cases r with
    | ok t q => exact .inl ⟨t, q, rfl, h⟩
    | bad x => exact .inr ⟨x, rfl, (Option.some.inj h).symm⟩
theorem toS_must {L : List Tok} {E p : Nat} {s : List UInt8} {f : Nat → Option Res} {g : Got} (h : toS (mustF L E p s f) = some g) :
    (∃ q, mustS L E s (.run p) = .run q ∧ toS (f q) = some g) ∨ (∃ x, mustS L E s (.run p) = .out x ∧ g = (.out x, none)) := by
  unfold mustF at h
  by_cases hm : isMark L p s = true
  · rw [if_pos hm] at h
    exact .inl ⟨p + 1, if_pos hm, h⟩
  · rw [if_neg hm] at h
    exact .inr ⟨whr L E p, if_neg hm, (Option.some.inj h).symm⟩
theorem goS_fine {L : List Tok} {f : Nat → Option Res} {st : St} {lo : Nat → Nat} (hs : OkS L st) (h : ∀ p, p ≤ L.length → Fine L.length (lo p) (f p)) : ∃ g, goS f st = some g ∧ OkS L g.1 := by
  cases st with
  | out x => exact ⟨_, rfl, trivial⟩
  | run p =>
    obtain ⟨r, e, hr⟩ := h p hs
    cases r with
    | ok t q => exact ⟨(.run q, some t), by show toS (f p) = _; rw [e]; rfl, (hr t q rfl).2⟩
    | bad x => exact ⟨(.out x, none), by show toS (f p) = _; rw [e]; rfl, trivial⟩
end Go.Proofs.YthaoalmhhgllmaaGreatDoor
namespace Go.Proofs.YthaoalmhhgllmaaGreatDoor
open Go.RowKit

def RS (w : World) (R : Nat) (A : Option Addr) (cap : Nat) (L : List Tok) (E : Nat) : St → Prop
  | .run p => p ≤ L.length ∧ ∃ x : Int, RC w R A cap L E (p : Int) false x
  | .out x => ∃ p : Int, RC w R A cap L E p true (x : Int)
theorem RS.below {w w' : World} {R : Nat} {A : Option Addr} {cap : Nat} {L : List Tok} {E : Nat} {st : St} (h : RS w R A cap L E st) (hb : Below w.heap.size w w') : RS w' R A cap L E st := by
  cases st with
  | run p => obtain ⟨hp, x, h⟩ := h; exact ⟨hp, x, h.below hb⟩
  | out x => obtain ⟨p, h⟩ := h; exact ⟨p, h.below hb⟩

set_option maxHeartbeats 1000000 in
set_option maxRecDepth 10000 in
theorem rmark_bad {w : World} {R : Nat} {A : Option Addr} {cap : Nat} {L : List Tok} {E : Nat} {p x : Int} (m : Int) (s : ByteArray) (h : RC w R A cap L E p true x) :
    Calls Tryz.prog 75 #[.pointer (some ⟨R, 0, none⟩), .int .i64 m, .string s] w fun e w' => e = .returned (.bool false) ∧ Below w.heap.size w w' := by
  have c3 := h.c3
  clear h
  go_enter Tryz.func75, Tryz.ntmps75
  go_wp2_with fail
  go_quiet (fail)
  go_wp2_with fail
  go_ret
  exact ⟨rfl, below_drewN (Below.refl _ _) _⟩
set_option maxHeartbeats 1000000 in
set_option maxRecDepth 10000 in
theorem rmark_off {w : World} {R : Nat} {A : Option Addr} {cap : Nat} {L : List Tok} {E : Nat} {p m : Nat} {x : Int} (s : ByteArray) (_hL : L.length ≤ 1000) (hp : p ≤ 1000) (hm : m ≤ 1) (h : RC w R A cap L E p false x) (ho : ¬ p + m < L.length) :
    Calls Tryz.prog 75 #[.pointer (some ⟨R, 0, none⟩), .int .i64 (m : Int), .string s] w fun e w' => e = .returned (.bool false) ∧ Below w.heap.size w w' := by
  have c0 := h.c0
  have c1 := h.c1
  have c3 := h.c3
  have d1 : decide ((p : Int) + (m : Int) < (L.length : Int)) = false := decide_eq_false (by omega)
  clear h ho
  go_enter Tryz.func75, Tryz.ntmps75
  go_wp2_with fail
  go_quiet (fail)
  go_wp2_with fail
  go_ret
  exact ⟨rfl, below_drewN (Below.refl _ _) _⟩
set_option maxHeartbeats 1000000 in
set_option maxRecDepth 10000 in
theorem rmark_on {w : World} {R : Nat} {A : Option Addr} {cap : Nat} {L : List Tok} {E : Nat} {p m : Nat} {x : Int} (s : ByteArray) (hL : L.length ≤ 1000) (hp : p ≤ 1000) (hm : m ≤ 1) (h : RC w R A cap L E p false x) (hk : TK w R A L) {t : Tok} (ht : L[p + m]? = some t) :
    Calls Tryz.prog 75 #[.pointer (some ⟨R, 0, none⟩), .int .i64 (m : Int), .string s] w fun e w' => e = .returned (.bool (t.kind == 5 && t.text == s.data.toList)) ∧ Below w.heap.size w w' := by
  have c0 := h.c0
  have c1 := h.c1
  have c3 := h.c3
  obtain ⟨g, rfl, _, _, k0, _, _, _, k4, _⟩ := hk.at ht
  have hlt : p + m < L.length := (List.getElem?_eq_some_iff.1 ht).1
  have d1 : decide ((p : Int) + (m : Int) < (L.length : Int)) = true := decide_eq_true (by omega)
  have hT : (t.text == s.toList) = (t.text == s.data.toList) := by rw [ByteArray.toList_eq]
  clear h hk ht
  cases h5 : (t.kind == 5) with
  | false =>
    go_enter Tryz.func75, Tryz.ntmps75
    go_wp2_with fail
    go_quiet (fail)
    go_wp2_with fail
    go_ret
    exact ⟨rfl, below_drewN (Below.refl _ _) _⟩
  | true =>
    go_enter Tryz.func75, Tryz.ntmps75
    go_wp2_with fail
    go_quiet (fail)
    go_wp2_with fail
    go_ret
    exact ⟨ret_bool (Bool.true_and _).symm, below_drewN (Below.refl _ _) _⟩
theorem rmark_any {w : World} {R : Nat} {A : Option Addr} {cap : Nat} {L : List Tok} {E m : Nat} {st : St} (s : ByteArray) (hL : L.length ≤ 1000) (hm : m ≤ 1) (h : RS w R A cap L E st) (hk : TK w R A L) :
    Calls Tryz.prog 75 #[.pointer (some ⟨R, 0, none⟩), .int .i64 (m : Int), .string s] w fun e w' => e = .returned (.bool (markR L m s.data.toList st)) ∧ Below w.heap.size w w' := by
  cases st with
  | out x => obtain ⟨p, h⟩ := h; exact rmark_bad _ s h
  | run p =>
    obtain ⟨hp, x, h⟩ := h
    by_cases ho : p + m < L.length
    · have ht : L[p + m]? = some (L[p + m]'ho) := List.getElem?_eq_getElem ho
      refine (rmark_on s hL (by omega) hm h hk ht).mono fun e w' ⟨he, hb⟩ => ⟨he.trans (ret_bool ?_), hb⟩
      show _ = isMark L (p + m) s.data.toList
      unfold isMark
      rw [ht]
    · refine (rmark_off s hL (by omega) hm h ho).mono fun e w' ⟨he, hb⟩ => ⟨he.trans (ret_bool ?_), hb⟩
      show _ = isMark L (p + m) s.data.toList
      unfold isMark
      rw [List.getElem?_eq_none (by omega)]
end Go.Proofs.YthaoalmhhgllmaaGreatDoor
