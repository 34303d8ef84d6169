/- Texts joined: TvA, SyD, SyE, SyF, SyG, RefK, LxQ, SyH. -/
import Derived.Test.YthaoalmhhgllmaaGreatDoorMa06
import Derived.Test.YthaoalmhhgllmaaGreatDoorMa04
set_option linter.all false
set_option linter.unusedVariables false
set_option linter.unusedSimpArgs false
namespace Go.Proofs.YthaoalmhhgllmaaGreatDoor
open Go.RowKit

structure V8 where
  n0 : Int
  n1 : Int
  n2 : Int
  n3 : Int
  n4 : Int
  n5 : Int
  s : ByteArray
  A : Option Addr
  len : Nat
  cap : Nat
def V8.val (x : V8) : Value := .agg #[.int .i64 x.n0, .int .i64 x.n1, .int .i64 x.n2, .int .i64 x.n3, .int .i64 x.n4, .int .i64 x.n5, .string x.s, .slice x.A x.len x.cap]
def tv8 (t : Tr) (A : Option Addr) (cap : Nat) : V8 := ⟨t.kind, t.num, t.c1, t.r1, t.c2, t.r2, ⟨t.word.toArray⟩, A, t.kids.length, cap⟩
theorem tv8_val (t : Tr) (A : Option Addr) (cap : Nat) : (tv8 t A cap).val = tv t A cap := rfl
mutual
theorem KV.imp {w : World} {P Q : Nat → Prop} (h : ∀ g, P g → Q g) : ∀ {t : Tr} {A : Option Addr}, KV w P t A → KV w Q t A
  | .mk _ _ _ _ _ _ _ ks, A, hk => by
    rw [KV] at hk ⊢
    rcases hk with hk | ⟨g, o, e, hp, hl, hk⟩
    · exact .inl hk
    · exact .inr ⟨g, o, e, h g hp, hl, KL.imp h hk⟩
theorem KL.imp {w : World} {P Q : Nat → Prop} (h : ∀ g, P g → Q g) : ∀ {ks : List Tr} {g o : Nat}, KL w P ks g o → KL w Q ks g o
  | [], _, _, _ => by rw [KL]; trivial
  | t :: ts, g, o, hk => by
    rw [KL] at hk ⊢
    obtain ⟨⟨A, cap, h8, hv⟩, hl⟩ := hk
    exact ⟨⟨A, cap, h8, KV.imp h hv⟩, KL.imp h hl⟩
end
theorem Kept.set {a w : World} {P : Nat → Prop} (h : Kept a w P) {g : Nat} (hg : ¬ P g ∨ a.heap.size ≤ g) (o : Nat) (u : Value) : Kept a (w.setCell ⟨g, o, none⟩ u) P := by
  have hb := (Below.refl 0 w).setCell (p := ⟨g, o, none⟩) (Nat.zero_le _) u
  refine ⟨Nat.le_trans h.size hb.size, fun k hp hk => ?_⟩
  rw [Below.heap_setCell w ⟨g, o, none⟩ u k (by rintro rfl; rcases hg with hg | hg; exact hg hp; exact absurd hk (Nat.not_lt.2 hg))]
  exact h.block k hp hk
theorem Kept.set1 {a w : World} {B : Nat} (h : Kept a w (fun b => B < b)) {g : Nat} (hg : g ≤ B) (o : Nat) (u : Value) : Kept a (w.setCell ⟨g, o, none⟩ u) (fun b => B < b) := h.set (.inl fun hh => Nat.not_lt.2 hg hh) o u
theorem Kept.set2 {a w : World} {B O : Nat} (h : Kept a w (fun b => B < b ∧ b ≠ O)) {g : Nat} (hg : g ≤ B) (o : Nat) (u : Value) : Kept a (w.setCell ⟨g, o, none⟩ u) (fun b => B < b ∧ b ≠ O) := h.set (.inl fun hh => Nat.not_lt.2 hg hh.1) o u
theorem Kept.set2o {a w : World} {B O : Nat} (h : Kept a w (fun b => B < b ∧ b ≠ O)) (o : Nat) (u : Value) : Kept a (w.setCell ⟨O, o, none⟩ u) (fun b => B < b ∧ b ≠ O) := h.set (.inl fun hh => hh.2 rfl) o u
theorem Kept.setNew {a w : World} {P : Nat → Prop} (h : Kept a w P) {g : Nat} (hg : a.heap.size ≤ g) (o : Nat) (u : Value) : Kept a (w.setCell ⟨g, o, none⟩ u) P := h.set (.inr hg) o u
theorem Kept.alloc {a w : World} {P : Nat → Prop} (h : Kept a w P) (o : Obj) : Kept a (w.alloc o) P := h.trans (Kept.of_below ((Below.refl _ _).alloc (Nat.le_refl _) o))
theorem Kept.drew {a w : World} {P : Nat → Prop} (h : Kept a w P) : Kept a w.drew P := ⟨h.size, h.block⟩
theorem Kept.drewN {a w : World} {P : Nat → Prop} (h : Kept a w P) (n : Nat) : Kept a (w.drewN n) P := h.trans (Kept.of_below (below_drewN (Below.refl _ _) n))
theorem Kept.but {a w w' : World} {P : Nat → Prop} {R : Nat} (h : Kept a w P) (hb : But R w w') (hR : ¬ P R) : Kept a w' P :=
  h.trans ⟨hb.size, fun g hp hl => hb.block g hl fun e => hR (e ▸ hp)⟩
def TV (w : World) (P : Nat → Prop) (x : V8) : Option Tr → Prop
  | some t => ∃ A cap, x = tv8 t A cap ∧ KV w P t A
  | none => True
theorem TV.kept {w w' : World} {P : Nat → Prop} {x : V8} {ot : Option Tr} (h : TV w P x ot) (hb : Kept w w' P) : TV w' P x ot := by
  cases ot with
  | none => trivial
  | some t => obtain ⟨A, cap, hx, hk⟩ := h; exact ⟨A, cap, hx, hk.kept hb⟩
theorem TV.imp {w : World} {P Q : Nat → Prop} {x : V8} {ot : Option Tr} (h : TV w P x ot) (hq : ∀ g, P g → Q g) : TV w Q x ot := by
  cases ot with
  | none => trivial
  | some t => obtain ⟨A, cap, hx, hk⟩ := h; exact ⟨A, cap, hx, hk.imp hq⟩
theorem kc_set {w : World} {b o : Nat} {v : Value} (h : w.cell? ⟨b, o, none⟩ = some v) {g : Nat} (hg : g ≠ b) (o' : Nat) (u : Value) : (w.setCell ⟨g, o', none⟩ u).cell? ⟨b, o, none⟩ = some v := by
  rw [World.cell?_setCell_far w ⟨g, o', none⟩ ⟨b, o, none⟩ u hg]; exact h
theorem kc_alloc {w : World} {b o : Nat} {v : Value} (h : w.cell? ⟨b, o, none⟩ = some v) (ob : Obj) : (w.alloc ob).cell? ⟨b, o, none⟩ = some v := keep_cell ((Below.refl _ _).alloc (Nat.le_refl _) ob) h
theorem kc_drew {w : World} {b o : Nat} {v : Value} (h : w.cell? ⟨b, o, none⟩ = some v) : w.drew.cell? ⟨b, o, none⟩ = some v := h
theorem kc_drewN {w : World} {b o : Nat} {v : Value} (h : w.cell? ⟨b, o, none⟩ = some v) (n : Nat) : (w.drewN n).cell? ⟨b, o, none⟩ = some v := h
theorem kf_set {w : World} {b o : Nat} (h : w.frozen? ⟨b, o, none⟩ = false) {g : Nat} (hg : g ≠ b) (o' : Nat) (u : Value) : (w.setCell ⟨g, o', none⟩ u).frozen? ⟨b, o, none⟩ = false := by
  rw [World.frozen?_of_block (w := w) (a := ⟨b, o, none⟩) (Below.heap_setCell w ⟨g, o', none⟩ u b fun e => hg e.symm)]; exact h
theorem kf_alloc {w : World} {b o : Nat} (h : w.frozen? ⟨b, o, none⟩ = false) (hb : b < w.heap.size) (ob : Obj) : (w.alloc ob).frozen? ⟨b, o, none⟩ = false := keep_frozen ((Below.refl _ _).alloc (Nat.le_refl _) ob) hb h
theorem kf_drew {w : World} {b o : Nat} (h : w.frozen? ⟨b, o, none⟩ = false) : w.drew.frozen? ⟨b, o, none⟩ = false := h
theorem kf_drewN {w : World} {b o : Nat} (h : w.frozen? ⟨b, o, none⟩ = false) (n : Nat) : (w.drewN n).frozen? ⟨b, o, none⟩ = false := h
def At8V (w : World) (g o : Nat) (x : V8) : Prop :=
  w.cell? ⟨g, o, none⟩ = some (.int .i64 x.n0) ∧ w.cell? ⟨g, o + 1, none⟩ = some (.int .i64 x.n1) ∧ w.cell? ⟨g, o + 2, none⟩ = some (.int .i64 x.n2) ∧ w.cell? ⟨g, o + 3, none⟩ = some (.int .i64 x.n3) ∧
  w.cell? ⟨g, o + 4, none⟩ = some (.int .i64 x.n4) ∧ w.cell? ⟨g, o + 5, none⟩ = some (.int .i64 x.n5) ∧ w.cell? ⟨g, o + 6, none⟩ = some (.string x.s) ∧ w.cell? ⟨g, o + 7, none⟩ = some (.slice x.A x.len x.cap)
theorem TV.node {w : World} {P : Nat → Prop} {G cap : Nat} (k : Int) (wd : List UInt8) (xs : List (V8 × Tr)) (hG : P G) (hl : G < w.heap.size)
    (h : ∀ (i : Nat) (x : V8) (t : Tr), xs[i]? = some (x, t) → At8V w G (8 * i) x ∧ TV w P x (some t)) :
    TV w P ⟨k, 0, 0, 0, 0, 0, ⟨wd.toArray⟩, some ⟨G, 0, none⟩, xs.length, cap⟩ (some (.mk k 0 0 0 0 0 wd (xs.map Prod.snd))) := by
  refine ⟨some ⟨G, 0, none⟩, cap, by simp [tv8, Tr.kind, Tr.num, Tr.c1, Tr.r1, Tr.c2, Tr.r2, Tr.word, Tr.kids], KV.mk (.inr ⟨G, 0, rfl, hG, hl, KL.of fun i t hi => ?_⟩)⟩
  have hi' : (xs.map Prod.snd)[i]? = some t := hi
  rw [List.getElem?_map] at hi'
  cases hx : xs[i]? with
  | none => rw [hx] at hi'; cases hi'
  | some xt =>
    obtain ⟨x, t'⟩ := xt
    rw [hx] at hi'
    obtain rfl : t' = t := Option.some.inj hi'
    obtain ⟨h8, A, cap', hxv, hk⟩ := h i x t' hx
    subst hxv
    refine ⟨A, cap', ?_, hk⟩
    rw [Nat.zero_add]
    exact h8
theorem TV.node1 {w : World} {P : Nat → Prop} {G cap : Nat} (k : Int) (wd : List UInt8) (x : V8) (ot : Option Tr) (hG : P G) (hl : G < w.heap.size) (h8 : At8V w G 0 x) (hx : TV w P x ot) :
    TV w P ⟨k, 0, 0, 0, 0, 0, ⟨wd.toArray⟩, some ⟨G, 0, none⟩, 1, cap⟩ (ot.map fun t => .mk k 0 0 0 0 0 wd [t]) := by
  cases ot with
  | none => trivial
  | some t =>
    refine TV.node k wd [(x, t)] hG hl fun i y u hi => ?_
    match i, hi with
    | 0, hi => simp at hi; obtain ⟨rfl, rfl⟩ := hi; exact ⟨h8, hx⟩
theorem end_some {L : List Tok} {p : Nat} (h : isEnd L p = true) : ∃ t, L[p]? = some t ∧ (t.kind = 2 ∨ t.kind = 3) := by
  unfold isEnd at h
  split at h
  · rename_i t ht
    refine ⟨t, ht, ?_⟩
    simpa using h
  · cases h
theorem whr_some {L : List Tok} {E p : Nat} {t : Tok} (h : L[p]? = some t) : whr L E p = t.frm := by unfold whr; rw [h]
theorem whr_none {L : List Tok} {E p : Nat} (h : L[p]? = none) : whr L E p = E := by unfold whr; rw [h]
theorem end_none {L : List Tok} {p : Nat} (h : L[p]? = none) : isEnd L p = false := by unfold isEnd; rw [h]
def cornerF (L : List Tok) (E : Nat) (a : Tok) (q : Nat) : Option Res := match L[q]? with
  | none => some (.bad E)
  | some b => if isEnd L q = false then some (.bad b.frm) else if a.kind = 3 ∨ b.kind = 3 then some (.ok badT (q + 1)) else some (.ok (spanT (min a.col b.col) (min a.row b.row) (max a.col b.col) (max a.row b.row)) (q + 1))
theorem TV.node2 {w : World} {P : Nat → Prop} {G cap : Nat} (k : Int) (wd : List UInt8) (x y : V8) (t : Tr) (ot : Option Tr) (hG : P G) (hl : G < w.heap.size) (h8 : At8V w G 0 x) (k8 : At8V w G 8 y) (hx : TV w P x (some t)) (hy : TV w P y ot) :
    TV w P ⟨k, 0, 0, 0, 0, 0, ⟨wd.toArray⟩, some ⟨G, 0, none⟩, 2, cap⟩ (ot.map fun u => .mk k 0 0 0 0 0 wd [t, u]) := by
  cases ot with
  | none => trivial
  | some u =>
    refine TV.node k wd [(x, t), (y, u)] hG hl fun i z v hi => ?_
    match i, hi with
    | 0, hi => simp at hi; obtain ⟨rfl, rfl⟩ := hi; exact ⟨h8, hx⟩
    | 1, hi => simp at hi; obtain ⟨rfl, rfl⟩ := hi; exact ⟨k8, hy⟩
mutual
theorem KV.lowT {w : World} {P : Nat → Prop} : ∀ {t : Tr} {A : Option Addr}, KV w P t A → KV w (fun b => P b ∧ b < w.heap.size) t A
  | .mk _ _ _ _ _ _ _ ks, A, hk => by
    rw [KV] at hk ⊢
    rcases hk with hk | ⟨g, o, e, hp, hl, hk⟩
    · exact .inl hk
    · exact .inr ⟨g, o, e, ⟨hp, hl⟩, hl, KL.lowT hk⟩
theorem KL.lowT {w : World} {P : Nat → Prop} : ∀ {ks : List Tr} {g o : Nat}, KL w P ks g o → KL w (fun b => P b ∧ b < w.heap.size) ks g o
  | [], _, _, _ => by rw [KL]; trivial
  | t :: ts, g, o, hk => by
    rw [KL] at hk ⊢
    obtain ⟨⟨A, cap, h8, hv⟩, hl⟩ := hk
    exact ⟨⟨A, cap, h8, KV.lowT hv⟩, KL.lowT hl⟩
end
theorem KV.low {w : World} {P : Nat → Prop} : ∀ {t : Tr} {A : Option Addr}, KV w P t A → KV w (fun b => P b ∧ b < w.heap.size) t A := by
  intro t A h
  exact KV.lowT h
theorem TV.fresh {w : World} {P : Nat → Prop} {x : V8} {ot : Option Tr} (h : TV w P x ot) : TV w (fun b => P b ∧ b ≠ w.heap.size) x ot := by
  cases ot with
  | none => trivial
  | some t => obtain ⟨A, cap, hx, hk⟩ := h; exact ⟨A, cap, hx, hk.low.imp fun b hb => ⟨hb.1, Nat.ne_of_lt hb.2⟩⟩
theorem kc_alloc' {w : World} {p : Addr} {v : Value} (h : w.cell? p = some v) {ob : Obj} : (w.alloc ob).cell? p = some v := by
  rw [((Below.refl _ _).alloc (Nat.le_refl _) ob).cell (Lib.lt_of_cell h)]; exact h
theorem But.kept' {R B : Nat} {w w' : World} (h : But R w w') (hR : R < B) : Kept w w' (fun b => B ≤ b) := ⟨h.size, fun g hp hl => h.block g hl fun e => by have : B ≤ g := hp; omega⟩
theorem zCs {w : World} {b o : Nat} {v : Value} (h : w.cell? ⟨b, o, none⟩ = some v) {g : Nat} (hg : g ≠ b) (o' : Nat) (u : Value) : (w.setCell ⟨g, o', none⟩ u).cell? ⟨b, o, none⟩ = some v := kc_set h hg o' u
theorem zCa {w : World} {b o : Nat} {v : Value} (h : w.cell? ⟨b, o, none⟩ = some v) (ob : Obj) : (w.alloc ob).cell? ⟨b, o, none⟩ = some v := kc_alloc h ob
theorem zCd {w : World} {b o : Nat} {v : Value} (h : w.cell? ⟨b, o, none⟩ = some v) : w.drew.cell? ⟨b, o, none⟩ = some v := kc_drew h
theorem zCn {w : World} {b o : Nat} {v : Value} (h : w.cell? ⟨b, o, none⟩ = some v) (n : Nat) : (w.drewN n).cell? ⟨b, o, none⟩ = some v := kc_drewN h n
theorem zFs {w : World} {b o : Nat} (h : w.frozen? ⟨b, o, none⟩ = false) {g : Nat} (hg : g ≠ b) (o' : Nat) (u : Value) : (w.setCell ⟨g, o', none⟩ u).frozen? ⟨b, o, none⟩ = false := kf_set h hg o' u
theorem zFa {w : World} {b o : Nat} (h : w.frozen? ⟨b, o, none⟩ = false) (hb : b < w.heap.size) (ob : Obj) : (w.alloc ob).frozen? ⟨b, o, none⟩ = false := kf_alloc h hb ob
theorem zFd {w : World} {b o : Nat} (h : w.frozen? ⟨b, o, none⟩ = false) : w.drew.frozen? ⟨b, o, none⟩ = false := kf_drew h
theorem zFn {w : World} {b o : Nat} (h : w.frozen? ⟨b, o, none⟩ = false) (n : Nat) : (w.drewN n).frozen? ⟨b, o, none⟩ = false := kf_drewN h n
end Go.Proofs.YthaoalmhhgllmaaGreatDoor
namespace Go.Proofs.YthaoalmhhgllmaaGreatDoor

structure Seg (L : List Tok) (E p q : Nat) (t : Tr) (m0 : Nat) : Prop where
  line : ∀ m, 1 ≤ m → m ≤ m0 → m ≤ 4 → levelAt L q < m → ∃ k, lineF L E k m p = some (.ok t q)
  rest : ∀ m, 1 ≤ m → m ≤ m0 → m ≤ 3 → levelAt L q ≤ m → ∀ x, (∃ k, restF L E k m t q = some x) → ∃ k, lineF L E k m p = some x
  pref : 4 ≤ m0 → ∃ k, prefF L E k p = some (.ok t q)
theorem next_ok {a : Option Res} {t : Tr} {q : Nat} {f : Tr → Nat → Option Res} (h : a = some (.ok t q)) : Res.next a f = f t q := by rw [h]; rfl
theorem rest_stop {L : List Tok} {E k m q : Nat} {t : Tr} (h : ¬ levelAt L q = m) : restF L E (k + 1) m t q = some (.ok t q) := by
  simp only [restF]; rw [if_neg h]
theorem line_pref {L : List Tok} {E k p : Nat} {m : Nat} (h : 3 < m) : lineF L E (k + 1) m p = prefF L E k p := by
  simp only [lineF]; rw [if_pos h]
theorem line_up {L : List Tok} {E p q m : Nat} {t : Tr} {x : Res} (h : ¬ 3 < m) (h1 : ∃ k, lineF L E k (m + 1) p = some (.ok t q)) (h2 : ∃ k, restF L E k m t q = some x) : ∃ k, lineF L E k m p = some x := by
  obtain ⟨k, hk⟩ := h1
  obtain ⟨j, hj⟩ := h2
  have a := (le_all L E k (max k j) (by omega)).line _ _ _ hk
  have b := (le_all L E j (max k j) (by omega)).rest _ _ _ _ hj
  refine ⟨max k j + 1, ?_⟩
  simp only [lineF]
  rw [if_neg h, next_ok a, b]
theorem Seg.down {L : List Tok} {E p q : Nat} {t : Tr} {m0 m1 : Nat} (h : Seg L E p q t m0) (hm : m1 ≤ m0) : Seg L E p q t m1 :=
  ⟨fun m h1 h2 h4 => h.line m h1 (by omega) h4, fun m h1 h2 h3 => h.rest m h1 (by omega) h3, fun h4 => h.pref (by omega)⟩
theorem seg_below {L : List Tok} {E p q : Nat} {t : Tr} {n : Nat} (hD : levelAt L q < n → ∃ k, lineF L E k n p = some (.ok t q)) : ∀ d m, m + d = n → 1 ≤ m → n ≤ 4 →
    (levelAt L q < m → ∃ k, lineF L E k m p = some (.ok t q)) ∧ (m < n → levelAt L q ≤ m → ∀ x, (∃ k, restF L E k m t q = some x) → ∃ k, lineF L E k m p = some x)
  | 0, m, h, _, _ => by
    obtain rfl : m = n := by omega
    exact ⟨hD, fun h => absurd h (by omega)⟩
  | d + 1, m, h, h1, h4 => by
    have I := (seg_below hD d (m + 1) (by omega) (by omega) h4).1
    have R : levelAt L q ≤ m → ∀ x, (∃ k, restF L E k m t q = some x) → ∃ k, lineF L E k m p = some x := fun hl x hx => line_up (by omega) (I (by omega)) hx
    exact ⟨fun hl => R (by omega) _ ⟨1, rest_stop (by omega)⟩, fun _ => R⟩
theorem seg_atom {L : List Tok} {E p q : Nat} {t : Tr} (h : ∃ k, prefF L E k p = some (.ok t q)) : Seg L E p q t 4 := by
  have hD : levelAt L q < 4 → ∃ k, lineF L E k 4 p = some (.ok t q) := fun _ => by
    obtain ⟨k, hk⟩ := h
    exact ⟨k + 1, (line_pref (by omega)).trans hk⟩
  exact ⟨fun m h1 _ h4 => (seg_below hD (4 - m) m (by omega) h1 (by omega)).1, fun m h1 _ h3 => (seg_below hD (4 - m) m (by omega) h1 (by omega)).2 (by omega), fun _ => h⟩
theorem seg_op {L : List Tok} {E p q1 q : Nat} {a b : Tr} {m : Nat} {w : List UInt8} (h1 : 1 ≤ m) (h3 : m ≤ 3) (ha : Seg L E p q1 a m) (hl : levelAt L q1 = m) (hw : (L.map Tok.text).getD q1 [] = w) (hb : Seg L E (q1 + 1) q b (m + 1)) :
    Seg L E p q (opT w a b) m := by
  have R : levelAt L q ≤ m → ∀ x, (∃ k, restF L E k m (opT w a b) q = some x) → ∃ k, lineF L E k m p = some x := fun hq x ⟨j, hj⟩ => by
    refine ha.rest m h1 (Nat.le_refl _) h3 (by omega) x ?_
    obtain ⟨k, hk⟩ := hb.line (m + 1) (by omega) (Nat.le_refl _) (by omega) (by omega)
    have A := (le_all L E k (max k j) (by omega)).line _ _ _ hk
    have B := (le_all L E j (max k j) (by omega)).rest _ _ _ _ hj
    refine ⟨max k j + 1, ?_⟩
    simp only [restF]
    rw [if_pos hl, next_ok A, hw, B]
  have hD : levelAt L q < m → ∃ k, lineF L E k m p = some (.ok (opT w a b) q) := fun hq => R (by omega) _ ⟨1, rest_stop (by omega)⟩
  refine ⟨fun n g1 g2 g4 => (seg_below hD (m - n) n (by omega) g1 (by omega)).1, fun n g1 g2 g3 => ?_, fun h4 => by omega⟩
  by_cases e : n = m
  · subst e; exact R
  · exact (seg_below hD (m - n) n (by omega) g1 (by omega)).2 (by omega)
theorem seg_neg {L : List Tok} {E p q : Nat} {a : Tr} (hm : isMark L p [45] = true) (ha : Seg L E (p + 1) q a 4) : Seg L E p q (negT a) 4 := by
  obtain ⟨k, hk⟩ := ha.pref (Nat.le_refl _)
  refine seg_atom ⟨k + 1, ?_⟩
  simp only [prefF]
  rw [if_pos hm, next_ok hk]
theorem pref_oper {L : List Tok} {E p : Nat} {x : Res} (hm : ¬ isMark L p [45] = true) (h : ∃ k, operF L E k p = some x) : ∃ k, prefF L E k p = some x := by
  obtain ⟨k, hk⟩ := h
  refine ⟨k + 1, ?_⟩
  simp only [prefF]
  rw [if_neg hm, hk]
theorem must_ok {L : List Tok} {E p : Nat} {s : List UInt8} {f : Nat → Option Res} (h : isMark L p s = true) : mustF L E p s f = f (p + 1) := by
  unfold mustF; rw [if_pos h]
theorem mark_uni {L : List Tok} {p : Nat} {s z : List UInt8} (h : isMark L p s = true) (hz : isMark L p z = true) : s = z := by
  unfold isMark at h hz
  cases e : L[p]? with
  | none => rw [e] at h; cases h
  | some t =>
    rw [e] at h hz
    simp at h hz
    rw [← h.2, ← hz.2]
theorem mark_level {L : List Tok} {p : Nat} {s : List UInt8} (h : isMark L p s = true) : levelAt L p = lvl s := by
  unfold isMark at h
  unfold levelAt
  split at h
  · simp at h; rw [if_pos h.1, h.2]
  · cases h
theorem seg_brk {L : List Tok} {E p q : Nat} {t : Tr} (hm : isMark L p [40] = true) (h : Seg L E (p + 1) q t 1) (hc : isMark L q [41] = true) : Seg L E p (q + 1) t 4 := by
  have hl : levelAt L q = 0 := by rw [mark_level hc]; decide
  obtain ⟨k, hk⟩ := h.line 1 (by omega) (by omega) (by omega) (by omega)
  refine seg_atom (pref_oper (fun h' => by have := mark_uni hm h'; revert this; decide) ⟨k + 1, ?_⟩)
  simp only [operF]
  rw [if_pos hm, next_ok hk, must_ok hc]
theorem mark_none {L : List Tok} {p : Nat} {t : Tok} {s : List UInt8} (ht : L[p]? = some t) (hk : t.kind ≠ 5) : ¬ isMark L p s = true := by
  unfold isMark
  rw [ht]
  simp [hk]
theorem seg_leaf {L : List Tok} {E p : Nat} {t : Tok} (ht : L[p]? = some t) {x : Tr} (h : t.kind = 1 ∧ x = numT t.num ∨ t.kind = 2 ∧ x = readT t.col t.row ∨ t.kind = 3 ∧ x = badT) : Seg L E p (p + 1) x 4 := by
  have hk : t.kind ≠ 5 := by rcases h with h | h | h <;> omega
  refine seg_atom (pref_oper (mark_none ht hk) ⟨1, ?_⟩)
  simp only [operF]
  rw [if_neg (mark_none ht hk), ht]
  simp only
  rw [if_neg hk]
  rcases h with ⟨h, rfl⟩ | ⟨h, rfl⟩ | ⟨h, rfl⟩
  · rw [if_pos h]
  · rw [if_neg (by omega), if_pos h]
  · rw [if_neg (by omega), if_neg (by omega), if_pos h]
end Go.Proofs.YthaoalmhhgllmaaGreatDoor
namespace Go.Proofs.YthaoalmhhgllmaaGreatDoor

theorem mark_off {L : List Tok} {p : Nat} {s z : List UInt8} (h : isMark L p s = true) (hz : s ≠ z) : isMark L p z = false := by
  cases e : isMark L p z with
  | false => rfl
  | true => exact absurd (mark_uni h e) hz
theorem mark_at {L : List Tok} {p : Nat} {t : Tok} (h : L[p]? = some t) (hk : t.kind = 5) : isMark L p t.text = true := by
  unfold isMark; rw [h]; simp [hk]
theorem seg_line {L : List Tok} {E p q : Nat} {t : Tr} {s : List UInt8} (h : Seg L E p q t 1) (hm : isMark L q s = true) (hs : lvl s = 0) : ∃ k, lineF L E k 1 p = some (.ok t q) :=
  h.line 1 (by omega) (by omega) (by omega) (by rw [mark_level hm, hs]; omega)
inductive Its (L : List Tok) (E : Nat) (corners : Bool) : Nat → Nat → List Tr → Prop
  | last {p q : Nat} {t : Tr} : (∃ k, itemF L E k corners p = some (.ok t q)) → isMark L q [41] = true → Its L E corners p (q + 1) [t]
  | more {p q r : Nat} {t : Tr} {ts : List Tr} : (∃ k, itemF L E k corners p = some (.ok t q)) → isMark L q [44] = true → Its L E corners (q + 1) r ts → Its L E corners p r (t :: ts)
theorem its_ok {L : List Tok} {E p r : Nat} {w : List UInt8} {ts : List Tr} (h : Its L E (w == [67, 79, 85, 78, 84]) p r ts) : ∀ acc, ∃ k, itemsF L E k w acc p = some (.ok (callT w (acc ++ ts)) r) := by
  induction h with
  | last hi hm =>
    intro acc
    obtain ⟨k, hk⟩ := hi
    refine ⟨k + 1, ?_⟩
    simp only [itemsF]
    rw [next_ok hk, if_neg (by rw [mark_off hm (by decide)]; decide), must_ok hm]
  | @more p q r t ts hi hm _ ih =>
    intro acc
    obtain ⟨k, hk⟩ := hi
    obtain ⟨j, hj⟩ := ih (acc ++ [t])
    have a := (le_all L E k (max k j) (by omega)).item _ _ _ hk
    have b := (le_all L E j (max k j) (by omega)).items _ _ _ _ hj
    refine ⟨max k j + 1, ?_⟩
    simp only [itemsF]
    rw [next_ok a, if_pos hm, b, List.append_assoc, List.singleton_append]
theorem seg_call {L : List Tok} {E p q : Nat} {t : Tok} {ts : List Tr} (ht : L[p]? = some t) (hk : t.kind = 4) (hw : t.text ≠ [73, 70]) (hm : isMark L (p + 1) [40] = true) (h : Its L E (t.text == [67, 79, 85, 78, 84]) (p + 1 + 1) q ts) : Seg L E p q (callT t.text ts) 4 := by
  obtain ⟨k, hk'⟩ := its_ok h []
  refine seg_atom (pref_oper (mark_none ht (by omega)) ⟨k + 1, ?_⟩)
  simp only [operF]
  rw [if_neg (mark_none ht (by omega)), ht]
  simp only
  rw [if_neg (by omega), if_neg (by omega), if_neg (by omega), if_neg (by omega), must_ok hm, if_neg hw, hk', List.nil_append]
theorem seg_if {L : List Tok} {E p q1 q2 q3 : Nat} {t : Tok} {a b c : Tr} (ht : L[p]? = some t) (hk : t.kind = 4) (hw : t.text = [73, 70]) (hm : isMark L (p + 1) [40] = true) (ha : Seg L E (p + 1 + 1) q1 a 1) (h1 : isMark L q1 [44] = true)
    (hb : Seg L E (q1 + 1) q2 b 1) (h2 : isMark L q2 [44] = true) (hc : Seg L E (q2 + 1) q3 c 1) (h3 : isMark L q3 [41] = true) : Seg L E p (q3 + 1) (callT [73, 70] [a, b, c]) 4 := by
  obtain ⟨i, hi⟩ := seg_line ha h1 (by decide)
  obtain ⟨j, hj⟩ := seg_line hb h2 (by decide)
  obtain ⟨k, hk'⟩ := seg_line hc h3 (by decide)
  have A := (le_all L E i (i + j + k) (by omega)).line _ _ _ hi
  have B := (le_all L E j (i + j + k) (by omega)).line _ _ _ hj
  have C := (le_all L E k (i + j + k) (by omega)).line _ _ _ hk'
  refine seg_atom (pref_oper (mark_none ht (by omega)) ⟨i + j + k + 1, ?_⟩)
  simp only [operF]
  rw [if_neg (mark_none ht (by omega)), ht]
  simp only
  rw [if_neg (by omega), if_neg (by omega), if_neg (by omega), if_neg (by omega), must_ok hm, if_pos hw, next_ok A, must_ok h1, next_ok B, must_ok h2, next_ok C, must_ok h3]
def First (L : List Tok) (p q : Nat) : Prop := isEnd L p = true → p + 1 = q ∨ 0 < levelAt L (p + 1)
theorem first_not {L : List Tok} {p q : Nat} {t : Tok} (ht : L[p]? = some t) (h : t.kind ≠ 2 ∧ t.kind ≠ 3) : First L p q := by
  intro he
  unfold isEnd at he
  rw [ht] at he
  simp at he
  omega
theorem mark_is {L : List Tok} {p : Nat} {s : List UInt8} (h : isMark L p s = true) : ∃ t, L[p]? = some t ∧ t.kind = 5 ∧ t.text = s := by
  unfold isMark at h
  cases e : L[p]? with
  | none => rw [e] at h; cases h
  | some t =>
    rw [e] at h
    simp at h
    exact ⟨t, rfl, h.1, h.2⟩
theorem first_mark {L : List Tok} {p q : Nat} {s : List UInt8} (h : isMark L p s = true) : First L p q := by
  obtain ⟨t, ht, hk, _⟩ := mark_is h
  exact first_not ht (by omega)
theorem first_op {L : List Tok} {p q1 q : Nat} (h : First L p q1) (hl : 0 < levelAt L q1) : First L p q := by
  intro he
  rcases h he with h | h
  · exact .inr (by rw [h]; exact hl)
  · exact .inr h
theorem item_line {L : List Tok} {E p q : Nat} {t : Tr} {s : List UInt8} (h : Seg L E p q t 1) (hf : First L p q) (hm : isMark L q s = true) (hs : lvl s = 0) (hc : s ≠ [58]) : ∃ k, itemF L E k false p = some (.ok t q) := by
  obtain ⟨k, hk⟩ := seg_line h hm hs
  refine ⟨k + 1, ?_⟩
  simp only [itemF]
  rw [if_pos, hk]
  refine ⟨trivial, ?_⟩
  cases he : isEnd L p with
  | false => exact .inl rfl
  | true =>
    refine .inr ?_
    rcases hf he with e | e
    · rw [e]; exact mark_off hm hc
    · cases h' : isMark L (p + 1) [58] with
      | false => rfl
      | true => rw [mark_level h'] at e; exact absurd e (by decide)
theorem item_bad {L : List Tok} {E p : Nat} {a : Tok} {s : List UInt8} (h : L[p]? = some a) (hk : a.kind = 3) (hm : isMark L (p + 1) s = true) (hs : s ≠ [58]) : ∃ k, itemF L E k true p = some (.ok badT (p + 1)) := by
  refine ⟨1, ?_⟩
  have he : isEnd L p = true := by unfold isEnd; rw [h]; simp [hk]
  simp only [itemF]
  rw [if_neg (by rintro ⟨h, _⟩; cases h), h]
  simp only
  rw [if_neg (by rw [he]; decide), if_pos ⟨mark_off hm hs, hk⟩]
theorem item_span {L : List Tok} {E p : Nat} {a b : Tok} (corners : Bool) (ha : L[p]? = some a) (hka : a.kind = 2) (hm : isMark L (p + 1) [58] = true) (hb : L[p + 1 + 1]? = some b) (hkb : b.kind = 2) (hc : a.col ≤ b.col) (hr : a.row ≤ b.row) :
    ∃ k, itemF L E k corners p = some (.ok (spanT a.col a.row b.col b.row) (p + 1 + 1 + 1)) := by
  refine ⟨1, ?_⟩
  have he : isEnd L p = true := by unfold isEnd; rw [ha]; simp [hka]
  have he2 : isEnd L (p + 1 + 1) = true := by unfold isEnd; rw [hb]; simp [hkb]
  simp only [itemF]
  rw [if_neg (by rw [he, hm]; simp), ha]
  simp only
  rw [if_neg (by rw [he]; decide), if_neg (by omega), must_ok hm, hb]
  simp only
  rw [if_neg (by rw [he2]; decide), if_neg (by omega), Int.min_eq_left hc, Int.min_eq_left hr, Int.max_eq_right hc, Int.max_eq_right hr]
end Go.Proofs.YthaoalmhhgllmaaGreatDoor
namespace Go.Proofs.YthaoalmhhgllmaaGreatDoor

def mkT (s : List UInt8) : Tok := ⟨5, 0, 0, 0, s, 0⟩
def numK (n : Int) : Tok := ⟨1, n, 0, 0, [], 0⟩
def placeK (c r : Int) : Tok := ⟨2, 0, c, r, [], 0⟩
def badK : Tok := ⟨3, 0, 0, 0, [], 0⟩
def wordK (w : List UInt8) : Tok := ⟨4, 0, 0, 0, w, 0⟩
def Holds (L : List Tok) (p : Nat) (ts : List Tok) : Prop := ∀ i t, ts[i]? = some t → ∃ f, L[p + i]? = some { t with frm := f }
theorem Holds.cons {L : List Tok} {p : Nat} {t : Tok} {ts : List Tok} (h : Holds L p (t :: ts)) : (∃ f, L[p]? = some { t with frm := f }) ∧ Holds L (p + 1) ts :=
  ⟨h 0 t rfl, fun i u hi => by have := h (i + 1) u (by simpa using hi); rwa [show p + (i + 1) = p + 1 + i from by omega] at this⟩
theorem Holds.left {L : List Tok} {p : Nat} {a b : List Tok} (h : Holds L p (a ++ b)) : Holds L p a := fun i t hi => h i t (by rw [List.getElem?_append_left (List.getElem?_eq_some_iff.1 hi).1]; exact hi)
theorem Holds.right {L : List Tok} {p : Nat} {a b : List Tok} (h : Holds L p (a ++ b)) : Holds L (p + a.length) b := fun i t hi => by
  have := h (a.length + i) t (by rw [List.getElem?_append_right (by omega)]; simpa using hi)
  rwa [← Nat.add_assoc] at this
theorem Holds.mark {L : List Tok} {p : Nat} {s : List UInt8} {ts : List Tok} (h : Holds L p (mkT s :: ts)) : isMark L p s = true := by
  obtain ⟨f, hf⟩ := h.cons.1
  exact mark_at hf rfl
inductive Mode where
  | tree | wi (m : Nat) | item (corners : Bool) | its (corners : Bool)
inductive Pr : Mode → Tr → List UInt8 → List Tok → Prop
  | num {n : Nat} : n ≤ 9223372036854775807 → Pr .tree (numT n) (Lib.decDigits n) [numK n]
  | read {c r : Int} : rightB c r = true → Pr .tree (readT c r) (placeText c r) [placeK c r]
  | bad : Pr .tree badT [35, 82, 69, 70] [badK]
  | neg {a : Tr} {s : List UInt8} {ts : List Tok} : Pr (.wi 4) a s ts → Pr .tree (negT a) (45 :: s) (mkT [45] :: ts)
  | op {w sa sb : List UInt8} {a b : Tr} {ta tb : List Tok} : 1 ≤ lvl w → Pr (.wi (lvl w)) a sa ta → Pr (.wi (lvl w + 1)) b sb tb → Pr .tree (opT w a b) (sa ++ (w ++ sb)) (ta ++ mkT w :: tb)
  | plain {m : Nat} {t : Tr} {s : List UInt8} {ts : List Tok} : Pr .tree t s ts → (t.kind = 4 → m ≤ lvl t.word) → Pr (.wi m) t s ts
  | brk {m : Nat} {t : Tr} {s : List UInt8} {ts : List Tok} : Pr .tree t s ts → t.kind = 4 → lvl t.word < m → Pr (.wi m) t (40 :: (s ++ [41])) (mkT [40] :: (ts ++ [mkT [41]]))
  | cif {a b c : Tr} {sa sb sc : List UInt8} {ta tb tc : List Tok} : Pr .tree a sa ta → Pr .tree b sb tb → Pr .tree c sc tc →
      Pr .tree (callT [73, 70] [a, b, c]) ([73, 70, 40] ++ (sa ++ 44 :: (sb ++ 44 :: (sc ++ [41])))) (wordK [73, 70] :: mkT [40] :: (ta ++ mkT [44] :: (tb ++ mkT [44] :: (tc ++ [mkT [41]]))))
  | call {w s : List UInt8} {ks : List Tr} {ts : List Tok} : (w = [83, 85, 77] ∨ w = [77, 73, 78] ∨ w = [77, 65, 88] ∨ w = [67, 79, 85, 78, 84]) → Pr (.its (w == [67, 79, 85, 78, 84])) (callT [] ks) s ts → Pr .tree (callT w ks) (w ++ 40 :: s) (wordK w :: mkT [40] :: ts)
  | itT {t : Tr} {s : List UInt8} {ts : List Tok} : Pr .tree t s ts → Pr (.item false) t s ts
  | itBad : Pr (.item true) badT [35, 82, 69, 70] [badK]
  | itSpan {k : Bool} {c r d s : Int} : rightB c r = true → rightB d s = true → c ≤ d → r ≤ s → Pr (.item k) (spanT c r d s) (placeText c r ++ 58 :: placeText d s) [placeK c r, mkT [58], placeK d s]
  | last {k : Bool} {t : Tr} {s : List UInt8} {ts : List Tok} : Pr (.item k) t s ts → Pr (.its k) (callT [] [t]) (s ++ [41]) (ts ++ [mkT [41]])
  | more {k : Bool} {t : Tr} {ks : List Tr} {s s' : List UInt8} {ts ts' : List Tok} : Pr (.item k) t s ts → Pr (.its k) (callT [] ks) s' ts' → Pr (.its k) (callT [] (t :: ks)) (s ++ 44 :: s') (ts ++ mkT [44] :: ts')
def Mo (L : List Tok) (E p q : Nat) (t : Tr) : Mode → Prop
  | .tree => Seg L E p q t (if t.kind = 4 then lvl t.word else 4) ∧ First L p q
  | .wi m => m ≤ 4 → Seg L E p q t m ∧ First L p q
  | .item k => ∀ s, isMark L q s = true → s = [44] ∨ s = [41] → ∃ j, itemF L E j k p = some (.ok t q)
  | .its k => Its L E k p q t.kids
theorem lvl_le (w : List UInt8) : lvl w ≤ 3 := by unfold lvl; split <;> (try split) <;> (try split) <;> omega
theorem one_of {L : List Tok} {E p q : Nat} {t : Tr} (h : Seg L E p q t (if t.kind = 4 then lvl t.word else 4)) (hp : t.kind = 4 → 1 ≤ lvl t.word) : Seg L E p q t 1 := by
  refine h.down ?_
  split
  · rename_i e; exact hp e
  · omega
theorem pr_op {md : Mode} {t : Tr} {s : List UInt8} {ts : List Tok} (h : Pr md t s ts) : (md = .tree ∨ ∃ m, md = .wi m) → t.kind = 4 → 1 ≤ lvl t.word := by
  induction h with
  | num => intro _ h; simp [numT, Tr.kind] at h
  | read => intro _ h; simp [readT, Tr.kind] at h
  | bad => intro _ h; simp [badT, Tr.kind] at h
  | neg => intro _ h; simp [negT, Tr.kind] at h
  | op h => intro _ _; exact h
  | plain _ _ ih => intro _ h; exact ih (.inl rfl) h
  | brk _ _ _ ih => intro _ h; exact ih (.inl rfl) h
  | cif => intro _ h; simp [callT, Tr.kind] at h
  | call => intro _ h; simp [callT, Tr.kind] at h
  | itT _ ih => intro _ h; exact ih (.inl rfl) h
  | itBad => intro _ h; simp [badT, Tr.kind] at h
  | itSpan => intro _ h; simp [spanT, Tr.kind] at h
  | last => intro _ h; simp [callT, Tr.kind] at h
  | more => intro _ h; simp [callT, Tr.kind] at h
theorem pr_seg {md : Mode} {t : Tr} {s : List UInt8} {ts : List Tok} (h : Pr md t s ts) : ∀ (L : List Tok) (E p : Nat), Holds L p ts → Mo L E p (p + ts.length) t md := by
  induction h with
  | @num n _ =>
    intro L E p H
    obtain ⟨f, hf⟩ := H.cons.1
    exact ⟨seg_leaf hf (.inl ⟨rfl, rfl⟩), first_not hf (by simp [numK])⟩
  | @read c r _ =>
    intro L E p H
    obtain ⟨f, hf⟩ := H.cons.1
    exact ⟨seg_leaf hf (.inr (.inl ⟨rfl, rfl⟩)), fun _ => .inl rfl⟩
  | bad =>
    intro L E p H
    obtain ⟨f, hf⟩ := H.cons.1
    exact ⟨seg_leaf hf (.inr (.inr ⟨rfl, rfl⟩)), fun _ => .inl rfl⟩
  | @neg a s ts _ ih =>
    intro L E p H
    obtain ⟨hs, _⟩ := ih L E (p + 1) H.cons.2 (Nat.le_refl _)
    have e : p + (mkT [45] :: ts).length = p + 1 + ts.length := by simp; omega
    rw [e]
    exact ⟨seg_neg H.mark hs, first_mark H.mark⟩
  | @op w sa sb a b ta tb hw _ _ iha ihb =>
    intro L E p H
    have h3 := lvl_le w
    obtain ⟨ha, hf⟩ := iha L E p H.left (by omega)
    obtain ⟨hb, _⟩ := ihb L E (p + ta.length + 1) H.right.cons.2 (by omega)
    obtain ⟨f, hg⟩ := H.right.cons.1
    have hm := H.right.mark
    have e : p + (ta ++ mkT w :: tb).length = p + ta.length + 1 + tb.length := by simp; omega
    rw [e]
    refine ⟨seg_op hw h3 ha (mark_level hm) ?_ hb, first_op hf (by rw [mark_level hm]; exact hw)⟩
    simp [List.getD_eq_getElem?_getD, hg, mkT]
  | @plain m t s ts hp hle ih =>
    intro L E p H hm
    obtain ⟨h1, h2⟩ := ih L E p H
    refine ⟨h1.down ?_, h2⟩
    split
    · rename_i e; exact hle e
    · exact hm
  | @brk m t s ts hp hk hlt ih =>
    intro L E p H hm
    obtain ⟨h1, h2⟩ := ih L E (p + 1) H.cons.2.left
    have e : p + (mkT [40] :: (ts ++ [mkT [41]])).length = p + 1 + ts.length + 1 := by simp; omega
    rw [e]
    exact ⟨(seg_brk H.mark (one_of h1 (pr_op hp (.inl rfl))) H.cons.2.right.mark).down hm, first_mark H.mark⟩
  | @cif a b c sa sb sc ta tb tc pa pb pc iha ihb ihc =>
    intro L E p H
    obtain ⟨f, hf⟩ := H.cons.1
    have H1 := H.cons.2
    have H2 := H1.cons.2
    have H3 := H2.right.cons.2
    have H4 := H3.right.cons.2
    obtain ⟨ha, _⟩ := iha L E _ H2.left
    obtain ⟨hb, _⟩ := ihb L E _ H3.left
    obtain ⟨hc, _⟩ := ihc L E _ H4.left
    have e : p + (wordK [73, 70] :: mkT [40] :: (ta ++ mkT [44] :: (tb ++ mkT [44] :: (tc ++ [mkT [41]])))).length = p + 1 + 1 + ta.length + 1 + tb.length + 1 + tc.length + 1 := by simp; omega
    rw [e]
    exact ⟨seg_if hf rfl rfl H1.mark (one_of ha (pr_op pa (.inl rfl))) H2.right.mark (one_of hb (pr_op pb (.inl rfl))) H3.right.mark (one_of hc (pr_op pc (.inl rfl))) H4.right.mark, first_not hf (by simp [wordK])⟩
  | @call w s ks ts hw _ ih =>
    intro L E p H
    obtain ⟨f, hf⟩ := H.cons.1
    have H1 := H.cons.2
    have hi := ih L E _ H1.cons.2
    have e : p + (wordK w :: mkT [40] :: ts).length = p + 1 + 1 + ts.length := by simp; omega
    rw [e]
    exact ⟨seg_call hf rfl (by rcases hw with rfl | rfl | rfl | rfl <;> simp [wordK]) H1.mark hi, first_not hf (by simp [wordK])⟩
  | @itT t s ts hp ih =>
    intro L E p H z hz hzz
    obtain ⟨h1, h2⟩ := ih L E p H
    exact item_line (one_of h1 (pr_op hp (.inl rfl))) h2 hz (by rcases hzz with rfl | rfl <;> decide) (by rcases hzz with rfl | rfl <;> decide)
  | itBad =>
    intro L E p H z hz hzz
    obtain ⟨f, hf⟩ := H.cons.1
    exact item_bad hf rfl hz (by rcases hzz with rfl | rfl <;> decide)
  | @itSpan k c r d s _ _ hc hr =>
    intro L E p H z hz hzz
    obtain ⟨f, hf⟩ := H.cons.1
    obtain ⟨g, hg⟩ := H.cons.2.cons.2.cons.1
    exact item_span k hf rfl H.cons.2.mark hg rfl hc hr
  | @last k t s ts _ ih =>
    intro L E p H
    have e : p + (ts ++ [mkT [41]]).length = p + ts.length + 1 := by simp; omega
    rw [e]
    exact .last (ih L E p H.left _ H.right.mark (.inr rfl)) H.right.mark
  | @more k t ks s s' ts ts' _ _ ih ih' =>
    intro L E p H
    have e : p + (ts ++ mkT [44] :: ts').length = p + ts.length + 1 + ts'.length := by simp; omega
    rw [e]
    exact .more (ih L E p H.left _ H.right.mark (.inl rfl)) H.right.mark (ih' L E _ H.right.cons.2)
end Go.Proofs.YthaoalmhhgllmaaGreatDoor
namespace Go.Proofs.YthaoalmhhgllmaaGreatDoor

theorem res_eq {a b : Option Res} {x y : Res} (h : Le a b) (ha : a = some x) (hb : b = some y) : x = y := by
  have := h x ha
  rw [hb] at this
  exact (Option.some.inj this).symm
theorem line_uni {L : List Tok} {E lev p k j : Nat} {x y : Res} (h : lineF L E k lev p = some x) (g : lineF L E j lev p = some y) : x = y := by
  rcases Nat.le_total k j with e | e
  · exact res_eq ((le_all L E k j e).line lev p) h g
  · exact (res_eq ((le_all L E j k e).line lev p) g h).symm
theorem tree_is {L : List Tok} {E k : Nat} {x : Res} (h : lineF L E k 1 0 = some x) : treeT L E = some x := by
  obtain ⟨y, hy, _⟩ := tree_some L E
  rw [hy, line_uni h hy]
theorem level_end (L : List Tok) : levelAt L L.length = 0 := by
  unfold levelAt
  rw [List.getElem?_eq_none (Nat.le_refl _)]
theorem holds_of {L ts : List Tok} (h : L.map bareT = ts) : Holds L 0 ts := by
  intro i t hi
  subst h
  rw [List.getElem?_map] at hi
  obtain ⟨u, hu, rfl⟩ := Option.map_eq_some_iff.1 hi
  exact ⟨u.frm, by rw [Nat.zero_add, hu]; rfl⟩
theorem tree_back {L ts : List Tok} {s : List UInt8} {t : Tr} (E : Nat) (hp : Pr .tree t s ts) (h : L.map bareT = ts) : treeT L E = some (.ok t L.length) := by
  obtain ⟨h1, _⟩ := pr_seg hp L E 0 (holds_of h)
  have e : 0 + ts.length = L.length := by rw [← h]; simp
  rw [e] at h1
  obtain ⟨k, hk⟩ := (one_of h1 (pr_op hp (.inl rfl))).line 1 (Nat.le_refl _) (Nat.le_refl _) (by omega) (by rw [level_end]; omega)
  exact tree_is hk
end Go.Proofs.YthaoalmhhgllmaaGreatDoor
namespace Go.Proofs.YthaoalmhhgllmaaGreatDoor
open Go.Lib

theorem letter_toNat (c : Int) (h0 : 0 ≤ c) (h1 : c ≤ 15) : (letter c).toNat = 65 + c.toNat := by
  unfold letter; rw [UInt8.toNat_ofNat']; omega
theorem textAt_is (j : Nat) (h : j < 1024) : textAt j = letter ((j : Int) % 16) :: decDigits (j / 16 + 1) := by
  unfold textAt
  rw [atC_of j h, atR_of j h]
  unfold placeText
  rw [if_pos ((rightB_iff _ _).2 (by omega))]
  refine congrArg (List.cons _) ?_
  have e : (j : Int) / 16 + 1 = ((j / 16 + 1 : Nat) : Int) := by omega
  rw [e, itoa_nonneg]
theorem formed_parts {l : List UInt8} (h : formedB l = true) : ∃ (ch : UInt8) (ds : List UInt8) (u : Nat), l = ch :: ds ∧ 65 ≤ ch.toNat ∧ ch.toNat ≤ 90 ∧ 1 ≤ u ∧ u ≤ 999 ∧ decDigits u = ds ∧ decFrom 0 ds = some u := by
  unfold formedB at h
  rw [Bool.and_eq_true, decide_eq_true_eq, decide_eq_true_eq] at h
  obtain ⟨⟨h2, h4, ha, hz, h1⟩, hd⟩ := h
  cases l with
  | nil => simp at h2
  | cons ch ds =>
    have hdec : ∃ u, decFrom 0 ds = some u := by
      have aux : ∀ (l : List UInt8) (acc : Nat), (∀ i (hi : i < l.length), 48 ≤ (l[i]'hi).toNat ∧ (l[i]'hi).toNat ≤ 57) → ∃ u, decFrom acc l = some u := by
        intro l
        induction l with
        | nil => intro acc _; exact ⟨acc, rfl⟩
        | cons b t ih =>
          intro acc hb
          have h0 := hb 0 (by simp)
          simp only [List.getElem_cons_zero] at h0
          simp only [decFrom, digitVal, if_pos h0]
          exact ih _ fun i hi => by
            have := hb (i + 1) (by simpa using hi)
            simpa using this
      refine aux ds 0 fun i hi => ?_
      have := hd (i + 1) (by simpa using hi) (by omega)
      simpa [List.getD_eq_getElem?_getD, List.getElem?_eq_getElem hi] using this
    obtain ⟨u, hu⟩ := hdec
    have hne : ds ≠ [] := by rintro rfl; simp at h2
    have hh : ds.head? ≠ some 48 := by
      cases ds with
      | nil => simp
      | cons b t =>
        simp only [List.getD_eq_getElem?_getD, List.getElem?_cons_succ, List.getElem?_cons_zero, Option.getD_some] at h1
        intro e
        have e := Option.some.inj e
        subst e
        exact h1 rfl
    have hdig := digits_of_dec ds.length ds u rfl hu hne (.inl hh)
    have hlt := decFrom_lt ds 0 u hu
    have hl3 : ds.length ≤ 3 := by simpa using h4
    have hp : 10 ^ ds.length ≤ 10 ^ 3 := Nat.pow_le_pow_right (by decide) hl3
    refine ⟨ch, ds, u, rfl, ha, hz, ?_, by omega, hdig, hu⟩
    rcases Nat.eq_zero_or_pos u with e | e
    · subst e
      rw [digits_zero] at hdig
      rw [← hdig] at hh
      simp at hh
    · exact e
theorem digits_inj {u v : Nat} (h : decDigits u = decDigits v) : u = v := by
  have a := dec_digits u
  rw [h, dec_digits] at a
  exact (Option.some.inj a).symm
theorem parse_yes {ch : UInt8} {ds : List UInt8} {u : Nat} (hf : formedB (ch :: ds) = true) (h1 : 65 ≤ ch.toNat) (h2 : ch.toNat ≤ 80) (hu : 1 ≤ u) (hu2 : u ≤ 64) (hd : decDigits u = ds) :
    prC (ch :: ds) = (ch.toNat : Int) - 65 ∧ prR (ch :: ds) = (u : Int) - 1 ∧ prE (ch :: ds) = 0 := by
  obtain ⟨i, hi⟩ : ∃ i : Nat, i = 16 * (u - 1) + (ch.toNat - 65) := ⟨_, rfl⟩
  have hi2 : i < 1024 := by omega
  have ht : textAt i = ch :: ds := by
    rw [textAt_is i hi2, ← hd]
    have e1 : letter ((i : Int) % 16) = ch := by
      apply UInt8.toNat_inj.1
      rw [letter_toNat _ (by omega) (by omega)]
      omega
    have e2 : i / 16 + 1 = u := by omega
    rw [e1, e2]
  have hfd := find_some hi2 ht fun j hj he => by
    have hj2 : j < 1024 := by omega
    rw [textAt_is j hj2, ← hd] at he
    have e1 := congrArg UInt8.toNat (List.cons.inj he).1
    rw [letter_toNat _ (by omega) (by omega)] at e1
    have e2 := digits_inj (List.cons.inj he).2
    omega
  refine ⟨?_, ?_, ?_⟩
  · unfold prC; rw [if_pos hf, hfd]; show atC (i : Int) = _; rw [atC_of i hi2]; omega
  · unfold prR; rw [if_pos hf, hfd]; show atR (i : Int) = _; rw [atR_of i hi2]; omega
  · unfold prE; rw [if_pos hf, hfd]
theorem parse_no {ch : UInt8} {ds : List UInt8} {u : Nat} (hf : formedB (ch :: ds) = true) (h : 80 < ch.toNat ∨ 64 < u) (hd : decDigits u = ds) :
    prC (ch :: ds) = 0 ∧ prR (ch :: ds) = 0 ∧ prE (ch :: ds) = 4 := by
  have hfd := find_none (l := ch :: ds) fun j hj2 he => by
    rw [textAt_is j hj2, ← hd] at he
    have e1 := congrArg UInt8.toNat (List.cons.inj he).1
    rw [letter_toNat _ (by omega) (by omega)] at e1
    have e2 := digits_inj (List.cons.inj he).2
    omega
  refine ⟨?_, ?_, ?_⟩
  · unfold prC; rw [if_pos hf, hfd]
  · unfold prR; rw [if_pos hf, hfd]
  · unfold prE; rw [if_pos hf, hfd]
theorem parse_form {l : List UInt8} (hf : formedB l = false) : prC l = 0 ∧ prR l = 0 ∧ prE l = 2 := by
  refine ⟨?_, ?_, ?_⟩
  · unfold prC; rw [if_neg (by rw [hf]; decide)]
  · unfold prR; rw [if_neg (by rw [hf]; decide)]
  · unfold prE; rw [if_neg (by rw [hf]; decide)]
end Go.Proofs.YthaoalmhhgllmaaGreatDoor
namespace Go.Proofs.YthaoalmhhgllmaaGreatDoor
open Go.Lib

def live1 : List UInt8 := [32, 66, 50, 60, 61, 48, 48, 55, 32, 35, 82, 69, 70, 32, 83, 85, 77, 40, 81, 49]
def live2 : List UInt8 := [49, 43, 32, 83, 85, 77, 50]
def liveT : List Tok := [⟨2, 0, 1, 1, [], 1⟩, ⟨5, 0, 0, 0, [60, 61], 3⟩, ⟨1, 7, 0, 0, [], 5⟩, ⟨3, 0, 0, 0, [], 9⟩, ⟨4, 0, 0, 0, [83, 85, 77], 14⟩, ⟨5, 0, 0, 0, [40], 17⟩, ⟨3, 0, 0, 0, [], 18⟩]
theorem scanF_blank {l : List UInt8} {k p : Nat} {acc : List Tok} (h : p < l.length) (hb : l.getD p 0 = 32) : scanF l (k + 1) p acc = scanF l k (p + 1) acc := by
  rw [scanF, if_pos h, if_pos hb]
theorem scanF_tok {l : List UInt8} {k p n : Nat} {acc : List Tok} {t : Tok} (h : p < l.length) (hb : ¬ l.getD p 0 = 32) (ho : oneT l p = some (t, n)) : scanF l (k + 1) p acc = scanF l k (p + n) (acc ++ [t]) := by
  rw [scanF, if_pos h, if_neg hb, ho]
theorem scanF_bad {l : List UInt8} {k p : Nat} {acc : List Tok} (h : p < l.length) (hb : ¬ l.getD p 0 = 32) (ho : oneT l p = none) : scanF l (k + 1) p acc = (none, p) := by
  rw [scanF, if_pos h, if_neg hb, ho]
theorem scanF_end {l : List UInt8} {k p : Nat} {acc : List Tok} (h : ¬ p < l.length) : scanF l (k + 1) p acc = (some acc, 0) := by
  rw [scanF, if_neg h]
theorem one_mark {l : List UInt8} {p : Nat} {m : Int} {x : List UInt8} (h1 : ¬ isFig (l.getD p 0) = true) (h2 : ¬ (65 ≤ (l.getD p 0).toNat ∧ (l.getD p 0).toNat ≤ 90)) (h3 : ¬ subL l p 4 = [35, 82, 69, 70]) (hm : markN l p = m) (h0 : ¬ m = 0) (hx : subL l p m.toNat = x) :
    oneT l p = some (⟨5, 0, 0, 0, x, p⟩, m.toNat) := by
  unfold oneT
  rw [if_neg h1, if_neg h2, if_neg h3, hm, if_neg h0, hx]
theorem one_fig {l : List UInt8} {p n u : Nat} (h1 : isFig (l.getD p 0) = true) (hr : runLen isFig l p = n) (hu : numV (subL l p n) = some u) : oneT l p = some (⟨1, (u : Int), 0, 0, [], p⟩, n) := by
  unfold oneT
  rw [if_pos h1, hr, hu]
theorem one_ref {l : List UInt8} {p : Nat} (h1 : ¬ isFig (l.getD p 0) = true) (h2 : ¬ (65 ≤ (l.getD p 0).toNat ∧ (l.getD p 0).toNat ≤ 90)) (h3 : subL l p 4 = [35, 82, 69, 70]) : oneT l p = some (⟨3, 0, 0, 0, [], p⟩, 4) := by
  unfold oneT
  rw [if_neg h1, if_neg h2, if_pos h3]
theorem one_word {l : List UInt8} {p n : Nat} {x : List UInt8} (h1 : ¬ isFig (l.getD p 0) = true) (h2 : 65 ≤ (l.getD p 0).toNat ∧ (l.getD p 0).toNat ≤ 90) (hr : runLen isNam l p = n) (hx : subL l p n = x) (hw : wordB x = true) : oneT l p = some (⟨4, 0, 0, 0, x, p⟩, n) := by
  unfold oneT
  rw [if_neg h1, if_pos h2, hr, hx, if_pos hw]
theorem one_place {l : List UInt8} {p n : Nat} {x : List UInt8} {c r : Int} (h1 : ¬ isFig (l.getD p 0) = true) (h2 : 65 ≤ (l.getD p 0).toNat ∧ (l.getD p 0).toNat ≤ 90) (hr : runLen isNam l p = n) (hx : subL l p n = x) (hw : ¬ wordB x = true)
    (h : prC x = c ∧ prR x = r ∧ prE x = 0) : oneT l p = some (⟨2, 0, c, r, [], p⟩, n) := by
  unfold oneT
  rw [if_neg h1, if_pos h2, hr, hx, if_neg hw, if_pos h.2.2, h.1, h.2.1]
theorem one_past {l : List UInt8} {p n : Nat} {x : List UInt8} {c r : Int} (h1 : ¬ isFig (l.getD p 0) = true) (h2 : 65 ≤ (l.getD p 0).toNat ∧ (l.getD p 0).toNat ≤ 90) (hr : runLen isNam l p = n) (hx : subL l p n = x) (hw : ¬ wordB x = true)
    (h : prC x = c ∧ prR x = r ∧ prE x = 4) : oneT l p = some (⟨3, 0, 0, 0, [], p⟩, n) := by
  unfold oneT
  rw [if_neg h1, if_pos h2, hr, hx, if_neg hw, h.2.2]
  rfl
theorem one_none {l : List UInt8} {p n : Nat} {x : List UInt8} {c r : Int} (h1 : ¬ isFig (l.getD p 0) = true) (h2 : 65 ≤ (l.getD p 0).toNat ∧ (l.getD p 0).toNat ≤ 90) (hr : runLen isNam l p = n) (hx : subL l p n = x) (hw : ¬ wordB x = true)
    (h : prC x = c ∧ prR x = r ∧ prE x = 2) : oneT l p = none := by
  unfold oneT
  rw [if_neg h1, if_pos h2, hr, hx, if_neg hw, h.2.2]
  rfl
theorem scan_live1 : scanT live1 = (some liveT, 0) := by
  show scanF live1 21 0 [] = _
  rw [scanF_blank (by decide) (by decide),
    scanF_tok (by decide) (by decide) (one_place (by decide) (by decide) (n := 2) (x := [66, 50]) (by decide) (by decide) (by decide) (parse_yes (u := 2) (by decide) (by decide) (by decide) (by decide) (by decide) (by decide +kernel))),
    scanF_tok (by decide) (by decide) (one_mark (m := 2) (x := [60, 61]) (by decide) (by decide) (by decide) (by decide) (by decide) (by decide)),
    scanF_tok (by decide) (by decide) (one_fig (n := 3) (u := 7) (by decide) (by decide) (by decide)),
    scanF_blank (by decide) (by decide),
    scanF_tok (by decide) (by decide) (one_ref (by decide) (by decide) (by decide)),
    scanF_blank (by decide) (by decide),
    scanF_tok (by decide) (by decide) (one_word (n := 3) (x := [83, 85, 77]) (by decide) (by decide) (by decide) (by decide) (by decide)),
    scanF_tok (by decide) (by decide) (one_mark (m := 1) (x := [40]) (by decide) (by decide) (by decide) (by decide) (by decide) (by decide)),
    scanF_tok (by decide) (by decide) (one_past (n := 2) (x := [81, 49]) (by decide) (by decide) (by decide) (by decide) (by decide) (parse_no (u := 1) (by decide) (by decide) (by decide +kernel))),
    scanF_end (by decide)]
  rfl
theorem scan_live2 : scanT live2 = (none, 3) := by
  show scanF live2 8 0 [] = _
  rw [scanF_tok (by decide) (by decide) (one_fig (n := 1) (u := 1) (by decide) (by decide) (by decide)),
    scanF_tok (by decide) (by decide) (one_mark (m := 1) (x := [43]) (by decide) (by decide) (by decide) (by decide) (by decide) (by decide)),
    scanF_blank (by decide) (by decide),
    scanF_bad (by decide) (by decide) (one_none (n := 4) (x := [83, 85, 77, 50]) (by decide) (by decide) (by decide) (by decide) (by decide) (parse_form (by decide)))]
  rfl
theorem ans_live1 : ansL live1 = liveT ∧ ansP live1 = 0 ∧ ansE live1 = 0 := ans_some (by decide) scan_live1
theorem ans_live2 : ansL live2 = [] ∧ ansP live2 = 3 ∧ ansE live2 = 2 := ans_none (by decide) scan_live2
end Go.Proofs.YthaoalmhhgllmaaGreatDoor
namespace Go.Proofs.YthaoalmhhgllmaaGreatDoor
open Go.Lib

def rowFigs (r : Nat) : List UInt8 := if r < 9 then [UInt8.ofNat (48 + (r + 1))] else [UInt8.ofNat (48 + (r + 1) / 10), UInt8.ofNat (48 + (r + 1) % 10)]
theorem figs_all : ∀ r : Fin 64, Lib.decFrom 0 (rowFigs r.val) = some (r.val + 1) ∧ rowFigs r.val ≠ [] ∧ (rowFigs r.val).head? ≠ some 48 := by decide +kernel
theorem figs_is (r : Nat) (h : r < 64) : Lib.decDigits (r + 1) = rowFigs r := by
  obtain ⟨h1, h2, h3⟩ := figs_all ⟨r, h⟩
  exact digits_of_dec (rowFigs r).length (rowFigs r) (r + 1) rfl h1 h2 (.inl h3)
theorem form_all : ∀ c : Fin 16, ∀ r : Fin 64, formedB (UInt8.ofNat (65 + c.val) :: rowFigs r.val) = true := by decide +kernel
theorem parse_text {c r : Int} (h : rightB c r = true) : prC (placeText c r) = c ∧ prR (placeText c r) = r ∧ prE (placeText c r) = 0 := by
  obtain ⟨c0, c1, r0, r1⟩ := (rightB_iff c r).1 h
  have e : placeText c r = letter c :: Lib.itoa (r + 1) := if_pos h
  have e2 : r + 1 = ((r.toNat + 1 : Nat) : Int) := by omega
  rw [e, e2, Lib.itoa_nonneg, figs_is r.toNat (by omega)]
  have hf : formedB (letter c :: rowFigs r.toNat) = true := form_all ⟨c.toNat, by omega⟩ ⟨r.toNat, by omega⟩
  have hl := letter_toNat c c0 c1
  obtain ⟨p1, p2, p3⟩ := parse_yes hf (by omega) (by omega) (u := r.toNat + 1) (by omega) (by omega) (figs_is r.toNat (by omega))
  exact ⟨by rw [p1]; omega, by rw [p2]; omega, p3⟩


theorem run_app {f : UInt8 → Bool} {x z : List UInt8} (hx : ∀ c ∈ x, f c = true) (hz : ∀ c, z.head? = some c → f c = false) : runLen f (x ++ z) 0 = x.length := by
  unfold runLen
  rw [List.drop_zero]
  have hz' : z.takeWhile f = [] := by
    cases z with
    | nil => rfl
    | cons c t => rw [List.takeWhile_cons, hz c rfl]; rfl
  have : (x ++ z).takeWhile f = x := by
    induction x with
    | nil => simpa using hz'
    | cons c t ih =>
      rw [List.cons_append, List.takeWhile_cons, hx c (by simp)]
      simp only [if_true]
      rw [ih fun d hd => hx d (by simp [hd])]
  rw [this]
theorem sub_app (x z : List UInt8) : subL (x ++ z) 0 x.length = x := by
  unfold subL
  rw [List.drop_zero, List.take_left']
  rfl
theorem figs_of_dec {u : Nat} : ∀ {l : List UInt8} {acc : Nat}, decFrom acc l = some u → ∀ c ∈ l, isFig c = true
  | [], _, _, c, hc => by cases hc
  | b :: l, acc, h, c, hc => by
    simp only [decFrom] at h
    cases hd : digitVal b with
    | none => rw [hd] at h; cases h
    | some d =>
      rw [hd] at h
      rcases List.mem_cons.1 hc with rfl | hc
      · unfold digitVal at hd
        split at hd
        · rename_i hb; exact decide_eq_true hb
        · cases hd
      · exact figs_of_dec h c hc
theorem head_of {x z : List UInt8} (hx : x ≠ []) : (x ++ z).getD 0 0 = x.head hx := by
  cases x with
  | nil => exact absurd rfl hx
  | cons c t => rfl
theorem decs_ne (n : Nat) : decDigits n ≠ [] := by
  intro h
  have a := dec_digits n
  rw [h] at a
  have : n = 0 := by simpa [decFrom] using a.symm
  subst this
  rw [digits_zero] at h
  cases h
theorem lex_num {n : Nat} {z : List UInt8} (hn : n ≤ 9223372036854775807) (hz : ∀ c, z.head? = some c → isFig c = false) : oneT (decDigits n ++ z) 0 = some (⟨1, (n : Int), 0, 0, [], 0⟩, (decDigits n).length) := by
  have hf := figs_of_dec (dec_digits n)
  refine one_fig ?_ (run_app hf hz) ?_
  · rw [head_of (decs_ne n)]; exact hf _ (List.head_mem _)
  · rw [sub_app]
    unfold numV
    rw [dec_digits]
    simp only
    rw [if_pos hn]
theorem nam_all : ∀ c : Fin 16, ∀ r : Fin 64, (UInt8.ofNat (65 + c.val) :: rowFigs r.val).all isNam = true ∧ wordB (UInt8.ofNat (65 + c.val) :: rowFigs r.val) = false ∧ isFig (UInt8.ofNat (65 + c.val)) = false ∧ 65 ≤ (UInt8.ofNat (65 + c.val)).toNat ∧ (UInt8.ofNat (65 + c.val)).toNat ≤ 90 := by decide +kernel
theorem lex_place {c r : Int} {z : List UInt8} (h : rightB c r = true) (hz : ∀ c, z.head? = some c → isNam c = false) : oneT (placeText c r ++ z) 0 = some (⟨2, 0, c, r, [], 0⟩, (placeText c r).length) := by
  have hp := parse_text h
  obtain ⟨c0, c1, r0, r1⟩ := (rightB_iff c r).1 h
  obtain ⟨g1, g2, g3, g4, g5⟩ := nam_all ⟨c.toNat, by omega⟩ ⟨r.toNat, by omega⟩
  have e : placeText c r = letter c :: rowFigs r.toNat := by
    have e1 : placeText c r = letter c :: Lib.itoa (r + 1) := if_pos h
    have e2 : r + 1 = ((r.toNat + 1 : Nat) : Int) := by omega
    rw [e1, e2, Lib.itoa_nonneg, figs_is r.toNat (by omega)]
  rw [e] at hp ⊢
  refine one_place (x := letter c :: rowFigs r.toNat) ?_ ?_ (run_app (List.all_eq_true.1 g1) hz) (sub_app _ _) ?_ hp
  · show ¬ isFig (letter c) = true
    unfold letter; rw [g3]; decide
  · exact ⟨g4, g5⟩
  · show ¬ wordB (UInt8.ofNat (65 + c.toNat) :: rowFigs r.toNat) = true
    rw [g2]; decide
theorem lex_word {w z : List UInt8} (hw : wordB w = true) (hz : ∀ c, z.head? = some c → isNam c = false) : oneT (w ++ z) 0 = some (⟨4, 0, 0, 0, w, 0⟩, w.length) := by
  have hc : w = [73, 70] ∨ w = [83, 85, 77] ∨ w = [77, 73, 78] ∨ w = [77, 65, 88] ∨ w = [67, 79, 85, 78, 84] := by
    unfold wordB at hw
    simpa [or_assoc] using hw
  have hn : ∀ c ∈ w, isNam c = true := by rcases hc with rfl | rfl | rfl | rfl | rfl <;> decide
  refine one_word ?_ ?_ (run_app hn hz) (sub_app _ _) hw
  · rcases hc with rfl | rfl | rfl | rfl | rfl <;> simp [isFig]
  · rcases hc with rfl | rfl | rfl | rfl | rfl <;> simp
theorem lex_ref (z : List UInt8) : oneT ([35, 82, 69, 70] ++ z) 0 = some (⟨3, 0, 0, 0, [], 0⟩, 4) := one_ref (show ¬ isFig 35 = true by decide) (show ¬ (65 ≤ (35 : UInt8).toNat ∧ (35 : UInt8).toNat ≤ 90) by decide) rfl
end Go.Proofs.YthaoalmhhgllmaaGreatDoor
