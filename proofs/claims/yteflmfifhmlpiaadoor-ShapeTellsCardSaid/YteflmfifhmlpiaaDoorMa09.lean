/- Texts joined: TvA, TvB, SzA, TbA, ShA, ShB. -/
import Derived.Test.YteflmfifhmlpiaaDoorMa08
import Derived.Test.YteflmfifhmlpiaaDoorMa06
import Derived.Deep.RegionWith
import Derived.Test.YteflmfifhmlpiaaDoorMa01
import Derived.Lib.ItoaLen
set_option linter.all false
set_option linter.unusedVariables false
set_option linter.unusedSimpArgs false
namespace Go.Proofs.YteflmfifhmlpiaaDoor
open Go.RowKit

structure V8 where
  n0 : Int
  n1 : Int
  n2 : Int
  n3 : Int
  n4 : Int
  n5 : Int
  s : ByteArray
  A : Option Addr
  len : Nat
  cap : Nat
def V8.val (x : V8) : Value := .agg #[.int .i64 x.n0, .int .i64 x.n1, .int .i64 x.n2, .int .i64 x.n3, .int .i64 x.n4, .int .i64 x.n5, .string x.s, .slice x.A x.len x.cap]
def tv8 (t : Tr) (A : Option Addr) (cap : Nat) : V8 := ⟨t.kind, t.num, t.c1, t.r1, t.c2, t.r2, ⟨t.word.toArray⟩, A, t.kids.length, cap⟩
theorem tv8_val (t : Tr) (A : Option Addr) (cap : Nat) : (tv8 t A cap).val = tv t A cap := rfl
mutual
theorem KV.imp {w : World} {P Q : Nat → Prop} (h : ∀ g, P g → Q g) : ∀ {t : Tr} {A : Option Addr}, KV w P t A → KV w Q t A
  | .mk _ _ _ _ _ _ _ ks, A, hk => by
    rw [KV] at hk ⊢
    rcases hk with hk | ⟨g, o, e, hp, hl, hk⟩
    · exact .inl hk
    · exact .inr ⟨g, o, e, h g hp, hl, KL.imp h hk⟩
theorem KL.imp {w : World} {P Q : Nat → Prop} (h : ∀ g, P g → Q g) : ∀ {ks : List Tr} {g o : Nat}, KL w P ks g o → KL w Q ks g o
  | [], _, _, _ => by rw [KL]; trivial
  | t :: ts, g, o, hk => by
    rw [KL] at hk ⊢
    obtain ⟨⟨A, cap, h8, hv⟩, hl⟩ := hk
    exact ⟨⟨A, cap, h8, KV.imp h hv⟩, KL.imp h hl⟩
end
theorem Kept.set {a w : World} {P : Nat → Prop} (h : Kept a w P) {g : Nat} (hg : ¬ P g ∨ a.heap.size ≤ g) (o : Nat) (u : Value) : Kept a (w.setCell ⟨g, o, none⟩ u) P := by
  have hb := (Below.refl 0 w).setCell (p := ⟨g, o, none⟩) (Nat.zero_le _) u
  refine ⟨Nat.le_trans h.size hb.size, fun k hp hk => ?_⟩
  rw [Below.heap_setCell w ⟨g, o, none⟩ u k (by rintro rfl; rcases hg with hg | hg; exact hg hp; exact absurd hk (Nat.not_lt.2 hg))]
  exact h.block k hp hk
theorem Kept.set1 {a w : World} {B : Nat} (h : Kept a w (fun b => B < b)) {g : Nat} (hg : g ≤ B) (o : Nat) (u : Value) : Kept a (w.setCell ⟨g, o, none⟩ u) (fun b => B < b) := h.set (.inl fun hh => Nat.not_lt.2 hg hh) o u
theorem Kept.set2 {a w : World} {B O : Nat} (h : Kept a w (fun b => B < b ∧ b ≠ O)) {g : Nat} (hg : g ≤ B) (o : Nat) (u : Value) : Kept a (w.setCell ⟨g, o, none⟩ u) (fun b => B < b ∧ b ≠ O) := h.set (.inl fun hh => Nat.not_lt.2 hg hh.1) o u
theorem Kept.set2o {a w : World} {B O : Nat} (h : Kept a w (fun b => B < b ∧ b ≠ O)) (o : Nat) (u : Value) : Kept a (w.setCell ⟨O, o, none⟩ u) (fun b => B < b ∧ b ≠ O) := h.set (.inl fun hh => hh.2 rfl) o u
theorem Kept.setNew {a w : World} {P : Nat → Prop} (h : Kept a w P) {g : Nat} (hg : a.heap.size ≤ g) (o : Nat) (u : Value) : Kept a (w.setCell ⟨g, o, none⟩ u) P := h.set (.inr hg) o u
theorem Kept.alloc {a w : World} {P : Nat → Prop} (h : Kept a w P) (o : Obj) : Kept a (w.alloc o) P := h.trans (Kept.of_below ((Below.refl _ _).alloc (Nat.le_refl _) o))
theorem Kept.drew {a w : World} {P : Nat → Prop} (h : Kept a w P) : Kept a w.drew P := ⟨h.size, h.block⟩
theorem Kept.drewN {a w : World} {P : Nat → Prop} (h : Kept a w P) (n : Nat) : Kept a (w.drewN n) P := h.trans (Kept.of_below (below_drewN (Below.refl _ _) n))
theorem Kept.but {a w w' : World} {P : Nat → Prop} {R : Nat} (h : Kept a w P) (hb : But R w w') (hR : ¬ P R) : Kept a w' P :=
  h.trans ⟨hb.size, fun g hp hl => hb.block g hl fun e => hR (e ▸ hp)⟩
def TV (w : World) (P : Nat → Prop) (x : V8) : Option Tr → Prop
  | some t => ∃ A cap, x = tv8 t A cap ∧ KV w P t A
  | none => True
theorem TV.kept {w w' : World} {P : Nat → Prop} {x : V8} {ot : Option Tr} (h : TV w P x ot) (hb : Kept w w' P) : TV w' P x ot := by
  cases ot with
  | none => trivial
  | some t => obtain ⟨A, cap, hx, hk⟩ := h; exact ⟨A, cap, hx, hk.kept hb⟩
theorem TV.imp {w : World} {P Q : Nat → Prop} {x : V8} {ot : Option Tr} (h : TV w P x ot) (hq : ∀ g, P g → Q g) : TV w Q x ot := by
  cases ot with
  | none => trivial
  | some t => obtain ⟨A, cap, hx, hk⟩ := h; exact ⟨A, cap, hx, hk.imp hq⟩
theorem kc_set {w : World} {b o : Nat} {v : Value} (h : w.cell? ⟨b, o, none⟩ = some v) {g : Nat} (hg : g ≠ b) (o' : Nat) (u : Value) : (w.setCell ⟨g, o', none⟩ u).cell? ⟨b, o, none⟩ = some v := by
  rw [World.cell?_setCell_far w ⟨g, o', none⟩ ⟨b, o, none⟩ u hg]; exact h
theorem kc_alloc {w : World} {b o : Nat} {v : Value} (h : w.cell? ⟨b, o, none⟩ = some v) (ob : Obj) : (w.alloc ob).cell? ⟨b, o, none⟩ = some v := keep_cell ((Below.refl _ _).alloc (Nat.le_refl _) ob) h
theorem kc_drew {w : World} {b o : Nat} {v : Value} (h : w.cell? ⟨b, o, none⟩ = some v) : w.drew.cell? ⟨b, o, none⟩ = some v := h
theorem kc_drewN {w : World} {b o : Nat} {v : Value} (h : w.cell? ⟨b, o, none⟩ = some v) (n : Nat) : (w.drewN n).cell? ⟨b, o, none⟩ = some v := h
theorem kf_set {w : World} {b o : Nat} (h : w.frozen? ⟨b, o, none⟩ = false) {g : Nat} (hg : g ≠ b) (o' : Nat) (u : Value) : (w.setCell ⟨g, o', none⟩ u).frozen? ⟨b, o, none⟩ = false := by
  rw [World.frozen?_of_block (w := w) (a := ⟨b, o, none⟩) (Below.heap_setCell w ⟨g, o', none⟩ u b fun e => hg e.symm)]; exact h
theorem kf_alloc {w : World} {b o : Nat} (h : w.frozen? ⟨b, o, none⟩ = false) (hb : b < w.heap.size) (ob : Obj) : (w.alloc ob).frozen? ⟨b, o, none⟩ = false := keep_frozen ((Below.refl _ _).alloc (Nat.le_refl _) ob) hb h
theorem kf_drew {w : World} {b o : Nat} (h : w.frozen? ⟨b, o, none⟩ = false) : w.drew.frozen? ⟨b, o, none⟩ = false := h
theorem kf_drewN {w : World} {b o : Nat} (h : w.frozen? ⟨b, o, none⟩ = false) (n : Nat) : (w.drewN n).frozen? ⟨b, o, none⟩ = false := h
def At8V (w : World) (g o : Nat) (x : V8) : Prop :=
  w.cell? ⟨g, o, none⟩ = some (.int .i64 x.n0) ∧ w.cell? ⟨g, o + 1, none⟩ = some (.int .i64 x.n1) ∧ w.cell? ⟨g, o + 2, none⟩ = some (.int .i64 x.n2) ∧ w.cell? ⟨g, o + 3, none⟩ = some (.int .i64 x.n3) ∧
  w.cell? ⟨g, o + 4, none⟩ = some (.int .i64 x.n4) ∧ w.cell? ⟨g, o + 5, none⟩ = some (.int .i64 x.n5) ∧ w.cell? ⟨g, o + 6, none⟩ = some (.string x.s) ∧ w.cell? ⟨g, o + 7, none⟩ = some (.slice x.A x.len x.cap)
theorem TV.node {w : World} {P : Nat → Prop} {G cap : Nat} (k : Int) (wd : List UInt8) (xs : List (V8 × Tr)) (hG : P G) (hl : G < w.heap.size)
    (h : ∀ (i : Nat) (x : V8) (t : Tr), xs[i]? = some (x, t) → At8V w G (8 * i) x ∧ TV w P x (some t)) :
    TV w P ⟨k, 0, 0, 0, 0, 0, ⟨wd.toArray⟩, some ⟨G, 0, none⟩, xs.length, cap⟩ (some (.mk k 0 0 0 0 0 wd (xs.map Prod.snd))) := by
  refine ⟨some ⟨G, 0, none⟩, cap, by simp [tv8, Tr.kind, Tr.num, Tr.c1, Tr.r1, Tr.c2, Tr.r2, Tr.word, Tr.kids], KV.mk (.inr ⟨G, 0, rfl, hG, hl, KL.of fun i t hi => ?_⟩)⟩
  have hi' : (xs.map Prod.snd)[i]? = some t := hi
  rw [List.getElem?_map] at hi'
  cases hx : xs[i]? with
  | none => rw [hx] at hi'; cases hi'
  | some xt =>
    obtain ⟨x, t'⟩ := xt
    rw [hx] at hi'
    obtain rfl : t' = t := Option.some.inj hi'
    obtain ⟨h8, A, cap', hxv, hk⟩ := h i x t' hx
    subst hxv
    refine ⟨A, cap', ?_, hk⟩
    rw [Nat.zero_add]
    exact h8
theorem TV.node1 {w : World} {P : Nat → Prop} {G cap : Nat} (k : Int) (wd : List UInt8) (x : V8) (ot : Option Tr) (hG : P G) (hl : G < w.heap.size) (h8 : At8V w G 0 x) (hx : TV w P x ot) :
    TV w P ⟨k, 0, 0, 0, 0, 0, ⟨wd.toArray⟩, some ⟨G, 0, none⟩, 1, cap⟩ (ot.map fun t => .mk k 0 0 0 0 0 wd [t]) := by
  cases ot with
  | none => trivial
  | some t =>
    refine TV.node k wd [(x, t)] hG hl fun i y u hi => ?_
    match i, hi with
    | 0, hi => simp at hi; obtain ⟨rfl, rfl⟩ := hi; exact ⟨h8, hx⟩
theorem end_some {L : List Tok} {p : Nat} (h : isEnd L p = true) : ∃ t, L[p]? = some t ∧ (t.kind = 2 ∨ t.kind = 3) := by
  unfold isEnd at h
  split at h
  · rename_i t ht
    refine ⟨t, ht, ?_⟩
    simpa using h
  · cases h
theorem whr_some {L : List Tok} {E p : Nat} {t : Tok} (h : L[p]? = some t) : whr L E p = t.frm := by unfold whr; rw [h]
theorem whr_none {L : List Tok} {E p : Nat} (h : L[p]? = none) : whr L E p = E := by unfold whr; rw [h]
theorem end_none {L : List Tok} {p : Nat} (h : L[p]? = none) : isEnd L p = false := by unfold isEnd; rw [h]
def cornerF (L : List Tok) (E : Nat) (a : Tok) (q : Nat) : Option Res := match L[q]? with
  | none => some (.bad E)
  | some b => if isEnd L q = false then some (.bad b.frm) else if a.kind = 3 ∨ b.kind = 3 then some (.ok badT (q + 1)) else some (.ok (spanT (min a.col b.col) (min a.row b.row) (max a.col b.col) (max a.row b.row)) (q + 1))
theorem TV.node2 {w : World} {P : Nat → Prop} {G cap : Nat} (k : Int) (wd : List UInt8) (x y : V8) (t : Tr) (ot : Option Tr) (hG : P G) (hl : G < w.heap.size) (h8 : At8V w G 0 x) (k8 : At8V w G 8 y) (hx : TV w P x (some t)) (hy : TV w P y ot) :
    TV w P ⟨k, 0, 0, 0, 0, 0, ⟨wd.toArray⟩, some ⟨G, 0, none⟩, 2, cap⟩ (ot.map fun u => .mk k 0 0 0 0 0 wd [t, u]) := by
  cases ot with
  | none => trivial
  | some u =>
    refine TV.node k wd [(x, t), (y, u)] hG hl fun i z v hi => ?_
    match i, hi with
    | 0, hi => simp at hi; obtain ⟨rfl, rfl⟩ := hi; exact ⟨h8, hx⟩
    | 1, hi => simp at hi; obtain ⟨rfl, rfl⟩ := hi; exact ⟨k8, hy⟩
mutual
theorem KV.lowT {w : World} {P : Nat → Prop} : ∀ {t : Tr} {A : Option Addr}, KV w P t A → KV w (fun b => P b ∧ b < w.heap.size) t A
  | .mk _ _ _ _ _ _ _ ks, A, hk => by
    rw [KV] at hk ⊢
    rcases hk with hk | ⟨g, o, e, hp, hl, hk⟩
    · exact .inl hk
    · exact .inr ⟨g, o, e, ⟨hp, hl⟩, hl, KL.lowT hk⟩
theorem KL.lowT {w : World} {P : Nat → Prop} : ∀ {ks : List Tr} {g o : Nat}, KL w P ks g o → KL w (fun b => P b ∧ b < w.heap.size) ks g o
  | [], _, _, _ => by rw [KL]; trivial
  | t :: ts, g, o, hk => by
    rw [KL] at hk ⊢
    obtain ⟨⟨A, cap, h8, hv⟩, hl⟩ := hk
    exact ⟨⟨A, cap, h8, KV.lowT hv⟩, KL.lowT hl⟩
end
theorem KV.low {w : World} {P : Nat → Prop} : ∀ {t : Tr} {A : Option Addr}, KV w P t A → KV w (fun b => P b ∧ b < w.heap.size) t A := by
  intro t A h
  exact KV.lowT h
theorem TV.fresh {w : World} {P : Nat → Prop} {x : V8} {ot : Option Tr} (h : TV w P x ot) : TV w (fun b => P b ∧ b ≠ w.heap.size) x ot := by
  cases ot with
  | none => trivial
  | some t => obtain ⟨A, cap, hx, hk⟩ := h; exact ⟨A, cap, hx, hk.low.imp fun b hb => ⟨hb.1, Nat.ne_of_lt hb.2⟩⟩
theorem kc_alloc' {w : World} {p : Addr} {v : Value} (h : w.cell? p = some v) {ob : Obj} : (w.alloc ob).cell? p = some v := by
  rw [((Below.refl _ _).alloc (Nat.le_refl _) ob).cell (Lib.lt_of_cell h)]; exact h
theorem But.kept' {R B : Nat} {w w' : World} (h : But R w w') (hR : R < B) : Kept w w' (fun b => B ≤ b) := ⟨h.size, fun g hp hl => h.block g hl fun e => by have : B ≤ g := hp; omega⟩
theorem zCs {w : World} {b o : Nat} {v : Value} (h : w.cell? ⟨b, o, none⟩ = some v) {g : Nat} (hg : g ≠ b) (o' : Nat) (u : Value) : (w.setCell ⟨g, o', none⟩ u).cell? ⟨b, o, none⟩ = some v := kc_set h hg o' u
theorem zCa {w : World} {b o : Nat} {v : Value} (h : w.cell? ⟨b, o, none⟩ = some v) (ob : Obj) : (w.alloc ob).cell? ⟨b, o, none⟩ = some v := kc_alloc h ob
theorem zCd {w : World} {b o : Nat} {v : Value} (h : w.cell? ⟨b, o, none⟩ = some v) : w.drew.cell? ⟨b, o, none⟩ = some v := kc_drew h
theorem zCn {w : World} {b o : Nat} {v : Value} (h : w.cell? ⟨b, o, none⟩ = some v) (n : Nat) : (w.drewN n).cell? ⟨b, o, none⟩ = some v := kc_drewN h n
theorem zFs {w : World} {b o : Nat} (h : w.frozen? ⟨b, o, none⟩ = false) {g : Nat} (hg : g ≠ b) (o' : Nat) (u : Value) : (w.setCell ⟨g, o', none⟩ u).frozen? ⟨b, o, none⟩ = false := kf_set h hg o' u
theorem zFa {w : World} {b o : Nat} (h : w.frozen? ⟨b, o, none⟩ = false) (hb : b < w.heap.size) (ob : Obj) : (w.alloc ob).frozen? ⟨b, o, none⟩ = false := kf_alloc h hb ob
theorem zFd {w : World} {b o : Nat} (h : w.frozen? ⟨b, o, none⟩ = false) : w.drew.frozen? ⟨b, o, none⟩ = false := kf_drew h
theorem zFn {w : World} {b o : Nat} (h : w.frozen? ⟨b, o, none⟩ = false) (n : Nat) : (w.drewN n).frozen? ⟨b, o, none⟩ = false := kf_drewN h n
end Go.Proofs.YteflmfifhmlpiaaDoor
namespace Go.Proofs.YteflmfifhmlpiaaDoor
open Go.RowKit

theorem deep_kid : ∀ {ks : List Tr} {i : Nat} {u : Tr}, ks[i]? = some u → deepT u ≤ deepL ks
  | [], i, u, h => by simp at h
  | t :: ts, i, u, h => by
    rw [deepL]
    match i, h with
    | 0, h => simp at h; subst h; exact Nat.le_max_left _ _
    | i + 1, h => have := deep_kid (ks := ts) (i := i) (by simpa using h); exact Nat.le_trans this (Nat.le_max_right _ _)
theorem deep_snoc : ∀ (ks : List Tr) (u : Tr), deepL (ks ++ [u]) = max (deepL ks) (deepT u)
  | [], u => by simp only [List.nil_append, deepL]; omega
  | t :: ts, u => by simp only [List.cons_append]; rw [deepL, deepL, deep_snoc ts u]; omega
theorem deep_take {ks : List Tr} {i : Nat} {u : Tr} (h : ks[i]? = some u) : deepL (ks.take (i + 1)) = max (deepL (ks.take i)) (deepT u) := by
  rw [List.take_add_one, h]; exact deep_snoc _ _
theorem deep_take_le : ∀ (ks : List Tr) (i : Nat), deepL (ks.take i) ≤ deepL ks
  | [], i => by simp
  | t :: ts, 0 => by rw [List.take_zero, deepL]; exact Nat.zero_le _
  | t :: ts, i + 1 => by
    rw [List.take_succ_cons, deepL, deepL]
    have := deep_take_le ts i
    omega
inductive Wid : Tr → Prop
  | mk {k n c r d s : Int} {w : List UInt8} {ks : List Tr} : ks.length ≤ maxLen → (∀ t ∈ ks, Wid t) → Wid (.mk k n c r d s w ks)
theorem Wid.len {t : Tr} (h : Wid t) : t.kids.length ≤ maxLen := by cases h with | mk h _ => exact h
theorem Wid.kid {t u : Tr} (h : Wid t) {i : Nat} (hi : t.kids[i]? = some u) : Wid u := by cases h with | mk _ h => exact h u (List.mem_of_getElem? hi)
theorem deep_eq (t : Tr) : deepT t = deepL t.kids + 1 := by cases t; rw [deepT]; rfl
theorem KV.kidAt {w wr : World} {P : Nat → Prop} {t u : Tr} {g o : Nat} (h : KV w P t (some ⟨g, o, none⟩)) (hb : Below w.heap.size w wr) {i : Nat} (hi : t.kids[i]? = some u) :
    g < w.heap.size ∧ ∃ A cap, At8 wr g (o + i * 8) u A cap ∧ KV wr (fun _ => True) u A := by
  obtain ⟨_, hg, A, cap, h8, hk⟩ := h.kid hi
  rw [Nat.mul_comm] at h8
  exact ⟨hg, A, cap, h8.kept (P := fun _ => True) (Kept.of_below hb) trivial, (hk.kept (Kept.of_below hb)).imp fun _ _ => trivial⟩
end Go.Proofs.YteflmfifhmlpiaaDoor
namespace Go.Proofs.YteflmfifhmlpiaaDoor
open Go.RowKit

mutual
def szT : Tr → Int → Int
  | .mk _ _ _ _ _ _ _ ks, m => szL ks 1 m
def szL : List Tr → Int → Int → Int
  | [], n, _ => n
  | u :: r, n, m => if n ≤ m then szL r (n + szT u (m - n)) m else n
end
mutual
theorem szT_bound : ∀ (t : Tr) (m : Int), 0 ≤ m → 1 ≤ szT t m ∧ szT t m ≤ m + 1
  | .mk _ _ _ _ _ _ _ ks, m, h => by
    rw [szT]
    exact szL_bound ks 1 m (by omega) (by omega)
theorem szL_bound : ∀ (ks : List Tr) (n m : Int), 1 ≤ n → n ≤ m + 1 → 1 ≤ szL ks n m ∧ szL ks n m ≤ m + 1
  | [], n, m, h1, h2 => by rw [szL]; exact ⟨h1, h2⟩
  | u :: r, n, m, h1, h2 => by
    rw [szL]
    by_cases h : n ≤ m
    · rw [if_pos h]
      have := szT_bound u (m - n) (by omega)
      exact szL_bound r _ m (by omega) (by omega)
    · rw [if_neg h]; exact ⟨h1, h2⟩
end
theorem szT_eq (t : Tr) (m : Int) : szT t m = szL t.kids 1 m := by cases t; rw [szT]; rfl
def SizeC (t : Tr) : Prop := ∀ (m : Int), 0 ≤ m → m ≤ 400 → ∀ (w : World) (P : Nat → Prop) (A : Option Addr) (cap : Nat), KV w P t A →
  Calls Tryd.prog 21 #[.agg #[.int .i64 t.kind, .int .i64 t.num, .int .i64 t.c1, .int .i64 t.r1, .int .i64 t.c2, .int .i64 t.r2, .string ⟨t.word.toArray⟩, .slice A t.kids.length cap], .int .i64 m] w fun e w' => e = .returned (.int .i64 (szT t m)) ∧ Below w.heap.size w w'
set_option maxHeartbeats 1000000 in
set_option maxRecDepth 10000 in
theorem size_level (t : Tr) (hlen : t.kids.length ≤ maxLen) (ih : ∀ u ∈ t.kids, SizeC u) : SizeC t := by
  intro m m0 m4 w P A cap hk
  have HK := Lib.hid hk
  have HI := Lib.hid ih
  have HE := Lib.hid (szT_eq t m)
  unfold maxLen at hlen
  generalize szT t m = Z at *
  clear hk ih
  go_enter Tryd.func21, Tryd.ntmps21
  go_wp2_with fail
  go_loopw [5, 6] (fun vn vi wr => ∃ (i : Nat) (n : Int), i ≤ t.kids.length ∧ vn = .int .i64 n ∧ vi = .int .i64 (i : Int) ∧ (1 ≤ n ∧ n ≤ m + 1) ∧ Hid (Z = szL (t.kids.drop i) n m) ∧ Below w.heap.size w wr ∧ w.heap.size < wr.heap.size ∧ wr.cell? ⟨w.heap.size, 7, none⟩ = some (.slice A t.kids.length cap)) (fun _ vi _ => t.kids.length - (intOf vi).toNat)
  case atStart => exact ⟨0, 1, Nat.zero_le _, rfl, rfl, ⟨by omega, by omega⟩, HE, (Below.refl _ _).alloc (Nat.le_refl _) _, by simp, by simp [go_sem]⟩
  case round =>
    obtain ⟨i, n, hi, rfl, rfl, ⟨n1, n2⟩, HZ, hbel, hsz, c7⟩ := hrel
    by_cases hlt : i < t.kids.length
    · by_cases hnm : n ≤ m
      · have hu : t.kids[i]? = some (t.kids[i]'hlt) := List.getElem?_eq_getElem hlt
        obtain ⟨g, o, rfl⟩ := HK.out.addr hu
        obtain ⟨hg, A', cap', h8, hkv⟩ := HK.out.kidAt hbel hu
        have hb := szT_bound (t.kids[i]'hlt) (m - n) (by omega)
        have HC := Lib.hid (HI.out _ (List.getElem_mem hlt) (m - n) (by omega) (by omega) wr _ A' cap' hkv)
        have HN : Hid (Z = szL (t.kids.drop (i + 1)) (n + szT (t.kids[i]'hlt) (m - n)) m) := Lib.hid (by
          have h := HZ.out
          rw [List.drop_eq_getElem_cons hlt, szL, if_pos hnm] at h
          exact h)
        have dn : decide (n ≤ m) = true := decide_eq_true hnm
        generalize szT (t.kids[i]'hlt) (m - n) = q at *
        generalize t.kids[i]'hlt = u at *
        obtain ⟨q0, q1, q2, q3, q4, q5, q6, q7⟩ := h8
        have hgw : g < wr.heap.size := by have := hbel.size; omega
        clear hu hkv HZ
        go_wp2_with fail
        refine Calls.mono HC.out ?_; rintro e w2 ⟨rfl, b2⟩
        have h2 := hbel.trans (b2.mono hbel.size)
        have k2 := keep_cell b2 c7
        have z2 : w.heap.size < w2.heap.size := Nat.lt_of_lt_of_le hsz b2.size
        clear b2 q0 q1 q2 q3 q4 q5 q6 q7
        go_wp2_with fail
        go_roundw
        case rel => exact ⟨i + 1, n + q, by omega, by go_num, by go_num, ⟨by omega, by omega⟩, HN, h2, z2, k2⟩
        case measure => simp [intOf]; omega
      · have HN : Hid (Z = n) := Lib.hid (by
          have h := HZ.out
          rw [List.drop_eq_getElem_cons hlt, szL, if_neg hnm] at h
          exact h)
        have dn : decide (n ≤ m) = false := decide_eq_false hnm
        clear HZ
        go_wp2_with fail
        go_ret
        exact ⟨by rw [HN.out]; rfl, hbel⟩
    · have HN : Hid (Z = n) := Lib.hid (by
        have h := HZ.out
        rw [List.drop_eq_nil_of_le (by omega), szL] at h
        exact h)
      clear HZ
      go_wp2_with fail
      go_ret
      exact ⟨by rw [HN.out]; rfl, hbel⟩
theorem lsize_any : ∀ {t : Tr}, Wid t → SizeC t := by
  intro t hW
  induction hW with
  | @mk k n c r d s w ks hl hk ih => exact size_level _ hl ih
end Go.Proofs.YteflmfifhmlpiaaDoor
namespace Go.Proofs.YteflmfifhmlpiaaDoor
open Go.RowKit

mutual
def cntT : Tr → Nat
  | .mk _ _ _ _ _ _ _ ks => cntL ks + 1
def cntL : List Tr → Nat
  | [] => 0
  | t :: ts => cntT t + cntL ts
end
theorem szL_ge : ∀ (ks : List Tr) (n m : Int), 1 ≤ n → n ≤ m + 1 → n ≤ szL ks n m
  | [], n, m, _, _ => by rw [szL]; exact Int.le_refl _
  | u :: r, n, m, h1, h2 => by
    rw [szL]
    by_cases h : n ≤ m
    · rw [if_pos h]
      have := szT_bound u (m - n) (by omega)
      have := szL_ge r (n + szT u (m - n)) m (by omega) (by omega)
      omega
    · rw [if_neg h]; exact Int.le_refl _
mutual
theorem szT_cnt : ∀ (t : Tr) (m : Int), 0 ≤ m → szT t m ≤ m → szT t m = (cntT t : Int)
  | .mk _ _ _ _ _ _ _ ks, m, h, hm => by
    rw [szT] at hm ⊢
    rw [cntT, szL_cnt ks 1 m (by omega) (by omega) hm]
    omega
theorem szL_cnt : ∀ (ks : List Tr) (n m : Int), 1 ≤ n → n ≤ m + 1 → szL ks n m ≤ m → szL ks n m = n + (cntL ks : Int)
  | [], n, m, _, _, _ => by rw [szL, cntL]; omega
  | u :: r, n, m, h1, h2, hm => by
    rw [szL] at hm ⊢
    by_cases h : n ≤ m
    · rw [if_pos h] at hm ⊢
      have hb := szT_bound u (m - n) (by omega)
      have hg := szL_ge r (n + szT u (m - n)) m (by omega) (by omega)
      have hu := szT_cnt u (m - n) (by omega) (by omega)
      rw [szL_cnt r _ m (by omega) (by omega) hm, hu, cntL]
      omega
    · rw [if_neg h] at hm; omega
end
theorem txW_len (m : Nat) (t : Tr) (s : List UInt8) : (txW m t s).length ≤ s.length + 2 := by
  unfold txW; split <;> simp
theorem txJ_len : ∀ (l : List (List UInt8)) (B : Nat), (l.map List.length).sum ≤ B → (txJ l).length ≤ B + l.length + 1
  | [], B, _ => by simp [txJ]
  | [s], B, h => by simp [txJ] at *; omega
  | s :: t :: r, B, h => by
    rw [txJ]
    have h' : s.length + ((t :: r).map List.length).sum ≤ B := by simpa using h
    have := txJ_len (t :: r) (B - s.length) (by omega)
    simp only [List.length_append, List.length_cons] at *
    omega
theorem place_len' (c r : Int) : (placeText c r).length ≤ 100 := by
  unfold placeText
  by_cases h : rightB c r = true
  · rw [if_pos h]
    obtain ⟨_, _, r0, r1⟩ := (rightB_iff c r).1 h
    have := Lib.itoa_length_le (r + 1) (by omega) (by omega)
    simp; omega
  · rw [if_neg h]; simp
theorem tx_cnt {t : Tr} (hf : Fit t) : mayB t = true → (txT t).length + 10 ≤ 250 * cntT t := by
  induction hf with
  | @mk k n c r d s w ks hn hk ih =>
    intro h
    rw [mayB] at h
    rw [txT, cntT]
    by_cases h0 : k = 0
    · rw [if_pos h0]
      have := digits_len n.toNat (by omega)
      omega
    rw [if_neg h0] at h ⊢
    by_cases h1 : k = 1
    · rw [if_pos h1]
      have := place_len' c r
      omega
    rw [if_neg h1] at h ⊢
    by_cases h6 : k = 6
    · rw [if_pos h6]
      have := place_len' c r
      have := place_len' d s
      simp only [List.length_append, List.length_cons]
      omega
    rw [if_neg h6] at h ⊢
    by_cases h2 : k = 2
    · rw [if_neg (by omega), if_neg (by omega), if_neg (by omega)]
      simp
      omega
    rw [if_neg h2] at h
    by_cases h3 : k = 3
    · subst h3
      rw [if_pos rfl] at h ⊢
      simp [onlyB] at h
      obtain ⟨⟨_, _, _, hl⟩, ha⟩ := h
      obtain ⟨a, rfl⟩ := List.length_eq_one_iff.1 hl
      have A := all_mem ha a (by simp)
      have := ih a (by simp) A.1
      rw [txL_cons, txL_nil]
      have hw := txW_len 4 a (txT a)
      simp only [List.getD_cons_zero, List.length_cons, cntL]
      omega
    rw [if_neg h3] at h ⊢
    by_cases h4 : k = 4
    · subst h4
      rw [if_pos rfl] at h ⊢
      simp [onlyB] at h
      obtain ⟨⟨_, _, hl⟩, ha, hw⟩ := h
      obtain ⟨a, b, rfl⟩ : ∃ a b, ks = [a, b] := by
        match ks, hl with
        | [a, b], _ => exact ⟨a, b, rfl⟩
      have A := all_mem ha a (by simp)
      have B := all_mem ha b (by simp)
      have := ih a (by simp) A.1
      have := ih b (by simp) B.1
      rw [txL_cons, txL_cons, txL_nil]
      have hwa := txW_len (lvl w) a (txT a)
      have hwb := txW_len (lvl w + 1) b (txT b)
      have hwl : w.length ≤ 2 := by rcases lvl_cases hw with e | e | e | e | e | e | e | e | e | e <;> rw [e] <;> decide
      simp only [List.getD_cons_zero, List.getD_cons_succ, List.length_append, cntL]
      omega
    rw [if_neg h4] at h ⊢
    by_cases h5 : k = 5
    · subst h5
      rw [if_pos rfl] at h ⊢
      rw [Bool.and_eq_true, Bool.and_eq_true] at h
      obtain ⟨_, ha, hif⟩ := h
      have M := all_mem ha
      have hwl : w.length ≤ 5 := by
        by_cases e : w = [73, 70]
        · rw [e]; decide
        · rw [if_neg e] at hif
          split at hif
          · rename_i hc
            rcases hc with e | e | e | e <;> rw [e] <;> decide
          · cases hif
      have hs : ∀ (l : List Tr), (∀ t ∈ l, (txT t).length + 10 ≤ 250 * cntT t) → ((txL l).map List.length).sum + 10 * l.length ≤ 250 * cntL l ∧ (txL l).length = l.length := by
        intro l
        induction l with
        | nil => intro _; rw [txL_nil, cntL]; simp
        | cons u r ihr =>
          intro hu
          have h1 := hu u (by simp)
          have h2 := ihr fun t ht => hu t (by simp [ht])
          rw [txL_cons, cntL]
          simp only [List.map_cons, List.sum_cons, List.length_cons]
          omega
      have hk2 := hs ks fun t ht => ih t ht (M t ht).1
      have := txJ_len (txL ks) _ (Nat.le_refl _)
      simp only [List.length_append, List.length_cons]
      omega
    rw [if_neg h5] at h
    cases h
theorem tx_short {t : Tr} (hf : Fit t) (hm : mayB t = true) (h : szT t 400 ≤ 400) : (txT t).length ≤ 140737488355328 := by
  have h1 := szT_cnt t 400 (by decide) h
  have h2 := tx_cnt hf hm
  omega
end Go.Proofs.YteflmfifhmlpiaaDoor
namespace Go.Proofs.YteflmfifhmlpiaaDoor

def hasP (a b c d x y : Int) : Bool := (rightB a b && rightB c d && (decide (a ≤ c) && decide (b ≤ d))) && decide (a ≤ x ∧ x ≤ c ∧ b ≤ y ∧ y ≤ d)
def mvP (c r x y : Int) : Bool := rightB c r && rightB (c + x) (r + y)
mutual
def usT (x y : Int) : Tr → Bool
  | .mk k _ c r d s _ ks => if k = 1 ∨ k = 6 then hasP c r d s x y else usL x y ks
def usL (x y : Int) : List Tr → Bool
  | [] => false
  | t :: ts => usT x y t || usL x y ts
end
mutual
def mvT (x y : Int) : Tr → Tr
  | .mk k n c r d s w ks => if k = 1 ∨ k = 6 then (if (mvP c r x y && mvP d s x y) = true then .mk k n (c + x) (r + y) (d + x) (s + y) w (mvL x y ks) else badT) else .mk k n c r d s w (mvL x y ks)
def mvL (x y : Int) : List Tr → List Tr
  | [] => []
  | t :: ts => mvT x y t :: mvL x y ts
end
mutual
def cnK (kd : Int) : Tr → Nat
  | .mk k _ _ _ _ _ _ ks => (if k = kd then 1 else 0) + cnKL kd ks
def cnKL (kd : Int) : List Tr → Nat
  | [] => 0
  | t :: ts => cnK kd t + cnKL kd ts
end
theorem mvL_map (x y : Int) : ∀ ks, mvL x y ks = ks.map (mvT x y)
  | [] => by rw [mvL]; rfl
  | t :: ts => by rw [mvL, mvL_map x y ts]; rfl
theorem kids_none {k n c r d s : Int} {w : List UInt8} {ks : List Tr} (h : mayB (.mk k n c r d s w ks) = true) (hk : k = 1 ∨ k = 6) : ks = [] ∧ n = 0 ∧ w = [] := by
  rw [mayB] at h
  unfold onlyB at h
  rcases hk with rfl | rfl
  · simp at h
    exact ⟨h.1.2.2, h.1.1, h.1.2.1⟩
  · simp at h
    exact ⟨h.1.2.2, h.1.1, h.1.2.1⟩
theorem kind_mv (x y : Int) (t : Tr) : (mvT x y t).kind = t.kind ∨ (mvT x y t).kind = 2 := by
  cases t
  rw [mvT]
  split
  · split
    · exact .inl rfl
    · exact .inr rfl
  · exact .inl rfl
theorem may_kids {k n c r d s : Int} {w : List UInt8} {ks : List Tr} (h : mayB (.mk k n c r d s w ks) = true) : ∀ t ∈ ks, mayB t = true := by
  rw [mayB] at h
  unfold onlyB at h
  by_cases h0 : k = 0
  · subst h0; simp at h; rw [h.1.2.2]; intro t ht; cases ht
  by_cases h1 : k = 1
  · subst h1; simp at h; rw [h.1.2.2]; intro t ht; cases ht
  by_cases h2 : k = 2
  · subst h2; simp at h; rw [h.2.2.2]; intro t ht; cases ht
  by_cases h6 : k = 6
  · subst h6; simp at h; rw [h.1.2.2]; intro t ht; cases ht
  by_cases h3 : k = 3
  · subst h3; simp at h; exact fun t ht => (all_mem h.2 t ht).1
  by_cases h4 : k = 4
  · subst h4; simp at h; exact fun t ht => (all_mem h.2.1 t ht).1
  by_cases h5 : k = 5
  · subst h5
    rw [if_neg (by decide), if_neg (by decide), if_neg (by decide), if_neg (by decide), if_neg (by decide), if_neg (by decide), if_pos rfl, Bool.and_eq_true] at h
    obtain ⟨_, h⟩ := h
    rw [Bool.and_eq_true] at h
    exact fun t ht => (all_mem h.1 t ht).1
  · rw [if_neg h0, if_neg h1, if_neg h2, if_neg h6, if_neg h3, if_neg h4, if_neg h5] at h
    cases h
theorem cnt_mv (x y : Int) {t : Tr} (hf : Fit t) : mayB t = true → cntT (mvT x y t) = cntT t ∧ cnK 2 t ≤ cnK 2 (mvT x y t) := by
  induction hf with
  | @mk k n c r d s w ks hn hk ih =>
    intro h
    have hkids := may_kids h
    have key : ∀ l : List Tr, (∀ t ∈ l, mayB t = true ∧ Fit t ∧ (mayB t = true → cntT (mvT x y t) = cntT t ∧ cnK 2 t ≤ cnK 2 (mvT x y t))) → cntL (mvL x y l) = cntL l ∧ cnKL 2 l ≤ cnKL 2 (mvL x y l) := by
      intro l
      induction l with
      | nil => intro _; rw [mvL]; exact ⟨rfl, Nat.le_refl _⟩
      | cons u r ihr =>
        intro hu
        obtain ⟨m1, _, m3⟩ := hu u (by simp)
        have h1 := m3 m1
        have h2 := ihr fun t ht => hu t (by simp [ht])
        rw [mvL, cntL, cntL, cnKL, cnKL]
        omega
    have K := key ks fun t ht => ⟨hkids t ht, hk t ht, ih t ht⟩
    rw [mvT]
    by_cases hr : k = 1 ∨ k = 6
    · rw [if_pos hr]
      obtain ⟨rfl, _, _⟩ := kids_none h hr
      split
      · rw [cntT, cntT, cnK, cnK, mvL]
        exact ⟨rfl, Nat.le_refl _⟩
      · unfold badT
        rw [cntT, cntT, cnK, cnK, cnKL, cntL, if_pos rfl]
        exact ⟨rfl, by split <;> omega⟩
    · rw [if_neg hr, cntT, cntT, cnK, cnK]
      omega
theorem hasP_mv {a b c d x y u v : Int} (h : (mvP a b x y && mvP c d x y) = true) : hasP (a + x) (b + y) (c + x) (d + y) (u + x) (v + y) = hasP a b c d u v := by
  unfold mvP at h
  rw [Bool.and_eq_true, Bool.and_eq_true, Bool.and_eq_true] at h
  obtain ⟨⟨h1, h2⟩, h3, h4⟩ := h
  unfold hasP
  rw [h1, h2, h3, h4, Bool.eq_iff_iff]
  simp
theorem mv_back (x y : Int) {t : Tr} (hf : Fit t) : mayB t = true → cnK 2 (mvT x y t) = cnK 2 t → (∀ u v, usT (u + x) (v + y) (mvT x y t) = usT u v t) ∧ mvT (-x) (-y) (mvT x y t) = t := by
  induction hf with
  | @mk k n c r d s w ks hn hk ih =>
    intro h hb
    have hkids := may_kids h
    have key : ∀ l : List Tr, (∀ t ∈ l, mayB t = true ∧ Fit t ∧ (mayB t = true → cnK 2 (mvT x y t) = cnK 2 t → (∀ u v, usT (u + x) (v + y) (mvT x y t) = usT u v t) ∧ mvT (-x) (-y) (mvT x y t) = t)) → cnKL 2 (mvL x y l) = cnKL 2 l → (∀ u v, usL (u + x) (v + y) (mvL x y l) = usL u v l) ∧ mvL (-x) (-y) (mvL x y l) = l := by
      intro l
      induction l with
      | nil => intro _ _; rw [mvL]; exact ⟨fun u v => rfl, by rw [mvL]⟩
      | cons a r ihr =>
        intro hu hc
        obtain ⟨m1, m2, m3⟩ := hu a (by simp)
        have l1 := (cnt_mv x y m2 m1).2
        have l2 : cnKL 2 r ≤ cnKL 2 (mvL x y r) := by
          clear hc ihr
          have : ∀ l : List Tr, (∀ t ∈ l, mayB t = true ∧ Fit t) → cnKL 2 l ≤ cnKL 2 (mvL x y l) := by
            intro l
            induction l with
            | nil => intro _; rw [mvL]; exact Nat.le_refl _
            | cons b q ihq =>
              intro hq
              have h1 := (cnt_mv x y (hq b (by simp)).2 (hq b (by simp)).1).2
              have h2 := ihq fun t ht => hq t (by simp [ht])
              rw [mvL, cnKL, cnKL]
              omega
          exact this r fun t ht => ⟨(hu t (by simp [ht])).1, (hu t (by simp [ht])).2.1⟩
        rw [mvL, cnKL, cnKL] at hc
        obtain ⟨p1, p2⟩ := m3 m1 (by omega)
        obtain ⟨q1, q2⟩ := ihr (fun t ht => hu t (by simp [ht])) (by omega)
        refine ⟨fun u v => ?_, ?_⟩
        · rw [mvL, usL, usL, p1, q1]
        · rw [mvL, mvL, p2, q2]
    rw [mvT] at hb ⊢
    by_cases hr : k = 1 ∨ k = 6
    · rw [if_pos hr] at hb ⊢
      obtain ⟨rfl, _, _⟩ := kids_none h hr
      by_cases hm : (mvP c r x y && mvP d s x y) = true
      · rw [if_pos hm] at hb ⊢
        refine ⟨fun u v => ?_, ?_⟩
        · rw [usT, usT, if_pos hr, if_pos hr]
          exact hasP_mv hm
        · rw [mvT, if_pos hr, mvL, mvL]
          have hm2 : (mvP (c + x) (r + y) (-x) (-y) && mvP (d + x) (s + y) (-x) (-y)) = true := by
            unfold mvP at hm ⊢
            rw [Bool.and_eq_true, Bool.and_eq_true, Bool.and_eq_true] at hm ⊢
            obtain ⟨⟨h1, h2⟩, h3, h4⟩ := hm
            rw [show c + x + -x = c from by omega, show r + y + -y = r from by omega, show d + x + -x = d from by omega, show s + y + -y = s from by omega]
            exact ⟨⟨h2, h1⟩, h4, h3⟩
          rw [if_pos hm2, show c + x + -x = c from by omega, show r + y + -y = r from by omega, show d + x + -x = d from by omega, show s + y + -y = s from by omega]
      · exfalso
        rw [if_neg hm] at hb
        unfold badT at hb
        rw [cnK, cnK, if_pos rfl] at hb
        rcases hr with rfl | rfl <;> simp [cnKL] at hb
    · rw [if_neg hr] at hb ⊢
      rw [cnK, cnK] at hb
      obtain ⟨p1, p2⟩ := key ks (fun t ht => ⟨hkids t ht, hk t ht, ih t ht⟩) (by omega)
      refine ⟨fun u v => ?_, ?_⟩
      · rw [usT, usT, if_neg hr, if_neg hr]
        exact p1 u v
      · rw [mvT, if_neg hr, p2]
end Go.Proofs.YteflmfifhmlpiaaDoor
namespace Go.Proofs.YteflmfifhmlpiaaDoor

theorem all_of {a b : Bool} : ∀ {ks : List Tr}, (∀ t ∈ ks, mayB t = true ∧ (a = true ∨ t.kind ≠ 6) ∧ (b = false ∨ t.kind = 6 ∨ t.kind = 2)) → allB ks a b = true
  | [], _ => by rw [allB]
  | u :: r, h => by
    rw [allB]
    obtain ⟨h1, h2, h3⟩ := h u (by simp)
    rw [all_of fun t ht => h t (by simp [ht]), h1]
    simp only [Bool.true_and, Bool.and_true, Bool.and_eq_true, Bool.or_eq_true, Bool.not_eq_true', bne_iff_ne, beq_iff_eq]
    exact ⟨h2, by rcases h3 with h | h | h; exact .inl (.inl h); exact .inl (.inr h); exact .inr h⟩
theorem all_mv {x y : Int} {a b : Bool} {ks : List Tr} (h : allB ks a b = true) (ih : ∀ t ∈ ks, mayB (mvT x y t) = true) : allB (mvL x y ks) a b = true := by
  rw [mvL_map]
  refine all_of fun t ht => ?_
  obtain ⟨u, hu, rfl⟩ := List.mem_map.1 ht
  obtain ⟨_, h2, h3⟩ := all_mem h u hu
  refine ⟨ih u hu, ?_, ?_⟩
  · rcases h2 with e | e
    · exact .inl e
    · rcases kind_mv x y u with k | k
      · rw [k]; exact .inr e
      · rw [k]; exact .inr (by decide)
  · rcases h3 with e | e
    · exact .inl e
    · rcases kind_mv x y u with k | k
      · rw [k]; exact .inr e
      · rw [k]; exact .inr (.inr rfl)
theorem len_mv (x y : Int) (ks : List Tr) : (mvL x y ks).length = ks.length := by rw [mvL_map, List.length_map]
theorem only_mv (x y : Int) (k n c r d s : Int) (w : List UInt8) (ks : List Tr) (m : Nat) : onlyB (.mk k n c r d s w (mvL x y ks)) m = onlyB (.mk k n c r d s w ks) m := by
  unfold onlyB
  dsimp only
  rw [len_mv]
theorem may_mv (x y : Int) {t : Tr} (hf : Fit t) : mayB t = true → mayB (mvT x y t) = true := by
  induction hf with
  | @mk k n c r d s w ks hn hk ih =>
    intro h
    have hkids := may_kids h
    have hm := fun t ht => ih t ht (hkids t ht)
    rw [mvT]
    by_cases hr : k = 1 ∨ k = 6
    · rw [if_pos hr]
      obtain ⟨rfl, rfl, rfl⟩ := kids_none h hr
      by_cases hmv : (mvP c r x y && mvP d s x y) = true
      · rw [if_pos hmv, mvL]
        unfold mvP at hmv
        rw [Bool.and_eq_true, Bool.and_eq_true, Bool.and_eq_true] at hmv
        obtain ⟨⟨_, g1⟩, _, g2⟩ := hmv
        rw [mayB] at h ⊢
        unfold onlyB at h ⊢
        rcases hr with rfl | rfl
        · simp at h ⊢
          obtain ⟨h1, rfl, rfl⟩ := h
          exact ⟨g1, rfl, rfl⟩
        · simp at h ⊢
          exact ⟨⟨⟨g1, g2⟩, by omega⟩, by omega⟩
      · rw [if_neg hmv]; rfl
    · rw [if_neg hr]
      have hl := len_mv x y ks
      rw [mayB] at h ⊢
      simp only [only_mv, hl]
      by_cases h0 : k = 0
      · rw [if_pos h0] at h ⊢; exact h
      rw [if_neg h0] at h ⊢
      rw [if_neg (fun e => hr (.inl e))] at h ⊢
      by_cases h2 : k = 2
      · rw [if_pos h2] at h ⊢; exact h
      rw [if_neg h2] at h ⊢
      rw [if_neg (fun e => hr (.inr e))] at h ⊢
      by_cases h3 : k = 3
      · rw [if_pos h3] at h ⊢
        rw [Bool.and_eq_true] at h ⊢
        exact ⟨h.1, all_mv h.2 hm⟩
      rw [if_neg h3] at h ⊢
      by_cases h4 : k = 4
      · rw [if_pos h4] at h ⊢
        rw [Bool.and_eq_true] at h ⊢
        obtain ⟨h5, h6⟩ := h
        rw [Bool.and_eq_true] at h6 ⊢
        exact ⟨h5, all_mv h6.1 hm, h6.2⟩
      rw [if_neg h4] at h ⊢
      by_cases h5 : k = 5
      · rw [if_pos h5] at h ⊢
        rw [Bool.and_eq_true] at h ⊢
        obtain ⟨h6, h7⟩ := h
        rw [Bool.and_eq_true] at h7 ⊢
        exact ⟨h6, all_mv h7.1 hm, h7.2⟩
      · rw [if_neg h5] at h; cases h
theorem deep_mv (x y : Int) {t : Tr} (hf : Fit t) : mayB t = true → deepT (mvT x y t) = deepT t := by
  induction hf with
  | @mk k n c r d s w ks hn hk ih =>
    intro h
    have hkids := may_kids h
    have key : ∀ l : List Tr, (∀ t ∈ l, deepT (mvT x y t) = deepT t) → deepL (mvL x y l) = deepL l := by
      intro l
      induction l with
      | nil => intro _; rw [mvL]
      | cons u r ihr =>
        intro hu
        rw [mvL, deepL, deepL, hu u (by simp), ihr fun t ht => hu t (by simp [ht])]
    rw [mvT]
    by_cases hr : k = 1 ∨ k = 6
    · rw [if_pos hr]
      obtain ⟨rfl, _, _⟩ := kids_none h hr
      split
      · rw [deepT, deepT, mvL]
      · unfold badT; rw [deepT, deepT]
    · rw [if_neg hr, deepT, deepT, key ks fun t ht => ih t ht (hkids t ht)]
theorem kind6_mv (x y : Int) {t : Tr} (h : t.kind ≠ 6) : (mvT x y t).kind ≠ 6 := by
  rcases kind_mv x y t with k | k
  · rw [k]; exact h
  · rw [k]; decide
mutual
theorem us_right {u v : Int} : ∀ {t : Tr}, usT u v t = true → rightB u v = true
  | .mk k _ c r d s _ ks, h => by
    rw [usT] at h
    split at h
    · unfold hasP rightB at h
      unfold rightB
      simp at h ⊢
      omega
    · exact usL_right h
theorem usL_right {u v : Int} : ∀ {l : List Tr}, usL u v l = true → rightB u v = true
  | [], h => by rw [usL] at h; cases h
  | t :: ts, h => by
    rw [usL, Bool.or_eq_true] at h
    rcases h with h | h
    · exact us_right h
    · exact usL_right h
end
theorem rise_eq : ∀ {l m : List Int}, l.Pairwise (· < ·) → m.Pairwise (· < ·) → (∀ z, z ∈ l ↔ z ∈ m) → l = m
  | [], [], _, _, _ => rfl
  | [], b :: m, _, _, h => by have := (h b).2 (by simp); cases this
  | a :: l, [], _, _, h => by have := (h a).1 (by simp); cases this
  | a :: l, b :: m, hl, hm, h => by
    rw [List.pairwise_cons] at hl hm
    have hab : a = b := by
      have h1 : a ∈ b :: m := (h a).1 (by simp)
      have h2 : b ∈ a :: l := (h b).2 (by simp)
      rcases List.mem_cons.1 h1 with e | e
      · exact e
      · rcases List.mem_cons.1 h2 with e2 | e2
        · exact e2.symm
        · have := hm.1 a e; have := hl.1 b e2; omega
    subst hab
    rw [rise_eq hl.2 hm.2 fun z => ?_]
    constructor
    · intro hz
      rcases List.mem_cons.1 ((h z).1 (List.mem_cons_of_mem _ hz)) with e | e
      · have := hl.1 z hz; omega
      · exact e
    · intro hz
      rcases List.mem_cons.1 ((h z).2 (List.mem_cons_of_mem _ hz)) with e | e
      · have := hm.1 z hz; omega
      · exact e
def rdI (t : Tr) : List Int := ((List.range 1024).filter fun (j : Nat) => usT ((j : Int) % 16) ((j : Int) / 16) t).map fun (j : Nat) => (j : Int)
theorem rdI_rise (t : Tr) : (rdI t).Pairwise (· < ·) := by
  unfold rdI
  rw [List.pairwise_map]
  exact (List.pairwise_lt_range.filter _).imp fun h => by omega
theorem mem_rdI {t : Tr} {z : Int} : z ∈ rdI t ↔ 0 ≤ z ∧ z ≤ 1023 ∧ usT (z % 16) (z / 16) t = true := by
  unfold rdI
  rw [List.mem_map]
  constructor
  · rintro ⟨j, hj, rfl⟩
    obtain ⟨h1, h2⟩ := List.mem_filter.1 hj
    have := List.mem_range.1 h1
    exact ⟨by omega, by omega, h2⟩
  · rintro ⟨h0, h1, h2⟩
    refine ⟨z.toNat, List.mem_filter.2 ⟨List.mem_range.2 (by omega), ?_⟩, by omega⟩
    rw [show ((z.toNat : Nat) : Int) = z from by omega]
    exact h2
theorem rd_mv (x y : Int) {t : Tr} (hf : Fit t) (hm : mayB t = true) (hb : cnK 2 (mvT x y t) = cnK 2 t) : rdI (mvT x y t) = (rdI t).map fun z => z + (16 * y + x) := by
  have hu := (mv_back x y hf hm hb).1
  refine rise_eq (rdI_rise _) ?_ fun z => ?_
  · rw [List.pairwise_map]
    exact (rdI_rise t).imp fun h => by omega
  · rw [List.mem_map, mem_rdI]
    constructor
    · rintro ⟨h0, h1, h2⟩
      have h3 : usT (z % 16 - x) (z / 16 - y) t = true := by
        rw [← hu, show z % 16 - x + x = z % 16 from by omega, show z / 16 - y + y = z / 16 from by omega]
        exact h2
      have hr := us_right h3
      unfold rightB at hr
      simp at hr
      refine ⟨z - (16 * y + x), mem_rdI.2 ⟨by omega, by omega, ?_⟩, by omega⟩
      rw [show (z - (16 * y + x)) % 16 = z % 16 - x from by omega, show (z - (16 * y + x)) / 16 = z / 16 - y from by omega]
      exact h3
    · rintro ⟨q, hq, rfl⟩
      obtain ⟨h0, h1, h2⟩ := mem_rdI.1 hq
      have h3 : usT (q % 16 + x) (q / 16 + y) (mvT x y t) = true := by rw [hu]; exact h2
      have hr := us_right h3
      unfold rightB at hr
      simp at hr
      refine ⟨by omega, by omega, ?_⟩
      rw [show (q + (16 * y + x)) % 16 = q % 16 + x from by omega, show (q + (16 * y + x)) / 16 = q / 16 + y from by omega]
      exact h3
end Go.Proofs.YteflmfifhmlpiaaDoor
