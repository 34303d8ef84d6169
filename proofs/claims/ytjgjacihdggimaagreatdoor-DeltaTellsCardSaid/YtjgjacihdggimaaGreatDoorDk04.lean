/- Texts joined: NdB, NfB, TpY, TpC, NdPk, TpO, TqOp, TqFp, TpP. -/
import Derived.Test.YtjgjacihdggimaaGreatDoorDk01
import Derived.Test.YtjgjacihdggimaaGreatDoorDk03
import Derived.Deep.QuietTactic
import Derived.BigQuiet
import Derived.Laws.Pointers
import Derived.StillTactics
import Derived.Maps.OwnSet
import Derived.DeepKeys4
set_option linter.all false
namespace Go.Proofs.YtjgjacihdggimaaGreatDoor
open Go.RowKit
def RowI (w : World) (P : Nat → Prop) (A : Option Addr) (l : List Int) : Prop := l = [] ∨ ∃ g o, A = some ⟨g, o, none⟩ ∧ P g ∧ g < w.heap.size ∧ ∀ (i : Nat) (x : Int), l[i]? = some x → w.cell? ⟨g, o + i, none⟩ = some (.int .i64 x)
theorem RowI.kept {w w' : World} {P : Nat → Prop} {A : Option Addr} {l : List Int} (h : RowI w P A l) (hk : Kept w w' P) : RowI w' P A l := by
  rcases h with h | ⟨g, o, rfl, hp, hl, hc⟩
  · exact .inl h
  · exact .inr ⟨g, o, rfl, hp, Nat.lt_of_lt_of_le hl hk.size, fun i x hi => hk.cell hp (hc i x hi)⟩
theorem RowI.mono {w : World} {P Q : Nat → Prop} {A : Option Addr} {l : List Int} (h : RowI w P A l) (hpq : ∀ g, P g → g < w.heap.size → Q g) : RowI w Q A l := by
  rcases h with h | ⟨g, o, rfl, hp, hl, hc⟩
  · exact .inl h
  · exact .inr ⟨g, o, rfl, hpq g hp hl, hl, hc⟩
theorem RowI.below {w w' : World} {P : Nat → Prop} {A : Option Addr} {l : List Int} (h : RowI w P A l) (hb : Below w.heap.size w w') : RowI w' P A l := h.kept (Kept.of_below hb)
def B64s (l : List Int) : Prop := ∀ x ∈ l, -9223372036854775808 ≤ x ∧ x ≤ 9223372036854775807
def inW (x : Int) : List Value := [.int .i64 x]
def ndV (n : Nd) (A : Option Addr) (ca : Nat) (B : Option Addr) (cb : Nat) : Value := .agg #[.int .i64 n.kind, .slice A n.refs.length ca, .slice B n.nums.length cb, .string ⟨n.text.toArray⟩]
def At4 (w : World) (g o : Nat) (n : Nd) (A : Option Addr) (ca : Nat) (B : Option Addr) (cb : Nat) : Prop :=
  w.cell? ⟨g, o, none⟩ = some (.int .i64 n.kind) ∧ w.cell? ⟨g, o + 1, none⟩ = some (.slice A n.refs.length ca) ∧ w.cell? ⟨g, o + 2, none⟩ = some (.slice B n.nums.length cb) ∧ w.cell? ⟨g, o + 3, none⟩ = some (.string ⟨n.text.toArray⟩)
theorem At4.kept {w w' : World} {P : Nat → Prop} {g o : Nat} {n : Nd} {A B : Option Addr} {ca cb : Nat} (h : At4 w g o n A ca B cb) (hk : Kept w w' P) (hp : P g) : At4 w' g o n A ca B cb :=
  ⟨hk.cell hp h.1, hk.cell hp h.2.1, hk.cell hp h.2.2.1, hk.cell hp h.2.2.2⟩
structure NdM where
  n : Nd
  A : Option Addr
  ca : Nat
  B : Option Addr
  cb : Nat
deriving Inhabited
def ndW (q : NdM) : List Value := [.int .i64 q.n.kind, .slice q.A q.n.refs.length q.ca, .slice q.B q.n.nums.length q.cb, .string ⟨q.n.text.toArray⟩]
def RowN (w : World) (P : Nat → Prop) (A : Option Addr) (l : List Nd) : Prop := l = [] ∨ ∃ g o, A = some ⟨g, o, none⟩ ∧ P g ∧ g < w.heap.size ∧
  ∀ (i : Nat) (n : Nd), l[i]? = some n → ∃ B cb C cc, At4 w g (o + i * 4) n B cb C cc ∧ RowI w P B n.refs ∧ RowI w P C n.nums
theorem RowN.kept {w w' : World} {P : Nat → Prop} {A : Option Addr} {l : List Nd} (h : RowN w P A l) (hk : Kept w w' P) : RowN w' P A l := by
  rcases h with h | ⟨g, o, rfl, hp, hl, hc⟩
  · exact .inl h
  · refine .inr ⟨g, o, rfl, hp, Nat.lt_of_lt_of_le hl hk.size, fun i n hi => ?_⟩
    obtain ⟨B, cb, C, cc, h4, hr, hn⟩ := hc i n hi
    exact ⟨B, cb, C, cc, h4.kept hk hp, hr.kept hk, hn.kept hk⟩
theorem RowN.mono {w : World} {P Q : Nat → Prop} {A : Option Addr} {l : List Nd} (h : RowN w P A l) (hpq : ∀ g, P g → g < w.heap.size → Q g) : RowN w Q A l := by
  rcases h with h | ⟨g, o, rfl, hp, hl, hc⟩
  · exact .inl h
  · refine .inr ⟨g, o, rfl, hpq g hp hl, hl, fun i n hi => ?_⟩
    obtain ⟨B, cb, C, cc, h4, hr, hn⟩ := hc i n hi
    exact ⟨B, cb, C, cc, h4, hr.mono hpq, hn.mono hpq⟩
theorem RowN.below {w w' : World} {P : Nat → Prop} {A : Option Addr} {l : List Nd} (h : RowN w P A l) (hb : Below w.heap.size w w') : RowN w' P A l := h.kept (Kept.of_below hb)
structure ButS (P : Nat → Prop) (w w' : World) : Prop where
  os : w'.os = w.os
  tape : w'.tape = w.tape
  output : w'.output = w.output
  size : w.heap.size ≤ w'.heap.size
  block : ∀ k, k < w.heap.size → ¬ P k → w'.heap[k]? = w.heap[k]?
section
variable {P Q : Nat → Prop} {a b c w w' : World}
theorem ButS.refl (P : Nat → Prop) (w : World) : ButS P w w := ⟨rfl, rfl, rfl, Nat.le_refl _, fun _ _ _ => rfl⟩
theorem ButS.trans' (h : ButS P a b) (k : ButS Q b c) (hq : ∀ g, g < a.heap.size → Q g → P g) : ButS P a c :=
  ⟨k.os.trans h.os, k.tape.trans h.tape, k.output.trans h.output, Nat.le_trans h.size k.size, fun i hi hn => (k.block i (Nat.lt_of_lt_of_le hi h.size) (fun e => hn (hq i hi e))).trans (h.block i hi hn)⟩
theorem ButS.trans (h : ButS P a b) (k : ButS P b c) : ButS P a c := h.trans' k fun _ _ e => e
theorem ButS.of_below (h : Below w.heap.size w w') : ButS P w w' := ⟨h.os, h.tape, h.output, h.size, fun k hk _ => h.block k hk⟩
theorem ButS.alloc (h : ButS P a w) (o : Obj) : ButS P a (w.alloc o) := h.trans (ButS.of_below ((Below.refl _ _).alloc (Nat.le_refl _) o))
theorem ButS.drew (h : ButS P a w) : ButS P a w.drew := ⟨h.os, h.tape, h.output, h.size, h.block⟩
theorem ButS.setCell (h : ButS P a w) {p : Addr} (hp : P p.block ∨ a.heap.size ≤ p.block) (u : Value) : ButS P a (w.setCell p u) := by
  have hb := (Below.refl 0 w).setCell (p := p) (Nat.zero_le _) u
  refine ⟨hb.os.trans h.os, hb.tape.trans h.tape, hb.output.trans h.output, Nat.le_trans h.size hb.size, fun k hk hn => ?_⟩
  rw [Below.heap_setCell w p u k (by rcases hp with hp | hp; exact fun e => hn (e ▸ hp); exact fun e => by omega)]
  exact h.block k hk hn
theorem ButS.drewN (h : ButS P a w) (n : Nat) : ButS P a (w.drewN n) := h.trans (ButS.of_below (below_drewN (Below.refl _ _) n))
theorem ButS.kept (h : ButS P w w') : Kept w w' (fun g => ¬ P g) := ⟨h.size, fun g hp hl => h.block g hl hp⟩
theorem ButS.keptQ (h : ButS P w w') (hpq : ∀ g, Q g → ¬ P g) : Kept w w' Q := ⟨h.size, fun g hp hl => h.block g hl (hpq g hp)⟩
theorem ButS.below {n : Nat} (h : ButS P w w') (hn : ∀ k, k < n → ¬ P k) (hs : n ≤ w.heap.size) : Below n w w' := ⟨h.os, h.tape, h.output, h.size, fun k hk => h.block k (by omega) (hn k hk)⟩
theorem ButS.cell (h : ButS P w w') {p : Addr} {v : Value} (hne : ¬ P p.block) (hv : w.cell? p = some v) : w'.cell? p = some v := by
  rw [World.cell?_of_block (w := w) (h.block p.block (Lib.lt_of_cell hv) hne)]; exact hv
theorem ButS.frozen (h : ButS P w w') {p : Addr} (hne : ¬ P p.block) (hl : p.block < w.heap.size) (hv : w.frozen? p = false) : w'.frozen? p = false := by
  rw [World.frozen?_of_block (w := w) (h.block p.block hl hne)]; exact hv
theorem ButS.grown {row : Option Nat} (h : ButS P a w) (hg : w.grownBy w' row) (hr : ∀ k, row = some k → P k ∨ a.heap.size ≤ k) : ButS P a w' :=
  ⟨hg.os.trans h.os, hg.tape.trans h.tape, hg.output.trans h.output, Nat.le_trans h.size hg.size, fun k hk hn => (hg.block k (Nat.lt_of_lt_of_le hk h.size) (fun e => by rcases hr k e.symm with h' | h'; exact hn h'; omega)).trans (h.block k hk hn)⟩
theorem ButS.mono (h : ButS P a w) (hpq : ∀ g, P g → Q g) : ButS Q a w := ⟨h.os, h.tape, h.output, h.size, fun k hk hn => h.block k hk fun e => hn (hpq k e)⟩
structure MC (w : World) (m room : Nat) (vN vB : Value) : Prop where
  c0 : w.cell? ⟨m, 0, none⟩ = some (.int .i64 (room : Int))
  c1 : w.cell? ⟨m, 1, none⟩ = some vN
  c2 : w.cell? ⟨m, 2, none⟩ = some vB
  fM : ∀ j, w.frozen? ⟨m, j, none⟩ = false
section
variable {m room : Nat} {vN vB : Value}
theorem MC.lt (h : MC w m room vN vB) : m < w.heap.size := Lib.lt_of_cell h.c0
theorem MC.block (h : MC w m room vN vB) (hb : w'.heap[m]? = w.heap[m]?) : MC w' m room vN vB :=
  ⟨by rw [World.cell?_of_block (w := w) hb]; exact h.c0, by rw [World.cell?_of_block (w := w) hb]; exact h.c1, by rw [World.cell?_of_block (w := w) hb]; exact h.c2, fun j => by rw [World.frozen?_of_block (w := w) hb]; exact h.fM j⟩
theorem MC.grown {row : Option Nat} (h : MC w m room vN vB) (hg : w.grownBy w' row) (hr : some m ≠ row) : MC w' m room vN vB := h.block (hg.block m h.lt hr)
theorem MC.below (h : MC w m room vN vB) (hb : Below w.heap.size w w') : MC w' m room vN vB := h.block (hb.block m h.lt)
theorem MC.alloc (h : MC w m room vN vB) (o : Obj) : MC (w.alloc o) m room vN vB := h.below ((Below.refl _ _).alloc (Nat.le_refl _) o)
theorem MC.set (h : MC w m room vN vB) {p : Addr} (hp : p.block ≠ m) (u : Value) : MC (w.setCell p u) m room vN vB := h.block (Below.heap_setCell w p u m fun e => hp e.symm)
theorem MC.set1 (h : MC w m room vN vB) (u : Value) : MC (w.setCell ⟨m, 1, none⟩ u) m room u vB :=
  ⟨by rw [World.cell?_setCell_other _ _ _ _ (by simp)]; exact h.c0, World.cell?_setCell_same _ _ _ h.c1, by rw [World.cell?_setCell_other _ _ _ _ (by simp)]; exact h.c2, fun j => by rw [World.frozen?_setCell]; exact h.fM j⟩
theorem MC.set2 (h : MC w m room vN vB) (u : Value) : MC (w.setCell ⟨m, 2, none⟩ u) m room vN u :=
  ⟨by rw [World.cell?_setCell_other _ _ _ _ (by simp)]; exact h.c0, by rw [World.cell?_setCell_other _ _ _ _ (by simp)]; exact h.c1, World.cell?_setCell_same _ _ _ h.c2, fun j => by rw [World.frozen?_setCell]; exact h.fM j⟩
end
theorem rows_list {g : Nat} {l : List Nd} (h : ∀ (i : Nat) (n : Nd), l[i]? = some n → ∃ B cb C cc, At4 w g (i * 4) n B cb C cc ∧ RowI w P B n.refs ∧ RowI w P C n.nums) :
    ∃ L : List NdM, L.map NdM.n = l ∧ (∀ (i : Nat) (q : NdM), L[i]? = some q → At4 w g (i * 4) q.n q.A q.ca q.B q.cb) ∧ ∀ q ∈ L, RowI w P q.A q.n.refs ∧ RowI w P q.B q.n.nums := by
  have key : ∀ i, i < l.length → ∃ q : NdM, l[i]? = some q.n ∧ At4 w g (i * 4) q.n q.A q.ca q.B q.cb ∧ RowI w P q.A q.n.refs ∧ RowI w P q.B q.n.nums := fun i hi => by
    obtain ⟨B, cb, C, cc, h4, hr, hn⟩ := h i _ (List.getElem?_eq_getElem hi)
    exact ⟨⟨_, B, cb, C, cc⟩, List.getElem?_eq_getElem hi, h4, hr, hn⟩
  obtain ⟨F, hF⟩ : ∃ F : Nat → NdM, ∀ i, i < l.length → l[i]? = some (F i).n ∧ At4 w g (i * 4) (F i).n (F i).A (F i).ca (F i).B (F i).cb ∧ RowI w P (F i).A (F i).n.refs ∧ RowI w P (F i).B (F i).n.nums := by
    refine ⟨fun i => if hi : i < l.length then (key i hi).choose else default, fun i hi => ?_⟩
    simp only [dif_pos hi]
    exact (key i hi).choose_spec
  refine ⟨(List.range l.length).map F, ?_, fun i q hq => ?_, fun q hq => ?_⟩
  · apply List.ext_getElem?
    intro i
    by_cases hi : i < l.length
    · rw [List.getElem?_map, List.getElem?_map, List.getElem?_range hi, (hF i hi).1]; rfl
    · rw [List.getElem?_eq_none_iff.2 (by simp; omega), List.getElem?_eq_none_iff.2 (by omega)]
  · have hi : i < l.length := by have := (List.getElem?_eq_some_iff.1 hq).1; simpa using this
    rw [List.getElem?_map, List.getElem?_range hi] at hq
    obtain rfl := Option.some.inj hq
    exact (hF i hi).2.1
  · obtain ⟨i, hi, rfl⟩ := List.mem_map.1 hq
    exact (hF i (List.mem_range.1 hi)).2.2
theorem list_rows {g : Nat} {L : List NdM} (h : ∀ (i : Nat) (q : NdM), L[i]? = some q → At4 w g (i * 4) q.n q.A q.ca q.B q.cb) (hr : ∀ q ∈ L, RowI w P q.A q.n.refs ∧ RowI w P q.B q.n.nums) :
    ∀ (i : Nat) (n : Nd), (L.map NdM.n)[i]? = some n → ∃ B cb C cc, At4 w g (i * 4) n B cb C cc ∧ RowI w P B n.refs ∧ RowI w P C n.nums := fun i n hi => by
  rw [List.getElem?_map] at hi
  cases hq : L[i]? with
  | none => rw [hq] at hi; cases hi
  | some q =>
    rw [hq] at hi
    obtain rfl := Option.some.inj hi
    exact ⟨_, _, _, _, h i q hq, hr q (List.mem_of_getElem? hq)⟩
end
end Go.Proofs.YtjgjacihdggimaaGreatDoor
namespace Go.Proofs.YtjgjacihdggimaaGreatDoor
open Go.RowKit Go.Maps
theorem laidOut9 : laidOutB Tryz.prog = true := by kernel_rfl
theorem lookKeyed : Keyed Tryz.prog 144 := Keyed.of_law (deep_law_laid laidOut9 (m := 2) (by omega) (of_decide_eq_true (by kernel_rfl)) (by kernel_rfl) (by rw [Tryz.underlying144]))
theorem cells_look : Tryz.prog.cellsOf 144 = 4 := by kernel_rfl
theorem cells_int9 : Tryz.prog.cellsOf 3 = 1 := by kernel_rfl
theorem cells_str9 : Tryz.prog.cellsOf 9 = 1 := by kernel_rfl
def FitK (n : Nd) : Prop := (n.refs.length ≤ 200 ∧ n.nums.length ≤ 200 ∧ n.text.length ≤ 5000) ∧ B64s n.refs ∧ B64s n.nums ∧ -9223372036854775808 ≤ n.kind ∧ n.kind ≤ 9223372036854775807
def kN (n : Nd) : Lit := .string (keyBytes [.int .i64 n.kind, .string (rowT n.refs), .string (rowT n.nums), .string n.text])
def lookV (n : Nd) : Value := .agg #[.int .i64 n.kind, .string ⟨(rowT n.refs).toArray⟩, .string ⟨(rowT n.nums).toArray⟩, .string ⟨n.text.toArray⟩]
theorem wf64' {x : Int} (h : -9223372036854775808 ≤ x ∧ x ≤ 9223372036854775807) : (Lit.int .i64 x).wf = true := by
  have e1 : IntKind.i64.min = -9223372036854775808 := rfl
  have e2 : IntKind.i64.max = 9223372036854775807 := rfl
  simp [Lit.wf, e1, e2]
  omega
theorem rowT_small {l : List Int} (h : B64s l) (hl : l.length ≤ 200) : (rowT l).length ≤ 4400 := by
  have := rowT_len l h
  omega
set_option maxRecDepth 100000 in
theorem key_look {n : Nd} (h : FitK n) : keyOf Tryz.prog 144 (lookV n) = some (kN n) := by
  obtain ⟨⟨f1, f2, f3⟩, f4, f5, f6⟩ := h
  have g1 := rowT_small f4 f1
  have g2 := rowT_small f5 f2
  have b1 : ({ data := (rowT n.refs).toArray } : ByteArray).size ≤ maxLen := by show (rowT n.refs).toArray.size ≤ maxLen; unfold maxLen; simp; omega
  have b2 : ({ data := (rowT n.nums).toArray } : ByteArray).size ≤ maxLen := by show (rowT n.nums).toArray.size ≤ maxLen; unfold maxLen; simp; omega
  have b3 : ({ data := n.text.toArray } : ByteArray).size ≤ maxLen := by show n.text.toArray.size ≤ maxLen; unfold maxLen; simp; omega
  have h1 : Tryz.prog.keyType 144 = true := by kernel_rfl
  have h2 : (lookV n).formed Tryz.prog 144 = true := by
    simp [lookV, Value.formed, Tryz.underlying144, cells_look]
  obtain ⟨d, hd⟩ : ∃ d, Tryz.prog.types.size = d + 1 := ⟨Tryz.prog.types.size - 1, by kernel_rfl⟩
  have h3 : Tryz.prog.keyLits (Tryz.prog.types.size + 1) 144 [.int .i64 n.kind, .string ⟨(rowT n.refs).toArray⟩, .string ⟨(rowT n.nums).toArray⟩, .string ⟨n.text.toArray⟩] = some [.int .i64 n.kind, .string (rowT n.refs), .string (rowT n.nums), .string n.text] := by
    rw [hd]
    simp [Program.keyLits, Tryz.underlying144, Tryz.underlying3, Tryz.underlying9, cells_look, cells_int9, cells_str9, wf64' f6, b1, b2, b3]
  unfold keyOf
  rw [Tryz.underlying144]
  simp only [h1, h2, Bool.and_self, if_true]
  show (Tryz.prog.keyLits (Tryz.prog.types.size + 1) 144 [.int .i64 n.kind, .string ⟨(rowT n.refs).toArray⟩, .string ⟨(rowT n.nums).toArray⟩, .string ⟨n.text.toArray⟩]).map _ = _
  rw [h3]; rfl
theorem kN_inj {n m : Nd} (hn : FitK n) (hm : FitK m) (h : kN n = kN m) : n = m := by
  have h1 := key_look hn
  rw [h] at h1
  have := lookKeyed.inj h1 (key_look hm)
  unfold lookV at this
  simp only [Value.agg.injEq, Array.mk.injEq, List.cons.injEq, Value.int.injEq, Value.string.injEq, ByteArray.mk.injEq, true_and, and_true] at this
  obtain ⟨e1, e2, e3, e4⟩ := this
  have e2 := rowT_inj (by simpa using e2)
  have e3 := rowT_inj (by simpa using e3)
  have e4 : n.text = m.text := by simpa using e4
  show (⟨n.kind, n.refs, n.nums, n.text⟩ : Nd) = m
  rw [e1, e2, e3, e4]
def hV (h : Int) : DataW Unit := .lit (.int .i64 h)
theorem intZero9 (w : World) : (zeroValue 3).run Tryz.prog w = .ok (.int .i64 0) w := by kernel_rfl
structure Maps9 (D : DataW Unit) (t : Sh) : Prop where
  at_ : ∀ h n, ndAt t h = some n → D.atKey (kN n) (hV 0) = hV h ∧ has D (kN n) = true
  only : ∀ kl, has D kl = true → ∃ h n, ndAt t h = some n ∧ kl = kN n
def FitT (t : Sh) : Prop := ∀ h n, ndAt t h = some n → FitK n
theorem Maps9.miss {D : DataW Unit} {t : Sh} (h : Maps9 D t) (hf : FitT t) {x : Nd} (hx : FitK x) (h0 : ∀ k, ndAt t k ≠ some x) : has D (kN x) = false := by
  cases e : has D (kN x) with
  | false => rfl
  | true =>
    obtain ⟨k, n, hn, hk⟩ := h.only _ e
    exact absurd (kN_inj hx (hf k n hn) hk ▸ hn) (h0 k)
theorem Maps9.put {D : DataW Unit} {t t' : Sh} (hM : IsMap D) (h : Maps9 D t) (hf : FitT t) {x : Nd} {k : Int} (hx : FitK x) (h0 : ∀ k, ndAt t k ≠ some x) (ht : ∀ j, ndAt t' j = if j = k then some x else ndAt t j) (hk : ndAt t k = none) : Maps9 (D.put (kN x) (hV k)) t' := by
  have hkey := lookKeyed.key (key_look hx)
  refine ⟨fun j n hn => ?_, fun kl hl => ?_⟩
  · rw [ht] at hn
    by_cases e : j = k
    · rw [if_pos e] at hn
      cases hn
      rw [atKey_put_same hM hkey, has_put_same hM hkey, e]
      exact ⟨rfl, rfl⟩
    · rw [if_neg e] at hn
      have hne : kN n ≠ kN x := fun e' => h0 j ((kN_inj (hf j n hn) hx e') ▸ hn)
      rw [atKey_put_other hne, has_put_other hne]
      exact h.at_ j n hn
  · by_cases e : kl = kN x
    · exact ⟨k, x, by rw [ht, if_pos rfl], e⟩
    · rw [has_put_other e] at hl
      obtain ⟨j, n, hn, hj⟩ := h.only kl hl
      refine ⟨j, n, ?_, hj⟩
      rw [ht, if_neg fun e' => by rw [e', hk] at hn; cases hn]
      exact hn
theorem Maps9.del {D : DataW Unit} {t t' : Sh} (h : Maps9 D t) (hf : FitT t) (h1 : ∀ h k n, ndAt t h = some n → ndAt t k = some n → h = k) {x : Nd} {k : Int} (hx : ndAt t k = some x) (ht : ∀ j, ndAt t' j = if j = k then none else ndAt t j) : Maps9 (D.del (kN x)) t' := by
  refine ⟨fun j n hn => ?_, fun kl hl => ?_⟩
  · rw [ht] at hn
    by_cases e : j = k
    · rw [if_pos e] at hn; cases hn
    · rw [if_neg e] at hn
      have hne : kN n ≠ kN x := fun e' => e (h1 j k x (kN_inj (hf j n hn) (hf k x hx) e' ▸ hn) hx)
      rw [atKey_del_other hne, has_del_other hne]
      exact h.at_ j n hn
  · by_cases e : kl = kN x
    · rw [e, has_del_same] at hl; cases hl
    · rw [has_del_other e] at hl
      obtain ⟨j, n, hn, hj⟩ := h.only kl hl
      refine ⟨j, n, ?_, hj⟩
      rw [ht, if_neg fun e' => ?_]
      · exact hn
      · subst e'
        rw [hx] at hn
        cases hn
        exact e hj
def MapA (w : World) (b : Nat) (t : Sh) : Prop := ∃ D : DataW Unit, w.ownsMap Tryz.prog 144 (plainElem Tryz.prog 3) b (Maps.size D) D ∧ Maps9 D t
theorem own_tight {w : World} {P : Program} {k : TypeId} {R : Value → Option (DataW Unit × List MemPlace)} {b n : Nat} {D : DataW Unit} (h : w.ownsMap P k R b n D) : w.ownsMap P k R b (Maps.size D) D := by
  obtain ⟨es, clock, hb, F, hs, rfl⟩ := h
  exact ⟨es, clock, hb, F, by simp [Maps.size, length_sorted], rfl⟩
theorem own_block {w w' : World} {P : Program} {k : TypeId} {R : Value → Option (DataW Unit × List MemPlace)} {b n : Nat} {D : DataW Unit} (h : w.ownsMap P k R b n D) (hb : w'.heap[b]? = w.heap[b]?) : w'.ownsMap P k R b n D := by
  obtain ⟨es, clock, h1, h2⟩ := h
  exact ⟨es, clock, hb.trans h1, h2⟩
theorem MapA.block {w w' : World} {b : Nat} {t : Sh} (h : MapA w b t) (hb : w'.heap[b]? = w.heap[b]?) : MapA w' b t := by
  obtain ⟨D, h1, h2⟩ := h
  exact ⟨D, own_block h1 hb, h2⟩
theorem MapA.lt {w : World} {b : Nat} {t : Sh} (h : MapA w b t) : b < w.heap.size := by
  obtain ⟨D, h1, h2⟩ := h
  exact h1.lt
theorem MapA.made (w : World) : MapA (w.alloc (.map #[] 0)) w.heap.size [] :=
  ⟨.map [], World.ownsMap_made w Tryz.prog 144 _, ⟨fun h n e => by unfold ndAt at e; split at e <;> simp at e, fun kl e => by cases e⟩⟩
end Go.Proofs.YtjgjacihdggimaaGreatDoor
namespace Go.Proofs.YtjgjacihdggimaaGreatDoor
def Pre : Nat → List En → Prop
  | 0, l => oneH l = true
  | 1, l => ∀ x ∈ l, ∀ y ∈ l, digK x.key 0 = digK y.key 0
  | _, _ => True
theorem hash_digs {k : Int} (h : 0 ≤ k ∧ k ≤ 1023) : hashK k = 32 * digK k 1 + digK k 0 := by
  have := hash_bound h
  unfold digK
  simp only [if_pos, if_neg (show ¬ (1 = 0) by decide)]
  omega
theorem oneH_of {l : List En} (h : ∀ x ∈ l, ∀ y ∈ l, hashK x.key = hashK y.key) : oneH l = true := by
  cases l with
  | nil => rfl
  | cons x r =>
    show (r.all fun y => decide (hashK y.key = hashK x.key)) = true
    rw [List.all_eq_true]
    intro y hy
    exact decide_eq_true (h y (List.mem_cons_of_mem _ hy) x List.mem_cons_self)
theorem pre_part {k : Nat} {l : List En} (hk2 : k ≤ 1) (hk : KeyIn l) (h : Pre (k + 1) l) (d : Nat) : Pre k (partD l (1 - k) d) := by
  have hm : ∀ x ∈ partD l (1 - k) d, x ∈ l ∧ digK x.key (1 - k) = (d : Int) := fun x hx => by
    have := List.mem_filter.1 hx
    exact ⟨this.1, by simpa using this.2⟩
  match k, hk2 with
  | 0, _ =>
    refine oneH_of fun x hx y hy => ?_
    obtain ⟨x1, x2⟩ := hm x hx
    obtain ⟨y1, y2⟩ := hm y hy
    rw [hash_digs (hk x x1), hash_digs (hk y y1), h x x1 y y1]
    rw [show (1 : Nat) - 0 = 1 from rfl] at x2 y2
    rw [x2, y2]
  | 1, _ =>
    intro x hx y hy
    rw [(hm x hx).2, (hm y hy).2]
theorem szL_map (f : List En → Tr) (c : Nat) : ∀ (P : List (List En)), (∀ p ∈ P, szT' (f p) ≤ c * p.length) → szL' (P.map f) ≤ c * P.flatten.length
  | [], _ => by rw [List.map_nil, szL']; exact Nat.zero_le _
  | p :: P, h => by
    have h1 := h p (by simp)
    have h2 := szL_map f c P fun q hq => h q (List.mem_cons_of_mem _ hq)
    rw [List.map_cons, szL', List.flatten_cons, List.length_append, Nat.mul_add]
    omega
theorem szL_leaf : ∀ l : List En, szL' (l.map leafT) = l.length
  | [] => by rw [List.map_nil, szL']; rfl
  | x :: l => by
    rw [List.map_cons, szL', szL_leaf l]
    unfold leafT
    rw [szT', szL', List.length_cons]; omega
theorem sz_buk {l : List En} (h : l ≠ []) : szT' (bukT l) ≤ 2 * l.length := by
  have := List.length_pos_iff.2 h
  unfold bukT
  split
  · unfold leafT
    rw [szT', szL']; simp
  · rw [szT', szL_leaf]; omega
theorem sz_trK : ∀ (k : Nat) {l : List En}, KeyIn l → l ≠ [] → szT' (trK k l) ≤ (k + 2) * l.length
  | 0, l, _, h => by rw [trK]; exact sz_buk h
  | k + 1, l, hk, h => by
    have hp := List.length_pos_iff.2 h
    rw [trK]
    split
    · exact Nat.le_trans (sz_buk h) (Nat.mul_le_mul_right _ (by omega))
    · rw [szT']
      have h1 := szL_map (trK k) (k + 2) (partsD l (1 - k) 32) fun p hp => sz_trK k (fun x hx => hk x ((part_sub hp).1.subset hx)) (part_sub hp).2.1
      rw [(parts_perm hk (1 - k)).length_eq] at h1
      have : (k + 1 + 2) * l.length = (k + 2) * l.length + l.length := by rw [Nat.add_right_comm, Nat.succ_mul]
      omega
def nodesL (l : List En) : List Nd := if l = [] then [] else fl (trK 2 l) []
theorem nodesL_len {l : List En} (hk : KeyIn l) : (nodesL l).length ≤ 4 * l.length := by
  unfold nodesL
  split
  · exact Nat.zero_le _
  · rename_i h
    rw [fl_size]
    have := sz_trK 2 hk h
    simpa using this
end Go.Proofs.YtjgjacihdggimaaGreatDoor
namespace Go.Proofs.YtjgjacihdggimaaGreatDoor
theorem hash_key {k : Int} (h : 0 ≤ k ∧ k ≤ 1023) : k = 25 * (2 * hashK k) % 1024 ∨ k = 25 * (2 * hashK k + 1) % 1024 := by
  unfold hashK
  rw [if_pos h]
  have h1 : 25 * (41 * k % 1024) % 1024 = k := by omega
  generalize 41 * k % 1024 = m at *
  have h2 : m = 2 * (m / 2) ∨ m = 2 * (m / 2) + 1 := by omega
  rcases h2 with e | e
  · exact .inl (by rw [← e]; exact h1.symm)
  · exact .inr (by rw [← e]; exact h1.symm)
theorem bucket_two {l : List En} (ho : OkL l) (h : oneH l = true) : l.length ≤ 2 := by
  match l, ho, h with
  | [], _, _ => simp
  | [x], _, _ => simp
  | [x, y], _, _ => simp
  | x :: y :: z :: r, ho, h =>
    exfalso
    have hs : ((y :: z :: r).all fun q => decide (hashK q.key = hashK x.key)) = true := h
    rw [List.all_eq_true] at hs
    have hy : hashK y.key = hashK x.key := of_decide_eq_true (hs y (by simp))
    have hz : hashK z.key = hashK x.key := of_decide_eq_true (hs z (by simp))
    have kx := hash_key (ho.keys x (by simp))
    have ky := hash_key (ho.keys y (by simp))
    have kz := hash_key (ho.keys z (by simp))
    rw [hy] at ky
    rw [hz] at kz
    have p := ho.2
    rw [List.pairwise_cons, List.pairwise_cons] at p
    have h1 := p.1 y (by simp)
    have h2 := p.1 z (by simp)
    have h3 := p.2.1 z (by simp)
    omega
mutual
def fitT : Tr → Prop
  | .mk k nums text kids => (kids.length ≤ 200 ∧ nums.length ≤ 200 ∧ text.length ≤ 5000) ∧ B64s nums ∧ (-9223372036854775808 ≤ k ∧ k ≤ 9223372036854775807) ∧ fitTL kids
def fitTL : List Tr → Prop
  | [] => True
  | t :: ts => fitT t ∧ fitTL ts
end
theorem fitTL_of : ∀ {ts : List Tr}, (∀ t ∈ ts, fitT t) → fitTL ts
  | [], _ => by rw [fitTL]; trivial
  | u :: ts, h => by rw [fitTL]; exact ⟨h u (by simp), fitTL_of fun t ht => h t (List.mem_cons_of_mem _ ht)⟩
mutual
theorem fl_fit : ∀ (t : Tr) (out : List Nd), fitT t → (fl t out).length ≤ 1000000 → (∀ n ∈ out, FitK n) → ∀ n ∈ fl t out, FitK n
  | .mk k nums text kids, out, h, hl, ho, n, hn => by
    rw [fitT] at h
    obtain ⟨⟨h1, h2, h3⟩, h4, h5, h6⟩ := h
    have hl1 : (flL kids out []).1.length ≤ 1000000 := by rw [fl, List.length_append] at hl; omega
    have ih := flL_fit kids out [] h6 hl1 ho (fun r hr => by cases hr)
    rw [fl] at hn
    rcases List.mem_append.1 hn with e | e
    · exact ih.1 n e
    · rw [List.mem_singleton.1 e]
      obtain ⟨m, em, hm⟩ := flL_refs kids out []
      exact ⟨⟨by show (flL kids out []).2.length ≤ 200; rw [em, List.nil_append, hm]; exact h1, h2, h3⟩, ih.2, h4, h5⟩
theorem flL_fit : ∀ (ts : List Tr) (out : List Nd) (refs : List Int), fitTL ts → (flL ts out refs).1.length ≤ 1000000 → (∀ n ∈ out, FitK n) → B64s refs → (∀ n ∈ (flL ts out refs).1, FitK n) ∧ B64s (flL ts out refs).2
  | [], out, refs, _, _, ho, hr => by rw [flL]; exact ⟨ho, hr⟩
  | t :: ts, out, refs, h, hl, ho, hr => by
    rw [fitTL] at h
    rw [flL] at hl ⊢
    have hl2 : (fl t out).length ≤ 1000000 := by
      obtain ⟨m, e⟩ := flL_ext ts (fl t out) (refs ++ [-((fl t out).length : Int)])
      rw [e, List.length_append] at hl
      omega
    refine flL_fit ts (fl t out) _ h.2 hl (fl_fit t out h.1 hl2 ho) fun x hx => ?_
    rcases List.mem_append.1 hx with e | e
    · exact hr x e
    · rw [List.mem_singleton.1 e]; omega
end
theorem fit_leaf {x : En} (h : rightE x = true) : fitT (leafT x) := by
  have := right_iffE.1 h
  unfold leafT
  rw [fitT, fitTL]
  exact ⟨⟨by simp, by simp, by omega⟩, fun y hy => by rw [List.mem_singleton.1 hy]; omega, by decide, trivial⟩
theorem fit_buk {l : List En} (h : ∀ x ∈ l, rightE x = true) (hl : l.length ≤ 200) : fitT (bukT l) := by
  unfold bukT
  split
  · exact fit_leaf (h _ (by simp))
  · rw [fitT]
    exact ⟨⟨by rw [List.length_map]; exact hl, by simp, by simp⟩, (fun y hy => by cases hy), by decide, fitTL_of fun t ht => by obtain ⟨x, hx, rfl⟩ := List.mem_map.1 ht; exact fit_leaf (h x hx)⟩
theorem okL_sub {l p : List En} (h : OkL l) (hs : p.Sublist l) : OkL p := ⟨fun x hx => h.1 x (hs.subset hx), h.2.sublist hs⟩
theorem partsD_len (l : List En) (lv : Nat) : (partsD l lv 32).length ≤ 32 := by
  unfold partsD
  exact Nat.le_trans (List.length_filter_le _ _) (by simp)
theorem bitsD_le (l : List En) (lv : Nat) : ∀ n : Nat, bitsD l lv n < 2 ^ n
  | 0 => by rw [bitsD]; decide
  | n + 1 => by
    have := bitsD_le l lv n
    rw [bitsD, Nat.pow_succ]
    split <;> omega
theorem fit_trK : ∀ (k : Nat), k ≤ 2 → ∀ {l : List En}, OkL l → Pre k l → fitT (trK k l)
  | 0, _, l, h, hp => by
    rw [trK]
    exact fit_buk h.1 (Nat.le_trans (bucket_two h hp) (by decide))
  | k + 1, hk, l, h, hp => by
    rw [trK]
    split
    · rename_i ho
      exact fit_buk h.1 (Nat.le_trans (bucket_two h ho) (by decide))
    · rw [fitT]
      have hb := bitsD_le l (1 - k) 32
      have h32 : (2 : Nat) ^ 32 = 4294967296 := rfl
      refine ⟨⟨by rw [List.length_map]; exact Nat.le_trans (partsD_len l _) (by decide), by simp, by simp⟩, fun y hy => by rw [List.mem_singleton.1 hy]; omega, by decide, fitTL_of fun t ht => ?_⟩
      obtain ⟨p, hpm, rfl⟩ := List.mem_map.1 ht
      obtain ⟨hs, _, d, _, rfl⟩ := part_sub hpm
      exact fit_trK k (by omega) (okL_sub h hs) (pre_part (by omega) h.keys hp d)
theorem nodesL_fit {l : List En} (h : OkL l) (hl : l.length ≤ 100000) : ∀ n ∈ nodesL l, FitK n := by
  intro n hn
  have hlen := nodesL_len h.keys
  unfold nodesL at hn hlen
  split at hn
  · cases hn
  · rename_i e
    rw [if_neg e] at hlen
    exact fl_fit _ [] (fit_trK 2 (Nat.le_refl _) h trivial) (by omega) (fun n hn => by cases hn) n hn
theorem getX {f : Txs} {n : Nat} (hok : OkX f) (hn : n ≤ 1024) {k : Nat} (hk : k < n) : getL (entX f n) (k : Int) = if f k = [] then none else some (f k) := by
  split
  · rename_i e
    refine getL_none.2 fun x hx hxk => ?_
    obtain ⟨j, hj, rfl, hne⟩ := (entX_mem f n x).1 hx
    have : j = k := by change (j : Int) = (k : Int) at hxk; omega
    subst this
    exact hne e
  · rename_i e
    exact getL_of (x := ⟨(k : Int), f k⟩) (entX_ok hok n hn) ((entX_mem f n _).2 ⟨k, hk, rfl, e⟩)
def putT (room : Nat) (s : Sh) (l : List En) : Sh × Int × Nat :=
  ((putA room s (nodesL l)).1, (putA room s (nodesL l)).2.1.getLastD 0, if (putA room s (nodesL l)).2.1 = [] then (putA room s (nodesL l)).2.2 else 0)
end Go.Proofs.YtjgjacihdggimaaGreatDoor
namespace Go.Proofs.YtjgjacihdggimaaGreatDoor
open Go.RowKit
theorem put_wrong {room : Nat} {s : Sh} {l : List Nd} (h : wrongF s 0 l = true) : putA room s l = (s, [], 1) := by unfold putA; rw [if_pos h]
theorem put_full {room : Nat} {s : Sh} {l : List Nd} (h : wrongF s 0 l = false) (h2 : putL room s [] l = none) : putA room s l = (s, [], 3) := by unfold putA; rw [if_neg (by rw [h]; decide), h2]
theorem put_good {room : Nat} {s s' : Sh} {l : List Nd} {out : List Int} (h : wrongF s 0 l = false) (h2 : putL room s [] l = some (s', out)) : putA room s l = (s', out, 0) := by unfold putA; rw [if_neg (by rw [h]; decide), h2]
theorem putL_next {room : Nat} {s s' : Sh} {l : List Nd} {i : Nat} {n : Nd} {out : List Int} {k : Int} (hi : l[i]? = some n) (h : oneA room s (asPut out n) = some (s', k)) : putL room s out (l.drop i) = putL room s' (out ++ [k]) (l.drop (i + 1)) := by
  obtain ⟨hl, he⟩ := List.getElem?_eq_some_iff.1 hi
  rw [List.drop_eq_getElem_cons hl, putL, he, h]
theorem putL_stop {room : Nat} {s : Sh} {l : List Nd} {i : Nat} {n : Nd} {out : List Int} (hi : l[i]? = some n) (h : oneA room s (asPut out n) = none) : putL room s out (l.drop i) = none := by
  obtain ⟨hl, he⟩ := List.getElem?_eq_some_iff.1 hi
  rw [List.drop_eq_getElem_cons hl, putL, he, h]
end Go.Proofs.YtjgjacihdggimaaGreatDoor
namespace Go.Proofs.YtjgjacihdggimaaGreatDoor
/- counting -/
def cntS (s : Sh) : Nat := (s.filter Option.isSome).length
theorem cnt_set : ∀ (s : Sh) (i : Nat) (x : Nd), s[i]? = some none → cntS (s.set i (some x)) = cntS s + 1
  | [], i, x, h => by simp at h
  | o :: s, 0, x, h => by
    obtain rfl : o = none := by simpa using h
    rfl
  | o :: s, i + 1, x, h => by
    have ih := cnt_set s i x (by simpa using h)
    cases o with
    | none => exact ih
    | some y =>
      show (some y :: (s.set i (some x)).filter Option.isSome).length = (some y :: s.filter Option.isSome).length + 1
      rw [List.length_cons, List.length_cons]
      unfold cntS at ih
      omega
theorem cnt_app (s : Sh) (x : Nd) : cntS (s ++ [some x]) = cntS s + 1 := by
  unfold cntS
  rw [List.filter_append, List.length_append]; rfl
theorem cnt_setH (s : Sh) (x : Nd) : cntS (setH s (freeH s) x) = cntS s + 1 := by
  unfold setH
  rcases freeH_cases s with ⟨i, hi, e⟩ | ⟨e, _⟩
  · have := (List.getElem?_eq_some_iff.1 hi).1
    rw [if_pos (by omega), e]
    exact cnt_set s i x hi
  · rw [if_neg (by omega)]
    exact cnt_app s x
theorem take_cnt : ∀ (s : Sh) (i : Nat), i ≤ s.length → (∀ j : Nat, j < i → s[j]? ≠ some none) → i ≤ cntS s
  | _, 0, _, _ => Nat.zero_le _
  | [], i + 1, h, _ => by simp at h
  | o :: s, i + 1, h, hj => by
    have ih := take_cnt s i (by simpa using h) fun j hji => by
      have := hj (j + 1) (by omega)
      simpa using this
    cases o with
    | none => exact absurd rfl (hj 0 (by omega))
    | some y =>
      show i + 1 ≤ (some y :: s.filter Option.isSome).length
      rw [List.length_cons]
      unfold cntS at ih
      omega
theorem freeH_le (s : Sh) : freeH s ≤ cntS s + 1 := by
  have hf : ∀ j : Nat, j + 1 < freeH s → s[j]? ≠ some none := fun j hj e => by
    have := freeH_below (s := s) (k := j + 1) (by omega) hj
    rw [show ((j + 1 : Nat) : Int) = (j : Int) + 1 by omega] at this
    unfold live at this
    rw [ndAt_succ, e] at this
    cases this
  have hp := freeH_pos s
  have := take_cnt s (freeH s - 1) (by omega) fun j hj => hf j (by omega)
  omega
theorem cnt_up {room : Nat} : ∀ {l : List Nd} {s s' : Sh} {out out' : List Int}, putL room s out l = some (s', out') → cntS s ≤ cntS s'
  | [], s, s', out, out', e => by cases e; exact Nat.le_refl _
  | n :: l, s, s', out, out', e => by
    rw [putL] at e
    cases h1 : oneA room s (asPut out n) with
    | none => rw [h1] at e; cases e
    | some q =>
      obtain ⟨s1, h⟩ := q
      rw [h1] at e
      have := cnt_up e
      have h2 : cntS s ≤ cntS s1 := by
        unfold oneA at h1
        split at h1
        · cases h1; exact Nat.le_refl _
        · split at h1
          · cases h1
          · cases h1; rw [cnt_setH]; omega
      omega
/- refs name what is ahead -/
def NegR (n : Nat) (refs : List Int) : Prop := ∀ r ∈ refs, r < 0 ∧ -(n : Int) ≤ r
theorem wrongF_app (s : Sh) : ∀ (l m : List Nd) (i : Nat), wrongF s i (l ++ m) = (wrongF s i l || wrongF s (i + l.length) m)
  | [], m, i => by rw [List.nil_append, wrongF, Bool.false_or]; rfl
  | n :: l, m, i => by
    rw [List.cons_append, wrongF, wrongF, wrongF_app s l m (i + 1), Bool.or_assoc, List.length_cons, show i + (l.length + 1) = i + 1 + l.length by omega]
mutual
theorem fl_right (s : Sh) : ∀ (t : Tr) (out new : List Nd), fl t out = out ++ new → wrongF s out.length new = false
  | .mk k nums text kids, out, new, h => by
    obtain ⟨n1, e1⟩ := flL_ext kids out []
    have ih := flL_right s kids out [] n1 e1 (fun r hr => by cases hr)
    rw [fl, e1, List.append_assoc] at h
    obtain rfl := (List.append_cancel_left h).symm
    rw [wrongF_app, ih.1, Bool.false_or, wrongF, wrongF, Bool.or_false, Bool.not_eq_false', List.all_eq_true]
    intro r hr
    have := ih.2 r hr
    unfold okRef
    rw [e1, List.length_append] at this
    simp only [Bool.or_eq_true, decide_eq_true_eq, Bool.and_eq_true]
    exact .inr ⟨this.1, this.2⟩
theorem flL_right (s : Sh) : ∀ (ts : List Tr) (out : List Nd) (refs : List Int) (new : List Nd), (flL ts out refs).1 = out ++ new → NegR out.length refs → wrongF s out.length new = false ∧ NegR (flL ts out refs).1.length (flL ts out refs).2
  | [], out, refs, new, h, hr => by
    rw [flL] at h
    have : new = [] := by have := congrArg List.length h; simp at this; exact this
    subst this
    rw [flL]
    exact ⟨rfl, hr⟩
  | t :: ts, out, refs, new, h, hr => by
    obtain ⟨n1, e1, _⟩ := fl_ext t out
    obtain ⟨n2, e2⟩ := flL_ext ts (fl t out) (refs ++ [-((fl t out).length : Int)])
    have h1 := fl_right s t out n1 e1
    have hlen : (fl t out).length = out.length + n1.length := by rw [e1, List.length_append]
    have hp := fl_pos t out
    have h2 := flL_right s ts (fl t out) (refs ++ [-((fl t out).length : Int)]) n2 e2 fun r hm => by
      rcases List.mem_append.1 hm with e | e
      · have := hr r e; omega
      · rw [List.mem_singleton.1 e]; omega
    rw [flL] at h ⊢
    rw [e2, e1, List.append_assoc] at h
    obtain rfl := (List.append_cancel_left h).symm
    rw [wrongF_app, h1, Bool.false_or, ← hlen]
    exact h2
end
/- what it costs -/
open Classical in
mutual
noncomputable def cost (s : Sh) : Tr → Nat
  | .mk k nums text kids => if ∃ h, At s (.mk k nums text kids) h then 0 else 1 + costL s kids
noncomputable def costL (s : Sh) : List Tr → Nat
  | [] => 0
  | t :: ts => cost s t + costL s ts
end
mutual
theorem cost_up {s s' : Sh} (hu : Up s s') : ∀ t : Tr, cost s' t ≤ cost s t
  | .mk k nums text kids => by
    have ih := costL_up hu kids
    rw [cost, cost]
    by_cases e : ∃ h, At s (.mk k nums text kids) h
    · obtain ⟨h, e⟩ := e
      rw [if_pos ⟨h, at_up hu _ _ e⟩]; exact Nat.zero_le _
    · rw [if_neg e]
      split
      · exact Nat.zero_le _
      · omega
theorem costL_up {s s' : Sh} (hu : Up s s') : ∀ ts : List Tr, costL s' ts ≤ costL s ts
  | [] => Nat.le_refl _
  | t :: ts => by
    have h1 := cost_up hu t
    have h2 := costL_up hu ts
    rw [costL, costL]; omega
end
mutual
theorem cost_sz (s : Sh) : ∀ t : Tr, cost s t ≤ szT' t
  | .mk k nums text kids => by
    have ih := costL_sz s kids
    rw [cost, szT']
    split <;> omega
theorem costL_sz (s : Sh) : ∀ ts : List Tr, costL s ts ≤ szL' ts
  | [] => Nat.le_refl _
  | t :: ts => by
    have h1 := cost_sz s t
    have h2 := costL_sz s ts
    rw [costL, szL']; omega
end
theorem put_seek {room : Nat} {s : Sh} : ∀ (l : List Nd) (a c : List Int), seekL s a l = some c → putL room s a l = some (s, c)
  | [], a, c, h => by rw [seekL] at h; rw [putL, ← Option.some.inj h]
  | n :: l, a, c, h => by
    rw [seekL] at h
    split at h
    · cases h
    · rename_i hf
      rw [putL]
      unfold oneA
      rw [if_pos hf]
      exact put_seek l _ c h
mutual
theorem put_tree {room : Nat} {s0 : Sh} : ∀ (t : Tr) (out new : List Nd) (s : Sh) (a : List Int), Inv room s → Up s0 s → (∀ h ∈ a, live s h = true) → a.length = out.length → fl t out = out ++ new → cntS s + cost s t ≤ room →
    ∃ s' c, putL room s a new = some (s', c) ∧ cntS s' ≤ cntS s + cost s t ∧ Inv room s' ∧ Up s s' ∧ (∀ h ∈ c, live s' h = true)
  | .mk k nums text kids, out, new, s, a, hi, hu, ha, hl, hn, hr => by
    have hw := fl_right s0 _ out new hn
    by_cases e : ∃ h, At s (.mk k nums text kids) h
    · obtain ⟨h, e⟩ := e
      obtain ⟨nw, b, e1, e2, _, _⟩ := seek_at hi _ h out a e hl
      rw [hn] at e1
      obtain rfl := List.append_cancel_left e1
      have hp := put_seek (room := room) _ _ _ e2
      have h2 := inv_putL hi hu ha (by rw [hl]; exact hw) hp
      exact ⟨s, _, hp, by omega, h2.1, Up.refl _, h2.2⟩
    · have hc : cost s (.mk k nums text kids) = 1 + costL s kids := by rw [cost, if_neg e]
      obtain ⟨n1, e1⟩ := flL_ext kids out []
      have hn' := hn
      rw [fl, e1, List.append_assoc] at hn'
      obtain rfl := (List.append_cancel_left hn').symm
      obtain ⟨s1, c1, p1, p2, p3, p4, p5⟩ := put_trees kids out n1 [] s a hi hu ha hl e1 (fun r hr => by cases hr) (by omega)
      obtain ⟨_, b1, q2, q3, q4, _⟩ := atL_put kids out s s1 a c1 n1 [] [] hl e1 p1 ⟨rfl, fun r hr => by cases hr⟩
      rw [wrongF_app, Bool.or_eq_false_iff] at hw
      have hlen1 : out.length + n1.length = c1.length := by rw [q3, e1, List.length_append]
      rw [hc]
      have key : ∃ s2 h2, oneA room s1 (asPut c1 ⟨k, (flL kids out []).2, nums, text⟩) = some (s2, h2) ∧ cntS s2 ≤ cntS s1 + 1 := by
        unfold oneA
        split
        · exact ⟨_, _, rfl, by omega⟩
        · have := freeH_le s1
          rw [if_neg (by omega)]
          exact ⟨_, _, rfl, by rw [cnt_setH]; omega⟩
      obtain ⟨s2, h2, o1, o2⟩ := key
      have hput : putL room s a (n1 ++ [⟨k, (flL kids out []).2, nums, text⟩]) = some (s2, c1 ++ [h2]) := by
        rw [putL_app, p1]
        show putL room s1 c1 [_] = _
        rw [putL, o1]; rfl
      have h3 := inv_putL (s0 := s0) p3 (hu.trans p4) p5 (by rw [← hlen1]; exact hw.2) (show putL room s1 c1 [⟨k, (flL kids out []).2, nums, text⟩] = some (s2, c1 ++ [h2]) by rw [putL, o1]; rfl)
      exact ⟨s2, _, hput, by omega, h3.1, (putL_up hput).1, h3.2⟩
theorem put_trees {room : Nat} {s0 : Sh} : ∀ (ts : List Tr) (out new : List Nd) (refs : List Int) (s : Sh) (a : List Int), Inv room s → Up s0 s → (∀ h ∈ a, live s h = true) → a.length = out.length → (flL ts out refs).1 = out ++ new → NegR out.length refs → cntS s + costL s ts ≤ room →
    ∃ s' c, putL room s a new = some (s', c) ∧ cntS s' ≤ cntS s + costL s ts ∧ Inv room s' ∧ Up s s' ∧ (∀ h ∈ c, live s' h = true)
  | [], out, new, refs, s, a, hi, hu, ha, hl, hn, hneg, hr => by
    rw [flL] at hn
    have : new = [] := by have := congrArg List.length hn; simp at this; exact this
    subst this
    exact ⟨s, a, rfl, by omega, hi, Up.refl _, ha⟩
  | t :: ts, out, new, refs, s, a, hi, hu, ha, hl, hn, hneg, hr => by
    obtain ⟨n1, e1, _⟩ := fl_ext t out
    obtain ⟨n2, e2⟩ := flL_ext ts (fl t out) (refs ++ [-((fl t out).length : Int)])
    rw [flL, e2, e1, List.append_assoc] at hn
    obtain rfl := (List.append_cancel_left hn).symm
    rw [costL] at hr ⊢
    obtain ⟨s1, c1, p1, p2, p3, p4, p5⟩ := put_tree t out n1 s a hi hu ha hl e1 (by omega)
    obtain ⟨_, _, _, q3, _, _⟩ := at_put t out s s1 a c1 n1 hl e1 p1
    have hp := fl_pos t out
    have hup := costL_up p4 ts
    obtain ⟨s2, c2, r1, r2, r3, r4, r5⟩ := put_trees ts (fl t out) n2 (refs ++ [-((fl t out).length : Int)]) s1 c1 p3 (hu.trans p4) p5 q3 e2 (fun r hm => by
      rcases List.mem_append.1 hm with e | e
      · have := hneg r e; omega
      · rw [List.mem_singleton.1 e]; omega) (by omega)
    refine ⟨s2, c2, ?_, by omega, r3, p4.trans r4, r5⟩
    rw [putL_app, p1]
    exact r1
end
end Go.Proofs.YtjgjacihdggimaaGreatDoor
namespace Go.Proofs.YtjgjacihdggimaaGreatDoor
open Go.RowKit
def bldF (l : List En) : Txs := l.foldl (fun f x => setX f x.key.toNat x.text) (fun _ => [])
def dupF : Txs → List En → Bool
  | _, [] => false
  | f, x :: r => if f x.key.toNat = [] then dupF (setX f x.key.toNat x.text) r else true
def pBldR (room : Nat) (s : Sh) (l : List En) : Sh × Int × Nat :=
  if (l.any fun x => !rightE x) = true then (s, 0, 1) else if dupF (fun _ => []) l = true then (s, 0, 5) else putT room s (entX (bldF l) 1024)
theorem bldF_ok {l : List En} (h : ∀ x ∈ l, rightE x = true) : OkX (bldF l) := by
  unfold bldF
  have key : ∀ (l : List En) (f : Txs), OkX f → (∀ x ∈ l, rightE x = true) → OkX (l.foldl (fun f x => setX f x.key.toNat x.text) f) := by
    intro l
    induction l with
    | nil => intro f h _; exact h
    | cons x l ih =>
      intro f hf h
      rw [List.foldl_cons]
      exact ih _ (setX_ok hf _ (right_iffE.1 (h x (by simp))).2.2.2) fun y hy => h y (List.mem_cons_of_mem _ hy)
  exact key l _ (fun k => Nat.zero_le _) h
end Go.Proofs.YtjgjacihdggimaaGreatDoor
namespace Go.Proofs.YtjgjacihdggimaaGreatDoor
open Go.RowKit
theorem partsD_succ (l : List En) (lv n : Nat) : partsD l lv (n + 1) = partsD l lv n ++ if (partD l lv n).isEmpty then [] else [partD l lv n] := by
  unfold partsD
  rw [List.range_succ, List.map_append, List.filter_append]
  congr 1
  cases h : (partD l lv n).isEmpty <;> simp [h]
theorem partsD_le (l : List En) (lv n : Nat) : ∀ m : Nat, ∃ q, partsD l lv (n + m) = partsD l lv n ++ q
  | 0 => ⟨[], by simp⟩
  | m + 1 => by
    obtain ⟨q, e⟩ := partsD_le l lv n m
    refine ⟨q ++ if (partD l lv (n + m)).isEmpty then [] else [partD l lv (n + m)], ?_⟩
    rw [← Nat.add_assoc, partsD_succ, e, List.append_assoc]
end Go.Proofs.YtjgjacihdggimaaGreatDoor
namespace Go.Proofs.YtjgjacihdggimaaGreatDoor
theorem putT_good {room : Nat} {s : Sh} (hi : Inv room s) {l : List En} (ho : OkL l) (hne : l ≠ []) (hr : cntS s + cost s (trK 2 l) ≤ room) :
    (putT room s l).2.2 = 0 ∧ IsT (putT room s l).1 (putT room s l).2.1 l ∧ Inv room (putT room s l).1 ∧ Up s (putT room s l).1 ∧ cntS (putT room s l).1 ≤ cntS s + cost s (trK 2 l) ∧ cntS s ≤ cntS (putT room s l).1 := by
  have hN : nodesL l = fl (trK 2 l) [] := by unfold nodesL; rw [if_neg hne]
  obtain ⟨s', c, p1, p2, p3, p4, p5⟩ := put_tree (room := room) (s0 := s) (trK 2 l) [] (fl (trK 2 l) []) s [] hi (Up.refl _) (fun h hh => by cases hh) rfl rfl hr
  obtain ⟨h, b, q1, q2, q3, q4⟩ := at_put (trK 2 l) [] s s' [] c (fl (trK 2 l) []) rfl rfl p1
  have hw := fl_right s (trK 2 l) [] (fl (trK 2 l) []) rfl
  have hP : putA room s (nodesL l) = (s', c, 0) := by
    rw [hN]
    exact put_good hw p1
  have hc : c ≠ [] := fun e => by rw [e] at q3; cases q3
  have hl : c.getLastD 0 = h := by rw [List.getLastD_eq_getLast?, q3]; rfl
  unfold putT
  rw [hP]
  show (if c = [] then 0 else 0) = 0 ∧ IsT s' (c.getLastD 0) l ∧ _
  rw [hl]
  exact ⟨by split <;> rfl, ⟨ho, .inr ⟨hne, q4⟩⟩, p3, p4, p2, cnt_up p1⟩
end Go.Proofs.YtjgjacihdggimaaGreatDoor
