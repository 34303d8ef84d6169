/- Texts joined: OpR, Mem, NdA, KpA, NdB, OpN, GrA, GrB, OwB. -/
import Derived.Test.YtbppkflgokfjhaaProg
import Derived.WalkKit
import Derived.OpenShut
import Derived.Deep.Slices
import Derived.Deep.SlicePairs
import Derived.ChangeSame
import Derived.WalkSmall
import Derived.Lib.Hide
import Derived.Lib.AtoiErrMem
import Derived.Deep.CutRange
import Derived.OwnWalk
import Derived.Deep.QuietTactic
import Derived.BigQuiet
import Derived.Laws.Pointers
import Derived.StillTactics
import Derived.Deep.Onto
set_option linter.all false
namespace Go.Proofs.Ytbppkflgokfjhaa
open Go.ChangeShapes Go.WideShapes Go.RowKit Go.Deep
section
variable {H : Type} {enc : TypeId × Value → H} {w : World} {base : Nat} {spare : Nat → Bool} {held : Bool}
def AtR {α : Type} (f : α → List Value) (k : Nat) (w : World) (g o : Nat) (l : List α) : Prop := ∀ (i : Nat) (q : α), l[i]? = some q → ∀ (j : Nat) (u : Value), (f q)[j]? = some u → w.cell? ⟨g, o + i * k + j, none⟩ = some u
set_option maxRecDepth 100000 in
theorem open_rows {α : Type} [Inhabited α] {r : Reach} {b0 : Nat} {v : Value} {d : DataW H} {p : List MemPlace} {ts te : TypeId} {k : Nat} (f : α → List Value) (Ok : α → Prop) (hf : ∀ q, (f q).length = k)
    (hts : Try.prog.underlying ts = some (.slice te)) (hk : Try.prog.cellsOf te = k) (hk0 : 0 < k)
    (hel : ∀ {fuel : Nat} {cs : List Value} {x : DataW H × List MemPlace}, cs.length = k → DataW.trod enc Try.prog w base spare held fuel te cs = some x → ∃ q, cs = f q ∧ Ok q)
    (hv : Value.okWide Try.prog w r b0 ts v) (h : DataW.Trod enc Try.prog w base spare held ts v d p) :
    ∃ (l : List α) (A : Option Addr) (cap : Nat), v = .slice A l.length cap ∧ l.length ≤ maxLen ∧ (∀ q ∈ l, Ok q) ∧ (l ≠ [] → ∃ g o, A = some ⟨g, o, none⟩ ∧ AtR f k w g o l) := by
  obtain ⟨a0, len, cap, rfl⟩ := okWide_slice hts hv
  obtain ⟨fuel, hfu⟩ := h
  rcases DataW.trod_slice hts hfu with ⟨e5, _⟩ | ⟨ad, len', cap', el, rs, n4, rfl, e5, _, _, hlc, hcm, hle, helem, _, _⟩
  · simp [Value.cells] at e5
    obtain ⟨rfl, rfl, rfl⟩ := e5
    exact ⟨([] : List α), none, 0, rfl, by simp, by simp, fun hh => absurd rfl hh⟩
  · simp [Value.cells] at e5
    obtain ⟨rfl, rfl, rfl⟩ := e5
    have key : ∀ i, i < len → ∃ q : α, (∀ (j : Nat) (u : Value), (f q)[j]? = some u → w.cell? ((ad.add (i * k)).add j) = some u) ∧ Ok q := by
      intro i hi
      have h1 := helem i hi
      rw [hk] at h1
      obtain ⟨y, hy⟩ : ∃ y, el[i]? = some y := ⟨el[i]'(by omega), List.getElem?_eq_getElem (by omega)⟩
      rw [hy] at h1
      obtain ⟨ce, hce, hte⟩ := Option.bind_eq_some_iff.1 h1
      obtain ⟨_, hcl, hcell⟩ := World.cells?_some hce
      obtain ⟨q, rfl, hq⟩ := hel hcl hte
      refine ⟨q, fun j u hj => ?_, hq⟩
      have hjl : j < k := by rw [← hf q]; exact (List.getElem?_eq_some_iff.1 hj).1
      rw [hcell j hjl]; exact hj
    obtain ⟨Q, hQ⟩ := choose_lt key
    refine ⟨(List.range len).map Q, some ad, cap, by simp, by simp; omega, fun q hq => ?_, fun hne => ?_⟩
    · obtain ⟨i, hi, rfl⟩ := List.mem_map.1 hq
      exact (hQ i (List.mem_range.1 hi)).2
    · have hpos : 0 < len := by
        cases len with
        | zero => simp at hne
        | succ k => omega
      obtain ⟨g, o, spot⟩ := ad
      have hspot : spot = none := by
        obtain ⟨u, hu⟩ : ∃ u, (f (Q 0))[0]? = some u := ⟨(f (Q 0))[0]'(by rw [hf]; exact hk0), List.getElem?_eq_getElem (by rw [hf]; exact hk0)⟩
        have h00 := (hQ 0 hpos).1 0 u hu
        simpa [Addr.add] using World.cell?_spot h00
      subst hspot
      refine ⟨g, o, rfl, fun i q hi j u hj => ?_⟩
      have hlt : i < len := by
        have := (List.getElem?_eq_some_iff.1 hi).1
        simpa using this
      have hq : Q i = q := by simpa [hlt] using hi
      have := (hQ i hlt).1 j u (by rw [hq]; exact hj)
      rwa [add_plain, add_plain] at this
end
end Go.Proofs.Ytbppkflgokfjhaa
namespace Go.Proofs.Ytbppkflgokfjhaa
open Go.RowKit
theorem keep_cell {W w1 : World} (hb : Below W.heap.size W w1) {p : Addr} {v : Value} (h : W.cell? p = some v) : w1.cell? p = some v := by
  rw [hb.cell (Lib.lt_of_cell h)]; exact h
end Go.Proofs.Ytbppkflgokfjhaa
namespace Go.Proofs.Ytbppkflgokfjhaa
structure Nd where
  kind : Int
  refs : List Int
  nums : List Int
  text : List UInt8
deriving Inhabited, DecidableEq
abbrev Sh := List (Option Nd)
def ndAt (s : Sh) (h : Int) : Option Nd := if 0 < h then (s[(h - 1).toNat]?).getD none else none
def resolve (out : List Int) (r : Int) : Int := if r < 0 then out.getD (-1 - r).toNat 0 else r
open Classical in
def Up (s s' : Sh) : Prop := ∀ h n, ndAt s h = some n → ndAt s' h = some n
theorem Up.refl (s : Sh) : Up s s := fun _ _ h => h
theorem Up.trans {a b c : Sh} (h : Up a b) (k : Up b c) : Up a c := fun x n e => k x n (h x n e)
end Go.Proofs.Ytbppkflgokfjhaa
namespace Go.Proofs.Ytbppkflgokfjhaa
open Go.RowKit
structure Kept (w w' : World) (P : Nat → Prop) : Prop where
  size : w.heap.size ≤ w'.heap.size
  block : ∀ g, P g → g < w.heap.size → w'.heap[g]? = w.heap[g]?
theorem Kept.of_below {w w' : World} {P : Nat → Prop} (h : Below w.heap.size w w') : Kept w w' P := ⟨h.size, fun g _ hg => h.block g hg⟩
theorem Kept.trans {w w' w'' : World} {P : Nat → Prop} (h : Kept w w' P) (h' : Kept w' w'' P) : Kept w w'' P :=
  ⟨Nat.le_trans h.size h'.size, fun g hp hg => (h'.block g hp (Nat.lt_of_lt_of_le hg h.size)).trans (h.block g hp hg)⟩
theorem Kept.refl (w : World) (P : Nat → Prop) : Kept w w P := ⟨Nat.le_refl _, fun _ _ _ => rfl⟩
theorem Kept.cell {w w' : World} {P : Nat → Prop} (h : Kept w w' P) {g o : Nat} (hp : P g) {v : Value} (hv : w.cell? ⟨g, o, none⟩ = some v) : w'.cell? ⟨g, o, none⟩ = some v := by
  have hl : g < w.heap.size := Lib.lt_of_cell hv
  have hb := h.block g hp hl
  rw [← hv]
  unfold World.cell?
  simp only [hb]
end Go.Proofs.Ytbppkflgokfjhaa
namespace Go.Proofs.Ytbppkflgokfjhaa
open Go.RowKit
def RowI (w : World) (P : Nat → Prop) (A : Option Addr) (l : List Int) : Prop := l = [] ∨ ∃ g o, A = some ⟨g, o, none⟩ ∧ P g ∧ g < w.heap.size ∧ ∀ (i : Nat) (x : Int), l[i]? = some x → w.cell? ⟨g, o + i, none⟩ = some (.int .i64 x)
theorem RowI.kept {w w' : World} {P : Nat → Prop} {A : Option Addr} {l : List Int} (h : RowI w P A l) (hk : Kept w w' P) : RowI w' P A l := by
  rcases h with h | ⟨g, o, rfl, hp, hl, hc⟩
  · exact .inl h
  · exact .inr ⟨g, o, rfl, hp, Nat.lt_of_lt_of_le hl hk.size, fun i x hi => hk.cell hp (hc i x hi)⟩
theorem RowI.mono {w : World} {P Q : Nat → Prop} {A : Option Addr} {l : List Int} (h : RowI w P A l) (hpq : ∀ g, P g → g < w.heap.size → Q g) : RowI w Q A l := by
  rcases h with h | ⟨g, o, rfl, hp, hl, hc⟩
  · exact .inl h
  · exact .inr ⟨g, o, rfl, hpq g hp hl, hl, hc⟩
theorem RowI.below {w w' : World} {P : Nat → Prop} {A : Option Addr} {l : List Int} (h : RowI w P A l) (hb : Below w.heap.size w w') : RowI w' P A l := h.kept (Kept.of_below hb)
def B64s (l : List Int) : Prop := ∀ x ∈ l, -9223372036854775808 ≤ x ∧ x ≤ 9223372036854775807
def inW (x : Int) : List Value := [.int .i64 x]
def At4 (w : World) (g o : Nat) (n : Nd) (A : Option Addr) (ca : Nat) (B : Option Addr) (cb : Nat) : Prop :=
  w.cell? ⟨g, o, none⟩ = some (.int .i64 n.kind) ∧ w.cell? ⟨g, o + 1, none⟩ = some (.slice A n.refs.length ca) ∧ w.cell? ⟨g, o + 2, none⟩ = some (.slice B n.nums.length cb) ∧ w.cell? ⟨g, o + 3, none⟩ = some (.string ⟨n.text.toArray⟩)
theorem At4.kept {w w' : World} {P : Nat → Prop} {g o : Nat} {n : Nd} {A B : Option Addr} {ca cb : Nat} (h : At4 w g o n A ca B cb) (hk : Kept w w' P) (hp : P g) : At4 w' g o n A ca B cb :=
  ⟨hk.cell hp h.1, hk.cell hp h.2.1, hk.cell hp h.2.2.1, hk.cell hp h.2.2.2⟩
structure NdM where
  n : Nd
  A : Option Addr
  ca : Nat
  B : Option Addr
  cb : Nat
deriving Inhabited
def ndW (q : NdM) : List Value := [.int .i64 q.n.kind, .slice q.A q.n.refs.length q.ca, .slice q.B q.n.nums.length q.cb, .string ⟨q.n.text.toArray⟩]
def RowN (w : World) (P : Nat → Prop) (A : Option Addr) (l : List Nd) : Prop := l = [] ∨ ∃ g o, A = some ⟨g, o, none⟩ ∧ P g ∧ g < w.heap.size ∧
  ∀ (i : Nat) (n : Nd), l[i]? = some n → ∃ B cb C cc, At4 w g (o + i * 4) n B cb C cc ∧ RowI w P B n.refs ∧ RowI w P C n.nums
theorem RowN.kept {w w' : World} {P : Nat → Prop} {A : Option Addr} {l : List Nd} (h : RowN w P A l) (hk : Kept w w' P) : RowN w' P A l := by
  rcases h with h | ⟨g, o, rfl, hp, hl, hc⟩
  · exact .inl h
  · refine .inr ⟨g, o, rfl, hp, Nat.lt_of_lt_of_le hl hk.size, fun i n hi => ?_⟩
    obtain ⟨B, cb, C, cc, h4, hr, hn⟩ := hc i n hi
    exact ⟨B, cb, C, cc, h4.kept hk hp, hr.kept hk, hn.kept hk⟩
theorem RowN.mono {w : World} {P Q : Nat → Prop} {A : Option Addr} {l : List Nd} (h : RowN w P A l) (hpq : ∀ g, P g → g < w.heap.size → Q g) : RowN w Q A l := by
  rcases h with h | ⟨g, o, rfl, hp, hl, hc⟩
  · exact .inl h
  · refine .inr ⟨g, o, rfl, hpq g hp hl, hl, fun i n hi => ?_⟩
    obtain ⟨B, cb, C, cc, h4, hr, hn⟩ := hc i n hi
    exact ⟨B, cb, C, cc, h4, hr.mono hpq, hn.mono hpq⟩
theorem RowN.below {w w' : World} {P : Nat → Prop} {A : Option Addr} {l : List Nd} (h : RowN w P A l) (hb : Below w.heap.size w w') : RowN w' P A l := h.kept (Kept.of_below hb)
structure ButS (P : Nat → Prop) (w w' : World) : Prop where
  os : w'.os = w.os
  tape : w'.tape = w.tape
  output : w'.output = w.output
  size : w.heap.size ≤ w'.heap.size
  block : ∀ k, k < w.heap.size → ¬ P k → w'.heap[k]? = w.heap[k]?
section
variable {P Q : Nat → Prop} {a b c w w' : World}
theorem ButS.refl (P : Nat → Prop) (w : World) : ButS P w w := ⟨rfl, rfl, rfl, Nat.le_refl _, fun _ _ _ => rfl⟩
theorem ButS.trans' (h : ButS P a b) (k : ButS Q b c) (hq : ∀ g, g < a.heap.size → Q g → P g) : ButS P a c :=
  ⟨k.os.trans h.os, k.tape.trans h.tape, k.output.trans h.output, Nat.le_trans h.size k.size, fun i hi hn => (k.block i (Nat.lt_of_lt_of_le hi h.size) (fun e => hn (hq i hi e))).trans (h.block i hi hn)⟩
theorem ButS.trans (h : ButS P a b) (k : ButS P b c) : ButS P a c := h.trans' k fun _ _ e => e
theorem ButS.of_below (h : Below w.heap.size w w') : ButS P w w' := ⟨h.os, h.tape, h.output, h.size, fun k hk _ => h.block k hk⟩
theorem ButS.alloc (h : ButS P a w) (o : Obj) : ButS P a (w.alloc o) := h.trans (ButS.of_below ((Below.refl _ _).alloc (Nat.le_refl _) o))
theorem ButS.drew (h : ButS P a w) : ButS P a w.drew := ⟨h.os, h.tape, h.output, h.size, h.block⟩
theorem ButS.setCell (h : ButS P a w) {p : Addr} (hp : P p.block ∨ a.heap.size ≤ p.block) (u : Value) : ButS P a (w.setCell p u) := by
  have hb := (Below.refl 0 w).setCell (p := p) (Nat.zero_le _) u
  refine ⟨hb.os.trans h.os, hb.tape.trans h.tape, hb.output.trans h.output, Nat.le_trans h.size hb.size, fun k hk hn => ?_⟩
  rw [Below.heap_setCell w p u k (by rcases hp with hp | hp; exact fun e => hn (e ▸ hp); exact fun e => by omega)]
  exact h.block k hk hn
theorem ButS.drewN (h : ButS P a w) (n : Nat) : ButS P a (w.drewN n) := h.trans (ButS.of_below (below_drewN (Below.refl _ _) n))
theorem ButS.kept (h : ButS P w w') : Kept w w' (fun g => ¬ P g) := ⟨h.size, fun g hp hl => h.block g hl hp⟩
theorem ButS.keptQ (h : ButS P w w') (hpq : ∀ g, Q g → ¬ P g) : Kept w w' Q := ⟨h.size, fun g hp hl => h.block g hl (hpq g hp)⟩
theorem ButS.below {n : Nat} (h : ButS P w w') (hn : ∀ k, k < n → ¬ P k) (hs : n ≤ w.heap.size) : Below n w w' := ⟨h.os, h.tape, h.output, h.size, fun k hk => h.block k (by omega) (hn k hk)⟩
theorem ButS.cell (h : ButS P w w') {p : Addr} {v : Value} (hne : ¬ P p.block) (hv : w.cell? p = some v) : w'.cell? p = some v := by
  rw [World.cell?_of_block (w := w) (h.block p.block (Lib.lt_of_cell hv) hne)]; exact hv
theorem ButS.frozen (h : ButS P w w') {p : Addr} (hne : ¬ P p.block) (hl : p.block < w.heap.size) (hv : w.frozen? p = false) : w'.frozen? p = false := by
  rw [World.frozen?_of_block (w := w) (h.block p.block hl hne)]; exact hv
theorem ButS.grown {row : Option Nat} (h : ButS P a w) (hg : w.grownBy w' row) (hr : ∀ k, row = some k → P k ∨ a.heap.size ≤ k) : ButS P a w' :=
  ⟨hg.os.trans h.os, hg.tape.trans h.tape, hg.output.trans h.output, Nat.le_trans h.size hg.size, fun k hk hn => (hg.block k (Nat.lt_of_lt_of_le hk h.size) (fun e => by rcases hr k e.symm with h' | h'; exact hn h'; omega)).trans (h.block k hk hn)⟩
theorem ButS.mono (h : ButS P a w) (hpq : ∀ g, P g → Q g) : ButS Q a w := ⟨h.os, h.tape, h.output, h.size, fun k hk hn => h.block k hk fun e => hn (hpq k e)⟩
structure MC (w : World) (m room : Nat) (vN vB : Value) : Prop where
  c0 : w.cell? ⟨m, 0, none⟩ = some (.int .i64 (room : Int))
  c1 : w.cell? ⟨m, 1, none⟩ = some vN
  c2 : w.cell? ⟨m, 2, none⟩ = some vB
  fM : ∀ j, w.frozen? ⟨m, j, none⟩ = false
section
variable {m room : Nat} {vN vB : Value}
theorem MC.lt (h : MC w m room vN vB) : m < w.heap.size := Lib.lt_of_cell h.c0
theorem MC.block (h : MC w m room vN vB) (hb : w'.heap[m]? = w.heap[m]?) : MC w' m room vN vB :=
  ⟨by rw [World.cell?_of_block (w := w) hb]; exact h.c0, by rw [World.cell?_of_block (w := w) hb]; exact h.c1, by rw [World.cell?_of_block (w := w) hb]; exact h.c2, fun j => by rw [World.frozen?_of_block (w := w) hb]; exact h.fM j⟩
theorem MC.grown {row : Option Nat} (h : MC w m room vN vB) (hg : w.grownBy w' row) (hr : some m ≠ row) : MC w' m room vN vB := h.block (hg.block m h.lt hr)
theorem MC.below (h : MC w m room vN vB) (hb : Below w.heap.size w w') : MC w' m room vN vB := h.block (hb.block m h.lt)
theorem MC.alloc (h : MC w m room vN vB) (o : Obj) : MC (w.alloc o) m room vN vB := h.below ((Below.refl _ _).alloc (Nat.le_refl _) o)
theorem MC.set (h : MC w m room vN vB) {p : Addr} (hp : p.block ≠ m) (u : Value) : MC (w.setCell p u) m room vN vB := h.block (Below.heap_setCell w p u m fun e => hp e.symm)
theorem MC.set1 (h : MC w m room vN vB) (u : Value) : MC (w.setCell ⟨m, 1, none⟩ u) m room u vB :=
  ⟨by rw [World.cell?_setCell_other _ _ _ _ (by simp)]; exact h.c0, World.cell?_setCell_same _ _ _ h.c1, by rw [World.cell?_setCell_other _ _ _ _ (by simp)]; exact h.c2, fun j => by rw [World.frozen?_setCell]; exact h.fM j⟩
theorem MC.set2 (h : MC w m room vN vB) (u : Value) : MC (w.setCell ⟨m, 2, none⟩ u) m room vN u :=
  ⟨by rw [World.cell?_setCell_other _ _ _ _ (by simp)]; exact h.c0, by rw [World.cell?_setCell_other _ _ _ _ (by simp)]; exact h.c1, World.cell?_setCell_same _ _ _ h.c2, fun j => by rw [World.frozen?_setCell]; exact h.fM j⟩
end
theorem rows_list {g : Nat} {l : List Nd} (h : ∀ (i : Nat) (n : Nd), l[i]? = some n → ∃ B cb C cc, At4 w g (i * 4) n B cb C cc ∧ RowI w P B n.refs ∧ RowI w P C n.nums) :
    ∃ L : List NdM, L.map NdM.n = l ∧ (∀ (i : Nat) (q : NdM), L[i]? = some q → At4 w g (i * 4) q.n q.A q.ca q.B q.cb) ∧ ∀ q ∈ L, RowI w P q.A q.n.refs ∧ RowI w P q.B q.n.nums := by
  have key : ∀ i, i < l.length → ∃ q : NdM, l[i]? = some q.n ∧ At4 w g (i * 4) q.n q.A q.ca q.B q.cb ∧ RowI w P q.A q.n.refs ∧ RowI w P q.B q.n.nums := fun i hi => by
    obtain ⟨B, cb, C, cc, h4, hr, hn⟩ := h i _ (List.getElem?_eq_getElem hi)
    exact ⟨⟨_, B, cb, C, cc⟩, List.getElem?_eq_getElem hi, h4, hr, hn⟩
  obtain ⟨F, hF⟩ : ∃ F : Nat → NdM, ∀ i, i < l.length → l[i]? = some (F i).n ∧ At4 w g (i * 4) (F i).n (F i).A (F i).ca (F i).B (F i).cb ∧ RowI w P (F i).A (F i).n.refs ∧ RowI w P (F i).B (F i).n.nums := by
    refine ⟨fun i => if hi : i < l.length then (key i hi).choose else default, fun i hi => ?_⟩
    simp only [dif_pos hi]
    exact (key i hi).choose_spec
  refine ⟨(List.range l.length).map F, ?_, fun i q hq => ?_, fun q hq => ?_⟩
  · apply List.ext_getElem?
    intro i
    by_cases hi : i < l.length
    · rw [List.getElem?_map, List.getElem?_map, List.getElem?_range hi, (hF i hi).1]; rfl
    · rw [List.getElem?_eq_none_iff.2 (by simp; omega), List.getElem?_eq_none_iff.2 (by omega)]
  · have hi : i < l.length := by have := (List.getElem?_eq_some_iff.1 hq).1; simpa using this
    rw [List.getElem?_map, List.getElem?_range hi] at hq
    obtain rfl := Option.some.inj hq
    exact (hF i hi).2.1
  · obtain ⟨i, hi, rfl⟩ := List.mem_map.1 hq
    exact (hF i (List.mem_range.1 hi)).2.2
theorem list_rows {g : Nat} {L : List NdM} (h : ∀ (i : Nat) (q : NdM), L[i]? = some q → At4 w g (i * 4) q.n q.A q.ca q.B q.cb) (hr : ∀ q ∈ L, RowI w P q.A q.n.refs ∧ RowI w P q.B q.n.nums) :
    ∀ (i : Nat) (n : Nd), (L.map NdM.n)[i]? = some n → ∃ B cb C cc, At4 w g (i * 4) n B cb C cc ∧ RowI w P B n.refs ∧ RowI w P C n.nums := fun i n hi => by
  rw [List.getElem?_map] at hi
  cases hq : L[i]? with
  | none => rw [hq] at hi; cases hi
  | some q =>
    rw [hq] at hi
    obtain rfl := Option.some.inj hi
    exact ⟨_, _, _, _, h i q hq, hr q (List.mem_of_getElem? hq)⟩
end
end Go.Proofs.Ytbppkflgokfjhaa
namespace Go.Proofs.Ytbppkflgokfjhaa
open Go.ChangeShapes Go.WideShapes Go.RowKit Go.Deep
section
variable {H : Type} {enc : TypeId × Value → H} {w : World} {base : Nat} {spare : Nat → Bool} {held : Bool}
set_option maxRecDepth 100000 in
theorem trod_rows {α : Type} [Inhabited α] {fuel : Nat} {c : Value} {x : DataW H × List MemPlace} {ts te : TypeId} {k : Nat} (f : α → List Value) (Ok : α → Prop) (hf : ∀ q, (f q).length = k)
    (hts : Try.prog.underlying ts = some (.slice te)) (hk : Try.prog.cellsOf te = k) (hk0 : 0 < k)
    (hel : ∀ {fuel : Nat} {cs : List Value} {x : DataW H × List MemPlace}, cs.length = k → DataW.trod enc Try.prog w base spare held fuel te cs = some x → ∃ q, cs = f q ∧ Ok q)
    (h : DataW.trod enc Try.prog w base spare held fuel ts [c] = some x) :
    ∃ (l : List α) (A : Option Addr) (cap : Nat), c = .slice A l.length cap ∧ l.length ≤ maxLen ∧ (∀ q ∈ l, Ok q) ∧ (l ≠ [] → ∃ g o, A = some ⟨g, o, none⟩ ∧ AtR f k w g o l) := by
  rcases DataW.trod_slice hts h with ⟨e5, _⟩ | ⟨ad, len, cap, el, rs, n4, rfl, e5, _, _, hlc, hcm, hle, helem, _, _⟩
  · simp only [List.cons.injEq, and_true] at e5
    exact ⟨([] : List α), none, 0, e5, by simp, by simp, fun hh => absurd rfl hh⟩
  · simp only [List.cons.injEq, and_true] at e5
    have key : ∀ i, i < len → ∃ q : α, (∀ (j : Nat) (u : Value), (f q)[j]? = some u → w.cell? ((ad.add (i * k)).add j) = some u) ∧ Ok q := by
      intro i hi
      have h1 := helem i hi
      rw [hk] at h1
      obtain ⟨y, hy⟩ : ∃ y, el[i]? = some y := ⟨el[i]'(by omega), List.getElem?_eq_getElem (by omega)⟩
      rw [hy] at h1
      obtain ⟨ce, hce, hte⟩ := Option.bind_eq_some_iff.1 h1
      obtain ⟨_, hcl, hcell⟩ := World.cells?_some hce
      obtain ⟨q, rfl, hq⟩ := hel hcl hte
      refine ⟨q, fun j u hj => ?_, hq⟩
      have hjl : j < k := by rw [← hf q]; exact (List.getElem?_eq_some_iff.1 hj).1
      rw [hcell j hjl]; exact hj
    obtain ⟨Q, hQ⟩ := choose_lt key
    refine ⟨(List.range len).map Q, some ad, cap, by simpa using e5, by simp; omega, fun q hq => ?_, fun hne => ?_⟩
    · obtain ⟨i, hi, rfl⟩ := List.mem_map.1 hq
      exact (hQ i (List.mem_range.1 hi)).2
    · have hpos : 0 < len := by
        cases len with
        | zero => simp at hne
        | succ k => omega
      obtain ⟨g, o, spot⟩ := ad
      have hspot : spot = none := by
        obtain ⟨u, hu⟩ : ∃ u, (f (Q 0))[0]? = some u := ⟨(f (Q 0))[0]'(by rw [hf]; exact hk0), List.getElem?_eq_getElem (by rw [hf]; exact hk0)⟩
        have h00 := (hQ 0 hpos).1 0 u hu
        simpa [Addr.add] using World.cell?_spot h00
      subst hspot
      refine ⟨g, o, rfl, fun i q hi j u hj => ?_⟩
      have hlt : i < len := by
        have := (List.getElem?_eq_some_iff.1 hi).1
        simpa using this
      have hq : Q i = q := by simpa [hlt] using hi
      have := (hQ i hlt).1 j u (by rw [hq]; exact hj)
      rwa [add_plain, add_plain] at this
theorem rowI_of {A : Option Addr} {l : List Int} (h : l ≠ [] → ∃ g o, A = some ⟨g, o, none⟩ ∧ AtR inW 1 w g o l) : RowI w (fun _ => True) A l := by
  cases l with
  | nil => exact .inl rfl
  | cons a l =>
    obtain ⟨g, o, rfl, ha⟩ := h (by simp)
    have hc : ∀ (i : Nat) (x : Int), (a :: l)[i]? = some x → w.cell? ⟨g, o + i, none⟩ = some (.int .i64 x) := fun i x hi => by
      have := ha i x hi 0 _ rfl
      simpa using this
    exact .inr ⟨g, o, rfl, trivial, Lib.lt_of_cell (hc 0 a rfl), hc⟩
theorem trod_ints {fuel : Nat} {c : Value} {x : DataW H × List MemPlace} (h : DataW.trod enc Try.prog w base spare held fuel 23 [c] = some x) :
    ∃ (l : List Int) (A : Option Addr) (cap : Nat), c = .slice A l.length cap ∧ l.length ≤ maxLen ∧ B64s l ∧ RowI w (fun _ => True) A l := by
  obtain ⟨l, A, cap, e, hl, ho, ha⟩ := trod_rows inW (fun x => -9223372036854775808 ≤ x ∧ x ≤ 9223372036854775807) (fun _ => rfl) Try.underlying23 (by kernel_rfl : Try.prog.cellsOf 3 = 1) (by decide) (fun {fuel cs x} hl ht => by
    match cs, hl with
    | [c0], _ =>
      obtain ⟨a, h0, _, wa⟩ := DataW.trod_int Try.underlying3 ht
      simp at h0
      subst h0
      have e1 : IntKind.i64.min = -9223372036854775808 := rfl
      have e2 : IntKind.i64.max = 9223372036854775807 := rfl
      simp [Lit.wf, e1, e2] at wa
      exact ⟨a, rfl, wa⟩) h
  exact ⟨l, A, cap, e, hl, ho, rowI_of ha⟩
def OkN (n : Nd) : Prop := n.refs.length ≤ maxLen ∧ n.nums.length ≤ maxLen ∧ B64s n.refs ∧ n.text.length ≤ maxLen ∧ B64s n.nums ∧ -9223372036854775808 ≤ n.kind ∧ n.kind ≤ 9223372036854775807
theorem rowN_of {A : Option Addr} {l : List NdM} (ho : ∀ q ∈ l, RowI w (fun _ => True) q.A q.n.refs ∧ RowI w (fun _ => True) q.B q.n.nums) (h : l ≠ [] → ∃ g o, A = some ⟨g, o, none⟩ ∧ AtR ndW 4 w g o l) : RowN w (fun _ => True) A (l.map NdM.n) := by
  cases l with
  | nil => exact .inl rfl
  | cons a l =>
    obtain ⟨g, o, rfl, ha⟩ := h (by simp)
    refine .inr ⟨g, o, rfl, trivial, ?_, fun i n hi => ?_⟩
    · exact Lib.lt_of_cell (ha 0 a rfl 0 _ rfl)
    · rw [List.getElem?_map] at hi
      cases hq : (a :: l)[i]? with
      | none => rw [hq] at hi; cases hi
      | some q =>
        rw [hq] at hi
        obtain rfl := Option.some.inj hi
        have h0 := ha i q hq 0 _ rfl
        have h1 := ha i q hq 1 _ rfl
        have h2 := ha i q hq 2 _ rfl
        have h3 := ha i q hq 3 _ rfl
        have := ho q (List.mem_of_getElem? hq)
        exact ⟨q.A, q.ca, q.B, q.cb, ⟨h0, h1, h2, h3⟩, this.1, this.2⟩
end
end Go.Proofs.Ytbppkflgokfjhaa
namespace Go.Proofs.Ytbppkflgokfjhaa
structure Lk where
  at_ : Int
  rd : List Int
deriving Inhabited
def okN (n : Int) : Prop := 0 ≤ n ∧ n ≤ 1023
def OkK (L : List Lk) : Prop := ∀ x ∈ L, okN x.at_ ∧ ∀ r ∈ x.rd, okN r
def DisL (L : List Lk) : Prop := L.Pairwise fun a b => a.at_ ≠ b.at_
inductive Hng (L : List Lk) (on : List Int) : Int → Prop
  | now (x : Lk) (hx : x ∈ L) (r : Int) (hr : r ∈ x.rd) (ho : r ∈ on) : Hng L on x.at_
  | more (x : Lk) (hx : x ∈ L) (r : Int) (hr : r ∈ x.rd) (h : Hng L on r) : Hng L on x.at_
def isN (L : List Lk) (n : Int) : Prop := ∃ x ∈ L, x.at_ = n
def cycN (L : List Lk) (n : Int) : Prop := Hng L [n] n
theorem hng_node {L : List Lk} {on : List Int} {n : Int} (h : Hng L on n) : isN L n := by
  cases h with
  | now x hx r hr ho => exact ⟨x, hx, rfl⟩
  | more x hx r hr h => exact ⟨x, hx, rfl⟩
theorem hng_trans {L : List Lk} {on : List Int} {m n : Int} (h : Hng L [m] n) (hm : Hng L on m) : Hng L on n := by
  induction h with
  | now x hx r hr ho =>
    obtain rfl : r = m := by simpa using ho
    exact .more x hx r hr hm
  | more x hx r hr _ ih => exact .more x hx r hr ih
theorem hng_iff {L : List Lk} {on : List Int} {n : Int} : Hng L on n ↔ ∃ x ∈ L, x.at_ = n ∧ ∃ r ∈ x.rd, r ∈ on ∨ Hng L on r := by
  constructor
  · intro h
    cases h with
    | now x hx r hr ho => exact ⟨x, hx, rfl, r, hr, .inl ho⟩
    | more x hx r hr h => exact ⟨x, hx, rfl, r, hr, .inr h⟩
  · rintro ⟨x, hx, rfl, r, hr, h | h⟩
    · exact .now x hx r hr h
    · exact .more x hx r hr h
theorem hng_closed {L : List Lk} {on : List Int} {P : Int → Prop} (hc : ∀ x ∈ L, (∃ r ∈ x.rd, r ∈ on ∨ P r) → P x.at_) {n : Int} (h : Hng L on n) : P n := by
  induction h with
  | now x hx r hr ho => exact hc x hx ⟨r, hr, .inl ho⟩
  | more x hx r hr _ ih => exact hc x hx ⟨r, hr, .inr ih⟩
noncomputable def upto (P : Int → Prop) : Nat → List Int
  | 0 => []
  | k + 1 => upto P k ++ (haveI := Classical.propDecidable (P (k : Int)); if P (k : Int) then [(k : Int)] else [])
theorem upto_mem {P : Int → Prop} : ∀ {k : Nat} {n : Int}, n ∈ upto P k ↔ 0 ≤ n ∧ n < (k : Int) ∧ P n
  | 0, n => by
    rw [upto]
    constructor
    · intro h; cases h
    · rintro ⟨h1, h2, _⟩; omega
  | k + 1, n => by
    rw [upto, List.mem_append, upto_mem]
    constructor
    · rintro (⟨h1, h2, h3⟩ | h)
      · exact ⟨h1, by omega, h3⟩
      · split at h
        · rename_i hp
          obtain rfl : n = (k : Int) := by simpa using h
          exact ⟨by omega, by omega, hp⟩
        · cases h
    · rintro ⟨h1, h2, h3⟩
      by_cases e : n = (k : Int)
      · subst e
        refine .inr ?_
        rw [if_pos h3]
        exact List.mem_singleton.2 rfl
      · exact .inl ⟨h1, by omega, h3⟩
theorem upto_rise (P : Int → Prop) : ∀ k : Nat, (upto P k).Pairwise (· < ·)
  | 0 => List.Pairwise.nil
  | k + 1 => by
    rw [upto]
    refine List.pairwise_append.2 ⟨upto_rise P k, ?_, fun a ha b hb => ?_⟩
    · split
      · exact List.pairwise_singleton _ _
      · exact List.Pairwise.nil
    · have h1 := (upto_mem.1 ha).2.1
      split at hb
      · obtain rfl : b = (k : Int) := by simpa using hb
        exact h1
      · cases hb
theorem upto_len (P : Int → Prop) : ∀ k : Nat, (upto P k).length ≤ k
  | 0 => Nat.le_refl _
  | k + 1 => by
    rw [upto, List.length_append]
    have := upto_len P k
    split
    · simp; omega
    · simp; omega
theorem upto_nodup (P : Int → Prop) (k : Nat) : (upto P k).Nodup := (upto_rise P k).imp fun {a b} h e => by omega
noncomputable def nodesG (L : List Lk) (k : Nat) : List Int := upto (isN L) k
noncomputable def hangG (L : List Lk) (on : List Int) (k : Nat) : List Int := upto (Hng L on) k
noncomputable def cycG (L : List Lk) (k : Nat) : List Int := upto (cycN L) k
theorem node_range {L : List Lk} (h : OkK L) {n : Int} (hn : isN L n) : 0 ≤ n ∧ n < 1024 := by
  obtain ⟨x, hx, rfl⟩ := hn
  have := (h x hx).1
  unfold okN at this
  omega
theorem nodesG_mem {L : List Lk} (h : OkK L) {n : Int} : n ∈ nodesG L 1024 ↔ isN L n := by
  unfold nodesG
  rw [upto_mem]
  exact ⟨fun q => q.2.2, fun q => ⟨(node_range h q).1, (node_range h q).2, q⟩⟩
theorem hangG_mem {L : List Lk} (h : OkK L) {on : List Int} {n : Int} : n ∈ hangG L on 1024 ↔ Hng L on n := by
  unfold hangG
  rw [upto_mem]
  exact ⟨fun q => q.2.2, fun q => ⟨(node_range h (hng_node q)).1, (node_range h (hng_node q)).2, q⟩⟩
theorem cycG_mem {L : List Lk} (h : OkK L) {n : Int} : n ∈ cycG L 1024 ↔ cycN L n := by
  unfold cycG
  rw [upto_mem]
  exact ⟨fun q => q.2.2, fun q => ⟨(node_range h (hng_node q)).1, (node_range h (hng_node q)).2, q⟩⟩
theorem nodes_len {L : List Lk} (h : OkK L) (hd : DisL L) : (nodesG L 1024).length = L.length := by
  have hp : (nodesG L 1024).Perm (L.map Lk.at_) := by
    refine (List.perm_ext_iff_of_nodup (upto_nodup _ _) ?_).2 fun n => ?_
    · exact List.pairwise_map.2 hd
    · show n ∈ nodesG L 1024 ↔ _
      rw [nodesG_mem h, List.mem_map]; rfl
  rw [hp.length_eq, List.length_map]
/- the order -/
def rdyN (L : List Lk) (told : List Int) (n : Int) : Prop := isN L n ∧ ¬ cycN L n ∧ n ∉ told ∧ ∀ x ∈ L, x.at_ = n → ∀ r ∈ x.rd, isN L r → ¬ cycN L r → r ∈ told
noncomputable def leastN (P : Int → Prop) : Nat → Option Int
  | 0 => none
  | k + 1 => match leastN P k with
    | some n => some n
    | none => haveI := Classical.propDecidable (P (k : Int)); if P (k : Int) then some (k : Int) else none
theorem least_some {P : Int → Prop} : ∀ {k : Nat} {n : Int}, leastN P k = some n → 0 ≤ n ∧ n < (k : Int) ∧ P n
  | 0, n, h => by cases h
  | k + 1, n, h => by
    rw [leastN] at h
    cases e : leastN P k with
    | some m =>
      rw [e] at h
      have := least_some e
      obtain rfl : m = n := by simpa using h
      exact ⟨this.1, by omega, this.2.2⟩
    | none =>
      rw [e] at h
      dsimp only at h
      split at h
      · rename_i hp
        obtain rfl : (k : Int) = n := by simpa using h
        exact ⟨by omega, by omega, hp⟩
      · cases h
theorem least_none {P : Int → Prop} : ∀ {k : Nat}, leastN P k = none ↔ ∀ n : Int, 0 ≤ n → n < (k : Int) → ¬ P n
  | 0 => ⟨fun _ n h1 h2 => by omega, fun _ => rfl⟩
  | k + 1 => by
    rw [leastN]
    cases e : leastN P k with
    | some m =>
      have := least_some e
      constructor
      · intro h; cases h
      · intro h; exact absurd this.2.2 (h m this.1 (by omega))
    | none =>
      dsimp only
      constructor
      · intro h n h1 h2
        by_cases q : n = (k : Int)
        · subst q
          split at h
          · cases h
          · assumption
        · exact least_none.1 e n h1 (by omega)
      · intro h
        rw [if_neg (h (k : Int) (by omega) (by omega))]
theorem least_yes {P : Int → Prop} {k : Nat} (h : leastN P k = none) (hp : P (k : Int)) : ∀ {m : Nat}, k < m → leastN P m = some (k : Int)
  | 0, hm => by omega
  | m + 1, hm => by
    rw [leastN]
    by_cases e : k = m
    · subst e
      rw [h]
      exact if_pos hp
    · rw [least_yes h hp (by omega)]
noncomputable def ordF (L : List Lk) (N : Nat) : Nat → List Int → List Int
  | 0, told => told
  | k + 1, told => match leastN (rdyN L told) N with
    | none => told
    | some n => ordF L N k (told ++ [n])
noncomputable def ordG (L : List Lk) (N : Nat) : List Int := ordF L N (N + 1) []
structure Told (L : List Lk) (told : List Int) : Prop where
  nd : told.Nodup
  nod : ∀ n ∈ told, isN L n ∧ ¬ cycN L n
  behind : ∀ (i : Nat) (n : Int), told[i]? = some n → ∀ x ∈ L, x.at_ = n → ∀ r ∈ x.rd, isN L r → ¬ cycN L r → r ∈ told.take i
theorem Told.nil (L : List Lk) : Told L [] := ⟨List.nodup_nil, fun n h => (by cases h), fun i n h => (by cases h)⟩
theorem Told.next {L : List Lk} {told : List Int} (h : Told L told) {n : Int} (hr : rdyN L told n) : Told L (told ++ [n]) where
  nd := List.nodup_append.2 ⟨h.nd, by simp, fun a ha b hb e => by
    obtain rfl : b = n := by simpa using hb
    exact hr.2.2.1 (e ▸ ha)⟩
  nod := fun m hm => by
    rcases List.mem_append.1 hm with q | q
    · exact h.nod m q
    · obtain rfl : m = n := by simpa using q
      exact ⟨hr.1, hr.2.1⟩
  behind := fun i m hi x hx hxm r hrr h1 h2 => by
    by_cases q : i < told.length
    · rw [List.getElem?_append_left q] at hi
      have := h.behind i m hi x hx hxm r hrr h1 h2
      rw [List.take_append_of_le_length (by omega)]
      exact this
    · have hi1 := (List.getElem?_eq_some_iff.1 hi).1
      rw [List.length_append, List.length_singleton] at hi1
      obtain rfl : i = told.length := by omega
      rw [List.getElem?_append_right (Nat.le_refl _), Nat.sub_self] at hi
      obtain rfl : n = m := by simpa using hi
      rw [List.take_append_of_le_length (Nat.le_refl _), List.take_length]
      exact hr.2.2.2 x hx hxm r hrr h1 h2
theorem told_len {L : List Lk} (hk : OkK L) {told : List Int} (h : Told L told) : told.length ≤ 1024 := by
  have hs : told.length ≤ (nodesG L 1024).length := by
    have hp : ((nodesG L 1024).filter fun n => decide (n ∈ told)).Perm told := by
      refine (List.perm_ext_iff_of_nodup ((upto_nodup _ _).filter _) h.nd).2 fun n => ?_
      rw [List.mem_filter]
      exact ⟨fun q => by simpa using q.2, fun q => ⟨(nodesG_mem hk).2 (h.nod n q).1, by simpa using q⟩⟩
    rw [← hp.length_eq]
    exact List.length_filter_le _ _
  exact Nat.le_trans hs (upto_len _ _)
theorem ordF_told {L : List Lk} {N : Nat} : ∀ (k : Nat) {told : List Int}, Told L told → Told L (ordF L N k told)
  | 0, _, h => h
  | k + 1, told, h => by
    rw [ordF]
    cases e : leastN (rdyN L told) N with
    | none => exact h
    | some n => exact ordF_told k (h.next (least_some e).2.2)
theorem told_all {L : List Lk} {told : List Int} (hn : ∀ n, ¬ rdyN L told n) : ∀ n, isN L n → ¬ cycN L n → n ∈ told := by
  let U : Int → Prop := fun n => isN L n ∧ ¬ cycN L n ∧ n ∉ told
  have step : ∀ u, U u → ∃ r, U r ∧ Hng L [r] u := fun u hu => by
    have h1 := hn u
    have h2 : ¬ ∀ x ∈ L, x.at_ = u → ∀ r ∈ x.rd, isN L r → ¬ cycN L r → r ∈ told := fun q => h1 ⟨hu.1, hu.2.1, hu.2.2, q⟩
    obtain ⟨x, q⟩ := Classical.not_forall.1 h2
    obtain ⟨hx, q⟩ := Classical.not_imp.1 q
    obtain ⟨hxu, q⟩ := Classical.not_imp.1 q
    obtain ⟨r, q⟩ := Classical.not_forall.1 q
    obtain ⟨hr, q⟩ := Classical.not_imp.1 q
    obtain ⟨h3, q⟩ := Classical.not_imp.1 q
    obtain ⟨h4, h5⟩ := Classical.not_imp.1 q
    exact ⟨r, ⟨h3, h4, h5⟩, hxu ▸ .now x hx r hr (List.mem_singleton.2 rfl)⟩
  have key : ∀ (k : Nat) (u : Int), U u → ((L.map Lk.at_).filter fun v => haveI := Classical.propDecidable (Hng L [v] u); decide (Hng L [v] u)).length ≤ k → False := by
    intro k
    induction k with
    | zero =>
      intro u hu hl
      obtain ⟨r, hr, hh⟩ := step u hu
      obtain ⟨x, hx, hxr⟩ := hr.1
      have hm : r ∈ ((L.map Lk.at_).filter fun v => haveI := Classical.propDecidable (Hng L [v] u); decide (Hng L [v] u)) := by
        rw [List.mem_filter]
        exact ⟨List.mem_map.2 ⟨x, hx, hxr⟩, by simpa using hh⟩
      have := List.length_pos_of_mem hm
      omega
    | succ k ih =>
      intro u hu hl
      obtain ⟨r, hr, hh⟩ := step u hu
      obtain ⟨x, hx, hxr⟩ := hr.1
      refine ih r hr ?_
      have hlt : ((L.map Lk.at_).filter fun v => haveI := Classical.propDecidable (Hng L [v] r); decide (Hng L [v] r)).length < ((L.map Lk.at_).filter fun v => haveI := Classical.propDecidable (Hng L [v] u); decide (Hng L [v] u)).length := by
        rw [← List.countP_eq_length_filter, ← List.countP_eq_length_filter]
        have hle : ∀ l : List Int, l.countP (fun v => haveI := Classical.propDecidable (Hng L [v] r); decide (Hng L [v] r)) ≤ l.countP (fun v => haveI := Classical.propDecidable (Hng L [v] u); decide (Hng L [v] u)) := fun l => List.countP_mono_left fun v _ hv => by
          have hv : Hng L [v] r := by simpa using hv
          simpa using hng_trans hh hv
        obtain ⟨l1, l2, hl12⟩ := List.append_of_mem (List.mem_map.2 ⟨x, hx, hxr⟩ : r ∈ L.map Lk.at_)
        rw [hl12, List.countP_append, List.countP_append, List.countP_cons, List.countP_cons]
        have h1 := hle l1
        have h2 := hle l2
        have h3 : ¬ Hng L [r] r := hr.2.1
        simp only [h3, hh, decide_true, decide_false, if_true, Bool.false_eq_true, if_false]
        omega
      omega
  intro n h1 h2
  exact Classical.byContradiction fun h3 => key _ n ⟨h1, h2, h3⟩ (Nat.le_refl _)
theorem ordF_end {L : List Lk} (hk : OkK L) : ∀ (k : Nat) {told : List Int}, Told L told → 1025 ≤ k + told.length → leastN (rdyN L (ordF L 1024 k told)) 1024 = none
  | 0, told, h, hl => by have := told_len hk h; omega
  | k + 1, told, h, hl => by
    rw [ordF]
    cases e : leastN (rdyN L told) 1024 with
    | none => exact e
    | some n => exact ordF_end hk k (h.next (least_some e).2.2) (by rw [List.length_append, List.length_singleton]; omega)
theorem ordG_told (L : List Lk) (N : Nat) : Told L (ordG L N) := ordF_told _ (Told.nil L)
theorem ordG_all {L : List Lk} (hk : OkK L) {N : Nat} (hN : N = 1024) {n : Int} : n ∈ ordG L N ↔ isN L n ∧ ¬ cycN L n := by
  subst hN
  refine ⟨fun h => (ordG_told L 1024).nod n h, fun h => ?_⟩
  have he := ordF_end hk 1025 (Told.nil L) (by simp)
  exact told_all (fun m hm => least_none.1 he m (node_range hk hm.1).1 (node_range hk hm.1).2 hm) n h.1 h.2
theorem ord_cyc_len {L : List Lk} (hk : OkK L) (hd : DisL L) {N : Nat} (hN : N = 1024) : (ordG L N).length + (cycG L N).length = L.length := by
  rw [← nodes_len hk hd]
  have hp : (ordG L N ++ cycG L N).Perm (nodesG L 1024) := by
    refine (List.perm_ext_iff_of_nodup (List.nodup_append.2 ⟨(ordG_told L N).nd, upto_nodup _ _, fun a ha b hb e => ?_⟩) (upto_nodup _ _)).2 fun n => ?_
    · subst e
      have h1 := ((ordG_all hk hN).1 ha).2
      subst hN
      exact h1 ((cycG_mem hk).1 hb)
    · subst hN
      show n ∈ ordG L 1024 ++ cycG L 1024 ↔ n ∈ nodesG L 1024
      rw [List.mem_append, ordG_all hk rfl, nodesG_mem hk, cycG_mem hk]
      constructor
      · rintro (h | h)
        · exact h.1
        · exact hng_node h
      · intro h
        by_cases q : cycN L n
        · exact .inr q
        · exact .inl ⟨h, q⟩
  rw [← hp.length_eq, List.length_append]
end Go.Proofs.Ytbppkflgokfjhaa
namespace Go.Proofs.Ytbppkflgokfjhaa
theorem hang_done {L : List Lk} {on found : List Int} (h1 : ∀ n ∈ found, Hng L on n) (hc : ∀ x ∈ L, (∃ r ∈ x.rd, r ∈ on ∨ r ∈ found) → x.at_ ∈ found) (n : Int) : n ∈ found ↔ Hng L on n :=
  ⟨h1 n, fun h => hng_closed (P := fun n => n ∈ found) hc h⟩
theorem found_len {L : List Lk} {found : List Int} (hd : found.Nodup) (h : ∀ n ∈ found, isN L n) : found.length ≤ L.length := by
  have hsub : ∀ n ∈ found, n ∈ L.map Lk.at_ := fun n hn => by
    obtain ⟨x, hx, e⟩ := h n hn
    exact List.mem_map.2 ⟨x, hx, e⟩
  have key : ∀ (l m : List Int), l.Nodup → (∀ n ∈ l, n ∈ m) → l.length ≤ m.length := by
    intro l
    induction l with
    | nil => intro m _ _; exact Nat.zero_le _
    | cons a l ih =>
      intro m hn hs
      obtain ⟨h1, h2⟩ := List.nodup_cons.1 hn
      have ha : a ∈ m := hs a List.mem_cons_self
      have := ih (m.erase a) h2 fun n hnl => (List.mem_erase_of_ne (fun e => h1 (by rw [← e]; exact hnl))).2 (hs n (List.mem_cons_of_mem _ hnl))
      rw [List.length_erase_of_mem ha] at this
      have hp := List.length_pos_of_mem ha
      rw [List.length_cons]; omega
  have := key found (L.map Lk.at_) hd hsub
  rwa [List.length_map] at this
theorem least_first {L : List Lk} (hk : OkK L) {P : Int → Prop} (hP : ∀ m, P m → isN L m) {i : Nat} {n : Int} (hn : (nodesG L 1024)[i]? = some n) (hno : ∀ m ∈ (nodesG L 1024).take i, ¬ P m) (hp : P n) : leastN P 1024 = some n := by
  have hr := node_range hk (hP n hp)
  obtain ⟨k, rfl⟩ : ∃ k : Nat, n = (k : Int) := ⟨n.toNat, by omega⟩
  refine least_yes (least_none.2 fun m h0 h1 hm => ?_) hp (by omega)
  obtain ⟨j, hj⟩ := List.mem_iff_getElem?.1 ((nodesG_mem hk).2 (hP m hm))
  have hji : j < i := by
    have h2 := upto_rise (isN L) 1024
    obtain ⟨hj1, ej⟩ := List.getElem?_eq_some_iff.1 hj
    obtain ⟨hi1, ei⟩ := List.getElem?_eq_some_iff.1 hn
    by_cases q : j < i
    · exact q
    · have : i < j ∨ i = j := by omega
      rcases this with c | c
      · have := List.pairwise_iff_getElem.1 h2 i j hi1 hj1 c
        unfold nodesG at ei ej
        rw [ei, ej] at this
        omega
      · subst c
        rw [hn] at hj
        have := Option.some.inj hj
        omega
  exact hno m (List.mem_iff_getElem?.2 ⟨j, by rw [List.getElem?_take, if_pos hji]; exact hj⟩) hm
theorem least_nothing {L : List Lk} (hk : OkK L) {P : Int → Prop} (hP : ∀ m, P m → isN L m) (hno : ∀ m ∈ nodesG L 1024, ¬ P m) : leastN P 1024 = none :=
  least_none.2 fun m _ _ hm => hno m ((nodesG_mem hk).2 (hP m hm)) hm
theorem ordF_some {L : List Lk} {N k : Nat} {told : List Int} {n : Int} (h : leastN (rdyN L told) N = some n) : ordF L N (k + 1) told = ordF L N k (told ++ [n]) := by rw [ordF, h]
theorem ordF_none {L : List Lk} {N k : Nat} {told : List Int} (h : leastN (rdyN L told) N = none) : ordF L N k told = told := by
  cases k with
  | zero => rfl
  | succ k => rw [ordF, h]
end Go.Proofs.Ytbppkflgokfjhaa
namespace Go.Proofs.Ytbppkflgokfjhaa
open Go.RowKit
theorem grown_of_below {w w' : World} (h : Below w.heap.size w w') (row : Option Nat) : w.grownBy w' row := ⟨h.os, h.tape, h.output, h.size, fun i hi _ => h.block i hi⟩
theorem own_below {w w' : World} {base : Nat} {e : TypeId} {size : Nat} {v : Value} {n : Nat} {xs : List Value} (h : w.ownsRow base e size v n xs) (hb : Below w.heap.size w w') : w'.ownsRow base e size v n xs :=
  h.kept (grown_of_below hb none) (by cases v.ownBlock <;> simp)
def Stop (P : Prop) : Prop := P
theorem of_stop {P : Prop} (h : Stop P) : P := h
theorem stop_of {P : Prop} (h : P) : Stop P := h
end Go.Proofs.Ytbppkflgokfjhaa
