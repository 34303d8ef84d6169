/- Texts joined: NdJ. -/
import Derived.Test.YtjgjacihdggimaaGreatDoorDk07
import Derived.Test.YtjgjacihdggimaaGreatDoorDk03
import Derived.Test.YtjgjacihdggimaaGreatDoorDk05
import Derived.Test.YtjgjacihdggimaaGreatDoorDk06
set_option linter.all false
namespace Go.Proofs.YtjgjacihdggimaaGreatDoor
open Go.RowKit
theorem heapA_new (w : World) (X Y : Obj) : ((w.alloc X).alloc Y).heap[w.heap.size + 1]? = some Y := by
  have := (MapKept.heap_alloc (w.alloc X) Y).1
  simpa using this
theorem heapA_old (w : World) (X Y : Obj) : ((w.alloc X).alloc Y).heap[w.heap.size]? = some X := by
  rw [Below.heap_alloc (w.alloc X) Y w.heap.size (by simp)]
  exact (MapKept.heap_alloc w X).1
theorem fr4 {W w6 : World} {row : Option Nat} {X : Nat} {a b c d : Value} {T : TypeId} (hg : W.grownBy w6 row) (hh : W.heap[X]? = some (.cells #[a, b, c, d] T (0, 0))) (hne : some X ≠ row) :
    w6.heap[X]? = some (.cells #[a, b, c, d] T (0, 0)) ∧ w6.cell? ⟨X, 0, none⟩ = some a ∧ w6.cell? ⟨X, 1, none⟩ = some b ∧ w6.cell? ⟨X, 2, none⟩ = some c ∧ w6.cell? ⟨X, 3, none⟩ = some d ∧ X < w6.heap.size ∧ ∀ j, w6.frozen? ⟨X, j, none⟩ = false := by
  have hX : X < W.heap.size := (Array.getElem?_eq_some_iff.1 hh).1
  have h6 := (hg.block X hX hne).trans hh
  refine ⟨h6, by rw [Lib.cell_of_heap h6 0]; rfl, by rw [Lib.cell_of_heap h6 1]; rfl, by rw [Lib.cell_of_heap h6 2]; rfl, by rw [Lib.cell_of_heap h6 3]; rfl, Nat.lt_of_lt_of_le hX hg.size, fun j => by simp [World.frozen?, h6]⟩
theorem frozen_of {w : World} {X : Nat} {cs : Array Value} {T : TypeId} (h : w.heap[X]? = some (.cells cs T (0, 0))) (j : Nat) : w.frozen? ⟨X, j, none⟩ = false := by simp [World.frozen?, h]
theorem nl_al {n : Nat} {w : World} {o : Obj} (h : n ≤ w.heap.size) : n ≤ (w.alloc o).heap.size := by simp; omega
theorem nl_d {n : Nat} {w : World} (h : n ≤ w.heap.size) : n ≤ w.drew.heap.size := h
theorem nl_s {n : Nat} {w : World} {p : Addr} {u : Value} (h : n ≤ w.heap.size) : n ≤ (w.setCell p u).heap.size := by simpa using h
theorem row_atR {w : World} {g o : Nat} {l : List Int} (h : ∀ (i : Nat) (x : Int), l[i]? = some x → w.cell? ⟨g, o + i, none⟩ = some (.int .i64 x)) : AtR inW 1 w g o l := fun i b hi j u hj => by
  cases j with
  | succ j => simp [inW] at hj
  | zero =>
    obtain rfl : Value.int .i64 b = u := by simpa [inW] using hj
    have := h i b hi
    rwa [Nat.mul_one, Nat.add_zero]
structure CutX (w wx : World) (n : Nd) (X : Nat) (C : Option Addr) (cc : Nat) : Prop where
  x0 : wx.cell? ⟨X, 0, none⟩ = some (.int .i64 n.kind)
  x1 : wx.cell? ⟨X, 1, none⟩ = some (.slice none 0 0)
  x2 : wx.cell? ⟨X, 2, none⟩ = some (.slice C n.nums.length cc)
  x3 : wx.cell? ⟨X, 3, none⟩ = some (.string ⟨n.text.toArray⟩)
  fx : wx.frozen? ⟨X, 1, none⟩ = false
  lo : w.heap.size ≤ X
  hi : X < wx.heap.size
  below : Below w.heap.size w wx
  nums : RowI wx (fun g => w.heap.size ≤ g ∧ g ≠ X) C n.nums
theorem cells_set4 {w : World} {X : Nat} {cs : Array Value} {T : TypeId} (h : w.heap[X]? = some (.cells cs T (0, 0))) (hs : cs.size = 4) (a b c d : Value) :
    ((((w.setCell ⟨X, 0, none⟩ a).setCell ⟨X, 1, none⟩ b).setCell ⟨X, 2, none⟩ c).setCell ⟨X, 3, none⟩ d).cell? ⟨X, 0, none⟩ = some a ∧ ((((w.setCell ⟨X, 0, none⟩ a).setCell ⟨X, 1, none⟩ b).setCell ⟨X, 2, none⟩ c).setCell ⟨X, 3, none⟩ d).cell? ⟨X, 1, none⟩ = some b ∧
    ((((w.setCell ⟨X, 0, none⟩ a).setCell ⟨X, 1, none⟩ b).setCell ⟨X, 2, none⟩ c).setCell ⟨X, 3, none⟩ d).cell? ⟨X, 2, none⟩ = some c ∧ ((((w.setCell ⟨X, 0, none⟩ a).setCell ⟨X, 1, none⟩ b).setCell ⟨X, 2, none⟩ c).setCell ⟨X, 3, none⟩ d).cell? ⟨X, 3, none⟩ = some d ∧
    ((((w.setCell ⟨X, 0, none⟩ a).setCell ⟨X, 1, none⟩ b).setCell ⟨X, 2, none⟩ c).setCell ⟨X, 3, none⟩ d).frozen? ⟨X, 1, none⟩ = false := by
  have q : ∀ j, j < 4 → ∃ u, w.cell? ⟨X, j, none⟩ = some u := fun j hj => ⟨_, (Lib.cell_of_heap h j).trans (Array.getElem?_eq_getElem (by omega))⟩
  obtain ⟨u0, q0⟩ := q 0 (by decide)
  obtain ⟨u1, q1⟩ := q 1 (by decide)
  obtain ⟨u2, q2⟩ := q 2 (by decide)
  obtain ⟨u3, q3⟩ := q 3 (by decide)
  have n01 : (⟨X, 0, none⟩ : Addr) ≠ ⟨X, 1, none⟩ := by simp
  have n02 : (⟨X, 0, none⟩ : Addr) ≠ ⟨X, 2, none⟩ := by simp
  have n03 : (⟨X, 0, none⟩ : Addr) ≠ ⟨X, 3, none⟩ := by simp
  have n12 : (⟨X, 1, none⟩ : Addr) ≠ ⟨X, 2, none⟩ := by simp
  have n13 : (⟨X, 1, none⟩ : Addr) ≠ ⟨X, 3, none⟩ := by simp
  have n23 : (⟨X, 2, none⟩ : Addr) ≠ ⟨X, 3, none⟩ := by simp
  refine ⟨?_, ?_, ?_, ?_, ?_⟩
  · rw [World.cell?_setCell_other _ _ _ _ n03.symm, World.cell?_setCell_other _ _ _ _ n02.symm, World.cell?_setCell_other _ _ _ _ n01.symm]
    exact World.cell?_setCell_same _ _ _ q0
  · rw [World.cell?_setCell_other _ _ _ _ n13.symm, World.cell?_setCell_other _ _ _ _ n12.symm]
    exact World.cell?_setCell_same _ _ _ (by rw [World.cell?_setCell_other _ _ _ _ n01]; exact q1)
  · rw [World.cell?_setCell_other _ _ _ _ n23.symm]
    exact World.cell?_setCell_same _ _ _ (by rw [World.cell?_setCell_other _ _ _ _ n12, World.cell?_setCell_other _ _ _ _ n02]; exact q2)
  · exact World.cell?_setCell_same _ _ _ (by rw [World.cell?_setCell_other _ _ _ _ n23, World.cell?_setCell_other _ _ _ _ n13, World.cell?_setCell_other _ _ _ _ n03]; exact q3)
  · rw [World.frozen?_setCell, World.frozen?_setCell, World.frozen?_setCell, World.frozen?_setCell]
    simp [World.frozen?, h]
theorem cutX_done {w wz : World} {n : Nd} {X g cc : Nat} {cs : Array Value} {T : TypeId} (h : wz.heap[X]? = some (.cells cs T (0, 0))) (hs : cs.size = 4) (hlo : w.heap.size ≤ X) (hb : Below w.heap.size w wz) (hg : w.heap.size ≤ g) (hgl : g < wz.heap.size) (hgX : g ≠ X)
    (hr : AtR inW 1 wz g 0 n.nums) : CutX w ((((wz.setCell ⟨X, 0, none⟩ (.int .i64 n.kind)).setCell ⟨X, 1, none⟩ (.slice none 0 0)).setCell ⟨X, 2, none⟩ (.slice (some ⟨g, 0, none⟩) n.nums.length cc)).setCell ⟨X, 3, none⟩ (.string ⟨n.text.toArray⟩)) n X (some ⟨g, 0, none⟩) cc := by
  obtain ⟨c0, c1, c2, c3, f1⟩ := cells_set4 h hs (.int .i64 n.kind) (.slice none 0 0) (.slice (some ⟨g, 0, none⟩) n.nums.length cc) (.string ⟨n.text.toArray⟩)
  refine ⟨c0, c1, c2, c3, f1, hlo, Lib.lt_of_cell c0, (((hb.setCell hlo _).setCell hlo _).setCell hlo _).setCell hlo _, .inr ⟨g, 0, rfl, ⟨hg, hgX⟩, by simpa using hgl, fun i x hi => ?_⟩⟩
  have hne : ∀ j k, (⟨X, j, none⟩ : Addr) ≠ ⟨g, k, none⟩ := fun j k e => hgX (by cases e; rfl)
  rw [World.cell?_setCell_other _ _ _ _ (hne _ _), World.cell?_setCell_other _ _ _ _ (hne _ _), World.cell?_setCell_other _ _ _ _ (hne _ _), World.cell?_setCell_other _ _ _ _ (hne _ _)]
  exact atR_row hr i x hi
theorem cutX_new {w wz : World} {n : Nd} {g cc : Nat} {T : TypeId} (hb : Below w.heap.size w wz) (hg : w.heap.size ≤ g) (hgl : g < wz.heap.size)
    (hr : AtR inW 1 wz g 0 n.nums) : CutX w (wz.alloc (.cells #[.int .i64 n.kind, .slice none 0 0, .slice (some ⟨g, 0, none⟩) n.nums.length cc, .string ⟨n.text.toArray⟩] T)) n wz.heap.size (some ⟨g, 0, none⟩) cc := by
  refine ⟨by simp [go_sem], by simp [go_sem], by simp [go_sem], by simp [go_sem], by simp [go_sem], hb.size, by simp, hb.alloc hb.size _, .inr ⟨g, 0, rfl, ⟨hg, by omega⟩, by simp; omega, fun i x hi => ?_⟩⟩
  exact keep_cell ((Below.refl _ _).alloc (Nat.le_refl _) _) (atR_row hr i x hi)
structure Grew (nds : List Nd) (bs : List Bool) (nds' : List Nd) (bs' : List Bool) : Prop where
  len : bs.length ≤ bs'.length
  same : ∀ j : Nat, bs[j]? = some true → bs'[j]? = some true ∧ nds'[j]? = nds[j]?
theorem Grew.refl (nds : List Nd) (bs : List Bool) : Grew nds bs nds bs := ⟨Nat.le_refl _, fun _ h => ⟨h, rfl⟩⟩
theorem Grew.trans {a c e : List Nd} {b d f : List Bool} (h : Grew a b c d) (k : Grew c d e f) : Grew a b e f :=
  ⟨Nat.le_trans h.len k.len, fun j hj => ⟨(k.same j (h.same j hj).1).1, ((k.same j (h.same j hj).1).2).trans (h.same j hj).2⟩⟩
theorem Grew.put {nds : List Nd} {bs : List Bool} {i : Nat} (h : bs[i]? = some false) (x : Nd) : Grew nds bs (nds.set i x) (bs.set i true) :=
  ⟨by rw [List.length_set]; exact Nat.le_refl _, fun j hj => by
    have e : i ≠ j := fun e => by subst e; rw [h] at hj; cases hj
    rw [List.getElem?_set_ne e, List.getElem?_set_ne e]
    exact ⟨hj, rfl⟩⟩
theorem Grew.snoc {nds : List Nd} {bs : List Bool} (hl : nds.length = bs.length) (d : Nd) (b : Bool) : Grew nds bs (nds ++ [d]) (bs ++ [b]) :=
  ⟨by simp, fun j hj => by
    have := (List.getElem?_eq_some_iff.1 hj).1
    rw [List.getElem?_append_left (by omega), List.getElem?_append_left (by omega)]
    exact ⟨hj, rfl⟩⟩
def OneP (w : World) (P : Nat → Prop) (m gN gB room : Nat) (nds : List Nd) (bs : List Bool) (x : Nd) (e : Ending) (w' : World) : Prop :=
  (∃ k gN' cN' gB' cB' nds' bs', oneA room (stOf nds bs) x = some (stOf nds' bs', k) ∧ e = .returned (.tuple #[.int .i64 k, .int .i64 0]) ∧ RM w' (fun g => P g ∨ w.heap.size ≤ g) m gN' cN' gB' cB' room nds' bs' ∧ Grew nds bs nds' bs' ∧ ButS (fun g => g = m ∨ g = gN ∨ g = gB) w w' ∧ (gN' = gN ∨ w.heap.size ≤ gN') ∧ (gB' = gB ∨ w.heap.size ≤ gB'))
  ∨ (oneA room (stOf nds bs) x = none ∧ e = .returned (.tuple #[.int .i64 0, .int .i64 3]) ∧ Below w.heap.size w w')
structure LoopX (W0 wc wr : World) (n : Nd) (X : Nat) (C : Option Addr) (cc : Nat) (v : Value) (L : List Int) : Prop where
  below : Below W0.heap.size W0 wr
  size : wc.heap.size ≤ wr.heap.size
  x0 : wr.cell? ⟨X, 0, none⟩ = some (.int .i64 n.kind)
  x1 : wr.cell? ⟨X, 1, none⟩ = some v
  x2 : wr.cell? ⟨X, 2, none⟩ = some (.slice C n.nums.length cc)
  x3 : wr.cell? ⟨X, 3, none⟩ = some (.string ⟨n.text.toArray⟩)
  fx : wr.frozen? ⟨X, 1, none⟩ = false
  nums : RowI wr (fun g => W0.heap.size ≤ g ∧ g < wc.heap.size ∧ g ≠ X) C n.nums
  own : OwnR 3 1 inW wc.heap.size wr v L
theorem CutX.loop {w wx : World} {n : Nd} {X : Nat} {C : Option Addr} {cc : Nat} (h : CutX w wx n X C cc) : LoopX w wx wx n X C cc (.slice none 0 0) [] :=
  ⟨h.below, Nat.le_refl _, h.x0, h.x1, h.x2, h.x3, h.fx, h.nums.mono fun _ hg hl => ⟨hg.1, hl, hg.2⟩, World.ownsRow_nil _ _ _ _⟩
theorem LoopX.next {W0 wc wr w2 : World} {n : Nd} {X : Nat} {C : Option Addr} {cc : Nat} {v : Value} {L L' : List Int} {y : Int} {T : TypeId} {g N k : Nat} (h : LoopX W0 wc wr n X C cc v L) (hlo : W0.heap.size ≤ X) (hX : X < wc.heap.size)
    (hg : (wr.alloc (.cells #[.int .i64 y] T)).grownBy w2 v.ownBlock) (ho : OwnR 3 1 inW wc.heap.size w2 (.slice (some ⟨g, 0, none⟩) N k) L') :
    LoopX W0 wc (w2.setCell ⟨X, 1, none⟩ (.slice (some ⟨g, 0, none⟩) N k)) n X C cc (.slice (some ⟨g, 0, none⟩) N k) L' := by
  have hne : some X ≠ v.ownBlock := fun e => by have := (World.ownsRow.lt h.own X e.symm).1; omega
  have hXr : X < wr.heap.size := Lib.lt_of_cell h.x0
  have hbl : w2.heap[X]? = wr.heap[X]? := (hg.block X (by simp; omega) hne).trans (Below.heap_alloc wr _ X hXr)
  have cell : ∀ j u, wr.cell? ⟨X, j, none⟩ = some u → w2.cell? ⟨X, j, none⟩ = some u := fun j u hu => by rw [World.cell?_of_block (w := wr) hbl]; exact hu
  have hgX : g ≠ X := by have := (World.ownsRow.lt ho g rfl).1; omega
  have hb2 : Below wc.heap.size wr w2 := ((Below.refl _ _).alloc h.size _).grown hg (by have := h.size; simp; omega) (fun k hk => (World.ownsRow.lt h.own k hk).1)
  refine ⟨((h.below.trans (hb2.mono (by omega))).setCell hlo _), ?_, ?_, World.cell?_setCell_same _ _ _ (cell 1 _ h.x1), ?_, ?_, ?_, ?_, ?_⟩
  · have := hb2.size; have := h.size; simp; omega
  · rw [World.cell?_setCell_other _ _ _ _ (by simp)]; exact cell 0 _ h.x0
  · rw [World.cell?_setCell_other _ _ _ _ (by simp)]; exact cell 2 _ h.x2
  · rw [World.cell?_setCell_other _ _ _ _ (by simp)]; exact cell 3 _ h.x3
  · rw [World.frozen?_setCell, World.frozen?_of_block (w := wr) hbl]; exact h.fx
  · refine h.nums.kept ⟨by have := hb2.size; simpa using this, fun b hb hl => ?_⟩
    rw [Below.heap_setCell w2 ⟨X, 1, none⟩ _ b hb.2.2]
    exact hb2.block b hb.2.1
  · exact World.ownsRow.kept ho (grown_set _ _ _) (.inr (fun e => hgX (Option.some.inj e)))
theorem resolve_snoc {out : List Int} {l : List Int} {i : Nat} {r y : Int} (h : l[i]? = some r) (hy : resolve out r = y) : (l.take i).map (resolve out) ++ [y] = (l.take (i + 1)).map (resolve out) := by
  rw [List.take_add_one, h, List.map_append, ← hy]; rfl
theorem one_same {room : Nat} {s : Sh} {x : Nd} (h : fnd s x ≠ 0) : oneA room s x = some (s, (fnd s x : Int)) := by unfold oneA; rw [if_pos h]
theorem one_none {room : Nat} {s : Sh} {x : Nd} (h : fnd s x = 0) (hr : room < freeH s) : oneA room s x = none := by unfold oneA; rw [if_neg (by omega), if_pos hr]
theorem one_found {room : Nat} {nds : List Nd} {bs : List Bool} {x : Nd} {k : Nat} (hl : nds.length = bs.length) (h : fnd (stOf nds bs) x = 0) (hk : k + 1 < bs.length) (hf : freeH (stOf nds bs) = k + 1) (hr : k + 1 ≤ room) :
    oneA room (stOf nds bs) x = some (stOf (nds.set (k + 1) x) (bs.set (k + 1) true), (k : Int) + 1) := by
  unfold oneA
  rw [if_neg (by omega), hf, if_neg (by omega), st_set nds bs hl k hk x]
  unfold setH
  rw [if_pos (by rw [st_len hl]; omega)]
  rfl
theorem one_grow {room : Nat} {nds : List Nd} {bs : List Bool} {x : Nd} (hl : nds.length = bs.length) (h1 : 1 ≤ bs.length) (h : fnd (stOf nds bs) x = 0) (hf : freeH (stOf nds bs) = (stOf nds bs).length + 1) (hr : bs.length ≤ room) :
    oneA room (stOf nds bs) x = some (stOf ((nds ++ [nd0]).set bs.length x) ((bs ++ [false]).set bs.length true), (bs.length : Int)) := by
  have hs := st_len hl
  obtain ⟨j, hj⟩ : ∃ j, bs.length = j + 1 := ⟨bs.length - 1, by omega⟩
  unfold oneA
  rw [if_neg (by omega), hf, if_neg (by omega), hj, st_set (nds ++ [nd0]) (bs ++ [false]) (by simp [hl]) j (by simp; omega) x, st_snoc nds bs hl h1 nd0]
  unfold setH
  rw [if_neg (by omega), show j = (stOf nds bs).length by omega]
  simp
theorem st_dead {nds : List Nd} {bs : List Bool} {k : Nat} (hl : nds.length = bs.length) (hk : (stOf nds bs)[k]? = some none) : bs[k + 1]? = some false := by
  have hkl : k + 1 < bs.length := by have := (List.getElem?_eq_some_iff.1 hk).1; rw [st_len hl] at this; omega
  have h1 := List.getElem?_eq_getElem (l := bs) hkl
  have h2 := List.getElem?_eq_getElem (l := nds) (i := k + 1) (by omega)
  rw [h1]
  cases hb : bs[k + 1] with
  | false => rfl
  | true => have := st_at k h2 (by rw [h1, hb]); rw [hk] at this; cases this
theorem free_early {s : Sh} {k : Nat} (hf : freeH s = k + 1) : ∀ j : Nat, j < k → s[j]? ≠ some none := fun j hj hn => by
  have := freeH_below (s := s) (k := j + 1) (by omega) (by omega)
  rw [show ((j + 1 : Nat) : Int) = (j : Int) + 1 by omega] at this
  unfold live at this
  rw [ndAt_succ, hn] at this
  cases this
theorem cutX_e1 {w : World} {n : Nd} {T U : TypeId} (hn : n.nums = []) :
    CutX w ((w.alloc (.cells #[] T)).alloc (.cells #[.int .i64 n.kind, .slice none 0 0, .slice (some ⟨w.heap.size, 0, none⟩) 0 0, .string ⟨n.text.toArray⟩] U)).drew n (w.heap.size + 1) (some ⟨w.heap.size, 0, none⟩) 0 := by
  have e : n.nums.length = 0 := by rw [hn]; rfl
  have h := heapA_new w (.cells #[] T) (.cells #[.int .i64 n.kind, .slice none 0 0, .slice (some ⟨w.heap.size, 0, none⟩) 0 0, .string ⟨n.text.toArray⟩] U)
  exact ⟨Lib.cell_of_heap h 0, Lib.cell_of_heap h 1, by rw [e]; exact Lib.cell_of_heap h 2, Lib.cell_of_heap h 3, by rw [World.frozen?_drew]; exact frozen_of h 1, Nat.le_succ _, (Array.getElem?_eq_some_iff.1 h).1, Below.drew (((Below.refl _ _).alloc (Nat.le_refl _) _).alloc (by simp) _), .inl hn⟩
theorem cutX_e2 {w : World} {n : Nd} {T U : TypeId} (hn : n.nums = []) :
    CutX w ((w.alloc (.cells #[.int .i64 n.kind, .slice none 0 0, .slice (some ⟨w.heap.size + 1, 0, none⟩) 0 0, .string ⟨n.text.toArray⟩] U)).alloc (.cells #[] T)).drew n w.heap.size (some ⟨w.heap.size + 1, 0, none⟩) 0 := by
  have e : n.nums.length = 0 := by rw [hn]; rfl
  have h := heapA_old w (.cells #[.int .i64 n.kind, .slice none 0 0, .slice (some ⟨w.heap.size + 1, 0, none⟩) 0 0, .string ⟨n.text.toArray⟩] U) (.cells #[] T)
  exact ⟨Lib.cell_of_heap h 0, Lib.cell_of_heap h 1, by rw [e]; exact Lib.cell_of_heap h 2, Lib.cell_of_heap h 3, by rw [World.frozen?_drew]; exact frozen_of h 1, Nat.le_refl _, (Array.getElem?_eq_some_iff.1 h).1, Below.drew (((Below.refl _ _).alloc (Nat.le_refl _) _).alloc (by simp) _), .inl hn⟩
section
variable {w w' : World} {P : Nat → Prop} {m gN cN gB cB room : Nat} {nds : List Nd} {bs : List Bool}
set_option maxHeartbeats 16000000 in
set_option maxRecDepth 10000 in
theorem rone_any (h : RM w P m gN cN gB cB room nds bs) (n : Nd) (Q : Nat → Prop) (A B : Option Addr) (ca cb : Nat) (hA : RowI w Q A n.refs) (hB : RowI w Q B n.nums) (hn : n.nums.length ≤ 1000000) (hr : n.refs.length ≤ 1000000)
    (out : List Int) (O : Option Addr) (co : Nat) (hO : RowI w Q O out) (hol : out.length ≤ 1000000) (hrf : ∀ r ∈ n.refs, -(out.length : Int) ≤ r) :
    Calls Tryz.prog 54 #[.pointer (some ⟨m, 0, none⟩), ndV n A ca B cb, .slice O out.length co] w fun e w' => OneP w P m gN gB room nds bs (asPut out n) e w' := by
  obtain ⟨i0, hi0, hz0, hz1, hz2⟩ := info_parts int_info
  have HR := Lib.hid h
  have HA := Lib.hid hA
  have HBn := Lib.hid hB
  have HO := Lib.hid hO
  have HL := Lib.hid (fun w' (hb : Below (w.heap.size + 1) (w.alloc (.cells #[.int .i64 n.kind, .slice A n.refs.length ca, .slice B n.nums.length cb, .string ⟨n.text.toArray⟩] 110)) w') =>
    (show (w'.cell? ⟨w.heap.size, 0, none⟩ = some (.int .i64 n.kind) ∧ w'.cell? ⟨w.heap.size, 1, none⟩ = some (.slice A n.refs.length ca) ∧ w'.cell? ⟨w.heap.size, 2, none⟩ = some (.slice B n.nums.length cb) ∧ w'.cell? ⟨w.heap.size, 3, none⟩ = some (.string ⟨n.text.toArray⟩)) from ⟨by rw [hb.cell (by simp)]; simp [go_sem], by rw [hb.cell (by simp)]; simp [go_sem], by rw [hb.cell (by simp)]; simp [go_sem], by rw [hb.cell (by simp)]; simp [go_sem]⟩))
  have HB : Hid (Below (w.heap.size + 1) (w.alloc (.cells #[.int .i64 n.kind, .slice A n.refs.length ca, .slice B n.nums.length cb, .string ⟨n.text.toArray⟩] 110)) (w.alloc (.cells #[.int .i64 n.kind, .slice A n.refs.length ca, .slice B n.nums.length cb, .string ⟨n.text.toArray⟩] 110))) := Lib.hid (Below.refl _ _)
  have HZ : Hid (w.heap.size + 1 ≤ (w.alloc (.cells #[.int .i64 n.kind, .slice A n.refs.length ca, .slice B n.nums.length cb, .string ⟨n.text.toArray⟩] 110)).heap.size) := Lib.hid (by simp)
  have HW : Hid (Below w.heap.size w (w.alloc (.cells #[.int .i64 n.kind, .slice A n.refs.length ca, .slice B n.nums.length cb, .string ⟨n.text.toArray⟩] 110))) := Lib.hid ((Below.refl _ _).alloc (Nat.le_refl _) _)
  have hsz : (w.alloc (.cells #[.int .i64 n.kind, .slice A n.refs.length ca, .slice B n.nums.length cb, .string ⟨n.text.toArray⟩] 110)).heap.size = w.heap.size + 1 := by simp
  clear h hA hB hO
  unfold ndV
  go_enter Tryz.func54, Tryz.ntmps54
  go_wp2_with fail
  generalize w.alloc (.cells #[.int .i64 n.kind, .slice A n.refs.length ca, .slice B n.nums.length cb, .string ⟨n.text.toArray⟩] 110) = W0 at *
  go_cut [8] from 12 to 20 (fun s8 wx => ∃ X C cc, s8 = .pointer (some ⟨X, 0, none⟩) ∧ CutX W0 wx n X C cc)
  case first =>
    have HS := Lib.hid hsz
    rcases Nat.eq_zero_or_pos n.nums.length with e | hpos
    · have hnil : n.nums = [] := List.length_eq_zero_iff.1 e
      have HE := Lib.hid e
      have HNil := Lib.hid hnil
      simp only [e] at HL
      have HZ1 : Hid (w.heap.size + 1 ≤ W0.heap.size + 1) := Lib.hid (by omega)
      clear e hnil hsz
      go_region_held3 (fun w' => w'.cell? ⟨w.heap.size, 0, none⟩ = some (.int .i64 n.kind) ∧ w'.cell? ⟨w.heap.size, 1, none⟩ = some (.slice A n.refs.length ca) ∧ w'.cell? ⟨w.heap.size, 2, none⟩ = some (.slice B 0 cb) ∧ w'.cell? ⟨w.heap.size, 3, none⟩ = some (.string ⟨n.text.toArray⟩))
        (with_reducible exact HL.out _ (by with_reducible repeat' (first | exact HB.out | exact B6 | exact Z6 | exact Nat.le_refl _ | exact HZ.out | exact HZ1.out | refine Below.drew ?_ | refine Below.alloc ?_ ?_ _ | refine Below.setCell ?_ ?_ _ | refine nl_al ?_ | refine nl_s ?_ | refine nl_d ?_)))
        (first
        | (refine step_append_nothing (by rfl) _ _ _ (by rfl) 3 i0 Tryz.underlying54 hi0 _ _ _ (by rfl) (by rfl) ?_)
        | fail)
      all_goals
        go_wp2_with fail
        go_meet
        first
        | exact ⟨_, _, 0, rfl, cutX_e1 HNil.out⟩
        | exact ⟨_, _, 0, rfl, cutX_e2 HNil.out⟩
    · have hne : n.nums ≠ [] := by intro e; rw [e] at hpos; simp at hpos
      obtain ⟨g2, o2, rfl, hN⟩ : ∃ g2 o2, B = some ⟨g2, o2, none⟩ ∧ ∀ w', Below (w.heap.size + 1) W0 w' → AtR inW 1 w' g2 o2 n.nums := by
        rcases HBn.out with e | ⟨g2, o2, e, _, hl, hc⟩
        · exact absurd e hne
        · exact ⟨g2, o2, e, fun w' hb => row_atR fun i x hi => keep_cell (HW.out.trans (hb.mono (by omega))) (hc i x hi)⟩
      have HN := Lib.hid hN
      have HZ1 : Hid (w.heap.size + 1 ≤ W0.heap.size + 1) := Lib.hid (by omega)
      clear hN hne hsz
      go_region_held3 (fun w' => w'.cell? ⟨w.heap.size, 0, none⟩ = some (.int .i64 n.kind) ∧ w'.cell? ⟨w.heap.size, 1, none⟩ = some (.slice A n.refs.length ca) ∧ w'.cell? ⟨w.heap.size, 2, none⟩ = some (.slice (some ⟨g2, o2, none⟩) n.nums.length cb) ∧ w'.cell? ⟨w.heap.size, 3, none⟩ = some (.string ⟨n.text.toArray⟩))
        (with_reducible exact HL.out _ (by with_reducible repeat' (first | exact HB.out | exact B6 | exact Z6 | exact Nat.le_refl _ | exact HZ.out | exact HZ1.out | refine Below.drew ?_ | refine Below.alloc ?_ ?_ _ | refine Below.setCell ?_ ?_ _ | refine nl_al ?_ | refine nl_s ?_ | refine nl_d ?_)))
        (first
        | (refine step_append_rows (f := inW) (n := 1) (E := 3) (nb := 8) (X := ([] : List Int)) (base := W0.heap.size) (by rfl) _ _ (by rfl) (by rfl) (own_empty0 (by first | exact Nat.le_refl _ | (simp; done) | (simp; omega)) (by first | exact (MapKept.heap_alloc _ _).1 | exact heapA_new _ _ _ | exact heapA_old _ _ _)) (by rfl) (HN.out _ (by with_reducible repeat' (first | exact HB.out | exact B6 | exact Z6 | exact Nat.le_refl _ | exact HZ.out | exact HZ1.out | refine Below.drew ?_ | refine Below.alloc ?_ ?_ _ | refine Below.setCell ?_ ?_ _ | refine nl_al ?_ | refine nl_s ?_ | refine nl_d ?_))) hpos (N := n.nums.length) (by simp) (Z := n.nums) rfl Tryz.underlying54 hi0 hz0 hz1 hz2 rfl (by decide) (by decide) (fun _ => rfl) inW_one (by omega) (by first | (simp; done) | (simp; omega)) ?_; intro g6 k6 w6 hown6 hgrow6 hat6 hlt6
           have B6 : Below (w.heap.size + 1) W0 w6 := Below.grown (by with_reducible repeat' (first | exact HB.out | exact B6 | exact Z6 | exact Nat.le_refl _ | exact HZ.out | exact HZ1.out | refine Below.drew ?_ | refine Below.alloc ?_ ?_ _ | refine Below.setCell ?_ ?_ _ | refine nl_al ?_ | refine nl_s ?_ | refine nl_d ?_)) hgrow6 (by have := HS.out; first | (simp; done) | (simp; omega)) (fun k hk => by have e := own_of rfl hk; have hs := HS.out; (try simp at e); omega)
           have Z6 := Nat.le_trans HZ.out B6.size
           try (have yy := fr4 (X := W0.heap.size) hgrow6 (heapA_old _ _ _) (some_ne (g := W0.heap.size + 1) rfl (by omega)); have yh := yy.1; have y0 := yy.2.1; have y1 := yy.2.2.1; have y2 := yy.2.2.2.1; have y3 := yy.2.2.2.2.1; have yz := yy.2.2.2.2.2.1; have yf := yy.2.2.2.2.2.2; have yf0 := yf 0; have yf1 := yf 1; have yf2 := yf 2; have yf3 := yf 3; clear yy yf)
           try (have yy := fr4 (X := W0.heap.size + 1) hgrow6 (heapA_new _ _ _) (some_ne (g := W0.heap.size) rfl (by omega)); have yh := yy.1; have y0 := yy.2.1; have y1 := yy.2.2.1; have y2 := yy.2.2.2.1; have y3 := yy.2.2.2.2.1; have yz := yy.2.2.2.2.2.1; have yf := yy.2.2.2.2.2.2; have yf0 := yf 0; have yf1 := yf 1; have yf2 := yf 2; have yf3 := yf 3; clear yy yf)
           have hown6 := Lib.hid hown6)
        | fail)
      all_goals
        go_wp2_with fail
        go_meet
        have hlo := (World.ownsRow.lt hown6.out g6 rfl).1
        have hrow := OwnR.at (f := inW) (fun _ => rfl) hown6.out rfl
        have hb6 : Below W0.heap.size W0 w6 := Below.grown (by with_reducible repeat' (first | exact Below.refl _ _ | exact Nat.le_refl _ | refine Below.drew ?_ | refine Below.alloc ?_ ?_ _ | refine nl_al ?_ | refine nl_s ?_ | refine nl_d ?_)) hgrow6 (by with_reducible repeat' (first | exact Nat.le_refl _ | refine nl_al ?_ | refine nl_s ?_ | refine nl_d ?_)) (fun k hk => by have e := own_of rfl hk; (try simp at e); omega)
        first
        | exact ⟨_, _, _, rfl, cutX_new hb6 hlo hlt6 hrow⟩
        | exact ⟨_, _, _, rfl, cutX_done yh rfl (Nat.le_refl _) hb6 hlo hlt6 (by rcases hat6 with e | e; (have e := own_of rfl e; (try simp at e); omega); (simp at e; omega)) hrow⟩
        | exact ⟨_, _, _, rfl, cutX_done yh rfl (Nat.le_succ _) hb6 hlo hlt6 (by rcases hat6 with e | e; (have e := own_of rfl e; (try simp at e); omega); (simp at e; omega)) hrow⟩
  case rest =>
    obtain ⟨X, C, cc, rfl, hx⟩ := hcut
    have HXlo := Lib.hid hx.lo
    have HXhi := Lib.hid hx.hi
    have HLp := Lib.hid hx.loop
    have HWc := Lib.hid hx.below
    have hS := Lib.hid hsz
    have HRf := Lib.hid hrf
    have zX : w.heap.size ≠ X := by have := hx.lo; omega
    clear hx hsz hrf
    go_wp2_with fail
    go_loopw [9, 10] (fun vi _ wr => ∃ (i : Nat) (v : Value), i ≤ n.refs.length ∧ vi = .int .i64 (i : Int) ∧ Hid (LoopX W0 wc wr n X C cc v ((n.refs.take i).map (resolve out)))) (fun vi _ _ => n.refs.length - (RowKit.intOf vi).toNat)
    case atStart => exact ⟨0, _, Nat.zero_le _, rfl, HLp⟩
    case round =>
      obtain ⟨i, v, hi, rfl, HLo⟩ := hrel
      have hBr : Below (w.heap.size + 1) W0 wr := HLo.out.below.mono (by have := hS.out; omega)
      obtain ⟨p0, p1, p2, p3⟩ := HL.out _ hBr
      have x1 := HLo.out.x1
      have xl : X < wr.heap.size := Lib.lt_of_cell x1
      have hWr : Below w.heap.size w wr := HW.out.trans (HLo.out.below.mono (by have := hS.out; omega))
      have HWr := Lib.hid hWr
      clear hBr hWr
      by_cases hlt : i < n.refs.length
      · obtain ⟨gA, oA, rfl, _, _, hca⟩ := HA.out.at hlt
        obtain ⟨r, hrr⟩ : ∃ r, n.refs[i]? = some r := ⟨_, List.getElem?_eq_getElem hlt⟩
        have q0 := keep_cell HWr.out (hca i r hrr)
        have hrb := HRf.out r (List.mem_of_getElem? hrr)
        clear hca
        by_cases hneg : r < 0
        · obtain ⟨k, rfl⟩ : ∃ k : Nat, r = -1 - (k : Int) := ⟨(-1 - r).toNat, by omega⟩
          have hkl : k < out.length := by omega
          obtain ⟨gO, oO, rfl, _, _, hco⟩ := HO.out.at hkl
          obtain ⟨y, hy⟩ : ∃ y, out[k]? = some y := ⟨_, List.getElem?_eq_getElem hkl⟩
          have q1 := keep_cell HWr.out (hco k y hy)
          have hres : resolve out (-1 - (k : Int)) = y := by
            unfold resolve
            rw [if_pos (by omega), show (-1 - (-1 - (k : Int))).toNat = k by omega, List.getD_eq_getElem?_getD, hy]; rfl
          have HSn := Lib.hid (resolve_snoc hrr hres)
          have hwr : IntKind.i64.wrap (-1 - (-1 - (k : Int))) = (k : Int) := by rw [IntKind.wrap_i64]; omega
          have dneg : decide (-1 - (k : Int) < 0) = true := decide_eq_true (by omega)
          clear hrr hy hco hres hrb
          go_wp2_with (at_builtin; refine of_stop ?_)
          refine stop_of ?_
          refine wpList_append_rows (f := inW) (n := 1) (E := 3) (nb := 8) (X := (n.refs.take i).map (resolve out)) (base := wc.heap.size) rfl _ _ rfl rfl (OwnR.below HLo.out.own ((Below.refl _ _).alloc (Nat.le_refl _) _)) (L2 := [y]) rfl (one_row wr y) (by simp) (N := i + 1) (by rw [List.length_map, List.length_take]; simp; omega) (Z := (n.refs.take (i + 1)).map (resolve out)) HSn.out Tryz.underlying54 hi0 hz0 hz1 hz2 rfl (by decide) (by decide) (fun _ => rfl) inW_one (by omega) (by have := HLo.out.size; simp; omega) ?_
          intro g2 k2 w2 ho2 hg2 hat2 hl2
          have HNx := Lib.hid (HLo.out.next (n := n) HXlo.out HXhi.out hg2 ho2)
          have z1 : w2.cell? ⟨X, 1, none⟩ = some v := by
            have hne : some X ≠ v.ownBlock := fun e => by have h1 := (World.ownsRow.lt HLo.out.own X e.symm).1; have h2 := HXhi.out; omega
            rw [World.cell?_of_block (w := wr) ((hg2.block X (by have := Lib.lt_of_cell HLo.out.x0; simp; omega) hne).trans (Below.heap_alloc wr _ X (Lib.lt_of_cell HLo.out.x0)))]; exact HLo.out.x1
          have zf : w2.frozen? ⟨X, 1, none⟩ = false := by have := HNx.out.fx; rwa [World.frozen?_setCell] at this
          clear ho2 hg2 hat2 hl2
          go_wp2_with fail
          go_roundw
          case rel => exact ⟨i + 1, _, by omega, by go_num, HNx⟩
          case measure => simp [RowKit.intOf]; omega
        · have hres : resolve out r = r := by unfold resolve; rw [if_neg hneg]
          have HSn := Lib.hid (resolve_snoc hrr hres)
          have dneg : decide (r < 0) = false := decide_eq_false hneg
          clear hrr hres hrb
          go_wp2_with (at_builtin; refine of_stop ?_)
          refine stop_of ?_
          refine wpList_append_rows (f := inW) (n := 1) (E := 3) (nb := 8) (X := (n.refs.take i).map (resolve out)) (base := wc.heap.size) rfl _ _ rfl rfl (OwnR.below HLo.out.own ((Below.refl _ _).alloc (Nat.le_refl _) _)) (L2 := [r]) rfl (one_row wr r) (by simp) (N := i + 1) (by rw [List.length_map, List.length_take]; simp; omega) (Z := (n.refs.take (i + 1)).map (resolve out)) HSn.out Tryz.underlying54 hi0 hz0 hz1 hz2 rfl (by decide) (by decide) (fun _ => rfl) inW_one (by omega) (by have := HLo.out.size; simp; omega) ?_
          intro g2 k2 w2 ho2 hg2 hat2 hl2
          have HNx := Lib.hid (HLo.out.next (n := n) HXlo.out HXhi.out hg2 ho2)
          have z1 : w2.cell? ⟨X, 1, none⟩ = some v := by
            have hne : some X ≠ v.ownBlock := fun e => by have h1 := (World.ownsRow.lt HLo.out.own X e.symm).1; have h2 := HXhi.out; omega
            rw [World.cell?_of_block (w := wr) ((hg2.block X (by have := Lib.lt_of_cell HLo.out.x0; simp; omega) hne).trans (Below.heap_alloc wr _ X (Lib.lt_of_cell HLo.out.x0)))]; exact HLo.out.x1
          have zf : w2.frozen? ⟨X, 1, none⟩ = false := by have := HNx.out.fx; rwa [World.frozen?_setCell] at this
          clear ho2 hg2 hat2 hl2
          go_wp2_with fail
          go_roundw
          case rel => exact ⟨i + 1, _, by omega, by go_num, HNx⟩
          case measure => simp [RowKit.intOf]; omega
      · have hii : i = n.refs.length := by omega
        subst hii
        have hLe : (n.refs.take n.refs.length).map (resolve out) = n.refs.map (resolve out) := by rw [List.take_length]
        rw [hLe] at HLo
        clear x1
        obtain ⟨A', cA, rfl, hA'⟩ := own_rowI HLo.out.own
        have hA2 : RowI wr (fun _ => True) A' (asPut out n).refs := hA'.mono fun _ _ _ => trivial
        have hC2 : RowI wr (fun _ => True) C (asPut out n).nums := HLo.out.nums.mono fun _ _ _ => trivial
        have HF := Lib.hid (rFind_any (HR.out.below HWr.out) (asPut out n) _ A' C cA cc hA2 hC2)
        unfold ndV at HF
        have x0 : wr.cell? ⟨X, 0, none⟩ = some (.int .i64 (asPut out n).kind) := HLo.out.x0
        have x1 : wr.cell? ⟨X, 1, none⟩ = some (.slice A' (asPut out n).refs.length cA) := HLo.out.x1
        have x2 : wr.cell? ⟨X, 2, none⟩ = some (.slice C (asPut out n).nums.length cc) := HLo.out.x2
        have x3 : wr.cell? ⟨X, 3, none⟩ = some (.string ⟨(asPut out n).text.toArray⟩) := HLo.out.x3
        have HA' : Hid (RowI wr (fun g => wc.heap.size ≤ g) A' (asPut out n).refs) := Lib.hid hA'
        have HC' : Hid (RowI wr (fun g => W0.heap.size ≤ g ∧ g < wc.heap.size ∧ g ≠ X) C (asPut out n).nums) := Lib.hid HLo.out.nums
        have HWd : Hid ((asPut out n).refs.length ≤ 1000000 ∧ (asPut out n).nums.length ≤ 1000000) := Lib.hid ⟨by show (n.refs.map _).length ≤ _; rw [List.length_map]; exact hr, hn⟩
        have HSz := Lib.hid HLo.out.size
        clear hA' hA2 hC2 hLe HLo
        generalize hxe : asPut out n = x at *
        have HXe := Lib.hid hxe
        clear hxe
        go_wp2_with fail
        refine HF.out.mono ?_; rintro e w1 ⟨rfl, b1⟩
        have HW1 := Lib.hid (HWr.out.trans (b1.mono HWr.out.size))
        have HR1 := Lib.hid (HR.out.below HW1.out)
        have HX1 := Lib.hid (And.intro (keep_cell b1 x0) (And.intro (keep_cell b1 x1) (And.intro (keep_cell b1 x2) (keep_cell b1 x3))))
        have HA1 := Lib.hid (HA'.out.below b1)
        have HC1 := Lib.hid (HC'.out.below b1)
        have HZr := Lib.hid b1.size
        have hlen := HR1.out.len
        have hone := HR1.out.one
        have hcap := HR1.out.cap
        have hsm := HR1.out.small
        have HFl := Lib.hid (st_len hlen)
        clear b1 x0 x1 x2 x3 p0 p1 p2 p3 HF
        by_cases hf : fnd (stOf nds bs) x = 0
        · rw [hf]
          have Hf := Lib.hid hf
          rcases freeH_cases (stOf nds bs) with ⟨k, hk, hfk⟩ | ⟨hfl, hno⟩
          · have HFr := Lib.hid (rfree_found HR1.out hk (free_early hfk))
            have hkb : k + 1 < bs.length := by have := (List.getElem?_eq_some_iff.1 hk).1; rw [HFl.out] at this; omega
            have hhB : k + 1 < bs.length := hkb
            have hhN : k + 1 < nds.length := by omega
            have hI : (k : Int) + 1 < (nds.length : Int) := by omega
            have hI2 : (k : Int) + 1 < (bs.length : Int) := by omega
            have hI0 : (0 : Int) ≤ (k : Int) + 1 := by omega
            have dz : ((k : Int) + 1 == 0) = false := by simp; omega
            have hnl := HR1.out.lM
            have HNX : Hid (gN ≠ X ∧ gB ≠ X ∧ X ≠ m) := Lib.hid (by have h1 := HR.out.lN; have h2 := HR.out.lB; have h3 := HR.out.lM; have h4 := HXlo.out; have h5 := hS.out; exact ⟨by omega, by omega, by omega⟩)
            have Hk := Lib.hid (And.intro hk hfk)
            have HR2 := HR1
            obtain ⟨z0, z1, z2, z3⟩ := HX1.out
            clear hk hfk hkb hf
            go_wp2_with fail
            refine HFr.out.mono ?_; rintro e w2 ⟨rfl, rfl⟩
            have sc1 := HR2.out.c1
            have sc2 := HR2.out.c2
            obtain ⟨B', cb', C', cc', ⟨s0, s1, s2, s3⟩, _, _⟩ := HR2.out.rows (k + 1) _ (List.getElem?_eq_getElem hhN)
            have sb := HR2.out.bits (k + 1) _ (List.getElem?_eq_getElem hhB)
            have f0 := HR2.out.fN ((k + 1) * 4)
            have f1 := HR2.out.fN ((k + 1) * 4 + 1)
            have f2 := HR2.out.fN ((k + 1) * 4 + 2)
            have f3 := HR2.out.fN ((k + 1) * 4 + 3)
            have fb := HR2.out.fB (k + 1)
            have nNX : gN ≠ X := HNX.out.1
            have nBX : gB ≠ X := HNX.out.2.1
            have nMN := HR2.out.nMN
            have nMB := HR2.out.nMB
            have nNB := HR2.out.nNB
            have HSt := Lib.hid (fun w' (hb : ButS (fun g => g = gN) w2 w') => (show (w'.cell? ⟨m, 1, none⟩ = some (.slice (some ⟨gN, 0, none⟩) (nds).length cN) ∧ w'.cell? ⟨X, 0, none⟩ = some (.int .i64 x.kind) ∧ w'.cell? ⟨X, 1, none⟩ = some (.slice A' x.refs.length cA) ∧ w'.cell? ⟨X, 2, none⟩ = some (.slice C x.nums.length cc) ∧ w'.cell? ⟨X, 3, none⟩ = some (.string ⟨x.text.toArray⟩)) from ⟨hb.cell nMN sc1, hb.cell nNX.symm z0, hb.cell nNX.symm z1, hb.cell nNX.symm z2, hb.cell nNX.symm z3⟩))
            go_wp2_with fail
            go_region_held3 (fun w' => w'.cell? ⟨m, 1, none⟩ = some (.slice (some ⟨gN, 0, none⟩) (nds).length cN) ∧ w'.cell? ⟨X, 0, none⟩ = some (.int .i64 x.kind) ∧ w'.cell? ⟨X, 1, none⟩ = some (.slice A' x.refs.length cA) ∧ w'.cell? ⟨X, 2, none⟩ = some (.slice C x.nums.length cc) ∧ w'.cell? ⟨X, 3, none⟩ = some (.string ⟨x.text.toArray⟩))
              (with_reducible exact HSt.out _ (by with_reducible repeat' (first | exact ButS.refl _ _ | exact Or.inl rfl | refine ButS.drew ?_ | refine ButS.setCell ?_ ?_ _)))
              (first | fail | fail)
            go_wp2_with fail
            go_ret2
            rw [HXe.out]
            have hlM := HR.out.lM
            have hlN := HR.out.lN
            have hlB := HR.out.lB
            have hW0 := hS.out
            have hcW := HWc.out.size
            have hA2 : RowI w2 (fun g => (P g ∨ w.heap.size ≤ g) ∧ g ≠ m ∧ g ≠ gN ∧ g ≠ gB) A' x.refs := HA1.out.mono fun g hg _ => ⟨.inr (by omega), by omega, by omega, by omega⟩
            have hC2 : RowI w2 (fun g => (P g ∨ w.heap.size ≤ g) ∧ g ≠ m ∧ g ≠ gN ∧ g ≠ gB) C x.nums := HC1.out.mono fun g hg _ => ⟨.inr (by omega), by omega, by omega, by omega⟩
            have hq := ((HR2.out.mono (Q := fun g => P g ∨ w.heap.size ≤ g) (fun _ h => .inl h)).put hhB (x := x) (ca := cA) (cb := cc) hA2 hC2 HWd.out).below (Below.drew (Below.refl _ _))
            refine .inl ⟨(k : Int) + 1, gN, cN, gB, cB, _, _, one_found hlen Hf.out hhB Hk.out.2 (by omega), rfl, hq, Grew.put (st_dead hlen Hk.out.1) x, ?_, .inl rfl, .inl rfl⟩
            exact (((ButS.of_below HW1.out).set4 (.inl (.inr (.inl rfl)))).drew).setCell (p := ⟨gB, k + 1, none⟩) (.inl (.inr (.inr rfl))) _
          · have hfl2 : freeH (stOf nds bs) = bs.length := by rw [hfl, HFl.out]; omega
            have Hfl := Lib.hid hfl
            rcases Nat.lt_or_ge room bs.length with hfull | hroom
            · have HFr := Lib.hid (rfree_full HR1.out hno hfull)
              have Hfu := Lib.hid (one_none (room := room) hf (by omega))
              clear hfl hno hf hfl2
              go_wp2_with fail
              refine HFr.out.mono ?_; rintro e w2 ⟨rfl, b2⟩
              go_wp2_with fail
              go_ret2
              rw [HXe.out]
              exact .inr ⟨Hfu.out, rfl, HW1.out.trans (b2.mono HW1.out.size)⟩
            · have HFr := Lib.hid (rfree_grow HR1.out hno hroom)
              have Hg := Lib.hid (one_grow hlen hone hf hfl hroom)
              have Hgs := Lib.hid (Grew.snoc hlen nd0 false)
              have hX1 := Lib.lt_of_cell HX1.out.1
              have hX2 : w.heap.size ≤ X := by have h4 := HXlo.out; have h5 := hS.out; omega
              have hXm : X ≠ m := by have h3 := HR.out.lM; omega
              clear hfl hno hf hfl2
              go_wp2_with fail
              refine HFr.out.mono ?_; rintro e w2 ⟨gN2, cN2, gB2, cB2, rfl, hR2, hbut, hgN2, hgB2⟩
              have HR2 := Lib.hid hR2
              have HBu := Lib.hid hbut
              have z0 := hbut.cell (by exact hXm) HX1.out.1
              have z1 := hbut.cell (by exact hXm) HX1.out.2.1
              have z2 := hbut.cell (by exact hXm) HX1.out.2.2.1
              have z3 := hbut.cell (by exact hXm) HX1.out.2.2.2
              have HGr : Hid (Grew nds bs ((nds ++ [nd0]).set bs.length x) ((bs ++ [false]).set bs.length true)) := Lib.hid (Hgs.out.trans (Grew.put (by rw [List.getElem?_append_right (Nat.le_refl _)]; simp) x))
              have hn2 : (nds ++ [nd0]).length = bs.length + 1 := by simp [hlen]
              have hb2 : (bs ++ [false]).length = bs.length + 1 := by simp
              clear hR2 hbut HX1
              generalize nds ++ [nd0] = nds2 at *
              generalize bs ++ [false] = bs2 at *
              have hhN : bs.length < nds2.length := by omega
              have hhB : bs.length < bs2.length := by omega
              have hI : (bs.length : Int) < (nds2.length : Int) := by omega
              have hI2 : (bs.length : Int) < (bs2.length : Int) := by omega
              have dz : ((bs.length : Int) == 0) = false := beq_eq_false_iff_ne.2 (by omega)
              have hI0 : (0 : Int) ≤ (bs.length : Int) := by omega
              clear hn2 hb2
              have HNX : Hid (gN2 ≠ X ∧ gB2 ≠ X ∧ X ≠ m) := Lib.hid ⟨by omega, by omega, hXm⟩
              have sc1 := HR2.out.c1
              have sc2 := HR2.out.c2
              obtain ⟨B', cb', C', cc', ⟨s0, s1, s2, s3⟩, _, _⟩ := HR2.out.rows (bs.length) _ (List.getElem?_eq_getElem hhN)
              have sb := HR2.out.bits (bs.length) _ (List.getElem?_eq_getElem hhB)
              have f0 := HR2.out.fN ((bs.length) * 4)
              have f1 := HR2.out.fN ((bs.length) * 4 + 1)
              have f2 := HR2.out.fN ((bs.length) * 4 + 2)
              have f3 := HR2.out.fN ((bs.length) * 4 + 3)
              have fb := HR2.out.fB (bs.length)
              have nNX : gN2 ≠ X := HNX.out.1
              have nBX : gB2 ≠ X := HNX.out.2.1
              have nMN := HR2.out.nMN
              have nMB := HR2.out.nMB
              have nNB := HR2.out.nNB
              have HSt := Lib.hid (fun w' (hb : ButS (fun g => g = gN2) w2 w') => (show (w'.cell? ⟨m, 1, none⟩ = some (.slice (some ⟨gN2, 0, none⟩) (nds2).length cN2) ∧ w'.cell? ⟨X, 0, none⟩ = some (.int .i64 x.kind) ∧ w'.cell? ⟨X, 1, none⟩ = some (.slice A' x.refs.length cA) ∧ w'.cell? ⟨X, 2, none⟩ = some (.slice C x.nums.length cc) ∧ w'.cell? ⟨X, 3, none⟩ = some (.string ⟨x.text.toArray⟩)) from ⟨hb.cell nMN sc1, hb.cell nNX.symm z0, hb.cell nNX.symm z1, hb.cell nNX.symm z2, hb.cell nNX.symm z3⟩))
              go_wp2_with fail
              go_region_held3 (fun w' => w'.cell? ⟨m, 1, none⟩ = some (.slice (some ⟨gN2, 0, none⟩) (nds2).length cN2) ∧ w'.cell? ⟨X, 0, none⟩ = some (.int .i64 x.kind) ∧ w'.cell? ⟨X, 1, none⟩ = some (.slice A' x.refs.length cA) ∧ w'.cell? ⟨X, 2, none⟩ = some (.slice C x.nums.length cc) ∧ w'.cell? ⟨X, 3, none⟩ = some (.string ⟨x.text.toArray⟩))
                (with_reducible exact HSt.out _ (by with_reducible repeat' (first | exact ButS.refl _ _ | exact Or.inl rfl | refine ButS.drew ?_ | refine ButS.setCell ?_ ?_ _)))
                (first | fail | fail)
              go_wp2_with fail
              go_ret2
              rw [HXe.out]
              have hlM := HR.out.lM
              have hlN := HR.out.lN
              have hlB := HR.out.lB
              have hW0 := hS.out
              have hcW := HWc.out.size
              have hw1 := HW1.out.size
              have hA2 : RowI w2 (fun g => (P g ∨ w.heap.size ≤ g) ∧ g ≠ m ∧ g ≠ gN2 ∧ g ≠ gB2) A' x.refs := (HA1.out.mono (Q := fun g => (P g ∨ w.heap.size ≤ g) ∧ g ≠ m ∧ g ≠ gN2 ∧ g ≠ gB2) fun g hg hl => ⟨.inr (by omega), by omega, by omega, by omega⟩).kept (HBu.out.keptQ fun g hg => hg.2.1)
              have hC2 : RowI w2 (fun g => (P g ∨ w.heap.size ≤ g) ∧ g ≠ m ∧ g ≠ gN2 ∧ g ≠ gB2) C x.nums := (HC1.out.mono (Q := fun g => (P g ∨ w.heap.size ≤ g) ∧ g ≠ m ∧ g ≠ gN2 ∧ g ≠ gB2) fun g hg hl => ⟨.inr (by omega), by omega, by omega, by omega⟩).kept (HBu.out.keptQ fun g hg => hg.2.1)
              have hq := ((HR2.out.mono (Q := fun g => P g ∨ w.heap.size ≤ g) (fun g h => h.elim .inl (fun h => .inr (by omega)))).put hhB (x := x) (ca := cA) (cb := cc) hA2 hC2 HWd.out).below (Below.drew (Below.refl _ _))
              refine .inl ⟨(bs.length : Int), gN2, cN2, gB2, cB2, _, _, Hg.out, rfl, hq, HGr.out, ?_, .inr (by omega), .inr (by omega)⟩
              exact ((((ButS.of_below HW1.out).trans' HBu.out (fun g _ e => .inl e)).set4 (.inr (by omega))).drew).setCell (p := ⟨gB2, bs.length, none⟩) (.inr (by have h := hgB2; show w.heap.size ≤ gB2; omega)) _
        · have dpos : decide ((0 : Int) < (fnd (stOf nds bs) x : Int)) = true := decide_eq_true (by omega)
          have dposN : decide (0 < fnd (stOf nds bs) x) = true := decide_eq_true (by omega)
          have Hs := Lib.hid (one_same (room := room) hf)
          clear hf
          generalize fnd (stOf nds bs) x = f at *
          go_wp2_with fail
          go_ret2
          rw [HXe.out]
          exact .inl ⟨_, gN, cN, gB, cB, nds, bs, Hs.out, rfl, HR1.out.mono fun _ h => .inl h, Grew.refl _ _, ButS.of_below HW1.out, .inl rfl, .inl rfl⟩
end
end Go.Proofs.YtjgjacihdggimaaGreatDoor
