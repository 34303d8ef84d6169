/- Texts joined: TqFa, TqFl, TqFm. -/
import Derived.Test.YtjgjacihdggimaaGreatDoorDk09
import Derived.Test.YtjgjacihdggimaaGreatDoorDk06
import Derived.Test.YtjgjacihdggimaaGreatDoorDk02
import Derived.Test.YtjgjacihdggimaaGreatDoorDk03
import Derived.Test.YtjgjacihdggimaaGreatDoorDk04
set_option linter.all false
namespace Go.Proofs.YtjgjacihdggimaaGreatDoor
open Go.RowKit Go.Shelf
theorem pnd_info : (Tryz.prog.info? 126).map (fun i => (i.zero, i.size, i.bytes)) = some (some (.agg #[.int .i64 0, .slice none 0 0, .slice none 0 0, .string ⟨#[]⟩]), 4, 72) := by kernel_rfl
theorem ndW_oneP : ∀ q : NdM, ∀ u ∈ ndW q, u.oneCell' = true := by
  intro q u hu
  simp only [ndW, List.mem_cons, List.not_mem_nil, or_false] at hu
  rcases hu with rfl | rfl | rfl | rfl <;> rfl
structure MD (w : World) (base bL bM : Nat) (v : Value) (L : List NdM) (R : Nat → Prop) : Prop where
  lay : w.cell? ⟨bL, 0, none⟩ = some (.func (.func 69) #[] #[.pointer (some ⟨bL, 0, none⟩), .pointer (some ⟨bM, 0, none⟩)])
  made : w.cell? ⟨bM, 0, none⟩ = some v
  fM : w.frozen? ⟨bM, 0, none⟩ = false
  own : OwnR 126 4 ndW base w v L
  rows : ∀ q ∈ L, RowI w R q.A q.n.refs ∧ RowI w R q.B q.n.nums
  rR : ∀ g, R g → base ≤ g ∧ g < w.heap.size ∧ v.ownBlock ≠ some g
  bl : bL < base ∧ bM < base ∧ bL ≠ bM
  bs : base ≤ w.heap.size
def ChM (bM : Nat) (v : Value) (g : Nat) : Prop := g = bM ∨ v.ownBlock = some g
theorem MD.below {w w' : World} {base bL bM : Nat} {v : Value} {L : List NdM} {R : Nat → Prop} (h : MD w base bL bM v L R) (hb : Below w.heap.size w w') : MD w' base bL bM v L R where
  lay := keep_cell hb h.lay
  made := keep_cell hb h.made
  fM := keep_frozen hb (Lib.lt_of_cell h.made) h.fM
  own := h.own.below hb
  rows := fun q hq => ⟨(h.rows q hq).1.below hb, (h.rows q hq).2.below hb⟩
  rR := fun g hg => ⟨(h.rR g hg).1, Nat.lt_of_lt_of_le (h.rR g hg).2.1 hb.size, (h.rR g hg).2.2⟩
  bl := h.bl
  bs := Nat.le_trans h.bs hb.size
theorem MD.but {w w' : World} {base bL bM : Nat} {v : Value} {L : List NdM} {R S : Nat → Prop} (h : MD w base bL bM v L R) (hb : ButS S w w') (hS : ∀ g, S g → base ≤ g ∧ v.ownBlock ≠ some g ∧ ¬ R g) : MD w' base bL bM v L R where
  lay := hb.cell (fun e => by have h1 : base ≤ bL := (hS _ e).1; have := h.bl.1; omega) h.lay
  made := hb.cell (fun e => by have h1 : base ≤ bM := (hS _ e).1; have := h.bl.2.1; omega) h.made
  fM := hb.frozen (fun e => by have h1 : base ≤ bM := (hS _ e).1; have := h.bl.2.1; omega) (Lib.lt_of_cell h.made) h.fM
  own := OwnR.block h.own fun k hk => hb.block k (World.ownsRow.lt h.own k hk).2 fun e => (hS k e).2.1 hk
  rows := fun q hq => by
    have hk : Kept w w' R := hb.keptQ fun g hg e => (hS g e).2.2 hg
    exact ⟨(h.rows q hq).1.kept hk, (h.rows q hq).2.kept hk⟩
  rR := fun g hg => ⟨(h.rR g hg).1, Nat.lt_of_lt_of_le (h.rR g hg).2.1 hb.size, (h.rR g hg).2.2⟩
  bl := h.bl
  bs := Nat.le_trans h.bs hb.size
theorem MD.mono {w : World} {base bL bM : Nat} {v : Value} {L : List NdM} {R R' : Nat → Prop} (h : MD w base bL bM v L R) (hR : ∀ g, R g → R' g) (hr : ∀ g, R' g → base ≤ g ∧ g < w.heap.size ∧ v.ownBlock ≠ some g) : MD w base bL bM v L R' :=
  { h with rows := fun q hq => ⟨(h.rows q hq).1.mono fun g hg _ => hR g hg, (h.rows q hq).2.mono fun g hg _ => hR g hg⟩, rR := hr }
def NP (w : World) (base bL bM : Nat) (v : Value) (L : List NdM) (R : Nat → Prop) (t : Tr) (e : Ending) (w' : World) : Prop :=
  ∃ v' L' R', e = .returned (.int .i64 (-(L'.length : Int))) ∧ MD w' base bL bM v' L' R' ∧ L'.map NdM.n = fl t (L.map NdM.n) ∧ (∀ g, R' g → R g ∨ w.heap.size ≤ g) ∧ (v'.ownBlock = v.ownBlock ∨ ∃ k, v'.ownBlock = some k ∧ w.heap.size ≤ k) ∧ ButS (ChM bM v) w w'
def MidN (w wx : World) (X base bL bM : Nat) (v : Value) (L : List NdM) (R : Nat → Prop) (t : Tr) : Prop :=
  ∃ n A ca B cb v' L' R', MD wx base bL bM v' L' R' ∧ At4 wx X 0 n A ca B cb ∧ RowI wx R' A n.refs ∧ RowI wx R' B n.nums ∧ L'.map NdM.n ++ [n] = fl t (L.map NdM.n) ∧ (∀ g, R' g → R g ∨ w.heap.size ≤ g) ∧ (v'.ownBlock = v.ownBlock ∨ ∃ k, v'.ownBlock = some k ∧ w.heap.size ≤ k) ∧ ButS (ChM bM v) w wx
theorem MD.app {w wx w1 w4 : World} {base bL bM : Nat} {v v' v4 : Value} {L L' : List NdM} {R R' : Nat → Prop} {t : Tr} {n : Nd} {A B : Option Addr} {ca cb : Nat} (h : MD wx base bL bM v' L' R') (hA : RowI wx R' A n.refs) (hB : RowI wx R' B n.nums)
    (hf : L'.map NdM.n ++ [n] = fl t (L.map NdM.n)) (hR : ∀ g, R' g → R g ∨ w.heap.size ≤ g) (hv : v'.ownBlock = v.ownBlock ∨ ∃ k, v'.ownBlock = some k ∧ w.heap.size ≤ k) (hbut : ButS (ChM bM v) w wx)
    (hb1 : Below wx.heap.size wx w1) (ho : OwnR 126 4 ndW base w4 v4 (L' ++ [⟨n, A, ca, B, cb⟩])) (hg : w1.grownBy w4 v'.ownBlock) (hat : v4.ownBlock = v'.ownBlock ∨ ∃ k, v4.ownBlock = some k ∧ w1.heap.size ≤ k) :
    NP w base bL bM v L R t (.returned (.int .i64 (-((L'.length + 1 : Nat) : Int)))) (w4.setCell ⟨bM, 0, none⟩ v4) := by
  have h1 := h.below hb1
  have hlo : ∀ k, v'.ownBlock = some k → base ≤ k := fun k hk => (World.ownsRow.lt h1.own k hk).1
  have hbk : ∀ k, k < base → w4.heap[k]? = w1.heap[k]? := fun k hk => hg.block k (Nat.lt_of_lt_of_le hk h1.bs) fun e => by have := hlo k (by first | exact e | exact e.symm); omega
  have hsz := hg.size
  have hszx := hb1.size
  have hkR : Kept w1 (w4.setCell ⟨bM, 0, none⟩ v4) R' := ⟨by simpa using hsz, fun g hgR hgl => by
    have hr := h1.rR g hgR
    rw [Below.heap_setCell _ _ _ _ (show g ≠ bM by have := h1.bl.2.1; omega)]
    exact hg.block g hgl fun e => hr.2.2 (by first | exact e | exact e.symm)⟩
  refine ⟨v4, L' ++ [⟨n, A, ca, B, cb⟩], R', by rw [List.length_append]; rfl, ⟨?_, ?_, ?_, ?_, fun q hq => ?_, fun g hgR => ?_, h1.bl, by simpa using Nat.le_trans h1.bs hsz⟩, by rw [List.map_append, ← hf]; rfl, hR, ?_, ?_⟩
  · rw [World.cell?_setCell_other _ _ _ _ (by intro e; have := congrArg Addr.block e; exact h1.bl.2.2 this.symm), World.cell?_of_block (w := w1) (hbk bL h1.bl.1)]
    exact h1.lay
  · exact World.cell?_setCell_same _ _ _ (u := v') (by rw [World.cell?_of_block (w := w1) (hbk bM h1.bl.2.1)]; exact h1.made)
  · rw [World.frozen?_setCell, World.frozen?_of_block (w := w1) (hbk bM h1.bl.2.1)]; exact h1.fM
  · have hb := (Below.refl 0 w4).setCell (p := (⟨bM, 0, none⟩ : Addr)) (Nat.zero_le _) v4
    refine World.ownsRow.kept ho (row := some bM) ⟨hb.os, hb.tape, hb.output, hb.size, fun k _ hk => Below.heap_setCell w4 _ v4 k fun e => hk (by rw [e])⟩ (.inr fun e => ?_)
    have := (World.ownsRow.lt ho bM (by first | exact e | exact e.symm)).1
    have := h1.bl.2.1; omega
  · rcases List.mem_append.1 hq with e | e
    · exact ⟨(h1.rows q e).1.kept hkR, (h1.rows q e).2.kept hkR⟩
    · obtain rfl : q = ⟨n, A, ca, B, cb⟩ := by simpa using e
      exact ⟨(hA.below hb1).kept hkR, (hB.below hb1).kept hkR⟩
  · have hr := h1.rR g hgR
    refine ⟨hr.1, by simp; omega, ?_⟩
    rcases hat with e | ⟨k, e, hk⟩
    · rw [e]; exact hr.2.2
    · rw [e]; intro e'; have := Option.some.inj e'; omega
  · rcases hat with e | ⟨k, e, hk⟩
    · rw [e]; exact hv
    · exact .inr ⟨k, e, by have := hbut.size; omega⟩
  · refine ((hbut.trans (ButS.of_below hb1)).grown hg fun k hk => ?_).setCell (.inl (.inl rfl)) _
    rcases hv with e | ⟨j, e, hj⟩
    · exact .inl (.inr (by rw [← e]; exact hk))
    · rw [e] at hk; cases hk; exact .inr hj
theorem MD.grownM {wx w1 w4 : World} {base bL bM : Nat} {v' : Value} {L' : List NdM} {R' : Nat → Prop} (h : MD wx base bL bM v' L' R') (hb1 : Below wx.heap.size wx w1) (hg : w1.grownBy w4 v'.ownBlock) : w4.cell? ⟨bM, 0, none⟩ = some v' ∧ w4.frozen? ⟨bM, 0, none⟩ = false := by
  have h1 := h.below hb1
  have hbk : w4.heap[bM]? = w1.heap[bM]? := hg.block bM (Nat.lt_of_lt_of_le h1.bl.2.1 h1.bs) fun e => by have := (World.ownsRow.lt h1.own bM (by first | exact e | exact e.symm)).1; have := h1.bl.2.1; omega
  exact ⟨by rw [World.cell?_of_block (w := w1) hbk]; exact h1.made, by rw [World.frozen?_of_block (w := w1) hbk]; exact h1.fM⟩
theorem at4_new {w : World} {X : Nat} {u0 u1 u2 u3 : Value} (h0 : w.cell? ⟨X, 0, none⟩ = some u0) (h1 : w.cell? ⟨X, 1, none⟩ = some u1) (h2 : w.cell? ⟨X, 2, none⟩ = some u2) (h3 : w.cell? ⟨X, 3, none⟩ = some u3) (n : Nd) (A : Option Addr) (ca : Nat) (B : Option Addr) (cb : Nat) :
    At4 ((((w.setCell ⟨X, 0, none⟩ (.int .i64 n.kind)).setCell ⟨X, 1, none⟩ (.slice A n.refs.length ca)).setCell ⟨X, 2, none⟩ (.slice B n.nums.length cb)).setCell ⟨X, 3, none⟩ (.string ⟨n.text.toArray⟩)) X 0 n A ca B cb :=
  set4_near (g := X) (o := 0) h0 h1 h2 h3
theorem fl_leaf (x : En) (out : List Nd) : fl (leafT x) out = out ++ [⟨1, [], [x.key], x.text⟩] := by
  unfold leafT
  rw [fl, flL]
theorem leaf_mid {w W0 : World} {base bL bM : Nat} {v : Value} {L : List NdM} {R : Nat → Prop} {x : En} (hM : MD w base bL bM v L R) (hM0 : MD W0 base bL bM v L R) (hbW : Below w.heap.size w W0) (hz : W0.heap.size = w.heap.size + 1) {u0 u1 u2 u3 : Value}
    (x0 : W0.cell? ⟨w.heap.size, 0, none⟩ = some u0) (x1 : W0.cell? ⟨w.heap.size, 1, none⟩ = some u1) (x2 : W0.cell? ⟨w.heap.size, 2, none⟩ = some u2) (x3 : W0.cell? ⟨w.heap.size, 3, none⟩ = some u3) :
    MidN w ((((((W0.setCell ⟨w.heap.size, 0, none⟩ (.int .i64 1)).setCell ⟨w.heap.size, 1, none⟩ (.slice none 0 0)).setCell ⟨w.heap.size, 2, none⟩ (.slice (some ⟨W0.heap.size, 0, none⟩) 1 1)).setCell ⟨w.heap.size, 3, none⟩ (.string ⟨x.text.toArray⟩)).alloc (.cells #[.int .i64 x.key] 3)).drew) w.heap.size base bL bM v L R (leafT x) := by
  have h4 := at4_new x0 x1 x2 x3 ⟨1, [], [x.key], x.text⟩ none 0 (some ⟨W0.heap.size, 0, none⟩) 1
  have hq : ∀ (W : World) (j : Nat) (u : Value), ButS (fun g => g = w.heap.size) W0 W → ButS (fun g => g = w.heap.size) W0 (W.setCell ⟨w.heap.size, j, none⟩ u) := fun W j u h => h.setCell (p := ⟨w.heap.size, j, none⟩) (.inl rfl) u
  have hbu : ButS (fun g => g = w.heap.size) W0 ((((W0.setCell ⟨w.heap.size, 0, none⟩ (.int .i64 1)).setCell ⟨w.heap.size, 1, none⟩ (.slice none 0 0)).setCell ⟨w.heap.size, 2, none⟩ (.slice (some ⟨W0.heap.size, 0, none⟩) 1 1)).setCell ⟨w.heap.size, 3, none⟩ (.string ⟨x.text.toArray⟩)) :=
    hq _ _ _ (hq _ _ _ (hq _ _ _ (hq _ _ _ (ButS.refl _ _))))
  have hs4 : ((((W0.setCell ⟨w.heap.size, 0, none⟩ (.int .i64 1)).setCell ⟨w.heap.size, 1, none⟩ (.slice none 0 0)).setCell ⟨w.heap.size, 2, none⟩ (.slice (some ⟨W0.heap.size, 0, none⟩) 1 1)).setCell ⟨w.heap.size, 3, none⟩ (.string ⟨x.text.toArray⟩)).heap.size = W0.heap.size := by simp
  change At4 ((((W0.setCell ⟨w.heap.size, 0, none⟩ (.int .i64 1)).setCell ⟨w.heap.size, 1, none⟩ (.slice none 0 0)).setCell ⟨w.heap.size, 2, none⟩ (.slice (some ⟨W0.heap.size, 0, none⟩) 1 1)).setCell ⟨w.heap.size, 3, none⟩ (.string ⟨x.text.toArray⟩)) _ 0 _ none 0 _ 1 at h4
  generalize ((((W0.setCell ⟨w.heap.size, 0, none⟩ (.int .i64 1)).setCell ⟨w.heap.size, 1, none⟩ (.slice none 0 0)).setCell ⟨w.heap.size, 2, none⟩ (.slice (some ⟨W0.heap.size, 0, none⟩) 1 1)).setCell ⟨w.heap.size, 3, none⟩ (.string ⟨x.text.toArray⟩)) = S4 at *
  have hnew : (S4.alloc (.cells #[.int .i64 x.key] 3)).drew.heap[W0.heap.size]? = some (.cells #[.int .i64 x.key] 3 (0, 0)) := by
    have := heap_alloc_new S4 (.cells #[.int .i64 x.key] 3)
    rw [hs4] at this; exact this
  have hbu2 : ButS (fun g => g = w.heap.size) W0 (S4.alloc (.cells #[.int .i64 x.key] 3)).drew := (hbu.alloc _).drew
  have hsz := hbu2.size
  have hbS : Below S4.heap.size S4 (S4.alloc (.cells #[.int .i64 x.key] 3)).drew := ((Below.refl _ _).alloc (Nat.le_refl _) _).drew
  have hown : ∀ k, v.ownBlock = some k → k < w.heap.size := fun k hk => (World.ownsRow.lt hM.own k hk).2
  refine ⟨⟨1, [], [x.key], x.text⟩, none, 0, some ⟨W0.heap.size, 0, none⟩, 1, v, L, fun g => R g ∨ g = W0.heap.size, (hM0.but hbu2 fun g hg => ?_).mono (fun g hg => .inl hg) fun g hg => ?_, ?_, .inl rfl, rowI_lit hnew rfl (.inr rfl), (fl_leaf x _).symm, fun g hg => ?_, .inl rfl, ?_⟩
  · subst hg
    have := hM.bs
    exact ⟨this, fun e => by have := hown _ e; omega, fun e => by have := (hM.rR _ e).2.1; omega⟩
  · rcases hg with hg | hg
    · have := hM0.rR g hg
      exact ⟨this.1, by omega, this.2.2⟩
    · subst hg
      have := hM0.bs
      refine ⟨this, ?_, fun e => by have := hown _ e; omega⟩
      exact (Array.getElem?_eq_some_iff.1 hnew).1
  · exact ⟨keep_cell hbS h4.1, keep_cell hbS h4.2.1, keep_cell hbS h4.2.2.1, keep_cell hbS h4.2.2.2⟩
  · rcases hg with hg | hg
    · exact .inl hg
    · exact .inr (by omega)
  · exact (ButS.of_below hbW).trans' hbu2 fun g hgl hg => by omega
end Go.Proofs.YtjgjacihdggimaaGreatDoor
namespace Go.Proofs.YtjgjacihdggimaaGreatDoor
open Go.RowKit Go.Shelf
structure LN (w wr : World) (base bL bM : Nat) (v : Value) (L : List NdM) (R : Nat → Prop) (ts : List Tr) (vR : Value) (k : Int) (vN : Value) (v' : Value) (L' : List NdM) (R' : Nat → Prop) : Prop where
  bs : base ≤ w.heap.size
  md : MD wr base bL bM v' L' R'
  eq : L'.map NdM.n = (flL ts (L.map NdM.n) []).1
  own : OwnR 3 1 inW (w.heap.size + 1) wr vR (flL ts (L.map NdM.n) []).2
  apart : ∀ g, vR.ownBlock = some g → v'.ownBlock ≠ some g ∧ ¬ R' g
  rR : ∀ g, R' g → R g ∨ w.heap.size ≤ g
  rX : ¬ R' w.heap.size
  v2 : v'.ownBlock = v.ownBlock ∨ ∃ k, v'.ownBlock = some k ∧ w.heap.size ≤ k
  vX : v'.ownBlock ≠ some w.heap.size
  but : ButS (ChM bM v) w wr
  x0 : wr.cell? ⟨w.heap.size, 0, none⟩ = some (.int .i64 k)
  x1 : wr.cell? ⟨w.heap.size, 1, none⟩ = some vR
  x2 : wr.cell? ⟨w.heap.size, 2, none⟩ = some vN
  x3 : wr.cell? ⟨w.heap.size, 3, none⟩ = some (.string ⟨#[]⟩)
  fX : ∀ j, wr.frozen? ⟨w.heap.size, j, none⟩ = false
theorem LN.below {w wr w' : World} {base bL bM : Nat} {v : Value} {L : List NdM} {R : Nat → Prop} {ts : List Tr} {vR : Value} {k : Int} {vN v' : Value} {L' : List NdM} {R' : Nat → Prop} (h : LN w wr base bL bM v L R ts vR k vN v' L' R') (hb : Below wr.heap.size wr w') : LN w w' base bL bM v L R ts vR k vN v' L' R' :=
  { h with
    md := h.md.below hb
    own := h.own.below hb
    but := h.but.trans (ButS.of_below hb)
    x0 := keep_cell hb h.x0
    x1 := keep_cell hb h.x1
    x2 := keep_cell hb h.x2
    x3 := keep_cell hb h.x3
    fX := fun j => keep_frozen (p := ⟨w.heap.size, j, none⟩) hb (show w.heap.size < wr.heap.size from Lib.lt_of_cell h.x0) (h.fX j) }
section
variable {w wr w0 w1 w2 w4 : World} {base bL bM : Nat} {v : Value} {L : List NdM} {R : Nat → Prop} {ts : List Tr} {vR : Value} {k : Int} {vN v' : Value} {L' : List NdM} {R' : Nat → Prop}
theorem LN.lt (h : LN w wr base bL bM v L R ts vR k vN v' L' R') : w.heap.size < wr.heap.size := Lib.lt_of_cell h.x0
theorem LN.call (h : LN w wr base bL bM v L R ts vR k vN v' L' R') (hb0 : Below wr.heap.size wr w0) (hbu : ButS (ChM bM v') w0 w1) :
    w1.cell? ⟨w.heap.size, 1, none⟩ = some vR ∧ OwnR 3 1 inW (w.heap.size + 1) w1 vR (flL ts (L.map NdM.n) []).2 := by
  have h0 := h.below hb0
  have hX : ¬ ChM bM v' w.heap.size := fun e => by
    rcases e with e | e
    · have := h.md.bl.2.1
      have := h.bs
      omega
    · exact h.vX e
  exact ⟨hbu.cell (p := ⟨w.heap.size, 1, none⟩) hX h0.x1, OwnR.block h0.own fun g hg => hbu.block g (World.ownsRow.lt h0.own g hg).2 fun e => by
    rcases e with e | e
    · have := (World.ownsRow.lt h0.own g hg).1
      have := h.md.bl.2.1
      have := h.bs
      omega
    · exact (h.apart g hg).1 e⟩
theorem LN.next (h : LN w wr base bL bM v L R ts vR k vN v' L' R')  (hb0 : Below wr.heap.size wr w0) {t : Tr} {v2 : Value} {L2 : List NdM} {R2 : Nat → Prop} (hM2 : MD w1 base bL bM v2 L2 R2) (hf2 : L2.map NdM.n = fl t (L'.map NdM.n))
    (hR2 : ∀ g, R2 g → R' g ∨ w0.heap.size ≤ g) (hv2 : v2.ownBlock = v'.ownBlock ∨ ∃ k, v2.ownBlock = some k ∧ w0.heap.size ≤ k) (hbu : ButS (ChM bM v') w0 w1) (hb2 : Below w1.heap.size w1 w2)
    {vR4 : Value} (ho : OwnR 3 1 inW (w.heap.size + 1) w4 vR4 ((flL ts (L.map NdM.n) []).2 ++ [-(L2.length : Int)])) (hg : w2.grownBy w4 vR.ownBlock) (hat : vR4.ownBlock = vR.ownBlock ∨ ∃ k, vR4.ownBlock = some k ∧ w2.heap.size ≤ k) :
    LN w (w4.setCell ⟨w.heap.size, 1, none⟩ vR4) base bL bM v L R (ts ++ [t]) vR4 k vN v2 L2 R2 ∧ ButS (fun g => ChM bM v' g ∨ vR.ownBlock = some g ∨ g = w.heap.size) wr (w4.setCell ⟨w.heap.size, 1, none⟩ vR4) := by
  have h0 := h.below hb0
  have hlt0 := h0.lt
  have hs0 := hb0.size
  have hs1 := hbu.size
  have hs2 := hb2.size
  have hs4 := hg.size
  have hvR := fun g (e : vR.ownBlock = some g) => World.ownsRow.lt h.own g e
  have hbs := h.bs
  have hbl := h.md.bl
  -- from the child's call on, all but the Refs' own block and the node's stay
  have hbu4 : ButS (fun g => vR.ownBlock = some g ∨ g = w.heap.size) w1 (w4.setCell ⟨w.heap.size, 1, none⟩ vR4) :=
    ((ButS.of_below hb2).grown hg fun k hk => .inl (.inl hk)).setCell (p := ⟨w.heap.size, 1, none⟩) (.inl (.inr rfl)) _
  have hv2g : ∀ g, g < w0.heap.size → v2.ownBlock = some g → v'.ownBlock = some g := fun g hgl e => by
    rcases hv2 with q | ⟨j, q, hj⟩
    · rw [← q]; exact e
    · rw [q] at e; have := Option.some.inj e; omega
  have hR2g : ∀ g, g < w0.heap.size → R2 g → R' g := fun g hgl e => by
    rcases hR2 g e with q | q
    · exact q
    · omega
  have hM4 : MD (w4.setCell ⟨w.heap.size, 1, none⟩ vR4) base bL bM v2 L2 R2 := hM2.but hbu4 fun g hg => by
    rcases hg with hg | hg
    · have := hvR g hg
      exact ⟨by omega, fun e => (h.apart g hg).1 (hv2g g (by omega) e), fun e => (h.apart g hg).2 (hR2g g (by omega) e)⟩
    · subst hg
      exact ⟨hbs, fun e => h.vX (hv2g _ (by omega) e), fun e => h.rX (hR2g _ (by omega) e)⟩
  have hX : ¬ ChM bM v' w.heap.size := fun e => by
    rcases e with e | e
    · omega
    · exact h.vX e
  have hgX : w4.heap[w.heap.size]? = w1.heap[w.heap.size]? := (hg.block _ (by omega) fun e => by have := (hvR w.heap.size (by first | exact e | exact e.symm)).1; omega).trans (hb2.block _ (by omega))
  have hc : ∀ (j : Nat) (u : Value), w0.cell? ⟨w.heap.size, j, none⟩ = some u → w4.cell? ⟨w.heap.size, j, none⟩ = some u := fun j u hu => by
    rw [World.cell?_of_block (w := w1) hgX]
    exact hbu.cell (p := ⟨w.heap.size, j, none⟩) hX hu
  have hne : ∀ i j : Nat, i ≠ j → (⟨w.heap.size, i, none⟩ : Addr) ≠ ⟨w.heap.size, j, none⟩ := fun i j hij e => hij (by have := congrArg Addr.off e; simpa using this)
  have hall : ButS (fun g => ChM bM v' g ∨ vR.ownBlock = some g ∨ g = w.heap.size) wr (w4.setCell ⟨w.heap.size, 1, none⟩ vR4) :=
    ((ButS.of_below hb0).trans (hbu.mono fun g hg => .inl hg)).trans (hbu4.mono fun g hg => .inr hg)
  have hv24 : v2.ownBlock = v.ownBlock ∨ ∃ k, v2.ownBlock = some k ∧ w.heap.size ≤ k := by
    rcases hv2 with q | ⟨j, q, hj⟩
    · rw [q]; exact h.v2
    · exact .inr ⟨j, q, by omega⟩
  refine ⟨⟨hbs, hM4, by rw [flL_snoc, hf2, h.eq], ?_, fun g hg4 => ?_, fun g hg2 => ?_, fun e => h.rX (hR2g _ (by omega) e), hv24, fun e => h.vX (hv2g _ (by omega) e), ?_, ?_, ?_, ?_, ?_, fun j => ?_⟩, hall⟩
  · rw [flL_snoc]
    have hl : (fl t (flL ts (L.map NdM.n) []).1).length = L2.length := by
      rw [← h.eq, ← hf2, List.length_map]
    show OwnR _ 1 inW _ _ _ ((flL ts (L.map NdM.n) []).2 ++ [-((fl t (flL ts (L.map NdM.n) []).1).length : Int)])
    rw [hl]
    have hb := (Below.refl 0 w4).setCell (p := (⟨w.heap.size, 1, none⟩ : Addr)) (Nat.zero_le _) vR4
    refine World.ownsRow.kept ho (row := some w.heap.size) ⟨hb.os, hb.tape, hb.output, hb.size, fun k _ hk => Below.heap_setCell w4 _ vR4 k fun e => hk (by rw [e])⟩ (.inr fun e => ?_)
    have := (World.ownsRow.lt ho w.heap.size (by first | exact e | exact e.symm)).1
    omega
  · rcases hat with q | ⟨j, q, hj⟩
    · rw [q] at hg4
      have := hvR g hg4
      exact ⟨fun e => (h.apart g hg4).1 (hv2g g (by omega) e), fun e => (h.apart g hg4).2 (hR2g g (by omega) e)⟩
    · rw [q] at hg4
      obtain rfl := Option.some.inj hg4
      refine ⟨fun e => ?_, fun e => ?_⟩
      · have := (World.ownsRow.lt hM2.own j e).2; omega
      · have := (hM2.rR j e).2.1; omega
  · rcases hR2 g hg2 with q | q
    · exact h.rR g q
    · exact .inr (by omega)
  · refine (h0.but.trans' hbu fun g hgl e => ?_).trans' hbu4 fun g hgl e => ?_
    · rcases e with e | e
      · exact .inl e
      · rcases h.v2 with q | ⟨j, q, hj⟩
        · exact .inr (by rw [← q]; exact e)
        · rw [q] at e; have := Option.some.inj e; omega
    · rcases e with e | e
      · have := hvR g e; omega
      · omega
  · rw [World.cell?_setCell_other _ _ _ _ (hne 1 0 (by decide))]; exact hc 0 _ h0.x0
  · exact World.cell?_setCell_same _ _ _ (hc 1 _ h0.x1)
  · rw [World.cell?_setCell_other _ _ _ _ (hne 1 2 (by decide))]; exact hc 2 _ h0.x2
  · rw [World.cell?_setCell_other _ _ _ _ (hne 1 3 (by decide))]; exact hc 3 _ h0.x3
  · rw [World.frozen?_setCell, World.frozen?_of_block (w := w1) hgX]
    exact hbu.frozen (p := ⟨w.heap.size, j, none⟩) hX hlt0 (h0.fX j)
theorem LN.grown (h : LN w wr base bL bM v L R ts vR k vN v' L' R') (hb0 : Below wr.heap.size wr w0) (hbu : ButS (ChM bM v') w0 w1) (hb2 : Below w1.heap.size w1 w2) (hg : w2.grownBy w4 vR.ownBlock) :
    w4.cell? ⟨w.heap.size, 1, none⟩ = some vR ∧ w4.frozen? ⟨w.heap.size, 1, none⟩ = false := by
  have h0 := h.below hb0
  have hlt0 := h0.lt
  have hs0 := hb0.size
  have hs1 := hbu.size
  have hs2 := hb2.size
  have hbs := h.bs
  have hbl := h.md.bl
  have hX : ¬ ChM bM v' w.heap.size := fun e => by
    rcases e with e | e
    · omega
    · exact h.vX e
  have hgX : w4.heap[w.heap.size]? = w1.heap[w.heap.size]? := (hg.block _ (by omega) fun e => by have := (World.ownsRow.lt h.own w.heap.size (by first | exact e | exact e.symm)).1; omega).trans (hb2.block _ (by omega))
  exact ⟨by rw [World.cell?_of_block (w := w1) hgX]; exact hbu.cell (p := ⟨w.heap.size, 1, none⟩) hX h0.x1, by rw [World.frozen?_of_block (w := w1) hgX]; exact hbu.frozen (p := ⟨w.heap.size, 1, none⟩) hX hlt0 (h0.fX 1)⟩
theorem LN.start {W1 : World} (hM : MD w base bL bM v L R) (hM1 : MD W1 base bL bM v L R) (hb : Below w.heap.size w W1) {u : Value} (x0 : W1.cell? ⟨w.heap.size, 0, none⟩ = some u) (x1 : W1.cell? ⟨w.heap.size, 1, none⟩ = some (.slice none 0 0)) (x2 : W1.cell? ⟨w.heap.size, 2, none⟩ = some vN) (x3 : W1.cell? ⟨w.heap.size, 3, none⟩ = some (.string ⟨#[]⟩)) (hf : ∀ j, W1.frozen? ⟨w.heap.size, j, none⟩ = false) :
    LN w (W1.setCell ⟨w.heap.size, 0, none⟩ (.int .i64 k)) base bL bM v L R [] (.slice none 0 0) k vN v L R := by
  have hbs := hM.bs
  have hne : ∀ i j : Nat, i ≠ j → (⟨w.heap.size, i, none⟩ : Addr) ≠ ⟨w.heap.size, j, none⟩ := fun i j hij e => hij (by have := congrArg Addr.off e; simpa using this)
  have hbu : ButS (fun g => g = w.heap.size) W1 (W1.setCell ⟨w.heap.size, 0, none⟩ (.int .i64 k)) := ButS.setCell (P := fun g => g = w.heap.size) (p := ⟨w.heap.size, 0, none⟩) (ButS.refl _ _) (.inl rfl) _
  have hown : ∀ g, v.ownBlock = some g → g < w.heap.size := fun g hg => (World.ownsRow.lt hM.own g hg).2
  exact {
    bs := hbs
    md := hM1.but hbu fun g hg => by
      subst hg
      exact ⟨hbs, fun e => by have := hown _ e; omega, fun e => by have := (hM.rR _ e).2.1; omega⟩
    eq := by rw [flL]
    own := by rw [flL]; exact World.ownsRow_nil _ _ _ _
    apart := fun g hg => by cases hg
    rR := fun g hg => .inl hg
    rX := fun e => by have := (hM.rR _ e).2.1; omega
    v2 := .inl rfl
    vX := fun e => by have := hown _ e; omega
    but := (ButS.of_below hb).trans' hbu fun g hgl e => by omega
    x0 := World.cell?_setCell_same _ _ _ x0
    x1 := by rw [World.cell?_setCell_other _ _ _ _ (hne 0 1 (by decide))]; exact x1
    x2 := by rw [World.cell?_setCell_other _ _ _ _ (hne 0 2 (by decide))]; exact x2
    x3 := by rw [World.cell?_setCell_other _ _ _ _ (hne 0 3 (by decide))]; exact x3
    fX := fun j => by rw [World.frozen?_setCell]; exact hf j }
theorem LN.done (h : LN w wr base bL bM v L R ts vR k vN v' L' R') {t : Tr} {nums : List Int} {B : Option Addr} {cb : Nat} {RN : Nat → Prop} (hvN : vN = .slice B nums.length cb) (hN : RowI wr RN B nums) (hRN : ∀ g, RN g → w.heap.size < g ∧ v'.ownBlock ≠ some g) (hf : ∀ out, fl t out = (flL ts out []).1 ++ [⟨k, (flL ts out []).2, nums, []⟩]) :
    MidN w wr w.heap.size base bL bM v L R t := by
  obtain ⟨A, ca, rfl, hr⟩ := own_rowI h.own
  have hbs := h.bs
  have hlR : (flL ts (L.map NdM.n) []).2.length = (⟨k, (flL ts (L.map NdM.n) []).2, nums, []⟩ : Nd).refs.length := rfl
  have hA : RowI wr (fun g => (.slice A (flL ts (L.map NdM.n) []).2.length ca : Value).ownBlock = some g) A (flL ts (L.map NdM.n) []).2 := by
    rcases hr with e | ⟨g, o, rfl, hg, hgl, hc⟩
    · exact .inl e
    · exact .inr ⟨g, o, rfl, rfl, hgl, hc⟩
  refine ⟨⟨k, (flL ts (L.map NdM.n) []).2, nums, []⟩, A, ca, B, cb, v', L', fun g => R' g ∨ (g < wr.heap.size ∧ ((.slice A (flL ts (L.map NdM.n) []).2.length ca : Value).ownBlock = some g ∨ RN g)), h.md.mono (fun g hg => .inl hg) fun g hg => ?_, ⟨h.x0, h.x1, by have := h.x2; rw [hvN] at this; exact this, h.x3⟩, hA.mono fun g hg hl => .inr ⟨hl, .inl hg⟩, hN.mono fun g hg hl => .inr ⟨hl, .inr hg⟩, by rw [h.eq]; exact (hf _).symm, fun g hg => ?_, h.v2, h.but⟩
  · rcases hg with hg | ⟨hl, hg | hg⟩
    · exact h.md.rR g hg
    · have := World.ownsRow.lt h.own g hg
      exact ⟨by omega, hl, (h.apart g hg).1⟩
    · have := hRN g hg
      exact ⟨by omega, hl, this.2⟩
  · rcases hg with hg | ⟨hl, hg | hg⟩
    · exact h.rR g hg
    · have := World.ownsRow.lt h.own g hg
      exact .inr (by omega)
    · have := (hRN g hg).1
      exact .inr (by omega)
end
end Go.Proofs.YtjgjacihdggimaaGreatDoor
namespace Go.Proofs.YtjgjacihdggimaaGreatDoor
open Go.RowKit Go.Shelf
theorem bitsD_lt (l : List En) (lv : Nat) : ∀ n : Nat, bitsD l lv n < 2 ^ n
  | 0 => by rw [bitsD]; decide
  | n + 1 => by
    have := bitsD_lt l lv n
    rw [bitsD, Nat.pow_succ]
    split <;> omega
theorem flL_le (a b : List Tr) (out : List Nd) (refs : List Int) : (flL a out refs).1.length ≤ (flL (a ++ b) out refs).1.length := by
  have := flL_mono (a ++ b) a.length out refs
  rwa [List.take_left' rfl] at this
theorem wrap_small {q : Nat} (h : q ≤ 4294967296) : IntKind.i64.wrap (q : Int) = (q : Int) := by
  rw [IntKind.wrap_i64]; omega
theorem bits_or2 (b d : Nat) (hd : d < 32) (hb : b < 2 ^ d) : bits BinOp.or IntKind.i64 (b : Int) (IntKind.i64.wrap ((2 : Int) ^ d)) = ((b + 2 ^ d : Nat) : Int) := by
  have h1 : (2 ^ d : Nat) ≤ 2 ^ 31 := Nat.pow_le_pow_right (by decide) (by omega)
  have h31 : (2 : Nat) ^ 31 = 2147483648 := rfl
  have hor : (2 ^ d ||| b) = 2 ^ d + b := by
    have := Nat.two_pow_add_eq_or_of_lt hb 1
    rw [Nat.mul_one] at this
    exact this.symm
  have e0 : (2 : Int) ^ d = ((2 ^ d : Nat) : Int) := by rw [Int.natCast_pow]; rfl
  rw [e0, wrap_small (by omega)]
  show IntKind.i64.wrap ((BitVec.ofInt 64 (b : Int) ||| BitVec.ofInt 64 ((2 ^ d : Nat) : Int)).toNat : Int) = _
  generalize hq : (2 ^ d : Nat) = q at *
  have e1 : (BitVec.ofInt 64 (b : Int)).toNat = b := by
    rw [BitVec.toNat_ofInt]; omega
  have e2 : (BitVec.ofInt 64 (q : Int)).toNat = q := by
    rw [BitVec.toNat_ofInt]; omega
  rw [BitVec.toNat_or, e1, e2, Nat.or_comm, hor, wrap_small (by omega), Nat.add_comm]
structure FK (Wp wr : World) (X gN bM : Nat) (v vR v' : Value) (R' : Nat → Prop) (b : Nat) : Prop where
  n0 : wr.cell? ⟨gN, 0, none⟩ = some (.int .i64 (b : Int))
  nf : wr.frozen? ⟨gN, 0, none⟩ = false
  nv : v'.ownBlock ≠ some gN
  nR : ¬ R' gN
  nr : vR.ownBlock ≠ some gN
  bu : ButS (fun g => ChM bM v g ∨ g = X ∨ g = gN) Wp wr
  vW : v'.ownBlock = v.ownBlock ∨ ∃ k, v'.ownBlock = some k ∧ Wp.heap.size ≤ k
  rW : ∀ g, vR.ownBlock = some g → Wp.heap.size ≤ g
  gb : bM < gN ∧ X < gN ∧ gN < Wp.heap.size
theorem LN.but' {w wr w' : World} {base bL bM : Nat} {v : Value} {L : List NdM} {R S : Nat → Prop} {ts : List Tr} {vR : Value} {k : Int} {vN v' : Value} {L' : List NdM} {R' : Nat → Prop} (h : LN w wr base bL bM v L R ts vR k vN v' L' R') (hb : ButS S wr w')
    (hS : ∀ g, S g → w.heap.size < g ∧ v'.ownBlock ≠ some g ∧ ¬ R' g ∧ vR.ownBlock ≠ some g) : LN w w' base bL bM v L R ts vR k vN v' L' R' := by
  have hbs := h.bs
  have hX : ¬ S w.heap.size := fun e => by have := (hS _ e).1; omega
  exact { h with
    md := h.md.but hb fun g hg => ⟨by have := (hS g hg).1; omega, (hS g hg).2.1, (hS g hg).2.2.1⟩
    own := OwnR.block h.own fun g hg => hb.block g (World.ownsRow.lt h.own g hg).2 fun e => (hS g e).2.2.2 hg
    but := h.but.trans' hb fun g hgl e => by have := (hS g e).1; omega
    x0 := hb.cell (p := ⟨w.heap.size, 0, none⟩) hX h.x0
    x1 := hb.cell (p := ⟨w.heap.size, 1, none⟩) hX h.x1
    x2 := hb.cell (p := ⟨w.heap.size, 2, none⟩) hX h.x2
    x3 := hb.cell (p := ⟨w.heap.size, 3, none⟩) hX h.x3
    fX := fun j => hb.frozen (p := ⟨w.heap.size, j, none⟩) hX h.lt (h.fX j) }
theorem LN.start4 {w W1 : World} {base bL bM : Nat} {v : Value} {L : List NdM} {R : Nat → Prop} {k : Int} {vN : Value} (hM : MD w base bL bM v L R) (hM1 : MD W1 base bL bM v L R) (hb : Below w.heap.size w W1) {u0 u1 u2 u3 : Value} (x0 : W1.cell? ⟨w.heap.size, 0, none⟩ = some u0) (x1 : W1.cell? ⟨w.heap.size, 1, none⟩ = some u1) (x2 : W1.cell? ⟨w.heap.size, 2, none⟩ = some u2) (x3 : W1.cell? ⟨w.heap.size, 3, none⟩ = some u3) (hf : ∀ j, W1.frozen? ⟨w.heap.size, j, none⟩ = false) :
    LN w ((((W1.setCell ⟨w.heap.size, 0, none⟩ (.int .i64 k)).setCell ⟨w.heap.size, 1, none⟩ (.slice none 0 0)).setCell ⟨w.heap.size, 2, none⟩ vN).setCell ⟨w.heap.size, 3, none⟩ (.string ⟨#[]⟩)) base bL bM v L R [] (.slice none 0 0) k vN v L R := by
  have hbs := hM.bs
  have hq : ∀ (W : World) (j : Nat) (u : Value), ButS (fun g => g = w.heap.size) W1 W → ButS (fun g => g = w.heap.size) W1 (W.setCell ⟨w.heap.size, j, none⟩ u) := fun W j u h => h.setCell (p := ⟨w.heap.size, j, none⟩) (.inl rfl) u
  have hbu := hq _ 3 (.string ⟨#[]⟩) (hq _ 2 vN (hq _ 1 (.slice none 0 0) (hq _ 0 (.int .i64 k) (ButS.refl _ _))))
  have hown : ∀ g, v.ownBlock = some g → g < w.heap.size := fun g hg => (World.ownsRow.lt hM.own g hg).2
  have h4 := set4_near (g := w.heap.size) (o := 0) (a := .int .i64 k) (b := .slice none 0 0) (c := vN) (d := .string ⟨#[]⟩) x0 x1 x2 x3
  exact {
    bs := hbs
    md := hM1.but hbu fun g hg => by
      subst hg
      exact ⟨hbs, fun e => by have := hown _ e; omega, fun e => by have := (hM.rR _ e).2.1; omega⟩
    eq := by rw [flL]
    own := by rw [flL]; exact World.ownsRow_nil _ _ _ _
    apart := fun g hg => by cases hg
    rR := fun g hg => .inl hg
    rX := fun e => by have := (hM.rR _ e).2.1; omega
    v2 := .inl rfl
    vX := fun e => by have := hown _ e; omega
    but := (ButS.of_below hb).trans' hbu fun g hgl e => by omega
    x0 := h4.1
    x1 := h4.2.1
    x2 := h4.2.2.1
    x3 := h4.2.2.2
    fX := fun j => by rw [World.frozen?_setCell, World.frozen?_setCell, World.frozen?_setCell, World.frozen?_setCell]; exact hf j }
theorem FK.below {Wp wr w' : World} {X gN bM b : Nat} {v vR v' : Value} {R' : Nat → Prop} (h : FK Wp wr X gN bM v vR v' R' b) (hb : Below wr.heap.size wr w') : FK Wp w' X gN bM v vR v' R' b :=
  { h with n0 := keep_cell hb h.n0, nf := keep_frozen (p := ⟨gN, 0, none⟩) hb (show gN < wr.heap.size from Lib.lt_of_cell h.n0) h.nf, bu := h.bu.trans (ButS.of_below hb) }
theorem FK.set {Wp wr : World} {X gN bM b b' : Nat} {v vR v' : Value} {R' : Nat → Prop} (h : FK Wp wr X gN bM v vR v' R' b) : FK Wp (wr.setCell ⟨gN, 0, none⟩ (.int .i64 (b' : Int))) X gN bM v vR v' R' b' :=
  { h with n0 := World.cell?_setCell_same _ _ _ h.n0, nf := by rw [World.frozen?_setCell]; exact h.nf, bu := h.bu.setCell (p := ⟨gN, 0, none⟩) (.inl (.inr (.inr rfl))) _ }
theorem FK.next {Wp wr w0 wn : World} {X gN bM b : Nat} {v vR v' v2 vR4 : Value} {R' R2 : Nat → Prop} (h : FK Wp wr X gN bM v vR v' R' b) (h0 : wr.heap.size ≤ w0.heap.size) (hv2 : v2.ownBlock = v'.ownBlock ∨ ∃ k, v2.ownBlock = some k ∧ w0.heap.size ≤ k) (hR2 : ∀ g, R2 g → R' g ∨ w0.heap.size ≤ g)
    (hat : vR4.ownBlock = vR.ownBlock ∨ ∃ k, vR4.ownBlock = some k ∧ wr.heap.size ≤ k) (hb : ButS (fun g => ChM bM v' g ∨ vR.ownBlock = some g ∨ g = X) wr wn) : FK Wp wn X gN bM v vR4 v2 R2 b := by
  have hl : gN < wr.heap.size := Lib.lt_of_cell h.n0
  have hW := h.bu.size
  have hgb := h.gb
  have hN : ¬ (ChM bM v' gN ∨ vR.ownBlock = some gN ∨ gN = X) := fun e => by
    rcases e with (e | e) | e | e
    · omega
    · exact h.nv e
    · exact h.nr e
    · omega
  refine ⟨hb.cell (p := ⟨gN, 0, none⟩) hN h.n0, hb.frozen (p := ⟨gN, 0, none⟩) hN hl h.nf, fun e => ?_, fun e => ?_, fun e => ?_, h.bu.trans' hb fun g hgl e => ?_, ?_, fun g hg => ?_, hgb⟩
  · rcases hv2 with q | ⟨j, q, hj⟩
    · rw [q] at e; exact h.nv e
    · rw [q] at e; have := Option.some.inj e; omega
  · rcases hR2 gN e with q | q
    · exact h.nR q
    · omega
  · rcases hat with q | ⟨j, q, hj⟩
    · rw [q] at e; exact h.nr e
    · rw [q] at e; have := Option.some.inj e; omega
  · rcases e with (e | e) | e | e
    · exact .inl (.inl e)
    · rcases h.vW with q | ⟨j, q, hj⟩
      · exact .inl (.inr (by rw [← q]; exact e))
      · rw [q] at e; have := Option.some.inj e; omega
    · have := h.rW g e; omega
    · exact .inr (.inl e)
  · rcases hv2 with q | ⟨j, q, hj⟩
    · rw [q]; exact h.vW
    · exact .inr ⟨j, q, by omega⟩
  · rcases hat with q | ⟨j, q, hj⟩
    · rw [q] at hg; exact h.rW g hg
    · rw [q] at hg; have := Option.some.inj hg; omega
end Go.Proofs.YtjgjacihdggimaaGreatDoor
