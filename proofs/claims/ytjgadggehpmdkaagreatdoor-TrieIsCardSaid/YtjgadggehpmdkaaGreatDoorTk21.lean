/- Texts joined: TsE, TsF, TsG. -/
import Derived.Test.YtjgadggehpmdkaaGreatDoorTk20
import Derived.Test.YtjgadggehpmdkaaGreatDoorTk07
import Derived.Test.YtjgadggehpmdkaaGreatDoorTk06
import Derived.Test.YtjgadggehpmdkaaGreatDoorTk03
import Derived.Test.YtjgadggehpmdkaaGreatDoorTk05
import Derived.Test.YtjgadggehpmdkaaGreatDoorTk14
import Derived.Test.YtjgadggehpmdkaaGreatDoorTk04
set_option linter.all false
namespace Go.Proofs.YtjgadggehpmdkaaGreatDoor
open Go.RowKit
structure OwN (w : World) (base : Nat) (v : Value) (L : List NdM) (R : Nat → Prop) : Prop where
  own : OwnR 102 4 ndW base w v L
  rows : ∀ q ∈ L, RowI w R q.A q.n.refs ∧ RowI w R q.B q.n.nums
  rR : ∀ g, R g → base ≤ g ∧ g < w.heap.size ∧ v.ownBlock ≠ some g
  bs : base ≤ w.heap.size
def ChN (v : Value) (g : Nat) : Prop := v.ownBlock = some g
theorem OwN.below {w w' : World} {base : Nat} {v : Value} {L : List NdM} {R : Nat → Prop} (h : OwN w base v L R) (hb : Below w.heap.size w w') : OwN w' base v L R where
  own := h.own.below hb
  rows := fun q hq => ⟨(h.rows q hq).1.below hb, (h.rows q hq).2.below hb⟩
  rR := fun g hg => ⟨(h.rR g hg).1, Nat.lt_of_lt_of_le (h.rR g hg).2.1 hb.size, (h.rR g hg).2.2⟩
  bs := Nat.le_trans h.bs hb.size
theorem OwN.but {w w' : World} {base : Nat} {v : Value} {L : List NdM} {R S : Nat → Prop} (h : OwN w base v L R) (hb : ButS S w w') (hS : ∀ g, S g → v.ownBlock ≠ some g ∧ ¬ R g) : OwN w' base v L R where
  own := OwnR.block h.own fun k hk => hb.block k (World.ownsRow.lt h.own k hk).2 fun e => (hS k e).1 hk
  rows := fun q hq => by
    have hk : Kept w w' R := hb.keptQ fun g hg e => (hS g e).2 hg
    exact ⟨(h.rows q hq).1.kept hk, (h.rows q hq).2.kept hk⟩
  rR := fun g hg => ⟨(h.rR g hg).1, Nat.lt_of_lt_of_le (h.rR g hg).2.1 hb.size, (h.rR g hg).2.2⟩
  bs := Nat.le_trans h.bs hb.size
theorem OwN.mono {w : World} {base : Nat} {v : Value} {L : List NdM} {R R' : Nat → Prop} (h : OwN w base v L R) (hR : ∀ g, R g → R' g) (hr : ∀ g, R' g → base ≤ g ∧ g < w.heap.size ∧ v.ownBlock ≠ some g) : OwN w base v L R' :=
  { h with rows := fun q hq => ⟨(h.rows q hq).1.mono fun g hg _ => hR g hg, (h.rows q hq).2.mono fun g hg _ => hR g hg⟩, rR := hr }
def NQ (w : World) (base : Nat) (v : Value) (L : List NdM) (R : Nat → Prop) (t : Tr) (e : Ending) (w' : World) : Prop :=
  ∃ v' L' R', e = .returned v' ∧ OwN w' base v' L' R' ∧ L'.map NdM.n = fl t (L.map NdM.n) ∧ (∀ g, R' g → R g ∨ w.heap.size ≤ g) ∧ (v'.ownBlock = v.ownBlock ∨ ∃ k, v'.ownBlock = some k ∧ w.heap.size ≤ k) ∧ ButS (ChN v) w w'
theorem NQ.from {w w1 w' : World} {base : Nat} {v : Value} {L : List NdM} {R : Nat → Prop} {t : Tr} {e : Ending} (hb : Below w.heap.size w w1) (h : NQ w1 base v L R t e w') : NQ w base v L R t e w' := by
  obtain ⟨v', L', R', he, ho, hf, hR, hv, hbu⟩ := h
  have hz := hb.size
  refine ⟨v', L', R', he, ho, hf, fun g hg => (hR g hg).imp id (fun h => by omega), hv.imp id (fun ⟨k, hk, h⟩ => ⟨k, hk, by omega⟩), (ButS.of_below hb).trans hbu⟩
theorem OwN.app {w wx w1 w4 : World} {base : Nat} {v v' v4 : Value} {L L' : List NdM} {R R' : Nat → Prop} {t : Tr} {n : Nd} {A B : Option Addr} {ca cb : Nat} (h : OwN wx base v' L' R') (hA : RowI wx R' A n.refs) (hB : RowI wx R' B n.nums)
    (hf : L'.map NdM.n ++ [n] = fl t (L.map NdM.n)) (hR : ∀ g, R' g → R g ∨ w.heap.size ≤ g) (hv : v'.ownBlock = v.ownBlock ∨ ∃ k, v'.ownBlock = some k ∧ w.heap.size ≤ k) (hbut : ButS (ChN v) w wx)
    (hb1 : Below wx.heap.size wx w1) (ho : OwnR 102 4 ndW base w4 v4 (L' ++ [⟨n, A, ca, B, cb⟩])) (hg : w1.grownBy w4 v'.ownBlock) (hat : v4.ownBlock = v'.ownBlock ∨ ∃ k, v4.ownBlock = some k ∧ w1.heap.size ≤ k) :
    NQ w base v L R t (.returned v4) w4 := by
  have h1 := h.below hb1
  have hsz := hg.size
  have hszx := hb1.size
  have hkR : Kept w1 w4 R' := ⟨hsz, fun g hgR hgl => hg.block g hgl fun e => (h1.rR g hgR).2.2 (by first | exact e | exact e.symm)⟩
  refine ⟨v4, L' ++ [⟨n, A, ca, B, cb⟩], R', rfl, ⟨ho, fun q hq => ?_, fun g hgR => ?_, Nat.le_trans h1.bs hsz⟩, by rw [List.map_append, ← hf]; rfl, hR, ?_, ?_⟩
  · rcases List.mem_append.1 hq with e | e
    · exact ⟨(h1.rows q e).1.kept hkR, (h1.rows q e).2.kept hkR⟩
    · obtain rfl : q = ⟨n, A, ca, B, cb⟩ := by simpa using e
      exact ⟨(hA.below hb1).kept hkR, (hB.below hb1).kept hkR⟩
  · have hr := h1.rR g hgR
    refine ⟨hr.1, by omega, ?_⟩
    rcases hat with e | ⟨k, e, hk⟩
    · rw [e]; exact hr.2.2
    · rw [e]; intro e'; have := Option.some.inj e'; omega
  · rcases hat with e | ⟨k, e, hk⟩
    · rw [e]; exact hv
    · exact .inr ⟨k, e, by have := hbut.size; omega⟩
  · refine (hbut.trans (ButS.of_below hb1)).grown hg fun k hk => ?_
    rcases hv with e | ⟨j, e, hj⟩
    · exact .inl (show v.ownBlock = some k by rw [← e]; exact hk)
    · rw [e] at hk; cases hk; exact .inr hj
theorem fl_leafD (x : En) (out : List Nd) : fl (leafT x) out = out ++ [⟨1, [], [x.key], x.text⟩] := by
  unfold leafT
  rw [fl, flL]
structure LQ (w wr : World) (base : Nat) (v : Value) (L : List NdM) (R : Nat → Prop) (ts : List Tr) (vR : Value) (k : Int) (vN : Value) (v' : Value) (L' : List NdM) (R' : Nat → Prop) : Prop where
  bs : base ≤ w.heap.size
  md : OwN wr base v' L' R'
  eq : L'.map NdM.n = (flL ts (L.map NdM.n) []).1
  own : OwnR 3 1 inW (w.heap.size + 1) wr vR (flL ts (L.map NdM.n) []).2
  apart : ∀ g, vR.ownBlock = some g → v'.ownBlock ≠ some g ∧ ¬ R' g
  rR : ∀ g, R' g → R g ∨ w.heap.size ≤ g
  rX : ¬ R' w.heap.size
  v2 : v'.ownBlock = v.ownBlock ∨ ∃ k, v'.ownBlock = some k ∧ w.heap.size ≤ k
  vX : v'.ownBlock ≠ some w.heap.size
  but : ButS (ChN v) w wr
  x0 : wr.cell? ⟨w.heap.size, 0, none⟩ = some (.int .i64 k)
  x1 : wr.cell? ⟨w.heap.size, 1, none⟩ = some vR
  x2 : wr.cell? ⟨w.heap.size, 2, none⟩ = some vN
  x3 : wr.cell? ⟨w.heap.size, 3, none⟩ = some (.string ⟨#[]⟩)
  fX : ∀ j, wr.frozen? ⟨w.heap.size, j, none⟩ = false
theorem LQ.below {w wr w' : World} {base : Nat} {v : Value} {L : List NdM} {R : Nat → Prop} {ts : List Tr} {vR : Value} {k : Int} {vN v' : Value} {L' : List NdM} {R' : Nat → Prop} (h : LQ w wr base v L R ts vR k vN v' L' R') (hb : Below wr.heap.size wr w') : LQ w w' base v L R ts vR k vN v' L' R' :=
  { h with
    md := h.md.below hb
    own := h.own.below hb
    but := h.but.trans (ButS.of_below hb)
    x0 := keep_cell hb h.x0
    x1 := keep_cell hb h.x1
    x2 := keep_cell hb h.x2
    x3 := keep_cell hb h.x3
    fX := fun j => keep_frozen (p := ⟨w.heap.size, j, none⟩) hb (show w.heap.size < wr.heap.size from Lib.lt_of_cell h.x0) (h.fX j) }
section
variable {w wr w0 w1 w2 w4 : World} {base : Nat} {v : Value} {L : List NdM} {R : Nat → Prop} {ts : List Tr} {vR : Value} {k : Int} {vN v' : Value} {L' : List NdM} {R' : Nat → Prop}
theorem LQ.lt (h : LQ w wr base v L R ts vR k vN v' L' R') : w.heap.size < wr.heap.size := Lib.lt_of_cell h.x0
theorem LQ.call (h : LQ w wr base v L R ts vR k vN v' L' R') (hb0 : Below wr.heap.size wr w0) (hbu : ButS (ChN v') w0 w1) :
    w1.cell? ⟨w.heap.size, 1, none⟩ = some vR ∧ OwnR 3 1 inW (w.heap.size + 1) w1 vR (flL ts (L.map NdM.n) []).2 := by
  have h0 := h.below hb0
  have hX : ¬ ChN v' w.heap.size := h.vX
  exact ⟨hbu.cell (p := ⟨w.heap.size, 1, none⟩) hX h0.x1, OwnR.block h0.own fun g hg => hbu.block g (World.ownsRow.lt h0.own g hg).2 (h.apart g hg).1⟩
theorem LQ.next (h : LQ w wr base v L R ts vR k vN v' L' R')  (hb0 : Below wr.heap.size wr w0) {t : Tr} {v2 : Value} {L2 : List NdM} {R2 : Nat → Prop} (hM2 : OwN w1 base v2 L2 R2) (hf2 : L2.map NdM.n = fl t (L'.map NdM.n))
    (hR2 : ∀ g, R2 g → R' g ∨ w0.heap.size ≤ g) (hv2 : v2.ownBlock = v'.ownBlock ∨ ∃ k, v2.ownBlock = some k ∧ w0.heap.size ≤ k) (hbu : ButS (ChN v') w0 w1) (hb2 : Below w1.heap.size w1 w2)
    {vR4 : Value} (ho : OwnR 3 1 inW (w.heap.size + 1) w4 vR4 ((flL ts (L.map NdM.n) []).2 ++ [-(L2.length : Int)])) (hg : w2.grownBy w4 vR.ownBlock) (hat : vR4.ownBlock = vR.ownBlock ∨ ∃ k, vR4.ownBlock = some k ∧ w2.heap.size ≤ k) :
    LQ w (w4.setCell ⟨w.heap.size, 1, none⟩ vR4) base v L R (ts ++ [t]) vR4 k vN v2 L2 R2 ∧ ButS (fun g => ChN v' g ∨ vR.ownBlock = some g ∨ g = w.heap.size) wr (w4.setCell ⟨w.heap.size, 1, none⟩ vR4) := by
  have h0 := h.below hb0
  have hlt0 := h0.lt
  have hs0 := hb0.size
  have hs1 := hbu.size
  have hs2 := hb2.size
  have hs4 := hg.size
  have hvR := fun g (e : vR.ownBlock = some g) => World.ownsRow.lt h.own g e
  have hbs := h.bs
  -- from the child's call on, all but the Refs' own block and the node's stay
  have hbu4 : ButS (fun g => vR.ownBlock = some g ∨ g = w.heap.size) w1 (w4.setCell ⟨w.heap.size, 1, none⟩ vR4) :=
    ((ButS.of_below hb2).grown hg fun k hk => .inl (.inl hk)).setCell (p := ⟨w.heap.size, 1, none⟩) (.inl (.inr rfl)) _
  have hv2g : ∀ g, g < w0.heap.size → v2.ownBlock = some g → v'.ownBlock = some g := fun g hgl e => by
    rcases hv2 with q | ⟨j, q, hj⟩
    · rw [← q]; exact e
    · rw [q] at e; have := Option.some.inj e; omega
  have hR2g : ∀ g, g < w0.heap.size → R2 g → R' g := fun g hgl e => by
    rcases hR2 g e with q | q
    · exact q
    · omega
  have hM4 : OwN (w4.setCell ⟨w.heap.size, 1, none⟩ vR4) base v2 L2 R2 := hM2.but hbu4 fun g hg => by
    rcases hg with hg | hg
    · have := hvR g hg
      exact ⟨fun e => (h.apart g hg).1 (hv2g g (by omega) e), fun e => (h.apart g hg).2 (hR2g g (by omega) e)⟩
    · subst hg
      exact ⟨fun e => h.vX (hv2g _ (by omega) e), fun e => h.rX (hR2g _ (by omega) e)⟩
  have hX : ¬ ChN v' w.heap.size := h.vX
  have hgX : w4.heap[w.heap.size]? = w1.heap[w.heap.size]? := (hg.block _ (by omega) fun e => by have := (hvR w.heap.size (by first | exact e | exact e.symm)).1; omega).trans (hb2.block _ (by omega))
  have hc : ∀ (j : Nat) (u : Value), w0.cell? ⟨w.heap.size, j, none⟩ = some u → w4.cell? ⟨w.heap.size, j, none⟩ = some u := fun j u hu => by
    rw [World.cell?_of_block (w := w1) hgX]
    exact hbu.cell (p := ⟨w.heap.size, j, none⟩) hX hu
  have hne : ∀ i j : Nat, i ≠ j → (⟨w.heap.size, i, none⟩ : Addr) ≠ ⟨w.heap.size, j, none⟩ := fun i j hij e => hij (by have := congrArg Addr.off e; simpa using this)
  have hall : ButS (fun g => ChN v' g ∨ vR.ownBlock = some g ∨ g = w.heap.size) wr (w4.setCell ⟨w.heap.size, 1, none⟩ vR4) :=
    ((ButS.of_below hb0).trans (hbu.mono fun g hg => .inl hg)).trans (hbu4.mono fun g hg => .inr hg)
  have hv24 : v2.ownBlock = v.ownBlock ∨ ∃ k, v2.ownBlock = some k ∧ w.heap.size ≤ k := by
    rcases hv2 with q | ⟨j, q, hj⟩
    · rw [q]; exact h.v2
    · exact .inr ⟨j, q, by omega⟩
  refine ⟨⟨hbs, hM4, by rw [flL_snoc, hf2, h.eq], ?_, fun g hg4 => ?_, fun g hg2 => ?_, fun e => h.rX (hR2g _ (by omega) e), hv24, fun e => h.vX (hv2g _ (by omega) e), ?_, ?_, ?_, ?_, ?_, fun j => ?_⟩, hall⟩
  · rw [flL_snoc]
    have hl : (fl t (flL ts (L.map NdM.n) []).1).length = L2.length := by
      rw [← h.eq, ← hf2, List.length_map]
    show OwnR _ 1 inW _ _ _ ((flL ts (L.map NdM.n) []).2 ++ [-((fl t (flL ts (L.map NdM.n) []).1).length : Int)])
    rw [hl]
    have hb := (Below.refl 0 w4).setCell (p := (⟨w.heap.size, 1, none⟩ : Addr)) (Nat.zero_le _) vR4
    refine World.ownsRow.kept ho (row := some w.heap.size) ⟨hb.os, hb.tape, hb.output, hb.size, fun k _ hk => Below.heap_setCell w4 _ vR4 k fun e => hk (by rw [e])⟩ (.inr fun e => ?_)
    have := (World.ownsRow.lt ho w.heap.size (by first | exact e | exact e.symm)).1
    omega
  · rcases hat with q | ⟨j, q, hj⟩
    · rw [q] at hg4
      have := hvR g hg4
      exact ⟨fun e => (h.apart g hg4).1 (hv2g g (by omega) e), fun e => (h.apart g hg4).2 (hR2g g (by omega) e)⟩
    · rw [q] at hg4
      obtain rfl := Option.some.inj hg4
      refine ⟨fun e => ?_, fun e => ?_⟩
      · have := (World.ownsRow.lt hM2.own j e).2; omega
      · have := (hM2.rR j e).2.1; omega
  · rcases hR2 g hg2 with q | q
    · exact h.rR g q
    · exact .inr (by omega)
  · refine (h0.but.trans' hbu fun g hgl e => ?_).trans' hbu4 fun g hgl e => ?_
    · have e : v'.ownBlock = some g := e
      rcases h.v2 with q | ⟨j, q, hj⟩
      · exact (show v.ownBlock = some g by rw [← q]; exact e)
      · rw [q] at e; have := Option.some.inj e; omega
    · rcases e with e | e
      · have := hvR g e; omega
      · omega
  · rw [World.cell?_setCell_other _ _ _ _ (hne 1 0 (by decide))]; exact hc 0 _ h0.x0
  · exact World.cell?_setCell_same _ _ _ (hc 1 _ h0.x1)
  · rw [World.cell?_setCell_other _ _ _ _ (hne 1 2 (by decide))]; exact hc 2 _ h0.x2
  · rw [World.cell?_setCell_other _ _ _ _ (hne 1 3 (by decide))]; exact hc 3 _ h0.x3
  · rw [World.frozen?_setCell, World.frozen?_of_block (w := w1) hgX]
    exact hbu.frozen (p := ⟨w.heap.size, j, none⟩) hX hlt0 (h0.fX j)
theorem LQ.grown (h : LQ w wr base v L R ts vR k vN v' L' R') (hb0 : Below wr.heap.size wr w0) (hbu : ButS (ChN v') w0 w1) (hb2 : Below w1.heap.size w1 w2) (hg : w2.grownBy w4 vR.ownBlock) :
    w4.cell? ⟨w.heap.size, 1, none⟩ = some vR ∧ w4.frozen? ⟨w.heap.size, 1, none⟩ = false := by
  have h0 := h.below hb0
  have hlt0 := h0.lt
  have hs0 := hb0.size
  have hs1 := hbu.size
  have hs2 := hb2.size
  have hbs := h.bs
  have hX : ¬ ChN v' w.heap.size := h.vX
  have hgX : w4.heap[w.heap.size]? = w1.heap[w.heap.size]? := (hg.block _ (by omega) fun e => by have := (World.ownsRow.lt h.own w.heap.size (by first | exact e | exact e.symm)).1; omega).trans (hb2.block _ (by omega))
  exact ⟨by rw [World.cell?_of_block (w := w1) hgX]; exact hbu.cell (p := ⟨w.heap.size, 1, none⟩) hX h0.x1, by rw [World.frozen?_of_block (w := w1) hgX]; exact hbu.frozen (p := ⟨w.heap.size, 1, none⟩) hX hlt0 (h0.fX 1)⟩
theorem LQ.start {W1 : World} (hM : OwN w base v L R) (hM1 : OwN W1 base v L R) (hb : Below w.heap.size w W1) (x0 : W1.cell? ⟨w.heap.size, 0, none⟩ = some (.int .i64 k)) (x1 : W1.cell? ⟨w.heap.size, 1, none⟩ = some (.slice none 0 0)) (x2 : W1.cell? ⟨w.heap.size, 2, none⟩ = some vN) (x3 : W1.cell? ⟨w.heap.size, 3, none⟩ = some (.string ⟨#[]⟩)) (hf : ∀ j, W1.frozen? ⟨w.heap.size, j, none⟩ = false) :
    LQ w W1 base v L R [] (.slice none 0 0) k vN v L R where
  bs := hM.bs
  md := hM1
  eq := by rw [flL]
  own := by rw [flL]; exact World.ownsRow_nil _ _ _ _
  apart := fun g hg => by cases hg
  rR := fun g hg => .inl hg
  rX := fun e => by have := (hM.rR _ e).2.1; omega
  v2 := .inl rfl
  vX := fun e => by have := (World.ownsRow.lt hM.own _ e).2; omega
  but := ButS.of_below hb
  x0 := x0
  x1 := x1
  x2 := x2
  x3 := x3
  fX := hf
theorem LQ.kind (h : LQ w wr base v L R ts vR k vN v' L' R') (k' : Int) : LQ w (wr.setCell ⟨w.heap.size, 0, none⟩ (.int .i64 k')) base v L R ts vR k' vN v' L' R' := by
  have hne : ∀ i j : Nat, i ≠ j → (⟨w.heap.size, i, none⟩ : Addr) ≠ ⟨w.heap.size, j, none⟩ := fun i j hij e => hij (by have := congrArg Addr.off e; simpa using this)
  have hbu : ButS (fun g => g = w.heap.size) wr (wr.setCell ⟨w.heap.size, 0, none⟩ (.int .i64 k')) := ButS.setCell (P := fun g => g = w.heap.size) (p := ⟨w.heap.size, 0, none⟩) (ButS.refl _ _) (.inl rfl) _
  exact { h with
    md := h.md.but hbu fun g hg => by subst hg; exact ⟨h.vX, h.rX⟩
    own := OwnR.block h.own fun g hg => hbu.block g (World.ownsRow.lt h.own g hg).2 fun e => by have := (World.ownsRow.lt h.own g hg).1; omega
    but := h.but.trans' hbu fun g hgl e => by omega
    x0 := World.cell?_setCell_same _ _ _ h.x0
    x1 := by rw [World.cell?_setCell_other _ _ _ _ (hne 0 1 (by decide))]; exact h.x1
    x2 := by rw [World.cell?_setCell_other _ _ _ _ (hne 0 2 (by decide))]; exact h.x2
    x3 := by rw [World.cell?_setCell_other _ _ _ _ (hne 0 3 (by decide))]; exact h.x3
    fX := fun j => by rw [World.frozen?_setCell]; exact h.fX j }
theorem LQ.nums (h : LQ w wr base v L R ts vR k vN v' L' R') (u : Value) : LQ w (wr.setCell ⟨w.heap.size, 2, none⟩ u) base v L R ts vR k u v' L' R' := by
  have hne : ∀ i j : Nat, i ≠ j → (⟨w.heap.size, i, none⟩ : Addr) ≠ ⟨w.heap.size, j, none⟩ := fun i j hij e => hij (by have := congrArg Addr.off e; simpa using this)
  have hbu : ButS (fun g => g = w.heap.size) wr (wr.setCell ⟨w.heap.size, 2, none⟩ u) := ButS.setCell (P := fun g => g = w.heap.size) (p := ⟨w.heap.size, 2, none⟩) (ButS.refl _ _) (.inl rfl) _
  exact { h with
    md := h.md.but hbu fun g hg => by subst hg; exact ⟨h.vX, h.rX⟩
    own := OwnR.block h.own fun g hg => hbu.block g (World.ownsRow.lt h.own g hg).2 fun e => by have := (World.ownsRow.lt h.own g hg).1; omega
    but := h.but.trans' hbu fun g hgl e => by omega
    x0 := by rw [World.cell?_setCell_other _ _ _ _ (hne 2 0 (by decide))]; exact h.x0
    x1 := by rw [World.cell?_setCell_other _ _ _ _ (hne 2 1 (by decide))]; exact h.x1
    x2 := World.cell?_setCell_same _ _ _ h.x2
    x3 := by rw [World.cell?_setCell_other _ _ _ _ (hne 2 3 (by decide))]; exact h.x3
    fX := fun j => by rw [World.frozen?_setCell]; exact h.fX j }
theorem LQ.done (h : LQ w wr base v L R ts vR k vN v' L' R') {nums : List Int} {B : Option Addr} {RN : Nat → Prop} (hN : RowI wr RN B nums) (hRN : ∀ g, RN g → g < wr.heap.size → w.heap.size < g ∧ v'.ownBlock ≠ some g) :
    ∃ A ca R2, vR = .slice A (flL ts (L.map NdM.n) []).2.length ca ∧ OwN wr base v' L' R2 ∧ RowI wr R2 A (flL ts (L.map NdM.n) []).2 ∧ RowI wr R2 B nums ∧ (∀ g, R2 g → R g ∨ w.heap.size ≤ g) := by
  obtain ⟨A, ca, rfl, hr⟩ := own_rowI h.own
  have hbs := h.bs
  have hA : RowI wr (fun g => (.slice A (flL ts (L.map NdM.n) []).2.length ca : Value).ownBlock = some g) A (flL ts (L.map NdM.n) []).2 := by
    rcases hr with e | ⟨g, o, rfl, hg, hgl, hc⟩
    · exact .inl e
    · exact .inr ⟨g, o, rfl, rfl, hgl, hc⟩
  refine ⟨A, ca, fun g => R' g ∨ (g < wr.heap.size ∧ ((.slice A (flL ts (L.map NdM.n) []).2.length ca : Value).ownBlock = some g ∨ RN g)), rfl, h.md.mono (fun g hg => .inl hg) fun g hg => ?_, hA.mono fun g hg hl => .inr ⟨hl, .inl hg⟩, hN.mono fun g hg hl => .inr ⟨hl, .inr hg⟩, fun g hg => ?_⟩
  · rcases hg with hg | ⟨hl, hg | hg⟩
    · exact h.md.rR g hg
    · have := World.ownsRow.lt h.own g hg
      exact ⟨by omega, hl, (h.apart g hg).1⟩
    · have := hRN g hg hl
      exact ⟨by omega, hl, this.2⟩
  · rcases hg with hg | ⟨hl, hg | hg⟩
    · exact h.rR g hg
    · have := World.ownsRow.lt h.own g hg
      exact .inr (by omega)
    · have := (hRN g hg hl).1
      exact .inr (by omega)
end
end Go.Proofs.YtjgadggehpmdkaaGreatDoor
namespace Go.Proofs.YtjgadggehpmdkaaGreatDoor
open Go.RowKit
theorem leaf_rows {w W : World} {base : Nat} {v : Value} {L : List NdM} {R : Nat → Prop} (h : OwN w base v L R) (hb : Below w.heap.size w W) {T : TypeId} {k : Int} (hn : W.heap[w.heap.size]? = some (.cells #[.int .i64 k] T (0, 0))) :
    OwN W base v L (fun g => R g ∨ g = w.heap.size) ∧ RowI W (fun g => R g ∨ g = w.heap.size) (some ⟨w.heap.size, 0, none⟩) [k] := by
  have hW := (Array.getElem?_eq_some_iff.1 hn).1
  refine ⟨(h.below hb).mono (fun g hg => .inl hg) fun g hg => ?_, rowI_lit hn rfl (.inr rfl)⟩
  rcases hg with hg | hg
  · exact (h.below hb).rR g hg
  · subst hg
    exact ⟨h.bs, hW, fun e => by have := (World.ownsRow.lt h.own _ e).2; omega⟩
theorem one_row2 (w : World) (o1 : Obj) (q : NdM) : AtR ndW 4 ((w.alloc o1).alloc (.cells (ndW q).toArray 102)).drew (w.heap.size + 1) 0 [q] := by
  have h := one_row (f := ndW) (n := 4) (E := 102) (w.alloc o1) q
  have e : (w.alloc o1).heap.size = w.heap.size + 1 := by simp
  rw [e] at h
  exact h
set_option maxHeartbeats 16000000 in
set_option maxRecDepth 10000 in
theorem rn_leaf {w : World} {base : Nat} {v : Value} {L : List NdM} {R : Nat → Prop} (hM : OwN w base v L R) (x : En) (lv : Int) {A : Option Addr} {ca : Nat} {Q : Nat → Prop} (hl : RowE w Q A [x]) (hlen : L.length + 1 ≤ 1000000) :
    Calls Tryz.prog 39 #[.slice A 1 ca, .int .i64 lv, v] w fun e w' => NQ w base v L R (leafT x) e w' := by
  obtain ⟨i0, hi0, hz0, hz1, hz2⟩ := info_parts rnode_info
  obtain ⟨g, o, rfl, _, hgl, hat⟩ := hl.at (i := 0) (by simp)
  obtain ⟨q0, q1⟩ := hat.two (i := 0) (x := x) rfl
  rw [Nat.zero_mul, Nat.add_zero] at q0
  rw [Nat.zero_mul, Nat.add_zero] at q1
  obtain ⟨O, co, rfl, _, _⟩ := OwnR.shape (f := ndW) (fun _ => rfl) hM.own
  have HM := Lib.hid hM
  obtain ⟨N, hN⟩ : ∃ N, L.length + 1 = N := ⟨_, rfl⟩
  have HN := Lib.hid hN
  rw [hN] at hlen
  have hbs := hM.bs
  obtain ⟨kx, tx⟩ := x
  clear hat hl hM hN
  go_enter Tryz.func39, Tryz.ntmps39
  go_wp2_with fail
  go_region_law (first
    | (refine step_append_rows (f := ndW) (n := 4) (E := 102) (nb := 72) (X := L) (base := base) (by rfl) _ _ (by rfl) (by rfl) (OwnR.below HM.out.own (by with_reducible repeat' (first | exact Below.refl _ _ | exact Nat.le_refl _ | refine Below.drew ?_ | refine Below.alloc ?_ ?_ _ | refine nl_al ?_ | refine nl_d ?_))) (L2 := [(⟨⟨1, [], [kx], tx⟩, none, 0, some ⟨w.heap.size, 0, none⟩, 1⟩ : NdM)]) (by rfl) (by exact one_row2 w _ (⟨⟨1, [], [kx], tx⟩, none, 0, some ⟨w.heap.size, 0, none⟩, 1⟩ : NdM)) (by simp) (N := N) (by rw [HN.out.symm]; rfl) (Z := L ++ [(⟨⟨1, [], [kx], tx⟩, none, 0, some ⟨w.heap.size, 0, none⟩, 1⟩ : NdM)]) rfl Tryz.underlying63 hi0 hz0 hz1 hz2 rfl (by decide) (by decide) (fun _ => rfl) ndW_one (by omega) (by first | omega | (simp; done) | (simp; omega)) ?_; intro g4 k4 w4 ho4 hg4 hat4 hl4
       have hR := leaf_rows HM.out (W := ((w.alloc (.cells #[.int .i64 kx] 3)).alloc (.cells (ndW (⟨⟨1, [], [kx], tx⟩, none, 0, some ⟨w.heap.size, 0, none⟩, 1⟩ : NdM)).toArray 102)).drew) (by with_reducible repeat' (first | exact Below.refl _ _ | exact Nat.le_refl _ | refine Below.drew ?_ | refine Below.alloc ?_ ?_ _ | refine nl_al ?_)) (by exact heapA_old w _ _)
       have hNQ := OwN.app (w := w) (t := leafT ⟨kx, tx⟩) (L := L) (n := ⟨1, [], [kx], tx⟩) (v := .slice O L.length co) hR.1 (.inl rfl) hR.2 (fl_leafD (⟨kx, tx⟩ : En) _).symm (fun g hg => hg.imp id (fun e => Nat.le_of_eq e.symm)) (.inl rfl) (ButS.of_below (by with_reducible repeat' (first | exact Below.refl _ _ | exact Nat.le_refl _ | refine Below.drew ?_ | refine Below.alloc ?_ ?_ _ | refine nl_al ?_))) (Below.refl _ _) ho4 hg4 (hat4.elim (fun e => .inl e.symm) (fun e => .inr ⟨g4, rfl, Nat.le_of_eq e.symm⟩))
       have HNQ := Lib.hid hNQ
       clear hR hNQ ho4 hg4 hat4 hl4)
    | fail)
  all_goals
    go_wp2_with fail
    go_ret
    exact HNQ.out
end Go.Proofs.YtjgadggehpmdkaaGreatDoor
namespace Go.Proofs.YtjgadggehpmdkaaGreatDoor
open Go.RowKit
theorem rtone_any (l : List En) (hne : l ≠ []) (A : Option Addr) (ca : Nat) (w : World) {Q : Nat → Prop} (hl : RowE w Q A l) (hll : l.length ≤ 1000000) :
    Calls Tryz.prog 58 #[.slice A l.length ca] w fun e w' => e = .returned (.bool (oneH l)) ∧ ∃ n, w' = w.drewN n := by
  cases l with
  | nil => exact absurd rfl hne
  | cons x r => exact rone1_any x r A ca w hl hll
set_option maxHeartbeats 16000000 in
set_option maxRecDepth 10000 in
theorem rn_buk {w : World} {base : Nat} {v : Value} {L : List NdM} {R : Nat → Prop} (hM : OwN w base v L R) (l : List En) (h2 : 2 ≤ l.length) (hll : l.length ≤ 100000) (hoh : oneH l = true) (lv : Int) {A : Option Addr} {ca : Nat} (hca : l.length ≤ ca) {Q : Nat → Prop} (hl : RowE w Q A l) (hQ : ∀ g, Q g → ¬ ChN v g) (hlen : (fl (.mk 2 [] [] (l.map leafT)) (L.map NdM.n)).length ≤ 1000000) :
    Calls Tryz.prog 39 #[.slice A l.length ca, .int .i64 lv, v] w fun e w' => NQ w base v L R (.mk 2 [] [] (l.map leafT)) e w' := by
  obtain ⟨i0, hi0, hz0, hz1, hz2⟩ := info_parts rnode_info
  have hOn := rtone_any l (fun e => by rw [e] at h2; simp at h2) A ca w hl (by omega)
  rw [hoh] at hOn
  have HOn := Lib.hid hOn
  have hlp : 0 < l.length := by omega
  obtain ⟨g, o, rfl, _, _, _⟩ := hl.at hlp
  have HM := Lib.hid hM
  have HL := Lib.hid hl
  have HQ := Lib.hid hQ
  have dl0 : ((l.length : Int) == 0) = false := by rw [beq_eq_false_iff_ne]; omega
  have dl1 : ((l.length : Int) == 1) = false := by rw [beq_eq_false_iff_ne]; omega
  clear hOn hM hl hQ hoh
  go_enter Tryz.func39, Tryz.ntmps39
  go_wp2_with fail
  refine HOn.out.mono ?_; rintro e w1 ⟨rfl, nd, rfl⟩
  have HB1 := Lib.hid (below_drewN (Below.refl w.heap.size w) nd)
  generalize w.drewN nd = w1 at *
  have hblk := heap_alloc_new w1 (.cells #[.int .i64 2, .slice none 0 0, .slice none 0 0, .string ⟨#[]⟩] 102)
  have hbW : Below w1.heap.size w1 (w1.alloc (.cells #[.int .i64 2, .slice none 0 0, .slice none 0 0, .string ⟨#[]⟩] 102)) := (Below.refl _ _).alloc (Nat.le_refl _) _
  have hM1 := HM.out.below HB1.out
  have hLQ := LQ.start (k := 2) (vN := .slice none 0 0) hM1 (hM1.below hbW) hbW (Lib.cell_of_heap hblk 0) (Lib.cell_of_heap hblk 1) (Lib.cell_of_heap hblk 2) (Lib.cell_of_heap hblk 3) (fun j => by unfold World.frozen?; rw [hblk]; simp)
  have HLQ0 := Lib.hid hLQ
  have hL1 : RowE w1 (fun g => ¬ ChN v g ∧ g < w1.heap.size) (some ⟨g, o, none⟩) l := by
    have h1 := HL.out.below HB1.out
    exact h1.mono fun g hg hl => ⟨HQ.out g hg, hl⟩
  have HL1 := Lib.hid hL1
  clear hblk hbW hM1 hLQ HL hL1 HM HQ HOn
  go_wp2_with fail
  go_loopw [2, 9] (fun vo vi wr => ∃ (i : Nat) (vR : Value) (L' : List NdM) (R' : Nat → Prop), i ≤ l.length ∧ vi = .int .i64 (i : Int) ∧ Hid (LQ w1 wr base v L R ((l.take i).map leafT) vR 2 (.slice none 0 0) vo L' R')) (fun _ vi _ => l.length - (RowKit.intOf vi).toNat)
  case atStart => exact ⟨0, _, _, _, Nat.zero_le _, rfl, HLQ0⟩
  case round =>
    clear HLQ0
    obtain ⟨i, vR, L', R', hi, rfl, HLQ⟩ := hrel
    by_cases hlt : i < l.length
    · obtain ⟨x, hx⟩ : ∃ x, l[i]? = some x := ⟨_, List.getElem?_eq_getElem hlt⟩
      have HT : Hid (((l.take i).map leafT) ++ [leafT x] = (l.take (i + 1)).map leafT) := Lib.hid (by rw [List.take_add_one, hx, List.map_append]; rfl)
      have hrow : RowE wr (fun _ => True) (some ⟨g, o + i * 2, none⟩) [x] := by
        have hk := HL1.out.kept (HLQ.out.but.keptQ fun g hg => hg.1)
        obtain ⟨g', o', e, hg', hgl', hat⟩ := hk.at hlt
        obtain ⟨rfl, rfl⟩ : g = g' ∧ o = o' := by injection e with e; injection e with a b; exact ⟨a, b⟩
        refine .inr ⟨g, o + i * 2, rfl, trivial, hgl', ?_⟩
        have := hat.part i 1
        rwa [List.drop_eq_getElem_cons hlt, List.take_succ_cons, List.take_zero, show l[i] = x from (List.getElem?_eq_some_iff.1 hx).2] at this
      have hlx : L'.length + 1 ≤ 1000000 := by
        have h1 := flL_mono (l.map leafT) (i + 1) (L.map NdM.n) []
        rw [← List.map_take, ← HT.out, flL_snoc, ← HLQ.out.eq, fl_leafD, List.length_append, List.length_map] at h1
        exact Nat.le_trans h1 (Nat.le_trans (fl_ge 2 [] [] _ _) hlen)
      have HC := Lib.hid (rn_leaf HLQ.out.md x lv (A := some ⟨g, o + i * 2, none⟩) (ca := ca - i) hrow hlx)
      have r1 := HLQ.out.x1
      have zX := HLQ.out.lt
      have hlr : (flL ((l.take i).map leafT) (L.map NdM.n) []).2.length = i := by
        obtain ⟨m, e, hm⟩ := flL_refs ((l.take i).map leafT) (L.map NdM.n) []
        rw [e, List.nil_append, hm, List.length_map, List.length_take]; omega
      have HLr := Lib.hid hlr
      obtain ⟨j0, hj0, hk0, hk1, hk2⟩ := info_parts int_info
      have hkI : (i : Int) < (l.length : Int) := by omega
      have hkw : IntKind.i64.wrap ((i : Int) + 1) = (i : Int) + 1 := by rw [IntKind.wrap_i64]; omega
      have hkv : (i : Int) + 1 ≤ (ca : Int) := by omega
      have hkvN : i + 1 ≤ ca := by omega
      have hkvL : i < ca := by omega
      have hkvI : (i : Int) < (ca : Int) := by omega
      have hkvZ : ¬ (ca - i = 0) := by omega
      have hkvE : ¬ (ca = i) := by omega
      have hki0 : (0 : Int) ≤ (i : Int) := by omega
      have hkk : (i : Int) ≤ (i : Int) + 1 := by omega
      clear hx hrow hlr
      go_wp2_with fail
      refine HC.out.mono ?_; rintro e w2 ⟨v2, M2, R2, rfl, hM2, hf2, hR2, hv2, hbu2⟩
      have hcl := LQ.call HLQ.out (Below.refl _ _) hbu2
      have y1 := hcl.1
      have zX2 : w1.heap.size < w2.heap.size := Lib.lt_of_cell y1
      have HO2 := Lib.hid hcl.2
      obtain ⟨O2, c2, rfl, _, _⟩ := OwnR.shape (f := ndW) (fun _ => rfl) hM2.own
      have hm2 : M2.length ≤ 1000000 := by
        have := congrArg List.length hf2
        rw [List.length_map, fl_leafD, List.length_append, List.length_map] at this
        simp only [List.length_cons, List.length_nil] at this
        omega
      have HM2 := Lib.hid hM2
      have HF2 := Lib.hid hf2
      have HR2 := Lib.hid hR2
      have HV2 := Lib.hid hv2
      have HB2 := Lib.hid hbu2
      clear hcl hM2 hf2 hR2 hv2 hbu2 HC r1
      go_wp2_with (at_builtin; refine of_stop ?_)
      refine stop_of ?_
      refine wpList_append_rows (f := inW) (n := 1) (E := 3) (nb := 8) (X := (flL ((l.take i).map leafT) (L.map NdM.n) []).2) (base := w1.heap.size + 1) rfl _ _ rfl rfl (OwnR.below HO2.out (by with_reducible repeat' (first | exact Below.refl _ _ | exact Nat.le_refl _ | refine Below.drew ?_ | refine Below.alloc ?_ ?_ _ | refine nl_al ?_ | refine nl_d ?_))) (L2 := [-(M2.length : Int)]) rfl (one_row _ _) (by simp) (N := i + 1) (by rw [HLr.out]; rfl) (Z := (flL ((l.take i).map leafT) (L.map NdM.n) []).2 ++ [-(M2.length : Int)]) rfl Tryz.underlying32 hj0 hk0 hk1 hk2 rfl (by decide) (by decide) (fun _ => rfl) inW_one (by omega) (by simp; omega) ?_
      intro g4 k4 w4 ho4 hg4 hat4 hl4
      have hgr := LQ.grown HLQ.out (Below.refl _ _) HB2.out (w2 := w2.alloc _) (by exact (Below.refl _ _).alloc (Nat.le_refl _) _) hg4
      have f4 := hgr.2
      have c4 := hgr.1
      have hN4 := LQ.next HLQ.out (Below.refl _ _) HM2.out HF2.out HR2.out HV2.out HB2.out (w2 := w2.alloc _) (by exact (Below.refl _ _).alloc (Nat.le_refl _) _) ho4 hg4 (hat4.elim (fun e => .inl e.symm) (fun e => .inr ⟨g4, rfl, Nat.le_of_eq e.symm⟩))
      have hN5 := hN4.1
      rw [HT.out] at hN5
      have HN5 := Lib.hid hN5
      clear hgr ho4 hg4 hat4 hN4 hN5 HM2 HF2 HR2 HV2 HB2 HO2 y1 HLQ HT HLr
      go_wp2_with fail
      go_roundw
      case rel => exact ⟨i + 1, _, _, _, by omega, by go_num, HN5⟩
      case measure => simp [RowKit.intOf]; omega
    · have hii : i = l.length := by omega
      subst hii
      have hq := HLQ.out
      rw [List.take_length] at hq
      obtain ⟨A2, ca2, R2, rfl, hO, hA, hB, hR⟩ := LQ.done hq (nums := []) (B := none) (RN := fun _ => False) (.inl rfl) (fun g hg => hg.elim)
      obtain ⟨O2, co2, rfl, _, _⟩ := OwnR.shape (f := ndW) (fun _ => rfl) hq.md.own
      obtain ⟨rs, hrs⟩ : ∃ rs, (flL (l.map leafT) (L.map NdM.n) []).2 = rs := ⟨_, rfl⟩
      rw [hrs] at hA hq
      have hx0 := hq.x0
      have hx1 := hq.x1
      have hx2 := hq.x2
      have hx3 := hq.x3
      have hf : L'.map NdM.n ++ [⟨2, rs, [], []⟩] = fl (.mk 2 [] [] (l.map leafT)) (L.map NdM.n) := by rw [fl, hq.eq, hrs]
      have hlen2 : L'.length + 1 ≤ 1000000 := by
        have := congrArg List.length hf
        rw [List.length_append, List.length_map] at this
        simp only [List.length_cons, List.length_nil] at this
        omega
      obtain ⟨N, hN⟩ : ∃ N, L'.length + 1 = N := ⟨_, rfl⟩
      rw [hN] at hlen2
      have HN := Lib.hid hN
      have hbs := hq.bs
      have zX := hq.lt
      have HO := Lib.hid hO
      have HA := Lib.hid hA
      have HBn := Lib.hid hB
      have HF := Lib.hid hf
      have HR := Lib.hid hR
      have HV := Lib.hid hq.v2
      have HBu := Lib.hid hq.but
      clear hO hA hB hf hR hq HLQ hN hlen
      go_wp2_with (at_builtin; refine of_stop ?_)
      refine stop_of ?_
      refine wpList_append_rows (f := ndW) (n := 4) (E := 102) (nb := 72) (X := L') (base := base) rfl _ _ rfl rfl (OwnR.below HO.out.own (by with_reducible repeat' (first | exact Below.refl _ _ | exact Nat.le_refl _ | refine Below.drew ?_ | refine Below.alloc ?_ ?_ _ | refine nl_al ?_ | refine nl_d ?_))) (L2 := [(⟨⟨2, rs, [], []⟩, A2, ca2, none, 0⟩ : NdM)]) rfl (one_row wr (⟨⟨2, rs, [], []⟩, A2, ca2, none, 0⟩ : NdM)) (by simp) (N := N) HN.out (Z := L' ++ [(⟨⟨2, rs, [], []⟩, A2, ca2, none, 0⟩ : NdM)]) rfl Tryz.underlying63 hi0 hz0 hz1 hz2 rfl (by decide) (by decide) (fun _ => rfl) ndW_one (by omega) (by simp; omega) ?_
      intro g4 k4 w4 ho4 hg4 hat4 hl4
      have hNQ := OwN.app (w := w1) (t := .mk 2 [] [] (l.map leafT)) (L := L) HO.out HA.out HBn.out HF.out HR.out HV.out HBu.out (by with_reducible repeat' (first | exact Below.refl _ _ | exact Nat.le_refl _ | refine Below.drew ?_ | refine Below.alloc ?_ ?_ _ | refine nl_al ?_ | refine nl_d ?_)) ho4 hg4 (hat4.elim (fun e => .inl e.symm) (fun e => .inr ⟨g4, rfl, Nat.le_of_eq e.symm⟩))
      have HNQ := Lib.hid (NQ.from HB1.out hNQ)
      clear hNQ ho4 hg4 hat4 hl4 HO HA HBn HF HR HV HBu hx0 hx1 hx2 hx3
      go_wp2_with fail
      go_ret
      exact HNQ.out
end Go.Proofs.YtjgadggehpmdkaaGreatDoor
