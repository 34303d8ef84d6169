/- Texts joined: NdS, TsP, TsQ, TsR, TsT, TsV, NdU. -/
import Derived.Test.YtjgadggehpmdkaaGreatDoorTk05
import Derived.Test.YtjgadggehpmdkaaGreatDoorTk03
import Derived.Test.YtjgadggehpmdkaaGreatDoorTk24
import Derived.Test.YtjgadggehpmdkaaGreatDoorTk19
import Derived.Test.YtjgadggehpmdkaaGreatDoorTk13
import Derived.Test.YtjgadggehpmdkaaGreatDoorTk17
import Derived.Deep.RegionHeld3
set_option linter.all false
namespace Go.Proofs.YtjgadggehpmdkaaGreatDoor
open Go.RowKit
theorem make_node (w : World) : (Instr.makeSlice 63 (.int .i64 1) (.int .i64 1)).run Tryz.prog w = .ok (.slice (some ⟨w.heap.size, 0, none⟩) 1 1) (w.alloc (.cells #[.int .i64 0, .slice none 0 0, .slice none 0 0, .string ⟨#[]⟩] 102)) := by
  obtain ⟨i1, hi1, hy0, hy1, hy2⟩ := info_parts rnode_info
  have h := run_make (P := Tryz.prog) w 63 102 i1 _ Tryz.underlying63 hi1 hy0 .i64 .i64 1 1 (by decide) (by decide) (by rw [hy2]; decide) (by decide)
  rw [hy1, show madeCells (Value.agg #[.int .i64 0, .slice none 0 0, .slice none 0 0, .string ⟨#[]⟩]).cells (Int.toNat 1 * 4) = #[.int .i64 0, .slice none 0 0, .slice none 0 0, .string ⟨#[]⟩] by kernel_rfl] at h
  exact h
theorem make_bool (w : World) : (Instr.makeSlice 77 (.int .i64 1) (.int .i64 1)).run Tryz.prog w = .ok (.slice (some ⟨w.heap.size, 0, none⟩) 1 1) (w.alloc (.cells #[.bool false] 4)) := by
  obtain ⟨i1, hi1, hy0, hy1, hy2⟩ := info_parts bool_info
  have h := run_make (P := Tryz.prog) w 77 4 i1 _ Tryz.underlying77 hi1 hy0 .i64 .i64 1 1 (by decide) (by decide) (by rw [hy2]; decide) (by decide)
  rw [hy1, show madeCells (Value.bool false).cells (Int.toNat 1 * 1) = #[.bool false] by kernel_rfl] at h
  exact h
theorem heap3 (w : World) (A B C : Obj) : (((w.alloc A).alloc B).alloc C).heap[w.heap.size]? = some A ∧ (((w.alloc A).alloc B).alloc C).heap[w.heap.size + 1]? = some B ∧ (((w.alloc A).alloc B).alloc C).heap[w.heap.size + 1 + 1]? = some C := by
  refine ⟨?_, ?_, ?_⟩
  · rw [Below.heap_alloc _ C _ (by simp; omega)]; exact heapA_old w A B
  · rw [Below.heap_alloc _ C _ (by simp)]; exact heapA_new w A B
  · have := (MapKept.heap_alloc ((w.alloc A).alloc B) C).1
    simpa using this
theorem rm_begin {w : World} {P : Nat → Prop} {m gN gB room : Nat} {T1 T2 T3 : TypeId} (hm : w.heap[m]? = some (.cells #[.int .i64 (room : Int), .slice (some ⟨gN, 0, none⟩) 1 1, .slice (some ⟨gB, 0, none⟩) 1 1] T1 (0, 0)))
    (hN : w.heap[gN]? = some (.cells #[.int .i64 0, .slice none 0 0, .slice none 0 0, .string ⟨#[]⟩] T2 (0, 0))) (hB : w.heap[gB]? = some (.cells #[.bool false] T3 (0, 0))) (pM : P m) (pN : P gN) (pB : P gB) (n1 : m ≠ gN) (n2 : m ≠ gB) (n3 : gN ≠ gB) (hr : room ≤ 65536) :
    RM w P m gN 1 gB 1 room [nd0] [false] :=
  ⟨Lib.cell_of_heap hm 0, Lib.cell_of_heap hm 1, Lib.cell_of_heap hm 2, frozen_of hm, frozen_of hN, frozen_of hB, pM, pN, pB, n1, n2, n3, (Array.getElem?_eq_some_iff.1 hN).1, (Array.getElem?_eq_some_iff.1 hB).1,
    fun i n hi => by
      cases i with
      | zero =>
        obtain rfl : nd0 = n := by simpa using hi
        exact ⟨none, 0, none, 0, ⟨Lib.cell_of_heap hN 0, Lib.cell_of_heap hN 1, Lib.cell_of_heap hN 2, Lib.cell_of_heap hN 3⟩, .inl rfl, .inl rfl⟩
      | succ i => simp at hi,
    fun i b hi => by
      cases i with
      | zero =>
        obtain rfl : false = b := by simpa using hi
        exact Lib.cell_of_heap hB 0
      | succ i => simp at hi,
    rfl, Nat.le_refl _, by simp, hr, fun n hn => by
      obtain rfl : n = nd0 := by simpa using hn
      exact ⟨by decide, by decide⟩, Nat.le_refl _⟩
set_option maxHeartbeats 4000000 in
set_option maxRecDepth 10000 in
theorem rBegin_any (w : World) (room : Nat) (hr : room ≤ 65536) :
    Calls Tryz.prog 8 #[.int .i64 (room : Int)] w fun e w' => ∃ m gN gB, e = .returned (.pointer (some ⟨m, 0, none⟩)) ∧ RM w' (fun g => w.heap.size ≤ g) m gN 1 gB 1 room [nd0] [false] ∧ Below w.heap.size w w' := by
  have h1 := make_node
  have h2 := make_bool
  go_enter Tryz.func8, Tryz.ntmps8
  go_wp2_with fail
  go_region_held3 (fun _ => True) (exact trivial) (first | fail | fail)
  all_goals
    go_wp2_with fail
    go_ret
    first
    | exact ⟨w.heap.size + 1 + 1, w.heap.size, w.heap.size + 1, rfl, rm_begin (heap3 _ _ _ _).2.2 (heap3 _ _ _ _).1 (heap3 _ _ _ _).2.1 (by omega) (by omega) (by omega) (by omega) (by omega) (by omega) hr, (((Below.refl _ _).alloc (Nat.le_refl _) _).alloc (by simp) _).alloc (by simp; omega) _⟩
    | exact ⟨w.heap.size + 1 + 1, w.heap.size + 1, w.heap.size, rfl, rm_begin (heap3 _ _ _ _).2.2 (heap3 _ _ _ _).2.1 (heap3 _ _ _ _).1 (by omega) (by omega) (by omega) (by omega) (by omega) (by omega) hr, (((Below.refl _ _).alloc (Nat.le_refl _) _).alloc (by simp) _).alloc (by simp; omega) _⟩
    | exact ⟨w.heap.size + 1 + 1, w.heap.size, w.heap.size + 1, rfl, (rm_begin (heap3 _ _ _ _).2.2 (heap3 _ _ _ _).1 (heap3 _ _ _ _).2.1 (by omega) (by omega) (by omega) (by omega) (by omega) (by omega) hr).below (Below.drew (Below.refl _ _)), Below.drew ((((Below.refl _ _).alloc (Nat.le_refl _) _).alloc (by simp) _).alloc (by simp; omega) _)⟩
    | exact ⟨w.heap.size + 1 + 1, w.heap.size + 1, w.heap.size, rfl, (rm_begin (heap3 _ _ _ _).2.2 (heap3 _ _ _ _).2.1 (heap3 _ _ _ _).1 (by omega) (by omega) (by omega) (by omega) (by omega) (by omega) hr).below (Below.drew (Below.refl _ _)), Below.drew ((((Below.refl _ _).alloc (Nat.le_refl _) _).alloc (by simp) _).alloc (by simp; omega) _)⟩
end Go.Proofs.YtjgadggehpmdkaaGreatDoor
namespace Go.Proofs.YtjgadggehpmdkaaGreatDoor
open Go.RowKit Go.Shelf
structure Duo0 (w : World) (B a m room : Nat) (s t : Sh) (T K P : Nat → Prop) (gN cN gB cB : Nat) (nds : List Nd) (bs : List Bool) : Prop where
  on : On9 w B a room s K
  rm : RM w P m gN cN gB cB room nds bs
  st : stOf nds bs = t
  inv : Inv room t
  fit : FitT t
  pk : ∀ g, P g → B ≤ g ∧ g < w.heap.size ∧ K g
  tk : ∀ g, T g → K g ∧ ¬ P g
def Duo (w : World) (B a m room : Nat) (s t : Sh) (T : Nat → Prop) : Prop := ∃ K P gN cN gB cB nds bs, Duo0 w B a m room s t T K P gN cN gB cB nds bs
section
variable {w w1 : World} {B a m room : Nat} {s s' t t' : Sh} {T : Nat → Prop}
theorem Duo.on (h : Duo w B a m room s t T) : ∃ K, On9 w B a room s K := by
  obtain ⟨K, P, gN, cN, gB, cB, nds, bs, h⟩ := h
  exact ⟨K, h.on⟩
theorem Duo.rm (h : Duo w B a m room s t T) : ∃ P gN cN gB cB nds bs, RM w P m gN cN gB cB room nds bs ∧ stOf nds bs = t ∧ Inv room (stOf nds bs) ∧ FitT (stOf nds bs) := by
  obtain ⟨K, P, gN, cN, gB, cB, nds, bs, h⟩ := h
  exact ⟨P, gN, cN, gB, cB, nds, bs, h.rm, h.st, by rw [h.st]; exact h.inv, by rw [h.st]; exact h.fit⟩
theorem Duo.inv (h : Duo w B a m room s t T) : Inv room s := by obtain ⟨K, h⟩ := h.on; exact h.inv
theorem Duo.base (h : Duo w B a m room s t T) : B ≤ w.heap.size := by obtain ⟨K, h⟩ := h.on; exact h.base
theorem Duo.lt (h : Duo w B a m room s t T) {g : Nat} (hg : T g) : g < w.heap.size := by
  obtain ⟨K, P, gN, cN, gB, cB, nds, bs, h⟩ := h
  exact h.on.lt (h.tk g hg).1
theorem Duo.fits (h : Duo w B a m room s t T) : FitT s := by obtain ⟨K, h⟩ := h.on; exact h.fits
theorem Duo.mono (h : Duo w B a m room s t T) {T' : Nat → Prop} (hT : ∀ g, T' g → T g) : Duo w B a m room s t T' := by
  obtain ⟨K, P, gN, cN, gB, cB, nds, bs, h⟩ := h
  exact ⟨K, P, gN, cN, gB, cB, nds, bs, { h with tk := fun g hg => h.tk g (hT g hg) }⟩
theorem Duo.below (h : Duo w B a m room s t T) (hb : Below w.heap.size w w1) : Duo w1 B a m room s t (fun g => T g ∨ (w.heap.size ≤ g ∧ g < w1.heap.size)) := by
  obtain ⟨K, P, gN, cN, gB, cB, nds, bs, h⟩ := h
  have hz := hb.size
  refine ⟨_, P, gN, cN, gB, cB, nds, bs, h.on.below hb, h.rm.below hb, h.st, h.inv, h.fit, fun g hg => ?_, fun g hg => ?_⟩
  · have := h.pk g hg
    exact ⟨this.1, by omega, .inl this.2.2⟩
  · rcases hg with hg | hg
    · exact ⟨.inl (h.tk g hg).1, (h.tk g hg).2⟩
    · exact ⟨.inr hg, fun e => by have := (h.pk g e).2.1; omega⟩
theorem Duo.left (h : Duo w B a m room s t T) {F : FuncId} {args : Array Value} {E : Ending → Prop} (hc : ∀ K, On9 w B a room s K → Calls Tryz.prog F args w fun e w' => ∃ K', E e ∧ Lf9 w B a room s' K w' K') :
    Calls Tryz.prog F args w fun e w' => E e ∧ Duo w' B a m room s' t T ∧ Kept w w' T ∧ Below B w w' := by
  obtain ⟨K, P, gN, cN, gB, cB, nds, bs, h⟩ := h
  refine (hc K h.on).mono fun e w' ⟨K', he, hl⟩ => ⟨he, ⟨K', P, gN, cN, gB, cB, nds, bs, hl.1, ?_, h.st, h.inv, h.fit, fun g hg => ?_, fun g hg => ?_⟩, ?_, hl.2.2.2⟩
  · exact h.rm.kept ⟨hl.2.2.1.size, fun g hg hl' => hl.2.2.1.block g (h.pk g hg).2.2 hl'⟩
  · have := h.pk g hg
    exact ⟨this.1, Nat.lt_of_lt_of_le this.2.1 hl.2.2.1.size, hl.2.1 g this.2.2⟩
  · exact ⟨hl.2.1 g (h.tk g hg).1, (h.tk g hg).2⟩
  · exact ⟨hl.2.2.1.size, fun g hg hl' => hl.2.2.1.block g (h.tk g hg).1 hl'⟩
theorem Duo.right (h : Duo w B a m room s t T) (hi : Inv room t') (hf : FitT t') {F : FuncId} {args : Array Value} {E : Ending → Prop}
    (hc : ∀ P gN cN gB cB nds bs, RM w P m gN cN gB cB room nds bs → stOf nds bs = t → (∀ g, P g → B ≤ g ∧ g < w.heap.size) → (∀ g, T g → ¬ P g) → Calls Tryz.prog F args w fun e w' => ∃ gN' cN' gB' cB' nds' bs', E e ∧ stOf nds' bs' = t' ∧ RM w' (fun g => P g ∨ w.heap.size ≤ g) m gN' cN' gB' cB' room nds' bs' ∧ ButS P w w') :
    Calls Tryz.prog F args w fun e w' => E e ∧ Duo w' B a m room s t' T ∧ Kept w w' T ∧ Below B w w' := by
  obtain ⟨K, P, gN, cN, gB, cB, nds, bs, h⟩ := h
  refine (hc P gN cN gB cB nds bs h.rm h.st (fun g hg => ⟨(h.pk g hg).1, (h.pk g hg).2.1⟩) (fun g hg => (h.tk g hg).2)).mono fun e w' ⟨gN', cN', gB', cB', nds', bs', he, hs, hr, hbu⟩ => ?_
  have hz := hbu.size
  have hbB : Below B w w' := hbu.below (fun k hk e => by have := (h.pk k e).1; omega) h.on.base
  have hB := h.on.base
  refine ⟨he, ⟨_, _, gN', cN', gB', cB', nds', bs', h.on.kept (Q := P) (fun g hg hl => hbu.block g hl hg) hz (fun g hg => .inl (h.pk g hg).2.2) hbB, hr.tight, hs, hi, hf, fun g hg => ?_, fun g hg => ?_⟩, hbu.keptQ fun g hg => (h.tk g hg).2, hbB⟩
  · rcases hg.1 with q | q
    · have := h.pk g q
      exact ⟨this.1, hg.2, .inl this.2.2⟩
    · exact ⟨by omega, hg.2, .inr ⟨q, hg.2⟩⟩
  · refine ⟨.inl (h.tk g hg).1, fun e => ?_⟩
    rcases e.1 with q | q
    · exact (h.tk g hg).2 q
    · have := h.on.lt (h.tk g hg).1
      omega
theorem Duo.begin {K : Nat → Prop} (ho : On9 w B a room [] K) {gN gB : Nat} (hr : RM w1 (fun g => w.heap.size ≤ g) m gN 1 gB 1 room [nd0] [false]) (hb : Below w.heap.size w w1) (hT : ∀ g, T g → K g) : Duo w1 B a m room [] [] T := by
  have hz := hb.size
  have hB := ho.base
  refine ⟨_, _, gN, 1, gB, 1, [nd0], [false], ho.below hb, hr.tight, rfl, inv_nil room, fun h n e => ?_, fun g hg => ⟨by have := hg.1; omega, hg.2, .inr ⟨hg.1, hg.2⟩⟩, fun g hg => ⟨.inl (hT g hg), fun e => by have := ho.lt (hT g hg); have := e.1; omega⟩⟩
  unfold ndAt at e
  split at e <;> simp at e
end
/- acts in memory -/
structure AcT where
  kind : Int
  L : List En
  LA : Option Addr
  lc : Nat
  at_ : Int
deriving Inhabited
def acT (q : AcT) : List Value := [.int .u8 q.kind, .slice q.LA q.L.length q.lc, .int .i64 q.at_]
def RowT (w : World) (P : Nat → Prop) (A : Option Addr) (l : List AcT) : Prop := l = [] ∨ ∃ g o, A = some ⟨g, o, none⟩ ∧ P g ∧ g < w.heap.size ∧
  ∀ (i : Nat) (q : AcT), l[i]? = some q → (w.cell? ⟨g, o + i * 3, none⟩ = some (.int .u8 q.kind) ∧ w.cell? ⟨g, o + i * 3 + 1, none⟩ = some (.slice q.LA q.L.length q.lc) ∧ w.cell? ⟨g, o + i * 3 + 2, none⟩ = some (.int .i64 q.at_)) ∧ RowE w P q.LA q.L
theorem RowT.kept {w w' : World} {P : Nat → Prop} {A : Option Addr} {l : List AcT} (h : RowT w P A l) (hk : Kept w w' P) : RowT w' P A l := by
  rcases h with h | ⟨g, o, rfl, hp, hl, hc⟩
  · exact .inl h
  · refine .inr ⟨g, o, rfl, hp, Nat.lt_of_lt_of_le hl hk.size, fun i q hi => ?_⟩
    obtain ⟨⟨c0, c1, c2⟩, hr⟩ := hc i q hi
    exact ⟨⟨hk.cell hp c0, hk.cell hp c1, hk.cell hp c2⟩, hr.kept hk⟩
theorem RowT.mono {w : World} {P Q : Nat → Prop} {A : Option Addr} {l : List AcT} (h : RowT w P A l) (hpq : ∀ g, P g → g < w.heap.size → Q g) : RowT w Q A l := by
  rcases h with h | ⟨g, o, rfl, hp, hl, hc⟩
  · exact .inl h
  · refine .inr ⟨g, o, rfl, hpq g hp hl, hl, fun i q hi => ?_⟩
    obtain ⟨h3, hr⟩ := hc i q hi
    exact ⟨h3, hr.mono hpq⟩
theorem RowT.below {w w' : World} {P : Nat → Prop} {A : Option Addr} {l : List AcT} (h : RowT w P A l) (hb : Below w.heap.size w w') : RowT w' P A l := h.kept (Kept.of_below hb)
theorem RowT.at {w : World} {P : Nat → Prop} {A : Option Addr} {l : List AcT} (h : RowT w P A l) {i : Nat} (hi : i < l.length) : ∃ g o, A = some ⟨g, o, none⟩ ∧ P g ∧ g < w.heap.size ∧
    ∀ (i : Nat) (q : AcT), l[i]? = some q → (w.cell? ⟨g, o + i * 3, none⟩ = some (.int .u8 q.kind) ∧ w.cell? ⟨g, o + i * 3 + 1, none⟩ = some (.slice q.LA q.L.length q.lc) ∧ w.cell? ⟨g, o + i * 3 + 2, none⟩ = some (.int .i64 q.at_)) ∧ RowE w P q.LA q.L := by
  rcases h with rfl | h
  · simp at hi
  · exact h
def FitAT (q : AcT) : Prop := q.L.length ≤ 60 ∧ ∀ x ∈ q.L, x.text.length ≤ 300
end Go.Proofs.YtjgadggehpmdkaaGreatDoor
namespace Go.Proofs.YtjgadggehpmdkaaGreatDoor
open Go.RowKit Go.Shelf
def FitsT (l : List AcT) (w : World) (e : Ending) (w' : World) : Prop := ∃ b, e = .returned (.bool b) ∧ (b = true → l.length ≤ 60 ∧ ∀ q ∈ l, FitAT q) ∧ w' = w
theorem FitsT.no {l : List AcT} {w : World} {e : Ending} (h : e = .returned (.bool false)) : FitsT l w e w := ⟨false, h, fun e => (by cases e), rfl⟩
theorem FitsT.yes {l : List AcT} {w : World} {e : Ending} (h : e = .returned (.bool true)) (hf : l.length ≤ 60 ∧ ∀ q ∈ l, FitAT q) : FitsT l w e w := ⟨true, h, fun _ => hf, rfl⟩
end Go.Proofs.YtjgadggehpmdkaaGreatDoor
namespace Go.Proofs.YtjgadggehpmdkaaGreatDoor
open Go.RowKit Go.Shelf
structure Run (w W : World) (B a m room : Nat) (s t : Sh) (T T0 : Nat → Prop) : Prop where
  duo : Duo W B a m room s t T0
  kp : Kept w W T
  bl : Below B w W
  tt : ∀ g, T g → T0 g
section
variable {w W W1 : World} {B a m room : Nat} {s s' t t' : Sh} {T T0 : Nat → Prop}
theorem Run.below (h : Run w W B a m room s t T T0) (hb : Below W.heap.size W W1) : Run w W1 B a m room s t T (fun g => T0 g ∨ (W.heap.size ≤ g ∧ g < W1.heap.size)) :=
  ⟨h.duo.below hb, h.kp.trans (Kept.of_below hb), h.bl.trans (hb.mono h.duo.base), fun g hg => .inl (h.tt g hg)⟩
theorem Run.op (h : Run w W B a m room s t T T0) (hd : Duo W1 B a m room s' t' T0) (hk : Kept W W1 T0) (hb : Below B W W1) : Run w W1 B a m room s' t' T T0 :=
  ⟨hd, h.kp.trans ⟨hk.size, fun g hg hl => hk.block g (h.tt g hg) hl⟩, h.bl.trans hb, h.tt⟩
theorem Run.start (h : Duo w B a m room s t T) : Run w w B a m room s t T T := ⟨h, Kept.refl _ _, Below.refl _ _, fun _ h => h⟩
end
def StepQ (w : World) (B a m room : Nat) (s' : Sh) (p : Int) (T : Nat → Prop) (e : Ending) (w' : World) : Prop := e = .returned (.tuple #[.int .i64 p, .int .i64 p, .bool true]) ∧ Duo w' B a m room s' s' T ∧ Kept w w' T ∧ Below B w w'
theorem Run.done {w W : World} {B a m room : Nat} {s : Sh} {p : Int} {T T0 : Nat → Prop} (h : Run w W B a m room s s T T0) : StepQ w B a m room s p T (.returned (.tuple #[.int .i64 p, .int .i64 p, .bool true])) W := ⟨rfl, h.duo.mono h.tt, h.kp, h.bl⟩
def actW (w : World) (q : AcT) : World := w.alloc (.cells #[.int .u8 q.kind, .slice q.LA q.L.length q.lc, .int .i64 q.at_] 37)
structure StV (w W : World) (B a m room : Nat) (s t : Sh) (T T0 : Nat → Prop) (X Y : Nat) (q : AcT) (y : En) : Prop where
  run : Run w W B a m room s t T T0
  x0 : W.cell? ⟨X, 0, none⟩ = some (.int .u8 q.kind)
  x1 : W.cell? ⟨X, 1, none⟩ = some (.slice q.LA q.L.length q.lc)
  y0 : W.cell? ⟨Y, 0, none⟩ = some (.int .i64 y.key)
  y1 : W.cell? ⟨Y, 1, none⟩ = some (.string ⟨y.text.toArray⟩)
  z0 : W.cell? ⟨Y + 1, 0, none⟩ = some (.int .i64 y.key)
  z1 : W.cell? ⟨Y + 1, 1, none⟩ = some (.string ⟨y.text.toArray⟩)
  pX : T0 X
  pY : T0 Y
  pZ : T0 (Y + 1)
  row : RowE W T0 q.LA q.L
section
variable {w W W1 : World} {B a m room : Nat} {s s' t t' : Sh} {T T0 : Nat → Prop} {X Y : Nat} {q : AcT} {y : En}
theorem StV.below (h : StV w W B a m room s t T T0 X Y q y) (hb : Below W.heap.size W W1) : StV w W1 B a m room s t T (fun g => T0 g ∨ (W.heap.size ≤ g ∧ g < W1.heap.size)) X Y q y :=
  ⟨h.run.below hb, keep_cell hb h.x0, keep_cell hb h.x1, keep_cell hb h.y0, keep_cell hb h.y1, keep_cell hb h.z0, keep_cell hb h.z1, .inl h.pX, .inl h.pY, .inl h.pZ, (h.row.below hb).mono fun _ hg _ => .inl hg⟩
theorem StV.op (h : StV w W B a m room s t T T0 X Y q y) (hd : Duo W1 B a m room s' t' T0) (hk : Kept W W1 T0) (hb : Below B W W1) : StV w W1 B a m room s' t' T T0 X Y q y :=
  ⟨h.run.op hd hk hb, hk.cell h.pX h.x0, hk.cell h.pX h.x1, hk.cell h.pY h.y0, hk.cell h.pY h.y1, hk.cell h.pZ h.z0, hk.cell h.pZ h.z1, h.pX, h.pY, h.pZ, h.row.kept hk⟩
theorem StV.begin (hD : Duo w B a m room s s T) (hq : RowE w T q.LA q.L) {w1 : World} (hb : Below (actW w q).heap.size (actW w q) w1) :
    StV w ((w1.alloc (.cells #[.int .i64 y.key, .string ⟨y.text.toArray⟩] 55)).alloc (.cells #[.int .i64 y.key, .string ⟨y.text.toArray⟩] 68)) B a m room s s T (fun g => T g ∨ (w.heap.size ≤ g ∧ g < ((w1.alloc (.cells #[.int .i64 y.key, .string ⟨y.text.toArray⟩] 55)).alloc (.cells #[.int .i64 y.key, .string ⟨y.text.toArray⟩] 68)).heap.size)) w.heap.size w1.heap.size q y := by
  have hb0 : Below w.heap.size w (actW w q) := (Below.refl _ _).alloc (Nat.le_refl _) _
  have hz0 : (actW w q).heap.size = w.heap.size + 1 := by unfold actW; simp
  have hz1 := hb.size
  have hblk : (actW w q).heap[w.heap.size]? = some (.cells #[.int .u8 q.kind, .slice q.LA q.L.length q.lc, .int .i64 q.at_] 37 (0, 0)) := heap_alloc_new w _
  have hby := heap_alloc_new w1 (.cells #[.int .i64 y.key, .string ⟨y.text.toArray⟩] 55)
  have hz2 : (w1.alloc (.cells #[.int .i64 y.key, .string ⟨y.text.toArray⟩] 55)).heap.size = w1.heap.size + 1 := by simp
  have hbz := heap_alloc_new (w1.alloc (.cells #[.int .i64 y.key, .string ⟨y.text.toArray⟩] 55)) (.cells #[.int .i64 y.key, .string ⟨y.text.toArray⟩] 68)
  rw [hz2] at hbz
  have hb1 : Below w1.heap.size w1 (w1.alloc (.cells #[.int .i64 y.key, .string ⟨y.text.toArray⟩] 55)) := (Below.refl _ _).alloc (Nat.le_refl _) _
  have hb2 : Below (w1.alloc (.cells #[.int .i64 y.key, .string ⟨y.text.toArray⟩] 55)).heap.size (w1.alloc (.cells #[.int .i64 y.key, .string ⟨y.text.toArray⟩] 55)) ((w1.alloc (.cells #[.int .i64 y.key, .string ⟨y.text.toArray⟩] 55)).alloc (.cells #[.int .i64 y.key, .string ⟨y.text.toArray⟩] 68)) := (Below.refl _ _).alloc (Nat.le_refl _) _
  have hz3 : ((w1.alloc (.cells #[.int .i64 y.key, .string ⟨y.text.toArray⟩] 55)).alloc (.cells #[.int .i64 y.key, .string ⟨y.text.toArray⟩] 68)).heap.size = w1.heap.size + 1 + 1 := by simp
  generalize (w1.alloc (.cells #[.int .i64 y.key, .string ⟨y.text.toArray⟩] 55)) = W1 at *
  generalize (W1.alloc (.cells #[.int .i64 y.key, .string ⟨y.text.toArray⟩] 68)) = W2 at *
  have hb12 : Below w1.heap.size w1 W2 := hb1.trans (hb2.mono hb1.size)
  have hba : Below (actW w q).heap.size (actW w q) W2 := hb.trans (hb12.mono hb.size)
  have hbw : Below w.heap.size w W2 := hb0.trans (hba.mono hb0.size)
  have hX : w.heap.size < (actW w q).heap.size := by omega
  refine ⟨(Run.start hD).below hbw, keep_cell hba (Lib.cell_of_heap hblk 0), keep_cell hba (Lib.cell_of_heap hblk 1), keep_cell hb2 (Lib.cell_of_heap hby 0), keep_cell hb2 (Lib.cell_of_heap hby 1), Lib.cell_of_heap hbz 0, Lib.cell_of_heap hbz 1, .inr ⟨Nat.le_refl _, by omega⟩, .inr ⟨by omega, by omega⟩, .inr ⟨by omega, by omega⟩, (hq.below hbw).mono fun _ hg _ => .inl hg⟩
end
end Go.Proofs.YtjgadggehpmdkaaGreatDoor
namespace Go.Proofs.YtjgadggehpmdkaaGreatDoor
open Go.RowKit Go.Shelf
theorem Duo.grown {w w1 : World} {B a m room : Nat} {s t : Sh} {T : Nat → Prop} {row : Option Nat} (h : Duo w B a m room s t T) (hg : w.grownBy w1 row) (hr : ∀ g, row = some g → (T g ∧ B ≤ g) ∨ w.heap.size ≤ g) : Duo w1 B a m room s t (fun g => T g ∨ (w.heap.size ≤ g ∧ g < w1.heap.size)) := by
  obtain ⟨K, P, gN, cN, gB, cB, nds, bs, h⟩ := h
  have hz := hg.size
  have hB := h.on.base
  have hb : Below B w w1 := ⟨hg.os, hg.tape, hg.output, hg.size, fun k hk => hg.block k (by omega) fun e => by
    rcases hr k e.symm with q | q
    · omega
    · omega⟩
  have hk : ∀ g, ¬ (some g = row) → g < w.heap.size → w1.heap[g]? = w.heap[g]? := fun g hn hl => hg.block g hl hn
  refine ⟨_, P, gN, cN, gB, cB, nds, bs, h.on.kept (Q := fun g => some g = row) (fun g hn hl => hk g hn hl) hz (fun g e => (hr g e.symm).imp (fun q => (h.tk g q.1).1) id) hb, h.rm.kept ⟨hz, fun g hp hl => hk g (fun e => by
    rcases hr g e.symm with q | q
    · exact (h.tk g q.1).2 hp
    · have := (h.pk g hp).2.1; omega) hl⟩, h.st, h.inv, h.fit, fun g hg' => ?_, fun g hg' => ?_⟩
  · have := h.pk g hg'
    exact ⟨this.1, by omega, .inl this.2.2⟩
  · rcases hg' with q | q
    · exact ⟨.inl (h.tk g q).1, (h.tk g q).2⟩
    · exact ⟨.inr q, fun e => by have := (h.pk g e).2.1; omega⟩
structure PV (w wr : World) (a m room : Nat) (s : Sh) (T : Nat → Prop) (vh vk : Value) (hs : List Int) : Prop where
  duo : Duo wr w.heap.size a m room s s T
  bl : Below w.heap.size w wr
  oh : OwnR 3 1 inW w.heap.size wr vh hs
  ok : OwnR 3 1 inW w.heap.size wr vk hs
  th : ∀ g, vh.ownBlock = some g → T g
  tk : ∀ g, vk.ownBlock = some g → T g
  ap : ∀ g, vh.ownBlock = some g → vk.ownBlock ≠ some g
  tb : ∀ g, g < w.heap.size → T g
section
variable {w wr w1 : World} {a m room : Nat} {s s' : Sh} {T : Nat → Prop} {vh vk : Value} {hs : List Int}
theorem PV.below (h : PV w wr a m room s T vh vk hs) (hb : Below wr.heap.size wr w1) : PV w w1 a m room s (fun g => T g ∨ (wr.heap.size ≤ g ∧ g < w1.heap.size)) vh vk hs :=
  ⟨h.duo.below hb, h.bl.trans (hb.mono h.bl.size), h.oh.below hb, h.ok.below hb, fun g hg => .inl (h.th g hg), fun g hg => .inl (h.tk g hg), h.ap, fun g hg => .inl (h.tb g hg)⟩
theorem PV.op (h : PV w wr a m room s T vh vk hs) (hd : Duo w1 w.heap.size a m room s' s' T) (hk : Kept wr w1 T) (hb : Below w.heap.size wr w1) : PV w w1 a m room s' T vh vk hs :=
  ⟨hd, h.bl.trans hb, OwnR.block h.oh fun k hk' => hk.block k (h.th k hk') (World.ownsRow.lt h.oh k hk').2, OwnR.block h.ok fun k hk' => hk.block k (h.tk k hk') (World.ownsRow.lt h.ok k hk').2, h.th, h.tk, h.ap, h.tb⟩
theorem PV.growH (h : PV w wr a m room s T vh vk hs) {v4 : Value} {L : List Int} (ho : OwnR 3 1 inW w.heap.size w1 v4 L) (hg : wr.grownBy w1 vh.ownBlock) (hat : v4.ownBlock = vh.ownBlock ∨ ∃ k, v4.ownBlock = some k ∧ wr.heap.size ≤ k ∧ k < w1.heap.size) :
    Duo w1 w.heap.size a m room s s (fun g => T g ∨ (wr.heap.size ≤ g ∧ g < w1.heap.size)) ∧ Below w.heap.size w w1 ∧ OwnR 3 1 inW w.heap.size w1 v4 L ∧ OwnR 3 1 inW w.heap.size w1 vk hs ∧ (∀ g, v4.ownBlock = some g → T g ∨ (wr.heap.size ≤ g ∧ g < w1.heap.size)) ∧ (∀ g, vk.ownBlock = some g → T g ∨ (wr.heap.size ≤ g ∧ g < w1.heap.size)) ∧ (∀ g, v4.ownBlock = some g → vk.ownBlock ≠ some g) := by
  have hsz := hg.size
  refine ⟨h.duo.grown hg fun g e => .inl ⟨h.th g e, (World.ownsRow.lt h.oh g e).1⟩, h.bl.grown hg h.bl.size (fun k hk => (World.ownsRow.lt h.oh k hk).1), ho, OwnR.block h.ok fun k hk => hg.block k (World.ownsRow.lt h.ok k hk).2 fun e => h.ap k e.symm hk, fun g e => ?_, fun g e => .inl (h.tk g e), fun g e e2 => ?_⟩
  · rcases hat with q | ⟨k, q, hk⟩
    · exact .inl (h.th g (by rw [← q]; exact e))
    · rw [q] at e; cases e; exact .inr hk
  · rcases hat with q | ⟨k, q, hk⟩
    · exact h.ap g (by rw [← q]; exact e) e2
    · rw [q] at e; cases e
      have := (World.ownsRow.lt h.ok g e2).2; omega
theorem PV.both {T' : Nat → Prop} {w2 : World} {v4 v5 : Value} {L : List Int} (hd : Duo w1 w.heap.size a m room s s T') (hb : Below w.heap.size w w1) (oh : OwnR 3 1 inW w.heap.size w1 v4 L) (ok : OwnR 3 1 inW w.heap.size w1 vk hs) (th : ∀ g, v4.ownBlock = some g → T' g) (tk : ∀ g, vk.ownBlock = some g → T' g) (ap : ∀ g, v4.ownBlock = some g → vk.ownBlock ≠ some g) (tb : ∀ g, g < w.heap.size → T' g)
    (ho : OwnR 3 1 inW w.heap.size w2 v5 L) (hg : w1.grownBy w2 vk.ownBlock) (hat : v5.ownBlock = vk.ownBlock ∨ ∃ k, v5.ownBlock = some k ∧ w1.heap.size ≤ k ∧ k < w2.heap.size) :
    PV w w2 a m room s (fun g => T' g ∨ (w1.heap.size ≤ g ∧ g < w2.heap.size)) v4 v5 L := by
  have hsz := hg.size
  refine ⟨hd.grown hg fun g e => .inl ⟨tk g e, (World.ownsRow.lt ok g e).1⟩, hb.grown hg hb.size (fun k hk => (World.ownsRow.lt ok k hk).1), OwnR.block oh fun k hk => hg.block k (World.ownsRow.lt oh k hk).2 fun e => ap k hk e.symm, ho, fun g e => .inl (th g e), fun g e => ?_, fun g e e2 => ?_, fun g hg' => .inl (tb g hg')⟩
  · rcases hat with q | ⟨k, q, hk⟩
    · exact .inl (tk g (by rw [← q]; exact e))
    · rw [q] at e; cases e; exact .inr hk
  · rcases hat with q | ⟨k, q, hk⟩
    · exact ap g e (by rw [← q]; exact e2)
    · rw [q] at e2; cases e2
      have := (World.ownsRow.lt oh g e).2; omega
theorem own_len (A : Option Addr) (n n' c : Nat) : (Value.slice A n c).ownBlock = (Value.slice A n' c).ownBlock := by
  cases A with
  | none => rfl
  | some p => rfl
theorem PV.cut {A1 A2 : Option Addr} {c1 c2 N : Nat} (h : PV w wr a m room s T (.slice A1 N c1) (.slice A2 N c2) hs) (hp : 0 < hs.length) : PV w wr a m room s T (.slice A1 0 c1) (.slice A2 0 c2) [] where
  duo := h.duo
  bl := h.bl
  oh := OwnR.cut (f := inW) (n := 1) (fun _ => rfl) h.oh hp 0 (Nat.zero_le _)
  ok := OwnR.cut (f := inW) (n := 1) (fun _ => rfl) h.ok hp 0 (Nat.zero_le _)
  th := fun g e => h.th g (by rw [own_len A1 N 0 c1]; exact e)
  tk := fun g e => h.tk g (by rw [own_len A2 N 0 c2]; exact e)
  ap := fun g e e2 => h.ap g (by rw [own_len A1 N 0 c1]; exact e) (by rw [own_len A2 N 0 c2]; exact e2)
  tb := h.tb
end
end Go.Proofs.YtjgadggehpmdkaaGreatDoor
namespace Go.Proofs.YtjgadggehpmdkaaGreatDoor
open Go.RowKit
section
variable {w w' : World} {P Q : Nat → Prop}
set_option maxHeartbeats 8000000 in
set_option maxRecDepth 10000 in
theorem lnodesT_any (l : List Nd) (A : Option Addr) (ca : Nat) (w : World) (hl : RowN w Q A l) (hll : l.length ≤ 1000000) :
    Calls Tryz.prog 25 #[.slice A l.length ca] w fun e w' => ∃ O co, e = .returned (.slice O l.length co) ∧ RowN w' (fun g => Q g ∨ w.heap.size ≤ g) O l ∧ Below w.heap.size w w' := by
  obtain ⟨i0, hi0, hz0, hz1, hz2⟩ := info_parts rnode_info
  have HL := Lib.hid hl
  clear hl
  go_enter Tryz.func25, Tryz.ntmps25
  go_wp2_with fail
  go_loopw [3, 4] (fun v vi wr => ∃ (i : Nat) (L : List NdM), i ≤ l.length ∧ vi = .int .i64 (i : Int) ∧ Hid (L.map NdM.n = l.take i) ∧ Hid (OwnR 102 4 ndW w.heap.size wr v L) ∧ Hid (∀ q ∈ L, RowI w Q q.A q.n.refs ∧ RowI w Q q.B q.n.nums) ∧ Below w.heap.size w wr) (fun _ vi _ => l.length - (RowKit.intOf vi).toNat)
  case atStart => exact ⟨0, [], Nat.zero_le _, rfl, Lib.hid (by rw [List.take_zero]; rfl), Lib.hid (World.ownsRow_nil _ _ _ _), Lib.hid (fun q hq => by cases hq), Below.refl _ _⟩
  case round =>
    obtain ⟨i, L, hi, rfl, HM, HO, HR, hb⟩ := hrel
    have hLl : L.length = i := by have := congrArg List.length HM.out; rw [List.length_map, List.length_take] at this; omega
    have HLl := Lib.hid hLl
    clear hLl
    by_cases hlt : i < l.length
    · obtain ⟨n, hn⟩ : ∃ n, l[i]? = some n := ⟨_, List.getElem?_eq_getElem hlt⟩
      obtain ⟨g, o, rfl, _, hgl, hat⟩ := HL.out.at hlt
      obtain ⟨B, cb, C, cc, ⟨q0, q1, q2, q3⟩, hB, hC⟩ := hat i n hn
      have k0 := keep_cell hb q0
      have k1 := keep_cell hb q1
      have k2 := keep_cell hb q2
      have k3 := keep_cell hb q3
      have HM2 : Hid ((L ++ [(⟨n, B, cb, C, cc⟩ : NdM)]).map NdM.n = l.take (i + 1)) := Lib.hid (by rw [List.map_append, HM.out, List.take_add_one, hn]; rfl)
      have HR2 : Hid (∀ q ∈ L ++ [(⟨n, B, cb, C, cc⟩ : NdM)], RowI w Q q.A q.n.refs ∧ RowI w Q q.B q.n.nums) := Lib.hid fun q hq => by
        rcases List.mem_append.1 hq with e | e
        · exact HR.out q e
        · obtain rfl : q = ⟨n, B, cb, C, cc⟩ := by simpa using e
          exact ⟨hB, hC⟩
      have HS := Lib.hid (fun w' (hb' : Below w.heap.size wr w') => (show (w'.cell? ⟨g, o + i * 4, none⟩ = some (.int .i64 n.kind) ∧ w'.cell? ⟨g, o + i * 4 + 1, none⟩ = some (.slice B n.refs.length cb) ∧ w'.cell? ⟨g, o + i * 4 + 2, none⟩ = some (.slice C n.nums.length cc) ∧ w'.cell? ⟨g, o + i * 4 + 3, none⟩ = some (.string ⟨n.text.toArray⟩)) from ⟨(hb'.cell hgl).trans k0, (hb'.cell hgl).trans k1, (hb'.cell hgl).trans k2, (hb'.cell hgl).trans k3⟩))
      have hbs := hb.size
      have hI : (i : Int) < (l.length : Int) := by omega
      have hJ : (0 : Int) ≤ (i : Int) := by omega
      clear hat hB hC hn q0 q1 q2 q3 k0 k1 k2 k3 HM
      go_wp2_with fail
      go_region_held3 (fun w' => w'.cell? ⟨g, o + i * 4, none⟩ = some (.int .i64 n.kind) ∧ w'.cell? ⟨g, o + i * 4 + 1, none⟩ = some (.slice B n.refs.length cb) ∧ w'.cell? ⟨g, o + i * 4 + 2, none⟩ = some (.slice C n.nums.length cc) ∧ w'.cell? ⟨g, o + i * 4 + 3, none⟩ = some (.string ⟨n.text.toArray⟩))
        (with_reducible exact HS.out _ (by with_reducible repeat' (first | exact Below.refl _ _ | exact b4 | exact hbs | exact Nat.le_refl _ | refine Below.drew ?_ | refine Below.alloc ?_ ?_ _ | refine nl_al ?_ | refine nl_d ?_)))
        (first
        | (refine step_append_rows (f := ndW) (n := 4) (E := 102) (nb := 72) (X := L) (base := w.heap.size) (by rfl) _ _ (by rfl) (by rfl) (OwnR.below HO.out (by with_reducible repeat' (first | exact Below.refl _ _ | exact Nat.le_refl _ | refine Below.drew ?_ | refine Below.alloc ?_ ?_ _ | refine nl_al ?_ | refine nl_d ?_))) (L2 := [(⟨n, B, cb, C, cc⟩ : NdM)]) (by rfl) (by first | exact one_row _ (⟨n, B, cb, C, cc⟩ : NdM) | exact one_row _ _) (by simp) (N := i + 1) (by rw [HLl.out]; rfl) (Z := L ++ [(⟨n, B, cb, C, cc⟩ : NdM)]) rfl Tryz.underlying63 hi0 hz0 hz1 hz2 rfl (by decide) (by decide) (fun _ => rfl) ndW_one (by omega) (by first | (simp; done) | (simp; omega)) ?_; intro g4 k4 w4 hown4 hgrow4 hat4 hlt4
           have b4 : Below w.heap.size wr w4 := Below.grown (by with_reducible repeat' (first | exact Below.refl _ _ | exact Nat.le_refl _ | exact hbs | refine Below.drew ?_ | refine Below.alloc ?_ ?_ _ | refine nl_al ?_ | refine nl_d ?_)) hgrow4 (by first | (simp; done) | (simp; omega)) (fun k hk => (World.ownsRow.lt HO.out k hk).1)
           have hown4 := Lib.hid hown4)
        | fail)
      have hb4 := hb.trans b4
      clear hgrow4 hat4 hlt4
      go_wp2_with fail
      go_roundw
      case rel => exact ⟨i + 1, _, by omega, by go_num, HM2, hown4, HR2, hb4⟩
      case measure => simp [RowKit.intOf]; omega
    · have hii : i = l.length := by omega
      subst hii
      have hm := HM.out
      rw [List.take_length] at hm
      have HM3 := Lib.hid hm
      clear hm
      obtain ⟨O, co, rfl, _, hsh⟩ := OwnR.shape (f := ndW) (fun _ => rfl) HO.out
      have HSh := Lib.hid hsh
      have hform : L = [] ∨ ∃ g, O = some ⟨g, 0, none⟩ ∧ w.heap.size ≤ g ∧ g < wr.heap.size ∧ AtR ndW 4 wr g 0 L := by
        rcases Nat.eq_zero_or_pos L.length with e | e
        · exact .inl (List.length_eq_zero_iff.1 e)
        · obtain ⟨g, cap, hv, hlo, hg⟩ := World.ownsRow.form HO.out e
          have ho := HO.out
          rw [hv] at ho
          refine .inr ⟨g, ?_, hlo, hg, OwnR.at (fun _ => rfl) ho rfl⟩
          simp at hv
          exact hv.1
      have HF := Lib.hid hform
      clear hform hsh
      go_wp2_with fail
      go_ret
      refine ⟨O, co, by rw [← HLl.out]; rfl, ?_, hb⟩
      rcases HF.out with e | ⟨g, rfl, hlo, hg, hat⟩
      · have : l = [] := by rw [← HM3.out, e]; rfl
        exact .inl this
      · refine .inr ⟨g, 0, rfl, .inr hlo, hg, fun i n hi => ?_⟩
        have hr := list_rows (w := wr) (P := fun g => Q g ∨ w.heap.size ≤ g) (rows_atR hat) (fun q hq => by
          obtain ⟨r1, r2⟩ := HR.out q hq
          exact ⟨(r1.mono fun g hg _ => .inl hg).below hb, (r2.mono fun g hg _ => .inl hg).below hb⟩) i n (by rw [HM3.out]; exact hi)
        rw [Nat.zero_add]
        exact hr
end
end Go.Proofs.YtjgadggehpmdkaaGreatDoor
namespace Go.Proofs.YtjgadggehpmdkaaGreatDoor
open Go.RowKit
def FitsR (l : List AcM) (w : World) (e : Ending) (w' : World) : Prop := ∃ b, e = .returned (.bool b) ∧ (b = true → l.length ≤ 200 ∧ ∀ q ∈ l, FitA q) ∧ Below w.heap.size w w'
theorem FitsR.no {l : List AcM} {w : World} {e : Ending} {w' : World} (h : e = .returned (.bool false)) (hb : Below w.heap.size w w') : FitsR l w e w' := ⟨false, h, fun e => (by cases e), hb⟩
theorem FitsR.yes {l : List AcM} {w : World} {e : Ending} {w' : World} (h : e = .returned (.bool true)) (hf : l.length ≤ 200 ∧ ∀ q ∈ l, FitA q) (hb : Below w.heap.size w w') : FitsR l w e w' := ⟨true, h, fun _ => hf, hb⟩
section
variable {w w' : World} {P Q : Nat → Prop}
set_option maxHeartbeats 8000000 in
set_option maxRecDepth 10000 in
theorem lfits_any (l : List AcM) (A : Option Addr) (ca : Nat) (w : World) (hl : RowA w Q A l) (hll : l.length ≤ maxLen) (hlm : ∀ q ∈ l, q.roots.length ≤ maxLen ∧ q.L.length ≤ maxLen ∧ ∀ n ∈ q.L, n.refs.length ≤ maxLen ∧ n.nums.length ≤ maxLen ∧ n.text.length ≤ maxLen) :
    Calls Tryz.prog 22 #[.slice A l.length ca] w fun e w' => FitsR l w e w' := by
  have HL := Lib.hid hl
  have HM := Lib.hid hlm
  unfold maxLen at hll
  clear hl hlm
  by_cases hbig : 200 < l.length
  · have hd : decide ((200 : Int) < (l.length : Int)) = true := decide_eq_true (by omega)
    go_enter Tryz.func22, Tryz.ntmps22
    go_wp2_with fail
    go_ret
    exact FitsR.no rfl (Below.refl _ _)
  · have hd : decide ((200 : Int) < (l.length : Int)) = false := decide_eq_false (by omega)
    have hl2 : l.length ≤ 200 := by omega
    go_enter Tryz.func22, Tryz.ntmps22
    go_wp2_with fail
    go_loopw [3, 4, 5, 6, 7] (fun vn vb vi _ _ wr => ∃ (i : Nat) (n b : Int), i ≤ l.length ∧ vi = .int .i64 (i : Int) ∧ vn = .int .i64 n ∧ vb = .int .i64 b ∧ (0 ≤ n ∧ n ≤ 2000 + 200 * i) ∧ (0 ≤ b ∧ b ≤ 5000) ∧ Hid (∀ q ∈ l.take i, FitA q) ∧ Below w.heap.size w wr) (fun _ _ vi _ _ _ => l.length - (RowKit.intOf vi).toNat)
    case atStart => exact ⟨0, 0, 0, Nat.zero_le _, rfl, rfl, rfl, ⟨by omega, by omega⟩, ⟨by omega, by omega⟩, Lib.hid (fun q hq => by rw [List.take_zero] at hq; cases hq), Below.refl _ _⟩
    case round =>
      obtain ⟨i, n, b, hi, rfl, rfl, rfl, ⟨n0, n1⟩, ⟨b0, b1⟩, HT, hb⟩ := hrel
      by_cases hlt : i < l.length
      · obtain ⟨g, o, rfl, _, hgl, hat⟩ := (HL.out.below hb).at hlt
        obtain ⟨q, hq⟩ : ∃ q, l[i]? = some q := ⟨_, List.getElem?_eq_getElem hlt⟩
        obtain ⟨⟨c0, c1, c2⟩, hN, _⟩ := hat i q hq
        obtain ⟨m1, m2, m3⟩ := HM.out q (List.mem_of_getElem? hq)
        have Hm3 := Lib.hid m3
        have HN := Lib.hid hN
        have HNx := Lib.hid (fun h => mem_take_next hq HT.out h)
        unfold maxLen at m1 m2
        clear hat hq hN m3
        cases hd1 : decide ((200 : Int) < (q.roots.length : Int)) with
        | true =>
          go_wp2_with fail
          go_ret
          exact FitsR.no rfl hb
        | false =>
          have e1 := of_decide_eq_false hd1
          cases hd2 : decide ((200 : Int) < (q.L.length : Int)) with
          | true =>
            go_wp2_with fail
            go_ret
            exact FitsR.no rfl hb
          | false =>
            have e2 := of_decide_eq_false hd2
            have HC := Lib.hid (And.intro c1 hgl)
            have hbs := hb.size
            go_wp2_with fail
            generalize wr = wq at *
            go_loopw [3, 4, 6, 7] (fun vn vb vk _ wr2 => ∃ (k : Nat) (n b : Int), k ≤ q.L.length ∧ vk = .int .i64 (k : Int) ∧ vn = .int .i64 n ∧ vb = .int .i64 b ∧ (0 ≤ n ∧ n ≤ 2000 + 200 * (i + 1)) ∧ (0 ≤ b ∧ b ≤ 5000) ∧ Hid (∀ n ∈ q.L.take k, FitN n) ∧ Below wq.heap.size wq wr2) (fun _ _ vk _ _ => q.L.length - (RowKit.intOf vk).toNat)
            case atStart => exact ⟨0, _, _, Nat.zero_le _, rfl, rfl, rfl, ⟨by omega, by omega⟩, ⟨b0, b1⟩, Lib.hid (fun x hx => by rw [List.take_zero] at hx; cases hx), Below.refl _ _⟩
            case round =>
              obtain ⟨k, n', b', hk, rfl, rfl, rfl, ⟨n0', n1'⟩, ⟨b0', b1'⟩, HT', hb'⟩ := hrel
              have c1' := keep_cell hb' HC.out.1
              have hil : (i : Int) < (l.length : Int) := by omega
              by_cases hkl : k < q.L.length
              · obtain ⟨g2, o2, hLA, _, _, hat2⟩ := (HN.out.below hb').at hkl
                obtain ⟨x, hx⟩ : ∃ x, q.L[k]? = some x := ⟨_, List.getElem?_eq_getElem hkl⟩
                obtain ⟨B, cb, C, cc, ⟨q0, q1, q2, q3⟩, _, _⟩ := hat2 k x hx
                obtain ⟨x1, x2, x3⟩ := Hm3.out x (List.mem_of_getElem? hx)
                have HNx2 := Lib.hid (fun h => mem_take_next hx HT'.out h)
                have hkI : (k : Int) < (q.L.length : Int) := by omega
                have hb2 : Below w.heap.size w wr := hb.trans (hb'.mono hbs)
                have hbA : ∀ (o : Obj), Below wq.heap.size wq (wr.alloc o) := fun o => hb'.alloc hb'.size o
                have HbA := Lib.hid hbA
                unfold maxLen at x1 x2 x3
                rw [hLA] at c1'
                clear hat2 hx hbA
                clear hLA
                have hbx : Below wq.heap.size wq (wr.alloc (.cells #[.int .i64 x.kind, .slice B x.refs.length cb, .slice C x.nums.length cc, .string ⟨x.text.toArray⟩] 95)) := HbA.out _
                have HBx := Lib.hid hbx
                have HBw : Hid (Below w.heap.size w (wr.alloc (.cells #[.int .i64 x.kind, .slice B x.refs.length cb, .slice C x.nums.length cc, .string ⟨x.text.toArray⟩] 95))) := Lib.hid (hb2.alloc hb2.size _)
                clear hbx hb2
                cases hd3 : decide ((200 : Int) < (x.refs.length : Int)) with
                | true =>
                  go_wp2_with fail
                  go_ret
                  exact FitsR.no rfl HBw.out
                | false =>
                  have e3 := of_decide_eq_false hd3
                  cases hd4 : decide ((200 : Int) < (x.nums.length : Int)) with
                  | true =>
                    go_wp2_with fail
                    go_ret
                    exact FitsR.no rfl HBw.out
                  | false =>
                    have e4 := of_decide_eq_false hd4
                    cases hd5 : decide ((5000 : Int) < (x.text.length : Int)) with
                    | true =>
                      go_wp2_with fail
                      go_ret
                      exact FitsR.no rfl HBw.out
                    | false =>
                      have e5 := of_decide_eq_false hd5
                      have HF2 := Lib.hid (HNx2.out ⟨by omega, by omega, by omega⟩)
                      cases hd6 : decide ((2000 : Int) < n' + (x.refs.length : Int) + (x.nums.length : Int)) with
                      | true =>
                        go_wp2_with fail
                        go_ret
                        exact FitsR.no rfl HBw.out
                      | false =>
                        have e6 := of_decide_eq_false hd6
                        cases hd7 : decide ((5000 : Int) < b' + (x.text.length : Int)) with
                        | true =>
                          go_wp2_with fail
                          go_ret
                          exact FitsR.no rfl HBw.out
                        | false =>
                          have e7 := of_decide_eq_false hd7
                          go_wp2_with fail
                          go_roundw
                          case rel => exact ⟨k + 1, _, _, by omega, by go_num, rfl, rfl, ⟨by omega, by omega⟩, ⟨by omega, by omega⟩, HF2, HBx.out⟩
                          case measure => simp [RowKit.intOf]; omega
              · have hkk : k = q.L.length := by omega
                subst hkk
                have HF := Lib.hid (HNx.out ⟨by omega, by omega, by have := HT'.out; rwa [List.take_length] at this⟩)
                go_wp2_with fail
                go_roundw
                case rel => exact ⟨i + 1, n', b', by omega, by go_num, rfl, rfl, ⟨n0', by omega⟩, ⟨b0', b1'⟩, HF, hb.trans (hb'.mono hbs)⟩
                case measure => simp [RowKit.intOf]; omega
      · have hii : i = l.length := by omega
        subst hii
        have HF := Lib.hid (show ∀ q ∈ l, FitA q by have := HT.out; rwa [List.take_length] at this)
        go_wp2_with fail
        go_ret
        exact FitsR.yes rfl ⟨hl2, HF.out⟩ hb
end
end Go.Proofs.YtjgadggehpmdkaaGreatDoor
