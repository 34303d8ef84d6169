/- Texts joined: TpM, DeM, NfC, DfP, DeGp, DfQ, NdRm, DvA, TpN, DfM, TqG, NdGk, NdNm. -/
import Derived.Test.YthfbhinlgoaajaaDoorDj02
import Derived.Test.YthfbhinlgoaajaaDoorDj04
import Derived.Laws.Rows
import Derived.Deep.LoopGhost
import Derived.Deep.RegionLawGrows
import Derived.Test.YthfbhinlgoaajaaDoorDj03
import Derived.Lib.SlKeysI
import Derived.Maps.Range
import Derived.Deep.RegionWith
import Derived.StillTactics
set_option linter.all false
namespace Go.Proofs.YthfbhinlgoaajaaDoor
open Go.RowKit
def enW (x : En) : List Value := [.int .i64 x.key, .string ⟨x.text.toArray⟩]
theorem enW_one : ∀ q : En, ∀ u ∈ enW q, u.oneCell' = true := by
  intro q u hu
  simp only [enW, List.mem_cons, List.not_mem_nil, or_false] at hu
  rcases hu with rfl | rfl <;> rfl
def RowE (w : World) (P : Nat → Prop) (A : Option Addr) (l : List En) : Prop := l = [] ∨ ∃ g o, A = some ⟨g, o, none⟩ ∧ P g ∧ g < w.heap.size ∧ AtR enW 2 w g o l
section
variable {w w' : World} {P Q : Nat → Prop} {A : Option Addr} {l : List En}
theorem RowE.kept (h : RowE w P A l) (hk : Kept w w' P) : RowE w' P A l := by
  rcases h with h | ⟨g, o, rfl, hp, hl, hc⟩
  · exact .inl h
  · exact .inr ⟨g, o, rfl, hp, Nat.lt_of_lt_of_le hl hk.size, fun i x hi j u hj => hk.cell hp (hc i x hi j u hj)⟩
theorem RowE.mono (h : RowE w P A l) (hpq : ∀ g, P g → g < w.heap.size → Q g) : RowE w Q A l := by
  rcases h with h | ⟨g, o, rfl, hp, hl, hc⟩
  · exact .inl h
  · exact .inr ⟨g, o, rfl, hpq g hp hl, hl, hc⟩
theorem RowE.below (h : RowE w P A l) (hb : Below w.heap.size w w') : RowE w' P A l := h.kept (Kept.of_below hb)
theorem RowE.at (h : RowE w P A l) {i : Nat} (hi : i < l.length) : ∃ g o, A = some ⟨g, o, none⟩ ∧ P g ∧ g < w.heap.size ∧ AtR enW 2 w g o l := by
  rcases h with rfl | h
  · simp at hi
  · exact h
theorem AtR.two {g o : Nat} (h : AtR enW 2 w g o l) {i : Nat} {x : En} (hi : l[i]? = some x) : w.cell? ⟨g, o + i * 2, none⟩ = some (.int .i64 x.key) ∧ w.cell? ⟨g, o + i * 2 + 1, none⟩ = some (.string ⟨x.text.toArray⟩) :=
  ⟨h i x hi 0 _ rfl, h i x hi 1 _ rfl⟩
theorem own_rowE {E : TypeId} {base : Nat} {v : Value} {L : List En} (h : OwnR E 2 enW base w v L) : ∃ (A : Option Addr) (cap : Nat), v = .slice A L.length cap ∧ L.length ≤ cap ∧ RowE w (fun g => base ≤ g) A L := by
  obtain ⟨A, cap, rfl, hc, _⟩ := OwnR.shape (f := enW) (fun _ => rfl) h
  refine ⟨A, cap, rfl, hc, ?_⟩
  rcases Nat.eq_zero_or_pos L.length with e | e
  · exact .inl (List.length_eq_zero_iff.1 e)
  · obtain ⟨g, cap', hv, hb, hg⟩ := World.ownsRow.form h e
    have ha := OwnR.at (f := enW) (fun _ => rfl) (hv ▸ h) rfl
    simp at hv
    exact .inr ⟨g, 0, hv.1, hb, hg, ha⟩
theorem AtR.part {g o : Nat} (h : AtR enW 2 w g o l) (k n : Nat) : AtR enW 2 w g (o + k * 2) ((l.drop k).take n) := fun i x hi j u hj => by
  rw [List.getElem?_take] at hi
  split at hi
  · rw [List.getElem?_drop] at hi
    have := h (k + i) x hi j u hj
    rwa [show o + k * 2 + i * 2 + j = o + (k + i) * 2 + j by omega]
  · cases hi
end
/- 1024 texts in a block. -/
def txC (f : Txs) : Array Value := ((List.range 1024).map fun j => Value.string ⟨(f j).toArray⟩).toArray
theorem txC_size (f : Txs) : (txC f).size = 1024 := by
  unfold txC
  rw [List.size_toArray, List.length_map, List.length_range]
theorem txC_at (f : Txs) {j : Nat} (h : j < 1024) : (txC f)[j]? = some (.string ⟨(f j).toArray⟩) := by
  unfold txC
  rw [List.getElem?_toArray, List.getElem?_map, List.getElem?_range h]; rfl
theorem txC_one (f : Txs) : (txC f).all (·.oneCell') = true := by
  unfold txC
  rw [Array.all_eq_true]
  intro i hi
  simp only [List.getElem_toArray, List.getElem_map]
  rfl
theorem txC_set (f : Txs) (k : Nat) (hk : k < 1024) (v : List UInt8) : (txC f).setIfInBounds k (.string ⟨v.toArray⟩) = txC (setX f k v) := by
  apply Array.ext_getElem?
  intro i
  rw [Array.getElem?_setIfInBounds, txC_size]
  by_cases hi : i < 1024
  · rw [txC_at _ hi, txC_at _ hi]
    by_cases e : k = i
    · subst e
      rw [if_pos rfl, if_pos hk]
      unfold setX; rw [if_pos rfl]
    · rw [if_neg e]
      unfold setX; rw [if_neg fun h => e h.symm]
  · rw [if_neg (by omega), Array.getElem?_eq_none_iff.2 (by rw [txC_size]; omega), Array.getElem?_eq_none_iff.2 (by rw [txC_size]; omega)]
theorem txC_congr {f g : Txs} (h : ∀ k : Nat, k < 1024 → f k = g k) : txC f = txC g := by
  unfold txC
  exact congrArg List.toArray (List.map_congr_left fun j hj => by rw [h j (List.mem_range.1 hj)])
theorem txN_nil (n : Nat) : ((List.range n).map fun _ => Value.string ⟨([] : List UInt8).toArray⟩).toArray = Array.replicate n (.string ⟨#[]⟩) := by
  apply Array.ext_getElem?
  intro i
  rw [List.getElem?_toArray, List.getElem?_map, Array.getElem?_replicate]
  by_cases hi : i < n
  · rw [List.getElem?_range hi, if_pos hi]; rfl
  · rw [List.getElem?_eq_none_iff.2 (by rw [List.length_range]; omega), if_neg hi]; rfl
theorem txC_nil : txC (fun _ => []) = Array.replicate 1024 (.string ⟨#[]⟩) := txN_nil 1024
theorem texts_zero : Tryd.zeroCells51 = txC (fun _ => []) := by
  rw [txC_nil]; kernel_rfl
theorem texts_under : Tryd.prog.underlying 51 = some (.array 1024 9) := by kernel_rfl
theorem texts_info : (Tryd.prog.info? 51).map (·.size) = some 1024 := by kernel_rfl
def TX (w : World) (B : Nat) (f : Txs) : Prop := w.heap[B]? = some (.cells (txC f) 51 (0, 0))
theorem TX.lt {w : World} {B : Nat} {f : Txs} (h : TX w B f) : B < w.heap.size := (Array.getElem?_eq_some_iff.1 h).1
theorem TX.cell {w : World} {B : Nat} {f : Txs} (h : TX w B f) {j : Nat} (hj : j < 1024) : w.cell? ⟨B, j, none⟩ = some (.string ⟨(f j).toArray⟩) := by
  rw [Lib.cell_of_heap h j]; exact txC_at f hj
theorem TX.frozen {w : World} {B : Nat} {f : Txs} (h : TX w B f) (j : Nat) : w.frozen? ⟨B, j, none⟩ = false := by
  unfold World.frozen?; rw [show w.heap[B]? = _ from h]; simp
theorem TX.world {w w' : World} {B : Nat} {f : Txs} (h : TX w B f) (hb : w'.heap[B]? = w.heap[B]?) : TX w' B f := hb.trans h
theorem TX.below {w w' : World} {B : Nat} {f : Txs} (h : TX w B f) (hb : Below w.heap.size w w') : TX w' B f := h.world (hb.block B h.lt)
theorem row_set {w : World} {B : Nat} {c : Array Value} {T : TypeId} {fr : Nat × Nat} (h : w.heap[B]? = some (.cells c T fr)) (j : Nat) (v : Value) : (w.setCell ⟨B, j, none⟩ v).heap[B]? = some (.cells (c.setIfInBounds j v) T fr) := by
  have hlt := (Array.getElem?_eq_some_iff.1 h).1
  have he := (Array.getElem?_eq_some_iff.1 h).2
  show (w.heap.modify B _)[B]? = _
  rw [Array.getElem?_eq_getElem (by rw [Array.size_modify]; exact hlt), Array.getElem_modify_self, he]
  rfl
theorem TX.set {w : World} {B : Nat} {f : Txs} (h : TX w B f) {j : Nat} (hj : j < 1024) (v : List UInt8) : TX (w.setCell ⟨B, j, none⟩ (.string ⟨v.toArray⟩)) B (setX f j v) := by
  unfold TX
  rw [row_set h, txC_set f j hj v]
theorem TX.congr {w : World} {B : Nat} {f g : Txs} (h : TX w B f) (hg : ∀ k : Nat, k < 1024 → f k = g k) : TX w B g := by
  unfold TX; rw [← txC_congr hg]; exact h
theorem heap_setRow_self {w : World} {g : Nat} {c : Array Value} {t : TypeId} {fr : Nat × Nat} (h : w.heap[g]? = some (.cells c t fr)) (cs : Array Value) : (w.setRow g cs).heap[g]? = some (.cells cs t fr) := by
  have hlt := (Array.getElem?_eq_some_iff.1 h).1
  have he := (Array.getElem?_eq_some_iff.1 h).2
  unfold World.setRow
  show (w.heap.modify g _)[g]? = _
  rw [Array.getElem?_eq_getElem (by rw [Array.size_modify]; exact hlt), Array.getElem_modify_self, he]
theorem heap_setRow_other (w : World) {g k : Nat} (cs : Array Value) (h : k ≠ g) : (w.setRow g cs).heap[k]? = w.heap[k]? := by
  unfold World.setRow
  show (w.heap.modify g _)[k]? = _
  rw [Array.getElem?_modify, if_neg (fun e => h e.symm)]
theorem below_setRow' {B g : Nat} {w0 w : World} (hb : Below B w0 w) (hBg : B ≤ g) (cs : Array Value) : Below B w0 (w.setRow g cs) := by
  refine ⟨hb.os, hb.tape, hb.output, ?_, fun k hk => (heap_setRow_other w cs (by omega)).trans (hb.block k hk)⟩
  show _ ≤ (w.heap.modify g _).size
  rw [Array.size_modify]; exact hb.size
end Go.Proofs.YthfbhinlgoaajaaDoor
namespace Go.Proofs.YthfbhinlgoaajaaDoor
open Go.RowKit
def chW (c : Ch) : List Value := [.int .i64 c.key, .string ⟨c.fr.toArray⟩, .string ⟨c.tt.toArray⟩]
theorem chW_one : ∀ q : Ch, ∀ u ∈ chW q, u.oneCell' = true := by
  intro q u hu
  simp only [chW, List.mem_cons, List.not_mem_nil, or_false] at hu
  rcases hu with rfl | rfl | rfl <;> rfl
def RowC (w : World) (P : Nat → Prop) (A : Option Addr) (l : List Ch) : Prop := l = [] ∨ ∃ g o, A = some ⟨g, o, none⟩ ∧ P g ∧ g < w.heap.size ∧ AtR chW 3 w g o l
section
variable {w w' : World} {P Q : Nat → Prop} {A : Option Addr} {l : List Ch}
theorem RowC.kept (h : RowC w P A l) (hk : Kept w w' P) : RowC w' P A l := by
  rcases h with h | ⟨g, o, rfl, hp, hl, hc⟩
  · exact .inl h
  · exact .inr ⟨g, o, rfl, hp, Nat.lt_of_lt_of_le hl hk.size, fun i x hi j u hj => hk.cell hp (hc i x hi j u hj)⟩
theorem RowC.mono (h : RowC w P A l) (hpq : ∀ g, P g → g < w.heap.size → Q g) : RowC w Q A l := by
  rcases h with h | ⟨g, o, rfl, hp, hl, hc⟩
  · exact .inl h
  · exact .inr ⟨g, o, rfl, hpq g hp hl, hl, hc⟩
theorem RowC.below (h : RowC w P A l) (hb : Below w.heap.size w w') : RowC w' P A l := h.kept (Kept.of_below hb)
theorem RowC.at (h : RowC w P A l) {i : Nat} (hi : i < l.length) : ∃ g o, A = some ⟨g, o, none⟩ ∧ P g ∧ g < w.heap.size ∧ AtR chW 3 w g o l := by
  rcases h with rfl | h
  · simp at hi
  · exact h
theorem AtR.three {g o : Nat} (h : AtR chW 3 w g o l) {i : Nat} {x : Ch} (hi : l[i]? = some x) : w.cell? ⟨g, o + i * 3, none⟩ = some (.int .i64 x.key) ∧ w.cell? ⟨g, o + i * 3 + 1, none⟩ = some (.string ⟨x.fr.toArray⟩) ∧ w.cell? ⟨g, o + i * 3 + 2, none⟩ = some (.string ⟨x.tt.toArray⟩) :=
  ⟨h i x hi 0 _ rfl, h i x hi 1 _ rfl, h i x hi 2 _ rfl⟩
theorem own_rowC {E : TypeId} {base : Nat} {v : Value} {L : List Ch} (h : OwnR E 3 chW base w v L) : ∃ (A : Option Addr) (cap : Nat), v = .slice A L.length cap ∧ L.length ≤ cap ∧ RowC w (fun g => base ≤ g) A L := by
  obtain ⟨A, cap, rfl, hc, _⟩ := OwnR.shape (f := chW) (fun _ => rfl) h
  refine ⟨A, cap, rfl, hc, ?_⟩
  rcases Nat.eq_zero_or_pos L.length with e | e
  · exact .inl (List.length_eq_zero_iff.1 e)
  · obtain ⟨g, cap', hv, hb, hg⟩ := World.ownsRow.form h e
    have ha := OwnR.at (f := chW) (fun _ => rfl) (hv ▸ h) rfl
    simp at hv
    exact .inr ⟨g, 0, hv.1, hb, hg, ha⟩
end
/- what two lists of handles both have -/
def bothC (l m : List Int) : Nat := (l.map fun x => m.count x).sum
theorem both_next {l m : List Int} {i : Nat} {x : Int} (hx : l[i]? = some x) : bothC (l.take (i + 1)) m = bothC (l.take i) m + m.count x := by
  unfold bothC
  rw [List.take_add_one, hx, List.map_append, List.sum_append]
  rfl
theorem count_next {m : List Int} {k : Nat} {x y : Int} (hy : m[k]? = some y) : (m.take (k + 1)).count x = (m.take k).count x + if x = y then 1 else 0 := by
  rw [List.take_add_one, hy, List.count_append]
  congr 1
  by_cases e : x = y
  · rw [if_pos e, e]; simp
  · rw [if_neg e]; exact List.count_eq_zero.2 fun h => e (List.mem_singleton.1 h)
theorem both_len (l m : List Int) : bothC l m ≤ l.length * m.length := by
  unfold bothC
  induction l with
  | nil => simp
  | cons x l ih =>
    rw [List.map_cons, List.sum_cons, List.length_cons, Nat.add_mul, Nat.one_mul, Nat.add_comm]
    exact Nat.add_le_add ih (List.count_le_length)
end Go.Proofs.YthfbhinlgoaajaaDoor
namespace Go.Proofs.YthfbhinlgoaajaaDoor
open Go.RowKit Go.Maps Go.MapKept Go.ChangeMaps
theorem liveF_up : ∀ (s : Sh) (k : Int), (liveF k s).Pairwise (· < ·) ∧ ∀ x ∈ liveF k s, k ≤ x
  | [], _ => ⟨List.Pairwise.nil, fun x h => by cases h⟩
  | none :: s, k => by
    obtain ⟨h1, h2⟩ := liveF_up s (k + 1)
    exact ⟨h1, fun x hx => by have := h2 x hx; omega⟩
  | some _ :: s, k => by
    obtain ⟨h1, h2⟩ := liveF_up s (k + 1)
    refine ⟨List.pairwise_cons.2 ⟨fun x hx => by have := h2 x hx; omega, h1⟩, fun x hx => ?_⟩
    rcases List.mem_cons.1 hx with rfl | hx
    · exact Int.le_refl _
    · have := h2 x hx; omega
def litI (d : DataW Unit) : Int := match d with
  | .lit (.int _ h) => h
  | _ => 0
def hsK (D : DataW Unit) : List Int := match D with
  | .map es => es.map fun p => litI (D.atKey p.1 (hV 0))
  | _ => []
theorem hs_perm {D : DataW Unit} {t : Sh} {es : List (Lit × DataW Unit)} (hD : D = .map es) (hp : es.Pairwise (fun p q => p.1 ≠ q.1)) (hk : ∀ p ∈ es, WideAt.IsKeyLit p.1) (h : Maps9 D t) : (hsK D).Perm (liveA t) := by
  have hh : ∀ p ∈ es, ∃ k n, ndAt t k = some n ∧ p.1 = kN n ∧ litI (D.atKey p.1 (hV 0)) = k := fun p hp => by
    have e : has D p.1 = true := by
      rw [hD, has_eq, List.any_eq_true]
      exact ⟨p, hp, WideAt.sameKey_self (hk p hp)⟩
    obtain ⟨k, n, hn, e⟩ := h.only _ e
    exact ⟨k, n, hn, e, by rw [e, (h.at_ k n hn).1]; rfl⟩
  have e0 : hsK D = es.map fun p => litI (D.atKey p.1 (hV 0)) := by rw [hD]; rfl
  rw [e0]
  refine (List.perm_ext_iff_of_nodup ?_ ((liveF_up t 1).1.imp fun {a b} hab => by omega)).2 fun x => ?_
  · refine List.pairwise_map.2 (hp.imp_of_mem fun {p q} hp' hq' hne e => hne ?_)
    obtain ⟨k, n, hn, e1, e2⟩ := hh p hp'
    obtain ⟨j, m, hm, e3, e4⟩ := hh q hq'
    rw [e2, e4] at e
    subst e
    rw [hn] at hm
    cases hm
    rw [e1, e3]
  · show _ ↔ x ∈ liveA t
    rw [liveA_mem, List.mem_map, live_iff]
    constructor
    · rintro ⟨p, hp', rfl⟩
      obtain ⟨k, n, hn, _, e2⟩ := hh p hp'
      rw [e2]; exact ⟨n, hn⟩
    · rintro ⟨n, hn⟩
      have e := (h.at_ x n hn).2
      rw [hD, has_eq, List.any_eq_true] at e
      obtain ⟨p, hp', hs⟩ := e
      exact ⟨p, hp', by rw [WideAt.sameKey_eq hs, (h.at_ x n hn).1]; rfl⟩
theorem MapA.size {w : World} {b : Nat} {t : Sh} {D : DataW Unit} {n : Nat} (h1 : w.ownsMap Tryd.prog 103 (plainElem Tryd.prog 3) b n D) (h : Maps9 D t) : Maps.size D = (liveA t).length ∧ (hsK D).Perm (liveA t) := by
  obtain ⟨es, hD, hp, hk⟩ := h1.entries lookKeyed
  have hP := hs_perm hD hp hk h
  refine ⟨?_, hP⟩
  rw [← hP.length_eq, hD]
  show es.length = (es.map _).length
  rw [List.length_map]
theorem sorted_live {l : List Int} {t : Sh} (h : l.Perm (liveA t)) : l.mergeSort (fun x y => decide (x ≤ y)) = liveA t := by
  have e := mergeSort_of_perm_i h
  refine e.trans (List.mergeSort_of_pairwise ((liveF_up t 1).1.imp fun {a b} hab => ?_))
  simp only [leI, decide_eq_true_eq]
  omega
/- asking -/
theorem MapA.len {w : World} {b : Nat} {t : Sh} (h : MapA w b t) (ty : TypeId) : (Builtin.len_ #[44] ty #[.map (some b)]).run Tryd.prog w = .ok (.int .i64 ((liveA t).length : Int)) w := by
  obtain ⟨D, h1, h2⟩ := h
  rw [h1.len Tryd.underlying44 ty, (MapA.size h1 h2).1]
theorem MapA.look {w : World} {b : Nat} {t : Sh} (h : MapA w b t) (hf : FitT t) (h1 : ∀ h k n, ndAt t h = some n → ndAt t k = some n → h = k) {x : Nd} (hx : FitK x) :
    (Instr.lookup 44 (.map (some b)) (lookV x) true).run Tryd.prog w = .ok (.tuple #[.int .i64 (fnd t x : Int), .bool (decide (fnd t x ≠ 0))]) w := by
  obtain ⟨D, h2, h3⟩ := h
  obtain ⟨v, ps, hrun, hv⟩ := h2.look_ok lookKeyed Tryd.underlying44 (intZero9 w) (zd := hV 0) (zp := []) (plainElem_int Tryd.underlying3 (by decide)) (key_look hx)
  by_cases e : fnd t x = 0
  · have hm := h3.miss hf hx fun k hk => by
      obtain ⟨i, rfl, hi⟩ := ndAt_some hk
      exact fnd_zero e i hi
    rw [atKey_of_not_has hm] at hv
    obtain ⟨a, rfl, hz, _⟩ := plainElem_int_inv Tryd.underlying3 hv
    cases hz
    rw [hrun, hm, e]; rfl
  · have hp := fnd_pos e
    obtain ⟨e1, e2⟩ := h3.at_ _ _ hp
    rw [e1] at hv
    obtain ⟨a, rfl, hz, _⟩ := plainElem_int_inv Tryd.underlying3 hv
    cases hz
    rw [hrun, e2, decide_eq_true e]
theorem MapA.put {w : World} {b : Nat} {t t' : Sh} (h : MapA w b t) (hf : FitT t) (hsz : (liveA t).length < maxLen) {x : Nd} {k : Int} (hx : FitK x) (hk64 : 0 ≤ k ∧ k ≤ 1000000) (h0 : ∀ k, ndAt t k ≠ some x) (ht : ∀ j, ndAt t' j = if j = k then some x else ndAt t j) (hk : ndAt t k = none) :
    ∃ w', (Instr.mapUpdate 44 (.map (some b)) (lookV x) (.int .i64 k)).run Tryd.prog w = .ok () w' ∧ MapA w' b t' ∧ w.grownBy w' (some b) ∧ w'.heap.size = w.heap.size ∧ ∀ a, w'.frozen? a = w.frozen? a := by
  obtain ⟨D, h2, h3⟩ := h
  have hs := (MapA.size h2 h3).1
  obtain ⟨w', hrun, r1, r2⟩ := h2.store lookKeyed Tryd.underlying44 (by omega) (key_look hx) (plainElem_int Tryd.underlying3 (a := k) (wf64' (by omega)))
  exact ⟨w', hrun, ⟨_, own_tight r1, h3.put h2.isMap hf hx h0 ht hk⟩, r2.grown, by obtain ⟨es, clock, es', clock', hb, rfl⟩ := r2; simp [setBlock], r2.frozen⟩
theorem MapA.del {w : World} {b : Nat} {t t' : Sh} (h : MapA w b t) (hf : FitT t) (h1 : ∀ h k n, ndAt t h = some n → ndAt t k = some n → h = k) {x : Nd} {k : Int} (hx : ndAt t k = some x) (ht : ∀ j, ndAt t' j = if j = k then none else ndAt t j) (ty : TypeId) :
    ∃ w', (Builtin.delete_ #[44, 103] ty #[.map (some b), lookV x]).run Tryd.prog w = .ok (.tuple #[]) w' ∧ MapA w' b t' ∧ w.grownBy w' (some b) ∧ w'.heap.size = w.heap.size ∧ ∀ a, w'.frozen? a = w.frozen? a := by
  obtain ⟨D, h2, h3⟩ := h
  obtain ⟨w', hrun, r1, r2⟩ := h2.drop lookKeyed Tryd.underlying44 (key_look (hf k x hx)) ty
  exact ⟨w', hrun, ⟨_, own_tight r1, h3.del hf h1 hx ht⟩, r2.grown, by obtain ⟨es, clock, es', clock', hb, rfl⟩ := r2; simp [setBlock], r2.frozen⟩
end Go.Proofs.YthfbhinlgoaajaaDoor
namespace Go.Proofs.YthfbhinlgoaajaaDoor
theorem reach_rise (s : Sh) (l : List Int) : (reachA s l).Pairwise (· < ·) := (liveF_up _ 1).1
def AhB (l m : List Int) (i k : Nat) : Prop := ∀ y ∈ m.take k, ∀ x ∈ l.drop i, y < x
def NoB (m : List Int) (x : Int) (k : Nat) : Prop := ∀ y ∈ m.take k, y ≤ x
theorem ahB_zero (l m : List Int) : AhB l m 0 0 := fun y hy => by rw [List.take_zero] at hy; cases hy
theorem ahB_no {l m : List Int} {i k : Nat} {x : Int} (h : AhB l m i k) (hx : l[i]? = some x) : NoB m x k := fun y hy => by
  obtain ⟨h1, e⟩ := List.getElem?_eq_some_iff.1 hx
  have : x ∈ l.drop i := by rw [List.drop_eq_getElem_cons h1, e]; exact List.mem_cons_self
  exact Int.le_of_lt (h y hy x this)
theorem noB_next {m : List Int} {x y : Int} {k : Nat} (h : NoB m x k) (hy : m[k]? = some y) (hxy : y ≤ x) : NoB m x (k + 1) := fun z hz => by
  rw [List.take_add_one, hy] at hz
  rcases List.mem_append.1 hz with e | e
  · exact h z e
  · obtain rfl : z = y := by simpa using e
    exact hxy
theorem noB_ah {l m : List Int} (hl : l.Pairwise (· < ·)) {i k : Nat} {x : Int} (hx : l[i]? = some x) (h : NoB m x k) : AhB l m (i + 1) k := fun y hy z hz => by
  have h1 := h y hy
  obtain ⟨hi, e⟩ := List.getElem?_eq_some_iff.1 hx
  have h2 : x < z := by
    have hd : (l.drop i).Pairwise (· < ·) := hl.sublist (List.drop_sublist _ _)
    rw [List.drop_eq_getElem_cons hi, e] at hd
    exact (List.pairwise_cons.1 hd).1 z hz
  omega
theorem cnt_end {m : List Int} (hm : m.Pairwise (· < ·)) {k : Nat} {x : Int} (h : ∀ y, m[k]? = some y → x < y) : m.count x = (m.take k).count x := by
  conv => lhs; rw [← List.take_append_drop k m, List.count_append]
  have h0 : (m.drop k).count x = 0 := by
    refine List.count_eq_zero.2 fun hx => ?_
    by_cases hk : k < m.length
    · have hd : (m.drop k).Pairwise (· < ·) := hm.sublist (List.drop_sublist _ _)
      rw [List.drop_eq_getElem_cons hk] at hd hx
      have h1 := h _ (List.getElem?_eq_getElem hk)
      rcases List.mem_cons.1 hx with e | e
      · omega
      · have := (List.pairwise_cons.1 hd).1 x e; omega
    · rw [List.drop_eq_nil_of_le (by omega)] at hx; cases hx
  rw [h0]; rfl
theorem both_end {l m : List Int} (hm : m.Pairwise (· < ·)) {i k : Nat} {x : Int} (hx : l[i]? = some x) (h : ∀ y, m[k]? = some y → x < y) : bothC (l.take i) m + (m.take k).count x = bothC (l.take (i + 1)) m := by
  rw [both_next hx, cnt_end hm h]
theorem cnt_yes {m : List Int} {k : Nat} {x : Int} (hy : m[k]? = some x) : (m.take (k + 1)).count x = (m.take k).count x + 1 := by rw [count_next hy, if_pos rfl]
theorem cnt_no {m : List Int} {k : Nat} {x y : Int} (hy : m[k]? = some y) (h : x ≠ y) : (m.take (k + 1)).count x = (m.take k).count x := by rw [count_next hy, if_neg h]; rfl
theorem cnt_ah {l m : List Int} {i k : Nat} {x : Int} (h : AhB l m i k) (hx : l[i]? = some x) : (m.take k).count x = 0 := List.count_eq_zero.2 fun hm => by
  obtain ⟨h1, e⟩ := List.getElem?_eq_some_iff.1 hx
  have : x ∈ l.drop i := by rw [List.drop_eq_getElem_cons h1, e]; exact List.mem_cons_self
  exact absurd (h x hm x this) (by omega)
noncomputable def shR (s : Sh) (x y : Int) : Nat := if (hasT s x).isSome = true ∧ (hasT s y).isSome = true then bothC (reachA s [x]) (reachA s [y]) else 0
theorem shR_no {s : Sh} {x y : Int} (h : (hasT s x).isSome = false ∨ (hasT s y).isSome = false) : shR s x y = 0 := by
  unfold shR
  refine if_neg fun q => ?_
  rcases h with e | e
  · rw [e] at q; cases q.1
  · rw [e] at q; cases q.2
theorem shR_yes {s : Sh} {x y : Int} (h1 : (hasT s x).isSome = true) (h2 : (hasT s y).isSome = true) : shR s x y = bothC (reachA s [x]) (reachA s [y]) := if_pos ⟨h1, h2⟩
end Go.Proofs.YthfbhinlgoaajaaDoor
namespace Go.Proofs.YthfbhinlgoaajaaDoor
open Go.RowKit
def ofR (N : Nat) : Option (List En) → Option (List En) → List Ch × Int
  | some l, some m => (chN l m N, 0)
  | _, _ => ([], 1)
theorem ofR_none {N : Nat} {r q : Option (List En)} (h : r = none ∨ q = none) : ofR N r q = ([], 1) := by
  rcases h with rfl | rfl
  · rfl
  · cases r <;> rfl
def DofP (w : World) (r : List Ch × Int) (e : Ending) (w' : World) : Prop :=
  ∃ O co, e = .returned (.tuple #[.slice O r.1.length co, .int .i64 r.2]) ∧ r.1.length ≤ co ∧ RowC w' (fun g => w.heap.size ≤ g) O r.1 ∧ Below w.heap.size w w'
theorem DofP.not {w w' : World} (hb : Below w.heap.size w w') {r : List Ch × Int} (hr : r = ([], 1)) : DofP w r (.returned (.tuple #[.slice none 0 0, .int .i64 1])) w' := by
  subst hr
  exact ⟨none, 0, rfl, Nat.le_refl _, .inl rfl, hb⟩
theorem chN_next_no {l m : List En} {n : Nat} (h : txE l (n : Int) = txE m (n : Int)) : chN l m (n + 1) = chN l m n := by rw [chN, if_pos h, List.append_nil]
theorem chN_next_yes {l m : List En} {n : Nat} (h : txE l (n : Int) ≠ txE m (n : Int)) : chN l m (n + 1) = chN l m n ++ [⟨(n : Int), txE l (n : Int), txE m (n : Int)⟩] := by rw [chN, if_neg h]
end Go.Proofs.YthfbhinlgoaajaaDoor
namespace Go.Proofs.YthfbhinlgoaajaaDoor
theorem bld_self {l : List En} (h : OkL l) : entX (bldF l) 1024 = l := by
  have e := sort_is h.1 (ok_dis h)
  rw [sort_self h] at e
  exact e.symm
theorem bld_ent {room : Nat} {s : Sh} {f : Txs} (hok : OkX f) : pBldR room s (entX f 1024) = putT room s (entX f 1024) := by
  have h := entX_ok hok 1024 (Nat.le_refl _)
  rw [bld_yes h.1 (ok_dis h), sort_self h]
theorem tx_ent {f : Txs} (hok : OkX f) {k : Nat} (hk : k < 1024) : txE (entX f 1024) (k : Int) = f k := by
  unfold txE
  rw [getX hok (Nat.le_refl _) hk]
  split
  · rename_i e; rw [e]; rfl
  · rfl
theorem ent_sort {f : Txs} (hok : OkX f) {m : List En} (hm : Rg m) (h : ∀ k : Nat, k < 1024 → f k = txE m (k : Int)) : entX f 1024 = sortK m 1024 := by
  have h1 := entX_ok hok 1024 (Nat.le_refl _)
  rw [← sort_self h1]
  refine rg_ext (rg_of h1) hm fun k h0 h9 => ?_
  obtain ⟨j, rfl⟩ : ∃ j : Nat, k = (j : Int) := ⟨k.toNat, by omega⟩
  rw [tx_ent hok (by omega), h j (by omega)]
theorem chN_fn_no {f g : Txs} (hf : OkX f) (hg : OkX g) {i : Nat} (hi : i < 1024) (h : f i = g i) : chN (entX f 1024) (entX g 1024) (i + 1) = chN (entX f 1024) (entX g 1024) i :=
  chN_next_no (by rw [tx_ent hf hi, tx_ent hg hi, h])
theorem chN_fn_yes {f g : Txs} (hf : OkX f) (hg : OkX g) {i : Nat} (hi : i < 1024) (h : f i ≠ g i) : chN (entX f 1024) (entX g 1024) (i + 1) = chN (entX f 1024) (entX g 1024) i ++ [⟨(i : Int), f i, g i⟩] := by
  rw [chN_next_yes (by rw [tx_ent hf hi, tx_ent hg hi]; exact h), tx_ent hf hi, tx_ent hg hi]
theorem set_step {f : Txs} {H : List En} {c : Ch} (hH : Rg H) (hc : okC c = true) (h : ∀ k : Nat, k < 1024 → f k = txE H (k : Int)) : ∀ k : Nat, k < 1024 → setX f c.key.toNat c.tt k = txE (stepC H c) (k : Int) := fun k hk => by
  have hk0 := okC_iff.1 hc
  rw [step_tx hH hc]
  unfold setX
  by_cases e : k = c.key.toNat
  · rw [if_pos e, if_pos (by omega)]
  · rw [if_neg e, if_neg (by omega), h k hk]
theorem at_step {f : Txs} {H : List En} {c : Ch} (hc : okC c = true) (h : ∀ k : Nat, k < 1024 → f k = txE H (k : Int)) : f c.key.toNat = txE H c.key := by
  have hk0 := okC_iff.1 hc
  rw [h _ (by omega), show ((c.key.toNat : Nat) : Int) = c.key by omega]
end Go.Proofs.YthfbhinlgoaajaaDoor
namespace Go.Proofs.YthfbhinlgoaajaaDoor
open Go.RowKit
theorem reach_mem {room : Nat} {s : Sh} (hi : Inv room s) {roots : List Int} {h : Int} : h ∈ reachA s roots ↔ Rch s roots h := by
  unfold reachA
  rw [liveA_mem, left_live hi]
end Go.Proofs.YthfbhinlgoaajaaDoor
namespace Go.Proofs.YthfbhinlgoaajaaDoor
def dvA : List En := [⟨1, [97]⟩, ⟨2, [98]⟩, ⟨9, [99]⟩]
def dvB : List En := [⟨2, [98]⟩, ⟨9, [100]⟩, ⟨7, [101]⟩]
def dvL : List En := [⟨2, [98]⟩, ⟨7, [101]⟩, ⟨9, [100]⟩]
def dvC : List Ch := [⟨1, [97], []⟩, ⟨7, [], [101]⟩, ⟨9, [99], [100]⟩]
def dvS1 : Sh := (putT 30 [] dvA).1
def dvS2 : Sh := (putT 30 dvS1 dvL).1
theorem dvOkA : OkL dvA := ⟨by decide, by decide⟩
theorem dvOkL : OkL dvL := ⟨by decide, by decide⟩
theorem dvT1 : putT 30 [] dvA = (dvS1, 4, 0) := by kernel_rfl
theorem dvT2 : putT 30 dvS1 dvL = (dvS2, 7, 0) := by kernel_rfl
theorem dvT3 : putT 30 dvS2 dvL = (dvS2, 7, 0) := by kernel_rfl
theorem dvC1 : szT' (trK 2 dvA) = 4 := by kernel_rfl
theorem dvC2 : szT' (trK 2 dvL) = 4 := by kernel_rfl
theorem dvN1 : cntS dvS1 = 4 := by kernel_rfl
theorem dvI : IsT dvS1 4 dvA ∧ Inv 30 dvS1 ∧ IsT dvS2 7 dvL ∧ Inv 30 dvS2 ∧ Up dvS1 dvS2 := by
  obtain ⟨_, a2, a3, a4, _, _⟩ := putT_good (inv_nil 30) dvOkA (by decide) (Nat.le_trans (Nat.add_le_add_left (cost_sz _ _) _) (by rw [dvC1]; decide))
  rw [dvT1] at a2 a3 a4
  obtain ⟨_, b2, b3, b4, _, _⟩ := putT_good a3 dvOkL (by decide) (Nat.le_trans (Nat.add_le_add_left (cost_sz _ _) _) (by rw [dvC2]; show cntS dvS1 + 4 ≤ 30; rw [dvN1]; decide))
  rw [show (dvS1, (4 : Int), 0).1 = dvS1 from rfl, dvT2] at b2 b3 b4
  exact ⟨a2, a3, b2, b3, b4⟩
theorem dvB1 : pBldR 30 [] dvA = (dvS1, 4, 0) := by
  rw [bld_yes dvOkA.1 (ok_dis dvOkA), sort_self dvOkA, dvT1]
theorem dvB2 : pBldR 30 dvS1 dvB = (dvS2, 7, 0) := by
  have hr : ∀ x ∈ dvB, rightE x = true := by decide
  have hd : DisK dvB := by unfold DisK; decide
  rw [bld_yes hr hd, ← dvT2]
  refine congrArg (putT 30 dvS1) ?_
  refine (sort_ok hr hd).eq dvOkL fun y => ?_
  rw [(sortK_perm (keyIn_of hr)).mem_iff]
  simp only [dvB, dvL, List.mem_cons, List.not_mem_nil, or_false]
  constructor
  · rintro (e | e | e)
    · exact .inl e
    · exact .inr (.inr e)
    · exact .inr (.inl e)
  · rintro (e | e | e)
    · exact .inl e
    · exact .inr (.inr e)
    · exact .inr (.inl e)
theorem dvH1 : hasT dvS2 4 = some dvA := hasT_some (isT_up dvI.2.2.2.2 dvI.1)
theorem dvH2 : hasT dvS2 7 = some dvL := hasT_some dvI.2.2.1
theorem dvCN : chN dvA dvL 1024 = dvC := by kernel_rfl
theorem dvOf : ofR 1024 (hasT dvS2 4) (hasT dvS2 7) = (dvC, 0) := by rw [dvH1, dvH2]; show (chN dvA dvL 1024, (0 : Int)) = _; rw [dvCN]
theorem dvOkC : ∀ c ∈ dvC, okC c = true := by decide
theorem dvDis : DisC dvC := by unfold DisC; decide
theorem dvAp1 : pAplR 30 dvS2 4 dvC = (dvS2, 7, 0) := by
  rw [apl_yes dvH1 dvOkC dvDis (show runC dvA dvC = some dvL by kernel_rfl), sort_self dvOkL, dvT3]
theorem dvAp2 : pAplR 30 dvS2 7 dvC = (dvS2, 0, 7) := apl_clash dvH2 dvOkC dvDis (by kernel_rfl)
theorem rise_eq {l m : List Int} (h : l.Pairwise (· < ·)) (k : m.Pairwise (· < ·)) (hm : ∀ x, x ∈ l ↔ x ∈ m) : l = m := by
  have hp := (List.perm_ext_iff_of_nodup (h.imp fun {a b} hab e => by omega) (k.imp fun {a b} hab e => by omega)).2 hm
  refine hp.eq_of_pairwise (le := fun a b => a < b) (fun a b _ _ h1 h2 => ?_) h k
  omega
theorem dvLf {h : Int} {n : Nd} (hn : ndAt dvS2 h = some n) (hr : n.refs = []) (x : Int) : Rch dvS2 [h] x ↔ x = h := by
  rw [rch_from dvI.2.2.2.1 hn, hr]
  constructor
  · rintro (e | ⟨r, hr, _⟩)
    · exact e
    · cases hr
  · exact .inl
theorem dvFk {h a b c : Int} {n : Nd} (hn : ndAt dvS2 h = some n) (hr : n.refs = [a, b, c]) {na nb nc : Nd} (ha : ndAt dvS2 a = some na) (hb : ndAt dvS2 b = some nb) (hc : ndAt dvS2 c = some nc) (ra : na.refs = []) (rb : nb.refs = []) (rc : nc.refs = []) (la : live dvS2 a = true) (lb : live dvS2 b = true) (lc : live dvS2 c = true) (x : Int) :
    Rch dvS2 [h] x ↔ x = h ∨ x = a ∨ x = b ∨ x = c := by
  rw [rch_from dvI.2.2.2.1 hn, hr]
  constructor
  · rintro (e | ⟨r, hr, _, q⟩)
    · exact .inl e
    · simp only [List.mem_cons, List.not_mem_nil, or_false] at hr
      rcases hr with rfl | rfl | rfl
      · exact .inr (.inl ((dvLf ha ra x).1 q))
      · exact .inr (.inr (.inl ((dvLf hb rb x).1 q)))
      · exact .inr (.inr (.inr ((dvLf hc rc x).1 q)))
  · rintro (e | e | e | e)
    · exact .inl e
    · exact .inr ⟨a, by simp, la, (dvLf ha ra x).2 e⟩
    · exact .inr ⟨b, by simp, lb, (dvLf hb rb x).2 e⟩
    · exact .inr ⟨c, by simp, lc, (dvLf hc rc x).2 e⟩
theorem dvN4 : ndAt dvS2 4 = some ⟨3, [1, 2, 3], [17826304], []⟩ := by kernel_rfl
theorem dvN7 : ndAt dvS2 7 = some ⟨3, [1, 5, 6], [16810496], []⟩ := by kernel_rfl
theorem dvNl1 : ndAt dvS2 1 = some ⟨1, [], [2], [98]⟩ := by kernel_rfl
theorem dvNl2 : ndAt dvS2 2 = some ⟨1, [], [1], [97]⟩ := by kernel_rfl
theorem dvNl3 : ndAt dvS2 3 = some ⟨1, [], [9], [99]⟩ := by kernel_rfl
theorem dvNl5 : ndAt dvS2 5 = some ⟨1, [], [7], [101]⟩ := by kernel_rfl
theorem dvNl6 : ndAt dvS2 6 = some ⟨1, [], [9], [100]⟩ := by kernel_rfl
theorem dvR1 : reachA dvS2 [4] = [1, 2, 3, 4] := rise_eq (reach_rise _ _) (by decide) fun x => by
  rw [reach_mem dvI.2.2.2.1, dvFk dvN4 rfl dvNl1 dvNl2 dvNl3 rfl rfl rfl (by kernel_rfl) (by kernel_rfl) (by kernel_rfl) x]
  simp only [List.mem_cons, List.not_mem_nil, or_false]
  omega
theorem dvR2 : reachA dvS2 [7] = [1, 5, 6, 7] := rise_eq (reach_rise _ _) (by decide) fun x => by
  rw [reach_mem dvI.2.2.2.1, dvFk dvN7 rfl dvNl1 dvNl5 dvNl6 rfl rfl rfl (by kernel_rfl) (by kernel_rfl) (by kernel_rfl) x]
  simp only [List.mem_cons, List.not_mem_nil, or_false]
  omega
theorem dvSh : shR dvS2 4 7 = 1 := by
  rw [shR_yes (by rw [dvH1]; rfl) (by rw [dvH2]; rfl), dvR1, dvR2]
  decide
end Go.Proofs.YthfbhinlgoaajaaDoor
namespace Go.Proofs.YthfbhinlgoaajaaDoor
open Go.RowKit
theorem step_load_texts {w : World} {ops : Array Oper} {o : Oper} {a : Act} {K : Act → World → Prop} {Q : Exit → Act → World → Prop} {E0 : Prop} (hgd : o.guard = none) (x : Operand) (ho : o.op = .load 51 x)
    (g : Nat) (hx : a.eval x = .pointer (some ⟨g, 0, none⟩)) {f : Txs} (hg : TX w g f) (h : K (a.put o.dst (.agg (txC f))) w) :
    if Region.wanted o (yielded ops a.tmps) = true then Oper.wp Tryd.prog o a w K Q else E0 := by
  have hw : Region.wanted o (yielded ops a.tmps) = true := by simp [Region.wanted, hgd]
  rw [if_pos hw]
  exact wp_load_row 51 x ho g hx 51 (txC f) (0, 0) _ hg texts_under rfl (by rw [texts_info, txC_size]) h
theorem step_store_texts {w : World} {ops : Array Oper} {o : Oper} {a : Act} {K : Act → World → Prop} {Q : Exit → Act → World → Prop} {E0 : Prop} (hgd : o.guard = none) (x y : Operand) (ho : o.op = .store 51 x y)
    (g : Nat) (hx : a.eval x = .pointer (some ⟨g, 0, none⟩)) {f f0 : Txs} (hy : a.eval y = .agg (txC f)) (hg : TX w g f0) (h : K (a.put o.dst undef) (w.setRow g (txC f))) :
    if Region.wanted o (yielded ops a.tmps) = true then Oper.wp Tryd.prog o a w K Q else E0 := by
  have hw : Region.wanted o (yielded ops a.tmps) = true := by simp [Region.wanted, hgd]
  rw [if_pos hw]
  exact wp_store_row 51 x y ho g (txC f) hx hy 51 (txC f0) hg (by rw [texts_info, txC_size]) (by rw [txC_size, txC_size]) (txC_one f) h
theorem results_two {fn : Func} {p q : Tmp} (h : fn.results = #[.cell p 51, .tmp q]) (tmps : Array Value) (w : World) (g : Nat) {f : Txs} (hp : tmps.getD p undef = .pointer (some ⟨g, 0, none⟩)) (hg : TX w g f) :
    (results fn tmps).run Tryd.prog w = .ok (.tuple #[.agg (txC f), tmps.getD q undef]) w := by
  have hp' : tmps[p]?.getD undef = .pointer (some ⟨g, 0, none⟩) := by simpa using hp
  have hl := run_loadVar_row (P := Tryd.prog) w g 51 51 (txC f) (0, 0) _ hg texts_under rfl (by rw [texts_info, txC_size])
  simp [results, h, hp', asAddr, hl]
end Go.Proofs.YthfbhinlgoaajaaDoor
namespace Go.Proofs.YthfbhinlgoaajaaDoor
open Go.RowKit
theorem dtx_zero : Tryd.zeroCells53 = txC (fun _ => []) := by
  rw [txC_nil]; kernel_rfl
theorem dtx_under : Tryd.prog.underlying 53 = some (.array 1024 9) := by kernel_rfl
theorem dtx_info : (Tryd.prog.info? 53).map (·.size) = some 1024 := by kernel_rfl
def TD (w : World) (B : Nat) (f : Txs) : Prop := w.heap[B]? = some (.cells (txC f) 53 (0, 0))
theorem TD.lt {w : World} {B : Nat} {f : Txs} (h : TD w B f) : B < w.heap.size := (Array.getElem?_eq_some_iff.1 h).1
theorem TD.cell {w : World} {B : Nat} {f : Txs} (h : TD w B f) {j : Nat} (hj : j < 1024) : w.cell? ⟨B, j, none⟩ = some (.string ⟨(f j).toArray⟩) := by
  rw [Lib.cell_of_heap h j]; exact txC_at f hj
theorem TD.frozen {w : World} {B : Nat} {f : Txs} (h : TD w B f) (j : Nat) : w.frozen? ⟨B, j, none⟩ = false := by
  unfold World.frozen?; rw [show w.heap[B]? = _ from h]; simp
theorem TD.world {w w' : World} {B : Nat} {f : Txs} (h : TD w B f) (hb : w'.heap[B]? = w.heap[B]?) : TD w' B f := hb.trans h
theorem TD.below {w w' : World} {B : Nat} {f : Txs} (h : TD w B f) (hb : Below w.heap.size w w') : TD w' B f := h.world (hb.block B h.lt)
theorem TD.set {w : World} {B : Nat} {f : Txs} (h : TD w B f) {j : Nat} (hj : j < 1024) (v : List UInt8) : TD (w.setCell ⟨B, j, none⟩ (.string ⟨v.toArray⟩)) B (setX f j v) := by
  unfold TD
  rw [row_set h, txC_set f j hj v]
theorem TD.congr {w : World} {B : Nat} {f g : Txs} (h : TD w B f) (hg : ∀ k : Nat, k < 1024 → f k = g k) : TD w B g := by
  unfold TD; rw [← txC_congr hg]; exact h
theorem step_load_dtx {w : World} {ops : Array Oper} {o : Oper} {a : Act} {K : Act → World → Prop} {Q : Exit → Act → World → Prop} {E0 : Prop} (hgd : o.guard = none) (x : Operand) (ho : o.op = .load 53 x)
    (g : Nat) (hx : a.eval x = .pointer (some ⟨g, 0, none⟩)) {f : Txs} (hg : TD w g f) (h : K (a.put o.dst (.agg (txC f))) w) :
    if Region.wanted o (yielded ops a.tmps) = true then Oper.wp Tryd.prog o a w K Q else E0 := by
  have hw : Region.wanted o (yielded ops a.tmps) = true := by simp [Region.wanted, hgd]
  rw [if_pos hw]
  exact wp_load_row 53 x ho g hx 53 (txC f) (0, 0) _ hg dtx_under rfl (by rw [dtx_info, txC_size]) h
theorem step_store_dtx {w : World} {ops : Array Oper} {o : Oper} {a : Act} {K : Act → World → Prop} {Q : Exit → Act → World → Prop} {E0 : Prop} (hgd : o.guard = none) (x y : Operand) (ho : o.op = .store 53 x y)
    (g : Nat) (hx : a.eval x = .pointer (some ⟨g, 0, none⟩)) {f f0 : Txs} (hy : a.eval y = .agg (txC f)) (hg : TD w g f0) (h : K (a.put o.dst undef) (w.setRow g (txC f))) :
    if Region.wanted o (yielded ops a.tmps) = true then Oper.wp Tryd.prog o a w K Q else E0 := by
  have hw : Region.wanted o (yielded ops a.tmps) = true := by simp [Region.wanted, hgd]
  rw [if_pos hw]
  exact wp_store_row 53 x y ho g (txC f) hx hy 53 (txC f0) hg (by rw [dtx_info, txC_size]) (by rw [txC_size, txC_size]) (txC_one f) h
theorem dresults_two {fn : Func} {p q : Tmp} (h : fn.results = #[.cell p 53, .tmp q]) (tmps : Array Value) (w : World) (g : Nat) {f : Txs} (hp : tmps.getD p undef = .pointer (some ⟨g, 0, none⟩)) (hg : TD w g f) :
    (results fn tmps).run Tryd.prog w = .ok (.tuple #[.agg (txC f), tmps.getD q undef]) w := by
  have hp' : tmps[p]?.getD undef = .pointer (some ⟨g, 0, none⟩) := by simpa using hp
  have hl := run_loadVar_row (P := Tryd.prog) w g 53 53 (txC f) (0, 0) _ hg dtx_under rfl (by rw [dtx_info, txC_size])
  simp [results, h, hp', asAddr, hl]
end Go.Proofs.YthfbhinlgoaajaaDoor
namespace Go.Proofs.YthfbhinlgoaajaaDoor
open Go.RowKit
theorem takes_next9 {α : Type} {a b : List α} {i : Nat} {x y : α} (ha : a[i]? = some x) (hb : b[i]? = some y) (h : a.take i = b.take i) (e : x = y) : a.take (i + 1) = b.take (i + 1) := by
  rw [List.take_add_one, List.take_add_one, ha, hb, h, e]
theorem takes_no9 {α : Type} {a b : List α} {i : Nat} {x y : α} (ha : a[i]? = some x) (hb : b[i]? = some y) (e : x ≠ y) : a ≠ b := fun h => by
  rw [h, hb] at ha; exact e (Option.some.inj ha).symm
set_option maxHeartbeats 2000000 in
set_option maxRecDepth 10000 in
theorem pequal_any (a b : List Int) (A B : Option Addr) (ca cb : Nat) (w : World) (P Q : Nat → Prop) (hA : RowI w P A a) (hB : RowI w Q B b) (hla : a.length ≤ maxLen) :
    Calls Tryd.prog 45 #[.slice A a.length ca, .slice B b.length cb] w fun e w' => e = .returned (.bool (decide (a = b))) ∧ Below w.heap.size w w' := by
  have HA := Lib.hid hA
  have HB := Lib.hid hB
  unfold maxLen at hla
  clear hA hB
  by_cases hl : a.length = b.length
  · have HLL := Lib.hid hl
    have hd : ((a.length : Int) != (b.length : Int)) = false := by rw [hl]; simp
    clear hl
    go_enter Tryd.func45, Tryd.ntmps45
    go_wp2_with fail
    go_loopw [13] (fun vi wr => ∃ i : Nat, i ≤ a.length ∧ vi = .int .i64 (i : Int) ∧ Hid (a.take i = b.take i) ∧ Below w.heap.size w wr) (fun vi _ => a.length - (RowKit.intOf vi).toNat)
    case atStart => exact ⟨0, Nat.zero_le _, rfl, Lib.hid rfl, Below.refl _ _⟩
    case round =>
      obtain ⟨i, hi, rfl, HT, hb⟩ := hrel
      by_cases hlt : i < a.length
      · have hlt2 : i < b.length := HLL.out ▸ hlt
        obtain ⟨g, o, rfl, _, _, hca⟩ := HA.out.at hlt
        obtain ⟨g2, o2, rfl, _, _, hcb⟩ := HB.out.at hlt2
        obtain ⟨x, hx⟩ : ∃ x, a[i]? = some x := ⟨_, List.getElem?_eq_getElem hlt⟩
        obtain ⟨y, hy⟩ : ∃ y, b[i]? = some y := ⟨_, List.getElem?_eq_getElem hlt2⟩
        have q0 := keep_cell hb (hca i x hx)
        have q1 := keep_cell hb (hcb i y hy)
        by_cases hxy : x = y
        · have HN := Lib.hid (takes_next9 hx hy HT.out hxy)
          subst hxy
          clear hx hy hca hcb
          go_wp2_with fail
          try go_quiet (fail)
          try go_wp2_with fail
          go_roundw
          case rel => exact ⟨i + 1, by omega, by go_num, HN, by first | exact hb | exact below_drewN hb _⟩
          case measure => simp [RowKit.intOf]; omega
        · have HN := Lib.hid (takes_no9 hx hy hxy)
          have hd2 : (x != y) = true := by simpa using hxy
          clear hx hy hca hcb
          go_wp2_with fail
          try go_quiet (fail)
          try go_wp2_with fail
          go_ret
          exact ⟨by rw [decide_eq_false HN.out]; rfl, by first | exact hb | exact below_drewN hb _⟩
      · have hii : i = a.length := by omega
        subst hii
        have hz := HT.out
        rw [List.take_length, HLL.out, List.take_length] at hz
        have HZ := Lib.hid hz
        clear hz
        go_wp2_with fail
        go_ret
        exact ⟨by rw [decide_eq_true HZ.out]; rfl, hb⟩
  · have hd : ((a.length : Int) != (b.length : Int)) = true := by simp; omega
    have HN : Hid (a ≠ b) := Lib.hid fun h => hl (by rw [h])
    clear hl
    go_enter Tryd.func45, Tryd.ntmps45
    go_wp2_with fail
    go_ret
    exact ⟨by rw [decide_eq_false HN.out]; rfl, Below.refl _ _⟩
end Go.Proofs.YthfbhinlgoaajaaDoor
namespace Go.Proofs.YthfbhinlgoaajaaDoor
open Go.RowKit
theorem Kept.frozen {w w' : World} {P : Nat → Prop} (h : Kept w w' P) {p : Addr} (hp : P p.block) (hl : p.block < w.heap.size) (hv : w.frozen? p = false) : w'.frozen? p = false := by
  rw [World.frozen?_of_block (w := w) (h.block p.block hp hl)]; exact hv
end Go.Proofs.YthfbhinlgoaajaaDoor
namespace Go.Proofs.YthfbhinlgoaajaaDoor
open Go.RowKit
theorem RowN.at {w : World} {P : Nat → Prop} {A : Option Addr} {l : List Nd} (h : RowN w P A l) {i : Nat} (hi : i < l.length) : ∃ g o, A = some ⟨g, o, none⟩ ∧ P g ∧ g < w.heap.size ∧
    ∀ (i : Nat) (n : Nd), l[i]? = some n → ∃ B cb C cc, At4 w g (o + i * 4) n B cb C cc ∧ RowI w P B n.refs ∧ RowI w P C n.nums := by
  rcases h with rfl | h
  · simp at hi
  · exact h
end Go.Proofs.YthfbhinlgoaajaaDoor
