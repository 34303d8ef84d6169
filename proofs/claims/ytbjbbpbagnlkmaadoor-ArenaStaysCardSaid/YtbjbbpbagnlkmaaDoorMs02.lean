/- Texts joined: NfC, OwB, OpR, RwB, NdF, NdG, NfD. -/
import Derived.Test.YtbjbbpbagnlkmaaDoorMs01
import Derived.Lib.SlKeysI
import Derived.Maps.Range
import Derived.OwnWalk
import Derived.Deep.Onto
import Derived.Test.YtbjbbpbagnlkmaaDoorProg
import Derived.WalkKit
import Derived.OpenShut
import Derived.Deep.Slices
import Derived.Deep.SlicePairs
import Derived.ChangeSame
import Derived.Deep.AppendLies
import Derived.Maps.AppendAt
import Derived.Deep.RegionWith
set_option linter.all false
namespace Go.Proofs.YtbjbbpbagnlkmaaDoor
open Go.RowKit Go.Maps Go.MapKept Go.ChangeMaps
theorem liveF_up : ∀ (s : Sh) (k : Int), (liveF k s).Pairwise (· < ·) ∧ ∀ x ∈ liveF k s, k ≤ x
  | [], _ => ⟨List.Pairwise.nil, fun x h => by cases h⟩
  | none :: s, k => by
    obtain ⟨h1, h2⟩ := liveF_up s (k + 1)
    exact ⟨h1, fun x hx => by have := h2 x hx; omega⟩
  | some _ :: s, k => by
    obtain ⟨h1, h2⟩ := liveF_up s (k + 1)
    refine ⟨List.pairwise_cons.2 ⟨fun x hx => by have := h2 x hx; omega, h1⟩, fun x hx => ?_⟩
    rcases List.mem_cons.1 hx with rfl | hx
    · exact Int.le_refl _
    · have := h2 x hx; omega
def litI (d : DataW Unit) : Int := match d with
  | .lit (.int _ h) => h
  | _ => 0
def hsK (D : DataW Unit) : List Int := match D with
  | .map es => es.map fun p => litI (D.atKey p.1 (hV 0))
  | _ => []
theorem hs_perm {D : DataW Unit} {t : Sh} {es : List (Lit × DataW Unit)} (hD : D = .map es) (hp : es.Pairwise (fun p q => p.1 ≠ q.1)) (hk : ∀ p ∈ es, WideAt.IsKeyLit p.1) (h : Maps9 D t) : (hsK D).Perm (liveA t) := by
  have hh : ∀ p ∈ es, ∃ k n, ndAt t k = some n ∧ p.1 = kN n ∧ litI (D.atKey p.1 (hV 0)) = k := fun p hp => by
    have e : has D p.1 = true := by
      rw [hD, has_eq, List.any_eq_true]
      exact ⟨p, hp, WideAt.sameKey_self (hk p hp)⟩
    obtain ⟨k, n, hn, e⟩ := h.only _ e
    exact ⟨k, n, hn, e, by rw [e, (h.at_ k n hn).1]; rfl⟩
  have e0 : hsK D = es.map fun p => litI (D.atKey p.1 (hV 0)) := by rw [hD]; rfl
  rw [e0]
  refine (List.perm_ext_iff_of_nodup ?_ ((liveF_up t 1).1.imp fun {a b} hab => by omega)).2 fun x => ?_
  · refine List.pairwise_map.2 (hp.imp_of_mem fun {p q} hp' hq' hne e => hne ?_)
    obtain ⟨k, n, hn, e1, e2⟩ := hh p hp'
    obtain ⟨j, m, hm, e3, e4⟩ := hh q hq'
    rw [e2, e4] at e
    subst e
    rw [hn] at hm
    cases hm
    rw [e1, e3]
  · show _ ↔ x ∈ liveA t
    rw [liveA_mem, List.mem_map, live_iff]
    constructor
    · rintro ⟨p, hp', rfl⟩
      obtain ⟨k, n, hn, _, e2⟩ := hh p hp'
      rw [e2]; exact ⟨n, hn⟩
    · rintro ⟨n, hn⟩
      have e := (h.at_ x n hn).2
      rw [hD, has_eq, List.any_eq_true] at e
      obtain ⟨p, hp', hs⟩ := e
      exact ⟨p, hp', by rw [WideAt.sameKey_eq hs, (h.at_ x n hn).1]; rfl⟩
theorem MapA.size {w : World} {b : Nat} {t : Sh} {D : DataW Unit} {n : Nat} (h1 : w.ownsMap Tryd.prog 72 (plainElem Tryd.prog 3) b n D) (h : Maps9 D t) : Maps.size D = (liveA t).length ∧ (hsK D).Perm (liveA t) := by
  obtain ⟨es, hD, hp, hk⟩ := h1.entries lookKeyed
  have hP := hs_perm hD hp hk h
  refine ⟨?_, hP⟩
  rw [← hP.length_eq, hD]
  show es.length = (es.map _).length
  rw [List.length_map]
theorem sorted_live {l : List Int} {t : Sh} (h : l.Perm (liveA t)) : l.mergeSort (fun x y => decide (x ≤ y)) = liveA t := by
  have e := mergeSort_of_perm_i h
  refine e.trans (List.mergeSort_of_pairwise ((liveF_up t 1).1.imp fun {a b} hab => ?_))
  simp only [leI, decide_eq_true_eq]
  omega
/- asking -/
theorem MapA.len {w : World} {b : Nat} {t : Sh} (h : MapA w b t) (ty : TypeId) : (Builtin.len_ #[57] ty #[.map (some b)]).run Tryd.prog w = .ok (.int .i64 ((liveA t).length : Int)) w := by
  obtain ⟨D, h1, h2⟩ := h
  rw [h1.len Tryd.underlying57 ty, (MapA.size h1 h2).1]
theorem MapA.look {w : World} {b : Nat} {t : Sh} (h : MapA w b t) (hf : FitT t) (h1 : ∀ h k n, ndAt t h = some n → ndAt t k = some n → h = k) {x : Nd} (hx : FitK x) :
    (Instr.lookup 57 (.map (some b)) (lookV x) true).run Tryd.prog w = .ok (.tuple #[.int .i64 (fnd t x : Int), .bool (decide (fnd t x ≠ 0))]) w := by
  obtain ⟨D, h2, h3⟩ := h
  obtain ⟨v, ps, hrun, hv⟩ := h2.look_ok lookKeyed Tryd.underlying57 (intZero9 w) (zd := hV 0) (zp := []) (plainElem_int Tryd.underlying3 (by decide)) (key_look hx)
  by_cases e : fnd t x = 0
  · have hm := h3.miss hf hx fun k hk => by
      obtain ⟨i, rfl, hi⟩ := ndAt_some hk
      exact fnd_zero e i hi
    rw [atKey_of_not_has hm] at hv
    obtain ⟨a, rfl, hz, _⟩ := plainElem_int_inv Tryd.underlying3 hv
    cases hz
    rw [hrun, hm, e]; rfl
  · have hp := fnd_pos e
    obtain ⟨e1, e2⟩ := h3.at_ _ _ hp
    rw [e1] at hv
    obtain ⟨a, rfl, hz, _⟩ := plainElem_int_inv Tryd.underlying3 hv
    cases hz
    rw [hrun, e2, decide_eq_true e]
theorem MapA.put {w : World} {b : Nat} {t t' : Sh} (h : MapA w b t) (hf : FitT t) (hsz : (liveA t).length < maxLen) {x : Nd} {k : Int} (hx : FitK x) (hk64 : 0 ≤ k ∧ k ≤ 1000000) (h0 : ∀ k, ndAt t k ≠ some x) (ht : ∀ j, ndAt t' j = if j = k then some x else ndAt t j) (hk : ndAt t k = none) :
    ∃ w', (Instr.mapUpdate 57 (.map (some b)) (lookV x) (.int .i64 k)).run Tryd.prog w = .ok () w' ∧ MapA w' b t' ∧ w.grownBy w' (some b) ∧ w'.heap.size = w.heap.size ∧ ∀ a, w'.frozen? a = w.frozen? a := by
  obtain ⟨D, h2, h3⟩ := h
  have hs := (MapA.size h2 h3).1
  obtain ⟨w', hrun, r1, r2⟩ := h2.store lookKeyed Tryd.underlying57 (by omega) (key_look hx) (plainElem_int Tryd.underlying3 (a := k) (wf64' (by omega)))
  exact ⟨w', hrun, ⟨_, own_tight r1, h3.put h2.isMap hf hx h0 ht hk⟩, r2.grown, by obtain ⟨es, clock, es', clock', hb, rfl⟩ := r2; simp [setBlock], r2.frozen⟩
theorem MapA.del {w : World} {b : Nat} {t t' : Sh} (h : MapA w b t) (hf : FitT t) (h1 : ∀ h k n, ndAt t h = some n → ndAt t k = some n → h = k) {x : Nd} {k : Int} (hx : ndAt t k = some x) (ht : ∀ j, ndAt t' j = if j = k then none else ndAt t j) (ty : TypeId) :
    ∃ w', (Builtin.delete_ #[57, 72] ty #[.map (some b), lookV x]).run Tryd.prog w = .ok (.tuple #[]) w' ∧ MapA w' b t' ∧ w.grownBy w' (some b) ∧ w'.heap.size = w.heap.size ∧ ∀ a, w'.frozen? a = w.frozen? a := by
  obtain ⟨D, h2, h3⟩ := h
  obtain ⟨w', hrun, r1, r2⟩ := h2.drop lookKeyed Tryd.underlying57 (key_look (hf k x hx)) ty
  exact ⟨w', hrun, ⟨_, own_tight r1, h3.del hf h1 hx ht⟩, r2.grown, by obtain ⟨es, clock, es', clock', hb, rfl⟩ := r2; simp [setBlock], r2.frozen⟩
end Go.Proofs.YtbjbbpbagnlkmaaDoor
namespace Go.Proofs.YtbjbbpbagnlkmaaDoor
open Go.RowKit
theorem grown_of_below {w w' : World} (h : Below w.heap.size w w') (row : Option Nat) : w.grownBy w' row := ⟨h.os, h.tape, h.output, h.size, fun i hi _ => h.block i hi⟩
theorem own_below {w w' : World} {base : Nat} {e : TypeId} {size : Nat} {v : Value} {n : Nat} {xs : List Value} (h : w.ownsRow base e size v n xs) (hb : Below w.heap.size w w') : w'.ownsRow base e size v n xs :=
  h.kept (grown_of_below hb none) (by cases v.ownBlock <;> simp)
def Stop (P : Prop) : Prop := P
theorem of_stop {P : Prop} (h : Stop P) : P := h
theorem stop_of {P : Prop} (h : P) : Stop P := h
end Go.Proofs.YtbjbbpbagnlkmaaDoor
namespace Go.Proofs.YtbjbbpbagnlkmaaDoor
open Go.ChangeShapes Go.WideShapes Go.RowKit Go.Deep
section
variable {H : Type} {enc : TypeId × Value → H} {w : World} {base : Nat} {spare : Nat → Bool} {held : Bool}
def AtR {α : Type} (f : α → List Value) (k : Nat) (w : World) (g o : Nat) (l : List α) : Prop := ∀ (i : Nat) (q : α), l[i]? = some q → ∀ (j : Nat) (u : Value), (f q)[j]? = some u → w.cell? ⟨g, o + i * k + j, none⟩ = some u
set_option maxRecDepth 100000 in
theorem open_rows {α : Type} [Inhabited α] {r : Reach} {b0 : Nat} {v : Value} {d : DataW H} {p : List MemPlace} {ts te : TypeId} {k : Nat} (f : α → List Value) (Ok : α → Prop) (hf : ∀ q, (f q).length = k)
    (hts : Tryd.prog.underlying ts = some (.slice te)) (hk : Tryd.prog.cellsOf te = k) (hk0 : 0 < k)
    (hel : ∀ {fuel : Nat} {cs : List Value} {x : DataW H × List MemPlace}, cs.length = k → DataW.trod enc Tryd.prog w base spare held fuel te cs = some x → ∃ q, cs = f q ∧ Ok q)
    (hv : Value.okWide Tryd.prog w r b0 ts v) (h : DataW.Trod enc Tryd.prog w base spare held ts v d p) :
    ∃ (l : List α) (A : Option Addr) (cap : Nat), v = .slice A l.length cap ∧ l.length ≤ maxLen ∧ (∀ q ∈ l, Ok q) ∧ (l ≠ [] → ∃ g o, A = some ⟨g, o, none⟩ ∧ AtR f k w g o l) := by
  obtain ⟨a0, len, cap, rfl⟩ := okWide_slice hts hv
  obtain ⟨fuel, hfu⟩ := h
  rcases DataW.trod_slice hts hfu with ⟨e5, _⟩ | ⟨ad, len', cap', el, rs, n4, rfl, e5, _, _, hlc, hcm, hle, helem, _, _⟩
  · simp [Value.cells] at e5
    obtain ⟨rfl, rfl, rfl⟩ := e5
    exact ⟨([] : List α), none, 0, rfl, by simp, by simp, fun hh => absurd rfl hh⟩
  · simp [Value.cells] at e5
    obtain ⟨rfl, rfl, rfl⟩ := e5
    have key : ∀ i, i < len → ∃ q : α, (∀ (j : Nat) (u : Value), (f q)[j]? = some u → w.cell? ((ad.add (i * k)).add j) = some u) ∧ Ok q := by
      intro i hi
      have h1 := helem i hi
      rw [hk] at h1
      obtain ⟨y, hy⟩ : ∃ y, el[i]? = some y := ⟨el[i]'(by omega), List.getElem?_eq_getElem (by omega)⟩
      rw [hy] at h1
      obtain ⟨ce, hce, hte⟩ := Option.bind_eq_some_iff.1 h1
      obtain ⟨_, hcl, hcell⟩ := World.cells?_some hce
      obtain ⟨q, rfl, hq⟩ := hel hcl hte
      refine ⟨q, fun j u hj => ?_, hq⟩
      have hjl : j < k := by rw [← hf q]; exact (List.getElem?_eq_some_iff.1 hj).1
      rw [hcell j hjl]; exact hj
    obtain ⟨Q, hQ⟩ := choose_lt key
    refine ⟨(List.range len).map Q, some ad, cap, by simp, by simp; omega, fun q hq => ?_, fun hne => ?_⟩
    · obtain ⟨i, hi, rfl⟩ := List.mem_map.1 hq
      exact (hQ i (List.mem_range.1 hi)).2
    · have hpos : 0 < len := by
        cases len with
        | zero => simp at hne
        | succ k => omega
      obtain ⟨g, o, spot⟩ := ad
      have hspot : spot = none := by
        obtain ⟨u, hu⟩ : ∃ u, (f (Q 0))[0]? = some u := ⟨(f (Q 0))[0]'(by rw [hf]; exact hk0), List.getElem?_eq_getElem (by rw [hf]; exact hk0)⟩
        have h00 := (hQ 0 hpos).1 0 u hu
        simpa [Addr.add] using World.cell?_spot h00
      subst hspot
      refine ⟨g, o, rfl, fun i q hi j u hj => ?_⟩
      have hlt : i < len := by
        have := (List.getElem?_eq_some_iff.1 hi).1
        simpa using this
      have hq : Q i = q := by simpa [hlt] using hi
      have := (hQ i hlt).1 j u (by rw [hq]; exact hj)
      rwa [add_plain, add_plain] at this
end
end Go.Proofs.YtbjbbpbagnlkmaaDoor
namespace Go.Proofs.YtbjbbpbagnlkmaaDoor
open Go.RowKit
def OwnR {α : Type} (E : TypeId) (n : Nat) (f : α → List Value) (base : Nat) (w : World) (v : Value) (L : List α) : Prop := w.ownsRow base E n v L.length (L.flatMap f)
section
variable {α : Type} {E : TypeId} {n : Nat} {f : α → List Value}
theorem flatR_at (hf : ∀ q, (f q).length = n) : ∀ (l : List α) (i : Nat) (q : α), l[i]? = some q → ∀ (j : Nat) (u : Value), (f q)[j]? = some u → (l.flatMap f)[i * n + j]? = some u
  | [], i, q, h, _, _, _ => by simp at h
  | p :: t, 0, q, h, j, u, hj => by
    simp at h; subst h
    rw [List.flatMap_cons, Nat.zero_mul, Nat.zero_add, List.getElem?_append_left (by exact (List.getElem?_eq_some_iff.1 hj).1)]
    exact hj
  | p :: t, i + 1, q, h, j, u, hj => by
    have := flatR_at hf t i q (by simpa using h) j u hj
    have e : (i + 1) * n + j - n = i * n + j := by rw [Nat.succ_mul]; omega
    rw [List.flatMap_cons, List.getElem?_append_right (by rw [hf, Nat.succ_mul]; omega), hf, e]
    exact this
theorem OwnR.shape {base : Nat} {w : World} {v : Value} {L : List α} (hf : ∀ q, (f q).length = n) (h : OwnR E n f base w v L) : ∃ (A : Option Addr) (cap : Nat), v = .slice A L.length cap ∧ L.length ≤ cap ∧ (L ≠ [] → ∃ g o, A = some ⟨g, o, none⟩ ∧ AtR f n w g o L) := by
  have h' := h
  rcases h.2 with ⟨rfl, hl⟩ | ⟨g, cap, cur, rfl, _, hh, hc, _⟩
  · refine ⟨none, 0, by rw [hl], by rw [hl]; exact Nat.le_refl _, fun hne => ?_⟩
    exact absurd (List.length_eq_zero_iff.1 hl) hne
  · refine ⟨_, cap, rfl, hc, fun _ => ⟨g, 0, rfl, fun i q hi j u hj => ?_⟩⟩
    have hlt : i < L.length := (List.getElem?_eq_some_iff.1 hi).1
    have hjn : j < n := by have := (List.getElem?_eq_some_iff.1 hj).1; rwa [hf] at this
    have hle : i * n + j < L.length * n := by
      have h1 : (i + 1) * n ≤ L.length * n := Nat.mul_le_mul_right n hlt
      rw [Nat.succ_mul] at h1
      omega
    rw [Nat.zero_add]
    exact (World.ownsRow.cellAt h' (i * n + j) (by first | exact hle | omega)).trans (flatR_at hf L i q hi j u hj)
def Apart (v u : Value) : Prop := ∀ k, v.ownBlock = some k → u.ownBlock = some k → False
theorem Apart.symm {v u : Value} (h : Apart v u) : Apart u v := fun k hv hu => h k hu hv
theorem Apart.nil (u : Value) : Apart (.slice none 0 0) u := fun k hv _ => by cases hv
theorem OwnR.beside {base : Nat} {w w' : World} {v u : Value} {L : List α} (h : OwnR E n f base w u L) (hg : w.grownBy w' v.ownBlock) (ha : Apart v u) : OwnR E n f base w' u L := by
  refine World.ownsRow.kept h hg ?_
  cases hu : u.ownBlock with
  | none => exact .inl rfl
  | some k => exact .inr fun e => ha k e.symm hu
theorem OwnR.apart {base : Nat} {w : World} {v v' u : Value} {L : List α} (h : OwnR E n f base w u L) (ha : Apart v u) (hat : v'.ownBlock = v.ownBlock ∨ v'.ownBlock = some (w.heap.size + 1)) : Apart v' u := fun k hv hu => by
  rcases hat with e | e
  · exact ha k (e ▸ hv) hu
  · have h1 := (World.ownsRow.lt h k hu).2
    rw [e] at hv
    cases hv
    omega
theorem OwnR.below {base : Nat} {w w' : World} {v : Value} {L : List α} (h : OwnR E n f base w v L) (hb : Below w.heap.size w w') : OwnR E n f base w' v L := own_below h hb
theorem wpList_append_row {S : TypeId} {i0 : TypeInfo} {z : Value} {nb : Nat}
    (w : World) {ops : Array Oper} {rest : List Oper} {o : Oper} {a : Act} {Q : Exit → Act → World → Prop} (hg : o.guard = none) (s x : Operand) (ho : o.op = .call { callee := .builtin .append, args := #[s, x], argTypes := #[S, S] }) {base : Nat} {v : Value} {X : List α}
    (hs : a.eval s = v) {w0 : World} {q : α} (hw : w = w0.alloc (.cells (f q).toArray E)) (hown : OwnR E n f base w0 v X) (hx : a.eval x = .slice (some ⟨w0.heap.size, 0, none⟩) 1 1)
    (hu : Tryd.prog.underlying S = some (.slice E)) (hi0 : Tryd.prog.info? E = some i0) (hz0 : i0.zero = some z) (hz1 : i0.size = n) (hz2 : i0.bytes = nb) (hzc : z.cells.size = n) (hn0 : 0 < n) (hnb : nb ≤ 100)
    (hf : ∀ q, (f q).length = n) (h1c : ∀ q, ∀ u ∈ f q, u.oneCell' = true) (hlen : X.length ≤ 1000000) (hbase : base ≤ w0.heap.size)
    (h : ∀ v' w', OwnR E n f base w' v' (X ++ [q]) → w0.grownBy w' v.ownBlock → (v'.ownBlock = v.ownBlock ∨ v'.ownBlock = some (w0.heap.size + 1)) → wpList Tryd.prog ops Q rest (a.put o.dst v') w') : wpList Tryd.prog ops Q (o :: rest) a w := by
  subst hw
  have hb : (w0.alloc (.cells (f q).toArray E)).heap[w0.heap.size]? = some (.cells (f q).toArray E) := (MapKept.heap_alloc w0 _).1
  have hroom : nb * (X.length + 1) ≤ 200000000 := by
    have : nb * (X.length + 1) ≤ 100 * (1000000 + 1) := Nat.mul_le_mul hnb (by omega)
    omega
  refine wpList_append_own_at _ hg s x S ho base E i0 z n nb hu hi0 hz0 hz1 hz2 hzc hn0 v X.length (X.flatMap f) hs (World.ownsRow.alloc hown _) ⟨w0.heap.size, 0, none⟩ 1 1 (f q) hx (by rw [hf, Nat.one_mul]) ?_ (h1c q) (by unfold maxLen; omega) ?_ (by simp; omega) fun v' w' hown' hg' _ hat => h v' w' ?_ ?_ (by simpa using hat)
  · intro j u hj
    exact World.news_of_block (cs := (f q).toArray) (t := E) (fr := (0, 0)) hb j u (by simpa using hj)
  · first
    | omega
    | (have e : nb * (X.length + 1) = (X.length + 1) * nb := Nat.mul_comm _ _; omega)
  · unfold OwnR
    rw [List.length_append, List.flatMap_append]
    show w'.ownsRow base _ n v' (X.length + 1) (X.flatMap f ++ [q].flatMap f)
    rw [List.flatMap_singleton]
    exact hown'
  · exact ⟨hg'.os, hg'.tape, hg'.output, Nat.le_trans (by simp) hg'.size, fun k hk hn => (hg'.block k (by simp; omega) hn).trans (Below.heap_alloc w0 _ k hk)⟩
theorem step_append_row {S : TypeId} {i0 : TypeInfo} {z : Value} {nb : Nat}
    {w : World} {ops : Array Oper} {o : Oper} {a : Act} {K : Act → World → Prop} {Q : Exit → Act → World → Prop} {E0 : Prop} (hg : o.guard = none) (s x : Operand) (ho : o.op = .call { callee := .builtin .append, args := #[s, x], argTypes := #[S, S] }) {base : Nat} {v : Value} {X : List α}
    (hs : a.eval s = v) (B : Nat) {q : α} (hx : a.eval x = .slice (some ⟨B, 0, none⟩) 1 1) (hown : OwnR E n f base w v X) (hb : w.heap[B]? = some (.cells (f q).toArray E))
    (hu : Tryd.prog.underlying S = some (.slice E)) (hi0 : Tryd.prog.info? E = some i0) (hz0 : i0.zero = some z) (hz1 : i0.size = n) (hz2 : i0.bytes = nb) (hzc : z.cells.size = n) (hn0 : 0 < n) (hnb : nb ≤ 100)
    (hf : ∀ q, (f q).length = n) (h1c : ∀ q, ∀ u ∈ f q, u.oneCell' = true) (hlen : X.length ≤ 1000000) (hbase : base ≤ w.heap.size)
    (h : ∀ g cap w', OwnR E n f base w' (.slice (some ⟨g, 0, none⟩) (X.length + 1) cap) (X ++ [q]) → w.grownBy w' v.ownBlock → (v.ownBlock = some g ∨ g = w.heap.size) → K (a.put o.dst (.slice (some ⟨g, 0, none⟩) (X.length + 1) cap)) w') :
    if Region.wanted o (yielded ops a.tmps) = true then Oper.wp Tryd.prog o a w K Q else E0 := by
  have hroom : nb * (X.length + 1) ≤ 200000000 := by
    have : nb * (X.length + 1) ≤ 100 * (1000000 + 1) := Nat.mul_le_mul hnb (by omega)
    omega
  refine step_append_lies _ hg s x S ho base E i0 z n nb hu hi0 hz0 hz1 hz2 hzc hn0 v X.length (X.flatMap f) hs hown ⟨B, 0, none⟩ 1 1 (f q) hx (by rw [hf, Nat.one_mul]) ?_ (h1c q) (by omega) (by unfold maxLen; omega) ?_ hbase w.heap.size rfl fun g cap w' hown' hg' hat _ => h g cap w' ?_ hg' hat
  · intro j u hj
    exact World.news_of_block (cs := (f q).toArray) (t := E) (fr := (0, 0)) hb j u (by simpa using hj)
  · first
    | omega
    | (have e : nb * (X.length + 1) = (X.length + 1) * nb := Nat.mul_comm _ _; omega)
  · unfold OwnR
    rw [List.length_append, List.flatMap_append]
    show w'.ownsRow base _ n _ (X.length + 1) (X.flatMap f ++ [q].flatMap f)
    rw [List.flatMap_singleton]
    exact hown'
theorem flatR_len (hf : ∀ q, (f q).length = n) : ∀ l : List α, (l.flatMap f).length = l.length * n
  | [] => by simp
  | q :: l => by rw [List.flatMap_cons, List.length_append, flatR_len hf l, hf, List.length_cons, Nat.succ_mul]; omega
theorem flatR_split (hf : ∀ q, (f q).length = n) (hn0 : 0 < n) {l : List α} {j : Nat} {u : Value} (h : (l.flatMap f)[j]? = some u) : ∃ i q k, l[i]? = some q ∧ (f q)[k]? = some u ∧ j = i * n + k := by
  have hl := (List.getElem?_eq_some_iff.1 h).1
  rw [flatR_len hf] at hl
  have hi : j / n < l.length := Nat.div_lt_of_lt_mul (by rw [Nat.mul_comm]; exact hl)
  have hk : j % n < n := Nat.mod_lt _ hn0
  have hq := List.getElem?_eq_getElem hi
  have hu : (f l[j / n])[j % n]? = some ((f l[j / n])[j % n]'(by rw [hf]; exact hk)) := List.getElem?_eq_getElem _
  have e : j / n * n + j % n = j := Nat.div_add_mod' j n
  have := flatR_at hf l (j / n) _ hq (j % n) _ hu
  rw [e, h] at this
  exact ⟨j / n, _, j % n, hq, by rw [hu, this], e.symm⟩
theorem wpList_append_rows {S : TypeId} {i0 : TypeInfo} {z : Value} {nb : Nat}
    {w : World} {ops : Array Oper} {rest : List Oper} {o : Oper} {a : Act} {Q : Exit → Act → World → Prop} (hg : o.guard = none) (s x : Operand) (ho : o.op = .call { callee := .builtin .append, args := #[s, x], argTypes := #[S, S] }) {base : Nat} {v : Value} {X : List α}
    (hs : a.eval s = v) (hown : OwnR E n f base w v X) {g2 o2 c2 : Nat} {L2 : List α} (hx : a.eval x = .slice (some ⟨g2, o2, none⟩) L2.length c2) (hL : AtR f n w g2 o2 L2) (h0 : 0 < L2.length) {N : Nat} (hN : X.length + L2.length = N) {Z : List α} (hZ : X ++ L2 = Z)
    (hu : Tryd.prog.underlying S = some (.slice E)) (hi0 : Tryd.prog.info? E = some i0) (hz0 : i0.zero = some z) (hz1 : i0.size = n) (hz2 : i0.bytes = nb) (hzc : z.cells.size = n) (hn0 : 0 < n) (hnb : nb ≤ 100)
    (hf : ∀ q, (f q).length = n) (h1c : ∀ q, ∀ u ∈ f q, u.oneCell' = true) (hlen : N ≤ 2000000) (hbase : base ≤ w.heap.size)
    (h : ∀ g cap w', OwnR E n f base w' (.slice (some ⟨g, 0, none⟩) N cap) Z → w.grownBy w' v.ownBlock → (v.ownBlock = some g ∨ g = w.heap.size) → g < w'.heap.size → wpList Tryd.prog ops Q rest (a.put o.dst (.slice (some ⟨g, 0, none⟩) N cap)) w') : wpList Tryd.prog ops Q (o :: rest) a w := by
  subst hN hZ
  have hroom : nb * (X.length + L2.length) ≤ 200000000 := by
    have : nb * (X.length + L2.length) ≤ 100 * 2000000 := Nat.mul_le_mul hnb hlen
    omega
  refine wpList_append_lies _ hg s x S ho base E i0 z n nb hu hi0 hz0 hz1 hz2 hzc hn0 v X.length (X.flatMap f) hs hown ⟨g2, o2, none⟩ L2.length c2 (L2.flatMap f) hx (flatR_len hf L2) ?_ ?_ h0 (by unfold maxLen; omega) ?_ hbase w.heap.size rfl fun g cap w' hown' hg' hat hlt => h g cap w' ?_ hg' hat hlt
  · intro j u hj
    obtain ⟨i, q, k, hi, hk, e⟩ := flatR_split hf hn0 hj
    have := hL i q hi k u hk
    rw [Go.WideShapes.add_plain, e, ← Nat.add_assoc]; exact this
  · intro u hu'
    obtain ⟨q, _, hq⟩ := List.mem_flatMap.1 hu'
    exact h1c q u hq
  · have e : nb * (X.length + L2.length) = (X.length + L2.length) * nb := Nat.mul_comm _ _
    omega
  · unfold OwnR
    rw [List.length_append, List.flatMap_append]
    exact hown'
theorem one_row (w : World) (q : α) : AtR f n (w.alloc (.cells (f q).toArray E)) w.heap.size 0 [q] := fun i p hi j u hj => by
  cases i with
  | succ i => simp at hi
  | zero =>
    obtain rfl : q = p := by simpa using hi
    rw [Nat.zero_mul, Nat.zero_add, cell_of_row _ _ j (f q).toArray E (0, 0) (MapKept.heap_alloc w _).1]
    simpa using hj
theorem own_lit0 (w : World) (base : Nat) (hb : base ≤ w.heap.size) : OwnR E n f base (w.alloc (.cells #[] E)) (.slice (some ⟨w.heap.size, 0, none⟩) 0 0) ([] : List α) :=
  World.ownsRow_lit w #[] 0 hb (by unfold maxLen; omega) (by simp)
theorem OwnR.at {base : Nat} {w : World} {g cap N : Nat} {L : List α} (hf : ∀ q, (f q).length = n) (h : OwnR E n f base w (.slice (some ⟨g, 0, none⟩) N cap) L) (hN : N = L.length) : AtR f n w g 0 L := fun i q hi j u hj => by
  subst hN
  have hlt : i < L.length := (List.getElem?_eq_some_iff.1 hi).1
  have hjn : j < n := by have := (List.getElem?_eq_some_iff.1 hj).1; rwa [hf] at this
  have hle : i * n + j < L.length * n := by
    have h1 : (i + 1) * n ≤ L.length * n := Nat.mul_le_mul_right n hlt
    rw [Nat.succ_mul] at h1
    omega
  rw [Nat.zero_add]
  exact (World.ownsRow.cellAt h (i * n + j) hle).trans (flatR_at hf L i q hi j u hj)
theorem run_append_nothing {P : Program} (w : World) (t ty e : TypeId) (i : TypeInfo) (ht : P.underlying t = some (.slice e)) (hi : P.info? e = some i) (B : Nat) (A : Option Addr) (c : Nat) :
    (Builtin.append_ #[t, t] ty #[.slice (some ⟨B, 0, none⟩) 0 0, .slice A 0 c]).run P w = .ok (.slice (some ⟨B, 0, none⟩) 0 0) w := by
  cases A <;> simp [Builtin.append_, run_underlying ht, sizeOf, typeInfo, hi, Builtin.lenOf, Builtin.firstCells, loadCells, loadCellsFrom, storeCells]
theorem step_append_nothing {P : Program} {w : World} {ops : Array Oper} {o : Oper} {a : Act} {K : Act → World → Prop} {Q : Exit → Act → World → Prop} {E : Prop} (hgd : o.guard = none) (s x : Operand) (t : TypeId)
    (ho : o.op = .call { callee := .builtin .append, args := #[s, x], argTypes := #[t, t] }) (e : TypeId) (i : TypeInfo) (ht : P.underlying t = some (.slice e)) (hi : P.info? e = some i) (B : Nat) (A : Option Addr) (c : Nat)
    (hs : a.eval s = .slice (some ⟨B, 0, none⟩) 0 0) (hx : a.eval x = .slice A 0 c) (h : K (a.put o.dst (.slice (some ⟨B, 0, none⟩) 0 0)) w) :
    if Region.wanted o (yielded ops a.tmps) = true then Oper.wp P o a w K Q else E := by
  have hw : Region.wanted o (yielded ops a.tmps) = true := by simp [Region.wanted, hgd]
  rw [if_pos hw]
  unfold Oper.wp execOp
  simp only [ho, Go.resolve, invoke, builtin, Sem.run_bind, Sem.run_pure, Result.andThen_ok, List.map_toArray, List.map_cons, List.map_nil, hs, hx, run_append_nothing w t o.type e i ht hi B A c]
  exact h
theorem wpList_append_nothing {P : Program} {w : World} {ops : Array Oper} {rest : List Oper} {o : Oper} {a : Act} {Q : Exit → Act → World → Prop} (hgd : o.guard = none) (s x : Operand) (t : TypeId)
    (ho : o.op = .call { callee := .builtin .append, args := #[s, x], argTypes := #[t, t] }) (e : TypeId) (i : TypeInfo) (ht : P.underlying t = some (.slice e)) (hi : P.info? e = some i) (B : Nat) (A : Option Addr) (c : Nat)
    (hs : a.eval s = .slice (some ⟨B, 0, none⟩) 0 0) (hx : a.eval x = .slice A 0 c) (h : wpList P ops Q rest (a.put o.dst (.slice (some ⟨B, 0, none⟩) 0 0)) w) : wpList P ops Q (o :: rest) a w := by
  refine wpList_plain hgd fun K' hK' => ?_
  unfold Oper.wp execOp
  simp only [ho, Go.resolve, invoke, builtin, Sem.run_bind, Sem.run_pure, Result.andThen_ok, List.map_toArray, List.map_cons, List.map_nil, hs, hx, run_append_nothing w t o.type e i ht hi B A c]
  exact hK' _ _ h
theorem step_append_rows {S : TypeId} {i0 : TypeInfo} {z : Value} {nb : Nat}
    {w : World} {ops : Array Oper} {o : Oper} {a : Act} {K : Act → World → Prop} {Q : Exit → Act → World → Prop} {E0 : Prop} (hg : o.guard = none) (s x : Operand) (ho : o.op = .call { callee := .builtin .append, args := #[s, x], argTypes := #[S, S] }) {base : Nat} {v : Value} {X : List α}
    (hs : a.eval s = v) (hown : OwnR E n f base w v X) {g2 o2 c2 : Nat} {L2 : List α} (hx : a.eval x = .slice (some ⟨g2, o2, none⟩) L2.length c2) (hL : AtR f n w g2 o2 L2) (h0 : 0 < L2.length) {N : Nat} (hN : X.length + L2.length = N) {Z : List α} (hZ : X ++ L2 = Z)
    (hu : Tryd.prog.underlying S = some (.slice E)) (hi0 : Tryd.prog.info? E = some i0) (hz0 : i0.zero = some z) (hz1 : i0.size = n) (hz2 : i0.bytes = nb) (hzc : z.cells.size = n) (hn0 : 0 < n) (hnb : nb ≤ 100)
    (hf : ∀ q, (f q).length = n) (h1c : ∀ q, ∀ u ∈ f q, u.oneCell' = true) (hlen : N ≤ 2000000) (hbase : base ≤ w.heap.size)
    (h : ∀ g cap w', OwnR E n f base w' (.slice (some ⟨g, 0, none⟩) N cap) Z → w.grownBy w' v.ownBlock → (v.ownBlock = some g ∨ g = w.heap.size) → g < w'.heap.size → K (a.put o.dst (.slice (some ⟨g, 0, none⟩) N cap)) w') :
    if Region.wanted o (yielded ops a.tmps) = true then Oper.wp Tryd.prog o a w K Q else E0 := by
  subst hN hZ
  have hroom : nb * (X.length + L2.length) ≤ 200000000 := by
    have : nb * (X.length + L2.length) ≤ 100 * 2000000 := Nat.mul_le_mul hnb hlen
    omega
  refine step_append_lies _ hg s x S ho base E i0 z n nb hu hi0 hz0 hz1 hz2 hzc hn0 v X.length (X.flatMap f) hs hown ⟨g2, o2, none⟩ L2.length c2 (L2.flatMap f) hx (flatR_len hf L2) ?_ ?_ h0 (by unfold maxLen; omega) ?_ hbase w.heap.size rfl fun g cap w' hown' hg' hat hlt => h g cap w' ?_ hg' hat hlt
  · intro j u hj
    obtain ⟨i, q, k, hi, hk, e⟩ := flatR_split hf hn0 hj
    have := hL i q hi k u hk
    rw [Go.WideShapes.add_plain, e, ← Nat.add_assoc]; exact this
  · intro u hu'
    obtain ⟨q, _, hq⟩ := List.mem_flatMap.1 hu'
    exact h1c q u hq
  · have e : nb * (X.length + L2.length) = (X.length + L2.length) * nb := Nat.mul_comm _ _
    omega
  · unfold OwnR
    rw [List.length_append, List.flatMap_append]
    exact hown'
theorem own_empty0 {w : World} {base B : Nat} (hb : base ≤ B) (h : w.heap[B]? = some (.cells #[] E (0, 0))) : OwnR E n f base w (.slice (some ⟨B, 0, none⟩) 0 0) ([] : List α) :=
  ⟨by simp, .inr ⟨B, 0, #[], rfl, hb, h, Nat.le_refl _, Nat.zero_le _, by simp, by simp⟩⟩
end
end Go.Proofs.YtbjbbpbagnlkmaaDoor
namespace Go.Proofs.YtbjbbpbagnlkmaaDoor
open Go.RowKit
theorem takes_next {α : Type} {a b : List α} {i : Nat} {x y : α} (ha : a[i]? = some x) (hb : b[i]? = some y) (h : a.take i = b.take i) (e : x = y) : a.take (i + 1) = b.take (i + 1) := by
  rw [List.take_add_one, List.take_add_one, ha, hb, h, e]
theorem takes_no {α : Type} {a b : List α} {i : Nat} {x y : α} (ha : a[i]? = some x) (hb : b[i]? = some y) (e : x ≠ y) : a ≠ b := fun h => by
  rw [h, hb] at ha; exact e (Option.some.inj ha).symm
theorem RowI.at {w : World} {P : Nat → Prop} {A : Option Addr} {l : List Int} (h : RowI w P A l) {i : Nat} (hi : i < l.length) : ∃ g o, A = some ⟨g, o, none⟩ ∧ P g ∧ g < w.heap.size ∧ ∀ (i : Nat) (x : Int), l[i]? = some x → w.cell? ⟨g, o + i, none⟩ = some (.int .i64 x) := by
  rcases h with rfl | h
  · simp at hi
  · exact h
set_option maxHeartbeats 2000000 in
set_option maxRecDepth 10000 in
theorem rInts_any (a b : List Int) (A B : Option Addr) (ca cb : Nat) (w : World) (P Q : Nat → Prop) (hA : RowI w P A a) (hB : RowI w Q B b) (hla : a.length ≤ maxLen) :
    Calls Tryd.prog 10 #[.slice A a.length ca, .slice B b.length cb] w fun e w' => e = .returned (.bool (decide (a = b))) ∧ Below w.heap.size w w' := by
  have HA := Lib.hid hA
  have HB := Lib.hid hB
  unfold maxLen at hla
  clear hA hB
  by_cases hl : a.length = b.length
  · have HLL := Lib.hid hl
    have hd : ((a.length : Int) != (b.length : Int)) = false := by rw [hl]; simp
    clear hl
    go_enter Tryd.func10, Tryd.ntmps10
    go_wp2_with fail
    go_loopw [5] (fun vi wr => ∃ i : Nat, i ≤ a.length ∧ vi = .int .i64 (i : Int) ∧ Hid (a.take i = b.take i) ∧ Below w.heap.size w wr) (fun vi _ => a.length - (RowKit.intOf vi).toNat)
    case atStart => exact ⟨0, Nat.zero_le _, rfl, Lib.hid rfl, Below.refl _ _⟩
    case round =>
      obtain ⟨i, hi, rfl, HT, hb⟩ := hrel
      by_cases hlt : i < a.length
      · have hlt2 : i < b.length := HLL.out ▸ hlt
        obtain ⟨g, o, rfl, _, _, hca⟩ := HA.out.at hlt
        obtain ⟨g2, o2, rfl, _, _, hcb⟩ := HB.out.at hlt2
        obtain ⟨x, hx⟩ : ∃ x, a[i]? = some x := ⟨_, List.getElem?_eq_getElem hlt⟩
        obtain ⟨y, hy⟩ : ∃ y, b[i]? = some y := ⟨_, List.getElem?_eq_getElem hlt2⟩
        have q0 := keep_cell hb (hca i x hx)
        have q1 := keep_cell hb (hcb i y hy)
        by_cases hxy : x = y
        · have HN := Lib.hid (takes_next hx hy HT.out hxy)
          subst hxy
          clear hx hy hca hcb
          go_wp2_with fail
          try go_quiet (fail)
          try go_wp2_with fail
          go_roundw
          case rel => exact ⟨i + 1, by omega, by go_num, HN, by first | exact hb | exact below_drewN hb _⟩
          case measure => simp [RowKit.intOf]; omega
        · have HN := Lib.hid (takes_no hx hy hxy)
          have hd2 : (x != y) = true := by simpa using hxy
          clear hx hy hca hcb
          go_wp2_with fail
          try go_quiet (fail)
          try go_wp2_with fail
          go_ret
          exact ⟨by rw [decide_eq_false HN.out]; rfl, by first | exact hb | exact below_drewN hb _⟩
      · have hii : i = a.length := by omega
        subst hii
        have hz := HT.out
        rw [List.take_length, HLL.out, List.take_length] at hz
        have HZ := Lib.hid hz
        clear hz
        go_wp2_with fail
        go_ret
        exact ⟨by rw [decide_eq_true HZ.out]; rfl, hb⟩
  · have hd : ((a.length : Int) != (b.length : Int)) = true := by simp; omega
    have HN : Hid (a ≠ b) := Lib.hid fun h => hl (by rw [h])
    clear hl
    go_enter Tryd.func10, Tryd.ntmps10
    go_wp2_with fail
    go_ret
    exact ⟨by rw [decide_eq_false HN.out]; rfl, Below.refl _ _⟩

theorem same_yes {x y : Nd} (h0 : x.kind = y.kind) (h1 : x.text = y.text) (h2 : x.refs = y.refs) (h3 : x.nums = y.nums) : x = y := by
  cases x; cases y; simp only at h0 h1 h2 h3; subst h0 h1 h2 h3; rfl
theorem same_dec (x y : Nd) : decide (x = y) = ((x.kind == y.kind) && (x.text == y.text) && decide (x.refs = y.refs) && decide (x.nums = y.nums)) := by
  rw [Bool.eq_iff_iff]
  simp only [decide_eq_true_eq, Bool.and_eq_true, beq_iff_eq]
  exact ⟨fun h => by subst h; exact ⟨⟨⟨rfl, rfl⟩, rfl⟩, rfl⟩, fun ⟨⟨⟨h0, h1⟩, h2⟩, h3⟩ => same_yes h0 h1 h2 h3⟩
end Go.Proofs.YtbjbbpbagnlkmaaDoor
namespace Go.Proofs.YtbjbbpbagnlkmaaDoor
open Go.RowKit
theorem Kept.frozen {w w' : World} {P : Nat → Prop} (h : Kept w w' P) {p : Addr} (hp : P p.block) (hl : p.block < w.heap.size) (hv : w.frozen? p = false) : w'.frozen? p = false := by
  rw [World.frozen?_of_block (w := w) (h.block p.block hp hl)]; exact hv
structure RM (w : World) (P : Nat → Prop) (m gN cN gB cB room : Nat) (nds : List Nd) (bs : List Bool) : Prop where
  c0 : w.cell? ⟨m, 0, none⟩ = some (.int .i64 (room : Int))
  c1 : w.cell? ⟨m, 1, none⟩ = some (.slice (some ⟨gN, 0, none⟩) nds.length cN)
  c2 : w.cell? ⟨m, 2, none⟩ = some (.slice (some ⟨gB, 0, none⟩) bs.length cB)
  fM : ∀ j, w.frozen? ⟨m, j, none⟩ = false
  fN : ∀ j, w.frozen? ⟨gN, j, none⟩ = false
  fB : ∀ j, w.frozen? ⟨gB, j, none⟩ = false
  pM : P m
  pN : P gN
  pB : P gB
  nMN : m ≠ gN
  nMB : m ≠ gB
  nNB : gN ≠ gB
  lN : gN < w.heap.size
  lB : gB < w.heap.size
  rows : ∀ (i : Nat) (n : Nd), nds[i]? = some n → ∃ B cb C cc, At4 w gN (i * 4) n B cb C cc ∧ RowI w (fun g => P g ∧ g ≠ m ∧ g ≠ gN ∧ g ≠ gB) B n.refs ∧ RowI w (fun g => P g ∧ g ≠ m ∧ g ≠ gN ∧ g ≠ gB) C n.nums
  bits : ∀ (i : Nat) (b : Bool), bs[i]? = some b → w.cell? ⟨gB, i, none⟩ = some (.bool b)
  len : nds.length = bs.length
  one : 1 ≤ bs.length
  cap : bs.length ≤ room + 1
  small : room ≤ 65536
  wide : ∀ n ∈ nds, n.refs.length ≤ 1000000 ∧ n.nums.length ≤ 1000000
  room' : nds.length ≤ cN
section
variable {w w' : World} {P : Nat → Prop} {m gN cN gB cB room : Nat} {nds : List Nd} {bs : List Bool}
theorem RM.lM (h : RM w P m gN cN gB cB room nds bs) : m < w.heap.size := Lib.lt_of_cell h.c0
theorem RM.kept (h : RM w P m gN cN gB cB room nds bs) (hk : Kept w w' P) : RM w' P m gN cN gB cB room nds bs where
  c0 := hk.cell h.pM h.c0
  c1 := hk.cell h.pM h.c1
  c2 := hk.cell h.pM h.c2
  fM := fun j => hk.frozen h.pM h.lM (h.fM j)
  fN := fun j => hk.frozen h.pN h.lN (h.fN j)
  fB := fun j => hk.frozen h.pB h.lB (h.fB j)
  pM := h.pM
  pN := h.pN
  pB := h.pB
  nMN := h.nMN
  nMB := h.nMB
  nNB := h.nNB
  lN := Nat.lt_of_lt_of_le h.lN hk.size
  lB := Nat.lt_of_lt_of_le h.lB hk.size
  rows := fun i n hi => by
    obtain ⟨B, cb, C, cc, h4, hr, hn⟩ := h.rows i n hi
    have hk' : Kept w w' (fun g => P g ∧ g ≠ m ∧ g ≠ gN ∧ g ≠ gB) := ⟨hk.size, fun g hg hl => hk.block g hg.1 hl⟩
    exact ⟨B, cb, C, cc, h4.kept hk h.pN, hr.kept hk', hn.kept hk'⟩
  bits := fun i b hi => hk.cell h.pB (h.bits i b hi)
  len := h.len
  one := h.one
  cap := h.cap
  small := h.small
  wide := h.wide
  room' := h.room'
theorem RM.below (h : RM w P m gN cN gB cB room nds bs) (hb : Below w.heap.size w w') : RM w' P m gN cN gB cB room nds bs := h.kept (Kept.of_below hb)
set_option maxHeartbeats 2000000 in
set_option maxRecDepth 10000 in
theorem rHas_any (h : RM w P m gN cN gB cB room nds bs) (r : Int) :
    Calls Tryd.prog 29 #[.pointer (some ⟨m, 0, none⟩), .int .i64 r] w fun e w' => e = .returned (.bool (live (stOf nds bs) r)) ∧ w' = w := by
  have HL := Lib.hid (st_live' h.len r)
  have c2 := h.c2
  have hcap := h.cap
  have hsm := h.small
  have HB := Lib.hid h.bits
  generalize live (stOf nds bs) r = V at *
  by_cases h1 : 1 ≤ r
  · have d1 : decide (1 ≤ r) = true := decide_eq_true h1
    by_cases h2 : r < bs.length
    · have d2 : decide (r < (bs.length : Int)) = true := decide_eq_true h2
      obtain ⟨i, rfl⟩ : ∃ i : Nat, r = (i : Int) := ⟨r.toNat, by omega⟩
      have hi : i < bs.length := by omega
      obtain ⟨b, hb⟩ : ∃ b, bs[i]? = some b := ⟨_, List.getElem?_eq_getElem hi⟩
      have q0 := HB.out i b hb
      have hv := HL.out
      rw [d1, d2, show ((i : Int)).toNat = i by omega, hb] at hv
      have HV : Hid (V = b) := Lib.hid hv
      clear hv hb h
      go_enter Tryd.func29, Tryd.ntmps29
      go_wp2_with fail
      go_ret
      exact ⟨by rw [HV.out]; rfl, rfl⟩
    · have d2 : decide (r < (bs.length : Int)) = false := decide_eq_false h2
      have hv := HL.out
      rw [d1, d2] at hv
      have HV : Hid (V = false) := Lib.hid hv
      clear hv h
      go_enter Tryd.func29, Tryd.ntmps29
      go_wp2_with fail
      go_ret
      exact ⟨by rw [HV.out]; rfl, rfl⟩
  · have d1 : decide (1 ≤ r) = false := decide_eq_false h1
    have hv := HL.out
    rw [d1] at hv
    have HV : Hid (V = false) := Lib.hid hv
    clear hv h
    go_enter Tryd.func29, Tryd.ntmps29
    go_wp2_with fail
    go_ret
    exact ⟨by rw [HV.out]; rfl, rfl⟩
end
end Go.Proofs.YtbjbbpbagnlkmaaDoor
namespace Go.Proofs.YtbjbbpbagnlkmaaDoor
open Go.RowKit Go.Maps
def ptr (q : Option Nat) : Value := match q with
  | none => .pointer none
  | some g => .pointer (some ⟨g, 0, none⟩)
def pW (q : Option Nat) : List Value := [ptr q]
theorem pW_len (q : Option Nat) : (pW q).length = 1 := rfl
theorem pW_one : ∀ q : Option Nat, ∀ u ∈ pW q, u.oneCell' = true := fun q u hu => by
  obtain rfl := List.mem_singleton.1 hu
  cases q <;> rfl
def NdAt (w : World) (K : Nat → Prop) (g : Nat) (n : Nd) : Prop := K g ∧ ∃ B cb C cc, At4 w g 0 n B cb C cc ∧ RowI w K B n.refs ∧ RowI w K C n.nums
theorem NdAt.kept {w w' : World} {K : Nat → Prop} {g : Nat} {n : Nd} (h : NdAt w K g n) (hk : Kept w w' K) : NdAt w' K g n := by
  obtain ⟨h1, B, cb, C, cc, h2, h3, h4⟩ := h
  exact ⟨h1, B, cb, C, cc, h2.kept hk h1, h3.kept hk, h4.kept hk⟩
theorem NdAt.mono {w : World} {K K' : Nat → Prop} {g : Nat} {n : Nd} (h : NdAt w K g n) (hk : ∀ g, K g → g < w.heap.size → K' g) : NdAt w K' g n := by
  obtain ⟨h1, B, cb, C, cc, h2, h3, h4⟩ := h
  exact ⟨hk g h1 (Lib.lt_of_cell h2.1), B, cb, C, cc, h2, h3.mono hk, h4.mono hk⟩
theorem own_blk {α : Type} {E : TypeId} {n : Nat} {f : α → List Value} {base : Nat} {w w' : World} {A : Option Addr} {len cap : Nat} {L : List α} (h : OwnR E n f base w (.slice A len cap) L) (hb : ∀ g o, A = some ⟨g, o, none⟩ → w'.heap[g]? = w.heap[g]?) : OwnR E n f base w' (.slice A len cap) L := by
  refine ⟨h.1, ?_⟩
  rcases h.2 with ⟨e, hl⟩ | ⟨g, c, cur, e, h1, h2, h3⟩
  · exact .inl ⟨e, hl⟩
  · have eA : A = some ⟨g, 0, none⟩ := by simp at e; exact e.1
    exact .inr ⟨g, c, cur, e, h1, (hb g 0 eA).trans h2, h3⟩
theorem own_set {w : World} {E : TypeId} {base g cap N i : Nat} {L : List (Option Nat)} (h : OwnR E 1 pW base w (.slice (some ⟨g, 0, none⟩) N cap) L) (hN : L.length = N) (hi : i < L.length) (q : Option Nat) :
    OwnR E 1 pW base (w.setCell ⟨g, i, none⟩ (ptr q)) (.slice (some ⟨g, 0, none⟩) N cap) (L.set i q) := by
  have hm : ∀ l : List (Option Nat), l.flatMap pW = l.map ptr := fun l => by
    induction l with
    | nil => rfl
    | cons a l ih => rw [List.flatMap_cons, ih]; rfl
  subst hN
  obtain ⟨_, h⟩ := h
  rw [hm] at h
  unfold OwnR
  rw [hm, List.map_set, List.length_set]
  refine ⟨by simp, ?_⟩
  rcases h with ⟨e, hl⟩ | ⟨g', c, cur, e, h1, h2, h3, h4, h5, h6⟩
  · cases e
  · simp only [Value.slice.injEq, Option.some.injEq, Addr.mk.injEq, and_true, true_and] at e
    obtain ⟨rfl, rfl⟩ := e
    refine .inr ⟨g, cap, cur.setIfInBounds i (ptr q), rfl, h1, ?_, h3, h4, by simpa using h5, ?_⟩
    · simp [World.setCell, Array.getElem?_modify, h2]
    · rw [Array.toList_setIfInBounds, List.take_set, h6]
structure AR (w : World) (K : Nat → Prop) (a room : Nat) (ps : List (Option Nat)) (t tm : Sh) (A : Option Addr) (cS bK low : Nat) : Prop where
  c0 : w.cell? ⟨a, 0, none⟩ = some (.int .i64 (room : Int))
  c1 : w.cell? ⟨a, 1, none⟩ = some (.slice A t.length cS)
  c2 : w.cell? ⟨a, 2, none⟩ = some (.map (some bK))
  c3 : w.cell? ⟨a, 3, none⟩ = some (.int .i64 (low : Int))
  fA : ∀ j, w.frozen? ⟨a, j, none⟩ = false
  row : OwnR 74 1 pW 0 w (.slice A t.length cS) ps
  psl : ps.length = t.length
  at0 : ∀ i : Nat, t[i]? = some none → ps[i]? = some none
  at1 : ∀ (i : Nat) (n : Nd), t[i]? = some (some n) → ∃ g, ps[i]? = some (some g) ∧ NdAt w K g n
  map : MapA w bK tm
  ka : ¬ K a
  kb : ¬ K bK
  ab : a ≠ bK
  ks : ∀ g o, A = some ⟨g, o, none⟩ → ¬ K g ∧ g ≠ a ∧ g ≠ bK
  wide : room ≤ 65536
  len : t.length ≤ room
  low1 : low ≤ t.length
  kl : ∀ g, K g → g < w.heap.size
def LowK (t : Sh) (low : Nat) : Prop := ∀ i : Nat, i < low → t[i]? ≠ some none
section
variable {w w' : World} {K : Nat → Prop} {a room cS bK low : Nat} {ps : List (Option Nat)} {t tm : Sh} {A : Option Addr}
theorem AR.lA (h : AR w K a room ps t tm A cS bK low) : a < w.heap.size := Lib.lt_of_cell h.c0
theorem AR.lB (h : AR w K a room ps t tm A cS bK low) : bK < w.heap.size := h.map.lt
theorem AR.lS (h : AR w K a room ps t tm A cS bK low) {g o : Nat} (e : A = some ⟨g, o, none⟩) : g < w.heap.size := by
  rcases h.row.2 with ⟨e', hl⟩ | ⟨g', c, cur, e', h1, h2, h3⟩
  · simp [e] at e'
  · have eA : A = some ⟨g', 0, none⟩ := by simp at e'; exact e'.1
    rw [eA] at e
    cases e
    exact (Array.getElem?_eq_some_iff.1 h2).1
def Own (K : Nat → Prop) (a bK : Nat) (A : Option Addr) (g : Nat) : Prop := K g ∨ g = a ∨ g = bK ∨ ∃ o, A = some ⟨g, o, none⟩
theorem AR.kept (h : AR w K a room ps t tm A cS bK low) (hk : Kept w w' (Own K a bK A)) : AR w' K a room ps t tm A cS bK low := by
  have ha : w'.heap[a]? = w.heap[a]? := hk.block a (.inr (.inl rfl)) h.lA
  have hK : Kept w w' K := ⟨hk.size, fun g hg hl => hk.block g (.inl hg) hl⟩
  exact { h with
    c0 := by rw [World.cell?_of_block (w := w) ha]; exact h.c0
    c1 := by rw [World.cell?_of_block (w := w) ha]; exact h.c1
    c2 := by rw [World.cell?_of_block (w := w) ha]; exact h.c2
    c3 := by rw [World.cell?_of_block (w := w) ha]; exact h.c3
    fA := fun j => by rw [World.frozen?_of_block (w := w) ha]; exact h.fA j
    row := own_blk h.row fun g o e => hk.block g (.inr (.inr (.inr ⟨o, e⟩))) (h.lS e)
    at1 := fun i n hn => by obtain ⟨g, h1, h2⟩ := h.at1 i n hn; exact ⟨g, h1, h2.kept hK⟩
    map := h.map.block (hk.block bK (.inr (.inr (.inl rfl))) h.lB)
    kl := fun g hg => Nat.lt_of_lt_of_le (h.kl g hg) hk.size }
theorem AR.below (h : AR w K a room ps t tm A cS bK low) (hb : Below w.heap.size w w') : AR w' K a room ps t tm A cS bK low := h.kept (Kept.of_below hb)
theorem AR.mono {K' : Nat → Prop} (h : AR w K a room ps t tm A cS bK low) (hk : ∀ g, K g → g < w.heap.size → K' g) (h1 : ¬ K' a) (h2 : ¬ K' bK) (h3 : ∀ g o, A = some ⟨g, o, none⟩ → ¬ K' g) (h4 : ∀ g, K' g → g < w.heap.size) : AR w K' a room ps t tm A cS bK low :=
  { h with
    at1 := fun i n hn => by obtain ⟨g, e, e'⟩ := h.at1 i n hn; exact ⟨g, e, e'.mono hk⟩
    ka := h1
    kb := h2
    ks := fun g o e => ⟨h3 g o e, (h.ks g o e).2⟩
    kl := h4 }
theorem AR.slot (h : AR w K a room ps t tm A cS bK low) {i : Nat} (hi : i < t.length) : ∃ g q, A = some ⟨g, 0, none⟩ ∧ g < w.heap.size ∧ ps[i]? = some q ∧ w.cell? ⟨g, i, none⟩ = some (ptr q) ∧ w.frozen? ⟨g, i, none⟩ = false := by
  have hl := h.psl
  rcases h.row.2 with ⟨e', hz⟩ | ⟨g, c, cur, e', h1, h2, h3⟩
  · omega
  · have eA : A = some ⟨g, 0, none⟩ := by simp at e'; exact e'.1
    obtain ⟨q, hq⟩ : ∃ q, ps[i]? = some q := ⟨_, List.getElem?_eq_getElem (by omega)⟩
    have hrow := h.row
    rw [eA] at hrow
    have := OwnR.at pW_len hrow hl.symm i q hq 0 (ptr q) rfl
    exact ⟨g, q, eA, (Array.getElem?_eq_some_iff.1 h2).1, hq, by simpa using this, by simp [World.frozen?, h2]⟩
theorem AR.slot_live (h : AR w K a room ps t tm A cS bK low) {i : Nat} {q : Option Nat} (hi : i < t.length) (hq : ps[i]? = some q) : live t ((i : Int) + 1) = q.isSome := by
  unfold live
  rw [ndAt_succ]
  cases e : t[i]? with
  | none => rw [List.getElem?_eq_none_iff] at e; omega
  | some o =>
    cases o with
    | none =>
      have := h.at0 i e
      rw [hq] at this; cases this; rfl
    | some n =>
      obtain ⟨g, h1, _⟩ := h.at1 i n e
      rw [hq] at h1; cases h1; rfl
def Chg (a bK : Nat) (A : Option Addr) (g : Nat) : Prop := g = a ∨ g = bK ∨ ∃ o, A = some ⟨g, o, none⟩
theorem AR.chg (h : AR w K a room ps t tm A cS bK low) {g : Nat} (hg : Chg a bK A g) : ¬ K g ∧ g < w.heap.size := by
  rcases hg with rfl | rfl | ⟨o, e⟩
  · exact ⟨h.ka, h.lA⟩
  · exact ⟨h.kb, h.lB⟩
  · exact ⟨(h.ks g o e).1, h.lS e⟩
theorem AR.setLow (h : AR w K a room ps t tm A cS bK low) {low' : Nat} (hl : low' ≤ t.length) : AR (w.setCell ⟨a, 3, none⟩ (.int .i64 (low' : Int))) K a room ps t tm A cS bK low' := by
  have hb : ∀ k, k ≠ a → (w.setCell ⟨a, 3, none⟩ (.int .i64 (low' : Int))).heap[k]? = w.heap[k]? := fun k hk => Below.heap_setCell w ⟨a, 3, none⟩ _ k hk
  have hK : Kept w (w.setCell ⟨a, 3, none⟩ (.int .i64 (low' : Int))) K := ⟨by simp, fun g hg _ => hb g fun e => h.ka (e ▸ hg)⟩
  exact { h with
    c0 := by rw [World.cell?_setCell_other _ _ _ _ (by simp)]; exact h.c0
    c1 := by rw [World.cell?_setCell_other _ _ _ _ (by simp)]; exact h.c1
    c2 := by rw [World.cell?_setCell_other _ _ _ _ (by simp)]; exact h.c2
    c3 := World.cell?_setCell_same _ _ _ h.c3
    fA := fun j => by rw [World.frozen?_setCell]; exact h.fA j
    row := own_blk h.row fun g o e => hb g (h.ks g o e).2.1
    at1 := fun i n hn => by obtain ⟨g, h1, h2⟩ := h.at1 i n hn; exact ⟨g, h1, h2.kept hK⟩
    map := h.map.block (hb bK h.ab.symm)
    low1 := hl
    kl := fun g hg => by simpa using h.kl g hg }
theorem AR.grow (h : AR w K a room ps t tm A cS bK low) {g cap : Nat} (ho : OwnR 74 1 pW 0 w' (.slice (some ⟨g, 0, none⟩) (t.length + 1) cap) (ps ++ [none])) (hg : w.grownBy w' (Value.slice A t.length cS).ownBlock) (hat : (Value.slice A t.length cS).ownBlock = some g ∨ g = w.heap.size ∨ g = w.heap.size + 1) (hr : t.length + 1 ≤ room) :
    AR (w'.setCell ⟨a, 1, none⟩ (.slice (some ⟨g, 0, none⟩) (t.length + 1) cap)) K a room (ps ++ [none]) (t ++ [none]) tm (some ⟨g, 0, none⟩) cap bK low := by
  have hA : ∀ k, (Value.slice A t.length cS).ownBlock = some k → ∃ o, A = some ⟨k, o, none⟩ := fun k hk => by
    cases A with
    | none => simp [Value.ownBlock] at hk
    | some p =>
      have hrow := h.row
      rcases hrow.2 with ⟨e', hz⟩ | ⟨g', c, cur, e', h1, h2, h3⟩
      · simp at e'
      · have eA : p = ⟨g', 0, none⟩ := by simp at e'; exact e'.1
        subst eA
        simp [Value.ownBlock] at hk
        exact ⟨0, by rw [hk]⟩
  have hga : ¬ K g ∧ g ≠ a ∧ g ≠ bK := by
    rcases hat with e | e | e
    · obtain ⟨o, e'⟩ := hA g e; exact h.ks g o e'
    · have h1 := h.lA; have h2 := h.lB; exact ⟨fun hk => by have := h.kl g hk; omega, by omega, by omega⟩
    · have h1 := h.lA; have h2 := h.lB; exact ⟨fun hk => by have := h.kl g hk; omega, by omega, by omega⟩
  have hblk : ∀ k, k < w.heap.size → ¬ (∃ o, A = some ⟨k, o, none⟩) → w'.heap[k]? = w.heap[k]? := fun k hk hn => hg.block k hk fun e => hn (hA k e.symm)
  have ha : w'.heap[a]? = w.heap[a]? := hblk a h.lA fun ⟨o, e⟩ => (h.ks a o e).2.1 rfl
  have hb : ∀ k, k ≠ a → (w'.setCell ⟨a, 1, none⟩ (.slice (some ⟨g, 0, none⟩) (t.length + 1) cap)).heap[k]? = w'.heap[k]? := fun k hk => Below.heap_setCell w' ⟨a, 1, none⟩ _ k hk
  have hK : Kept w (w'.setCell ⟨a, 1, none⟩ (.slice (some ⟨g, 0, none⟩) (t.length + 1) cap)) K := ⟨by simpa using hg.size, fun k hk hl => (hb k fun e => h.ka (e ▸ hk)).trans (hblk k hl fun ⟨o, e⟩ => (h.ks k o e).1 hk)⟩
  have c1 : w'.cell? ⟨a, 1, none⟩ = some (.slice A t.length cS) := by rw [World.cell?_of_block (w := w) ha]; exact h.c1
  exact { h with
    c0 := by rw [World.cell?_setCell_other _ _ _ _ (by simp), World.cell?_of_block (w := w) ha]; exact h.c0
    c1 := by rw [World.cell?_setCell_same _ _ _ c1, List.length_append]; rfl
    c2 := by rw [World.cell?_setCell_other _ _ _ _ (by simp), World.cell?_of_block (w := w) ha]; exact h.c2
    c3 := by rw [World.cell?_setCell_other _ _ _ _ (by simp), World.cell?_of_block (w := w) ha]; exact h.c3
    fA := fun j => by rw [World.frozen?_setCell, World.frozen?_of_block (w := w) ha]; exact h.fA j
    row := by rw [List.length_append]; exact own_blk ho fun k o e => by cases e; exact hb g hga.2.1
    psl := by rw [List.length_append, List.length_append, h.psl]; rfl
    at0 := fun i hi => by
      by_cases e : i < t.length
      · rw [List.getElem?_append_left e] at hi
        rw [List.getElem?_append_left (by rw [h.psl]; exact e)]
        exact h.at0 i hi
      · have e' : i = t.length := by
          have := (List.getElem?_eq_some_iff.1 hi).1
          simp at this; omega
        rw [e', List.getElem?_append_right (by rw [h.psl]; exact Nat.le_refl _), h.psl]; simp
    at1 := fun i n hn => by
      have e : i < t.length := by
        by_cases e : i < t.length
        · exact e
        · rw [List.getElem?_append_right (by omega)] at hn
          have := List.mem_of_getElem? hn
          simp at this
      rw [List.getElem?_append_left e] at hn
      obtain ⟨k, h1, h2⟩ := h.at1 i n hn
      exact ⟨k, by rw [List.getElem?_append_left (by rw [h.psl]; exact e)]; exact h1, h2.kept hK⟩
    map := h.map.block ((hb bK h.ab.symm).trans (hblk bK h.lB fun ⟨o, e⟩ => (h.ks bK o e).2.2 rfl))
    ks := fun k o e => by cases e; exact hga
    len := by rw [List.length_append]; exact hr
    low1 := by rw [List.length_append]; have := h.low1; omega
    kl := fun k hk => by have := h.kl k hk; have := hg.size; simp; omega }
theorem AR.setSlot (h : AR w K a room ps t tm A cS bK low) {i : Nat} (hi : i < t.length) {gS : Nat} (hA : A = some ⟨gS, 0, none⟩) {q : Option Nat} {o : Option Nd} (hq : (q = none ∧ o = none) ∨ ∃ g n, q = some g ∧ o = some n ∧ NdAt w K g n) :
    AR (w.setCell ⟨gS, i, none⟩ (ptr q)) K a room (ps.set i q) (t.set i o) tm A cS bK low := by
  have hs := h.ks gS 0 hA
  have hb : ∀ k, k ≠ gS → (w.setCell ⟨gS, i, none⟩ (ptr q)).heap[k]? = w.heap[k]? := fun k hk => Below.heap_setCell w ⟨gS, i, none⟩ _ k hk
  have hK : Kept w (w.setCell ⟨gS, i, none⟩ (ptr q)) K := ⟨by simp, fun g hg _ => hb g fun e => hs.1 (e ▸ hg)⟩
  have ha := hb a hs.2.1.symm
  have hpl := h.psl
  exact { h with
    c0 := by rw [World.cell?_of_block (w := w) ha]; exact h.c0
    c1 := by rw [World.cell?_of_block (w := w) ha, List.length_set]; exact h.c1
    c2 := by rw [World.cell?_of_block (w := w) ha]; exact h.c2
    c3 := by rw [World.cell?_of_block (w := w) ha]; exact h.c3
    fA := fun j => by rw [World.frozen?_of_block (w := w) ha]; exact h.fA j
    row := by
      rw [List.length_set]
      have hrow := h.row
      rw [hA] at hrow ⊢
      exact own_set hrow hpl (by omega) q
    psl := by rw [List.length_set, List.length_set, hpl]
    at0 := fun j hj => by
      by_cases e : i = j
      · subst e
        rw [List.getElem?_set_self (by omega)] at hj
        cases hj
        rw [List.getElem?_set_self (by omega)]
        rcases hq with ⟨e1, _⟩ | ⟨g, n, _, e2, _⟩
        · rw [e1]
        · cases e2
      · rw [List.getElem?_set_ne e] at hj ⊢
        exact h.at0 j hj
    at1 := fun j n hn => by
      by_cases e : i = j
      · subst e
        rw [List.getElem?_set_self (by omega)] at hn
        rcases hq with ⟨_, e2⟩ | ⟨g, m, e1, e2, h2⟩
        · rw [e2] at hn; cases hn
        · rw [e2] at hn; cases hn
          exact ⟨g, by rw [List.getElem?_set_self (by omega), e1], h2.kept hK⟩
      · rw [List.getElem?_set_ne e] at hn ⊢
        obtain ⟨g, h1, h2⟩ := h.at1 j n hn
        exact ⟨g, h1, h2.kept hK⟩
    map := h.map.block (hb bK hs.2.2.symm)
    len := by rw [List.length_set]; exact h.len
    low1 := by rw [List.length_set]; exact h.low1
    kl := fun g hg => by simpa using h.kl g hg }
theorem AR.setMap (h : AR w K a room ps t tm A cS bK low) {tm' : Sh} (hm : MapA w' bK tm') (hg : w.grownBy w' (some bK)) : AR w' K a room ps t tm' A cS bK low := by
  have hb : ∀ k, k < w.heap.size → k ≠ bK → w'.heap[k]? = w.heap[k]? := fun k hk hn => hg.block k hk fun e => hn (by cases e; rfl)
  have hK : Kept w w' K := ⟨hg.size, fun g hg' hl => hb g hl fun e => h.kb (e ▸ hg')⟩
  have ha := hb a h.lA h.ab
  exact { h with
    c0 := by rw [World.cell?_of_block (w := w) ha]; exact h.c0
    c1 := by rw [World.cell?_of_block (w := w) ha]; exact h.c1
    c2 := by rw [World.cell?_of_block (w := w) ha]; exact h.c2
    c3 := by rw [World.cell?_of_block (w := w) ha]; exact h.c3
    fA := fun j => by rw [World.frozen?_of_block (w := w) ha]; exact h.fA j
    row := own_blk h.row fun g o e => hb g (h.lS e) (h.ks g o e).2.2
    at1 := fun i n hn => by obtain ⟨g, h1, h2⟩ := h.at1 i n hn; exact ⟨g, h1, h2.kept hK⟩
    map := hm
    kl := fun g hg' => Nat.lt_of_lt_of_le (h.kl g hg') hg.size }
set_option maxHeartbeats 4000000 in
set_option maxRecDepth 10000 in
theorem plive_any (h : AR w K a room ps t tm A cS bK low) (r : Int) (hr : -9223372036854775808 ≤ r ∧ r ≤ 9223372036854775807) :
    Calls Tryd.prog 27 #[.pointer (some ⟨a, 0, none⟩), .int .i64 r] w fun e w' => e = .returned (.bool (live t r)) ∧ w' = w := by
  have c1 := h.c1
  have hw := h.wide
  have hlen := h.len
  by_cases h1 : 0 < r
  · have d1 : decide (0 < r) = true := decide_eq_true h1
    by_cases h2 : r ≤ t.length
    · have d2 : decide (r ≤ (t.length : Int)) = true := decide_eq_true h2
      obtain ⟨i, e1⟩ : ∃ i : Nat, r - 1 = (i : Int) := ⟨(r - 1).toNat, by omega⟩
      obtain ⟨g, q, rfl, hg, hq, q0, _⟩ := h.slot (i := i) (by omega)
      have HV : Hid (live t r = q.isSome) := Lib.hid (by rw [show r = (i : Int) + 1 by omega]; exact h.slot_live (by omega) hq)
      generalize live t r = V at *
      generalize t.length = N at *
      have hi : i < N := by omega
      cases q with
      | none =>
        change w.cell? ⟨g, i, none⟩ = some (.pointer none) at q0
        clear h hq
        go_enter Tryd.func27, Tryd.ntmps27
        go_wp2_with fail
        go_ret
        exact ⟨by rw [HV.out]; rfl, rfl⟩
      | some b =>
        change w.cell? ⟨g, i, none⟩ = some (.pointer (some ⟨b, 0, none⟩)) at q0
        clear h hq
        go_enter Tryd.func27, Tryd.ntmps27
        go_wp2_with fail
        go_ret
        exact ⟨by rw [HV.out]; rfl, rfl⟩
    · have d2 : decide (r ≤ (t.length : Int)) = false := decide_eq_false h2
      have HV : Hid (live t r = false) := Lib.hid (Bool.eq_false_iff.2 fun e => h2 (live_bound e).2)
      generalize live t r = V at *
      generalize t.length = N at *
      clear h
      go_enter Tryd.func27, Tryd.ntmps27
      go_wp2_with fail
      go_ret
      exact ⟨by rw [HV.out]; rfl, rfl⟩
  · have d1 : decide (0 < r) = false := decide_eq_false h1
    have HV : Hid (live t r = false) := Lib.hid (Bool.eq_false_iff.2 fun e => h1 (by have := (live_bound e).1; omega))
    generalize live t r = V at *
    generalize t.length = N at *
    clear h
    go_enter Tryd.func27, Tryd.ntmps27
    go_wp2_with fail
    go_ret
    exact ⟨by rw [HV.out]; rfl, rfl⟩
end
end Go.Proofs.YtbjbbpbagnlkmaaDoor
