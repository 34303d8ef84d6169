/- Texts joined: GmA, GmB, GpB, NfO, GpK. -/
import Derived.Test.YtbppkflgokfjhaaGk02
import Derived.Maps.OwnSet
import Derived.Maps.Range
import Derived.Deep.DeepHandedRow
import Derived.Lib.SlKeysI
import Derived.Test.YtbppkflgokfjhaaGk01
import Derived.Lib.SliceRun
set_option linter.all false
namespace Go.Proofs.Ytbppkflgokfjhaa
open Go.RowKit Go.Maps Go.MapKept Go.ChangeMaps
structure Elm (α : Type) where
  val : α → Value
  dat : α → DataW Unit
  rd : Value → Option (DataW Unit × List MemPlace)
  here : ∀ a, rd (val a) = some (dat a, [])
  back : ∀ {v : Value} {a : α} {ps : List MemPlace}, rd v = some (dat a, ps) → v = val a
def kI (x : Int) : Lit := .int .i64 x
def KB (x : Int) : Prop := -9223372036854775808 ≤ x ∧ x ≤ 9223372036854775807
theorem intKeyedM : Keyed Try.prog 3 := int_keyed Try.underlying3
theorem key_int {x : Int} (h : KB x) : keyOf Try.prog 3 (.int .i64 x) = some (kI x) := keyOf_int_mk Try.underlying3 (by
  have e1 : IntKind.i64.min = -9223372036854775808 := rfl
  have e2 : IntKind.i64.max = 9223372036854775807 := rfl
  unfold KB at h
  simp [Lit.wf, e1, e2]
  omega)
theorem kI_inj {x y : Int} (h : kI x = kI y) : x = y := by
  unfold kI at h
  exact (Lit.int.inj h).2
structure HasI {α : Type} (E : Elm α) (D : DataW Unit) (f : Int → Option α) : Prop where
  at_ : ∀ x a z, f x = some a → D.atKey (kI x) z = E.dat a ∧ has D (kI x) = true
  only : ∀ kl, has D kl = true → ∃ x, (f x).isSome = true ∧ kl = kI x
  wide : ∀ x, (f x).isSome = true → KB x
def updI {α : Type} (f : Int → Option α) (x : Int) (a : α) : Int → Option α := fun y => if y = x then some a else f y
theorem HasI.miss {α : Type} {E : Elm α} {D : DataW Unit} {f : Int → Option α} (h : HasI E D f) {x : Int} (hx : f x = none) : has D (kI x) = false := by
  cases e : has D (kI x) with
  | false => rfl
  | true =>
    obtain ⟨y, hy, hk⟩ := h.only _ e
    rw [← kI_inj hk, hx] at hy
    cases hy
theorem HasI.put {α : Type} {E : Elm α} {D : DataW Unit} {f : Int → Option α} (hM : IsMap D) (h : HasI E D f) {x : Int} (hx : KB x) (a : α) : HasI E (D.put (kI x) (E.dat a)) (updI f x a) := by
  have hkey := intKeyedM.key (key_int hx)
  refine ⟨fun y b z hy => ?_, fun kl hl => ?_, fun y hy => ?_⟩
  · unfold updI at hy
    by_cases e : y = x
    · rw [if_pos e] at hy
      cases hy
      rw [e, atKey_put_same hM hkey, has_put_same hM hkey]
      exact ⟨rfl, rfl⟩
    · rw [if_neg e] at hy
      have hne : kI y ≠ kI x := fun e' => e (kI_inj e')
      rw [atKey_put_other hne, has_put_other hne]
      exact h.at_ y b z hy
  · by_cases e : kl = kI x
    · exact ⟨x, by unfold updI; rw [if_pos rfl]; rfl, e⟩
    · rw [has_put_other e] at hl
      obtain ⟨y, hy, hk⟩ := h.only kl hl
      refine ⟨y, ?_, hk⟩
      unfold updI
      by_cases e2 : y = x
      · rw [if_pos e2]; rfl
      · rw [if_neg e2]; exact hy
  · unfold updI at hy
    by_cases e : y = x
    · rw [e]; exact hx
    · rw [if_neg e] at hy; exact h.wide y hy
def MapI {α : Type} (E : Elm α) (w : World) (b n : Nat) (f : Int → Option α) : Prop := ∃ D : DataW Unit, w.ownsMap Try.prog 3 E.rd b n D ∧ HasI E D f
section
variable {α : Type} {E : Elm α} {w w' : World} {b n : Nat} {f : Int → Option α}
theorem MapI.below (h : MapI E w b n f) (hb : Below w.heap.size w w') : MapI E w' b n f := by
  obtain ⟨D, h1, h2⟩ := h
  exact ⟨D, h1.kept (grown_of_below hb none) (by simp), h2⟩
theorem MapI.lt (h : MapI E w b n f) : b < w.heap.size := by
  obtain ⟨D, h1, _⟩ := h
  exact h1.lt
theorem MapI.mono (h : MapI E w b n f) {m : Nat} (hm : n ≤ m) : MapI E w b m f := by
  obtain ⟨D, h1, h2⟩ := h
  exact ⟨D, h1.mono hm, h2⟩
theorem MapI.made (E : Elm α) (w : World) : MapI E (w.alloc (.map #[] 0)) w.heap.size 0 (fun _ => none) :=
  ⟨.map [], World.ownsMap_made w Try.prog 3 E.rd, ⟨fun x a z h => (by cases h), fun kl h => (by cases h), fun x h => (by cases h)⟩⟩
theorem MapI.look_ok (h : MapI E w b n f) {tm te : TypeId} (ht : Try.prog.underlying tm = some (.map 3 te)) {z : α} (hz : (zeroValue te).run Try.prog w = .ok (E.val z) w) {x : Int} (hx : KB x) :
    (Instr.lookup tm (.map (some b)) (.int .i64 x) true).run Try.prog w = .ok (.tuple #[E.val ((f x).getD z), .bool (f x).isSome]) w := by
  obtain ⟨D, h1, h2⟩ := h
  obtain ⟨v, ps, hrun, hv⟩ := h1.look_ok intKeyedM ht hz (zd := E.dat z) (zp := []) (E.here z) (key_int hx)
  cases e : f x with
  | none =>
    have hm := h2.miss e
    rw [atKey_of_not_has hm] at hv
    have := E.back hv
    subst this
    rw [hrun, hm]; rfl
  | some a =>
    obtain ⟨e1, e2⟩ := h2.at_ x a (E.dat z) e
    rw [e1] at hv
    have := E.back hv
    subst this
    rw [hrun, e2]; rfl
theorem MapI.look (h : MapI E w b n f) {tm te : TypeId} (ht : Try.prog.underlying tm = some (.map 3 te)) {z : α} (hz : (zeroValue te).run Try.prog w = .ok (E.val z) w) {x : Int} (hx : KB x) :
    (Instr.lookup tm (.map (some b)) (.int .i64 x) false).run Try.prog w = .ok (E.val ((f x).getD z)) w := by
  obtain ⟨D, h1, h2⟩ := h
  obtain ⟨v, ps, hrun, hv⟩ := h1.lookup intKeyedM ht hz (zd := E.dat z) (zp := []) (E.here z) (key_int hx)
  cases e : f x with
  | none =>
    rw [atKey_of_not_has (h2.miss e)] at hv
    have := E.back hv
    subst this
    exact hrun
  | some a =>
    rw [(h2.at_ x a (E.dat z) e).1] at hv
    have := E.back hv
    subst this
    exact hrun
theorem MapI.put (h : MapI E w b n f) {tm te : TypeId} (ht : Try.prog.underlying tm = some (.map 3 te)) (hn : n < maxLen) {x : Int} (hx : KB x) (a : α) :
    ∃ w', (Instr.mapUpdate tm (.map (some b)) (.int .i64 x) (E.val a)).run Try.prog w = .ok () w' ∧ MapI E w' b (n + 1) (updI f x a) ∧ w.grownBy w' (some b) ∧ w'.heap.size = w.heap.size ∧ ∀ p, w'.frozen? p = w.frozen? p := by
  obtain ⟨D, h1, h2⟩ := h
  obtain ⟨w', hrun, r1, r2⟩ := h1.store intKeyedM ht hn (key_int hx) (E.here a)
  exact ⟨w', hrun, ⟨_, r1, h2.put h1.isMap hx a⟩, r2.grown, by obtain ⟨es, clock, es', clock', hb, rfl⟩ := r2; simp [setBlock], r2.frozen⟩
end
/- elements: bools, slices -/
structure Sl where
  A : Option (Nat × Nat)
  len : Nat
  cap : Nat
def Sl.addr (s : Sl) : Option Addr := s.A.map fun p => ⟨p.1, p.2, none⟩
def slE : Elm Sl where
  val s := .slice s.addr s.len s.cap
  dat s := .agg [.lit (.int .i64 (match s.A with | none => -1 | some p => (p.1 : Int))), .lit (.int .i64 (match s.A with | none => -1 | some p => (p.2 : Int))), .lit (.int .i64 s.len), .lit (.int .i64 s.cap)]
  rd v := match v with
    | .slice none l c => some (.agg [.lit (.int .i64 (-1)), .lit (.int .i64 (-1)), .lit (.int .i64 l), .lit (.int .i64 c)], [])
    | .slice (some ⟨g, o, none⟩) l c => some (.agg [.lit (.int .i64 g), .lit (.int .i64 o), .lit (.int .i64 l), .lit (.int .i64 c)], [])
    | _ => none
  here s := by
    obtain ⟨A, l, c⟩ := s
    cases A <;> rfl
  back {v a ps} h := by
    obtain ⟨A, l, c⟩ := a
    split at h
    · rename_i l' c'
      cases A with
      | none =>
        simp at h
        obtain rfl : l' = l := by omega
        obtain rfl : c' = c := by omega
        rfl
      | some p =>
        simp at h
    · rename_i g' o' l' c'
      cases A with
      | none =>
        simp at h
      | some p =>
        obtain ⟨g, o⟩ := p
        simp at h
        obtain rfl : l' = l := by omega
        obtain rfl : c' = c := by omega
        obtain rfl : g' = g := by omega
        obtain rfl : o' = o := by omega
        rfl
    · cases h
end Go.Proofs.Ytbppkflgokfjhaa
namespace Go.Proofs.Ytbppkflgokfjhaa
open Go.RowKit Go.Maps Go.MapKept Go.ChangeMaps
theorem rise_sort {l : List Int} (h : l.Pairwise (· < ·)) : l.mergeSort leI = l :=
  List.mergeSort_of_pairwise (h.imp fun {a b} hab => by simp only [leI, decide_eq_true_eq]; omega)
section
variable {α : Type} {E : Elm α} {w w' : World} {b n : Nat} {f : Int → Option α} {D : DataW Unit}
theorem HasI.keys (h : HasI E D f) (ho : w.ownsMap Try.prog 3 E.rd b n D) {L : List Int} (hd : L.Nodup) (hL : ∀ x, x ∈ L ↔ (f x).isSome = true) : L.Perm (intKeys D) ∧ Maps.size D = L.length := by
  obtain ⟨es, rfl, hp, hk⟩ := ho.entries intKeyedM
  have hint : ∀ p ∈ es, ∃ x, p.1 = .int .i64 x := fun p hp' => by
    obtain ⟨x, _, e⟩ := h.only p.1 (by rw [has_eq, List.any_eq_true]; exact ⟨p, hp', WideAt.sameKey_self (hk p hp')⟩)
    exact ⟨x, e⟩
  have hP : L.Perm (intKeys (.map es)) := perm_intKeys hp hint hd fun x => by
    rw [hL]
    constructor
    · intro hx
      obtain ⟨a, ha⟩ := Option.isSome_iff_exists.1 hx
      exact (h.at_ x a (.nil) ha).2
    · intro hx
      obtain ⟨y, hy, e⟩ := h.only _ hx
      rw [kI_inj e]; exact hy
  refine ⟨hP, ?_⟩
  rw [hP.length_eq]
  show es.length = (es.map _).length
  rw [List.length_map]
theorem HasI.sorted (h : HasI E D f) (ho : w.ownsMap Try.prog 3 E.rd b n D) {L : List Int} (hL : L.Pairwise (· < ·)) (hm : ∀ x, x ∈ L ↔ (f x).isSome = true) : (intKeys D).mergeSort leI = L ∧ Maps.size D = L.length := by
  obtain ⟨h1, h2⟩ := h.keys ho (hL.imp fun {a b} hab => by omega) hm
  exact ⟨by rw [← mergeSort_of_perm_i h1, rise_sort hL], h2⟩
theorem MapI.len (h : MapI E w b n f) {tm te : TypeId} (ht : Try.prog.underlying tm = some (.map 3 te)) {L : List Int} (hd : L.Nodup) (hm : ∀ x, x ∈ L ↔ (f x).isSome = true) (ty : TypeId) : (Builtin.len_ #[tm] ty #[.map (some b)]).run Try.prog w = .ok (.int .i64 (L.length : Int)) w := by
  obtain ⟨D, h1, h2⟩ := h
  rw [h1.len ht ty, (h2.keys h1 hd hm).2]
end
end Go.Proofs.Ytbppkflgokfjhaa
namespace Go.Proofs.Ytbppkflgokfjhaa
open Go.RowKit Go.Maps Go.MapKept
theorem upon_run {P : Program} {o : Oper} {a : Act} {K : Act → World → Prop} {Q : Exit → Act → World → Prop} {m : Sem Value} {v : Value} {w w' : World} (h : m.run P w = .ok v w') (hk : K (a.put o.dst v) w') : Oper.upon P o a K Q ((m.run P w).andThen fun a w' => Result.ok (Next.value a) w') := by
  rw [h]
  exact hk
structure ButG (R : Nat) (w w' : World) : Prop where
  os : w'.os = w.os
  tape : w'.tape = w.tape
  output : w'.output = w.output
  size : w.heap.size ≤ w'.heap.size
  block : ∀ k, k < w.heap.size → k ≠ R → w'.heap[k]? = w.heap[k]?
theorem ButG.refl (R : Nat) (w : World) : ButG R w w := ⟨rfl, rfl, rfl, Nat.le_refl _, fun _ _ _ => rfl⟩
theorem ButG.trans {R : Nat} {a b c : World} (h : ButG R a b) (k : ButG R b c) : ButG R a c :=
  ⟨k.os.trans h.os, k.tape.trans h.tape, k.output.trans h.output, Nat.le_trans h.size k.size, fun i hi hn => (k.block i (Nat.lt_of_lt_of_le hi h.size) hn).trans (h.block i hi hn)⟩
theorem ButG.of_below {R : Nat} {w w' : World} (h : Below w.heap.size w w') : ButG R w w' := ⟨h.os, h.tape, h.output, h.size, fun k hk _ => h.block k hk⟩
theorem ButG.alloc {R : Nat} {a w : World} (h : ButG R a w) (o : Obj) : ButG R a (w.alloc o) := h.trans (ButG.of_below ((Below.refl _ _).alloc (Nat.le_refl _) o))
theorem ButG.drew {R : Nat} {a w : World} (h : ButG R a w) : ButG R a w.drew := ⟨h.os, h.tape, h.output, h.size, h.block⟩
theorem ButG.setCell {R : Nat} {a w : World} (h : ButG R a w) {p : Addr} (hp : p.block = R ∨ a.heap.size ≤ p.block) (u : Value) : ButG R a (w.setCell p u) := by
  have hb := (Below.refl 0 w).setCell (p := p) (Nat.zero_le _) u
  refine ⟨hb.os.trans h.os, hb.tape.trans h.tape, hb.output.trans h.output, Nat.le_trans h.size hb.size, fun k hk hn => ?_⟩
  rw [Below.heap_setCell w p u k (by rcases hp with hp | hp; exact fun e => hn (e.trans hp); exact fun e => by omega)]
  exact h.block k hk hn
theorem ButG.setR {R : Nat} {a w : World} (h : ButG R a w) (o : Nat) (u : Value) : ButG R a (w.setCell ⟨R, o, none⟩ u) := h.setCell (.inl rfl) u
theorem ButG.drewN {R : Nat} {a w : World} (h : ButG R a w) (n : Nat) : ButG R a (w.drewN n) := h.trans (ButG.of_below (below_drewN (Below.refl _ _) n))
theorem ButG.cell {R : Nat} {w w' : World} (h : ButG R w w') {p : Addr} {v : Value} (hne : p.block ≠ R) (hv : w.cell? p = some v) : w'.cell? p = some v := by
  rw [World.cell?_of_block (w := w) (h.block p.block (Lib.lt_of_cell hv) hne)]; exact hv
theorem ButG.frozen {R : Nat} {w w' : World} (h : ButG R w w') {p : Addr} (hne : p.block ≠ R) (hl : p.block < w.heap.size) (hv : w.frozen? p = false) : w'.frozen? p = false := by
  rw [World.frozen?_of_block (w := w) (h.block p.block hl hne)]; exact hv
theorem ButG.kept {R : Nat} {w w' : World} (h : ButG R w w') : Kept w w' (fun g => g ≠ R) := ⟨h.size, fun g hp hl => h.block g hl hp⟩
theorem ButG.below {R n : Nat} {w w' : World} (h : ButG R w w') (hn : n ≤ R) (hs : n ≤ w.heap.size) : Below n w w' := ⟨h.os, h.tape, h.output, h.size, fun k hk => h.block k (by omega) (by omega)⟩
theorem ButG.grown {R : Nat} {a w w' : World} {row : Option Nat} (h : ButG R a w) (hg : w.grownBy w' row) (hr : ∀ k, row = some k → k = R ∨ a.heap.size ≤ k) : ButG R a w' :=
  ⟨hg.os.trans h.os, hg.tape.trans h.tape, hg.output.trans h.output, Nat.le_trans h.size hg.size, fun k hk hn => (hg.block k (Nat.lt_of_lt_of_le hk h.size) (fun e => by rcases hr k e.symm with h' | h'; exact hn h'; omega)).trans (h.block k hk hn)⟩
def Ar {α : Type} (T : TypeId) (enc : α → Value) (V : World) (B : Nat) (f : Int → α) : Prop := ∃ c : Array Value, V.heap[B]? = some (.cells c T (0, 0)) ∧ c.size = 1024 ∧ ∀ j : Nat, j < 1024 → c[j]? = some (enc (f (j : Int)))
def updF {α : Type} (f : Int → α) (x : Int) (a : α) : Int → α := fun y => if y = x then a else f y
section
variable {α : Type} {T : TypeId} {enc : α → Value} {V V' : World} {B : Nat} {f g : Int → α}
theorem Ar.world (h : Ar T enc V B f) (hb : V'.heap[B]? = V.heap[B]?) : Ar T enc V' B f := by
  obtain ⟨c, h1, h2, h3⟩ := h
  exact ⟨c, hb.trans h1, h2, h3⟩
theorem Ar.lt (h : Ar T enc V B f) : B < V.heap.size := by
  obtain ⟨c, h1, _⟩ := h
  exact (Array.getElem?_eq_some_iff.1 h1).1
theorem Ar.below (h : Ar T enc V B f) (hb : Below V.heap.size V V') : Ar T enc V' B f := h.world (hb.block _ h.lt)
theorem Ar.cell (h : Ar T enc V B f) {j : Nat} (hj : j < 1024) : V.cell? ⟨B, j, none⟩ = some (enc (f (j : Int))) ∧ V.frozen? ⟨B, j, none⟩ = false := by
  obtain ⟨c, h1, h2, h3⟩ := h
  refine ⟨?_, by simp [World.frozen?, h1]⟩
  rw [Lib.cell_of_heap h1 j]
  exact h3 j hj
theorem Ar.set (h : Ar T enc V B f) {j : Nat} (a : α) : Ar T enc (V.setCell ⟨B, j, none⟩ (enc a)) B (updF f (j : Int) a) := by
  obtain ⟨c, h1, h2, h3⟩ := h
  refine ⟨c.setIfInBounds j (enc a), ?_, by rw [Array.size_setIfInBounds, h2], fun i hi => ?_⟩
  · have hlt := (Array.getElem?_eq_some_iff.1 h1).1
    have he := (Array.getElem?_eq_some_iff.1 h1).2
    show (V.heap.modify B _)[B]? = _
    rw [Array.getElem?_eq_getElem (by rw [Array.size_modify]; exact hlt), Array.getElem_modify_self, he]
    rfl
  · rw [Array.getElem?_setIfInBounds]
    unfold updF
    by_cases e : j = i
    · subst e
      rw [if_pos rfl, if_pos (by rw [h2]; exact hi), if_pos rfl]
    · rw [if_neg e, if_neg (by omega), h3 i hi]
theorem Ar.made {z : α} {zs : Array Value} (hz : zs = Array.replicate 1024 (enc z)) (w : World) : Ar T enc (w.alloc (.cells zs T)) w.heap.size (fun _ => z) := by
  refine ⟨_, heap_alloc_new w _, by rw [hz]; exact Array.size_replicate .., fun j hj => ?_⟩
  rw [hz, Array.getElem?_replicate, if_pos hj]
theorem Ar.congr (h : Ar T enc V B f) (hg : ∀ n, f n = g n) : Ar T enc V B g := by rw [show g = f from funext fun n => (hg n).symm]; exact h
end
def MkG (V : World) (B : Nat) (M : Int → Bool) : Prop := Ar 59 Value.bool V B M
theorem marksG_zero : Try.zeroCells59 = Array.replicate 1024 (.bool false) := by kernel_rfl
def sl0 : Sl := ⟨none, 0, 0⟩
structure RowS (w : World) (P : Nat → Prop) (s : Sl) (l : List Int) : Prop where
  len : s.len = l.length
  row : RowI w P s.addr l
theorem RowS.none (w : World) (P : Nat → Prop) : RowS w P sl0 [] := ⟨rfl, .inl rfl⟩
theorem RowS.below {w w' : World} {P : Nat → Prop} {s : Sl} {l : List Int} (h : RowS w P s l) (hb : Below w.heap.size w w') : RowS w' P s l := ⟨h.len, h.row.below hb⟩
structure RdOK (L : List Lk) (R1 R2 : Int → List Int) : Prop where
  r1 : ∀ n y, y ∈ R1 n ↔ Ed L n y
  l1 : ∀ n, (R1 n).length ≤ 60
  r2 : ∀ y n, n ∈ R2 y ↔ Ed L n y
  d2 : ∀ y, (R2 y).Nodup
theorem RdOK.l2 {L : List Lk} {R1 R2 : Int → List Int} (h : RdOK L R1 R2) (y : Int) : (R2 y).length ≤ L.length := found_len (h.d2 y) fun n hn => ((h.r2 y n).1 hn).node
structure GrM (w : World) (g : Nat) (b1 b2 n1 n2 : Nat) (f1 f2 : Int → Option Sl) (L : List Lk) (R1 R2 : Int → List Int) : Prop where
  c0 : w.cell? ⟨g, 0, none⟩ = some (.map (some b1))
  c1 : w.cell? ⟨g, 1, none⟩ = some (.map (some b2))
  lt : g < w.heap.size
  m1 : MapI slE w b1 n1 f1
  m2 : MapI slE w b2 n2 f2
  nod : ∀ n, (f1 n).isSome = true ↔ isN L n
  s1 : ∀ n, RowS w (fun h => h < w.heap.size) ((f1 n).getD sl0) (R1 n)
  s2 : ∀ n, RowS w (fun h => h < w.heap.size) ((f2 n).getD sl0) (R2 n)
  ok : RdOK L R1 R2
theorem RowI.lts {w : World} {P : Nat → Prop} {A : Option Addr} {l : List Int} (h : RowI w P A l) : RowI w (fun h => h < w.heap.size) A l := by
  rcases h with h | ⟨g, o, rfl, hp, hl, hc⟩
  · exact .inl h
  · exact .inr ⟨g, o, rfl, hl, hl, hc⟩
def GP12 (w : World) (g : Nat) (L : List Lk) : Prop := ∃ b1 b2 n1 n2 f1 f2 R1 R2, GrM w g b1 b2 n1 n2 f1 f2 L R1 R2
section
variable {w w' : World} {g b1 b2 n1 n2 : Nat} {f1 f2 : Int → Option Sl} {L : List Lk} {R1 R2 : Int → List Int}
theorem GrM.below (h : GrM w g b1 b2 n1 n2 f1 f2 L R1 R2) (hb : Below w.heap.size w w') : GrM w' g b1 b2 n1 n2 f1 f2 L R1 R2 where
  c0 := (hb.cell h.lt).trans h.c0
  c1 := (hb.cell h.lt).trans h.c1
  lt := Nat.lt_of_lt_of_le h.lt hb.size
  m1 := h.m1.below hb
  m2 := h.m2.below hb
  nod := h.nod
  s1 := fun n => ⟨(h.s1 n).len, ((h.s1 n).row.below hb).lts⟩
  s2 := fun n => ⟨(h.s2 n).len, ((h.s2 n).row.below hb).lts⟩
  ok := h.ok
theorem GP12.below (h : GP12 w g L) (hb : Below w.heap.size w w') : GP12 w' g L := by
  obtain ⟨b1, b2, n1, n2, f1, f2, R1, R2, h⟩ := h
  exact ⟨b1, b2, n1, n2, f1, f2, R1, R2, h.below hb⟩
theorem under_mapG : Try.prog.underlying 46 = some (.map 3 23) := by kernel_rfl
theorem zero_sliceG (W : World) : (zeroValue 23).run Try.prog W = .ok (slE.val sl0) W := by
  show (zeroValue 23).run Try.prog W = .ok (.slice none 0 0) W
  kernel_rfl
theorem GrM.readers (h : GrM w g b1 b2 n1 n2 f1 f2 L R1 R2) (hb : Below w.heap.size w w') {x : Int} (hx : KB x) : (w'.cell? ⟨g, 1, none⟩ = some (.map (some b2)) ∧ (Instr.lookup 46 (.map (some b2)) (.int .i64 x) false).run Try.prog w' = .ok (.slice ((f2 x).getD sl0).addr (R2 x).length ((f2 x).getD sl0).cap) w') ∧ RowI w' (fun h => h < w.heap.size) ((f2 x).getD sl0).addr (R2 x) := by
  have := (h.m2.below hb).look under_mapG (zero_sliceG w') hx
  exact ⟨⟨(h.below hb).c1, by rw [this, ← (h.s2 x).len]; rfl⟩, (h.s2 x).row.below hb⟩
theorem GrM.reads (h : GrM w g b1 b2 n1 n2 f1 f2 L R1 R2) (hb : Below w.heap.size w w') {x : Int} (hx : KB x) : (w'.cell? ⟨g, 0, none⟩ = some (.map (some b1)) ∧ (Instr.lookup 46 (.map (some b1)) (.int .i64 x) false).run Try.prog w' = .ok (.slice ((f1 x).getD sl0).addr (R1 x).length ((f1 x).getD sl0).cap) w') ∧ RowI w' (fun h => h < w.heap.size) ((f1 x).getD sl0).addr (R1 x) := by
  have := (h.m1.below hb).look under_mapG (zero_sliceG w') hx
  exact ⟨⟨(h.below hb).c0, by rw [this, ← (h.s1 x).len]; rfl⟩, (h.s1 x).row.below hb⟩
end
end Go.Proofs.Ytbppkflgokfjhaa
namespace Go.Proofs.Ytbppkflgokfjhaa
open Go.RowKit Go.Maps
section
variable {P : Program} {w : World} {ops : Array Oper} {rest : List Oper} {o : Oper} {a : Act} {K : Act → World → Prop} {Q : Exit → Act → World → Prop} {E : Prop}
theorem step_lenm (hgd : o.guard = none) (s : Operand) (t : TypeId) (ho : o.op = .call { callee := .builtin .len, args := #[s], argTypes := #[t] }) {v : Value} (hs : a.eval s = v) {n : Int} (hrun : ∀ ty, (Builtin.len_ #[t] ty #[v]).run P w = .ok (.int .i64 n) w)
    (h : K (a.put o.dst (.int .i64 n)) w) : if Region.wanted o (yielded ops a.tmps) = true then Oper.wp P o a w K Q else E := by
  have hw : Region.wanted o (yielded ops a.tmps) = true := by simp [Region.wanted, hgd]
  rw [if_pos hw]
  unfold Oper.wp execOp
  simp only [ho, Go.resolve, invoke, builtin, Sem.run_bind, Sem.run_pure, Result.andThen_ok, List.map_toArray, List.map_cons, List.map_nil, hs, hrun]
  exact h
theorem wpList_lenm (hgd : o.guard = none) (s : Operand) (t : TypeId) (ho : o.op = .call { callee := .builtin .len, args := #[s], argTypes := #[t] }) {v : Value} (hs : a.eval s = v) {n : Int} (hrun : ∀ ty, (Builtin.len_ #[t] ty #[v]).run P w = .ok (.int .i64 n) w)
    (h : wpList P ops Q rest (a.put o.dst (.int .i64 n)) w) : wpList P ops Q (o :: rest) a w := by
  refine wpList_plain hgd fun K' hK' => ?_
  unfold Oper.wp execOp
  simp only [ho, Go.resolve, invoke, builtin, Sem.run_bind, Sem.run_pure, Result.andThen_ok, List.map_toArray, List.map_cons, List.map_nil, hs, hrun]
  exact hK' _ _ h
theorem step_lookm (hgd : o.guard = none) (m x : Operand) (t : TypeId) (c : Bool) (ho : o.op = .lookup t m x c) {v key : Value} (hm : a.eval m = v) (hx : a.eval x = key) {r : Value} (hrun : (Instr.lookup t v key c).run P w = .ok r w)
    (h : K (a.put o.dst r) w) : if Region.wanted o (yielded ops a.tmps) = true then Oper.wp P o a w K Q else E := by
  have hw : Region.wanted o (yielded ops a.tmps) = true := by simp [Region.wanted, hgd]
  rw [if_pos hw]
  unfold Oper.wp execOp
  simp only [ho, Sem.run_bind, Sem.run_pure, Result.andThen_ok, hm, hx, hrun]
  exact h
theorem step_updm (hgd : o.guard = none) (m x y : Operand) (t : TypeId) (ho : o.op = .mapUpdate t m x y) {v key val : Value} (hm : a.eval m = v) (hx : a.eval x = key) (hy : a.eval y = val) {w' : World} (hrun : (Instr.mapUpdate t v key val).run P w = .ok () w')
    (h : K (a.put o.dst undef) w') : if Region.wanted o (yielded ops a.tmps) = true then Oper.wp P o a w K Q else E := by
  have hw : Region.wanted o (yielded ops a.tmps) = true := by simp [Region.wanted, hgd]
  rw [if_pos hw]
  unfold Oper.wp execOp
  simp only [ho, Sem.run_bind, Sem.run_pure, Result.andThen_ok, hm, hx, hy, hrun]
  exact h
theorem wpList_updm (hgd : o.guard = none) (m x y : Operand) (t : TypeId) (ho : o.op = .mapUpdate t m x y) {v key val : Value} (hm : a.eval m = v) (hx : a.eval x = key) (hy : a.eval y = val) {w' : World} (hrun : (Instr.mapUpdate t v key val).run P w = .ok () w')
    (h : wpList P ops Q rest (a.put o.dst undef) w') : wpList P ops Q (o :: rest) a w := by
  refine wpList_plain hgd fun K' hK' => ?_
  unfold Oper.wp execOp
  simp only [ho, Sem.run_bind, Sem.run_pure, Result.andThen_ok, hm, hx, hy, hrun]
  exact hK' _ _ h
theorem step_delm (hgd : o.guard = none) (m x : Operand) (t k : TypeId) (ho : o.op = .call { callee := .builtin .delete, args := #[m, x], argTypes := #[t, k] }) {v key : Value} (hm : a.eval m = v) (hx : a.eval x = key) {w' : World} (hrun : (Builtin.delete_ #[t, k] o.type #[v, key]).run P w = .ok (.tuple #[]) w')
    (h : K (a.put o.dst (.tuple #[])) w') : if Region.wanted o (yielded ops a.tmps) = true then Oper.wp P o a w K Q else E := by
  have hw : Region.wanted o (yielded ops a.tmps) = true := by simp [Region.wanted, hgd]
  rw [if_pos hw]
  unfold Oper.wp execOp
  simp only [ho, Go.resolve, invoke, builtin, Sem.run_bind, Sem.run_pure, Result.andThen_ok, List.map_toArray, List.map_cons, List.map_nil, hm, hx, hrun]
  exact h
end
end Go.Proofs.Ytbppkflgokfjhaa
namespace Go.Proofs.Ytbppkflgokfjhaa
open Go.RowKit Go.Maps
theorem own_ofG {v : Value} {g k : Nat} (hv : v.ownBlock = some g) (h : v.ownBlock = some k) : k = g := Option.some.inj (h.symm.trans hv)
set_option maxHeartbeats 8000000 in
set_option maxRecDepth 10000 in
theorem pclone_full (l : List Int) (A : Option Addr) (ca : Nat) (w : World) (P : Nat → Prop) (hA : RowI w P A l) (hl : l.length ≤ 100000) :
    Calls Try.prog 40 #[.slice A l.length ca] w fun e w' => ∃ O co, e = .returned (.slice O l.length co) ∧ (l = [] ∨ ∃ g, O = some ⟨g, 0, none⟩ ∧ w.heap.size ≤ g ∧ g < w'.heap.size ∧ OwnR 3 1 inW w.heap.size w' (.slice (some ⟨g, 0, none⟩) l.length co) l) ∧ Below w.heap.size w w' ∧ (O = none ∨ ∃ g, O = some ⟨g, 0, none⟩) := by
  obtain ⟨i0, hi0, hz0, hz1, hz2⟩ := info_parts gint_info
  by_cases hn : l = []
  · subst hn
    cases A with
    | none =>
      have hq : ∀ (w : World) (n c : Nat), (binOp .eql 23 (.slice none n c) (.slice none 0 0)).run Try.prog w = .ok (.bool true) w := fun w n c => Lib.run_eql_slice_nil w _ _ none n c 0 0 Try.underlying23
      go_enter Try.func40, Try.ntmps40
      go_wp2_with fail
      go_ret
      refine ⟨none, 0, rfl, ?_, Below.refl _ _, .inl rfl⟩
      simp
    | some a =>
      have hq : ∀ (w : World) (n c : Nat), (binOp .eql 23 (.slice (some a) n c) (.slice none 0 0)).run Try.prog w = .ok (.bool false) w := fun w n c => Lib.run_eql_slice_nil w _ _ (some a) n c 0 0 Try.underlying23
      go_enter Try.func40, Try.ntmps40
      go_wp2_with (at_builtin; refine of_stop ?_)
      refine stop_of ?_
      refine wpList_append_nothing rfl _ _ 23 rfl 3 i0 Try.underlying23 hi0 w.heap.size (some a) ca rfl rfl ?_
      go_wp2_with fail
      go_ret
      refine ⟨_, _, rfl, ?_, (Below.refl _ _).alloc (Nat.le_refl _) _, .inr ⟨_, rfl⟩⟩
      simp
  · rcases hA with h | ⟨g, o, rfl, _, hg, hc⟩
    · exact absurd h hn
    · have hpos : 0 < l.length := List.length_pos_iff.2 hn
      have HC := Lib.hid hc
      have hba : Below w.heap.size w (w.alloc (.cells #[] 3)) := (Below.refl _ _).alloc (Nat.le_refl _) _
      have HBa := Lib.hid hba
      have hq : ∀ (w : World) (n c : Nat), (binOp .eql 23 (.slice (some ⟨g, o, none⟩) n c) (.slice none 0 0)).run Try.prog w = .ok (.bool false) w := fun w n c => Lib.run_eql_slice_nil w _ _ (some ⟨g, o, none⟩) n c 0 0 Try.underlying23
      clear hc hba
      go_enter Try.func40, Try.ntmps40
      go_wp2_with (at_builtin; refine of_stop ?_)
      refine stop_of ?_
      refine wpList_append_rows (f := inW) (n := 1) (E := 3) (nb := 8) (X := ([] : List Int)) (base := w.heap.size) rfl _ _ rfl rfl (own_lit0 w w.heap.size (Nat.le_refl _)) (L2 := l) rfl (fun i x hi j u hj => ?_) hpos (N := l.length) (by simp) (Z := l) rfl Try.underlying23 hi0 hz0 hz1 hz2 rfl (by decide) (by decide) (fun _ => rfl) inW_one (by omega) (by simp) ?_
      · have := keep_cell HBa.out (HC.out i x hi)
        cases j with
        | zero => rw [← Option.some.inj hj, Nat.mul_one]; exact this
        | succ j => simp [inW] at hj
      · intro g2 k2 w2 ho2 hg2 hat2 hl2
        have hb2 : Below w.heap.size w w2 := HBa.out.grown hg2 (by simp) (fun k hk => by have := own_ofG (g := w.heap.size) rfl hk; omega)
        have hle : w.heap.size ≤ g2 := by rcases hat2 with e | e; exact Nat.le_of_eq (own_ofG (g := w.heap.size) rfl e).symm; simp at e; omega
        have HF := Lib.hid (⟨hle, hl2, ho2, hb2⟩ : w.heap.size ≤ g2 ∧ g2 < w2.heap.size ∧ _ ∧ Below w.heap.size w w2)
        clear ho2 hg2 hat2 hl2 hb2 hle
        go_wp2_with fail
        go_ret
        exact ⟨_, _, rfl, .inr ⟨g2, rfl, HF.out.1, HF.out.2.1, HF.out.2.2.1⟩, HF.out.2.2.2, .inr ⟨_, rfl⟩⟩
theorem pclone_any (l : List Int) (A : Option Addr) (ca : Nat) (w : World) (P : Nat → Prop) (hA : RowI w P A l) (hl : l.length ≤ 100000) :
    Calls Try.prog 40 #[.slice A l.length ca] w fun e w' => ∃ O co, e = .returned (.slice O l.length co) ∧ (l = [] ∨ ∃ g, O = some ⟨g, 0, none⟩ ∧ w.heap.size ≤ g ∧ g < w'.heap.size ∧ OwnR 3 1 inW w.heap.size w' (.slice (some ⟨g, 0, none⟩) l.length co) l) ∧ Below w.heap.size w w' :=
  (pclone_full l A ca w P hA hl).mono fun e w' ⟨O, co, he, h, hb, _⟩ => ⟨O, co, he, h, hb⟩
end Go.Proofs.Ytbppkflgokfjhaa
