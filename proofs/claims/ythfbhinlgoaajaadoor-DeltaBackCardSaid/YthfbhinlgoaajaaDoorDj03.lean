/- Texts joined: NdE, NfA, KpA, NdB, NfB, TpY, TpC, NdPk. -/
import Derived.Test.YthfbhinlgoaajaaDoorDj01
import Derived.Lib.ItoaNum
import Derived.Lib.ItoaLen
import Derived.OwnWalk
import Derived.Deep.QuietTactic
import Derived.BigQuiet
import Derived.Laws.Pointers
import Derived.StillTactics
import Derived.Maps.OwnSet
import Derived.DeepKeys4
import Derived.Test.YthfbhinlgoaajaaDoorDj02
set_option linter.all false
namespace Go.Proofs.YthfbhinlgoaajaaDoor
def Eqv (s t : Sh) : Prop := ∀ h, ndAt s h = ndAt t h
theorem Eqv.refl (s : Sh) : Eqv s s := fun _ => rfl
theorem Eqv.symm {s t : Sh} (h : Eqv s t) : Eqv t s := fun x => (h x).symm
theorem Eqv.trans {s t u : Sh} (h : Eqv s t) (k : Eqv t u) : Eqv s u := fun x => (h x).trans (k x)
theorem Eqv.liveE {s t : Sh} (h : Eqv s t) (x : Int) : live s x = live t x := by
  show (ndAt s x).isSome = (ndAt t x).isSome
  rw [h x]
theorem at_some {s : Sh} {i : Nat} {n : Nd} : s[i]? = some (some n) ↔ ndAt s ((i : Int) + 1) = some n := by
  rw [ndAt_succ]
  cases s[i]? with
  | none => simp
  | some o => simp
theorem Eqv.fndE {s t : Sh} (h : Eqv s t) (x : Nd) : fnd s x = fnd t x := by
  by_cases e : fnd s x = 0
  · rw [e]
    exact (fnd_none fun j hj => fnd_zero e j (at_some.2 ((h _).trans (at_some.1 hj)))).symm
  · unfold fnd at e
    cases q : s.findIdx? (fun o => o == some x) with
    | none => rw [q] at e; exact absurd rfl e
    | some i =>
      rw [List.findIdx?_eq_some_iff_getElem] at q
      obtain ⟨hl, hx, hj⟩ := q
      have h1 : s[i]? = some (some x) := by rw [List.getElem?_eq_getElem hl]; simpa using hx
      have h2 : ∀ j : Nat, j < i → s[j]? ≠ some (some x) := fun j hji hq => by
        have := hj j hji
        obtain ⟨hjl, hjv⟩ := List.getElem?_eq_some_iff.1 hq
        rw [hjv] at this
        simp at this
      rw [fnd_at h1 h2]
      exact (fnd_at (at_some.2 ((h _).symm.trans (at_some.1 h1))) fun j hji hq => h2 j hji (at_some.2 ((h _).trans (at_some.1 hq)))).symm
theorem freeH_least {s : Sh} {h : Nat} (h1 : 1 ≤ h) (hd : live s (h : Int) = false) (hb : ∀ k : Nat, 1 ≤ k → k < h → live s (k : Int) = true) : freeH s = h := by
  have hp := freeH_pos s
  have hf : live s (freeH s : Int) = false := by unfold live; rw [freeH_dead]; rfl
  rcases Nat.lt_trichotomy (freeH s) h with e | e | e
  · rw [hb _ hp.1 e] at hf; cases hf
  · exact e
  · exfalso
    obtain ⟨j, rfl⟩ : ∃ j, h = j + 1 := ⟨h - 1, by omega⟩
    have hjl : j < s.length := by omega
    have hn : s[j]? = some none := by
      rw [show ((j + 1 : Nat) : Int) = (j : Int) + 1 by omega] at hd
      unfold live at hd
      rw [ndAt_succ, List.getElem?_eq_getElem hjl] at hd
      rw [List.getElem?_eq_getElem hjl]
      cases q : s[j] with
      | none => rfl
      | some n => rw [q] at hd; cases hd
    rcases freeH_cases s with ⟨i, hi, e'⟩ | ⟨_, hn'⟩
    · have hk := hb
      unfold freeH at e e'
      cases q : s.findIdx? (fun o => o.isNone) with
      | none => rw [List.findIdx?_eq_none_iff] at q; have := q _ (List.mem_of_getElem? hn); simp at this
      | some i' =>
        rw [q] at e
        rw [List.findIdx?_eq_some_iff_getElem] at q
        have := q.2.2 j (by simp at e; omega)
        obtain ⟨hjl', hjv⟩ := List.getElem?_eq_some_iff.1 hn
        rw [hjv] at this
        simp at this
    · exact hn' j hn
theorem freeH_below {s : Sh} {k : Nat} (h1 : 1 ≤ k) (hk : k < freeH s) : live s (k : Int) = true := by
  obtain ⟨j, rfl⟩ : ∃ j, k = j + 1 := ⟨k - 1, by omega⟩
  cases e : live s ((j + 1 : Nat) : Int) with
  | true => rfl
  | false =>
    exfalso
    have hp := freeH_pos s
    have hjl : j < s.length := by omega
    have hn : s[j]? = some none := by
      rw [show ((j + 1 : Nat) : Int) = (j : Int) + 1 by omega] at e
      unfold live at e
      rw [ndAt_succ, List.getElem?_eq_getElem hjl] at e
      rw [List.getElem?_eq_getElem hjl]
      cases q : s[j] with
      | none => rfl
      | some n => rw [q] at e; cases e
    unfold freeH at hk
    cases q : s.findIdx? (fun o => o.isNone) with
    | none => rw [List.findIdx?_eq_none_iff] at q; have := q _ (List.mem_of_getElem? hn); simp at this
    | some i' =>
      rw [q] at hk
      rw [List.findIdx?_eq_some_iff_getElem] at q
      have := q.2.2 j (by simp at hk; omega)
      obtain ⟨hjl', hjv⟩ := List.getElem?_eq_some_iff.1 hn
      rw [hjv] at this
      simp at this
theorem Eqv.free {s t : Sh} (h : Eqv s t) : freeH s = freeH t :=
  freeH_least (freeH_pos t).1 (by rw [h.liveE]; unfold live; rw [freeH_dead]; rfl) fun k h1 hk => by rw [h.liveE]; exact freeH_below h1 hk
theorem Eqv.setHE {s t : Sh} (h : Eqv s t) (x : Nd) : Eqv (setH s (freeH s) x) (setH t (freeH t) x) := fun k => by
  rw [setH_at, setH_at, h.free, h k]
theorem Eqv.one {room : Nat} {s t : Sh} (h : Eqv s t) (x : Nd) : (oneA room s x = none ∧ oneA room t x = none) ∨ ∃ s' t' k, oneA room s x = some (s', k) ∧ oneA room t x = some (t', k) ∧ Eqv s' t' := by
  unfold oneA
  rw [h.fndE, h.free]
  by_cases e : fnd t x ≠ 0
  · rw [if_pos e, if_pos e]; exact .inr ⟨_, _, _, rfl, rfl, h⟩
  · rw [if_neg e, if_neg e]
    by_cases e' : room < freeH t
    · rw [if_pos e', if_pos e']; exact .inl ⟨rfl, rfl⟩
    · rw [if_neg e', if_neg e']
      have := h.setHE x
      rw [h.free] at this
      exact .inr ⟨_, _, _, rfl, rfl, this⟩
theorem Eqv.putLE {room : Nat} : ∀ {l : List Nd} {s t : Sh} {out : List Int}, Eqv s t → (putL room s out l = none ∧ putL room t out l = none) ∨ ∃ s' t' o, putL room s out l = some (s', o) ∧ putL room t out l = some (t', o) ∧ Eqv s' t'
  | [], s, t, out, h => .inr ⟨s, t, out, rfl, rfl, h⟩
  | n :: l, s, t, out, h => by
    rw [putL, putL]
    rcases h.one (room := room) (asPut out n) with ⟨e1, e2⟩ | ⟨s', t', k, e1, e2, h'⟩
    · rw [e1, e2]; exact .inl ⟨rfl, rfl⟩
    · rw [e1, e2]; exact Eqv.putLE h'
theorem Eqv.wrong {s t : Sh} (h : Eqv s t) : ∀ (l : List Nd) (i : Nat), wrongF s i l = wrongF t i l
  | [], _ => rfl
  | n :: l, i => by
    rw [wrongF, wrongF, h.wrong l (i + 1)]
    congr 2
    have : okRef s i = okRef t i := funext fun r => by unfold okRef; rw [h.liveE]
    rw [this]
theorem Eqv.put {room : Nat} {s t : Sh} (h : Eqv s t) (l : List Nd) : Eqv (putA room s l).1 (putA room t l).1 ∧ (putA room s l).2 = (putA room t l).2 := by
  unfold putA
  rw [h.wrong]
  split
  · exact ⟨h, rfl⟩
  · rcases h.putLE (room := room) (l := l) (out := []) with ⟨e1, e2⟩ | ⟨s', t', o, e1, e2, h'⟩
    · rw [e1, e2]; exact ⟨h, rfl⟩
    · rw [e1, e2]; exact ⟨h', rfl⟩
theorem tru_pad : ∀ (l : List Bool) (k : Int) (m : Nat), tru k (l ++ List.replicate m false) = tru k l
  | [], k, 0 => rfl
  | [], k, m + 1 => by rw [List.nil_append, List.replicate_succ, tru]; exact tru_pad [] (k + 1) m
  | true :: l, k, m => by rw [List.cons_append, tru, tru, tru_pad l]
  | false :: l, k, m => by rw [List.cons_append, tru, tru, tru_pad l]
theorem liveA_range (s : Sh) (n : Nat) (hn : s.length ≤ n) : liveA s = tru 1 ((List.range n).map fun i : Nat => live s ((i : Int) + 1)) := by
  unfold liveA
  rw [liveF_tru, ← tru_pad (s.map Option.isSome) 1 (n - s.length)]
  congr 1
  apply List.ext_getElem?
  intro i
  by_cases hi : i < n
  · rw [List.getElem?_map, List.getElem?_range hi]
    show _ = some (live s ((i : Int) + 1))
    unfold live
    rw [ndAt_succ]
    by_cases hs : i < s.length
    · rw [List.getElem?_append_left (by simpa using hs), List.getElem?_map, List.getElem?_eq_getElem hs]; rfl
    · rw [List.getElem?_append_right (by simpa using hs), List.getElem?_replicate, if_pos (by simp; omega), List.getElem?_eq_none_iff.2 (by omega)]; rfl
  · rw [List.getElem?_eq_none_iff.2 (by simp; omega), List.getElem?_eq_none_iff.2 (by simp; omega)]
theorem Eqv.liveAE {s t : Sh} (h : Eqv s t) : liveA s = liveA t := by
  rw [liveA_range s (max s.length t.length) (by omega), liveA_range t (max s.length t.length) (by omega)]
  congr 2
  exact funext fun i => h.liveE _
theorem Eqv.rch {s t : Sh} (h : Eqv s t) {roots : List Int} {x : Int} (e : Rch s roots x) : Rch t roots x := by
  induction e with
  | root r hm hl => exact .root r hm (by rw [← h.liveE]; exact hl)
  | ref k r n _ hn hm hp ih => exact .ref k r n ih (by rw [← h k]; exact hn) hm hp
theorem Eqv.left {s t : Sh} (h : Eqv s t) (roots : List Int) : Eqv (leftA s roots) (leftA t roots) := fun x => by
  rw [left_at, left_at]
  by_cases e : Rch s roots x
  · rw [if_pos e, if_pos (h.rch e), h x]
  · rw [if_neg e, if_neg fun e' => e (h.symm.rch e')]
theorem Eqv.reach {s t : Sh} (h : Eqv s t) (roots : List Int) : reachA s roots = reachA t roots := (h.left roots).liveAE
theorem Eqv.sweep {s t : Sh} (h : Eqv s t) (roots : List Int) : Eqv (sweepA s roots).1 (sweepA t roots).1 ∧ (sweepA s roots).2 = (sweepA t roots).2 := by
  unfold sweepA
  have e : (fun r => decide (r = 0) || live s r) = (fun r => decide (r = 0) || live t r) := funext fun r => by rw [h.liveE]
  rw [e, h.liveAE, h.reach]
  split
  · exact ⟨h.left roots, rfl⟩
  · exact ⟨h, rfl⟩
end Go.Proofs.YthfbhinlgoaajaaDoor
namespace Go.Proofs.YthfbhinlgoaajaaDoor
open Go.Lib
theorem dec_val (u : Nat) : (decDigits u).foldl (fun a d => a * 10 + (d.toNat - 48)) 0 = u := by
  induction u using Nat.strongRecOn with
  | _ u ih =>
    by_cases h : u < 10
    · rw [decDigits, dif_pos h]
      show 0 * 10 + ((UInt8.ofNat (48 + u)).toNat - 48) = u
      rw [UInt8.toNat_ofNat']
      omega
    · rw [decDigits, dif_neg h, List.foldl_append, ih (u / 10) (by omega)]
      show u / 10 * 10 + ((UInt8.ofNat (48 + u % 10)).toNat - 48) = u
      rw [UInt8.toNat_ofNat']
      omega
theorem dec_mem (u : Nat) : ∀ d ∈ decDigits u, 48 ≤ d.toNat ∧ d.toNat ≤ 57 := by
  induction u using Nat.strongRecOn with
  | _ u ih =>
    by_cases h : u < 10
    · rw [decDigits, dif_pos h]
      intro d hd
      obtain rfl := List.mem_singleton.1 hd
      rw [UInt8.toNat_ofNat']
      omega
    · rw [decDigits, dif_neg h]
      intro d hd
      rcases List.mem_append.1 hd with hd | hd
      · exact ih (u / 10) (by omega) d hd
      · obtain rfl := List.mem_singleton.1 hd
        rw [UInt8.toNat_ofNat']
        omega
theorem dec_inj {u v : Nat} (h : decDigits u = decDigits v) : u = v := by rw [← dec_val u, h, dec_val]
theorem dec_head {u : Nat} {t : List UInt8} (h : decDigits u = 45 :: t) : False := by
  have := dec_mem u 45 (by rw [h]; exact List.mem_cons_self)
  have e : (45 : UInt8).toNat = 45 := rfl
  omega
theorem itoa_inj {a b : Int} (h : itoa a = itoa b) : a = b := by
  unfold itoa at h
  split at h <;> split at h
  · have := dec_inj (List.cons.inj h).2; omega
  · exact (dec_head h.symm).elim
  · exact (dec_head h).elim
  · have := dec_inj h; omega
theorem itoa_no (a : Int) : ∀ d ∈ itoa a, d ≠ 32 := by
  intro d hd e
  subst e
  have e : (32 : UInt8).toNat = 32 := rfl
  unfold itoa at hd
  split at hd
  · rcases List.mem_cons.1 hd with h | h
    · exact absurd h (by decide)
    · have := dec_mem _ _ h; omega
  · have := dec_mem _ _ hd; omega
def rowT (l : List Int) : List UInt8 := l.flatMap fun x => itoa x ++ [32]
theorem rowT_cons (x : Int) (l : List Int) : rowT (x :: l) = itoa x ++ 32 :: rowT l := by
  unfold rowT; rw [List.flatMap_cons, List.append_assoc]; rfl
theorem rowT_snoc (l : List Int) (x : Int) : rowT (l ++ [x]) = rowT l ++ (itoa x ++ [32]) := by
  unfold rowT; rw [List.flatMap_append, List.flatMap_singleton]
theorem sep_inj : ∀ {p q X Y : List UInt8}, (∀ d ∈ p, d ≠ 32) → (∀ d ∈ q, d ≠ 32) → p ++ 32 :: X = q ++ 32 :: Y → p = q ∧ X = Y
  | [], [], _, _, _, _, h => ⟨rfl, (List.cons.inj h).2⟩
  | [], b :: q, _, _, _, hq, h => absurd (List.cons.inj h).1.symm (hq b List.mem_cons_self)
  | a :: p, [], _, _, hp, _, h => absurd (List.cons.inj h).1 (hp a List.mem_cons_self)
  | a :: p, b :: q, X, Y, hp, hq, h => by
    obtain ⟨e, h'⟩ := List.cons.inj h
    obtain ⟨e1, e2⟩ := sep_inj (fun d hd => hp d (List.mem_cons_of_mem _ hd)) (fun d hd => hq d (List.mem_cons_of_mem _ hd)) h'
    exact ⟨by rw [e, e1], e2⟩
theorem rowT_inj : ∀ {l k : List Int}, rowT l = rowT k → l = k
  | [], [], _ => rfl
  | [], b :: k, h => by rw [rowT_cons] at h; exact absurd (congrArg List.length h) (by simp [rowT])
  | a :: l, [], h => by rw [rowT_cons] at h; exact absurd (congrArg List.length h) (by simp [rowT])
  | a :: l, b :: k, h => by
    rw [rowT_cons, rowT_cons] at h
    obtain ⟨e1, e2⟩ := sep_inj (itoa_no a) (itoa_no b) h
    rw [itoa_inj e1, rowT_inj e2]
theorem rowT_len : ∀ (l : List Int), (∀ x ∈ l, -9223372036854775808 ≤ x ∧ x ≤ 9223372036854775807) → (rowT l).length ≤ 22 * l.length
  | [], _ => by simp [rowT]
  | a :: l, h => by
    have h1 := itoa_length_le a (h a List.mem_cons_self).1 (h a List.mem_cons_self).2
    have h2 := rowT_len l fun x hx => h x (List.mem_cons_of_mem _ hx)
    rw [rowT_cons, List.length_append, List.length_cons, List.length_cons]
    omega
end Go.Proofs.YthfbhinlgoaajaaDoor
namespace Go.Proofs.YthfbhinlgoaajaaDoor
open Go.RowKit
structure Kept (w w' : World) (P : Nat → Prop) : Prop where
  size : w.heap.size ≤ w'.heap.size
  block : ∀ g, P g → g < w.heap.size → w'.heap[g]? = w.heap[g]?
theorem Kept.of_below {w w' : World} {P : Nat → Prop} (h : Below w.heap.size w w') : Kept w w' P := ⟨h.size, fun g _ hg => h.block g hg⟩
theorem Kept.trans {w w' w'' : World} {P : Nat → Prop} (h : Kept w w' P) (h' : Kept w' w'' P) : Kept w w'' P :=
  ⟨Nat.le_trans h.size h'.size, fun g hp hg => (h'.block g hp (Nat.lt_of_lt_of_le hg h.size)).trans (h.block g hp hg)⟩
theorem Kept.refl (w : World) (P : Nat → Prop) : Kept w w P := ⟨Nat.le_refl _, fun _ _ _ => rfl⟩
theorem Kept.cell {w w' : World} {P : Nat → Prop} (h : Kept w w' P) {g o : Nat} (hp : P g) {v : Value} (hv : w.cell? ⟨g, o, none⟩ = some v) : w'.cell? ⟨g, o, none⟩ = some v := by
  have hl : g < w.heap.size := Lib.lt_of_cell hv
  have hb := h.block g hp hl
  rw [← hv]
  unfold World.cell?
  simp only [hb]
end Go.Proofs.YthfbhinlgoaajaaDoor
namespace Go.Proofs.YthfbhinlgoaajaaDoor
open Go.RowKit
def RowI (w : World) (P : Nat → Prop) (A : Option Addr) (l : List Int) : Prop := l = [] ∨ ∃ g o, A = some ⟨g, o, none⟩ ∧ P g ∧ g < w.heap.size ∧ ∀ (i : Nat) (x : Int), l[i]? = some x → w.cell? ⟨g, o + i, none⟩ = some (.int .i64 x)
theorem RowI.kept {w w' : World} {P : Nat → Prop} {A : Option Addr} {l : List Int} (h : RowI w P A l) (hk : Kept w w' P) : RowI w' P A l := by
  rcases h with h | ⟨g, o, rfl, hp, hl, hc⟩
  · exact .inl h
  · exact .inr ⟨g, o, rfl, hp, Nat.lt_of_lt_of_le hl hk.size, fun i x hi => hk.cell hp (hc i x hi)⟩
theorem RowI.mono {w : World} {P Q : Nat → Prop} {A : Option Addr} {l : List Int} (h : RowI w P A l) (hpq : ∀ g, P g → g < w.heap.size → Q g) : RowI w Q A l := by
  rcases h with h | ⟨g, o, rfl, hp, hl, hc⟩
  · exact .inl h
  · exact .inr ⟨g, o, rfl, hpq g hp hl, hl, hc⟩
theorem RowI.below {w w' : World} {P : Nat → Prop} {A : Option Addr} {l : List Int} (h : RowI w P A l) (hb : Below w.heap.size w w') : RowI w' P A l := h.kept (Kept.of_below hb)
def B64s (l : List Int) : Prop := ∀ x ∈ l, -9223372036854775808 ≤ x ∧ x ≤ 9223372036854775807
def inW (x : Int) : List Value := [.int .i64 x]
def ndV (n : Nd) (A : Option Addr) (ca : Nat) (B : Option Addr) (cb : Nat) : Value := .agg #[.int .i64 n.kind, .slice A n.refs.length ca, .slice B n.nums.length cb, .string ⟨n.text.toArray⟩]
def At4 (w : World) (g o : Nat) (n : Nd) (A : Option Addr) (ca : Nat) (B : Option Addr) (cb : Nat) : Prop :=
  w.cell? ⟨g, o, none⟩ = some (.int .i64 n.kind) ∧ w.cell? ⟨g, o + 1, none⟩ = some (.slice A n.refs.length ca) ∧ w.cell? ⟨g, o + 2, none⟩ = some (.slice B n.nums.length cb) ∧ w.cell? ⟨g, o + 3, none⟩ = some (.string ⟨n.text.toArray⟩)
theorem At4.kept {w w' : World} {P : Nat → Prop} {g o : Nat} {n : Nd} {A B : Option Addr} {ca cb : Nat} (h : At4 w g o n A ca B cb) (hk : Kept w w' P) (hp : P g) : At4 w' g o n A ca B cb :=
  ⟨hk.cell hp h.1, hk.cell hp h.2.1, hk.cell hp h.2.2.1, hk.cell hp h.2.2.2⟩
structure NdM where
  n : Nd
  A : Option Addr
  ca : Nat
  B : Option Addr
  cb : Nat
deriving Inhabited
def ndW (q : NdM) : List Value := [.int .i64 q.n.kind, .slice q.A q.n.refs.length q.ca, .slice q.B q.n.nums.length q.cb, .string ⟨q.n.text.toArray⟩]
def RowN (w : World) (P : Nat → Prop) (A : Option Addr) (l : List Nd) : Prop := l = [] ∨ ∃ g o, A = some ⟨g, o, none⟩ ∧ P g ∧ g < w.heap.size ∧
  ∀ (i : Nat) (n : Nd), l[i]? = some n → ∃ B cb C cc, At4 w g (o + i * 4) n B cb C cc ∧ RowI w P B n.refs ∧ RowI w P C n.nums
theorem RowN.kept {w w' : World} {P : Nat → Prop} {A : Option Addr} {l : List Nd} (h : RowN w P A l) (hk : Kept w w' P) : RowN w' P A l := by
  rcases h with h | ⟨g, o, rfl, hp, hl, hc⟩
  · exact .inl h
  · refine .inr ⟨g, o, rfl, hp, Nat.lt_of_lt_of_le hl hk.size, fun i n hi => ?_⟩
    obtain ⟨B, cb, C, cc, h4, hr, hn⟩ := hc i n hi
    exact ⟨B, cb, C, cc, h4.kept hk hp, hr.kept hk, hn.kept hk⟩
theorem RowN.mono {w : World} {P Q : Nat → Prop} {A : Option Addr} {l : List Nd} (h : RowN w P A l) (hpq : ∀ g, P g → g < w.heap.size → Q g) : RowN w Q A l := by
  rcases h with h | ⟨g, o, rfl, hp, hl, hc⟩
  · exact .inl h
  · refine .inr ⟨g, o, rfl, hpq g hp hl, hl, fun i n hi => ?_⟩
    obtain ⟨B, cb, C, cc, h4, hr, hn⟩ := hc i n hi
    exact ⟨B, cb, C, cc, h4, hr.mono hpq, hn.mono hpq⟩
theorem RowN.below {w w' : World} {P : Nat → Prop} {A : Option Addr} {l : List Nd} (h : RowN w P A l) (hb : Below w.heap.size w w') : RowN w' P A l := h.kept (Kept.of_below hb)
structure ButS (P : Nat → Prop) (w w' : World) : Prop where
  os : w'.os = w.os
  tape : w'.tape = w.tape
  output : w'.output = w.output
  size : w.heap.size ≤ w'.heap.size
  block : ∀ k, k < w.heap.size → ¬ P k → w'.heap[k]? = w.heap[k]?
section
variable {P Q : Nat → Prop} {a b c w w' : World}
theorem ButS.refl (P : Nat → Prop) (w : World) : ButS P w w := ⟨rfl, rfl, rfl, Nat.le_refl _, fun _ _ _ => rfl⟩
theorem ButS.trans' (h : ButS P a b) (k : ButS Q b c) (hq : ∀ g, g < a.heap.size → Q g → P g) : ButS P a c :=
  ⟨k.os.trans h.os, k.tape.trans h.tape, k.output.trans h.output, Nat.le_trans h.size k.size, fun i hi hn => (k.block i (Nat.lt_of_lt_of_le hi h.size) (fun e => hn (hq i hi e))).trans (h.block i hi hn)⟩
theorem ButS.trans (h : ButS P a b) (k : ButS P b c) : ButS P a c := h.trans' k fun _ _ e => e
theorem ButS.of_below (h : Below w.heap.size w w') : ButS P w w' := ⟨h.os, h.tape, h.output, h.size, fun k hk _ => h.block k hk⟩
theorem ButS.alloc (h : ButS P a w) (o : Obj) : ButS P a (w.alloc o) := h.trans (ButS.of_below ((Below.refl _ _).alloc (Nat.le_refl _) o))
theorem ButS.drew (h : ButS P a w) : ButS P a w.drew := ⟨h.os, h.tape, h.output, h.size, h.block⟩
theorem ButS.setCell (h : ButS P a w) {p : Addr} (hp : P p.block ∨ a.heap.size ≤ p.block) (u : Value) : ButS P a (w.setCell p u) := by
  have hb := (Below.refl 0 w).setCell (p := p) (Nat.zero_le _) u
  refine ⟨hb.os.trans h.os, hb.tape.trans h.tape, hb.output.trans h.output, Nat.le_trans h.size hb.size, fun k hk hn => ?_⟩
  rw [Below.heap_setCell w p u k (by rcases hp with hp | hp; exact fun e => hn (e ▸ hp); exact fun e => by omega)]
  exact h.block k hk hn
theorem ButS.drewN (h : ButS P a w) (n : Nat) : ButS P a (w.drewN n) := h.trans (ButS.of_below (below_drewN (Below.refl _ _) n))
theorem ButS.kept (h : ButS P w w') : Kept w w' (fun g => ¬ P g) := ⟨h.size, fun g hp hl => h.block g hl hp⟩
theorem ButS.keptQ (h : ButS P w w') (hpq : ∀ g, Q g → ¬ P g) : Kept w w' Q := ⟨h.size, fun g hp hl => h.block g hl (hpq g hp)⟩
theorem ButS.below {n : Nat} (h : ButS P w w') (hn : ∀ k, k < n → ¬ P k) (hs : n ≤ w.heap.size) : Below n w w' := ⟨h.os, h.tape, h.output, h.size, fun k hk => h.block k (by omega) (hn k hk)⟩
theorem ButS.cell (h : ButS P w w') {p : Addr} {v : Value} (hne : ¬ P p.block) (hv : w.cell? p = some v) : w'.cell? p = some v := by
  rw [World.cell?_of_block (w := w) (h.block p.block (Lib.lt_of_cell hv) hne)]; exact hv
theorem ButS.frozen (h : ButS P w w') {p : Addr} (hne : ¬ P p.block) (hl : p.block < w.heap.size) (hv : w.frozen? p = false) : w'.frozen? p = false := by
  rw [World.frozen?_of_block (w := w) (h.block p.block hl hne)]; exact hv
theorem ButS.grown {row : Option Nat} (h : ButS P a w) (hg : w.grownBy w' row) (hr : ∀ k, row = some k → P k ∨ a.heap.size ≤ k) : ButS P a w' :=
  ⟨hg.os.trans h.os, hg.tape.trans h.tape, hg.output.trans h.output, Nat.le_trans h.size hg.size, fun k hk hn => (hg.block k (Nat.lt_of_lt_of_le hk h.size) (fun e => by rcases hr k e.symm with h' | h'; exact hn h'; omega)).trans (h.block k hk hn)⟩
theorem ButS.mono (h : ButS P a w) (hpq : ∀ g, P g → Q g) : ButS Q a w := ⟨h.os, h.tape, h.output, h.size, fun k hk hn => h.block k hk fun e => hn (hpq k e)⟩
structure MC (w : World) (m room : Nat) (vN vB : Value) : Prop where
  c0 : w.cell? ⟨m, 0, none⟩ = some (.int .i64 (room : Int))
  c1 : w.cell? ⟨m, 1, none⟩ = some vN
  c2 : w.cell? ⟨m, 2, none⟩ = some vB
  fM : ∀ j, w.frozen? ⟨m, j, none⟩ = false
section
variable {m room : Nat} {vN vB : Value}
theorem MC.lt (h : MC w m room vN vB) : m < w.heap.size := Lib.lt_of_cell h.c0
theorem MC.block (h : MC w m room vN vB) (hb : w'.heap[m]? = w.heap[m]?) : MC w' m room vN vB :=
  ⟨by rw [World.cell?_of_block (w := w) hb]; exact h.c0, by rw [World.cell?_of_block (w := w) hb]; exact h.c1, by rw [World.cell?_of_block (w := w) hb]; exact h.c2, fun j => by rw [World.frozen?_of_block (w := w) hb]; exact h.fM j⟩
theorem MC.grown {row : Option Nat} (h : MC w m room vN vB) (hg : w.grownBy w' row) (hr : some m ≠ row) : MC w' m room vN vB := h.block (hg.block m h.lt hr)
theorem MC.below (h : MC w m room vN vB) (hb : Below w.heap.size w w') : MC w' m room vN vB := h.block (hb.block m h.lt)
theorem MC.alloc (h : MC w m room vN vB) (o : Obj) : MC (w.alloc o) m room vN vB := h.below ((Below.refl _ _).alloc (Nat.le_refl _) o)
theorem MC.set (h : MC w m room vN vB) {p : Addr} (hp : p.block ≠ m) (u : Value) : MC (w.setCell p u) m room vN vB := h.block (Below.heap_setCell w p u m fun e => hp e.symm)
theorem MC.set1 (h : MC w m room vN vB) (u : Value) : MC (w.setCell ⟨m, 1, none⟩ u) m room u vB :=
  ⟨by rw [World.cell?_setCell_other _ _ _ _ (by simp)]; exact h.c0, World.cell?_setCell_same _ _ _ h.c1, by rw [World.cell?_setCell_other _ _ _ _ (by simp)]; exact h.c2, fun j => by rw [World.frozen?_setCell]; exact h.fM j⟩
theorem MC.set2 (h : MC w m room vN vB) (u : Value) : MC (w.setCell ⟨m, 2, none⟩ u) m room vN u :=
  ⟨by rw [World.cell?_setCell_other _ _ _ _ (by simp)]; exact h.c0, by rw [World.cell?_setCell_other _ _ _ _ (by simp)]; exact h.c1, World.cell?_setCell_same _ _ _ h.c2, fun j => by rw [World.frozen?_setCell]; exact h.fM j⟩
end
theorem rows_list {g : Nat} {l : List Nd} (h : ∀ (i : Nat) (n : Nd), l[i]? = some n → ∃ B cb C cc, At4 w g (i * 4) n B cb C cc ∧ RowI w P B n.refs ∧ RowI w P C n.nums) :
    ∃ L : List NdM, L.map NdM.n = l ∧ (∀ (i : Nat) (q : NdM), L[i]? = some q → At4 w g (i * 4) q.n q.A q.ca q.B q.cb) ∧ ∀ q ∈ L, RowI w P q.A q.n.refs ∧ RowI w P q.B q.n.nums := by
  have key : ∀ i, i < l.length → ∃ q : NdM, l[i]? = some q.n ∧ At4 w g (i * 4) q.n q.A q.ca q.B q.cb ∧ RowI w P q.A q.n.refs ∧ RowI w P q.B q.n.nums := fun i hi => by
    obtain ⟨B, cb, C, cc, h4, hr, hn⟩ := h i _ (List.getElem?_eq_getElem hi)
    exact ⟨⟨_, B, cb, C, cc⟩, List.getElem?_eq_getElem hi, h4, hr, hn⟩
  obtain ⟨F, hF⟩ : ∃ F : Nat → NdM, ∀ i, i < l.length → l[i]? = some (F i).n ∧ At4 w g (i * 4) (F i).n (F i).A (F i).ca (F i).B (F i).cb ∧ RowI w P (F i).A (F i).n.refs ∧ RowI w P (F i).B (F i).n.nums := by
    refine ⟨fun i => if hi : i < l.length then (key i hi).choose else default, fun i hi => ?_⟩
    simp only [dif_pos hi]
    exact (key i hi).choose_spec
  refine ⟨(List.range l.length).map F, ?_, fun i q hq => ?_, fun q hq => ?_⟩
  · apply List.ext_getElem?
    intro i
    by_cases hi : i < l.length
    · rw [List.getElem?_map, List.getElem?_map, List.getElem?_range hi, (hF i hi).1]; rfl
    · rw [List.getElem?_eq_none_iff.2 (by simp; omega), List.getElem?_eq_none_iff.2 (by omega)]
  · have hi : i < l.length := by have := (List.getElem?_eq_some_iff.1 hq).1; simpa using this
    rw [List.getElem?_map, List.getElem?_range hi] at hq
    obtain rfl := Option.some.inj hq
    exact (hF i hi).2.1
  · obtain ⟨i, hi, rfl⟩ := List.mem_map.1 hq
    exact (hF i (List.mem_range.1 hi)).2.2
theorem list_rows {g : Nat} {L : List NdM} (h : ∀ (i : Nat) (q : NdM), L[i]? = some q → At4 w g (i * 4) q.n q.A q.ca q.B q.cb) (hr : ∀ q ∈ L, RowI w P q.A q.n.refs ∧ RowI w P q.B q.n.nums) :
    ∀ (i : Nat) (n : Nd), (L.map NdM.n)[i]? = some n → ∃ B cb C cc, At4 w g (i * 4) n B cb C cc ∧ RowI w P B n.refs ∧ RowI w P C n.nums := fun i n hi => by
  rw [List.getElem?_map] at hi
  cases hq : L[i]? with
  | none => rw [hq] at hi; cases hi
  | some q =>
    rw [hq] at hi
    obtain rfl := Option.some.inj hi
    exact ⟨_, _, _, _, h i q hq, hr q (List.mem_of_getElem? hq)⟩
end
end Go.Proofs.YthfbhinlgoaajaaDoor
namespace Go.Proofs.YthfbhinlgoaajaaDoor
open Go.RowKit Go.Maps
theorem laidOut9 : laidOutB Tryd.prog = true := by kernel_rfl
theorem lookKeyed : Keyed Tryd.prog 103 := Keyed.of_law (deep_law_laid laidOut9 (m := 2) (by omega) (of_decide_eq_true (by kernel_rfl)) (by kernel_rfl) (by rw [Tryd.underlying103]))
theorem cells_look : Tryd.prog.cellsOf 103 = 4 := by kernel_rfl
theorem cells_int9 : Tryd.prog.cellsOf 3 = 1 := by kernel_rfl
theorem cells_str9 : Tryd.prog.cellsOf 9 = 1 := by kernel_rfl
def FitK (n : Nd) : Prop := (n.refs.length ≤ 200 ∧ n.nums.length ≤ 200 ∧ n.text.length ≤ 5000) ∧ B64s n.refs ∧ B64s n.nums ∧ -9223372036854775808 ≤ n.kind ∧ n.kind ≤ 9223372036854775807
def kN (n : Nd) : Lit := .string (keyBytes [.int .i64 n.kind, .string (rowT n.refs), .string (rowT n.nums), .string n.text])
def lookV (n : Nd) : Value := .agg #[.int .i64 n.kind, .string ⟨(rowT n.refs).toArray⟩, .string ⟨(rowT n.nums).toArray⟩, .string ⟨n.text.toArray⟩]
theorem wf64' {x : Int} (h : -9223372036854775808 ≤ x ∧ x ≤ 9223372036854775807) : (Lit.int .i64 x).wf = true := by
  have e1 : IntKind.i64.min = -9223372036854775808 := rfl
  have e2 : IntKind.i64.max = 9223372036854775807 := rfl
  simp [Lit.wf, e1, e2]
  omega
theorem rowT_small {l : List Int} (h : B64s l) (hl : l.length ≤ 200) : (rowT l).length ≤ 4400 := by
  have := rowT_len l h
  omega
set_option maxRecDepth 100000 in
theorem key_look {n : Nd} (h : FitK n) : keyOf Tryd.prog 103 (lookV n) = some (kN n) := by
  obtain ⟨⟨f1, f2, f3⟩, f4, f5, f6⟩ := h
  have g1 := rowT_small f4 f1
  have g2 := rowT_small f5 f2
  have b1 : ({ data := (rowT n.refs).toArray } : ByteArray).size ≤ maxLen := by show (rowT n.refs).toArray.size ≤ maxLen; unfold maxLen; simp; omega
  have b2 : ({ data := (rowT n.nums).toArray } : ByteArray).size ≤ maxLen := by show (rowT n.nums).toArray.size ≤ maxLen; unfold maxLen; simp; omega
  have b3 : ({ data := n.text.toArray } : ByteArray).size ≤ maxLen := by show n.text.toArray.size ≤ maxLen; unfold maxLen; simp; omega
  have h1 : Tryd.prog.keyType 103 = true := by kernel_rfl
  have h2 : (lookV n).formed Tryd.prog 103 = true := by
    simp [lookV, Value.formed, Tryd.underlying103, cells_look]
  obtain ⟨d, hd⟩ : ∃ d, Tryd.prog.types.size = d + 1 := ⟨Tryd.prog.types.size - 1, by kernel_rfl⟩
  have h3 : Tryd.prog.keyLits (Tryd.prog.types.size + 1) 103 [.int .i64 n.kind, .string ⟨(rowT n.refs).toArray⟩, .string ⟨(rowT n.nums).toArray⟩, .string ⟨n.text.toArray⟩] = some [.int .i64 n.kind, .string (rowT n.refs), .string (rowT n.nums), .string n.text] := by
    rw [hd]
    simp [Program.keyLits, Tryd.underlying103, Tryd.underlying3, Tryd.underlying9, cells_look, cells_int9, cells_str9, wf64' f6, b1, b2, b3]
  unfold keyOf
  rw [Tryd.underlying103]
  simp only [h1, h2, Bool.and_self, if_true]
  show (Tryd.prog.keyLits (Tryd.prog.types.size + 1) 103 [.int .i64 n.kind, .string ⟨(rowT n.refs).toArray⟩, .string ⟨(rowT n.nums).toArray⟩, .string ⟨n.text.toArray⟩]).map _ = _
  rw [h3]; rfl
theorem kN_inj {n m : Nd} (hn : FitK n) (hm : FitK m) (h : kN n = kN m) : n = m := by
  have h1 := key_look hn
  rw [h] at h1
  have := lookKeyed.inj h1 (key_look hm)
  unfold lookV at this
  simp only [Value.agg.injEq, Array.mk.injEq, List.cons.injEq, Value.int.injEq, Value.string.injEq, ByteArray.mk.injEq, true_and, and_true] at this
  obtain ⟨e1, e2, e3, e4⟩ := this
  have e2 := rowT_inj (by simpa using e2)
  have e3 := rowT_inj (by simpa using e3)
  have e4 : n.text = m.text := by simpa using e4
  show (⟨n.kind, n.refs, n.nums, n.text⟩ : Nd) = m
  rw [e1, e2, e3, e4]
def hV (h : Int) : DataW Unit := .lit (.int .i64 h)
theorem intZero9 (w : World) : (zeroValue 3).run Tryd.prog w = .ok (.int .i64 0) w := by kernel_rfl
structure Maps9 (D : DataW Unit) (t : Sh) : Prop where
  at_ : ∀ h n, ndAt t h = some n → D.atKey (kN n) (hV 0) = hV h ∧ has D (kN n) = true
  only : ∀ kl, has D kl = true → ∃ h n, ndAt t h = some n ∧ kl = kN n
def FitT (t : Sh) : Prop := ∀ h n, ndAt t h = some n → FitK n
theorem Maps9.miss {D : DataW Unit} {t : Sh} (h : Maps9 D t) (hf : FitT t) {x : Nd} (hx : FitK x) (h0 : ∀ k, ndAt t k ≠ some x) : has D (kN x) = false := by
  cases e : has D (kN x) with
  | false => rfl
  | true =>
    obtain ⟨k, n, hn, hk⟩ := h.only _ e
    exact absurd (kN_inj hx (hf k n hn) hk ▸ hn) (h0 k)
theorem Maps9.put {D : DataW Unit} {t t' : Sh} (hM : IsMap D) (h : Maps9 D t) (hf : FitT t) {x : Nd} {k : Int} (hx : FitK x) (h0 : ∀ k, ndAt t k ≠ some x) (ht : ∀ j, ndAt t' j = if j = k then some x else ndAt t j) (hk : ndAt t k = none) : Maps9 (D.put (kN x) (hV k)) t' := by
  have hkey := lookKeyed.key (key_look hx)
  refine ⟨fun j n hn => ?_, fun kl hl => ?_⟩
  · rw [ht] at hn
    by_cases e : j = k
    · rw [if_pos e] at hn
      cases hn
      rw [atKey_put_same hM hkey, has_put_same hM hkey, e]
      exact ⟨rfl, rfl⟩
    · rw [if_neg e] at hn
      have hne : kN n ≠ kN x := fun e' => h0 j ((kN_inj (hf j n hn) hx e') ▸ hn)
      rw [atKey_put_other hne, has_put_other hne]
      exact h.at_ j n hn
  · by_cases e : kl = kN x
    · exact ⟨k, x, by rw [ht, if_pos rfl], e⟩
    · rw [has_put_other e] at hl
      obtain ⟨j, n, hn, hj⟩ := h.only kl hl
      refine ⟨j, n, ?_, hj⟩
      rw [ht, if_neg fun e' => by rw [e', hk] at hn; cases hn]
      exact hn
theorem Maps9.del {D : DataW Unit} {t t' : Sh} (h : Maps9 D t) (hf : FitT t) (h1 : ∀ h k n, ndAt t h = some n → ndAt t k = some n → h = k) {x : Nd} {k : Int} (hx : ndAt t k = some x) (ht : ∀ j, ndAt t' j = if j = k then none else ndAt t j) : Maps9 (D.del (kN x)) t' := by
  refine ⟨fun j n hn => ?_, fun kl hl => ?_⟩
  · rw [ht] at hn
    by_cases e : j = k
    · rw [if_pos e] at hn; cases hn
    · rw [if_neg e] at hn
      have hne : kN n ≠ kN x := fun e' => e (h1 j k x (kN_inj (hf j n hn) (hf k x hx) e' ▸ hn) hx)
      rw [atKey_del_other hne, has_del_other hne]
      exact h.at_ j n hn
  · by_cases e : kl = kN x
    · rw [e, has_del_same] at hl; cases hl
    · rw [has_del_other e] at hl
      obtain ⟨j, n, hn, hj⟩ := h.only kl hl
      refine ⟨j, n, ?_, hj⟩
      rw [ht, if_neg fun e' => ?_]
      · exact hn
      · subst e'
        rw [hx] at hn
        cases hn
        exact e hj
def MapA (w : World) (b : Nat) (t : Sh) : Prop := ∃ D : DataW Unit, w.ownsMap Tryd.prog 103 (plainElem Tryd.prog 3) b (Maps.size D) D ∧ Maps9 D t
theorem own_tight {w : World} {P : Program} {k : TypeId} {R : Value → Option (DataW Unit × List MemPlace)} {b n : Nat} {D : DataW Unit} (h : w.ownsMap P k R b n D) : w.ownsMap P k R b (Maps.size D) D := by
  obtain ⟨es, clock, hb, F, hs, rfl⟩ := h
  exact ⟨es, clock, hb, F, by simp [Maps.size, length_sorted], rfl⟩
theorem own_block {w w' : World} {P : Program} {k : TypeId} {R : Value → Option (DataW Unit × List MemPlace)} {b n : Nat} {D : DataW Unit} (h : w.ownsMap P k R b n D) (hb : w'.heap[b]? = w.heap[b]?) : w'.ownsMap P k R b n D := by
  obtain ⟨es, clock, h1, h2⟩ := h
  exact ⟨es, clock, hb.trans h1, h2⟩
theorem MapA.block {w w' : World} {b : Nat} {t : Sh} (h : MapA w b t) (hb : w'.heap[b]? = w.heap[b]?) : MapA w' b t := by
  obtain ⟨D, h1, h2⟩ := h
  exact ⟨D, own_block h1 hb, h2⟩
theorem MapA.lt {w : World} {b : Nat} {t : Sh} (h : MapA w b t) : b < w.heap.size := by
  obtain ⟨D, h1, h2⟩ := h
  exact h1.lt
theorem MapA.made (w : World) : MapA (w.alloc (.map #[] 0)) w.heap.size [] :=
  ⟨.map [], World.ownsMap_made w Tryd.prog 103 _, ⟨fun h n e => by unfold ndAt at e; split at e <;> simp at e, fun kl e => by cases e⟩⟩
end Go.Proofs.YthfbhinlgoaajaaDoor
namespace Go.Proofs.YthfbhinlgoaajaaDoor
def Pre : Nat → List En → Prop
  | 0, l => oneH l = true
  | 1, l => ∀ x ∈ l, ∀ y ∈ l, digK x.key 0 = digK y.key 0
  | _, _ => True
theorem hash_digs {k : Int} (h : 0 ≤ k ∧ k ≤ 1023) : hashK k = 32 * digK k 1 + digK k 0 := by
  have := hash_bound h
  unfold digK
  simp only [if_pos, if_neg (show ¬ (1 = 0) by decide)]
  omega
theorem oneH_of {l : List En} (h : ∀ x ∈ l, ∀ y ∈ l, hashK x.key = hashK y.key) : oneH l = true := by
  cases l with
  | nil => rfl
  | cons x r =>
    show (r.all fun y => decide (hashK y.key = hashK x.key)) = true
    rw [List.all_eq_true]
    intro y hy
    exact decide_eq_true (h y (List.mem_cons_of_mem _ hy) x List.mem_cons_self)
theorem pre_part {k : Nat} {l : List En} (hk2 : k ≤ 1) (hk : KeyIn l) (h : Pre (k + 1) l) (d : Nat) : Pre k (partD l (1 - k) d) := by
  have hm : ∀ x ∈ partD l (1 - k) d, x ∈ l ∧ digK x.key (1 - k) = (d : Int) := fun x hx => by
    have := List.mem_filter.1 hx
    exact ⟨this.1, by simpa using this.2⟩
  match k, hk2 with
  | 0, _ =>
    refine oneH_of fun x hx y hy => ?_
    obtain ⟨x1, x2⟩ := hm x hx
    obtain ⟨y1, y2⟩ := hm y hy
    rw [hash_digs (hk x x1), hash_digs (hk y y1), h x x1 y y1]
    rw [show (1 : Nat) - 0 = 1 from rfl] at x2 y2
    rw [x2, y2]
  | 1, _ =>
    intro x hx y hy
    rw [(hm x hx).2, (hm y hy).2]
theorem szL_map (f : List En → Tr) (c : Nat) : ∀ (P : List (List En)), (∀ p ∈ P, szT' (f p) ≤ c * p.length) → szL' (P.map f) ≤ c * P.flatten.length
  | [], _ => by rw [List.map_nil, szL']; exact Nat.zero_le _
  | p :: P, h => by
    have h1 := h p (by simp)
    have h2 := szL_map f c P fun q hq => h q (List.mem_cons_of_mem _ hq)
    rw [List.map_cons, szL', List.flatten_cons, List.length_append, Nat.mul_add]
    omega
theorem szL_leaf : ∀ l : List En, szL' (l.map leafT) = l.length
  | [] => by rw [List.map_nil, szL']; rfl
  | x :: l => by
    rw [List.map_cons, szL', szL_leaf l]
    unfold leafT
    rw [szT', szL', List.length_cons]; omega
theorem sz_buk {l : List En} (h : l ≠ []) : szT' (bukT l) ≤ 2 * l.length := by
  have := List.length_pos_iff.2 h
  unfold bukT
  split
  · unfold leafT
    rw [szT', szL']; simp
  · rw [szT', szL_leaf]; omega
theorem sz_trK : ∀ (k : Nat) {l : List En}, KeyIn l → l ≠ [] → szT' (trK k l) ≤ (k + 2) * l.length
  | 0, l, _, h => by rw [trK]; exact sz_buk h
  | k + 1, l, hk, h => by
    have hp := List.length_pos_iff.2 h
    rw [trK]
    split
    · exact Nat.le_trans (sz_buk h) (Nat.mul_le_mul_right _ (by omega))
    · rw [szT']
      have h1 := szL_map (trK k) (k + 2) (partsD l (1 - k) 32) fun p hp => sz_trK k (fun x hx => hk x ((part_sub hp).1.subset hx)) (part_sub hp).2.1
      rw [(parts_perm hk (1 - k)).length_eq] at h1
      have : (k + 1 + 2) * l.length = (k + 2) * l.length + l.length := by rw [Nat.add_right_comm, Nat.succ_mul]
      omega
def nodesL (l : List En) : List Nd := if l = [] then [] else fl (trK 2 l) []
theorem nodesL_len {l : List En} (hk : KeyIn l) : (nodesL l).length ≤ 4 * l.length := by
  unfold nodesL
  split
  · exact Nat.zero_le _
  · rename_i h
    rw [fl_size]
    have := sz_trK 2 hk h
    simpa using this
end Go.Proofs.YthfbhinlgoaajaaDoor
namespace Go.Proofs.YthfbhinlgoaajaaDoor
theorem hash_key {k : Int} (h : 0 ≤ k ∧ k ≤ 1023) : k = 25 * (2 * hashK k) % 1024 ∨ k = 25 * (2 * hashK k + 1) % 1024 := by
  unfold hashK
  rw [if_pos h]
  have h1 : 25 * (41 * k % 1024) % 1024 = k := by omega
  generalize 41 * k % 1024 = m at *
  have h2 : m = 2 * (m / 2) ∨ m = 2 * (m / 2) + 1 := by omega
  rcases h2 with e | e
  · exact .inl (by rw [← e]; exact h1.symm)
  · exact .inr (by rw [← e]; exact h1.symm)
theorem bucket_two {l : List En} (ho : OkL l) (h : oneH l = true) : l.length ≤ 2 := by
  match l, ho, h with
  | [], _, _ => simp
  | [x], _, _ => simp
  | [x, y], _, _ => simp
  | x :: y :: z :: r, ho, h =>
    exfalso
    have hs : ((y :: z :: r).all fun q => decide (hashK q.key = hashK x.key)) = true := h
    rw [List.all_eq_true] at hs
    have hy : hashK y.key = hashK x.key := of_decide_eq_true (hs y (by simp))
    have hz : hashK z.key = hashK x.key := of_decide_eq_true (hs z (by simp))
    have kx := hash_key (ho.keys x (by simp))
    have ky := hash_key (ho.keys y (by simp))
    have kz := hash_key (ho.keys z (by simp))
    rw [hy] at ky
    rw [hz] at kz
    have p := ho.2
    rw [List.pairwise_cons, List.pairwise_cons] at p
    have h1 := p.1 y (by simp)
    have h2 := p.1 z (by simp)
    have h3 := p.2.1 z (by simp)
    omega
mutual
def fitT : Tr → Prop
  | .mk k nums text kids => (kids.length ≤ 200 ∧ nums.length ≤ 200 ∧ text.length ≤ 5000) ∧ B64s nums ∧ (-9223372036854775808 ≤ k ∧ k ≤ 9223372036854775807) ∧ fitTL kids
def fitTL : List Tr → Prop
  | [] => True
  | t :: ts => fitT t ∧ fitTL ts
end
theorem fitTL_of : ∀ {ts : List Tr}, (∀ t ∈ ts, fitT t) → fitTL ts
  | [], _ => by rw [fitTL]; trivial
  | u :: ts, h => by rw [fitTL]; exact ⟨h u (by simp), fitTL_of fun t ht => h t (List.mem_cons_of_mem _ ht)⟩
mutual
theorem fl_fit : ∀ (t : Tr) (out : List Nd), fitT t → (fl t out).length ≤ 1000000 → (∀ n ∈ out, FitK n) → ∀ n ∈ fl t out, FitK n
  | .mk k nums text kids, out, h, hl, ho, n, hn => by
    rw [fitT] at h
    obtain ⟨⟨h1, h2, h3⟩, h4, h5, h6⟩ := h
    have hl1 : (flL kids out []).1.length ≤ 1000000 := by rw [fl, List.length_append] at hl; omega
    have ih := flL_fit kids out [] h6 hl1 ho (fun r hr => by cases hr)
    rw [fl] at hn
    rcases List.mem_append.1 hn with e | e
    · exact ih.1 n e
    · rw [List.mem_singleton.1 e]
      obtain ⟨m, em, hm⟩ := flL_refs kids out []
      exact ⟨⟨by show (flL kids out []).2.length ≤ 200; rw [em, List.nil_append, hm]; exact h1, h2, h3⟩, ih.2, h4, h5⟩
theorem flL_fit : ∀ (ts : List Tr) (out : List Nd) (refs : List Int), fitTL ts → (flL ts out refs).1.length ≤ 1000000 → (∀ n ∈ out, FitK n) → B64s refs → (∀ n ∈ (flL ts out refs).1, FitK n) ∧ B64s (flL ts out refs).2
  | [], out, refs, _, _, ho, hr => by rw [flL]; exact ⟨ho, hr⟩
  | t :: ts, out, refs, h, hl, ho, hr => by
    rw [fitTL] at h
    rw [flL] at hl ⊢
    have hl2 : (fl t out).length ≤ 1000000 := by
      obtain ⟨m, e⟩ := flL_ext ts (fl t out) (refs ++ [-((fl t out).length : Int)])
      rw [e, List.length_append] at hl
      omega
    refine flL_fit ts (fl t out) _ h.2 hl (fl_fit t out h.1 hl2 ho) fun x hx => ?_
    rcases List.mem_append.1 hx with e | e
    · exact hr x e
    · rw [List.mem_singleton.1 e]; omega
end
theorem fit_leaf {x : En} (h : rightE x = true) : fitT (leafT x) := by
  have := right_iffE.1 h
  unfold leafT
  rw [fitT, fitTL]
  exact ⟨⟨by simp, by simp, by omega⟩, fun y hy => by rw [List.mem_singleton.1 hy]; omega, by decide, trivial⟩
theorem fit_buk {l : List En} (h : ∀ x ∈ l, rightE x = true) (hl : l.length ≤ 200) : fitT (bukT l) := by
  unfold bukT
  split
  · exact fit_leaf (h _ (by simp))
  · rw [fitT]
    exact ⟨⟨by rw [List.length_map]; exact hl, by simp, by simp⟩, (fun y hy => by cases hy), by decide, fitTL_of fun t ht => by obtain ⟨x, hx, rfl⟩ := List.mem_map.1 ht; exact fit_leaf (h x hx)⟩
theorem okL_sub {l p : List En} (h : OkL l) (hs : p.Sublist l) : OkL p := ⟨fun x hx => h.1 x (hs.subset hx), h.2.sublist hs⟩
theorem partsD_len (l : List En) (lv : Nat) : (partsD l lv 32).length ≤ 32 := by
  unfold partsD
  exact Nat.le_trans (List.length_filter_le _ _) (by simp)
theorem bitsD_le (l : List En) (lv : Nat) : ∀ n : Nat, bitsD l lv n < 2 ^ n
  | 0 => by rw [bitsD]; decide
  | n + 1 => by
    have := bitsD_le l lv n
    rw [bitsD, Nat.pow_succ]
    split <;> omega
theorem fit_trK : ∀ (k : Nat), k ≤ 2 → ∀ {l : List En}, OkL l → Pre k l → fitT (trK k l)
  | 0, _, l, h, hp => by
    rw [trK]
    exact fit_buk h.1 (Nat.le_trans (bucket_two h hp) (by decide))
  | k + 1, hk, l, h, hp => by
    rw [trK]
    split
    · rename_i ho
      exact fit_buk h.1 (Nat.le_trans (bucket_two h ho) (by decide))
    · rw [fitT]
      have hb := bitsD_le l (1 - k) 32
      have h32 : (2 : Nat) ^ 32 = 4294967296 := rfl
      refine ⟨⟨by rw [List.length_map]; exact Nat.le_trans (partsD_len l _) (by decide), by simp, by simp⟩, fun y hy => by rw [List.mem_singleton.1 hy]; omega, by decide, fitTL_of fun t ht => ?_⟩
      obtain ⟨p, hpm, rfl⟩ := List.mem_map.1 ht
      obtain ⟨hs, _, d, _, rfl⟩ := part_sub hpm
      exact fit_trK k (by omega) (okL_sub h hs) (pre_part (by omega) h.keys hp d)
theorem nodesL_fit {l : List En} (h : OkL l) (hl : l.length ≤ 100000) : ∀ n ∈ nodesL l, FitK n := by
  intro n hn
  have hlen := nodesL_len h.keys
  unfold nodesL at hn hlen
  split at hn
  · cases hn
  · rename_i e
    rw [if_neg e] at hlen
    exact fl_fit _ [] (fit_trK 2 (Nat.le_refl _) h trivial) (by omega) (fun n hn => by cases hn) n hn
theorem getX {f : Txs} {n : Nat} (hok : OkX f) (hn : n ≤ 1024) {k : Nat} (hk : k < n) : getL (entX f n) (k : Int) = if f k = [] then none else some (f k) := by
  split
  · rename_i e
    refine getL_none.2 fun x hx hxk => ?_
    obtain ⟨j, hj, rfl, hne⟩ := (entX_mem f n x).1 hx
    have : j = k := by change (j : Int) = (k : Int) at hxk; omega
    subst this
    exact hne e
  · rename_i e
    exact getL_of (x := ⟨(k : Int), f k⟩) (entX_ok hok n hn) ((entX_mem f n _).2 ⟨k, hk, rfl, e⟩)
def putT (room : Nat) (s : Sh) (l : List En) : Sh × Int × Nat :=
  ((putA room s (nodesL l)).1, (putA room s (nodesL l)).2.1.getLastD 0, if (putA room s (nodesL l)).2.1 = [] then (putA room s (nodesL l)).2.2 else 0)
end Go.Proofs.YthfbhinlgoaajaaDoor
namespace Go.Proofs.YthfbhinlgoaajaaDoor
open Go.RowKit
theorem put_wrong {room : Nat} {s : Sh} {l : List Nd} (h : wrongF s 0 l = true) : putA room s l = (s, [], 1) := by unfold putA; rw [if_pos h]
theorem put_full {room : Nat} {s : Sh} {l : List Nd} (h : wrongF s 0 l = false) (h2 : putL room s [] l = none) : putA room s l = (s, [], 3) := by unfold putA; rw [if_neg (by rw [h]; decide), h2]
theorem put_good {room : Nat} {s s' : Sh} {l : List Nd} {out : List Int} (h : wrongF s 0 l = false) (h2 : putL room s [] l = some (s', out)) : putA room s l = (s', out, 0) := by unfold putA; rw [if_neg (by rw [h]; decide), h2]
theorem putL_next {room : Nat} {s s' : Sh} {l : List Nd} {i : Nat} {n : Nd} {out : List Int} {k : Int} (hi : l[i]? = some n) (h : oneA room s (asPut out n) = some (s', k)) : putL room s out (l.drop i) = putL room s' (out ++ [k]) (l.drop (i + 1)) := by
  obtain ⟨hl, he⟩ := List.getElem?_eq_some_iff.1 hi
  rw [List.drop_eq_getElem_cons hl, putL, he, h]
theorem putL_stop {room : Nat} {s : Sh} {l : List Nd} {i : Nat} {n : Nd} {out : List Int} (hi : l[i]? = some n) (h : oneA room s (asPut out n) = none) : putL room s out (l.drop i) = none := by
  obtain ⟨hl, he⟩ := List.getElem?_eq_some_iff.1 hi
  rw [List.drop_eq_getElem_cons hl, putL, he, h]
end Go.Proofs.YthfbhinlgoaajaaDoor
