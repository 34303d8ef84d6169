/- Texts joined: Mem, NdA, NdC, NdE, NfA, KpA, NdB, NfB. -/
import Derived.Test.YtbjbbpbagnlkmaaDoorProg
import Derived.WalkKit
import Derived.WalkSmall
import Derived.Lib.Hide
import Derived.Lib.AtoiErrMem
import Derived.Deep.CutRange
import Derived.Lib.ItoaNum
import Derived.Lib.ItoaLen
import Derived.OwnWalk
import Derived.Deep.QuietTactic
import Derived.BigQuiet
import Derived.Laws.Pointers
import Derived.StillTactics
import Derived.Maps.OwnSet
import Derived.DeepKeys4
set_option linter.all false
namespace Go.Proofs.YtbjbbpbagnlkmaaDoor
open Go.RowKit
theorem keep_cell {W w1 : World} (hb : Below W.heap.size W w1) {p : Addr} {v : Value} (h : W.cell? p = some v) : w1.cell? p = some v := by
  rw [hb.cell (Lib.lt_of_cell h)]; exact h
theorem keep_frozen {W w1 : World} (hb : Below W.heap.size W w1) {p : Addr} (hp : p.block < W.heap.size) (h : W.frozen? p = false) : w1.frozen? p = false := by
  rw [hb.frozen hp]; exact h

end Go.Proofs.YtbjbbpbagnlkmaaDoor
namespace Go.Proofs.YtbjbbpbagnlkmaaDoor
structure Nd where
  kind : Int
  refs : List Int
  nums : List Int
  text : List UInt8
deriving Inhabited, DecidableEq
abbrev Sh := List (Option Nd)
def ndAt (s : Sh) (h : Int) : Option Nd := if 0 < h then (s[(h - 1).toNat]?).getD none else none
theorem ndAt_succ (s : Sh) (i : Nat) : ndAt s ((i : Int) + 1) = (s[i]?).getD none := by
  unfold ndAt
  rw [if_pos (by omega), show ((i : Int) + 1 - 1).toNat = i by omega]
theorem ndAt_some {s : Sh} {h : Int} {n : Nd} (e : ndAt s h = some n) : ∃ i : Nat, h = (i : Int) + 1 ∧ s[i]? = some (some n) := by
  unfold ndAt at e
  split at e
  · rename_i hp
    refine ⟨(h - 1).toNat, by omega, ?_⟩
    cases hq : s[(h - 1).toNat]? with
    | none => rw [hq] at e; cases e
    | some o => rw [hq] at e; exact congrArg some e
  · cases e
theorem ndAt_none {s : Sh} {i : Nat} (e : s.length ≤ i) : ndAt s ((i : Int) + 1) = none := by
  rw [ndAt_succ, List.getElem?_eq_none_iff.2 e]; rfl
def live (s : Sh) (h : Int) : Bool := (ndAt s h).isSome
theorem live_iff {s : Sh} {h : Int} : live s h = true ↔ ∃ n, ndAt s h = some n := Option.isSome_iff_exists
theorem live_bound {s : Sh} {h : Int} (e : live s h = true) : 1 ≤ h ∧ h ≤ s.length := by
  obtain ⟨n, e⟩ := live_iff.1 e
  obtain ⟨i, rfl, hi⟩ := ndAt_some e
  have := (List.getElem?_eq_some_iff.1 hi).1
  omega
def fnd (s : Sh) (x : Nd) : Nat := match s.findIdx? (fun o => o == some x) with | some i => i + 1 | none => 0
theorem fnd_at {s : Sh} {x : Nd} {i : Nat} (h : s[i]? = some (some x)) (hj : ∀ j : Nat, j < i → s[j]? ≠ some (some x)) : fnd s x = i + 1 := by
  have e : s.findIdx? (fun o => o == some x) = some i := by
    rw [List.findIdx?_eq_some_iff_getElem]
    obtain ⟨hl, he⟩ := List.getElem?_eq_some_iff.1 h
    refine ⟨hl, by rw [he]; simp, fun j hji => ?_⟩
    have hjl : j < s.length := by omega
    have := hj j hji
    rw [List.getElem?_eq_getElem hjl] at this
    simpa using this
  unfold fnd; rw [e]
theorem fnd_none {s : Sh} {x : Nd} (hj : ∀ j : Nat, s[j]? ≠ some (some x)) : fnd s x = 0 := by
  have e : s.findIdx? (fun o => o == some x) = none := by
    rw [List.findIdx?_eq_none_iff]
    intro o ho
    obtain ⟨i, hi⟩ := List.getElem?_of_mem ho
    have := hj i
    rw [hi] at this
    simpa using this
  unfold fnd; rw [e]
theorem fnd_pos {s : Sh} {x : Nd} (h : fnd s x ≠ 0) : ndAt s (fnd s x) = some x := by
  unfold fnd at h ⊢
  cases e : s.findIdx? (fun o => o == some x) with
  | none => rw [e] at h; exact absurd rfl h
  | some i =>
    rw [List.findIdx?_eq_some_iff_getElem] at e
    obtain ⟨hl, hx, _⟩ := e
    show ndAt s ((i + 1 : Nat) : Int) = _
    rw [show ((i + 1 : Nat) : Int) = (i : Int) + 1 by omega, ndAt_succ, List.getElem?_eq_getElem hl]
    simpa using hx
theorem fnd_zero {s : Sh} {x : Nd} (h : fnd s x = 0) (j : Nat) : s[j]? ≠ some (some x) := by
  unfold fnd at h
  cases e : s.findIdx? (fun o => o == some x) with
  | some i => rw [e] at h; cases h
  | none =>
    rw [List.findIdx?_eq_none_iff] at e
    intro hj
    have := e _ (List.mem_of_getElem? hj)
    simp at this
def freeH (s : Sh) : Nat := match s.findIdx? (fun o => o.isNone) with | some i => i + 1 | none => s.length + 1
theorem freeH_cases (s : Sh) : (∃ i, s[i]? = some none ∧ freeH s = i + 1) ∨ (freeH s = s.length + 1 ∧ ∀ j : Nat, s[j]? ≠ some none) := by
  cases e : s.findIdx? (fun o => o.isNone) with
  | some i =>
    refine .inl ⟨i, ?_, by unfold freeH; rw [e]⟩
    rw [List.findIdx?_eq_some_iff_getElem] at e
    obtain ⟨hl, hx, _⟩ := e
    rw [List.getElem?_eq_getElem hl]
    exact congrArg some (Option.isNone_iff_eq_none.1 hx)
  | none =>
    refine .inr ⟨by unfold freeH; rw [e], fun j hj => ?_⟩
    rw [List.findIdx?_eq_none_iff] at e
    have := e _ (List.mem_of_getElem? hj)
    simp at this
theorem freeH_pos (s : Sh) : 1 ≤ freeH s ∧ freeH s ≤ s.length + 1 := by
  rcases freeH_cases s with ⟨i, hi, e⟩ | ⟨e, _⟩
  · have := (List.getElem?_eq_some_iff.1 hi).1
    omega
  · omega
theorem freeH_dead (s : Sh) : ndAt s (freeH s) = none := by
  rcases freeH_cases s with ⟨i, hi, e⟩ | ⟨e, _⟩
  · rw [e, show ((i + 1 : Nat) : Int) = (i : Int) + 1 by omega, ndAt_succ, hi]; rfl
  · rw [e, show ((s.length + 1 : Nat) : Int) = (s.length : Int) + 1 by omega]; exact ndAt_none (Nat.le_refl _)
def setH (s : Sh) (h : Nat) (x : Nd) : Sh := if h ≤ s.length then s.set (h - 1) (some x) else s ++ [some x]
theorem setH_at (s : Sh) (x : Nd) (h : Int) : ndAt (setH s (freeH s) x) h = if h = freeH s then some x else ndAt s h := by
  have hp := freeH_pos s
  by_cases h0 : 0 < h
  · obtain ⟨i, rfl⟩ : ∃ i : Nat, h = (i : Int) + 1 := ⟨(h - 1).toNat, by omega⟩
    rw [ndAt_succ, ndAt_succ]
    unfold setH
    split
    · rename_i hl
      rw [List.getElem?_set]
      by_cases e : freeH s - 1 = i
      · rw [if_pos e, if_pos (by omega), if_pos (by omega)]; rfl
      · rw [if_neg e, if_neg (by omega)]
    · rename_i hl
      have hf : freeH s = s.length + 1 := by omega
      by_cases e : i = s.length
      · subst e
        rw [List.getElem?_append_right (Nat.le_refl _), if_pos (by omega)]; simp
      · rw [if_neg (by omega)]
        by_cases e' : i < s.length
        · rw [List.getElem?_append_left e']
        · rw [List.getElem?_eq_none_iff.2 (by simp; omega), List.getElem?_eq_none_iff.2 (by omega)]
  · unfold ndAt
    rw [if_neg h0, if_neg h0, if_neg (by omega)]
theorem setH_len (s : Sh) (x : Nd) : (setH s (freeH s) x).length ≤ max s.length (freeH s) := by
  have hp := freeH_pos s
  unfold setH
  split
  · rw [List.length_set]; omega
  · rw [List.length_append]; simp; omega
def resolve (out : List Int) (r : Int) : Int := if r < 0 then out.getD (-1 - r).toNat 0 else r
def asPut (out : List Int) (n : Nd) : Nd := ⟨n.kind, n.refs.map (resolve out), n.nums, n.text⟩
def oneA (room : Nat) (s : Sh) (x : Nd) : Option (Sh × Int) :=
  if fnd s x ≠ 0 then some (s, (fnd s x : Int)) else if room < freeH s then none else some (setH s (freeH s) x, (freeH s : Int))
def putL (room : Nat) : Sh → List Int → List Nd → Option (Sh × List Int)
  | s, out, [] => some (s, out)
  | s, out, n :: l => match oneA room s (asPut out n) with
    | none => none
    | some (s', h) => putL room s' (out ++ [h]) l
def okRef (s : Sh) (i : Nat) (r : Int) : Bool := decide (r = 0) || live s r || (decide (r < 0) && decide (-(i : Int) ≤ r))
def wrongF (s : Sh) : Nat → List Nd → Bool
  | _, [] => false
  | i, n :: l => !(n.refs.all (okRef s i)) || wrongF s (i + 1) l
def putA (room : Nat) (s : Sh) (l : List Nd) : Sh × List Int × Nat :=
  if wrongF s 0 l then (s, [], 1) else match putL room s [] l with
    | none => (s, [], 3)
    | some (s', out) => (s', out, 0)
def liveF : Int → Sh → List Int
  | _, [] => []
  | k, none :: s => liveF (k + 1) s
  | k, some _ :: s => k :: liveF (k + 1) s
def liveA (s : Sh) : List Int := liveF 1 s
inductive Rch (s : Sh) (roots : List Int) : Int → Prop
  | root (r : Int) (h : r ∈ roots) (hl : live s r = true) : Rch s roots r
  | ref (h r : Int) (n : Nd) (hr : Rch s roots h) (hn : ndAt s h = some n) (hm : r ∈ n.refs) (hp : 0 < r) : Rch s roots r
open Classical in
noncomputable def leftF (P : Int → Prop) : Int → Sh → Sh
  | _, [] => []
  | k, o :: s => (if P k then o else none) :: leftF P (k + 1) s
noncomputable def leftA (s : Sh) (roots : List Int) : Sh := leftF (Rch s roots) 1 s
noncomputable def reachA (s : Sh) (roots : List Int) : List Int := liveA (leftA s roots)
noncomputable def sweepA (s : Sh) (roots : List Int) : Sh × Nat × Nat :=
  if roots.all (fun r => decide (r = 0) || live s r) then (leftA s roots, (liveA s).length - (reachA s roots).length, 0) else (s, 0, 4)

/- What is always so. -/
structure Inv (room : Nat) (s : Sh) : Prop where
  one : ∀ h k n, ndAt s h = some n → ndAt s k = some n → h = k
  shut : ∀ h n, ndAt s h = some n → ∀ r ∈ n.refs, r = 0 ∨ live s r = true
  len : s.length ≤ room
theorem inv_nil (room : Nat) : Inv room [] := ⟨fun h k n e _ => by unfold ndAt at e; split at e <;> simp at e, fun h n e => by unfold ndAt at e; split at e <;> simp at e, Nat.zero_le _⟩
def Up (s s' : Sh) : Prop := ∀ h n, ndAt s h = some n → ndAt s' h = some n
theorem Up.refl (s : Sh) : Up s s := fun _ _ h => h
theorem Up.trans {a b c : Sh} (h : Up a b) (k : Up b c) : Up a c := fun x n e => k x n (h x n e)
theorem Up.live {s s' : Sh} (h : Up s s') {x : Int} (e : live s x = true) : live s' x = true := by
  obtain ⟨n, e⟩ := live_iff.1 e
  exact live_iff.2 ⟨n, h x n e⟩
theorem one_up {room : Nat} {s s' : Sh} {x : Nd} {h : Int} (e : oneA room s x = some (s', h)) : Up s s' ∧ ndAt s' h = some x := by
  unfold oneA at e
  split at e
  · rename_i hf
    cases e
    exact ⟨Up.refl _, fnd_pos hf⟩
  · split at e
    · cases e
    · cases e
      refine ⟨fun k n hk => ?_, by rw [setH_at, if_pos rfl]⟩
      rw [setH_at, if_neg]
      · exact hk
      · rintro rfl
        rw [freeH_dead] at hk; cases hk
theorem inv_one {room : Nat} {s s' : Sh} {x : Nd} {h : Int} (hi : Inv room s) (hx : ∀ r ∈ x.refs, r = 0 ∨ live s r = true) (e : oneA room s x = some (s', h)) : Inv room s' := by
  have hu := (one_up e).1
  unfold oneA at e
  split at e
  · cases e; exact hi
  · rename_i hf
    have hf0 : fnd s x = 0 := by omega
    have hno : ∀ k, ndAt s k ≠ some x := fun k hk => by
      obtain ⟨i, _, hi'⟩ := ndAt_some hk
      exact fnd_zero hf0 i hi'
    split at e
    · cases e
    · rename_i hr
      cases e
      refine ⟨fun a b n ha hb => ?_, fun a n ha r hm => ?_, ?_⟩
      · rw [setH_at] at ha hb
        split at ha
        · cases ha
          split at hb
          · omega
          · exact absurd hb (hno b)
        · split at hb
          · cases hb; exact absurd ha (hno a)
          · exact hi.one a b n ha hb
      · rw [setH_at] at ha
        split at ha
        · cases ha
          rcases hx r hm with h | h
          · exact .inl h
          · exact .inr (hu.live h)
        · rcases hi.shut a n ha r hm with h | h
          · exact .inl h
          · exact .inr (hu.live h)
      · have h1 := setH_len s x
        have h2 := hi.len
        omega
theorem putL_up {room : Nat} : ∀ {l : List Nd} {s s' : Sh} {out out' : List Int}, putL room s out l = some (s', out') → Up s s' ∧ (∀ (k : Nat) (h : Int), out[k]? = some h → out'[k]? = some h) ∧ out'.length = out.length + l.length
  | [], s, s', out, out', e => by cases e; exact ⟨Up.refl _, fun _ _ h => h, rfl⟩
  | n :: l, s, s', out, out', e => by
    rw [putL] at e
    cases h1 : oneA room s (asPut out n) with
    | none => rw [h1] at e; cases e
    | some q =>
      obtain ⟨s1, h⟩ := q
      rw [h1] at e
      obtain ⟨u, k, c⟩ := putL_up e
      refine ⟨(one_up h1).1.trans u, fun i y hi => k i y ?_, by rw [c]; simp; omega⟩
      rw [List.getElem?_append_left (List.getElem?_eq_some_iff.1 hi).1]; exact hi
theorem putL_at {room : Nat} : ∀ {l : List Nd} {s s' : Sh} {out out' : List Int}, putL room s out l = some (s', out') → ∀ (i : Nat) (n : Nd), l[i]? = some n → ∃ h x, out'[out.length + i]? = some h ∧ ndAt s' h = some x ∧ x.kind = n.kind ∧ x.text = n.text
  | [], s, s', out, out', e, i, n, hi => by simp at hi
  | m :: l, s, s', out, out', e, i, n, hi => by
    rw [putL] at e
    cases h1 : oneA room s (asPut out m) with
    | none => rw [h1] at e; cases e
    | some q =>
      obtain ⟨s1, h⟩ := q
      rw [h1] at e
      cases i with
      | zero =>
        cases (show some m = some n by simpa using hi)
        obtain ⟨u, k, c⟩ := putL_up e
        exact ⟨h, _, k _ _ (by simp), u _ _ (one_up h1).2, rfl, rfl⟩
      | succ i =>
        have := putL_at e i n (by simpa using hi)
        rw [List.length_append] at this
        simp only [List.length_cons, List.length_nil] at this
        rw [show out.length + (i + 1) = out.length + (0 + 1) + i by omega]
        exact this
theorem okRef_res {s s' : Sh} (hu : Up s s') {out : List Int} (ho : ∀ h ∈ out, live s' h = true) {r : Int} (h : okRef s out.length r = true) : resolve out r = 0 ∨ live s' (resolve out r) = true := by
  unfold okRef at h
  unfold resolve
  simp only [Bool.or_eq_true, decide_eq_true_eq, Bool.and_eq_true] at h
  rcases h with (h | h) | h
  · subst h; exact .inl rfl
  · rw [if_neg (by have := live_bound h; omega)]; exact .inr (hu.live h)
  · rw [if_pos h.1]
    have hl : (-1 - r).toNat < out.length := by omega
    refine .inr (ho _ ?_)
    rw [List.getD_eq_getElem?_getD, List.getElem?_eq_getElem hl]
    exact List.getElem_mem hl
theorem inv_putL {room : Nat} {s0 : Sh} : ∀ {l : List Nd} {s s' : Sh} {out out' : List Int}, Inv room s → Up s0 s → (∀ h ∈ out, live s h = true) → wrongF s0 out.length l = false → putL room s out l = some (s', out') → Inv room s' ∧ ∀ h ∈ out', live s' h = true
  | [], s, s', out, out', hi, hu, ho, hw, e => by cases e; exact ⟨hi, ho⟩
  | n :: l, s, s', out, out', hi, hu, ho, hw, e => by
    rw [putL] at e
    rw [wrongF] at hw
    simp only [Bool.or_eq_false_iff, Bool.not_eq_false', List.all_eq_true] at hw
    cases h1 : oneA room s (asPut out n) with
    | none => rw [h1] at e; cases e
    | some q =>
      obtain ⟨s1, h⟩ := q
      rw [h1] at e
      obtain ⟨u1, a1⟩ := one_up h1
      have hx : ∀ r ∈ (asPut out n).refs, r = 0 ∨ live s r = true := by
        intro r hr
        obtain ⟨r0, hm, rfl⟩ := List.mem_map.1 hr
        exact okRef_res hu ho (hw.1 r0 hm)
      refine inv_putL (out := out ++ [h]) (inv_one hi hx h1) (hu.trans u1) ?_ (by simpa using hw.2) e
      intro k hk
      rcases List.mem_append.1 hk with hk | hk
      · exact u1.live (ho k hk)
      · rw [List.mem_singleton.1 hk]; exact live_iff.2 ⟨_, a1⟩
theorem inv_put {room : Nat} {s : Sh} (hi : Inv room s) (l : List Nd) : Inv room (putA room s l).1 ∧ Up s (putA room s l).1 := by
  unfold putA
  split
  · exact ⟨hi, Up.refl _⟩
  · rename_i hw
    split
    · exact ⟨hi, Up.refl _⟩
    · rename_i s' out e
      exact ⟨(inv_putL (s0 := s) (out := []) hi (Up.refl _) (fun _ h => by cases h) (by simpa using hw) e).1, (putL_up e).1⟩
theorem put_ok {room : Nat} {s : Sh} {l : List Nd} (h : (putA room s l).2.2 = 0) : (putA room s l).2.1.length = l.length ∧ ∀ (i : Nat) (n : Nd), l[i]? = some n → ∃ h x, (putA room s l).2.1[i]? = some h ∧ ndAt (putA room s l).1 h = some x ∧ x.kind = n.kind ∧ x.text = n.text := by
  unfold putA at h ⊢
  split at h
  · cases h
  · rename_i hw
    rw [if_neg hw]
    split at h
    · cases h
    · rename_i s' out e
      refine ⟨by simpa using (putL_up e).2.2, fun i n hi => ?_⟩
      have := putL_at e i n hi
      simpa using this
theorem put_no {room : Nat} {s : Sh} {l : List Nd} (h : (putA room s l).2.2 ≠ 0) : (putA room s l).2.1 = [] ∧ (putA room s l).1 = s := by
  unfold putA at h ⊢
  split
  · exact ⟨rfl, rfl⟩
  · rename_i hw
    rw [if_neg hw] at h
    split
    · exact ⟨rfl, rfl⟩
    · rename_i s' out e
      rw [e] at h
      exact absurd rfl h

/- A sweep. -/
theorem leftF_at (P : Int → Prop) : ∀ (s : Sh) (k : Int) (i : Nat), (leftF P k s)[i]? = (s[i]?).map (fun o => open Classical in if P (k + i) then o else none)
  | [], k, i => by rw [leftF]; simp
  | o :: s, k, 0 => by
    rw [leftF]
    have e : k + ((0 : Nat) : Int) = k := by omega
    simp only [List.getElem?_cons_zero, Option.map_some]
    rw [e]
  | o :: s, k, i + 1 => by
    rw [leftF]
    simp only [List.getElem?_cons_succ]
    rw [leftF_at P s (k + 1) i, show k + 1 + (i : Int) = k + ((i + 1 : Nat) : Int) by omega]
theorem leftF_len (P : Int → Prop) : ∀ (s : Sh) (k : Int), (leftF P k s).length = s.length
  | [], _ => rfl
  | _ :: s, k => by rw [leftF, List.length_cons, leftF_len P s, List.length_cons]
theorem rch_live {room : Nat} {s : Sh} (hi : Inv room s) {roots : List Int} {h : Int} (e : Rch s roots h) : live s h = true := by
  induction e with
  | root r _ hl => exact hl
  | ref h r n _ hn hm hp _ =>
    rcases hi.shut h n hn r hm with e | e
    · omega
    · exact e
theorem left_at (s : Sh) (roots : List Int) (h : Int) : ndAt (leftA s roots) h = (open Classical in if Rch s roots h then ndAt s h else none) := by
  by_cases h0 : 0 < h
  · obtain ⟨i, rfl⟩ : ∃ i : Nat, h = (i : Int) + 1 := ⟨(h - 1).toNat, by omega⟩
    rw [ndAt_succ, ndAt_succ]
    unfold leftA
    rw [leftF_at, show (1 : Int) + (i : Int) = (i : Int) + 1 by omega]
    cases s[i]? with
    | none => simp
    | some o => simp
  · unfold ndAt
    rw [if_neg h0, if_neg h0]; simp
theorem left_live {room : Nat} {s : Sh} (hi : Inv room s) (roots : List Int) (h : Int) : live (leftA s roots) h = true ↔ Rch s roots h := by
  unfold live
  rw [left_at]
  by_cases e : Rch s roots h
  · rw [if_pos e]; exact ⟨fun _ => e, fun _ => rch_live hi e⟩
  · rw [if_neg e]; exact ⟨fun h => (Bool.false_ne_true h).elim, fun h => absurd h e⟩
theorem inv_left {room : Nat} {s : Sh} (hi : Inv room s) (roots : List Int) : Inv room (leftA s roots) := by
  refine ⟨fun h k n ha hb => ?_, fun h n ha r hm => ?_, by unfold leftA; rw [leftF_len]; exact hi.len⟩
  · rw [left_at] at ha hb
    split at ha
    · split at hb
      · exact hi.one h k n ha hb
      · cases hb
    · cases ha
  · rw [left_at] at ha
    split at ha
    · rename_i hr
      rcases hi.shut h n ha r hm with e | e
      · exact .inl e
      · exact .inr ((left_live hi roots r).2 (.ref h r n hr ha hm (live_bound e).1))
    · cases ha
theorem inv_sweep {room : Nat} {s : Sh} (hi : Inv room s) (roots : List Int) : Inv room (sweepA s roots).1 := by
  unfold sweepA
  split
  · exact inv_left hi roots
  · exact hi
theorem rch_left {room : Nat} {s : Sh} (hi : Inv room s) (roots : List Int) (h : Int) : Rch (leftA s roots) roots h ↔ Rch s roots h := by
  constructor
  · intro e
    induction e with
    | root r hm hl => exact (left_live hi roots r).1 hl
    | ref h r n _ hn hm hp ih =>
      rw [left_at, if_pos ih] at hn
      exact .ref h r n ih hn hm hp
  · intro e
    induction e with
    | root r hm hl => exact .root r hm ((left_live hi roots r).2 (.root r hm hl))
    | ref h r n hr hn hm hp ih =>
      refine .ref h r n ih ?_ hm hp
      rw [left_at, if_pos hr]; exact hn
theorem sh_ext {s t : Sh} (hl : s.length = t.length) (h : ∀ x, ndAt s x = ndAt t x) : s = t := by
  apply List.ext_getElem? 
  intro i
  by_cases hi : i < s.length
  · have h1 := h ((i : Int) + 1)
    rw [ndAt_succ, ndAt_succ, List.getElem?_eq_getElem hi, List.getElem?_eq_getElem (hl ▸ hi)] at h1
    rw [List.getElem?_eq_getElem hi, List.getElem?_eq_getElem (hl ▸ hi)]
    exact congrArg some h1
  · rw [List.getElem?_eq_none_iff.2 (by omega), List.getElem?_eq_none_iff.2 (by omega)]
theorem left_left {room : Nat} {s : Sh} (hi : Inv room s) (roots : List Int) : leftA (leftA s roots) roots = leftA s roots := by
  refine sh_ext (by unfold leftA; rw [leftF_len]) fun x => ?_
  rw [left_at, left_at]
  by_cases e : Rch s roots x
  · rw [if_pos ((rch_left hi roots x).2 e), if_pos e]
  · rw [if_neg (fun h => e ((rch_left hi roots x).1 h)), if_neg e]
theorem liveF_mem : ∀ (s : Sh) (k h : Int), h ∈ liveF k s ↔ ∃ (i : Nat) (n : Nd), h = k + i ∧ s[i]? = some (some n)
  | [], k, h => by rw [liveF]; simp
  | o :: s, k, h => by
    have ih := liveF_mem s (k + 1) h
    have key : (∃ (i : Nat) (n : Nd), h = k + i ∧ (o :: s)[i]? = some (some n)) ↔ (h = k ∧ ∃ n, o = some n) ∨ ∃ (i : Nat) (n : Nd), h = k + 1 + i ∧ s[i]? = some (some n) := by
      constructor
      · rintro ⟨i, n, e, hi⟩
        cases i with
        | zero => exact .inl ⟨by omega, n, by simpa using hi⟩
        | succ i => exact .inr ⟨i, n, by omega, by simpa using hi⟩
      · rintro (⟨rfl, n, rfl⟩ | ⟨i, n, e, hi⟩)
        · exact ⟨0, n, by simp, by simp⟩
        · exact ⟨i + 1, n, by omega, by simpa using hi⟩
    rw [key]
    cases o with
    | none => rw [liveF, ih]; simp
    | some n => rw [liveF, List.mem_cons, ih]; simp
theorem liveA_mem {s : Sh} {h : Int} : h ∈ liveA s ↔ live s h = true := by
  unfold liveA
  rw [liveF_mem, live_iff]
  constructor
  · rintro ⟨i, n, rfl, hi⟩
    exact ⟨n, by rw [show (1 : Int) + (i : Int) = (i : Int) + 1 by omega, ndAt_succ, hi]; rfl⟩
  · rintro ⟨n, hn⟩
    obtain ⟨i, rfl, hi⟩ := ndAt_some hn
    exact ⟨i, n, by omega, hi⟩
theorem liveF_len : ∀ (s : Sh) (k : Int), (liveF k s).length ≤ s.length
  | [], _ => by rw [liveF]; exact Nat.le_refl _
  | none :: s, k => by rw [liveF]; have := liveF_len s (k + 1); simp; omega
  | some _ :: s, k => by rw [liveF]; have := liveF_len s (k + 1); simp; omega
theorem leftF_live (P : Int → Prop) : ∀ (s : Sh) (k : Int), (liveF k (leftF P k s)).length ≤ (liveF k s).length
  | [], _ => by rw [leftF]; exact Nat.le_refl _
  | none :: s, k => by
    rw [leftF]
    have := leftF_live P s (k + 1)
    split <;> simpa [liveF] using this
  | some n :: s, k => by
    rw [leftF]
    have := leftF_live P s (k + 1)
    split
    · simpa [liveF] using this
    · rw [liveF, liveF, List.length_cons]; omega
theorem left_len (s : Sh) (roots : List Int) : (reachA s roots).length ≤ (liveA s).length := leftF_live _ _ _
end Go.Proofs.YtbjbbpbagnlkmaaDoor
namespace Go.Proofs.YtbjbbpbagnlkmaaDoor
def pick (n : Nd) (b : Bool) : Option Nd := if b then some n else none
def stOf (nds : List Nd) (bs : List Bool) : Sh := (List.zipWith pick nds bs).drop 1
theorem st_at {nds : List Nd} {bs : List Bool} (i : Nat) {n : Nd} {b : Bool} (hn : nds[i + 1]? = some n) (hb : bs[i + 1]? = some b) : (stOf nds bs)[i]? = some (pick n b) := by
  unfold stOf
  rw [List.getElem?_drop, Nat.add_comm 1 i, List.getElem?_zipWith, hn, hb]
theorem st_len {nds : List Nd} {bs : List Bool} (hl : nds.length = bs.length) : (stOf nds bs).length = bs.length - 1 := by
  unfold stOf
  rw [List.length_drop, List.length_zipWith, hl, Nat.min_self]
def tru : Int → List Bool → List Int
  | _, [] => []
  | k, true :: l => k :: tru (k + 1) l
  | k, false :: l => tru (k + 1) l
theorem liveF_tru : ∀ (s : Sh) (k : Int), liveF k s = tru k (s.map Option.isSome)
  | [], _ => rfl
  | none :: s, k => by rw [liveF, liveF_tru s]; rfl
  | some _ :: s, k => by rw [liveF, liveF_tru s]; rfl
theorem st_ndAt {nds : List Nd} {bs : List Bool} (hl : nds.length = bs.length) (h : Nat) (h1 : 1 ≤ h) : ndAt (stOf nds bs) (h : Int) = if bs[h]? = some true then nds[h]? else none := by
  obtain ⟨i, rfl⟩ : ∃ i, h = i + 1 := ⟨h - 1, by omega⟩
  rw [show ((i + 1 : Nat) : Int) = (i : Int) + 1 by omega, ndAt_succ]
  by_cases hi : i + 1 < bs.length
  · have e1 := List.getElem?_eq_getElem (l := bs) hi
    have e2 := List.getElem?_eq_getElem (l := nds) (i := i + 1) (by omega)
    rw [st_at i e2 e1, e1, e2]
    cases bs[i + 1] <;> rfl
  · rw [List.getElem?_eq_none_iff.2 (by rw [st_len hl]; omega), if_neg (by rw [List.getElem?_eq_none_iff.2 (by omega)]; simp)]; rfl
theorem st_live {nds : List Nd} {bs : List Bool} (hl : nds.length = bs.length) (h : Nat) (h1 : 1 ≤ h) : live (stOf nds bs) (h : Int) = true ↔ bs[h]? = some true := by
  unfold live
  rw [st_ndAt hl h h1]
  by_cases e : bs[h]? = some true
  · rw [if_pos e]
    have := (List.getElem?_eq_some_iff.1 e).1
    rw [List.getElem?_eq_getElem (by omega)]
    exact ⟨fun _ => e, fun _ => rfl⟩
  · rw [if_neg e]; exact ⟨fun h => (Bool.false_ne_true h).elim, fun h => absurd h e⟩
theorem st_live' {nds : List Nd} {bs : List Bool} (hl : nds.length = bs.length) (r : Int) : live (stOf nds bs) r = (decide (1 ≤ r) && (decide (r < bs.length) && (bs[r.toNat]?).getD false)) := by
  by_cases h1 : 1 ≤ r
  · obtain ⟨h, rfl⟩ : ∃ h : Nat, r = (h : Int) := ⟨r.toNat, by omega⟩
    rw [Bool.eq_iff_iff, st_live hl h (by omega)]
    by_cases h2 : h < bs.length
    · rw [List.getElem?_eq_getElem h2]; simp [h1, h2]
    · rw [List.getElem?_eq_none_iff.2 (by omega)]; simp [h2]
  · rw [Bool.eq_false_iff.2 fun h => h1 (live_bound h).1, decide_eq_false h1]; rfl
theorem okRef_not (s : Sh) (i : Nat) (r : Int) : okRef s i r = !((decide (0 < r) && !live s r) || decide (r < -(i : Int))) := by
  unfold okRef
  by_cases h0 : 0 < r
  · have e1 : decide (r = 0) = false := decide_eq_false (by omega)
    have e2 : decide (r < 0) = false := decide_eq_false (by omega)
    have e3 : decide (r < -(i : Int)) = false := decide_eq_false (by omega)
    have e4 : decide (0 < r) = true := decide_eq_true h0
    rw [e1, e2, e3, e4]
    cases live s r <;> rfl
  · have e4 : decide (0 < r) = false := decide_eq_false h0
    have hl : live s r = false := Bool.eq_false_iff.2 fun h => by have := (live_bound h).1; omega
    rw [hl, e4]
    by_cases hz : r = 0
    · subst hz
      have e3 : decide ((0 : Int) < -(i : Int)) = false := decide_eq_false (by omega)
      rw [e3]; rfl
    · have e1 : decide (r = 0) = false := decide_eq_false hz
      have e2 : decide (r < 0) = true := decide_eq_true (by omega)
      rw [e1, e2]
      by_cases h3 : r < -(i : Int)
      · rw [decide_eq_true h3, decide_eq_false (show ¬ (-(i : Int) ≤ r) by omega)]; rfl
      · rw [decide_eq_false h3, decide_eq_true (show -(i : Int) ≤ r by omega)]; rfl
end Go.Proofs.YtbjbbpbagnlkmaaDoor
namespace Go.Proofs.YtbjbbpbagnlkmaaDoor
def Eqv (s t : Sh) : Prop := ∀ h, ndAt s h = ndAt t h
theorem Eqv.refl (s : Sh) : Eqv s s := fun _ => rfl
theorem Eqv.symm {s t : Sh} (h : Eqv s t) : Eqv t s := fun x => (h x).symm
theorem Eqv.trans {s t u : Sh} (h : Eqv s t) (k : Eqv t u) : Eqv s u := fun x => (h x).trans (k x)
theorem Eqv.liveE {s t : Sh} (h : Eqv s t) (x : Int) : live s x = live t x := by
  show (ndAt s x).isSome = (ndAt t x).isSome
  rw [h x]
theorem at_some {s : Sh} {i : Nat} {n : Nd} : s[i]? = some (some n) ↔ ndAt s ((i : Int) + 1) = some n := by
  rw [ndAt_succ]
  cases s[i]? with
  | none => simp
  | some o => simp
theorem Eqv.fndE {s t : Sh} (h : Eqv s t) (x : Nd) : fnd s x = fnd t x := by
  by_cases e : fnd s x = 0
  · rw [e]
    exact (fnd_none fun j hj => fnd_zero e j (at_some.2 ((h _).trans (at_some.1 hj)))).symm
  · unfold fnd at e
    cases q : s.findIdx? (fun o => o == some x) with
    | none => rw [q] at e; exact absurd rfl e
    | some i =>
      rw [List.findIdx?_eq_some_iff_getElem] at q
      obtain ⟨hl, hx, hj⟩ := q
      have h1 : s[i]? = some (some x) := by rw [List.getElem?_eq_getElem hl]; simpa using hx
      have h2 : ∀ j : Nat, j < i → s[j]? ≠ some (some x) := fun j hji hq => by
        have := hj j hji
        obtain ⟨hjl, hjv⟩ := List.getElem?_eq_some_iff.1 hq
        rw [hjv] at this
        simp at this
      rw [fnd_at h1 h2]
      exact (fnd_at (at_some.2 ((h _).symm.trans (at_some.1 h1))) fun j hji hq => h2 j hji (at_some.2 ((h _).trans (at_some.1 hq)))).symm
theorem freeH_least {s : Sh} {h : Nat} (h1 : 1 ≤ h) (hd : live s (h : Int) = false) (hb : ∀ k : Nat, 1 ≤ k → k < h → live s (k : Int) = true) : freeH s = h := by
  have hp := freeH_pos s
  have hf : live s (freeH s : Int) = false := by unfold live; rw [freeH_dead]; rfl
  rcases Nat.lt_trichotomy (freeH s) h with e | e | e
  · rw [hb _ hp.1 e] at hf; cases hf
  · exact e
  · exfalso
    obtain ⟨j, rfl⟩ : ∃ j, h = j + 1 := ⟨h - 1, by omega⟩
    have hjl : j < s.length := by omega
    have hn : s[j]? = some none := by
      rw [show ((j + 1 : Nat) : Int) = (j : Int) + 1 by omega] at hd
      unfold live at hd
      rw [ndAt_succ, List.getElem?_eq_getElem hjl] at hd
      rw [List.getElem?_eq_getElem hjl]
      cases q : s[j] with
      | none => rfl
      | some n => rw [q] at hd; cases hd
    rcases freeH_cases s with ⟨i, hi, e'⟩ | ⟨_, hn'⟩
    · have hk := hb
      unfold freeH at e e'
      cases q : s.findIdx? (fun o => o.isNone) with
      | none => rw [List.findIdx?_eq_none_iff] at q; have := q _ (List.mem_of_getElem? hn); simp at this
      | some i' =>
        rw [q] at e
        rw [List.findIdx?_eq_some_iff_getElem] at q
        have := q.2.2 j (by simp at e; omega)
        obtain ⟨hjl', hjv⟩ := List.getElem?_eq_some_iff.1 hn
        rw [hjv] at this
        simp at this
    · exact hn' j hn
theorem freeH_below {s : Sh} {k : Nat} (h1 : 1 ≤ k) (hk : k < freeH s) : live s (k : Int) = true := by
  obtain ⟨j, rfl⟩ : ∃ j, k = j + 1 := ⟨k - 1, by omega⟩
  cases e : live s ((j + 1 : Nat) : Int) with
  | true => rfl
  | false =>
    exfalso
    have hp := freeH_pos s
    have hjl : j < s.length := by omega
    have hn : s[j]? = some none := by
      rw [show ((j + 1 : Nat) : Int) = (j : Int) + 1 by omega] at e
      unfold live at e
      rw [ndAt_succ, List.getElem?_eq_getElem hjl] at e
      rw [List.getElem?_eq_getElem hjl]
      cases q : s[j] with
      | none => rfl
      | some n => rw [q] at e; cases e
    unfold freeH at hk
    cases q : s.findIdx? (fun o => o.isNone) with
    | none => rw [List.findIdx?_eq_none_iff] at q; have := q _ (List.mem_of_getElem? hn); simp at this
    | some i' =>
      rw [q] at hk
      rw [List.findIdx?_eq_some_iff_getElem] at q
      have := q.2.2 j (by simp at hk; omega)
      obtain ⟨hjl', hjv⟩ := List.getElem?_eq_some_iff.1 hn
      rw [hjv] at this
      simp at this
theorem Eqv.free {s t : Sh} (h : Eqv s t) : freeH s = freeH t :=
  freeH_least (freeH_pos t).1 (by rw [h.liveE]; unfold live; rw [freeH_dead]; rfl) fun k h1 hk => by rw [h.liveE]; exact freeH_below h1 hk
theorem Eqv.setHE {s t : Sh} (h : Eqv s t) (x : Nd) : Eqv (setH s (freeH s) x) (setH t (freeH t) x) := fun k => by
  rw [setH_at, setH_at, h.free, h k]
theorem Eqv.one {room : Nat} {s t : Sh} (h : Eqv s t) (x : Nd) : (oneA room s x = none ∧ oneA room t x = none) ∨ ∃ s' t' k, oneA room s x = some (s', k) ∧ oneA room t x = some (t', k) ∧ Eqv s' t' := by
  unfold oneA
  rw [h.fndE, h.free]
  by_cases e : fnd t x ≠ 0
  · rw [if_pos e, if_pos e]; exact .inr ⟨_, _, _, rfl, rfl, h⟩
  · rw [if_neg e, if_neg e]
    by_cases e' : room < freeH t
    · rw [if_pos e', if_pos e']; exact .inl ⟨rfl, rfl⟩
    · rw [if_neg e', if_neg e']
      have := h.setHE x
      rw [h.free] at this
      exact .inr ⟨_, _, _, rfl, rfl, this⟩
theorem Eqv.putLE {room : Nat} : ∀ {l : List Nd} {s t : Sh} {out : List Int}, Eqv s t → (putL room s out l = none ∧ putL room t out l = none) ∨ ∃ s' t' o, putL room s out l = some (s', o) ∧ putL room t out l = some (t', o) ∧ Eqv s' t'
  | [], s, t, out, h => .inr ⟨s, t, out, rfl, rfl, h⟩
  | n :: l, s, t, out, h => by
    rw [putL, putL]
    rcases h.one (room := room) (asPut out n) with ⟨e1, e2⟩ | ⟨s', t', k, e1, e2, h'⟩
    · rw [e1, e2]; exact .inl ⟨rfl, rfl⟩
    · rw [e1, e2]; exact Eqv.putLE h'
theorem Eqv.wrong {s t : Sh} (h : Eqv s t) : ∀ (l : List Nd) (i : Nat), wrongF s i l = wrongF t i l
  | [], _ => rfl
  | n :: l, i => by
    rw [wrongF, wrongF, h.wrong l (i + 1)]
    congr 2
    have : okRef s i = okRef t i := funext fun r => by unfold okRef; rw [h.liveE]
    rw [this]
theorem Eqv.put {room : Nat} {s t : Sh} (h : Eqv s t) (l : List Nd) : Eqv (putA room s l).1 (putA room t l).1 ∧ (putA room s l).2 = (putA room t l).2 := by
  unfold putA
  rw [h.wrong]
  split
  · exact ⟨h, rfl⟩
  · rcases h.putLE (room := room) (l := l) (out := []) with ⟨e1, e2⟩ | ⟨s', t', o, e1, e2, h'⟩
    · rw [e1, e2]; exact ⟨h, rfl⟩
    · rw [e1, e2]; exact ⟨h', rfl⟩
theorem tru_pad : ∀ (l : List Bool) (k : Int) (m : Nat), tru k (l ++ List.replicate m false) = tru k l
  | [], k, 0 => rfl
  | [], k, m + 1 => by rw [List.nil_append, List.replicate_succ, tru]; exact tru_pad [] (k + 1) m
  | true :: l, k, m => by rw [List.cons_append, tru, tru, tru_pad l]
  | false :: l, k, m => by rw [List.cons_append, tru, tru, tru_pad l]
theorem liveA_range (s : Sh) (n : Nat) (hn : s.length ≤ n) : liveA s = tru 1 ((List.range n).map fun i : Nat => live s ((i : Int) + 1)) := by
  unfold liveA
  rw [liveF_tru, ← tru_pad (s.map Option.isSome) 1 (n - s.length)]
  congr 1
  apply List.ext_getElem?
  intro i
  by_cases hi : i < n
  · rw [List.getElem?_map, List.getElem?_range hi]
    show _ = some (live s ((i : Int) + 1))
    unfold live
    rw [ndAt_succ]
    by_cases hs : i < s.length
    · rw [List.getElem?_append_left (by simpa using hs), List.getElem?_map, List.getElem?_eq_getElem hs]; rfl
    · rw [List.getElem?_append_right (by simpa using hs), List.getElem?_replicate, if_pos (by simp; omega), List.getElem?_eq_none_iff.2 (by omega)]; rfl
  · rw [List.getElem?_eq_none_iff.2 (by simp; omega), List.getElem?_eq_none_iff.2 (by simp; omega)]
theorem Eqv.liveAE {s t : Sh} (h : Eqv s t) : liveA s = liveA t := by
  rw [liveA_range s (max s.length t.length) (by omega), liveA_range t (max s.length t.length) (by omega)]
  congr 2
  exact funext fun i => h.liveE _
theorem Eqv.rch {s t : Sh} (h : Eqv s t) {roots : List Int} {x : Int} (e : Rch s roots x) : Rch t roots x := by
  induction e with
  | root r hm hl => exact .root r hm (by rw [← h.liveE]; exact hl)
  | ref k r n _ hn hm hp ih => exact .ref k r n ih (by rw [← h k]; exact hn) hm hp
theorem Eqv.left {s t : Sh} (h : Eqv s t) (roots : List Int) : Eqv (leftA s roots) (leftA t roots) := fun x => by
  rw [left_at, left_at]
  by_cases e : Rch s roots x
  · rw [if_pos e, if_pos (h.rch e), h x]
  · rw [if_neg e, if_neg fun e' => e (h.symm.rch e')]
theorem Eqv.reach {s t : Sh} (h : Eqv s t) (roots : List Int) : reachA s roots = reachA t roots := (h.left roots).liveAE
theorem Eqv.sweep {s t : Sh} (h : Eqv s t) (roots : List Int) : Eqv (sweepA s roots).1 (sweepA t roots).1 ∧ (sweepA s roots).2 = (sweepA t roots).2 := by
  unfold sweepA
  have e : (fun r => decide (r = 0) || live s r) = (fun r => decide (r = 0) || live t r) := funext fun r => by rw [h.liveE]
  rw [e, h.liveAE, h.reach]
  split
  · exact ⟨h.left roots, rfl⟩
  · exact ⟨h, rfl⟩
end Go.Proofs.YtbjbbpbagnlkmaaDoor
namespace Go.Proofs.YtbjbbpbagnlkmaaDoor
open Go.Lib
theorem dec_val (u : Nat) : (decDigits u).foldl (fun a d => a * 10 + (d.toNat - 48)) 0 = u := by
  induction u using Nat.strongRecOn with
  | _ u ih =>
    by_cases h : u < 10
    · rw [decDigits, dif_pos h]
      show 0 * 10 + ((UInt8.ofNat (48 + u)).toNat - 48) = u
      rw [UInt8.toNat_ofNat']
      omega
    · rw [decDigits, dif_neg h, List.foldl_append, ih (u / 10) (by omega)]
      show u / 10 * 10 + ((UInt8.ofNat (48 + u % 10)).toNat - 48) = u
      rw [UInt8.toNat_ofNat']
      omega
theorem dec_mem (u : Nat) : ∀ d ∈ decDigits u, 48 ≤ d.toNat ∧ d.toNat ≤ 57 := by
  induction u using Nat.strongRecOn with
  | _ u ih =>
    by_cases h : u < 10
    · rw [decDigits, dif_pos h]
      intro d hd
      obtain rfl := List.mem_singleton.1 hd
      rw [UInt8.toNat_ofNat']
      omega
    · rw [decDigits, dif_neg h]
      intro d hd
      rcases List.mem_append.1 hd with hd | hd
      · exact ih (u / 10) (by omega) d hd
      · obtain rfl := List.mem_singleton.1 hd
        rw [UInt8.toNat_ofNat']
        omega
theorem dec_inj {u v : Nat} (h : decDigits u = decDigits v) : u = v := by rw [← dec_val u, h, dec_val]
theorem dec_head {u : Nat} {t : List UInt8} (h : decDigits u = 45 :: t) : False := by
  have := dec_mem u 45 (by rw [h]; exact List.mem_cons_self)
  have e : (45 : UInt8).toNat = 45 := rfl
  omega
theorem itoa_inj {a b : Int} (h : itoa a = itoa b) : a = b := by
  unfold itoa at h
  split at h <;> split at h
  · have := dec_inj (List.cons.inj h).2; omega
  · exact (dec_head h.symm).elim
  · exact (dec_head h).elim
  · have := dec_inj h; omega
theorem itoa_no (a : Int) : ∀ d ∈ itoa a, d ≠ 32 := by
  intro d hd e
  subst e
  have e : (32 : UInt8).toNat = 32 := rfl
  unfold itoa at hd
  split at hd
  · rcases List.mem_cons.1 hd with h | h
    · exact absurd h (by decide)
    · have := dec_mem _ _ h; omega
  · have := dec_mem _ _ hd; omega
def rowT (l : List Int) : List UInt8 := l.flatMap fun x => itoa x ++ [32]
theorem rowT_cons (x : Int) (l : List Int) : rowT (x :: l) = itoa x ++ 32 :: rowT l := by
  unfold rowT; rw [List.flatMap_cons, List.append_assoc]; rfl
theorem rowT_snoc (l : List Int) (x : Int) : rowT (l ++ [x]) = rowT l ++ (itoa x ++ [32]) := by
  unfold rowT; rw [List.flatMap_append, List.flatMap_singleton]
theorem sep_inj : ∀ {p q X Y : List UInt8}, (∀ d ∈ p, d ≠ 32) → (∀ d ∈ q, d ≠ 32) → p ++ 32 :: X = q ++ 32 :: Y → p = q ∧ X = Y
  | [], [], _, _, _, _, h => ⟨rfl, (List.cons.inj h).2⟩
  | [], b :: q, _, _, _, hq, h => absurd (List.cons.inj h).1.symm (hq b List.mem_cons_self)
  | a :: p, [], _, _, hp, _, h => absurd (List.cons.inj h).1 (hp a List.mem_cons_self)
  | a :: p, b :: q, X, Y, hp, hq, h => by
    obtain ⟨e, h'⟩ := List.cons.inj h
    obtain ⟨e1, e2⟩ := sep_inj (fun d hd => hp d (List.mem_cons_of_mem _ hd)) (fun d hd => hq d (List.mem_cons_of_mem _ hd)) h'
    exact ⟨by rw [e, e1], e2⟩
theorem rowT_inj : ∀ {l k : List Int}, rowT l = rowT k → l = k
  | [], [], _ => rfl
  | [], b :: k, h => by rw [rowT_cons] at h; exact absurd (congrArg List.length h) (by simp [rowT])
  | a :: l, [], h => by rw [rowT_cons] at h; exact absurd (congrArg List.length h) (by simp [rowT])
  | a :: l, b :: k, h => by
    rw [rowT_cons, rowT_cons] at h
    obtain ⟨e1, e2⟩ := sep_inj (itoa_no a) (itoa_no b) h
    rw [itoa_inj e1, rowT_inj e2]
theorem rowT_len : ∀ (l : List Int), (∀ x ∈ l, -9223372036854775808 ≤ x ∧ x ≤ 9223372036854775807) → (rowT l).length ≤ 22 * l.length
  | [], _ => by simp [rowT]
  | a :: l, h => by
    have h1 := itoa_length_le a (h a List.mem_cons_self).1 (h a List.mem_cons_self).2
    have h2 := rowT_len l fun x hx => h x (List.mem_cons_of_mem _ hx)
    rw [rowT_cons, List.length_append, List.length_cons, List.length_cons]
    omega
end Go.Proofs.YtbjbbpbagnlkmaaDoor
namespace Go.Proofs.YtbjbbpbagnlkmaaDoor
open Go.RowKit
structure Kept (w w' : World) (P : Nat → Prop) : Prop where
  size : w.heap.size ≤ w'.heap.size
  block : ∀ g, P g → g < w.heap.size → w'.heap[g]? = w.heap[g]?
theorem Kept.of_below {w w' : World} {P : Nat → Prop} (h : Below w.heap.size w w') : Kept w w' P := ⟨h.size, fun g _ hg => h.block g hg⟩
theorem Kept.trans {w w' w'' : World} {P : Nat → Prop} (h : Kept w w' P) (h' : Kept w' w'' P) : Kept w w'' P :=
  ⟨Nat.le_trans h.size h'.size, fun g hp hg => (h'.block g hp (Nat.lt_of_lt_of_le hg h.size)).trans (h.block g hp hg)⟩
theorem Kept.refl (w : World) (P : Nat → Prop) : Kept w w P := ⟨Nat.le_refl _, fun _ _ _ => rfl⟩
theorem Kept.cell {w w' : World} {P : Nat → Prop} (h : Kept w w' P) {g o : Nat} (hp : P g) {v : Value} (hv : w.cell? ⟨g, o, none⟩ = some v) : w'.cell? ⟨g, o, none⟩ = some v := by
  have hl : g < w.heap.size := Lib.lt_of_cell hv
  have hb := h.block g hp hl
  rw [← hv]
  unfold World.cell?
  simp only [hb]
end Go.Proofs.YtbjbbpbagnlkmaaDoor
namespace Go.Proofs.YtbjbbpbagnlkmaaDoor
open Go.RowKit
def RowI (w : World) (P : Nat → Prop) (A : Option Addr) (l : List Int) : Prop := l = [] ∨ ∃ g o, A = some ⟨g, o, none⟩ ∧ P g ∧ g < w.heap.size ∧ ∀ (i : Nat) (x : Int), l[i]? = some x → w.cell? ⟨g, o + i, none⟩ = some (.int .i64 x)
theorem RowI.kept {w w' : World} {P : Nat → Prop} {A : Option Addr} {l : List Int} (h : RowI w P A l) (hk : Kept w w' P) : RowI w' P A l := by
  rcases h with h | ⟨g, o, rfl, hp, hl, hc⟩
  · exact .inl h
  · exact .inr ⟨g, o, rfl, hp, Nat.lt_of_lt_of_le hl hk.size, fun i x hi => hk.cell hp (hc i x hi)⟩
theorem RowI.mono {w : World} {P Q : Nat → Prop} {A : Option Addr} {l : List Int} (h : RowI w P A l) (hpq : ∀ g, P g → g < w.heap.size → Q g) : RowI w Q A l := by
  rcases h with h | ⟨g, o, rfl, hp, hl, hc⟩
  · exact .inl h
  · exact .inr ⟨g, o, rfl, hpq g hp hl, hl, hc⟩
theorem RowI.below {w w' : World} {P : Nat → Prop} {A : Option Addr} {l : List Int} (h : RowI w P A l) (hb : Below w.heap.size w w') : RowI w' P A l := h.kept (Kept.of_below hb)
def B64s (l : List Int) : Prop := ∀ x ∈ l, -9223372036854775808 ≤ x ∧ x ≤ 9223372036854775807
def inW (x : Int) : List Value := [.int .i64 x]
def ndV (n : Nd) (A : Option Addr) (ca : Nat) (B : Option Addr) (cb : Nat) : Value := .agg #[.int .i64 n.kind, .slice A n.refs.length ca, .slice B n.nums.length cb, .string ⟨n.text.toArray⟩]
def At4 (w : World) (g o : Nat) (n : Nd) (A : Option Addr) (ca : Nat) (B : Option Addr) (cb : Nat) : Prop :=
  w.cell? ⟨g, o, none⟩ = some (.int .i64 n.kind) ∧ w.cell? ⟨g, o + 1, none⟩ = some (.slice A n.refs.length ca) ∧ w.cell? ⟨g, o + 2, none⟩ = some (.slice B n.nums.length cb) ∧ w.cell? ⟨g, o + 3, none⟩ = some (.string ⟨n.text.toArray⟩)
theorem At4.kept {w w' : World} {P : Nat → Prop} {g o : Nat} {n : Nd} {A B : Option Addr} {ca cb : Nat} (h : At4 w g o n A ca B cb) (hk : Kept w w' P) (hp : P g) : At4 w' g o n A ca B cb :=
  ⟨hk.cell hp h.1, hk.cell hp h.2.1, hk.cell hp h.2.2.1, hk.cell hp h.2.2.2⟩
structure NdM where
  n : Nd
  A : Option Addr
  ca : Nat
  B : Option Addr
  cb : Nat
deriving Inhabited
def ndW (q : NdM) : List Value := [.int .i64 q.n.kind, .slice q.A q.n.refs.length q.ca, .slice q.B q.n.nums.length q.cb, .string ⟨q.n.text.toArray⟩]
def RowN (w : World) (P : Nat → Prop) (A : Option Addr) (l : List Nd) : Prop := l = [] ∨ ∃ g o, A = some ⟨g, o, none⟩ ∧ P g ∧ g < w.heap.size ∧
  ∀ (i : Nat) (n : Nd), l[i]? = some n → ∃ B cb C cc, At4 w g (o + i * 4) n B cb C cc ∧ RowI w P B n.refs ∧ RowI w P C n.nums
theorem RowN.kept {w w' : World} {P : Nat → Prop} {A : Option Addr} {l : List Nd} (h : RowN w P A l) (hk : Kept w w' P) : RowN w' P A l := by
  rcases h with h | ⟨g, o, rfl, hp, hl, hc⟩
  · exact .inl h
  · refine .inr ⟨g, o, rfl, hp, Nat.lt_of_lt_of_le hl hk.size, fun i n hi => ?_⟩
    obtain ⟨B, cb, C, cc, h4, hr, hn⟩ := hc i n hi
    exact ⟨B, cb, C, cc, h4.kept hk hp, hr.kept hk, hn.kept hk⟩
theorem RowN.mono {w : World} {P Q : Nat → Prop} {A : Option Addr} {l : List Nd} (h : RowN w P A l) (hpq : ∀ g, P g → g < w.heap.size → Q g) : RowN w Q A l := by
  rcases h with h | ⟨g, o, rfl, hp, hl, hc⟩
  · exact .inl h
  · refine .inr ⟨g, o, rfl, hpq g hp hl, hl, fun i n hi => ?_⟩
    obtain ⟨B, cb, C, cc, h4, hr, hn⟩ := hc i n hi
    exact ⟨B, cb, C, cc, h4, hr.mono hpq, hn.mono hpq⟩
theorem RowN.below {w w' : World} {P : Nat → Prop} {A : Option Addr} {l : List Nd} (h : RowN w P A l) (hb : Below w.heap.size w w') : RowN w' P A l := h.kept (Kept.of_below hb)
structure ButS (P : Nat → Prop) (w w' : World) : Prop where
  os : w'.os = w.os
  tape : w'.tape = w.tape
  output : w'.output = w.output
  size : w.heap.size ≤ w'.heap.size
  block : ∀ k, k < w.heap.size → ¬ P k → w'.heap[k]? = w.heap[k]?
section
variable {P Q : Nat → Prop} {a b c w w' : World}
theorem ButS.refl (P : Nat → Prop) (w : World) : ButS P w w := ⟨rfl, rfl, rfl, Nat.le_refl _, fun _ _ _ => rfl⟩
theorem ButS.trans' (h : ButS P a b) (k : ButS Q b c) (hq : ∀ g, g < a.heap.size → Q g → P g) : ButS P a c :=
  ⟨k.os.trans h.os, k.tape.trans h.tape, k.output.trans h.output, Nat.le_trans h.size k.size, fun i hi hn => (k.block i (Nat.lt_of_lt_of_le hi h.size) (fun e => hn (hq i hi e))).trans (h.block i hi hn)⟩
theorem ButS.trans (h : ButS P a b) (k : ButS P b c) : ButS P a c := h.trans' k fun _ _ e => e
theorem ButS.of_below (h : Below w.heap.size w w') : ButS P w w' := ⟨h.os, h.tape, h.output, h.size, fun k hk _ => h.block k hk⟩
theorem ButS.alloc (h : ButS P a w) (o : Obj) : ButS P a (w.alloc o) := h.trans (ButS.of_below ((Below.refl _ _).alloc (Nat.le_refl _) o))
theorem ButS.drew (h : ButS P a w) : ButS P a w.drew := ⟨h.os, h.tape, h.output, h.size, h.block⟩
theorem ButS.setCell (h : ButS P a w) {p : Addr} (hp : P p.block ∨ a.heap.size ≤ p.block) (u : Value) : ButS P a (w.setCell p u) := by
  have hb := (Below.refl 0 w).setCell (p := p) (Nat.zero_le _) u
  refine ⟨hb.os.trans h.os, hb.tape.trans h.tape, hb.output.trans h.output, Nat.le_trans h.size hb.size, fun k hk hn => ?_⟩
  rw [Below.heap_setCell w p u k (by rcases hp with hp | hp; exact fun e => hn (e ▸ hp); exact fun e => by omega)]
  exact h.block k hk hn
theorem ButS.drewN (h : ButS P a w) (n : Nat) : ButS P a (w.drewN n) := h.trans (ButS.of_below (below_drewN (Below.refl _ _) n))
theorem ButS.kept (h : ButS P w w') : Kept w w' (fun g => ¬ P g) := ⟨h.size, fun g hp hl => h.block g hl hp⟩
theorem ButS.keptQ (h : ButS P w w') (hpq : ∀ g, Q g → ¬ P g) : Kept w w' Q := ⟨h.size, fun g hp hl => h.block g hl (hpq g hp)⟩
theorem ButS.below {n : Nat} (h : ButS P w w') (hn : ∀ k, k < n → ¬ P k) (hs : n ≤ w.heap.size) : Below n w w' := ⟨h.os, h.tape, h.output, h.size, fun k hk => h.block k (by omega) (hn k hk)⟩
theorem ButS.cell (h : ButS P w w') {p : Addr} {v : Value} (hne : ¬ P p.block) (hv : w.cell? p = some v) : w'.cell? p = some v := by
  rw [World.cell?_of_block (w := w) (h.block p.block (Lib.lt_of_cell hv) hne)]; exact hv
theorem ButS.frozen (h : ButS P w w') {p : Addr} (hne : ¬ P p.block) (hl : p.block < w.heap.size) (hv : w.frozen? p = false) : w'.frozen? p = false := by
  rw [World.frozen?_of_block (w := w) (h.block p.block hl hne)]; exact hv
theorem ButS.grown {row : Option Nat} (h : ButS P a w) (hg : w.grownBy w' row) (hr : ∀ k, row = some k → P k ∨ a.heap.size ≤ k) : ButS P a w' :=
  ⟨hg.os.trans h.os, hg.tape.trans h.tape, hg.output.trans h.output, Nat.le_trans h.size hg.size, fun k hk hn => (hg.block k (Nat.lt_of_lt_of_le hk h.size) (fun e => by rcases hr k e.symm with h' | h'; exact hn h'; omega)).trans (h.block k hk hn)⟩
theorem ButS.mono (h : ButS P a w) (hpq : ∀ g, P g → Q g) : ButS Q a w := ⟨h.os, h.tape, h.output, h.size, fun k hk hn => h.block k hk fun e => hn (hpq k e)⟩
structure MC (w : World) (m room : Nat) (vN vB : Value) : Prop where
  c0 : w.cell? ⟨m, 0, none⟩ = some (.int .i64 (room : Int))
  c1 : w.cell? ⟨m, 1, none⟩ = some vN
  c2 : w.cell? ⟨m, 2, none⟩ = some vB
  fM : ∀ j, w.frozen? ⟨m, j, none⟩ = false
section
variable {m room : Nat} {vN vB : Value}
theorem MC.lt (h : MC w m room vN vB) : m < w.heap.size := Lib.lt_of_cell h.c0
theorem MC.block (h : MC w m room vN vB) (hb : w'.heap[m]? = w.heap[m]?) : MC w' m room vN vB :=
  ⟨by rw [World.cell?_of_block (w := w) hb]; exact h.c0, by rw [World.cell?_of_block (w := w) hb]; exact h.c1, by rw [World.cell?_of_block (w := w) hb]; exact h.c2, fun j => by rw [World.frozen?_of_block (w := w) hb]; exact h.fM j⟩
theorem MC.grown {row : Option Nat} (h : MC w m room vN vB) (hg : w.grownBy w' row) (hr : some m ≠ row) : MC w' m room vN vB := h.block (hg.block m h.lt hr)
theorem MC.below (h : MC w m room vN vB) (hb : Below w.heap.size w w') : MC w' m room vN vB := h.block (hb.block m h.lt)
theorem MC.alloc (h : MC w m room vN vB) (o : Obj) : MC (w.alloc o) m room vN vB := h.below ((Below.refl _ _).alloc (Nat.le_refl _) o)
theorem MC.set (h : MC w m room vN vB) {p : Addr} (hp : p.block ≠ m) (u : Value) : MC (w.setCell p u) m room vN vB := h.block (Below.heap_setCell w p u m fun e => hp e.symm)
theorem MC.set1 (h : MC w m room vN vB) (u : Value) : MC (w.setCell ⟨m, 1, none⟩ u) m room u vB :=
  ⟨by rw [World.cell?_setCell_other _ _ _ _ (by simp)]; exact h.c0, World.cell?_setCell_same _ _ _ h.c1, by rw [World.cell?_setCell_other _ _ _ _ (by simp)]; exact h.c2, fun j => by rw [World.frozen?_setCell]; exact h.fM j⟩
theorem MC.set2 (h : MC w m room vN vB) (u : Value) : MC (w.setCell ⟨m, 2, none⟩ u) m room vN u :=
  ⟨by rw [World.cell?_setCell_other _ _ _ _ (by simp)]; exact h.c0, by rw [World.cell?_setCell_other _ _ _ _ (by simp)]; exact h.c1, World.cell?_setCell_same _ _ _ h.c2, fun j => by rw [World.frozen?_setCell]; exact h.fM j⟩
end
theorem rows_list {g : Nat} {l : List Nd} (h : ∀ (i : Nat) (n : Nd), l[i]? = some n → ∃ B cb C cc, At4 w g (i * 4) n B cb C cc ∧ RowI w P B n.refs ∧ RowI w P C n.nums) :
    ∃ L : List NdM, L.map NdM.n = l ∧ (∀ (i : Nat) (q : NdM), L[i]? = some q → At4 w g (i * 4) q.n q.A q.ca q.B q.cb) ∧ ∀ q ∈ L, RowI w P q.A q.n.refs ∧ RowI w P q.B q.n.nums := by
  have key : ∀ i, i < l.length → ∃ q : NdM, l[i]? = some q.n ∧ At4 w g (i * 4) q.n q.A q.ca q.B q.cb ∧ RowI w P q.A q.n.refs ∧ RowI w P q.B q.n.nums := fun i hi => by
    obtain ⟨B, cb, C, cc, h4, hr, hn⟩ := h i _ (List.getElem?_eq_getElem hi)
    exact ⟨⟨_, B, cb, C, cc⟩, List.getElem?_eq_getElem hi, h4, hr, hn⟩
  obtain ⟨F, hF⟩ : ∃ F : Nat → NdM, ∀ i, i < l.length → l[i]? = some (F i).n ∧ At4 w g (i * 4) (F i).n (F i).A (F i).ca (F i).B (F i).cb ∧ RowI w P (F i).A (F i).n.refs ∧ RowI w P (F i).B (F i).n.nums := by
    refine ⟨fun i => if hi : i < l.length then (key i hi).choose else default, fun i hi => ?_⟩
    simp only [dif_pos hi]
    exact (key i hi).choose_spec
  refine ⟨(List.range l.length).map F, ?_, fun i q hq => ?_, fun q hq => ?_⟩
  · apply List.ext_getElem?
    intro i
    by_cases hi : i < l.length
    · rw [List.getElem?_map, List.getElem?_map, List.getElem?_range hi, (hF i hi).1]; rfl
    · rw [List.getElem?_eq_none_iff.2 (by simp; omega), List.getElem?_eq_none_iff.2 (by omega)]
  · have hi : i < l.length := by have := (List.getElem?_eq_some_iff.1 hq).1; simpa using this
    rw [List.getElem?_map, List.getElem?_range hi] at hq
    obtain rfl := Option.some.inj hq
    exact (hF i hi).2.1
  · obtain ⟨i, hi, rfl⟩ := List.mem_map.1 hq
    exact (hF i (List.mem_range.1 hi)).2.2
theorem list_rows {g : Nat} {L : List NdM} (h : ∀ (i : Nat) (q : NdM), L[i]? = some q → At4 w g (i * 4) q.n q.A q.ca q.B q.cb) (hr : ∀ q ∈ L, RowI w P q.A q.n.refs ∧ RowI w P q.B q.n.nums) :
    ∀ (i : Nat) (n : Nd), (L.map NdM.n)[i]? = some n → ∃ B cb C cc, At4 w g (i * 4) n B cb C cc ∧ RowI w P B n.refs ∧ RowI w P C n.nums := fun i n hi => by
  rw [List.getElem?_map] at hi
  cases hq : L[i]? with
  | none => rw [hq] at hi; cases hi
  | some q =>
    rw [hq] at hi
    obtain rfl := Option.some.inj hi
    exact ⟨_, _, _, _, h i q hq, hr q (List.mem_of_getElem? hq)⟩
end
end Go.Proofs.YtbjbbpbagnlkmaaDoor
namespace Go.Proofs.YtbjbbpbagnlkmaaDoor
open Go.RowKit Go.Maps
theorem laidOut9 : laidOutB Tryd.prog = true := by kernel_rfl
theorem lookKeyed : Keyed Tryd.prog 72 := Keyed.of_law (deep_law_laid laidOut9 (m := 2) (by omega) (of_decide_eq_true (by kernel_rfl)) (by kernel_rfl) (by rw [Tryd.underlying72]))
theorem cells_look : Tryd.prog.cellsOf 72 = 4 := by kernel_rfl
theorem cells_int9 : Tryd.prog.cellsOf 3 = 1 := by kernel_rfl
theorem cells_str9 : Tryd.prog.cellsOf 9 = 1 := by kernel_rfl
def FitK (n : Nd) : Prop := (n.refs.length ≤ 200 ∧ n.nums.length ≤ 200 ∧ n.text.length ≤ 5000) ∧ B64s n.refs ∧ B64s n.nums ∧ -9223372036854775808 ≤ n.kind ∧ n.kind ≤ 9223372036854775807
def kN (n : Nd) : Lit := .string (keyBytes [.int .i64 n.kind, .string (rowT n.refs), .string (rowT n.nums), .string n.text])
def lookV (n : Nd) : Value := .agg #[.int .i64 n.kind, .string ⟨(rowT n.refs).toArray⟩, .string ⟨(rowT n.nums).toArray⟩, .string ⟨n.text.toArray⟩]
theorem wf64' {x : Int} (h : -9223372036854775808 ≤ x ∧ x ≤ 9223372036854775807) : (Lit.int .i64 x).wf = true := by
  have e1 : IntKind.i64.min = -9223372036854775808 := rfl
  have e2 : IntKind.i64.max = 9223372036854775807 := rfl
  simp [Lit.wf, e1, e2]
  omega
theorem rowT_small {l : List Int} (h : B64s l) (hl : l.length ≤ 200) : (rowT l).length ≤ 4400 := by
  have := rowT_len l h
  omega
set_option maxRecDepth 100000 in
theorem key_look {n : Nd} (h : FitK n) : keyOf Tryd.prog 72 (lookV n) = some (kN n) := by
  obtain ⟨⟨f1, f2, f3⟩, f4, f5, f6⟩ := h
  have g1 := rowT_small f4 f1
  have g2 := rowT_small f5 f2
  have b1 : ({ data := (rowT n.refs).toArray } : ByteArray).size ≤ maxLen := by show (rowT n.refs).toArray.size ≤ maxLen; unfold maxLen; simp; omega
  have b2 : ({ data := (rowT n.nums).toArray } : ByteArray).size ≤ maxLen := by show (rowT n.nums).toArray.size ≤ maxLen; unfold maxLen; simp; omega
  have b3 : ({ data := n.text.toArray } : ByteArray).size ≤ maxLen := by show n.text.toArray.size ≤ maxLen; unfold maxLen; simp; omega
  have h1 : Tryd.prog.keyType 72 = true := by kernel_rfl
  have h2 : (lookV n).formed Tryd.prog 72 = true := by
    simp [lookV, Value.formed, Tryd.underlying72, cells_look]
  obtain ⟨d, hd⟩ : ∃ d, Tryd.prog.types.size = d + 1 := ⟨Tryd.prog.types.size - 1, by kernel_rfl⟩
  have h3 : Tryd.prog.keyLits (Tryd.prog.types.size + 1) 72 [.int .i64 n.kind, .string ⟨(rowT n.refs).toArray⟩, .string ⟨(rowT n.nums).toArray⟩, .string ⟨n.text.toArray⟩] = some [.int .i64 n.kind, .string (rowT n.refs), .string (rowT n.nums), .string n.text] := by
    rw [hd]
    simp [Program.keyLits, Tryd.underlying72, Tryd.underlying3, Tryd.underlying9, cells_look, cells_int9, cells_str9, wf64' f6, b1, b2, b3]
  unfold keyOf
  rw [Tryd.underlying72]
  simp only [h1, h2, Bool.and_self, if_true]
  show (Tryd.prog.keyLits (Tryd.prog.types.size + 1) 72 [.int .i64 n.kind, .string ⟨(rowT n.refs).toArray⟩, .string ⟨(rowT n.nums).toArray⟩, .string ⟨n.text.toArray⟩]).map _ = _
  rw [h3]; rfl
theorem kN_inj {n m : Nd} (hn : FitK n) (hm : FitK m) (h : kN n = kN m) : n = m := by
  have h1 := key_look hn
  rw [h] at h1
  have := lookKeyed.inj h1 (key_look hm)
  unfold lookV at this
  simp only [Value.agg.injEq, Array.mk.injEq, List.cons.injEq, Value.int.injEq, Value.string.injEq, ByteArray.mk.injEq, true_and, and_true] at this
  obtain ⟨e1, e2, e3, e4⟩ := this
  have e2 := rowT_inj (by simpa using e2)
  have e3 := rowT_inj (by simpa using e3)
  have e4 : n.text = m.text := by simpa using e4
  show (⟨n.kind, n.refs, n.nums, n.text⟩ : Nd) = m
  rw [e1, e2, e3, e4]
def hV (h : Int) : DataW Unit := .lit (.int .i64 h)
theorem intZero9 (w : World) : (zeroValue 3).run Tryd.prog w = .ok (.int .i64 0) w := by kernel_rfl
structure Maps9 (D : DataW Unit) (t : Sh) : Prop where
  at_ : ∀ h n, ndAt t h = some n → D.atKey (kN n) (hV 0) = hV h ∧ has D (kN n) = true
  only : ∀ kl, has D kl = true → ∃ h n, ndAt t h = some n ∧ kl = kN n
def FitT (t : Sh) : Prop := ∀ h n, ndAt t h = some n → FitK n
theorem Maps9.miss {D : DataW Unit} {t : Sh} (h : Maps9 D t) (hf : FitT t) {x : Nd} (hx : FitK x) (h0 : ∀ k, ndAt t k ≠ some x) : has D (kN x) = false := by
  cases e : has D (kN x) with
  | false => rfl
  | true =>
    obtain ⟨k, n, hn, hk⟩ := h.only _ e
    exact absurd (kN_inj hx (hf k n hn) hk ▸ hn) (h0 k)
theorem Maps9.put {D : DataW Unit} {t t' : Sh} (hM : IsMap D) (h : Maps9 D t) (hf : FitT t) {x : Nd} {k : Int} (hx : FitK x) (h0 : ∀ k, ndAt t k ≠ some x) (ht : ∀ j, ndAt t' j = if j = k then some x else ndAt t j) (hk : ndAt t k = none) : Maps9 (D.put (kN x) (hV k)) t' := by
  have hkey := lookKeyed.key (key_look hx)
  refine ⟨fun j n hn => ?_, fun kl hl => ?_⟩
  · rw [ht] at hn
    by_cases e : j = k
    · rw [if_pos e] at hn
      cases hn
      rw [atKey_put_same hM hkey, has_put_same hM hkey, e]
      exact ⟨rfl, rfl⟩
    · rw [if_neg e] at hn
      have hne : kN n ≠ kN x := fun e' => h0 j ((kN_inj (hf j n hn) hx e') ▸ hn)
      rw [atKey_put_other hne, has_put_other hne]
      exact h.at_ j n hn
  · by_cases e : kl = kN x
    · exact ⟨k, x, by rw [ht, if_pos rfl], e⟩
    · rw [has_put_other e] at hl
      obtain ⟨j, n, hn, hj⟩ := h.only kl hl
      refine ⟨j, n, ?_, hj⟩
      rw [ht, if_neg fun e' => by rw [e', hk] at hn; cases hn]
      exact hn
theorem Maps9.del {D : DataW Unit} {t t' : Sh} (h : Maps9 D t) (hf : FitT t) (h1 : ∀ h k n, ndAt t h = some n → ndAt t k = some n → h = k) {x : Nd} {k : Int} (hx : ndAt t k = some x) (ht : ∀ j, ndAt t' j = if j = k then none else ndAt t j) : Maps9 (D.del (kN x)) t' := by
  refine ⟨fun j n hn => ?_, fun kl hl => ?_⟩
  · rw [ht] at hn
    by_cases e : j = k
    · rw [if_pos e] at hn; cases hn
    · rw [if_neg e] at hn
      have hne : kN n ≠ kN x := fun e' => e (h1 j k x (kN_inj (hf j n hn) (hf k x hx) e' ▸ hn) hx)
      rw [atKey_del_other hne, has_del_other hne]
      exact h.at_ j n hn
  · by_cases e : kl = kN x
    · rw [e, has_del_same] at hl; cases hl
    · rw [has_del_other e] at hl
      obtain ⟨j, n, hn, hj⟩ := h.only kl hl
      refine ⟨j, n, ?_, hj⟩
      rw [ht, if_neg fun e' => ?_]
      · exact hn
      · subst e'
        rw [hx] at hn
        cases hn
        exact e hj
def MapA (w : World) (b : Nat) (t : Sh) : Prop := ∃ D : DataW Unit, w.ownsMap Tryd.prog 72 (plainElem Tryd.prog 3) b (Maps.size D) D ∧ Maps9 D t
theorem own_tight {w : World} {P : Program} {k : TypeId} {R : Value → Option (DataW Unit × List MemPlace)} {b n : Nat} {D : DataW Unit} (h : w.ownsMap P k R b n D) : w.ownsMap P k R b (Maps.size D) D := by
  obtain ⟨es, clock, hb, F, hs, rfl⟩ := h
  exact ⟨es, clock, hb, F, by simp [Maps.size, length_sorted], rfl⟩
theorem own_block {w w' : World} {P : Program} {k : TypeId} {R : Value → Option (DataW Unit × List MemPlace)} {b n : Nat} {D : DataW Unit} (h : w.ownsMap P k R b n D) (hb : w'.heap[b]? = w.heap[b]?) : w'.ownsMap P k R b n D := by
  obtain ⟨es, clock, h1, h2⟩ := h
  exact ⟨es, clock, hb.trans h1, h2⟩
theorem MapA.block {w w' : World} {b : Nat} {t : Sh} (h : MapA w b t) (hb : w'.heap[b]? = w.heap[b]?) : MapA w' b t := by
  obtain ⟨D, h1, h2⟩ := h
  exact ⟨D, own_block h1 hb, h2⟩
theorem MapA.lt {w : World} {b : Nat} {t : Sh} (h : MapA w b t) : b < w.heap.size := by
  obtain ⟨D, h1, h2⟩ := h
  exact h1.lt
theorem MapA.made (w : World) : MapA (w.alloc (.map #[] 0)) w.heap.size [] :=
  ⟨.map [], World.ownsMap_made w Tryd.prog 72 _, ⟨fun h n e => by unfold ndAt at e; split at e <;> simp at e, fun kl e => by cases e⟩⟩
end Go.Proofs.YtbjbbpbagnlkmaaDoor
