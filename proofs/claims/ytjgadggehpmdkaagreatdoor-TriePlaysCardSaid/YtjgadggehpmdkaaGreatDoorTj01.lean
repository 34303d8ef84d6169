/- Texts joined: OpR, Ret, Mem, NdA, KpA, NdB, OpN. -/
import Derived.Test.YtjgadggehpmdkaaGreatDoorProg
import Derived.WalkKit
import Derived.OpenShut
import Derived.Deep.Slices
import Derived.Deep.SlicePairs
import Derived.ChangeSame
import Derived.WalkSmall
import Derived.Lib.Hide
import Derived.Lib.AtoiErrMem
import Derived.Deep.CutRange
import Derived.OwnWalk
import Derived.Deep.QuietTactic
import Derived.BigQuiet
import Derived.Laws.Pointers
import Derived.StillTactics
set_option linter.all false
namespace Go.Proofs.YtjgadggehpmdkaaGreatDoor
open Go.ChangeShapes Go.WideShapes Go.RowKit Go.Deep
section
variable {H : Type} {enc : TypeId × Value → H} {w : World} {base : Nat} {spare : Nat → Bool} {held : Bool}
def AtR {α : Type} (f : α → List Value) (k : Nat) (w : World) (g o : Nat) (l : List α) : Prop := ∀ (i : Nat) (q : α), l[i]? = some q → ∀ (j : Nat) (u : Value), (f q)[j]? = some u → w.cell? ⟨g, o + i * k + j, none⟩ = some u
set_option maxRecDepth 100000 in
theorem open_rows {α : Type} [Inhabited α] {r : Reach} {b0 : Nat} {v : Value} {d : DataW H} {p : List MemPlace} {ts te : TypeId} {k : Nat} (f : α → List Value) (Ok : α → Prop) (hf : ∀ q, (f q).length = k)
    (hts : Tryz.prog.underlying ts = some (.slice te)) (hk : Tryz.prog.cellsOf te = k) (hk0 : 0 < k)
    (hel : ∀ {fuel : Nat} {cs : List Value} {x : DataW H × List MemPlace}, cs.length = k → DataW.trod enc Tryz.prog w base spare held fuel te cs = some x → ∃ q, cs = f q ∧ Ok q)
    (hv : Value.okWide Tryz.prog w r b0 ts v) (h : DataW.Trod enc Tryz.prog w base spare held ts v d p) :
    ∃ (l : List α) (A : Option Addr) (cap : Nat), v = .slice A l.length cap ∧ l.length ≤ maxLen ∧ (∀ q ∈ l, Ok q) ∧ (l ≠ [] → ∃ g o, A = some ⟨g, o, none⟩ ∧ AtR f k w g o l) := by
  obtain ⟨a0, len, cap, rfl⟩ := okWide_slice hts hv
  obtain ⟨fuel, hfu⟩ := h
  rcases DataW.trod_slice hts hfu with ⟨e5, _⟩ | ⟨ad, len', cap', el, rs, n4, rfl, e5, _, _, hlc, hcm, hle, helem, _, _⟩
  · simp [Value.cells] at e5
    obtain ⟨rfl, rfl, rfl⟩ := e5
    exact ⟨([] : List α), none, 0, rfl, by simp, by simp, fun hh => absurd rfl hh⟩
  · simp [Value.cells] at e5
    obtain ⟨rfl, rfl, rfl⟩ := e5
    have key : ∀ i, i < len → ∃ q : α, (∀ (j : Nat) (u : Value), (f q)[j]? = some u → w.cell? ((ad.add (i * k)).add j) = some u) ∧ Ok q := by
      intro i hi
      have h1 := helem i hi
      rw [hk] at h1
      obtain ⟨y, hy⟩ : ∃ y, el[i]? = some y := ⟨el[i]'(by omega), List.getElem?_eq_getElem (by omega)⟩
      rw [hy] at h1
      obtain ⟨ce, hce, hte⟩ := Option.bind_eq_some_iff.1 h1
      obtain ⟨_, hcl, hcell⟩ := World.cells?_some hce
      obtain ⟨q, rfl, hq⟩ := hel hcl hte
      refine ⟨q, fun j u hj => ?_, hq⟩
      have hjl : j < k := by rw [← hf q]; exact (List.getElem?_eq_some_iff.1 hj).1
      rw [hcell j hjl]; exact hj
    obtain ⟨Q, hQ⟩ := choose_lt key
    refine ⟨(List.range len).map Q, some ad, cap, by simp, by simp; omega, fun q hq => ?_, fun hne => ?_⟩
    · obtain ⟨i, hi, rfl⟩ := List.mem_map.1 hq
      exact (hQ i (List.mem_range.1 hi)).2
    · have hpos : 0 < len := by
        cases len with
        | zero => simp at hne
        | succ k => omega
      obtain ⟨g, o, spot⟩ := ad
      have hspot : spot = none := by
        obtain ⟨u, hu⟩ : ∃ u, (f (Q 0))[0]? = some u := ⟨(f (Q 0))[0]'(by rw [hf]; exact hk0), List.getElem?_eq_getElem (by rw [hf]; exact hk0)⟩
        have h00 := (hQ 0 hpos).1 0 u hu
        simpa [Addr.add] using World.cell?_spot h00
      subst hspot
      refine ⟨g, o, rfl, fun i q hi j u hj => ?_⟩
      have hlt : i < len := by
        have := (List.getElem?_eq_some_iff.1 hi).1
        simpa using this
      have hq : Q i = q := by simpa [hlt] using hi
      have := (hQ i hlt).1 j u (by rw [hq]; exact hj)
      rwa [add_plain, add_plain] at this
end
end Go.Proofs.YtjgadggehpmdkaaGreatDoor
namespace Go.Proofs.YtjgadggehpmdkaaGreatDoor
theorem ret_bool {a b : Bool} (h : a = b) : Ending.returned (.bool a) = .returned (.bool b) := by rw [h]
end Go.Proofs.YtjgadggehpmdkaaGreatDoor
namespace Go.Proofs.YtjgadggehpmdkaaGreatDoor
open Go.RowKit
theorem keep_cell {W w1 : World} (hb : Below W.heap.size W w1) {p : Addr} {v : Value} (h : W.cell? p = some v) : w1.cell? p = some v := by
  rw [hb.cell (Lib.lt_of_cell h)]; exact h
theorem keep_frozen {W w1 : World} (hb : Below W.heap.size W w1) {p : Addr} (hp : p.block < W.heap.size) (h : W.frozen? p = false) : w1.frozen? p = false := by
  rw [hb.frozen hp]; exact h

end Go.Proofs.YtjgadggehpmdkaaGreatDoor
namespace Go.Proofs.YtjgadggehpmdkaaGreatDoor
structure Nd where
  kind : Int
  refs : List Int
  nums : List Int
  text : List UInt8
deriving Inhabited, DecidableEq
abbrev Sh := List (Option Nd)
def ndAt (s : Sh) (h : Int) : Option Nd := if 0 < h then (s[(h - 1).toNat]?).getD none else none
theorem ndAt_succ (s : Sh) (i : Nat) : ndAt s ((i : Int) + 1) = (s[i]?).getD none := by
  unfold ndAt
  rw [if_pos (by omega), show ((i : Int) + 1 - 1).toNat = i by omega]
theorem ndAt_some {s : Sh} {h : Int} {n : Nd} (e : ndAt s h = some n) : ∃ i : Nat, h = (i : Int) + 1 ∧ s[i]? = some (some n) := by
  unfold ndAt at e
  split at e
  · rename_i hp
    refine ⟨(h - 1).toNat, by omega, ?_⟩
    cases hq : s[(h - 1).toNat]? with
    | none => rw [hq] at e; cases e
    | some o => rw [hq] at e; exact congrArg some e
  · cases e
theorem ndAt_none {s : Sh} {i : Nat} (e : s.length ≤ i) : ndAt s ((i : Int) + 1) = none := by
  rw [ndAt_succ, List.getElem?_eq_none_iff.2 e]; rfl
def live (s : Sh) (h : Int) : Bool := (ndAt s h).isSome
theorem live_iff {s : Sh} {h : Int} : live s h = true ↔ ∃ n, ndAt s h = some n := Option.isSome_iff_exists
theorem live_bound {s : Sh} {h : Int} (e : live s h = true) : 1 ≤ h ∧ h ≤ s.length := by
  obtain ⟨n, e⟩ := live_iff.1 e
  obtain ⟨i, rfl, hi⟩ := ndAt_some e
  have := (List.getElem?_eq_some_iff.1 hi).1
  omega
def fnd (s : Sh) (x : Nd) : Nat := match s.findIdx? (fun o => o == some x) with | some i => i + 1 | none => 0
theorem fnd_at {s : Sh} {x : Nd} {i : Nat} (h : s[i]? = some (some x)) (hj : ∀ j : Nat, j < i → s[j]? ≠ some (some x)) : fnd s x = i + 1 := by
  have e : s.findIdx? (fun o => o == some x) = some i := by
    rw [List.findIdx?_eq_some_iff_getElem]
    obtain ⟨hl, he⟩ := List.getElem?_eq_some_iff.1 h
    refine ⟨hl, by rw [he]; simp, fun j hji => ?_⟩
    have hjl : j < s.length := by omega
    have := hj j hji
    rw [List.getElem?_eq_getElem hjl] at this
    simpa using this
  unfold fnd; rw [e]
theorem fnd_none {s : Sh} {x : Nd} (hj : ∀ j : Nat, s[j]? ≠ some (some x)) : fnd s x = 0 := by
  have e : s.findIdx? (fun o => o == some x) = none := by
    rw [List.findIdx?_eq_none_iff]
    intro o ho
    obtain ⟨i, hi⟩ := List.getElem?_of_mem ho
    have := hj i
    rw [hi] at this
    simpa using this
  unfold fnd; rw [e]
theorem fnd_pos {s : Sh} {x : Nd} (h : fnd s x ≠ 0) : ndAt s (fnd s x) = some x := by
  unfold fnd at h ⊢
  cases e : s.findIdx? (fun o => o == some x) with
  | none => rw [e] at h; exact absurd rfl h
  | some i =>
    rw [List.findIdx?_eq_some_iff_getElem] at e
    obtain ⟨hl, hx, _⟩ := e
    show ndAt s ((i + 1 : Nat) : Int) = _
    rw [show ((i + 1 : Nat) : Int) = (i : Int) + 1 by omega, ndAt_succ, List.getElem?_eq_getElem hl]
    simpa using hx
theorem fnd_zero {s : Sh} {x : Nd} (h : fnd s x = 0) (j : Nat) : s[j]? ≠ some (some x) := by
  unfold fnd at h
  cases e : s.findIdx? (fun o => o == some x) with
  | some i => rw [e] at h; cases h
  | none =>
    rw [List.findIdx?_eq_none_iff] at e
    intro hj
    have := e _ (List.mem_of_getElem? hj)
    simp at this
def freeH (s : Sh) : Nat := match s.findIdx? (fun o => o.isNone) with | some i => i + 1 | none => s.length + 1
theorem freeH_cases (s : Sh) : (∃ i, s[i]? = some none ∧ freeH s = i + 1) ∨ (freeH s = s.length + 1 ∧ ∀ j : Nat, s[j]? ≠ some none) := by
  cases e : s.findIdx? (fun o => o.isNone) with
  | some i =>
    refine .inl ⟨i, ?_, by unfold freeH; rw [e]⟩
    rw [List.findIdx?_eq_some_iff_getElem] at e
    obtain ⟨hl, hx, _⟩ := e
    rw [List.getElem?_eq_getElem hl]
    exact congrArg some (Option.isNone_iff_eq_none.1 hx)
  | none =>
    refine .inr ⟨by unfold freeH; rw [e], fun j hj => ?_⟩
    rw [List.findIdx?_eq_none_iff] at e
    have := e _ (List.mem_of_getElem? hj)
    simp at this
theorem freeH_pos (s : Sh) : 1 ≤ freeH s ∧ freeH s ≤ s.length + 1 := by
  rcases freeH_cases s with ⟨i, hi, e⟩ | ⟨e, _⟩
  · have := (List.getElem?_eq_some_iff.1 hi).1
    omega
  · omega
theorem freeH_dead (s : Sh) : ndAt s (freeH s) = none := by
  rcases freeH_cases s with ⟨i, hi, e⟩ | ⟨e, _⟩
  · rw [e, show ((i + 1 : Nat) : Int) = (i : Int) + 1 by omega, ndAt_succ, hi]; rfl
  · rw [e, show ((s.length + 1 : Nat) : Int) = (s.length : Int) + 1 by omega]; exact ndAt_none (Nat.le_refl _)
def setH (s : Sh) (h : Nat) (x : Nd) : Sh := if h ≤ s.length then s.set (h - 1) (some x) else s ++ [some x]
theorem setH_at (s : Sh) (x : Nd) (h : Int) : ndAt (setH s (freeH s) x) h = if h = freeH s then some x else ndAt s h := by
  have hp := freeH_pos s
  by_cases h0 : 0 < h
  · obtain ⟨i, rfl⟩ : ∃ i : Nat, h = (i : Int) + 1 := ⟨(h - 1).toNat, by omega⟩
    rw [ndAt_succ, ndAt_succ]
    unfold setH
    split
    · rename_i hl
      rw [List.getElem?_set]
      by_cases e : freeH s - 1 = i
      · rw [if_pos e, if_pos (by omega), if_pos (by omega)]; rfl
      · rw [if_neg e, if_neg (by omega)]
    · rename_i hl
      have hf : freeH s = s.length + 1 := by omega
      by_cases e : i = s.length
      · subst e
        rw [List.getElem?_append_right (Nat.le_refl _), if_pos (by omega)]; simp
      · rw [if_neg (by omega)]
        by_cases e' : i < s.length
        · rw [List.getElem?_append_left e']
        · rw [List.getElem?_eq_none_iff.2 (by simp; omega), List.getElem?_eq_none_iff.2 (by omega)]
  · unfold ndAt
    rw [if_neg h0, if_neg h0, if_neg (by omega)]
theorem setH_len (s : Sh) (x : Nd) : (setH s (freeH s) x).length ≤ max s.length (freeH s) := by
  have hp := freeH_pos s
  unfold setH
  split
  · rw [List.length_set]; omega
  · rw [List.length_append]; simp; omega
def resolve (out : List Int) (r : Int) : Int := if r < 0 then out.getD (-1 - r).toNat 0 else r
def asPut (out : List Int) (n : Nd) : Nd := ⟨n.kind, n.refs.map (resolve out), n.nums, n.text⟩
def oneA (room : Nat) (s : Sh) (x : Nd) : Option (Sh × Int) :=
  if fnd s x ≠ 0 then some (s, (fnd s x : Int)) else if room < freeH s then none else some (setH s (freeH s) x, (freeH s : Int))
def putL (room : Nat) : Sh → List Int → List Nd → Option (Sh × List Int)
  | s, out, [] => some (s, out)
  | s, out, n :: l => match oneA room s (asPut out n) with
    | none => none
    | some (s', h) => putL room s' (out ++ [h]) l
def okRef (s : Sh) (i : Nat) (r : Int) : Bool := decide (r = 0) || live s r || (decide (r < 0) && decide (-(i : Int) ≤ r))
def wrongF (s : Sh) : Nat → List Nd → Bool
  | _, [] => false
  | i, n :: l => !(n.refs.all (okRef s i)) || wrongF s (i + 1) l
def putA (room : Nat) (s : Sh) (l : List Nd) : Sh × List Int × Nat :=
  if wrongF s 0 l then (s, [], 1) else match putL room s [] l with
    | none => (s, [], 3)
    | some (s', out) => (s', out, 0)
def liveF : Int → Sh → List Int
  | _, [] => []
  | k, none :: s => liveF (k + 1) s
  | k, some _ :: s => k :: liveF (k + 1) s
def liveA (s : Sh) : List Int := liveF 1 s
inductive Rch (s : Sh) (roots : List Int) : Int → Prop
  | root (r : Int) (h : r ∈ roots) (hl : live s r = true) : Rch s roots r
  | ref (h r : Int) (n : Nd) (hr : Rch s roots h) (hn : ndAt s h = some n) (hm : r ∈ n.refs) (hp : 0 < r) : Rch s roots r
open Classical in
noncomputable def leftF (P : Int → Prop) : Int → Sh → Sh
  | _, [] => []
  | k, o :: s => (if P k then o else none) :: leftF P (k + 1) s
noncomputable def leftA (s : Sh) (roots : List Int) : Sh := leftF (Rch s roots) 1 s
noncomputable def reachA (s : Sh) (roots : List Int) : List Int := liveA (leftA s roots)
noncomputable def sweepA (s : Sh) (roots : List Int) : Sh × Nat × Nat :=
  if roots.all (fun r => decide (r = 0) || live s r) then (leftA s roots, (liveA s).length - (reachA s roots).length, 0) else (s, 0, 4)

/- What is always so. -/
structure Inv (room : Nat) (s : Sh) : Prop where
  one : ∀ h k n, ndAt s h = some n → ndAt s k = some n → h = k
  shut : ∀ h n, ndAt s h = some n → ∀ r ∈ n.refs, r = 0 ∨ live s r = true
  len : s.length ≤ room
theorem inv_nil (room : Nat) : Inv room [] := ⟨fun h k n e _ => by unfold ndAt at e; split at e <;> simp at e, fun h n e => by unfold ndAt at e; split at e <;> simp at e, Nat.zero_le _⟩
def Up (s s' : Sh) : Prop := ∀ h n, ndAt s h = some n → ndAt s' h = some n
theorem Up.refl (s : Sh) : Up s s := fun _ _ h => h
theorem Up.trans {a b c : Sh} (h : Up a b) (k : Up b c) : Up a c := fun x n e => k x n (h x n e)
theorem Up.live {s s' : Sh} (h : Up s s') {x : Int} (e : live s x = true) : live s' x = true := by
  obtain ⟨n, e⟩ := live_iff.1 e
  exact live_iff.2 ⟨n, h x n e⟩
theorem one_up {room : Nat} {s s' : Sh} {x : Nd} {h : Int} (e : oneA room s x = some (s', h)) : Up s s' ∧ ndAt s' h = some x := by
  unfold oneA at e
  split at e
  · rename_i hf
    cases e
    exact ⟨Up.refl _, fnd_pos hf⟩
  · split at e
    · cases e
    · cases e
      refine ⟨fun k n hk => ?_, by rw [setH_at, if_pos rfl]⟩
      rw [setH_at, if_neg]
      · exact hk
      · rintro rfl
        rw [freeH_dead] at hk; cases hk
theorem inv_one {room : Nat} {s s' : Sh} {x : Nd} {h : Int} (hi : Inv room s) (hx : ∀ r ∈ x.refs, r = 0 ∨ live s r = true) (e : oneA room s x = some (s', h)) : Inv room s' := by
  have hu := (one_up e).1
  unfold oneA at e
  split at e
  · cases e; exact hi
  · rename_i hf
    have hf0 : fnd s x = 0 := by omega
    have hno : ∀ k, ndAt s k ≠ some x := fun k hk => by
      obtain ⟨i, _, hi'⟩ := ndAt_some hk
      exact fnd_zero hf0 i hi'
    split at e
    · cases e
    · rename_i hr
      cases e
      refine ⟨fun a b n ha hb => ?_, fun a n ha r hm => ?_, ?_⟩
      · rw [setH_at] at ha hb
        split at ha
        · cases ha
          split at hb
          · omega
          · exact absurd hb (hno b)
        · split at hb
          · cases hb; exact absurd ha (hno a)
          · exact hi.one a b n ha hb
      · rw [setH_at] at ha
        split at ha
        · cases ha
          rcases hx r hm with h | h
          · exact .inl h
          · exact .inr (hu.live h)
        · rcases hi.shut a n ha r hm with h | h
          · exact .inl h
          · exact .inr (hu.live h)
      · have h1 := setH_len s x
        have h2 := hi.len
        omega
theorem putL_up {room : Nat} : ∀ {l : List Nd} {s s' : Sh} {out out' : List Int}, putL room s out l = some (s', out') → Up s s' ∧ (∀ (k : Nat) (h : Int), out[k]? = some h → out'[k]? = some h) ∧ out'.length = out.length + l.length
  | [], s, s', out, out', e => by cases e; exact ⟨Up.refl _, fun _ _ h => h, rfl⟩
  | n :: l, s, s', out, out', e => by
    rw [putL] at e
    cases h1 : oneA room s (asPut out n) with
    | none => rw [h1] at e; cases e
    | some q =>
      obtain ⟨s1, h⟩ := q
      rw [h1] at e
      obtain ⟨u, k, c⟩ := putL_up e
      refine ⟨(one_up h1).1.trans u, fun i y hi => k i y ?_, by rw [c]; simp; omega⟩
      rw [List.getElem?_append_left (List.getElem?_eq_some_iff.1 hi).1]; exact hi
theorem putL_at {room : Nat} : ∀ {l : List Nd} {s s' : Sh} {out out' : List Int}, putL room s out l = some (s', out') → ∀ (i : Nat) (n : Nd), l[i]? = some n → ∃ h x, out'[out.length + i]? = some h ∧ ndAt s' h = some x ∧ x.kind = n.kind ∧ x.text = n.text
  | [], s, s', out, out', e, i, n, hi => by simp at hi
  | m :: l, s, s', out, out', e, i, n, hi => by
    rw [putL] at e
    cases h1 : oneA room s (asPut out m) with
    | none => rw [h1] at e; cases e
    | some q =>
      obtain ⟨s1, h⟩ := q
      rw [h1] at e
      cases i with
      | zero =>
        cases (show some m = some n by simpa using hi)
        obtain ⟨u, k, c⟩ := putL_up e
        exact ⟨h, _, k _ _ (by simp), u _ _ (one_up h1).2, rfl, rfl⟩
      | succ i =>
        have := putL_at e i n (by simpa using hi)
        rw [List.length_append] at this
        simp only [List.length_cons, List.length_nil] at this
        rw [show out.length + (i + 1) = out.length + (0 + 1) + i by omega]
        exact this
theorem okRef_res {s s' : Sh} (hu : Up s s') {out : List Int} (ho : ∀ h ∈ out, live s' h = true) {r : Int} (h : okRef s out.length r = true) : resolve out r = 0 ∨ live s' (resolve out r) = true := by
  unfold okRef at h
  unfold resolve
  simp only [Bool.or_eq_true, decide_eq_true_eq, Bool.and_eq_true] at h
  rcases h with (h | h) | h
  · subst h; exact .inl rfl
  · rw [if_neg (by have := live_bound h; omega)]; exact .inr (hu.live h)
  · rw [if_pos h.1]
    have hl : (-1 - r).toNat < out.length := by omega
    refine .inr (ho _ ?_)
    rw [List.getD_eq_getElem?_getD, List.getElem?_eq_getElem hl]
    exact List.getElem_mem hl
theorem inv_putL {room : Nat} {s0 : Sh} : ∀ {l : List Nd} {s s' : Sh} {out out' : List Int}, Inv room s → Up s0 s → (∀ h ∈ out, live s h = true) → wrongF s0 out.length l = false → putL room s out l = some (s', out') → Inv room s' ∧ ∀ h ∈ out', live s' h = true
  | [], s, s', out, out', hi, hu, ho, hw, e => by cases e; exact ⟨hi, ho⟩
  | n :: l, s, s', out, out', hi, hu, ho, hw, e => by
    rw [putL] at e
    rw [wrongF] at hw
    simp only [Bool.or_eq_false_iff, Bool.not_eq_false', List.all_eq_true] at hw
    cases h1 : oneA room s (asPut out n) with
    | none => rw [h1] at e; cases e
    | some q =>
      obtain ⟨s1, h⟩ := q
      rw [h1] at e
      obtain ⟨u1, a1⟩ := one_up h1
      have hx : ∀ r ∈ (asPut out n).refs, r = 0 ∨ live s r = true := by
        intro r hr
        obtain ⟨r0, hm, rfl⟩ := List.mem_map.1 hr
        exact okRef_res hu ho (hw.1 r0 hm)
      refine inv_putL (out := out ++ [h]) (inv_one hi hx h1) (hu.trans u1) ?_ (by simpa using hw.2) e
      intro k hk
      rcases List.mem_append.1 hk with hk | hk
      · exact u1.live (ho k hk)
      · rw [List.mem_singleton.1 hk]; exact live_iff.2 ⟨_, a1⟩
theorem inv_put {room : Nat} {s : Sh} (hi : Inv room s) (l : List Nd) : Inv room (putA room s l).1 ∧ Up s (putA room s l).1 := by
  unfold putA
  split
  · exact ⟨hi, Up.refl _⟩
  · rename_i hw
    split
    · exact ⟨hi, Up.refl _⟩
    · rename_i s' out e
      exact ⟨(inv_putL (s0 := s) (out := []) hi (Up.refl _) (fun _ h => by cases h) (by simpa using hw) e).1, (putL_up e).1⟩
theorem put_ok {room : Nat} {s : Sh} {l : List Nd} (h : (putA room s l).2.2 = 0) : (putA room s l).2.1.length = l.length ∧ ∀ (i : Nat) (n : Nd), l[i]? = some n → ∃ h x, (putA room s l).2.1[i]? = some h ∧ ndAt (putA room s l).1 h = some x ∧ x.kind = n.kind ∧ x.text = n.text := by
  unfold putA at h ⊢
  split at h
  · cases h
  · rename_i hw
    rw [if_neg hw]
    split at h
    · cases h
    · rename_i s' out e
      refine ⟨by simpa using (putL_up e).2.2, fun i n hi => ?_⟩
      have := putL_at e i n hi
      simpa using this
theorem put_no {room : Nat} {s : Sh} {l : List Nd} (h : (putA room s l).2.2 ≠ 0) : (putA room s l).2.1 = [] ∧ (putA room s l).1 = s := by
  unfold putA at h ⊢
  split
  · exact ⟨rfl, rfl⟩
  · rename_i hw
    rw [if_neg hw] at h
    split
    · exact ⟨rfl, rfl⟩
    · rename_i s' out e
      rw [e] at h
      exact absurd rfl h

/- A sweep. -/
theorem leftF_at (P : Int → Prop) : ∀ (s : Sh) (k : Int) (i : Nat), (leftF P k s)[i]? = (s[i]?).map (fun o => open Classical in if P (k + i) then o else none)
  | [], k, i => by rw [leftF]; simp
  | o :: s, k, 0 => by
    rw [leftF]
    have e : k + ((0 : Nat) : Int) = k := by omega
    simp only [List.getElem?_cons_zero, Option.map_some]
    rw [e]
  | o :: s, k, i + 1 => by
    rw [leftF]
    simp only [List.getElem?_cons_succ]
    rw [leftF_at P s (k + 1) i, show k + 1 + (i : Int) = k + ((i + 1 : Nat) : Int) by omega]
theorem leftF_len (P : Int → Prop) : ∀ (s : Sh) (k : Int), (leftF P k s).length = s.length
  | [], _ => rfl
  | _ :: s, k => by rw [leftF, List.length_cons, leftF_len P s, List.length_cons]
theorem rch_live {room : Nat} {s : Sh} (hi : Inv room s) {roots : List Int} {h : Int} (e : Rch s roots h) : live s h = true := by
  induction e with
  | root r _ hl => exact hl
  | ref h r n _ hn hm hp _ =>
    rcases hi.shut h n hn r hm with e | e
    · omega
    · exact e
theorem left_at (s : Sh) (roots : List Int) (h : Int) : ndAt (leftA s roots) h = (open Classical in if Rch s roots h then ndAt s h else none) := by
  by_cases h0 : 0 < h
  · obtain ⟨i, rfl⟩ : ∃ i : Nat, h = (i : Int) + 1 := ⟨(h - 1).toNat, by omega⟩
    rw [ndAt_succ, ndAt_succ]
    unfold leftA
    rw [leftF_at, show (1 : Int) + (i : Int) = (i : Int) + 1 by omega]
    cases s[i]? with
    | none => simp
    | some o => simp
  · unfold ndAt
    rw [if_neg h0, if_neg h0]; simp
theorem left_live {room : Nat} {s : Sh} (hi : Inv room s) (roots : List Int) (h : Int) : live (leftA s roots) h = true ↔ Rch s roots h := by
  unfold live
  rw [left_at]
  by_cases e : Rch s roots h
  · rw [if_pos e]; exact ⟨fun _ => e, fun _ => rch_live hi e⟩
  · rw [if_neg e]; exact ⟨fun h => (Bool.false_ne_true h).elim, fun h => absurd h e⟩
theorem inv_left {room : Nat} {s : Sh} (hi : Inv room s) (roots : List Int) : Inv room (leftA s roots) := by
  refine ⟨fun h k n ha hb => ?_, fun h n ha r hm => ?_, by unfold leftA; rw [leftF_len]; exact hi.len⟩
  · rw [left_at] at ha hb
    split at ha
    · split at hb
      · exact hi.one h k n ha hb
      · cases hb
    · cases ha
  · rw [left_at] at ha
    split at ha
    · rename_i hr
      rcases hi.shut h n ha r hm with e | e
      · exact .inl e
      · exact .inr ((left_live hi roots r).2 (.ref h r n hr ha hm (live_bound e).1))
    · cases ha
theorem inv_sweep {room : Nat} {s : Sh} (hi : Inv room s) (roots : List Int) : Inv room (sweepA s roots).1 := by
  unfold sweepA
  split
  · exact inv_left hi roots
  · exact hi
theorem sh_ext {s t : Sh} (hl : s.length = t.length) (h : ∀ x, ndAt s x = ndAt t x) : s = t := by
  apply List.ext_getElem? 
  intro i
  by_cases hi : i < s.length
  · have h1 := h ((i : Int) + 1)
    rw [ndAt_succ, ndAt_succ, List.getElem?_eq_getElem hi, List.getElem?_eq_getElem (hl ▸ hi)] at h1
    rw [List.getElem?_eq_getElem hi, List.getElem?_eq_getElem (hl ▸ hi)]
    exact congrArg some h1
  · rw [List.getElem?_eq_none_iff.2 (by omega), List.getElem?_eq_none_iff.2 (by omega)]
theorem liveF_mem : ∀ (s : Sh) (k h : Int), h ∈ liveF k s ↔ ∃ (i : Nat) (n : Nd), h = k + i ∧ s[i]? = some (some n)
  | [], k, h => by rw [liveF]; simp
  | o :: s, k, h => by
    have ih := liveF_mem s (k + 1) h
    have key : (∃ (i : Nat) (n : Nd), h = k + i ∧ (o :: s)[i]? = some (some n)) ↔ (h = k ∧ ∃ n, o = some n) ∨ ∃ (i : Nat) (n : Nd), h = k + 1 + i ∧ s[i]? = some (some n) := by
      constructor
      · rintro ⟨i, n, e, hi⟩
        cases i with
        | zero => exact .inl ⟨by omega, n, by simpa using hi⟩
        | succ i => exact .inr ⟨i, n, by omega, by simpa using hi⟩
      · rintro (⟨rfl, n, rfl⟩ | ⟨i, n, e, hi⟩)
        · exact ⟨0, n, by simp, by simp⟩
        · exact ⟨i + 1, n, by omega, by simpa using hi⟩
    rw [key]
    cases o with
    | none => rw [liveF, ih]; simp
    | some n => rw [liveF, List.mem_cons, ih]; simp
theorem liveA_mem {s : Sh} {h : Int} : h ∈ liveA s ↔ live s h = true := by
  unfold liveA
  rw [liveF_mem, live_iff]
  constructor
  · rintro ⟨i, n, rfl, hi⟩
    exact ⟨n, by rw [show (1 : Int) + (i : Int) = (i : Int) + 1 by omega, ndAt_succ, hi]; rfl⟩
  · rintro ⟨n, hn⟩
    obtain ⟨i, rfl, hi⟩ := ndAt_some hn
    exact ⟨i, n, by omega, hi⟩
theorem liveF_len : ∀ (s : Sh) (k : Int), (liveF k s).length ≤ s.length
  | [], _ => by rw [liveF]; exact Nat.le_refl _
  | none :: s, k => by rw [liveF]; have := liveF_len s (k + 1); simp; omega
  | some _ :: s, k => by rw [liveF]; have := liveF_len s (k + 1); simp; omega
theorem leftF_live (P : Int → Prop) : ∀ (s : Sh) (k : Int), (liveF k (leftF P k s)).length ≤ (liveF k s).length
  | [], _ => by rw [leftF]; exact Nat.le_refl _
  | none :: s, k => by
    rw [leftF]
    have := leftF_live P s (k + 1)
    split <;> simpa [liveF] using this
  | some n :: s, k => by
    rw [leftF]
    have := leftF_live P s (k + 1)
    split
    · simpa [liveF] using this
    · rw [liveF, liveF, List.length_cons]; omega
theorem left_len (s : Sh) (roots : List Int) : (reachA s roots).length ≤ (liveA s).length := leftF_live _ _ _
end Go.Proofs.YtjgadggehpmdkaaGreatDoor
namespace Go.Proofs.YtjgadggehpmdkaaGreatDoor
open Go.RowKit
structure Kept (w w' : World) (P : Nat → Prop) : Prop where
  size : w.heap.size ≤ w'.heap.size
  block : ∀ g, P g → g < w.heap.size → w'.heap[g]? = w.heap[g]?
theorem Kept.of_below {w w' : World} {P : Nat → Prop} (h : Below w.heap.size w w') : Kept w w' P := ⟨h.size, fun g _ hg => h.block g hg⟩
theorem Kept.trans {w w' w'' : World} {P : Nat → Prop} (h : Kept w w' P) (h' : Kept w' w'' P) : Kept w w'' P :=
  ⟨Nat.le_trans h.size h'.size, fun g hp hg => (h'.block g hp (Nat.lt_of_lt_of_le hg h.size)).trans (h.block g hp hg)⟩
theorem Kept.refl (w : World) (P : Nat → Prop) : Kept w w P := ⟨Nat.le_refl _, fun _ _ _ => rfl⟩
theorem Kept.cell {w w' : World} {P : Nat → Prop} (h : Kept w w' P) {g o : Nat} (hp : P g) {v : Value} (hv : w.cell? ⟨g, o, none⟩ = some v) : w'.cell? ⟨g, o, none⟩ = some v := by
  have hl : g < w.heap.size := Lib.lt_of_cell hv
  have hb := h.block g hp hl
  rw [← hv]
  unfold World.cell?
  simp only [hb]
end Go.Proofs.YtjgadggehpmdkaaGreatDoor
namespace Go.Proofs.YtjgadggehpmdkaaGreatDoor
open Go.RowKit
def RowI (w : World) (P : Nat → Prop) (A : Option Addr) (l : List Int) : Prop := l = [] ∨ ∃ g o, A = some ⟨g, o, none⟩ ∧ P g ∧ g < w.heap.size ∧ ∀ (i : Nat) (x : Int), l[i]? = some x → w.cell? ⟨g, o + i, none⟩ = some (.int .i64 x)
theorem RowI.kept {w w' : World} {P : Nat → Prop} {A : Option Addr} {l : List Int} (h : RowI w P A l) (hk : Kept w w' P) : RowI w' P A l := by
  rcases h with h | ⟨g, o, rfl, hp, hl, hc⟩
  · exact .inl h
  · exact .inr ⟨g, o, rfl, hp, Nat.lt_of_lt_of_le hl hk.size, fun i x hi => hk.cell hp (hc i x hi)⟩
theorem RowI.mono {w : World} {P Q : Nat → Prop} {A : Option Addr} {l : List Int} (h : RowI w P A l) (hpq : ∀ g, P g → g < w.heap.size → Q g) : RowI w Q A l := by
  rcases h with h | ⟨g, o, rfl, hp, hl, hc⟩
  · exact .inl h
  · exact .inr ⟨g, o, rfl, hpq g hp hl, hl, hc⟩
theorem RowI.below {w w' : World} {P : Nat → Prop} {A : Option Addr} {l : List Int} (h : RowI w P A l) (hb : Below w.heap.size w w') : RowI w' P A l := h.kept (Kept.of_below hb)
def B64s (l : List Int) : Prop := ∀ x ∈ l, -9223372036854775808 ≤ x ∧ x ≤ 9223372036854775807
def inW (x : Int) : List Value := [.int .i64 x]
def ndV (n : Nd) (A : Option Addr) (ca : Nat) (B : Option Addr) (cb : Nat) : Value := .agg #[.int .i64 n.kind, .slice A n.refs.length ca, .slice B n.nums.length cb, .string ⟨n.text.toArray⟩]
def At4 (w : World) (g o : Nat) (n : Nd) (A : Option Addr) (ca : Nat) (B : Option Addr) (cb : Nat) : Prop :=
  w.cell? ⟨g, o, none⟩ = some (.int .i64 n.kind) ∧ w.cell? ⟨g, o + 1, none⟩ = some (.slice A n.refs.length ca) ∧ w.cell? ⟨g, o + 2, none⟩ = some (.slice B n.nums.length cb) ∧ w.cell? ⟨g, o + 3, none⟩ = some (.string ⟨n.text.toArray⟩)
theorem At4.kept {w w' : World} {P : Nat → Prop} {g o : Nat} {n : Nd} {A B : Option Addr} {ca cb : Nat} (h : At4 w g o n A ca B cb) (hk : Kept w w' P) (hp : P g) : At4 w' g o n A ca B cb :=
  ⟨hk.cell hp h.1, hk.cell hp h.2.1, hk.cell hp h.2.2.1, hk.cell hp h.2.2.2⟩
structure NdM where
  n : Nd
  A : Option Addr
  ca : Nat
  B : Option Addr
  cb : Nat
deriving Inhabited
def ndW (q : NdM) : List Value := [.int .i64 q.n.kind, .slice q.A q.n.refs.length q.ca, .slice q.B q.n.nums.length q.cb, .string ⟨q.n.text.toArray⟩]
def RowN (w : World) (P : Nat → Prop) (A : Option Addr) (l : List Nd) : Prop := l = [] ∨ ∃ g o, A = some ⟨g, o, none⟩ ∧ P g ∧ g < w.heap.size ∧
  ∀ (i : Nat) (n : Nd), l[i]? = some n → ∃ B cb C cc, At4 w g (o + i * 4) n B cb C cc ∧ RowI w P B n.refs ∧ RowI w P C n.nums
theorem RowN.kept {w w' : World} {P : Nat → Prop} {A : Option Addr} {l : List Nd} (h : RowN w P A l) (hk : Kept w w' P) : RowN w' P A l := by
  rcases h with h | ⟨g, o, rfl, hp, hl, hc⟩
  · exact .inl h
  · refine .inr ⟨g, o, rfl, hp, Nat.lt_of_lt_of_le hl hk.size, fun i n hi => ?_⟩
    obtain ⟨B, cb, C, cc, h4, hr, hn⟩ := hc i n hi
    exact ⟨B, cb, C, cc, h4.kept hk hp, hr.kept hk, hn.kept hk⟩
theorem RowN.mono {w : World} {P Q : Nat → Prop} {A : Option Addr} {l : List Nd} (h : RowN w P A l) (hpq : ∀ g, P g → g < w.heap.size → Q g) : RowN w Q A l := by
  rcases h with h | ⟨g, o, rfl, hp, hl, hc⟩
  · exact .inl h
  · refine .inr ⟨g, o, rfl, hpq g hp hl, hl, fun i n hi => ?_⟩
    obtain ⟨B, cb, C, cc, h4, hr, hn⟩ := hc i n hi
    exact ⟨B, cb, C, cc, h4, hr.mono hpq, hn.mono hpq⟩
theorem RowN.below {w w' : World} {P : Nat → Prop} {A : Option Addr} {l : List Nd} (h : RowN w P A l) (hb : Below w.heap.size w w') : RowN w' P A l := h.kept (Kept.of_below hb)
structure ButS (P : Nat → Prop) (w w' : World) : Prop where
  os : w'.os = w.os
  tape : w'.tape = w.tape
  output : w'.output = w.output
  size : w.heap.size ≤ w'.heap.size
  block : ∀ k, k < w.heap.size → ¬ P k → w'.heap[k]? = w.heap[k]?
section
variable {P Q : Nat → Prop} {a b c w w' : World}
theorem ButS.refl (P : Nat → Prop) (w : World) : ButS P w w := ⟨rfl, rfl, rfl, Nat.le_refl _, fun _ _ _ => rfl⟩
theorem ButS.trans' (h : ButS P a b) (k : ButS Q b c) (hq : ∀ g, g < a.heap.size → Q g → P g) : ButS P a c :=
  ⟨k.os.trans h.os, k.tape.trans h.tape, k.output.trans h.output, Nat.le_trans h.size k.size, fun i hi hn => (k.block i (Nat.lt_of_lt_of_le hi h.size) (fun e => hn (hq i hi e))).trans (h.block i hi hn)⟩
theorem ButS.trans (h : ButS P a b) (k : ButS P b c) : ButS P a c := h.trans' k fun _ _ e => e
theorem ButS.of_below (h : Below w.heap.size w w') : ButS P w w' := ⟨h.os, h.tape, h.output, h.size, fun k hk _ => h.block k hk⟩
theorem ButS.alloc (h : ButS P a w) (o : Obj) : ButS P a (w.alloc o) := h.trans (ButS.of_below ((Below.refl _ _).alloc (Nat.le_refl _) o))
theorem ButS.drew (h : ButS P a w) : ButS P a w.drew := ⟨h.os, h.tape, h.output, h.size, h.block⟩
theorem ButS.setCell (h : ButS P a w) {p : Addr} (hp : P p.block ∨ a.heap.size ≤ p.block) (u : Value) : ButS P a (w.setCell p u) := by
  have hb := (Below.refl 0 w).setCell (p := p) (Nat.zero_le _) u
  refine ⟨hb.os.trans h.os, hb.tape.trans h.tape, hb.output.trans h.output, Nat.le_trans h.size hb.size, fun k hk hn => ?_⟩
  rw [Below.heap_setCell w p u k (by rcases hp with hp | hp; exact fun e => hn (e ▸ hp); exact fun e => by omega)]
  exact h.block k hk hn
theorem ButS.drewN (h : ButS P a w) (n : Nat) : ButS P a (w.drewN n) := h.trans (ButS.of_below (below_drewN (Below.refl _ _) n))
theorem ButS.kept (h : ButS P w w') : Kept w w' (fun g => ¬ P g) := ⟨h.size, fun g hp hl => h.block g hl hp⟩
theorem ButS.keptQ (h : ButS P w w') (hpq : ∀ g, Q g → ¬ P g) : Kept w w' Q := ⟨h.size, fun g hp hl => h.block g hl (hpq g hp)⟩
theorem ButS.below {n : Nat} (h : ButS P w w') (hn : ∀ k, k < n → ¬ P k) (hs : n ≤ w.heap.size) : Below n w w' := ⟨h.os, h.tape, h.output, h.size, fun k hk => h.block k (by omega) (hn k hk)⟩
theorem ButS.cell (h : ButS P w w') {p : Addr} {v : Value} (hne : ¬ P p.block) (hv : w.cell? p = some v) : w'.cell? p = some v := by
  rw [World.cell?_of_block (w := w) (h.block p.block (Lib.lt_of_cell hv) hne)]; exact hv
theorem ButS.frozen (h : ButS P w w') {p : Addr} (hne : ¬ P p.block) (hl : p.block < w.heap.size) (hv : w.frozen? p = false) : w'.frozen? p = false := by
  rw [World.frozen?_of_block (w := w) (h.block p.block hl hne)]; exact hv
theorem ButS.grown {row : Option Nat} (h : ButS P a w) (hg : w.grownBy w' row) (hr : ∀ k, row = some k → P k ∨ a.heap.size ≤ k) : ButS P a w' :=
  ⟨hg.os.trans h.os, hg.tape.trans h.tape, hg.output.trans h.output, Nat.le_trans h.size hg.size, fun k hk hn => (hg.block k (Nat.lt_of_lt_of_le hk h.size) (fun e => by rcases hr k e.symm with h' | h'; exact hn h'; omega)).trans (h.block k hk hn)⟩
theorem ButS.mono (h : ButS P a w) (hpq : ∀ g, P g → Q g) : ButS Q a w := ⟨h.os, h.tape, h.output, h.size, fun k hk hn => h.block k hk fun e => hn (hpq k e)⟩
structure MC (w : World) (m room : Nat) (vN vB : Value) : Prop where
  c0 : w.cell? ⟨m, 0, none⟩ = some (.int .i64 (room : Int))
  c1 : w.cell? ⟨m, 1, none⟩ = some vN
  c2 : w.cell? ⟨m, 2, none⟩ = some vB
  fM : ∀ j, w.frozen? ⟨m, j, none⟩ = false
section
variable {m room : Nat} {vN vB : Value}
theorem MC.lt (h : MC w m room vN vB) : m < w.heap.size := Lib.lt_of_cell h.c0
theorem MC.block (h : MC w m room vN vB) (hb : w'.heap[m]? = w.heap[m]?) : MC w' m room vN vB :=
  ⟨by rw [World.cell?_of_block (w := w) hb]; exact h.c0, by rw [World.cell?_of_block (w := w) hb]; exact h.c1, by rw [World.cell?_of_block (w := w) hb]; exact h.c2, fun j => by rw [World.frozen?_of_block (w := w) hb]; exact h.fM j⟩
theorem MC.grown {row : Option Nat} (h : MC w m room vN vB) (hg : w.grownBy w' row) (hr : some m ≠ row) : MC w' m room vN vB := h.block (hg.block m h.lt hr)
theorem MC.below (h : MC w m room vN vB) (hb : Below w.heap.size w w') : MC w' m room vN vB := h.block (hb.block m h.lt)
theorem MC.alloc (h : MC w m room vN vB) (o : Obj) : MC (w.alloc o) m room vN vB := h.below ((Below.refl _ _).alloc (Nat.le_refl _) o)
theorem MC.set (h : MC w m room vN vB) {p : Addr} (hp : p.block ≠ m) (u : Value) : MC (w.setCell p u) m room vN vB := h.block (Below.heap_setCell w p u m fun e => hp e.symm)
theorem MC.set1 (h : MC w m room vN vB) (u : Value) : MC (w.setCell ⟨m, 1, none⟩ u) m room u vB :=
  ⟨by rw [World.cell?_setCell_other _ _ _ _ (by simp)]; exact h.c0, World.cell?_setCell_same _ _ _ h.c1, by rw [World.cell?_setCell_other _ _ _ _ (by simp)]; exact h.c2, fun j => by rw [World.frozen?_setCell]; exact h.fM j⟩
theorem MC.set2 (h : MC w m room vN vB) (u : Value) : MC (w.setCell ⟨m, 2, none⟩ u) m room vN u :=
  ⟨by rw [World.cell?_setCell_other _ _ _ _ (by simp)]; exact h.c0, by rw [World.cell?_setCell_other _ _ _ _ (by simp)]; exact h.c1, World.cell?_setCell_same _ _ _ h.c2, fun j => by rw [World.frozen?_setCell]; exact h.fM j⟩
end
theorem rows_list {g : Nat} {l : List Nd} (h : ∀ (i : Nat) (n : Nd), l[i]? = some n → ∃ B cb C cc, At4 w g (i * 4) n B cb C cc ∧ RowI w P B n.refs ∧ RowI w P C n.nums) :
    ∃ L : List NdM, L.map NdM.n = l ∧ (∀ (i : Nat) (q : NdM), L[i]? = some q → At4 w g (i * 4) q.n q.A q.ca q.B q.cb) ∧ ∀ q ∈ L, RowI w P q.A q.n.refs ∧ RowI w P q.B q.n.nums := by
  have key : ∀ i, i < l.length → ∃ q : NdM, l[i]? = some q.n ∧ At4 w g (i * 4) q.n q.A q.ca q.B q.cb ∧ RowI w P q.A q.n.refs ∧ RowI w P q.B q.n.nums := fun i hi => by
    obtain ⟨B, cb, C, cc, h4, hr, hn⟩ := h i _ (List.getElem?_eq_getElem hi)
    exact ⟨⟨_, B, cb, C, cc⟩, List.getElem?_eq_getElem hi, h4, hr, hn⟩
  obtain ⟨F, hF⟩ : ∃ F : Nat → NdM, ∀ i, i < l.length → l[i]? = some (F i).n ∧ At4 w g (i * 4) (F i).n (F i).A (F i).ca (F i).B (F i).cb ∧ RowI w P (F i).A (F i).n.refs ∧ RowI w P (F i).B (F i).n.nums := by
    refine ⟨fun i => if hi : i < l.length then (key i hi).choose else default, fun i hi => ?_⟩
    simp only [dif_pos hi]
    exact (key i hi).choose_spec
  refine ⟨(List.range l.length).map F, ?_, fun i q hq => ?_, fun q hq => ?_⟩
  · apply List.ext_getElem?
    intro i
    by_cases hi : i < l.length
    · rw [List.getElem?_map, List.getElem?_map, List.getElem?_range hi, (hF i hi).1]; rfl
    · rw [List.getElem?_eq_none_iff.2 (by simp; omega), List.getElem?_eq_none_iff.2 (by omega)]
  · have hi : i < l.length := by have := (List.getElem?_eq_some_iff.1 hq).1; simpa using this
    rw [List.getElem?_map, List.getElem?_range hi] at hq
    obtain rfl := Option.some.inj hq
    exact (hF i hi).2.1
  · obtain ⟨i, hi, rfl⟩ := List.mem_map.1 hq
    exact (hF i (List.mem_range.1 hi)).2.2
theorem list_rows {g : Nat} {L : List NdM} (h : ∀ (i : Nat) (q : NdM), L[i]? = some q → At4 w g (i * 4) q.n q.A q.ca q.B q.cb) (hr : ∀ q ∈ L, RowI w P q.A q.n.refs ∧ RowI w P q.B q.n.nums) :
    ∀ (i : Nat) (n : Nd), (L.map NdM.n)[i]? = some n → ∃ B cb C cc, At4 w g (i * 4) n B cb C cc ∧ RowI w P B n.refs ∧ RowI w P C n.nums := fun i n hi => by
  rw [List.getElem?_map] at hi
  cases hq : L[i]? with
  | none => rw [hq] at hi; cases hi
  | some q =>
    rw [hq] at hi
    obtain rfl := Option.some.inj hi
    exact ⟨_, _, _, _, h i q hq, hr q (List.mem_of_getElem? hq)⟩
end
end Go.Proofs.YtjgadggehpmdkaaGreatDoor
namespace Go.Proofs.YtjgadggehpmdkaaGreatDoor
open Go.ChangeShapes Go.WideShapes Go.RowKit Go.Deep
section
variable {H : Type} {enc : TypeId × Value → H} {w : World} {base : Nat} {spare : Nat → Bool} {held : Bool}
set_option maxRecDepth 100000 in
theorem trod_rows {α : Type} [Inhabited α] {fuel : Nat} {c : Value} {x : DataW H × List MemPlace} {ts te : TypeId} {k : Nat} (f : α → List Value) (Ok : α → Prop) (hf : ∀ q, (f q).length = k)
    (hts : Tryz.prog.underlying ts = some (.slice te)) (hk : Tryz.prog.cellsOf te = k) (hk0 : 0 < k)
    (hel : ∀ {fuel : Nat} {cs : List Value} {x : DataW H × List MemPlace}, cs.length = k → DataW.trod enc Tryz.prog w base spare held fuel te cs = some x → ∃ q, cs = f q ∧ Ok q)
    (h : DataW.trod enc Tryz.prog w base spare held fuel ts [c] = some x) :
    ∃ (l : List α) (A : Option Addr) (cap : Nat), c = .slice A l.length cap ∧ l.length ≤ maxLen ∧ (∀ q ∈ l, Ok q) ∧ (l ≠ [] → ∃ g o, A = some ⟨g, o, none⟩ ∧ AtR f k w g o l) := by
  rcases DataW.trod_slice hts h with ⟨e5, _⟩ | ⟨ad, len, cap, el, rs, n4, rfl, e5, _, _, hlc, hcm, hle, helem, _, _⟩
  · simp only [List.cons.injEq, and_true] at e5
    exact ⟨([] : List α), none, 0, e5, by simp, by simp, fun hh => absurd rfl hh⟩
  · simp only [List.cons.injEq, and_true] at e5
    have key : ∀ i, i < len → ∃ q : α, (∀ (j : Nat) (u : Value), (f q)[j]? = some u → w.cell? ((ad.add (i * k)).add j) = some u) ∧ Ok q := by
      intro i hi
      have h1 := helem i hi
      rw [hk] at h1
      obtain ⟨y, hy⟩ : ∃ y, el[i]? = some y := ⟨el[i]'(by omega), List.getElem?_eq_getElem (by omega)⟩
      rw [hy] at h1
      obtain ⟨ce, hce, hte⟩ := Option.bind_eq_some_iff.1 h1
      obtain ⟨_, hcl, hcell⟩ := World.cells?_some hce
      obtain ⟨q, rfl, hq⟩ := hel hcl hte
      refine ⟨q, fun j u hj => ?_, hq⟩
      have hjl : j < k := by rw [← hf q]; exact (List.getElem?_eq_some_iff.1 hj).1
      rw [hcell j hjl]; exact hj
    obtain ⟨Q, hQ⟩ := choose_lt key
    refine ⟨(List.range len).map Q, some ad, cap, by simpa using e5, by simp; omega, fun q hq => ?_, fun hne => ?_⟩
    · obtain ⟨i, hi, rfl⟩ := List.mem_map.1 hq
      exact (hQ i (List.mem_range.1 hi)).2
    · have hpos : 0 < len := by
        cases len with
        | zero => simp at hne
        | succ k => omega
      obtain ⟨g, o, spot⟩ := ad
      have hspot : spot = none := by
        obtain ⟨u, hu⟩ : ∃ u, (f (Q 0))[0]? = some u := ⟨(f (Q 0))[0]'(by rw [hf]; exact hk0), List.getElem?_eq_getElem (by rw [hf]; exact hk0)⟩
        have h00 := (hQ 0 hpos).1 0 u hu
        simpa [Addr.add] using World.cell?_spot h00
      subst hspot
      refine ⟨g, o, rfl, fun i q hi j u hj => ?_⟩
      have hlt : i < len := by
        have := (List.getElem?_eq_some_iff.1 hi).1
        simpa using this
      have hq : Q i = q := by simpa [hlt] using hi
      have := (hQ i hlt).1 j u (by rw [hq]; exact hj)
      rwa [add_plain, add_plain] at this
theorem rowI_of {A : Option Addr} {l : List Int} (h : l ≠ [] → ∃ g o, A = some ⟨g, o, none⟩ ∧ AtR inW 1 w g o l) : RowI w (fun _ => True) A l := by
  cases l with
  | nil => exact .inl rfl
  | cons a l =>
    obtain ⟨g, o, rfl, ha⟩ := h (by simp)
    have hc : ∀ (i : Nat) (x : Int), (a :: l)[i]? = some x → w.cell? ⟨g, o + i, none⟩ = some (.int .i64 x) := fun i x hi => by
      have := ha i x hi 0 _ rfl
      simpa using this
    exact .inr ⟨g, o, rfl, trivial, Lib.lt_of_cell (hc 0 a rfl), hc⟩
theorem trod_ints {fuel : Nat} {c : Value} {x : DataW H × List MemPlace} (h : DataW.trod enc Tryz.prog w base spare held fuel 32 [c] = some x) :
    ∃ (l : List Int) (A : Option Addr) (cap : Nat), c = .slice A l.length cap ∧ l.length ≤ maxLen ∧ B64s l ∧ RowI w (fun _ => True) A l := by
  obtain ⟨l, A, cap, e, hl, ho, ha⟩ := trod_rows inW (fun x => -9223372036854775808 ≤ x ∧ x ≤ 9223372036854775807) (fun _ => rfl) Tryz.underlying32 (by kernel_rfl : Tryz.prog.cellsOf 3 = 1) (by decide) (fun {fuel cs x} hl ht => by
    match cs, hl with
    | [c0], _ =>
      obtain ⟨a, h0, _, wa⟩ := DataW.trod_int Tryz.underlying3 ht
      simp at h0
      subst h0
      have e1 : IntKind.i64.min = -9223372036854775808 := rfl
      have e2 : IntKind.i64.max = 9223372036854775807 := rfl
      simp [Lit.wf, e1, e2] at wa
      exact ⟨a, rfl, wa⟩) h
  exact ⟨l, A, cap, e, hl, ho, rowI_of ha⟩
def OkN (n : Nd) : Prop := n.refs.length ≤ maxLen ∧ n.nums.length ≤ maxLen ∧ B64s n.refs ∧ n.text.length ≤ maxLen ∧ B64s n.nums ∧ -9223372036854775808 ≤ n.kind ∧ n.kind ≤ 9223372036854775807
theorem rowN_of {A : Option Addr} {l : List NdM} (ho : ∀ q ∈ l, RowI w (fun _ => True) q.A q.n.refs ∧ RowI w (fun _ => True) q.B q.n.nums) (h : l ≠ [] → ∃ g o, A = some ⟨g, o, none⟩ ∧ AtR ndW 4 w g o l) : RowN w (fun _ => True) A (l.map NdM.n) := by
  cases l with
  | nil => exact .inl rfl
  | cons a l =>
    obtain ⟨g, o, rfl, ha⟩ := h (by simp)
    refine .inr ⟨g, o, rfl, trivial, ?_, fun i n hi => ?_⟩
    · exact Lib.lt_of_cell (ha 0 a rfl 0 _ rfl)
    · rw [List.getElem?_map] at hi
      cases hq : (a :: l)[i]? with
      | none => rw [hq] at hi; cases hi
      | some q =>
        rw [hq] at hi
        obtain rfl := Option.some.inj hi
        have h0 := ha i q hq 0 _ rfl
        have h1 := ha i q hq 1 _ rfl
        have h2 := ha i q hq 2 _ rfl
        have h3 := ha i q hq 3 _ rfl
        have := ho q (List.mem_of_getElem? hq)
        exact ⟨q.A, q.ca, q.B, q.cb, ⟨h0, h1, h2, h3⟩, this.1, this.2⟩
end
end Go.Proofs.YtjgadggehpmdkaaGreatDoor
