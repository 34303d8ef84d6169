/- Texts joined: OpR, Ret, Mem, NdA, NdC. -/
import Derived.Test.YtjgjacihdggimaaGreatDoorProg
import Derived.WalkKit
import Derived.OpenShut
import Derived.Deep.Slices
import Derived.Deep.SlicePairs
import Derived.ChangeSame
import Derived.WalkSmall
import Derived.Lib.Hide
import Derived.Lib.AtoiErrMem
import Derived.Deep.CutRange
set_option linter.all false
namespace Go.Proofs.YtjgjacihdggimaaGreatDoor
open Go.ChangeShapes Go.WideShapes Go.RowKit Go.Deep
section
variable {H : Type} {enc : TypeId × Value → H} {w : World} {base : Nat} {spare : Nat → Bool} {held : Bool}
def AtR {α : Type} (f : α → List Value) (k : Nat) (w : World) (g o : Nat) (l : List α) : Prop := ∀ (i : Nat) (q : α), l[i]? = some q → ∀ (j : Nat) (u : Value), (f q)[j]? = some u → w.cell? ⟨g, o + i * k + j, none⟩ = some u
set_option maxRecDepth 100000 in
theorem open_rows {α : Type} [Inhabited α] {r : Reach} {b0 : Nat} {v : Value} {d : DataW H} {p : List MemPlace} {ts te : TypeId} {k : Nat} (f : α → List Value) (Ok : α → Prop) (hf : ∀ q, (f q).length = k)
    (hts : Tryz.prog.underlying ts = some (.slice te)) (hk : Tryz.prog.cellsOf te = k) (hk0 : 0 < k)
    (hel : ∀ {fuel : Nat} {cs : List Value} {x : DataW H × List MemPlace}, cs.length = k → DataW.trod enc Tryz.prog w base spare held fuel te cs = some x → ∃ q, cs = f q ∧ Ok q)
    (hv : Value.okWide Tryz.prog w r b0 ts v) (h : DataW.Trod enc Tryz.prog w base spare held ts v d p) :
    ∃ (l : List α) (A : Option Addr) (cap : Nat), v = .slice A l.length cap ∧ l.length ≤ maxLen ∧ (∀ q ∈ l, Ok q) ∧ (l ≠ [] → ∃ g o, A = some ⟨g, o, none⟩ ∧ AtR f k w g o l) := by
  obtain ⟨a0, len, cap, rfl⟩ := okWide_slice hts hv
  obtain ⟨fuel, hfu⟩ := h
  rcases DataW.trod_slice hts hfu with ⟨e5, _⟩ | ⟨ad, len', cap', el, rs, n4, rfl, e5, _, _, hlc, hcm, hle, helem, _, _⟩
  · simp [Value.cells] at e5
    obtain ⟨rfl, rfl, rfl⟩ := e5
    exact ⟨([] : List α), none, 0, rfl, by simp, by simp, fun hh => absurd rfl hh⟩
  · simp [Value.cells] at e5
    obtain ⟨rfl, rfl, rfl⟩ := e5
    have key : ∀ i, i < len → ∃ q : α, (∀ (j : Nat) (u : Value), (f q)[j]? = some u → w.cell? ((ad.add (i * k)).add j) = some u) ∧ Ok q := by
      intro i hi
      have h1 := helem i hi
      rw [hk] at h1
      obtain ⟨y, hy⟩ : ∃ y, el[i]? = some y := ⟨el[i]'(by omega), List.getElem?_eq_getElem (by omega)⟩
      rw [hy] at h1
      obtain ⟨ce, hce, hte⟩ := Option.bind_eq_some_iff.1 h1
      obtain ⟨_, hcl, hcell⟩ := World.cells?_some hce
      obtain ⟨q, rfl, hq⟩ := hel hcl hte
      refine ⟨q, fun j u hj => ?_, hq⟩
      have hjl : j < k := by rw [← hf q]; exact (List.getElem?_eq_some_iff.1 hj).1
      rw [hcell j hjl]; exact hj
    obtain ⟨Q, hQ⟩ := choose_lt key
    refine ⟨(List.range len).map Q, some ad, cap, by simp, by simp; omega, fun q hq => ?_, fun hne => ?_⟩
    · obtain ⟨i, hi, rfl⟩ := List.mem_map.1 hq
      exact (hQ i (List.mem_range.1 hi)).2
    · have hpos : 0 < len := by
        cases len with
        | zero => simp at hne
        | succ k => omega
      obtain ⟨g, o, spot⟩ := ad
      have hspot : spot = none := by
        obtain ⟨u, hu⟩ : ∃ u, (f (Q 0))[0]? = some u := ⟨(f (Q 0))[0]'(by rw [hf]; exact hk0), List.getElem?_eq_getElem (by rw [hf]; exact hk0)⟩
        have h00 := (hQ 0 hpos).1 0 u hu
        simpa [Addr.add] using World.cell?_spot h00
      subst hspot
      refine ⟨g, o, rfl, fun i q hi j u hj => ?_⟩
      have hlt : i < len := by
        have := (List.getElem?_eq_some_iff.1 hi).1
        simpa using this
      have hq : Q i = q := by simpa [hlt] using hi
      have := (hQ i hlt).1 j u (by rw [hq]; exact hj)
      rwa [add_plain, add_plain] at this
end
end Go.Proofs.YtjgjacihdggimaaGreatDoor
namespace Go.Proofs.YtjgjacihdggimaaGreatDoor
theorem ret_bool {a b : Bool} (h : a = b) : Ending.returned (.bool a) = .returned (.bool b) := by rw [h]
end Go.Proofs.YtjgjacihdggimaaGreatDoor
namespace Go.Proofs.YtjgjacihdggimaaGreatDoor
open Go.RowKit
theorem keep_cell {W w1 : World} (hb : Below W.heap.size W w1) {p : Addr} {v : Value} (h : W.cell? p = some v) : w1.cell? p = some v := by
  rw [hb.cell (Lib.lt_of_cell h)]; exact h
theorem keep_frozen {W w1 : World} (hb : Below W.heap.size W w1) {p : Addr} (hp : p.block < W.heap.size) (h : W.frozen? p = false) : w1.frozen? p = false := by
  rw [hb.frozen hp]; exact h

end Go.Proofs.YtjgjacihdggimaaGreatDoor
namespace Go.Proofs.YtjgjacihdggimaaGreatDoor
structure Nd where
  kind : Int
  refs : List Int
  nums : List Int
  text : List UInt8
deriving Inhabited, DecidableEq
abbrev Sh := List (Option Nd)
def ndAt (s : Sh) (h : Int) : Option Nd := if 0 < h then (s[(h - 1).toNat]?).getD none else none
theorem ndAt_succ (s : Sh) (i : Nat) : ndAt s ((i : Int) + 1) = (s[i]?).getD none := by
  unfold ndAt
  rw [if_pos (by omega), show ((i : Int) + 1 - 1).toNat = i by omega]
theorem ndAt_some {s : Sh} {h : Int} {n : Nd} (e : ndAt s h = some n) : ∃ i : Nat, h = (i : Int) + 1 ∧ s[i]? = some (some n) := by
  unfold ndAt at e
  split at e
  · rename_i hp
    refine ⟨(h - 1).toNat, by omega, ?_⟩
    cases hq : s[(h - 1).toNat]? with
    | none => rw [hq] at e; cases e
    | some o => rw [hq] at e; exact congrArg some e
  · cases e
theorem ndAt_none {s : Sh} {i : Nat} (e : s.length ≤ i) : ndAt s ((i : Int) + 1) = none := by
  rw [ndAt_succ, List.getElem?_eq_none_iff.2 e]; rfl
def live (s : Sh) (h : Int) : Bool := (ndAt s h).isSome
theorem live_iff {s : Sh} {h : Int} : live s h = true ↔ ∃ n, ndAt s h = some n := Option.isSome_iff_exists
theorem live_bound {s : Sh} {h : Int} (e : live s h = true) : 1 ≤ h ∧ h ≤ s.length := by
  obtain ⟨n, e⟩ := live_iff.1 e
  obtain ⟨i, rfl, hi⟩ := ndAt_some e
  have := (List.getElem?_eq_some_iff.1 hi).1
  omega
def fnd (s : Sh) (x : Nd) : Nat := match s.findIdx? (fun o => o == some x) with | some i => i + 1 | none => 0
theorem fnd_at {s : Sh} {x : Nd} {i : Nat} (h : s[i]? = some (some x)) (hj : ∀ j : Nat, j < i → s[j]? ≠ some (some x)) : fnd s x = i + 1 := by
  have e : s.findIdx? (fun o => o == some x) = some i := by
    rw [List.findIdx?_eq_some_iff_getElem]
    obtain ⟨hl, he⟩ := List.getElem?_eq_some_iff.1 h
    refine ⟨hl, by rw [he]; simp, fun j hji => ?_⟩
    have hjl : j < s.length := by omega
    have := hj j hji
    rw [List.getElem?_eq_getElem hjl] at this
    simpa using this
  unfold fnd; rw [e]
theorem fnd_none {s : Sh} {x : Nd} (hj : ∀ j : Nat, s[j]? ≠ some (some x)) : fnd s x = 0 := by
  have e : s.findIdx? (fun o => o == some x) = none := by
    rw [List.findIdx?_eq_none_iff]
    intro o ho
    obtain ⟨i, hi⟩ := List.getElem?_of_mem ho
    have := hj i
    rw [hi] at this
    simpa using this
  unfold fnd; rw [e]
theorem fnd_pos {s : Sh} {x : Nd} (h : fnd s x ≠ 0) : ndAt s (fnd s x) = some x := by
  unfold fnd at h ⊢
  cases e : s.findIdx? (fun o => o == some x) with
  | none => rw [e] at h; exact absurd rfl h
  | some i =>
    rw [List.findIdx?_eq_some_iff_getElem] at e
    obtain ⟨hl, hx, _⟩ := e
    show ndAt s ((i + 1 : Nat) : Int) = _
    rw [show ((i + 1 : Nat) : Int) = (i : Int) + 1 by omega, ndAt_succ, List.getElem?_eq_getElem hl]
    simpa using hx
theorem fnd_zero {s : Sh} {x : Nd} (h : fnd s x = 0) (j : Nat) : s[j]? ≠ some (some x) := by
  unfold fnd at h
  cases e : s.findIdx? (fun o => o == some x) with
  | some i => rw [e] at h; cases h
  | none =>
    rw [List.findIdx?_eq_none_iff] at e
    intro hj
    have := e _ (List.mem_of_getElem? hj)
    simp at this
def freeH (s : Sh) : Nat := match s.findIdx? (fun o => o.isNone) with | some i => i + 1 | none => s.length + 1
theorem freeH_cases (s : Sh) : (∃ i, s[i]? = some none ∧ freeH s = i + 1) ∨ (freeH s = s.length + 1 ∧ ∀ j : Nat, s[j]? ≠ some none) := by
  cases e : s.findIdx? (fun o => o.isNone) with
  | some i =>
    refine .inl ⟨i, ?_, by unfold freeH; rw [e]⟩
    rw [List.findIdx?_eq_some_iff_getElem] at e
    obtain ⟨hl, hx, _⟩ := e
    rw [List.getElem?_eq_getElem hl]
    exact congrArg some (Option.isNone_iff_eq_none.1 hx)
  | none =>
    refine .inr ⟨by unfold freeH; rw [e], fun j hj => ?_⟩
    rw [List.findIdx?_eq_none_iff] at e
    have := e _ (List.mem_of_getElem? hj)
    simp at this
theorem freeH_pos (s : Sh) : 1 ≤ freeH s ∧ freeH s ≤ s.length + 1 := by
  rcases freeH_cases s with ⟨i, hi, e⟩ | ⟨e, _⟩
  · have := (List.getElem?_eq_some_iff.1 hi).1
    omega
  · omega
theorem freeH_dead (s : Sh) : ndAt s (freeH s) = none := by
  rcases freeH_cases s with ⟨i, hi, e⟩ | ⟨e, _⟩
  · rw [e, show ((i + 1 : Nat) : Int) = (i : Int) + 1 by omega, ndAt_succ, hi]; rfl
  · rw [e, show ((s.length + 1 : Nat) : Int) = (s.length : Int) + 1 by omega]; exact ndAt_none (Nat.le_refl _)
def setH (s : Sh) (h : Nat) (x : Nd) : Sh := if h ≤ s.length then s.set (h - 1) (some x) else s ++ [some x]
theorem setH_at (s : Sh) (x : Nd) (h : Int) : ndAt (setH s (freeH s) x) h = if h = freeH s then some x else ndAt s h := by
  have hp := freeH_pos s
  by_cases h0 : 0 < h
  · obtain ⟨i, rfl⟩ : ∃ i : Nat, h = (i : Int) + 1 := ⟨(h - 1).toNat, by omega⟩
    rw [ndAt_succ, ndAt_succ]
    unfold setH
    split
    · rename_i hl
      rw [List.getElem?_set]
      by_cases e : freeH s - 1 = i
      · rw [if_pos e, if_pos (by omega), if_pos (by omega)]; rfl
      · rw [if_neg e, if_neg (by omega)]
    · rename_i hl
      have hf : freeH s = s.length + 1 := by omega
      by_cases e : i = s.length
      · subst e
        rw [List.getElem?_append_right (Nat.le_refl _), if_pos (by omega)]; simp
      · rw [if_neg (by omega)]
        by_cases e' : i < s.length
        · rw [List.getElem?_append_left e']
        · rw [List.getElem?_eq_none_iff.2 (by simp; omega), List.getElem?_eq_none_iff.2 (by omega)]
  · unfold ndAt
    rw [if_neg h0, if_neg h0, if_neg (by omega)]
theorem setH_len (s : Sh) (x : Nd) : (setH s (freeH s) x).length ≤ max s.length (freeH s) := by
  have hp := freeH_pos s
  unfold setH
  split
  · rw [List.length_set]; omega
  · rw [List.length_append]; simp; omega
def resolve (out : List Int) (r : Int) : Int := if r < 0 then out.getD (-1 - r).toNat 0 else r
def asPut (out : List Int) (n : Nd) : Nd := ⟨n.kind, n.refs.map (resolve out), n.nums, n.text⟩
def oneA (room : Nat) (s : Sh) (x : Nd) : Option (Sh × Int) :=
  if fnd s x ≠ 0 then some (s, (fnd s x : Int)) else if room < freeH s then none else some (setH s (freeH s) x, (freeH s : Int))
def putL (room : Nat) : Sh → List Int → List Nd → Option (Sh × List Int)
  | s, out, [] => some (s, out)
  | s, out, n :: l => match oneA room s (asPut out n) with
    | none => none
    | some (s', h) => putL room s' (out ++ [h]) l
def okRef (s : Sh) (i : Nat) (r : Int) : Bool := decide (r = 0) || live s r || (decide (r < 0) && decide (-(i : Int) ≤ r))
def wrongF (s : Sh) : Nat → List Nd → Bool
  | _, [] => false
  | i, n :: l => !(n.refs.all (okRef s i)) || wrongF s (i + 1) l
def putA (room : Nat) (s : Sh) (l : List Nd) : Sh × List Int × Nat :=
  if wrongF s 0 l then (s, [], 1) else match putL room s [] l with
    | none => (s, [], 3)
    | some (s', out) => (s', out, 0)
def liveF : Int → Sh → List Int
  | _, [] => []
  | k, none :: s => liveF (k + 1) s
  | k, some _ :: s => k :: liveF (k + 1) s
def liveA (s : Sh) : List Int := liveF 1 s
inductive Rch (s : Sh) (roots : List Int) : Int → Prop
  | root (r : Int) (h : r ∈ roots) (hl : live s r = true) : Rch s roots r
  | ref (h r : Int) (n : Nd) (hr : Rch s roots h) (hn : ndAt s h = some n) (hm : r ∈ n.refs) (hp : 0 < r) : Rch s roots r
open Classical in
noncomputable def leftF (P : Int → Prop) : Int → Sh → Sh
  | _, [] => []
  | k, o :: s => (if P k then o else none) :: leftF P (k + 1) s
noncomputable def leftA (s : Sh) (roots : List Int) : Sh := leftF (Rch s roots) 1 s
noncomputable def reachA (s : Sh) (roots : List Int) : List Int := liveA (leftA s roots)
noncomputable def sweepA (s : Sh) (roots : List Int) : Sh × Nat × Nat :=
  if roots.all (fun r => decide (r = 0) || live s r) then (leftA s roots, (liveA s).length - (reachA s roots).length, 0) else (s, 0, 4)

/- What is always so. -/
structure Inv (room : Nat) (s : Sh) : Prop where
  one : ∀ h k n, ndAt s h = some n → ndAt s k = some n → h = k
  shut : ∀ h n, ndAt s h = some n → ∀ r ∈ n.refs, r = 0 ∨ live s r = true
  len : s.length ≤ room
theorem inv_nil (room : Nat) : Inv room [] := ⟨fun h k n e _ => by unfold ndAt at e; split at e <;> simp at e, fun h n e => by unfold ndAt at e; split at e <;> simp at e, Nat.zero_le _⟩
def Up (s s' : Sh) : Prop := ∀ h n, ndAt s h = some n → ndAt s' h = some n
theorem Up.refl (s : Sh) : Up s s := fun _ _ h => h
theorem Up.trans {a b c : Sh} (h : Up a b) (k : Up b c) : Up a c := fun x n e => k x n (h x n e)
theorem Up.live {s s' : Sh} (h : Up s s') {x : Int} (e : live s x = true) : live s' x = true := by
  obtain ⟨n, e⟩ := live_iff.1 e
  exact live_iff.2 ⟨n, h x n e⟩
theorem one_up {room : Nat} {s s' : Sh} {x : Nd} {h : Int} (e : oneA room s x = some (s', h)) : Up s s' ∧ ndAt s' h = some x := by
  unfold oneA at e
  split at e
  · rename_i hf
    cases e
    exact ⟨Up.refl _, fnd_pos hf⟩
  · split at e
    · cases e
    · cases e
      refine ⟨fun k n hk => ?_, by rw [setH_at, if_pos rfl]⟩
      rw [setH_at, if_neg]
      · exact hk
      · rintro rfl
        rw [freeH_dead] at hk; cases hk
theorem inv_one {room : Nat} {s s' : Sh} {x : Nd} {h : Int} (hi : Inv room s) (hx : ∀ r ∈ x.refs, r = 0 ∨ live s r = true) (e : oneA room s x = some (s', h)) : Inv room s' := by
  have hu := (one_up e).1
  unfold oneA at e
  split at e
  · cases e; exact hi
  · rename_i hf
    have hf0 : fnd s x = 0 := by omega
    have hno : ∀ k, ndAt s k ≠ some x := fun k hk => by
      obtain ⟨i, _, hi'⟩ := ndAt_some hk
      exact fnd_zero hf0 i hi'
    split at e
    · cases e
    · rename_i hr
      cases e
      refine ⟨fun a b n ha hb => ?_, fun a n ha r hm => ?_, ?_⟩
      · rw [setH_at] at ha hb
        split at ha
        · cases ha
          split at hb
          · omega
          · exact absurd hb (hno b)
        · split at hb
          · cases hb; exact absurd ha (hno a)
          · exact hi.one a b n ha hb
      · rw [setH_at] at ha
        split at ha
        · cases ha
          rcases hx r hm with h | h
          · exact .inl h
          · exact .inr (hu.live h)
        · rcases hi.shut a n ha r hm with h | h
          · exact .inl h
          · exact .inr (hu.live h)
      · have h1 := setH_len s x
        have h2 := hi.len
        omega
theorem putL_up {room : Nat} : ∀ {l : List Nd} {s s' : Sh} {out out' : List Int}, putL room s out l = some (s', out') → Up s s' ∧ (∀ (k : Nat) (h : Int), out[k]? = some h → out'[k]? = some h) ∧ out'.length = out.length + l.length
  | [], s, s', out, out', e => by cases e; exact ⟨Up.refl _, fun _ _ h => h, rfl⟩
  | n :: l, s, s', out, out', e => by
    rw [putL] at e
    cases h1 : oneA room s (asPut out n) with
    | none => rw [h1] at e; cases e
    | some q =>
      obtain ⟨s1, h⟩ := q
      rw [h1] at e
      obtain ⟨u, k, c⟩ := putL_up e
      refine ⟨(one_up h1).1.trans u, fun i y hi => k i y ?_, by rw [c]; simp; omega⟩
      rw [List.getElem?_append_left (List.getElem?_eq_some_iff.1 hi).1]; exact hi
theorem putL_at {room : Nat} : ∀ {l : List Nd} {s s' : Sh} {out out' : List Int}, putL room s out l = some (s', out') → ∀ (i : Nat) (n : Nd), l[i]? = some n → ∃ h x, out'[out.length + i]? = some h ∧ ndAt s' h = some x ∧ x.kind = n.kind ∧ x.text = n.text
  | [], s, s', out, out', e, i, n, hi => by simp at hi
  | m :: l, s, s', out, out', e, i, n, hi => by
    rw [putL] at e
    cases h1 : oneA room s (asPut out m) with
    | none => rw [h1] at e; cases e
    | some q =>
      obtain ⟨s1, h⟩ := q
      rw [h1] at e
      cases i with
      | zero =>
        cases (show some m = some n by simpa using hi)
        obtain ⟨u, k, c⟩ := putL_up e
        exact ⟨h, _, k _ _ (by simp), u _ _ (one_up h1).2, rfl, rfl⟩
      | succ i =>
        have := putL_at e i n (by simpa using hi)
        rw [List.length_append] at this
        simp only [List.length_cons, List.length_nil] at this
        rw [show out.length + (i + 1) = out.length + (0 + 1) + i by omega]
        exact this
theorem okRef_res {s s' : Sh} (hu : Up s s') {out : List Int} (ho : ∀ h ∈ out, live s' h = true) {r : Int} (h : okRef s out.length r = true) : resolve out r = 0 ∨ live s' (resolve out r) = true := by
  unfold okRef at h
  unfold resolve
  simp only [Bool.or_eq_true, decide_eq_true_eq, Bool.and_eq_true] at h
  rcases h with (h | h) | h
  · subst h; exact .inl rfl
  · rw [if_neg (by have := live_bound h; omega)]; exact .inr (hu.live h)
  · rw [if_pos h.1]
    have hl : (-1 - r).toNat < out.length := by omega
    refine .inr (ho _ ?_)
    rw [List.getD_eq_getElem?_getD, List.getElem?_eq_getElem hl]
    exact List.getElem_mem hl
theorem inv_putL {room : Nat} {s0 : Sh} : ∀ {l : List Nd} {s s' : Sh} {out out' : List Int}, Inv room s → Up s0 s → (∀ h ∈ out, live s h = true) → wrongF s0 out.length l = false → putL room s out l = some (s', out') → Inv room s' ∧ ∀ h ∈ out', live s' h = true
  | [], s, s', out, out', hi, hu, ho, hw, e => by cases e; exact ⟨hi, ho⟩
  | n :: l, s, s', out, out', hi, hu, ho, hw, e => by
    rw [putL] at e
    rw [wrongF] at hw
    simp only [Bool.or_eq_false_iff, Bool.not_eq_false', List.all_eq_true] at hw
    cases h1 : oneA room s (asPut out n) with
    | none => rw [h1] at e; cases e
    | some q =>
      obtain ⟨s1, h⟩ := q
      rw [h1] at e
      obtain ⟨u1, a1⟩ := one_up h1
      have hx : ∀ r ∈ (asPut out n).refs, r = 0 ∨ live s r = true := by
        intro r hr
        obtain ⟨r0, hm, rfl⟩ := List.mem_map.1 hr
        exact okRef_res hu ho (hw.1 r0 hm)
      refine inv_putL (out := out ++ [h]) (inv_one hi hx h1) (hu.trans u1) ?_ (by simpa using hw.2) e
      intro k hk
      rcases List.mem_append.1 hk with hk | hk
      · exact u1.live (ho k hk)
      · rw [List.mem_singleton.1 hk]; exact live_iff.2 ⟨_, a1⟩
theorem inv_put {room : Nat} {s : Sh} (hi : Inv room s) (l : List Nd) : Inv room (putA room s l).1 ∧ Up s (putA room s l).1 := by
  unfold putA
  split
  · exact ⟨hi, Up.refl _⟩
  · rename_i hw
    split
    · exact ⟨hi, Up.refl _⟩
    · rename_i s' out e
      exact ⟨(inv_putL (s0 := s) (out := []) hi (Up.refl _) (fun _ h => by cases h) (by simpa using hw) e).1, (putL_up e).1⟩
theorem put_ok {room : Nat} {s : Sh} {l : List Nd} (h : (putA room s l).2.2 = 0) : (putA room s l).2.1.length = l.length ∧ ∀ (i : Nat) (n : Nd), l[i]? = some n → ∃ h x, (putA room s l).2.1[i]? = some h ∧ ndAt (putA room s l).1 h = some x ∧ x.kind = n.kind ∧ x.text = n.text := by
  unfold putA at h ⊢
  split at h
  · cases h
  · rename_i hw
    rw [if_neg hw]
    split at h
    · cases h
    · rename_i s' out e
      refine ⟨by simpa using (putL_up e).2.2, fun i n hi => ?_⟩
      have := putL_at e i n hi
      simpa using this
theorem put_no {room : Nat} {s : Sh} {l : List Nd} (h : (putA room s l).2.2 ≠ 0) : (putA room s l).2.1 = [] ∧ (putA room s l).1 = s := by
  unfold putA at h ⊢
  split
  · exact ⟨rfl, rfl⟩
  · rename_i hw
    rw [if_neg hw] at h
    split
    · exact ⟨rfl, rfl⟩
    · rename_i s' out e
      rw [e] at h
      exact absurd rfl h

/- A sweep. -/
theorem leftF_at (P : Int → Prop) : ∀ (s : Sh) (k : Int) (i : Nat), (leftF P k s)[i]? = (s[i]?).map (fun o => open Classical in if P (k + i) then o else none)
  | [], k, i => by rw [leftF]; simp
  | o :: s, k, 0 => by
    rw [leftF]
    have e : k + ((0 : Nat) : Int) = k := by omega
    simp only [List.getElem?_cons_zero, Option.map_some]
    rw [e]
  | o :: s, k, i + 1 => by
    rw [leftF]
    simp only [List.getElem?_cons_succ]
    rw [leftF_at P s (k + 1) i, show k + 1 + (i : Int) = k + ((i + 1 : Nat) : Int) by omega]
theorem leftF_len (P : Int → Prop) : ∀ (s : Sh) (k : Int), (leftF P k s).length = s.length
  | [], _ => rfl
  | _ :: s, k => by rw [leftF, List.length_cons, leftF_len P s, List.length_cons]
theorem rch_live {room : Nat} {s : Sh} (hi : Inv room s) {roots : List Int} {h : Int} (e : Rch s roots h) : live s h = true := by
  induction e with
  | root r _ hl => exact hl
  | ref h r n _ hn hm hp _ =>
    rcases hi.shut h n hn r hm with e | e
    · omega
    · exact e
theorem left_at (s : Sh) (roots : List Int) (h : Int) : ndAt (leftA s roots) h = (open Classical in if Rch s roots h then ndAt s h else none) := by
  by_cases h0 : 0 < h
  · obtain ⟨i, rfl⟩ : ∃ i : Nat, h = (i : Int) + 1 := ⟨(h - 1).toNat, by omega⟩
    rw [ndAt_succ, ndAt_succ]
    unfold leftA
    rw [leftF_at, show (1 : Int) + (i : Int) = (i : Int) + 1 by omega]
    cases s[i]? with
    | none => simp
    | some o => simp
  · unfold ndAt
    rw [if_neg h0, if_neg h0]; simp
theorem left_live {room : Nat} {s : Sh} (hi : Inv room s) (roots : List Int) (h : Int) : live (leftA s roots) h = true ↔ Rch s roots h := by
  unfold live
  rw [left_at]
  by_cases e : Rch s roots h
  · rw [if_pos e]; exact ⟨fun _ => e, fun _ => rch_live hi e⟩
  · rw [if_neg e]; exact ⟨fun h => (Bool.false_ne_true h).elim, fun h => absurd h e⟩
theorem sh_ext {s t : Sh} (hl : s.length = t.length) (h : ∀ x, ndAt s x = ndAt t x) : s = t := by
  apply List.ext_getElem? 
  intro i
  by_cases hi : i < s.length
  · have h1 := h ((i : Int) + 1)
    rw [ndAt_succ, ndAt_succ, List.getElem?_eq_getElem hi, List.getElem?_eq_getElem (hl ▸ hi)] at h1
    rw [List.getElem?_eq_getElem hi, List.getElem?_eq_getElem (hl ▸ hi)]
    exact congrArg some h1
  · rw [List.getElem?_eq_none_iff.2 (by omega), List.getElem?_eq_none_iff.2 (by omega)]
theorem liveF_mem : ∀ (s : Sh) (k h : Int), h ∈ liveF k s ↔ ∃ (i : Nat) (n : Nd), h = k + i ∧ s[i]? = some (some n)
  | [], k, h => by rw [liveF]; simp
  | o :: s, k, h => by
    have ih := liveF_mem s (k + 1) h
    have key : (∃ (i : Nat) (n : Nd), h = k + i ∧ (o :: s)[i]? = some (some n)) ↔ (h = k ∧ ∃ n, o = some n) ∨ ∃ (i : Nat) (n : Nd), h = k + 1 + i ∧ s[i]? = some (some n) := by
      constructor
      · rintro ⟨i, n, e, hi⟩
        cases i with
        | zero => exact .inl ⟨by omega, n, by simpa using hi⟩
        | succ i => exact .inr ⟨i, n, by omega, by simpa using hi⟩
      · rintro (⟨rfl, n, rfl⟩ | ⟨i, n, e, hi⟩)
        · exact ⟨0, n, by simp, by simp⟩
        · exact ⟨i + 1, n, by omega, by simpa using hi⟩
    rw [key]
    cases o with
    | none => rw [liveF, ih]; simp
    | some n => rw [liveF, List.mem_cons, ih]; simp
theorem liveA_mem {s : Sh} {h : Int} : h ∈ liveA s ↔ live s h = true := by
  unfold liveA
  rw [liveF_mem, live_iff]
  constructor
  · rintro ⟨i, n, rfl, hi⟩
    exact ⟨n, by rw [show (1 : Int) + (i : Int) = (i : Int) + 1 by omega, ndAt_succ, hi]; rfl⟩
  · rintro ⟨n, hn⟩
    obtain ⟨i, rfl, hi⟩ := ndAt_some hn
    exact ⟨i, n, by omega, hi⟩
theorem liveF_len : ∀ (s : Sh) (k : Int), (liveF k s).length ≤ s.length
  | [], _ => by rw [liveF]; exact Nat.le_refl _
  | none :: s, k => by rw [liveF]; have := liveF_len s (k + 1); simp; omega
  | some _ :: s, k => by rw [liveF]; have := liveF_len s (k + 1); simp; omega
theorem leftF_live (P : Int → Prop) : ∀ (s : Sh) (k : Int), (liveF k (leftF P k s)).length ≤ (liveF k s).length
  | [], _ => by rw [leftF]; exact Nat.le_refl _
  | none :: s, k => by
    rw [leftF]
    have := leftF_live P s (k + 1)
    split <;> simpa [liveF] using this
  | some n :: s, k => by
    rw [leftF]
    have := leftF_live P s (k + 1)
    split
    · simpa [liveF] using this
    · rw [liveF, liveF, List.length_cons]; omega
theorem left_len (s : Sh) (roots : List Int) : (reachA s roots).length ≤ (liveA s).length := leftF_live _ _ _
end Go.Proofs.YtjgjacihdggimaaGreatDoor
namespace Go.Proofs.YtjgjacihdggimaaGreatDoor
def pick (n : Nd) (b : Bool) : Option Nd := if b then some n else none
def stOf (nds : List Nd) (bs : List Bool) : Sh := (List.zipWith pick nds bs).drop 1
theorem st_at {nds : List Nd} {bs : List Bool} (i : Nat) {n : Nd} {b : Bool} (hn : nds[i + 1]? = some n) (hb : bs[i + 1]? = some b) : (stOf nds bs)[i]? = some (pick n b) := by
  unfold stOf
  rw [List.getElem?_drop, Nat.add_comm 1 i, List.getElem?_zipWith, hn, hb]
theorem st_len {nds : List Nd} {bs : List Bool} (hl : nds.length = bs.length) : (stOf nds bs).length = bs.length - 1 := by
  unfold stOf
  rw [List.length_drop, List.length_zipWith, hl, Nat.min_self]
theorem st_ext {nds nds' : List Nd} {bs : List Bool} (hl : nds.length = bs.length) (hl' : nds'.length = bs.length) (h : ∀ j : Nat, bs[j]? = some true → nds'[j]? = nds[j]?) : stOf nds' bs = stOf nds bs := by
  apply List.ext_getElem?
  intro i
  by_cases hi : i + 1 < bs.length
  · have h1 := List.getElem?_eq_getElem (l := bs) hi
    have h2 := List.getElem?_eq_getElem (l := nds) (i := i + 1) (by omega)
    have h3 := List.getElem?_eq_getElem (l := nds') (i := i + 1) (by omega)
    rw [st_at i h2 h1, st_at i h3 h1]
    cases hb : bs[i + 1] with
    | false => rfl
    | true =>
      have := h (i + 1) (by rw [h1, hb])
      rw [h2, h3] at this
      rw [Option.some.inj this]
  · rw [List.getElem?_eq_none_iff.2 (by rw [st_len hl']; omega), List.getElem?_eq_none_iff.2 (by rw [st_len hl]; omega)]
theorem st_set (nds : List Nd) (bs : List Bool) (hl : nds.length = bs.length) (i : Nat) (hi : i + 1 < bs.length) (x : Nd) : stOf (nds.set (i + 1) x) (bs.set (i + 1) true) = (stOf nds bs).set i (some x) := by
  apply List.ext_getElem?
  intro j
  by_cases hj : j + 1 < bs.length
  · by_cases e : i = j
    · subst e
      rw [st_at i (n := x) (b := true) (by rw [List.getElem?_set_self (by omega)]) (by rw [List.getElem?_set_self (by omega)]), List.getElem?_set_self (by rw [st_len hl]; omega)]; rfl
    · have h1 := List.getElem?_eq_getElem (l := bs) hj
      have h2 := List.getElem?_eq_getElem (l := nds) (i := j + 1) (by omega)
      rw [st_at j (n := nds[j + 1]) (b := bs[j + 1]) (by rw [List.getElem?_set_ne (by omega)]; exact h2) (by rw [List.getElem?_set_ne (by omega)]; exact h1), List.getElem?_set_ne e, st_at j h2 h1]
  · rw [List.getElem?_eq_none_iff.2 (by rw [st_len (by simpa using hl), List.length_set]; omega), List.getElem?_eq_none_iff.2 (by rw [List.length_set, st_len hl]; omega)]
theorem st_snoc (nds : List Nd) (bs : List Bool) (hl : nds.length = bs.length) (h1 : 1 ≤ bs.length) (d : Nd) : stOf (nds ++ [d]) (bs ++ [false]) = stOf nds bs ++ [none] := by
  unfold stOf
  rw [List.zipWith_append hl]
  simp only [List.zipWith_cons_cons, List.zipWith_nil_left]
  rw [List.drop_append_of_le_length (by rw [List.length_zipWith]; omega)]
  rfl
def tru : Int → List Bool → List Int
  | _, [] => []
  | k, true :: l => k :: tru (k + 1) l
  | k, false :: l => tru (k + 1) l
theorem tru_snoc : ∀ (l : List Bool) (k : Int) (b : Bool), tru k (l ++ [b]) = tru k l ++ (if b then [k + l.length] else [])
  | [], k, b => by cases b <;> simp [tru]
  | true :: l, k, b => by
    rw [List.cons_append, tru, tru, tru_snoc l (k + 1) b, show k + 1 + (l.length : Int) = k + ((true :: l).length : Int) by simp; omega]; rfl
  | false :: l, k, b => by
    rw [List.cons_append, tru, tru, tru_snoc l (k + 1) b, show k + 1 + (l.length : Int) = k + ((false :: l).length : Int) by simp; omega]
theorem tru_take {l : List Bool} {i : Nat} {b : Bool} (h : l[i]? = some b) (k : Int) : tru k (l.take (i + 1)) = tru k (l.take i) ++ (if b then [k + i] else []) := by
  obtain ⟨hl, hb⟩ := List.getElem?_eq_some_iff.1 h
  rw [List.take_add_one, h]
  show tru k (l.take i ++ [b]) = _
  rw [tru_snoc, List.length_take, Nat.min_eq_left (by omega)]
theorem tru_len : ∀ (l : List Bool) (k : Int), (tru k l).length ≤ l.length
  | [], _ => Nat.le_refl _
  | true :: l, k => by rw [tru]; have := tru_len l (k + 1); simp; omega
  | false :: l, k => by rw [tru]; have := tru_len l (k + 1); simp; omega
theorem liveF_tru : ∀ (s : Sh) (k : Int), liveF k s = tru k (s.map Option.isSome)
  | [], _ => rfl
  | none :: s, k => by rw [liveF, liveF_tru s]; rfl
  | some _ :: s, k => by rw [liveF, liveF_tru s]; rfl
theorem st_is {nds : List Nd} {bs : List Bool} (hl : nds.length = bs.length) : (stOf nds bs).map Option.isSome = bs.drop 1 := by
  apply List.ext_getElem?
  intro i
  by_cases hi : i + 1 < bs.length
  · have h1 := List.getElem?_eq_getElem (l := bs) hi
    have h2 := List.getElem?_eq_getElem (l := nds) (i := i + 1) (by omega)
    rw [List.getElem?_map, st_at i h2 h1, List.getElem?_drop, Nat.add_comm 1 i, h1]
    cases bs[i + 1] <;> rfl
  · rw [List.getElem?_eq_none_iff.2 (by rw [List.length_map, st_len hl]; omega), List.getElem?_eq_none_iff.2 (by rw [List.length_drop]; omega)]
theorem st_liveA {nds : List Nd} {bs : List Bool} (hl : nds.length = bs.length) : liveA (stOf nds bs) = tru 1 (bs.drop 1) := by
  unfold liveA; rw [liveF_tru, st_is hl]
theorem st_ndAt {nds : List Nd} {bs : List Bool} (hl : nds.length = bs.length) (h : Nat) (h1 : 1 ≤ h) : ndAt (stOf nds bs) (h : Int) = if bs[h]? = some true then nds[h]? else none := by
  obtain ⟨i, rfl⟩ : ∃ i, h = i + 1 := ⟨h - 1, by omega⟩
  rw [show ((i + 1 : Nat) : Int) = (i : Int) + 1 by omega, ndAt_succ]
  by_cases hi : i + 1 < bs.length
  · have e1 := List.getElem?_eq_getElem (l := bs) hi
    have e2 := List.getElem?_eq_getElem (l := nds) (i := i + 1) (by omega)
    rw [st_at i e2 e1, e1, e2]
    cases bs[i + 1] <;> rfl
  · rw [List.getElem?_eq_none_iff.2 (by rw [st_len hl]; omega), if_neg (by rw [List.getElem?_eq_none_iff.2 (by omega)]; simp)]; rfl
theorem st_live {nds : List Nd} {bs : List Bool} (hl : nds.length = bs.length) (h : Nat) (h1 : 1 ≤ h) : live (stOf nds bs) (h : Int) = true ↔ bs[h]? = some true := by
  unfold live
  rw [st_ndAt hl h h1]
  by_cases e : bs[h]? = some true
  · rw [if_pos e]
    have := (List.getElem?_eq_some_iff.1 e).1
    rw [List.getElem?_eq_getElem (by omega)]
    exact ⟨fun _ => e, fun _ => rfl⟩
  · rw [if_neg e]; exact ⟨fun h => (Bool.false_ne_true h).elim, fun h => absurd h e⟩
theorem st_live' {nds : List Nd} {bs : List Bool} (hl : nds.length = bs.length) (r : Int) : live (stOf nds bs) r = (decide (1 ≤ r) && (decide (r < bs.length) && (bs[r.toNat]?).getD false)) := by
  by_cases h1 : 1 ≤ r
  · obtain ⟨h, rfl⟩ : ∃ h : Nat, r = (h : Int) := ⟨r.toNat, by omega⟩
    rw [Bool.eq_iff_iff, st_live hl h (by omega)]
    by_cases h2 : h < bs.length
    · rw [List.getElem?_eq_getElem h2]; simp [h1, h2]
    · rw [List.getElem?_eq_none_iff.2 (by omega)]; simp [h2]
  · rw [Bool.eq_false_iff.2 fun h => h1 (live_bound h).1, decide_eq_false h1]; rfl
theorem st_left {room : Nat} {nds : List Nd} {bs js : List Bool} (hl : nds.length = bs.length) (hj : js.length = bs.length) {roots : List Int} (hi : Inv room (stOf nds bs)) (h : ∀ i : Nat, 1 ≤ i → (js[i]? = some true ↔ Rch (stOf nds bs) roots (i : Int))) : stOf nds js = leftA (stOf nds bs) roots := by
  refine sh_ext (by unfold leftA; rw [leftF_len, st_len (by omega), st_len hl, hj]) fun x => ?_
  rw [left_at]
  by_cases h1 : 1 ≤ x
  · obtain ⟨k, rfl⟩ : ∃ k : Nat, x = (k : Int) := ⟨x.toNat, by omega⟩
    have hk : 1 ≤ k := by omega
    rw [st_ndAt (by omega) k hk, st_ndAt hl k hk]
    by_cases e : Rch (stOf nds bs) roots (k : Int)
    · have hlv := (st_live hl k hk).1 (rch_live hi e)
      rw [if_pos ((h k hk).2 e), if_pos e, if_pos hlv]
    · rw [if_neg (fun h' => e ((h k hk).1 h')), if_neg e]
  · unfold ndAt
    simp [show ¬ (0 < x) by omega]
theorem st_reach {room : Nat} {nds : List Nd} {bs js : List Bool} (hl : nds.length = bs.length) (hj : js.length = bs.length) {roots : List Int} (hi : Inv room (stOf nds bs)) (h : ∀ i : Nat, 1 ≤ i → (js[i]? = some true ↔ Rch (stOf nds bs) roots (i : Int))) : reachA (stOf nds bs) roots = tru 1 (js.drop 1) := by
  unfold reachA
  rw [← st_left hl hj hi h, st_liveA (by omega)]
theorem rch_marks {nds : List Nd} {bs ins : List Bool} (hl : nds.length = bs.length) {roots : List Int} (hs : ∀ i : Nat, 1 ≤ i → ins[i]? = some true → Rch (stOf nds bs) roots (i : Int))
    (hr : ∀ r ∈ roots, live (stOf nds bs) r = true → ins[r.toNat]? = some true) (hc : ∀ (i : Nat) (n : Nd), 1 ≤ i → ins[i]? = some true → nds[i]? = some n → ∀ r ∈ n.refs, 0 < r → ins[r.toNat]? = some true) :
    ∀ i : Nat, 1 ≤ i → (ins[i]? = some true ↔ Rch (stOf nds bs) roots (i : Int)) := by
  have key : ∀ h : Int, Rch (stOf nds bs) roots h → 1 ≤ h ∧ ins[h.toNat]? = some true := by
    intro h e
    induction e with
    | root r hm hlv => exact ⟨(live_bound hlv).1, hr r hm hlv⟩
    | ref h r n _ hn hm hp ih =>
      refine ⟨hp, hc h.toNat n (by omega) ih.2 ?_ r hm hp⟩
      have e : ((h.toNat : Nat) : Int) = h := by omega
      rw [← e, st_ndAt hl h.toNat (by omega)] at hn
      split at hn
      · exact hn
      · cases hn
  intro i h1
  exact ⟨hs i h1, fun e => by simpa using (key _ e).2⟩
def fls (l : List Bool) : Nat := (l.filter (fun b => !b)).length
theorem fls_set : ∀ (l : List Bool) (i : Nat), l[i]? = some false → fls (l.set i true) + 1 = fls l
  | [], i, h => by simp at h
  | b :: l, 0, h => by
    cases (show b = false by simpa using h)
    simp [fls]
  | b :: l, i + 1, h => by
    have ih := fls_set l i (by simpa using h)
    unfold fls at ih ⊢
    cases b <;> simp at ih ⊢ <;> omega
theorem okRef_not (s : Sh) (i : Nat) (r : Int) : okRef s i r = !((decide (0 < r) && !live s r) || decide (r < -(i : Int))) := by
  unfold okRef
  by_cases h0 : 0 < r
  · have e1 : decide (r = 0) = false := decide_eq_false (by omega)
    have e2 : decide (r < 0) = false := decide_eq_false (by omega)
    have e3 : decide (r < -(i : Int)) = false := decide_eq_false (by omega)
    have e4 : decide (0 < r) = true := decide_eq_true h0
    rw [e1, e2, e3, e4]
    cases live s r <;> rfl
  · have e4 : decide (0 < r) = false := decide_eq_false h0
    have hl : live s r = false := Bool.eq_false_iff.2 fun h => by have := (live_bound h).1; omega
    rw [hl, e4]
    by_cases hz : r = 0
    · subst hz
      have e3 : decide ((0 : Int) < -(i : Int)) = false := decide_eq_false (by omega)
      rw [e3]; rfl
    · have e1 : decide (r = 0) = false := decide_eq_false hz
      have e2 : decide (r < 0) = true := decide_eq_true (by omega)
      rw [e1, e2]
      by_cases h3 : r < -(i : Int)
      · rw [decide_eq_true h3, decide_eq_false (show ¬ (-(i : Int) ≤ r) by omega)]; rfl
      · rw [decide_eq_false h3, decide_eq_true (show -(i : Int) ≤ r by omega)]; rfl
end Go.Proofs.YtjgjacihdggimaaGreatDoor
