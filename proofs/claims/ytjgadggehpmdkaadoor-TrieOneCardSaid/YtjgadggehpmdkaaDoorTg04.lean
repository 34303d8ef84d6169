/- Texts joined: TpO, NdFk, NdJk, TpM, TqG, NfC, NdGk, NdNm. -/
import Derived.Test.YtjgadggehpmdkaaDoorTg03
import Derived.Test.YtjgadggehpmdkaaDoorTg02
import Derived.Laws.Rows
import Derived.Deep.LoopGhost
import Derived.Deep.RegionLawGrows
import Derived.Deep.RegionWith
import Derived.Lib.SlKeysI
import Derived.Maps.Range
import Derived.StillTactics
set_option linter.all false
namespace Go.Proofs.YtjgadggehpmdkaaDoor
/- counting -/
def cntS (s : Sh) : Nat := (s.filter Option.isSome).length
theorem liveF_cnt : ∀ (s : Sh) (k : Int), (liveF k s).length = cntS s
  | [], _ => rfl
  | none :: s, k => by rw [liveF, liveF_cnt s]; rfl
  | some _ :: s, k => by rw [liveF, List.length_cons, liveF_cnt s]; rfl
theorem cnt_live (s : Sh) : (liveA s).length = cntS s := liveF_cnt s 1
theorem cnt_set : ∀ (s : Sh) (i : Nat) (x : Nd), s[i]? = some none → cntS (s.set i (some x)) = cntS s + 1
  | [], i, x, h => by simp at h
  | o :: s, 0, x, h => by
    obtain rfl : o = none := by simpa using h
    rfl
  | o :: s, i + 1, x, h => by
    have ih := cnt_set s i x (by simpa using h)
    cases o with
    | none => exact ih
    | some y =>
      show (some y :: (s.set i (some x)).filter Option.isSome).length = (some y :: s.filter Option.isSome).length + 1
      rw [List.length_cons, List.length_cons]
      unfold cntS at ih
      omega
theorem cnt_app (s : Sh) (x : Nd) : cntS (s ++ [some x]) = cntS s + 1 := by
  unfold cntS
  rw [List.filter_append, List.length_append]; rfl
theorem cnt_setH (s : Sh) (x : Nd) : cntS (setH s (freeH s) x) = cntS s + 1 := by
  unfold setH
  rcases freeH_cases s with ⟨i, hi, e⟩ | ⟨e, _⟩
  · have := (List.getElem?_eq_some_iff.1 hi).1
    rw [if_pos (by omega), e]
    exact cnt_set s i x hi
  · rw [if_neg (by omega)]
    exact cnt_app s x
theorem take_cnt : ∀ (s : Sh) (i : Nat), i ≤ s.length → (∀ j : Nat, j < i → s[j]? ≠ some none) → i ≤ cntS s
  | _, 0, _, _ => Nat.zero_le _
  | [], i + 1, h, _ => by simp at h
  | o :: s, i + 1, h, hj => by
    have ih := take_cnt s i (by simpa using h) fun j hji => by
      have := hj (j + 1) (by omega)
      simpa using this
    cases o with
    | none => exact absurd rfl (hj 0 (by omega))
    | some y =>
      show i + 1 ≤ (some y :: s.filter Option.isSome).length
      rw [List.length_cons]
      unfold cntS at ih
      omega
theorem freeH_le (s : Sh) : freeH s ≤ cntS s + 1 := by
  have hf : ∀ j : Nat, j + 1 < freeH s → s[j]? ≠ some none := fun j hj e => by
    have := freeH_below (s := s) (k := j + 1) (by omega) hj
    rw [show ((j + 1 : Nat) : Int) = (j : Int) + 1 by omega] at this
    unfold live at this
    rw [ndAt_succ, e] at this
    cases this
  have hp := freeH_pos s
  have := take_cnt s (freeH s - 1) (by omega) fun j hj => hf j (by omega)
  omega
theorem cnt_up {room : Nat} : ∀ {l : List Nd} {s s' : Sh} {out out' : List Int}, putL room s out l = some (s', out') → cntS s ≤ cntS s'
  | [], s, s', out, out', e => by cases e; exact Nat.le_refl _
  | n :: l, s, s', out, out', e => by
    rw [putL] at e
    cases h1 : oneA room s (asPut out n) with
    | none => rw [h1] at e; cases e
    | some q =>
      obtain ⟨s1, h⟩ := q
      rw [h1] at e
      have := cnt_up e
      have h2 : cntS s ≤ cntS s1 := by
        unfold oneA at h1
        split at h1
        · cases h1; exact Nat.le_refl _
        · split at h1
          · cases h1
          · cases h1; rw [cnt_setH]; omega
      omega
/- refs name what is ahead -/
def NegR (n : Nat) (refs : List Int) : Prop := ∀ r ∈ refs, r < 0 ∧ -(n : Int) ≤ r
theorem wrongF_app (s : Sh) : ∀ (l m : List Nd) (i : Nat), wrongF s i (l ++ m) = (wrongF s i l || wrongF s (i + l.length) m)
  | [], m, i => by rw [List.nil_append, wrongF, Bool.false_or]; rfl
  | n :: l, m, i => by
    rw [List.cons_append, wrongF, wrongF, wrongF_app s l m (i + 1), Bool.or_assoc, List.length_cons, show i + (l.length + 1) = i + 1 + l.length by omega]
mutual
theorem fl_right (s : Sh) : ∀ (t : Tr) (out new : List Nd), fl t out = out ++ new → wrongF s out.length new = false
  | .mk k nums text kids, out, new, h => by
    obtain ⟨n1, e1⟩ := flL_ext kids out []
    have ih := flL_right s kids out [] n1 e1 (fun r hr => by cases hr)
    rw [fl, e1, List.append_assoc] at h
    obtain rfl := (List.append_cancel_left h).symm
    rw [wrongF_app, ih.1, Bool.false_or, wrongF, wrongF, Bool.or_false, Bool.not_eq_false', List.all_eq_true]
    intro r hr
    have := ih.2 r hr
    unfold okRef
    rw [e1, List.length_append] at this
    simp only [Bool.or_eq_true, decide_eq_true_eq, Bool.and_eq_true]
    exact .inr ⟨this.1, this.2⟩
theorem flL_right (s : Sh) : ∀ (ts : List Tr) (out : List Nd) (refs : List Int) (new : List Nd), (flL ts out refs).1 = out ++ new → NegR out.length refs → wrongF s out.length new = false ∧ NegR (flL ts out refs).1.length (flL ts out refs).2
  | [], out, refs, new, h, hr => by
    rw [flL] at h
    have : new = [] := by have := congrArg List.length h; simp at this; exact this
    subst this
    rw [flL]
    exact ⟨rfl, hr⟩
  | t :: ts, out, refs, new, h, hr => by
    obtain ⟨n1, e1, _⟩ := fl_ext t out
    obtain ⟨n2, e2⟩ := flL_ext ts (fl t out) (refs ++ [-((fl t out).length : Int)])
    have h1 := fl_right s t out n1 e1
    have hlen : (fl t out).length = out.length + n1.length := by rw [e1, List.length_append]
    have hp := fl_pos t out
    have h2 := flL_right s ts (fl t out) (refs ++ [-((fl t out).length : Int)]) n2 e2 fun r hm => by
      rcases List.mem_append.1 hm with e | e
      · have := hr r e; omega
      · rw [List.mem_singleton.1 e]; omega
    rw [flL] at h ⊢
    rw [e2, e1, List.append_assoc] at h
    obtain rfl := (List.append_cancel_left h).symm
    rw [wrongF_app, h1, Bool.false_or, ← hlen]
    exact h2
end
/- what it costs -/
open Classical in
mutual
noncomputable def cost (s : Sh) : Tr → Nat
  | .mk k nums text kids => if ∃ h, At s (.mk k nums text kids) h then 0 else 1 + costL s kids
noncomputable def costL (s : Sh) : List Tr → Nat
  | [] => 0
  | t :: ts => cost s t + costL s ts
end
theorem cost_at {s : Sh} {t : Tr} {h : Int} (e : At s t h) : cost s t = 0 := by
  cases t
  rw [cost, if_pos ⟨h, e⟩]
mutual
theorem cost_up {s s' : Sh} (hu : Up s s') : ∀ t : Tr, cost s' t ≤ cost s t
  | .mk k nums text kids => by
    have ih := costL_up hu kids
    rw [cost, cost]
    by_cases e : ∃ h, At s (.mk k nums text kids) h
    · obtain ⟨h, e⟩ := e
      rw [if_pos ⟨h, at_up hu _ _ e⟩]; exact Nat.zero_le _
    · rw [if_neg e]
      split
      · exact Nat.zero_le _
      · omega
theorem costL_up {s s' : Sh} (hu : Up s s') : ∀ ts : List Tr, costL s' ts ≤ costL s ts
  | [] => Nat.le_refl _
  | t :: ts => by
    have h1 := cost_up hu t
    have h2 := costL_up hu ts
    rw [costL, costL]; omega
end
mutual
theorem cost_sz (s : Sh) : ∀ t : Tr, cost s t ≤ szT' t
  | .mk k nums text kids => by
    have ih := costL_sz s kids
    rw [cost, szT']
    split <;> omega
theorem costL_sz (s : Sh) : ∀ ts : List Tr, costL s ts ≤ szL' ts
  | [] => Nat.le_refl _
  | t :: ts => by
    have h1 := cost_sz s t
    have h2 := costL_sz s ts
    rw [costL, szL']; omega
end
theorem put_seek {room : Nat} {s : Sh} : ∀ (l : List Nd) (a c : List Int), seekL s a l = some c → putL room s a l = some (s, c)
  | [], a, c, h => by rw [seekL] at h; rw [putL, ← Option.some.inj h]
  | n :: l, a, c, h => by
    rw [seekL] at h
    split at h
    · cases h
    · rename_i hf
      rw [putL]
      unfold oneA
      rw [if_pos hf]
      exact put_seek l _ c h
mutual
theorem put_tree {room : Nat} {s0 : Sh} : ∀ (t : Tr) (out new : List Nd) (s : Sh) (a : List Int), Inv room s → Up s0 s → (∀ h ∈ a, live s h = true) → a.length = out.length → fl t out = out ++ new → cntS s + cost s t ≤ room →
    ∃ s' c, putL room s a new = some (s', c) ∧ cntS s' ≤ cntS s + cost s t ∧ Inv room s' ∧ Up s s' ∧ (∀ h ∈ c, live s' h = true)
  | .mk k nums text kids, out, new, s, a, hi, hu, ha, hl, hn, hr => by
    have hw := fl_right s0 _ out new hn
    by_cases e : ∃ h, At s (.mk k nums text kids) h
    · obtain ⟨h, e⟩ := e
      obtain ⟨nw, b, e1, e2, _, _⟩ := seek_at hi _ h out a e hl
      rw [hn] at e1
      obtain rfl := List.append_cancel_left e1
      have hp := put_seek (room := room) _ _ _ e2
      have h2 := inv_putL hi hu ha (by rw [hl]; exact hw) hp
      exact ⟨s, _, hp, by omega, h2.1, Up.refl _, h2.2⟩
    · have hc : cost s (.mk k nums text kids) = 1 + costL s kids := by rw [cost, if_neg e]
      obtain ⟨n1, e1⟩ := flL_ext kids out []
      have hn' := hn
      rw [fl, e1, List.append_assoc] at hn'
      obtain rfl := (List.append_cancel_left hn').symm
      obtain ⟨s1, c1, p1, p2, p3, p4, p5⟩ := put_trees kids out n1 [] s a hi hu ha hl e1 (fun r hr => by cases hr) (by omega)
      obtain ⟨_, b1, q2, q3, q4, _⟩ := atL_put kids out s s1 a c1 n1 [] [] hl e1 p1 ⟨rfl, fun r hr => by cases hr⟩
      rw [wrongF_app, Bool.or_eq_false_iff] at hw
      have hlen1 : out.length + n1.length = c1.length := by rw [q3, e1, List.length_append]
      rw [hc]
      have key : ∃ s2 h2, oneA room s1 (asPut c1 ⟨k, (flL kids out []).2, nums, text⟩) = some (s2, h2) ∧ cntS s2 ≤ cntS s1 + 1 := by
        unfold oneA
        split
        · exact ⟨_, _, rfl, by omega⟩
        · have := freeH_le s1
          rw [if_neg (by omega)]
          exact ⟨_, _, rfl, by rw [cnt_setH]; omega⟩
      obtain ⟨s2, h2, o1, o2⟩ := key
      have hput : putL room s a (n1 ++ [⟨k, (flL kids out []).2, nums, text⟩]) = some (s2, c1 ++ [h2]) := by
        rw [putL_app, p1]
        show putL room s1 c1 [_] = _
        rw [putL, o1]; rfl
      have h3 := inv_putL (s0 := s0) p3 (hu.trans p4) p5 (by rw [← hlen1]; exact hw.2) (show putL room s1 c1 [⟨k, (flL kids out []).2, nums, text⟩] = some (s2, c1 ++ [h2]) by rw [putL, o1]; rfl)
      exact ⟨s2, _, hput, by omega, h3.1, (putL_up hput).1, h3.2⟩
theorem put_trees {room : Nat} {s0 : Sh} : ∀ (ts : List Tr) (out new : List Nd) (refs : List Int) (s : Sh) (a : List Int), Inv room s → Up s0 s → (∀ h ∈ a, live s h = true) → a.length = out.length → (flL ts out refs).1 = out ++ new → NegR out.length refs → cntS s + costL s ts ≤ room →
    ∃ s' c, putL room s a new = some (s', c) ∧ cntS s' ≤ cntS s + costL s ts ∧ Inv room s' ∧ Up s s' ∧ (∀ h ∈ c, live s' h = true)
  | [], out, new, refs, s, a, hi, hu, ha, hl, hn, hneg, hr => by
    rw [flL] at hn
    have : new = [] := by have := congrArg List.length hn; simp at this; exact this
    subst this
    exact ⟨s, a, rfl, by omega, hi, Up.refl _, ha⟩
  | t :: ts, out, new, refs, s, a, hi, hu, ha, hl, hn, hneg, hr => by
    obtain ⟨n1, e1, _⟩ := fl_ext t out
    obtain ⟨n2, e2⟩ := flL_ext ts (fl t out) (refs ++ [-((fl t out).length : Int)])
    rw [flL, e2, e1, List.append_assoc] at hn
    obtain rfl := (List.append_cancel_left hn).symm
    rw [costL] at hr ⊢
    obtain ⟨s1, c1, p1, p2, p3, p4, p5⟩ := put_tree t out n1 s a hi hu ha hl e1 (by omega)
    obtain ⟨_, _, _, q3, _, _⟩ := at_put t out s s1 a c1 n1 hl e1 p1
    have hp := fl_pos t out
    have hup := costL_up p4 ts
    obtain ⟨s2, c2, r1, r2, r3, r4, r5⟩ := put_trees ts (fl t out) n2 (refs ++ [-((fl t out).length : Int)]) s1 c1 p3 (hu.trans p4) p5 q3 e2 (fun r hm => by
      rcases List.mem_append.1 hm with e | e
      · have := hneg r e; omega
      · rw [List.mem_singleton.1 e]; omega) (by omega)
    refine ⟨s2, c2, ?_, by omega, r3, p4.trans r4, r5⟩
    rw [putL_app, p1]
    exact r1
end
end Go.Proofs.YtjgadggehpmdkaaDoor
namespace Go.Proofs.YtjgadggehpmdkaaDoor
open Go.RowKit
theorem RowI.at {w : World} {P : Nat → Prop} {A : Option Addr} {l : List Int} (h : RowI w P A l) {i : Nat} (hi : i < l.length) : ∃ g o, A = some ⟨g, o, none⟩ ∧ P g ∧ g < w.heap.size ∧ ∀ (i : Nat) (x : Int), l[i]? = some x → w.cell? ⟨g, o + i, none⟩ = some (.int .i64 x) := by
  rcases h with rfl | h
  · simp at hi
  · exact h
end Go.Proofs.YtjgadggehpmdkaaDoor
namespace Go.Proofs.YtjgadggehpmdkaaDoor
open Go.RowKit
theorem int_info : (Tryd.prog.info? 3).map (fun i => (i.zero, i.size, i.bytes)) = some (some (.int .i64 0), 1, 8) := by kernel_rfl
theorem inW_one : ∀ q : Int, ∀ u ∈ inW q, u.oneCell' = true := by
  intro q u hu
  simp only [inW, List.mem_cons, List.not_mem_nil, or_false] at hu
  subst hu; rfl
end Go.Proofs.YtjgadggehpmdkaaDoor
namespace Go.Proofs.YtjgadggehpmdkaaDoor
open Go.RowKit
def enW (x : En) : List Value := [.int .i64 x.key, .string ⟨x.text.toArray⟩]
theorem enW_one : ∀ q : En, ∀ u ∈ enW q, u.oneCell' = true := by
  intro q u hu
  simp only [enW, List.mem_cons, List.not_mem_nil, or_false] at hu
  rcases hu with rfl | rfl <;> rfl
def RowE (w : World) (P : Nat → Prop) (A : Option Addr) (l : List En) : Prop := l = [] ∨ ∃ g o, A = some ⟨g, o, none⟩ ∧ P g ∧ g < w.heap.size ∧ AtR enW 2 w g o l
section
variable {w w' : World} {P Q : Nat → Prop} {A : Option Addr} {l : List En}
theorem RowE.kept (h : RowE w P A l) (hk : Kept w w' P) : RowE w' P A l := by
  rcases h with h | ⟨g, o, rfl, hp, hl, hc⟩
  · exact .inl h
  · exact .inr ⟨g, o, rfl, hp, Nat.lt_of_lt_of_le hl hk.size, fun i x hi j u hj => hk.cell hp (hc i x hi j u hj)⟩
theorem RowE.mono (h : RowE w P A l) (hpq : ∀ g, P g → g < w.heap.size → Q g) : RowE w Q A l := by
  rcases h with h | ⟨g, o, rfl, hp, hl, hc⟩
  · exact .inl h
  · exact .inr ⟨g, o, rfl, hpq g hp hl, hl, hc⟩
theorem RowE.below (h : RowE w P A l) (hb : Below w.heap.size w w') : RowE w' P A l := h.kept (Kept.of_below hb)
theorem RowE.at (h : RowE w P A l) {i : Nat} (hi : i < l.length) : ∃ g o, A = some ⟨g, o, none⟩ ∧ P g ∧ g < w.heap.size ∧ AtR enW 2 w g o l := by
  rcases h with rfl | h
  · simp at hi
  · exact h
theorem AtR.two {g o : Nat} (h : AtR enW 2 w g o l) {i : Nat} {x : En} (hi : l[i]? = some x) : w.cell? ⟨g, o + i * 2, none⟩ = some (.int .i64 x.key) ∧ w.cell? ⟨g, o + i * 2 + 1, none⟩ = some (.string ⟨x.text.toArray⟩) :=
  ⟨h i x hi 0 _ rfl, h i x hi 1 _ rfl⟩
theorem own_rowE {E : TypeId} {base : Nat} {v : Value} {L : List En} (h : OwnR E 2 enW base w v L) : ∃ (A : Option Addr) (cap : Nat), v = .slice A L.length cap ∧ L.length ≤ cap ∧ RowE w (fun g => base ≤ g) A L := by
  obtain ⟨A, cap, rfl, hc, _⟩ := OwnR.shape (f := enW) (fun _ => rfl) h
  refine ⟨A, cap, rfl, hc, ?_⟩
  rcases Nat.eq_zero_or_pos L.length with e | e
  · exact .inl (List.length_eq_zero_iff.1 e)
  · obtain ⟨g, cap', hv, hb, hg⟩ := World.ownsRow.form h e
    have ha := OwnR.at (f := enW) (fun _ => rfl) (hv ▸ h) rfl
    simp at hv
    exact .inr ⟨g, 0, hv.1, hb, hg, ha⟩
theorem AtR.part {g o : Nat} (h : AtR enW 2 w g o l) (k n : Nat) : AtR enW 2 w g (o + k * 2) ((l.drop k).take n) := fun i x hi j u hj => by
  rw [List.getElem?_take] at hi
  split at hi
  · rw [List.getElem?_drop] at hi
    have := h (k + i) x hi j u hj
    rwa [show o + k * 2 + i * 2 + j = o + (k + i) * 2 + j by omega]
  · cases hi
end
/- 1024 texts in a block. -/
def txC (f : Txs) : Array Value := ((List.range 1024).map fun j => Value.string ⟨(f j).toArray⟩).toArray
theorem txC_size (f : Txs) : (txC f).size = 1024 := by
  unfold txC
  rw [List.size_toArray, List.length_map, List.length_range]
theorem txC_at (f : Txs) {j : Nat} (h : j < 1024) : (txC f)[j]? = some (.string ⟨(f j).toArray⟩) := by
  unfold txC
  rw [List.getElem?_toArray, List.getElem?_map, List.getElem?_range h]; rfl
theorem txC_one (f : Txs) : (txC f).all (·.oneCell') = true := by
  unfold txC
  rw [Array.all_eq_true]
  intro i hi
  simp only [List.getElem_toArray, List.getElem_map]
  rfl
theorem txC_set (f : Txs) (k : Nat) (hk : k < 1024) (v : List UInt8) : (txC f).setIfInBounds k (.string ⟨v.toArray⟩) = txC (setX f k v) := by
  apply Array.ext_getElem?
  intro i
  rw [Array.getElem?_setIfInBounds, txC_size]
  by_cases hi : i < 1024
  · rw [txC_at _ hi, txC_at _ hi]
    by_cases e : k = i
    · subst e
      rw [if_pos rfl, if_pos hk]
      unfold setX; rw [if_pos rfl]
    · rw [if_neg e]
      unfold setX; rw [if_neg fun h => e h.symm]
  · rw [if_neg (by omega), Array.getElem?_eq_none_iff.2 (by rw [txC_size]; omega), Array.getElem?_eq_none_iff.2 (by rw [txC_size]; omega)]
theorem txC_congr {f g : Txs} (h : ∀ k : Nat, k < 1024 → f k = g k) : txC f = txC g := by
  unfold txC
  exact congrArg List.toArray (List.map_congr_left fun j hj => by rw [h j (List.mem_range.1 hj)])
theorem txN_nil (n : Nat) : ((List.range n).map fun _ => Value.string ⟨([] : List UInt8).toArray⟩).toArray = Array.replicate n (.string ⟨#[]⟩) := by
  apply Array.ext_getElem?
  intro i
  rw [List.getElem?_toArray, List.getElem?_map, Array.getElem?_replicate]
  by_cases hi : i < n
  · rw [List.getElem?_range hi, if_pos hi]; rfl
  · rw [List.getElem?_eq_none_iff.2 (by rw [List.length_range]; omega), if_neg hi]; rfl
theorem txC_nil : txC (fun _ => []) = Array.replicate 1024 (.string ⟨#[]⟩) := txN_nil 1024
theorem texts_zero : Tryd.zeroCells53 = txC (fun _ => []) := by
  rw [txC_nil]; kernel_rfl
theorem texts_under : Tryd.prog.underlying 53 = some (.array 1024 9) := by kernel_rfl
theorem texts_info : (Tryd.prog.info? 53).map (·.size) = some 1024 := by kernel_rfl
def TX (w : World) (B : Nat) (f : Txs) : Prop := w.heap[B]? = some (.cells (txC f) 53 (0, 0))
theorem TX.lt {w : World} {B : Nat} {f : Txs} (h : TX w B f) : B < w.heap.size := (Array.getElem?_eq_some_iff.1 h).1
theorem TX.cell {w : World} {B : Nat} {f : Txs} (h : TX w B f) {j : Nat} (hj : j < 1024) : w.cell? ⟨B, j, none⟩ = some (.string ⟨(f j).toArray⟩) := by
  rw [Lib.cell_of_heap h j]; exact txC_at f hj
theorem TX.frozen {w : World} {B : Nat} {f : Txs} (h : TX w B f) (j : Nat) : w.frozen? ⟨B, j, none⟩ = false := by
  unfold World.frozen?; rw [show w.heap[B]? = _ from h]; simp
theorem TX.world {w w' : World} {B : Nat} {f : Txs} (h : TX w B f) (hb : w'.heap[B]? = w.heap[B]?) : TX w' B f := hb.trans h
theorem TX.below {w w' : World} {B : Nat} {f : Txs} (h : TX w B f) (hb : Below w.heap.size w w') : TX w' B f := h.world (hb.block B h.lt)
theorem row_set {w : World} {B : Nat} {c : Array Value} {T : TypeId} {fr : Nat × Nat} (h : w.heap[B]? = some (.cells c T fr)) (j : Nat) (v : Value) : (w.setCell ⟨B, j, none⟩ v).heap[B]? = some (.cells (c.setIfInBounds j v) T fr) := by
  have hlt := (Array.getElem?_eq_some_iff.1 h).1
  have he := (Array.getElem?_eq_some_iff.1 h).2
  show (w.heap.modify B _)[B]? = _
  rw [Array.getElem?_eq_getElem (by rw [Array.size_modify]; exact hlt), Array.getElem_modify_self, he]
  rfl
theorem TX.set {w : World} {B : Nat} {f : Txs} (h : TX w B f) {j : Nat} (hj : j < 1024) (v : List UInt8) : TX (w.setCell ⟨B, j, none⟩ (.string ⟨v.toArray⟩)) B (setX f j v) := by
  unfold TX
  rw [row_set h, txC_set f j hj v]
theorem TX.congr {w : World} {B : Nat} {f g : Txs} (h : TX w B f) (hg : ∀ k : Nat, k < 1024 → f k = g k) : TX w B g := by
  unfold TX; rw [← txC_congr hg]; exact h
theorem heap_setRow_self {w : World} {g : Nat} {c : Array Value} {t : TypeId} {fr : Nat × Nat} (h : w.heap[g]? = some (.cells c t fr)) (cs : Array Value) : (w.setRow g cs).heap[g]? = some (.cells cs t fr) := by
  have hlt := (Array.getElem?_eq_some_iff.1 h).1
  have he := (Array.getElem?_eq_some_iff.1 h).2
  unfold World.setRow
  show (w.heap.modify g _)[g]? = _
  rw [Array.getElem?_eq_getElem (by rw [Array.size_modify]; exact hlt), Array.getElem_modify_self, he]
theorem heap_setRow_other (w : World) {g k : Nat} (cs : Array Value) (h : k ≠ g) : (w.setRow g cs).heap[k]? = w.heap[k]? := by
  unfold World.setRow
  show (w.heap.modify g _)[k]? = _
  rw [Array.getElem?_modify, if_neg (fun e => h e.symm)]
theorem below_setRow' {B g : Nat} {w0 w : World} (hb : Below B w0 w) (hBg : B ≤ g) (cs : Array Value) : Below B w0 (w.setRow g cs) := by
  refine ⟨hb.os, hb.tape, hb.output, ?_, fun k hk => (heap_setRow_other w cs (by omega)).trans (hb.block k hk)⟩
  show _ ≤ (w.heap.modify g _).size
  rw [Array.size_modify]; exact hb.size
end Go.Proofs.YtjgadggehpmdkaaDoor
namespace Go.Proofs.YtjgadggehpmdkaaDoor
open Go.RowKit
theorem takes_next9 {α : Type} {a b : List α} {i : Nat} {x y : α} (ha : a[i]? = some x) (hb : b[i]? = some y) (h : a.take i = b.take i) (e : x = y) : a.take (i + 1) = b.take (i + 1) := by
  rw [List.take_add_one, List.take_add_one, ha, hb, h, e]
theorem takes_no9 {α : Type} {a b : List α} {i : Nat} {x y : α} (ha : a[i]? = some x) (hb : b[i]? = some y) (e : x ≠ y) : a ≠ b := fun h => by
  rw [h, hb] at ha; exact e (Option.some.inj ha).symm
set_option maxHeartbeats 2000000 in
set_option maxRecDepth 10000 in
theorem pequal_any (a b : List Int) (A B : Option Addr) (ca cb : Nat) (w : World) (P Q : Nat → Prop) (hA : RowI w P A a) (hB : RowI w Q B b) (hla : a.length ≤ maxLen) :
    Calls Tryd.prog 39 #[.slice A a.length ca, .slice B b.length cb] w fun e w' => e = .returned (.bool (decide (a = b))) ∧ Below w.heap.size w w' := by
  have HA := Lib.hid hA
  have HB := Lib.hid hB
  unfold maxLen at hla
  clear hA hB
  by_cases hl : a.length = b.length
  · have HLL := Lib.hid hl
    have hd : ((a.length : Int) != (b.length : Int)) = false := by rw [hl]; simp
    clear hl
    go_enter Tryd.func39, Tryd.ntmps39
    go_wp2_with fail
    go_loopw [13] (fun vi wr => ∃ i : Nat, i ≤ a.length ∧ vi = .int .i64 (i : Int) ∧ Hid (a.take i = b.take i) ∧ Below w.heap.size w wr) (fun vi _ => a.length - (RowKit.intOf vi).toNat)
    case atStart => exact ⟨0, Nat.zero_le _, rfl, Lib.hid rfl, Below.refl _ _⟩
    case round =>
      obtain ⟨i, hi, rfl, HT, hb⟩ := hrel
      by_cases hlt : i < a.length
      · have hlt2 : i < b.length := HLL.out ▸ hlt
        obtain ⟨g, o, rfl, _, _, hca⟩ := HA.out.at hlt
        obtain ⟨g2, o2, rfl, _, _, hcb⟩ := HB.out.at hlt2
        obtain ⟨x, hx⟩ : ∃ x, a[i]? = some x := ⟨_, List.getElem?_eq_getElem hlt⟩
        obtain ⟨y, hy⟩ : ∃ y, b[i]? = some y := ⟨_, List.getElem?_eq_getElem hlt2⟩
        have q0 := keep_cell hb (hca i x hx)
        have q1 := keep_cell hb (hcb i y hy)
        by_cases hxy : x = y
        · have HN := Lib.hid (takes_next9 hx hy HT.out hxy)
          subst hxy
          clear hx hy hca hcb
          go_wp2_with fail
          try go_quiet (fail)
          try go_wp2_with fail
          go_roundw
          case rel => exact ⟨i + 1, by omega, by go_num, HN, by first | exact hb | exact below_drewN hb _⟩
          case measure => simp [RowKit.intOf]; omega
        · have HN := Lib.hid (takes_no9 hx hy hxy)
          have hd2 : (x != y) = true := by simpa using hxy
          clear hx hy hca hcb
          go_wp2_with fail
          try go_quiet (fail)
          try go_wp2_with fail
          go_ret
          exact ⟨by rw [decide_eq_false HN.out]; rfl, by first | exact hb | exact below_drewN hb _⟩
      · have hii : i = a.length := by omega
        subst hii
        have hz := HT.out
        rw [List.take_length, HLL.out, List.take_length] at hz
        have HZ := Lib.hid hz
        clear hz
        go_wp2_with fail
        go_ret
        exact ⟨by rw [decide_eq_true HZ.out]; rfl, hb⟩
  · have hd : ((a.length : Int) != (b.length : Int)) = true := by simp; omega
    have HN : Hid (a ≠ b) := Lib.hid fun h => hl (by rw [h])
    clear hl
    go_enter Tryd.func39, Tryd.ntmps39
    go_wp2_with fail
    go_ret
    exact ⟨by rw [decide_eq_false HN.out]; rfl, Below.refl _ _⟩
end Go.Proofs.YtjgadggehpmdkaaDoor
namespace Go.Proofs.YtjgadggehpmdkaaDoor
open Go.RowKit Go.Maps Go.MapKept Go.ChangeMaps
theorem liveF_up : ∀ (s : Sh) (k : Int), (liveF k s).Pairwise (· < ·) ∧ ∀ x ∈ liveF k s, k ≤ x
  | [], _ => ⟨List.Pairwise.nil, fun x h => by cases h⟩
  | none :: s, k => by
    obtain ⟨h1, h2⟩ := liveF_up s (k + 1)
    exact ⟨h1, fun x hx => by have := h2 x hx; omega⟩
  | some _ :: s, k => by
    obtain ⟨h1, h2⟩ := liveF_up s (k + 1)
    refine ⟨List.pairwise_cons.2 ⟨fun x hx => by have := h2 x hx; omega, h1⟩, fun x hx => ?_⟩
    rcases List.mem_cons.1 hx with rfl | hx
    · exact Int.le_refl _
    · have := h2 x hx; omega
def litI (d : DataW Unit) : Int := match d with
  | .lit (.int _ h) => h
  | _ => 0
def hsK (D : DataW Unit) : List Int := match D with
  | .map es => es.map fun p => litI (D.atKey p.1 (hV 0))
  | _ => []
theorem hs_perm {D : DataW Unit} {t : Sh} {es : List (Lit × DataW Unit)} (hD : D = .map es) (hp : es.Pairwise (fun p q => p.1 ≠ q.1)) (hk : ∀ p ∈ es, WideAt.IsKeyLit p.1) (h : Maps9 D t) : (hsK D).Perm (liveA t) := by
  have hh : ∀ p ∈ es, ∃ k n, ndAt t k = some n ∧ p.1 = kN n ∧ litI (D.atKey p.1 (hV 0)) = k := fun p hp => by
    have e : has D p.1 = true := by
      rw [hD, has_eq, List.any_eq_true]
      exact ⟨p, hp, WideAt.sameKey_self (hk p hp)⟩
    obtain ⟨k, n, hn, e⟩ := h.only _ e
    exact ⟨k, n, hn, e, by rw [e, (h.at_ k n hn).1]; rfl⟩
  have e0 : hsK D = es.map fun p => litI (D.atKey p.1 (hV 0)) := by rw [hD]; rfl
  rw [e0]
  refine (List.perm_ext_iff_of_nodup ?_ ((liveF_up t 1).1.imp fun {a b} hab => by omega)).2 fun x => ?_
  · refine List.pairwise_map.2 (hp.imp_of_mem fun {p q} hp' hq' hne e => hne ?_)
    obtain ⟨k, n, hn, e1, e2⟩ := hh p hp'
    obtain ⟨j, m, hm, e3, e4⟩ := hh q hq'
    rw [e2, e4] at e
    subst e
    rw [hn] at hm
    cases hm
    rw [e1, e3]
  · show _ ↔ x ∈ liveA t
    rw [liveA_mem, List.mem_map, live_iff]
    constructor
    · rintro ⟨p, hp', rfl⟩
      obtain ⟨k, n, hn, _, e2⟩ := hh p hp'
      rw [e2]; exact ⟨n, hn⟩
    · rintro ⟨n, hn⟩
      have e := (h.at_ x n hn).2
      rw [hD, has_eq, List.any_eq_true] at e
      obtain ⟨p, hp', hs⟩ := e
      exact ⟨p, hp', by rw [WideAt.sameKey_eq hs, (h.at_ x n hn).1]; rfl⟩
theorem MapA.size {w : World} {b : Nat} {t : Sh} {D : DataW Unit} {n : Nat} (h1 : w.ownsMap Tryd.prog 92 (plainElem Tryd.prog 3) b n D) (h : Maps9 D t) : Maps.size D = (liveA t).length ∧ (hsK D).Perm (liveA t) := by
  obtain ⟨es, hD, hp, hk⟩ := h1.entries lookKeyed
  have hP := hs_perm hD hp hk h
  refine ⟨?_, hP⟩
  rw [← hP.length_eq, hD]
  show es.length = (es.map _).length
  rw [List.length_map]
theorem sorted_live {l : List Int} {t : Sh} (h : l.Perm (liveA t)) : l.mergeSort (fun x y => decide (x ≤ y)) = liveA t := by
  have e := mergeSort_of_perm_i h
  refine e.trans (List.mergeSort_of_pairwise ((liveF_up t 1).1.imp fun {a b} hab => ?_))
  simp only [leI, decide_eq_true_eq]
  omega
/- asking -/
theorem MapA.len {w : World} {b : Nat} {t : Sh} (h : MapA w b t) (ty : TypeId) : (Builtin.len_ #[46] ty #[.map (some b)]).run Tryd.prog w = .ok (.int .i64 ((liveA t).length : Int)) w := by
  obtain ⟨D, h1, h2⟩ := h
  rw [h1.len Tryd.underlying46 ty, (MapA.size h1 h2).1]
theorem MapA.look {w : World} {b : Nat} {t : Sh} (h : MapA w b t) (hf : FitT t) (h1 : ∀ h k n, ndAt t h = some n → ndAt t k = some n → h = k) {x : Nd} (hx : FitK x) :
    (Instr.lookup 46 (.map (some b)) (lookV x) true).run Tryd.prog w = .ok (.tuple #[.int .i64 (fnd t x : Int), .bool (decide (fnd t x ≠ 0))]) w := by
  obtain ⟨D, h2, h3⟩ := h
  obtain ⟨v, ps, hrun, hv⟩ := h2.look_ok lookKeyed Tryd.underlying46 (intZero9 w) (zd := hV 0) (zp := []) (plainElem_int Tryd.underlying3 (by decide)) (key_look hx)
  by_cases e : fnd t x = 0
  · have hm := h3.miss hf hx fun k hk => by
      obtain ⟨i, rfl, hi⟩ := ndAt_some hk
      exact fnd_zero e i hi
    rw [atKey_of_not_has hm] at hv
    obtain ⟨a, rfl, hz, _⟩ := plainElem_int_inv Tryd.underlying3 hv
    cases hz
    rw [hrun, hm, e]; rfl
  · have hp := fnd_pos e
    obtain ⟨e1, e2⟩ := h3.at_ _ _ hp
    rw [e1] at hv
    obtain ⟨a, rfl, hz, _⟩ := plainElem_int_inv Tryd.underlying3 hv
    cases hz
    rw [hrun, e2, decide_eq_true e]
theorem MapA.put {w : World} {b : Nat} {t t' : Sh} (h : MapA w b t) (hf : FitT t) (hsz : (liveA t).length < maxLen) {x : Nd} {k : Int} (hx : FitK x) (hk64 : 0 ≤ k ∧ k ≤ 1000000) (h0 : ∀ k, ndAt t k ≠ some x) (ht : ∀ j, ndAt t' j = if j = k then some x else ndAt t j) (hk : ndAt t k = none) :
    ∃ w', (Instr.mapUpdate 46 (.map (some b)) (lookV x) (.int .i64 k)).run Tryd.prog w = .ok () w' ∧ MapA w' b t' ∧ w.grownBy w' (some b) ∧ w'.heap.size = w.heap.size ∧ ∀ a, w'.frozen? a = w.frozen? a := by
  obtain ⟨D, h2, h3⟩ := h
  have hs := (MapA.size h2 h3).1
  obtain ⟨w', hrun, r1, r2⟩ := h2.store lookKeyed Tryd.underlying46 (by omega) (key_look hx) (plainElem_int Tryd.underlying3 (a := k) (wf64' (by omega)))
  exact ⟨w', hrun, ⟨_, own_tight r1, h3.put h2.isMap hf hx h0 ht hk⟩, r2.grown, by obtain ⟨es, clock, es', clock', hb, rfl⟩ := r2; simp [setBlock], r2.frozen⟩
theorem MapA.del {w : World} {b : Nat} {t t' : Sh} (h : MapA w b t) (hf : FitT t) (h1 : ∀ h k n, ndAt t h = some n → ndAt t k = some n → h = k) {x : Nd} {k : Int} (hx : ndAt t k = some x) (ht : ∀ j, ndAt t' j = if j = k then none else ndAt t j) (ty : TypeId) :
    ∃ w', (Builtin.delete_ #[46, 92] ty #[.map (some b), lookV x]).run Tryd.prog w = .ok (.tuple #[]) w' ∧ MapA w' b t' ∧ w.grownBy w' (some b) ∧ w'.heap.size = w.heap.size ∧ ∀ a, w'.frozen? a = w.frozen? a := by
  obtain ⟨D, h2, h3⟩ := h
  obtain ⟨w', hrun, r1, r2⟩ := h2.drop lookKeyed Tryd.underlying46 (key_look (hf k x hx)) ty
  exact ⟨w', hrun, ⟨_, own_tight r1, h3.del hf h1 hx ht⟩, r2.grown, by obtain ⟨es, clock, es', clock', hb, rfl⟩ := r2; simp [setBlock], r2.frozen⟩
end Go.Proofs.YtjgadggehpmdkaaDoor
namespace Go.Proofs.YtjgadggehpmdkaaDoor
open Go.RowKit
theorem Kept.frozen {w w' : World} {P : Nat → Prop} (h : Kept w w' P) {p : Addr} (hp : P p.block) (hl : p.block < w.heap.size) (hv : w.frozen? p = false) : w'.frozen? p = false := by
  rw [World.frozen?_of_block (w := w) (h.block p.block hp hl)]; exact hv
end Go.Proofs.YtjgadggehpmdkaaDoor
namespace Go.Proofs.YtjgadggehpmdkaaDoor
open Go.RowKit
theorem RowN.at {w : World} {P : Nat → Prop} {A : Option Addr} {l : List Nd} (h : RowN w P A l) {i : Nat} (hi : i < l.length) : ∃ g o, A = some ⟨g, o, none⟩ ∧ P g ∧ g < w.heap.size ∧
    ∀ (i : Nat) (n : Nd), l[i]? = some n → ∃ B cb C cc, At4 w g (o + i * 4) n B cb C cc ∧ RowI w P B n.refs ∧ RowI w P C n.nums := by
  rcases h with rfl | h
  · simp at hi
  · exact h
end Go.Proofs.YtjgadggehpmdkaaDoor
