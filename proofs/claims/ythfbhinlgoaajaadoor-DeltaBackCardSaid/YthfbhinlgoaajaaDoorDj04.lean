/- Texts joined: TpO, TqKp, TqOp, TqFp, TpP, TpQ, TpT, TsA, DeA, NdFk, NdJk. -/
import Derived.Test.YthfbhinlgoaajaaDoorDj03
import Derived.Test.YthfbhinlgoaajaaDoorDj02
set_option linter.all false
namespace Go.Proofs.YthfbhinlgoaajaaDoor
/- counting -/
def cntS (s : Sh) : Nat := (s.filter Option.isSome).length
theorem cnt_set : ∀ (s : Sh) (i : Nat) (x : Nd), s[i]? = some none → cntS (s.set i (some x)) = cntS s + 1
  | [], i, x, h => by simp at h
  | o :: s, 0, x, h => by
    obtain rfl : o = none := by simpa using h
    rfl
  | o :: s, i + 1, x, h => by
    have ih := cnt_set s i x (by simpa using h)
    cases o with
    | none => exact ih
    | some y =>
      show (some y :: (s.set i (some x)).filter Option.isSome).length = (some y :: s.filter Option.isSome).length + 1
      rw [List.length_cons, List.length_cons]
      unfold cntS at ih
      omega
theorem cnt_app (s : Sh) (x : Nd) : cntS (s ++ [some x]) = cntS s + 1 := by
  unfold cntS
  rw [List.filter_append, List.length_append]; rfl
theorem cnt_setH (s : Sh) (x : Nd) : cntS (setH s (freeH s) x) = cntS s + 1 := by
  unfold setH
  rcases freeH_cases s with ⟨i, hi, e⟩ | ⟨e, _⟩
  · have := (List.getElem?_eq_some_iff.1 hi).1
    rw [if_pos (by omega), e]
    exact cnt_set s i x hi
  · rw [if_neg (by omega)]
    exact cnt_app s x
theorem take_cnt : ∀ (s : Sh) (i : Nat), i ≤ s.length → (∀ j : Nat, j < i → s[j]? ≠ some none) → i ≤ cntS s
  | _, 0, _, _ => Nat.zero_le _
  | [], i + 1, h, _ => by simp at h
  | o :: s, i + 1, h, hj => by
    have ih := take_cnt s i (by simpa using h) fun j hji => by
      have := hj (j + 1) (by omega)
      simpa using this
    cases o with
    | none => exact absurd rfl (hj 0 (by omega))
    | some y =>
      show i + 1 ≤ (some y :: s.filter Option.isSome).length
      rw [List.length_cons]
      unfold cntS at ih
      omega
theorem freeH_le (s : Sh) : freeH s ≤ cntS s + 1 := by
  have hf : ∀ j : Nat, j + 1 < freeH s → s[j]? ≠ some none := fun j hj e => by
    have := freeH_below (s := s) (k := j + 1) (by omega) hj
    rw [show ((j + 1 : Nat) : Int) = (j : Int) + 1 by omega] at this
    unfold live at this
    rw [ndAt_succ, e] at this
    cases this
  have hp := freeH_pos s
  have := take_cnt s (freeH s - 1) (by omega) fun j hj => hf j (by omega)
  omega
theorem cnt_up {room : Nat} : ∀ {l : List Nd} {s s' : Sh} {out out' : List Int}, putL room s out l = some (s', out') → cntS s ≤ cntS s'
  | [], s, s', out, out', e => by cases e; exact Nat.le_refl _
  | n :: l, s, s', out, out', e => by
    rw [putL] at e
    cases h1 : oneA room s (asPut out n) with
    | none => rw [h1] at e; cases e
    | some q =>
      obtain ⟨s1, h⟩ := q
      rw [h1] at e
      have := cnt_up e
      have h2 : cntS s ≤ cntS s1 := by
        unfold oneA at h1
        split at h1
        · cases h1; exact Nat.le_refl _
        · split at h1
          · cases h1
          · cases h1; rw [cnt_setH]; omega
      omega
/- refs name what is ahead -/
def NegR (n : Nat) (refs : List Int) : Prop := ∀ r ∈ refs, r < 0 ∧ -(n : Int) ≤ r
theorem wrongF_app (s : Sh) : ∀ (l m : List Nd) (i : Nat), wrongF s i (l ++ m) = (wrongF s i l || wrongF s (i + l.length) m)
  | [], m, i => by rw [List.nil_append, wrongF, Bool.false_or]; rfl
  | n :: l, m, i => by
    rw [List.cons_append, wrongF, wrongF, wrongF_app s l m (i + 1), Bool.or_assoc, List.length_cons, show i + (l.length + 1) = i + 1 + l.length by omega]
mutual
theorem fl_right (s : Sh) : ∀ (t : Tr) (out new : List Nd), fl t out = out ++ new → wrongF s out.length new = false
  | .mk k nums text kids, out, new, h => by
    obtain ⟨n1, e1⟩ := flL_ext kids out []
    have ih := flL_right s kids out [] n1 e1 (fun r hr => by cases hr)
    rw [fl, e1, List.append_assoc] at h
    obtain rfl := (List.append_cancel_left h).symm
    rw [wrongF_app, ih.1, Bool.false_or, wrongF, wrongF, Bool.or_false, Bool.not_eq_false', List.all_eq_true]
    intro r hr
    have := ih.2 r hr
    unfold okRef
    rw [e1, List.length_append] at this
    simp only [Bool.or_eq_true, decide_eq_true_eq, Bool.and_eq_true]
    exact .inr ⟨this.1, this.2⟩
theorem flL_right (s : Sh) : ∀ (ts : List Tr) (out : List Nd) (refs : List Int) (new : List Nd), (flL ts out refs).1 = out ++ new → NegR out.length refs → wrongF s out.length new = false ∧ NegR (flL ts out refs).1.length (flL ts out refs).2
  | [], out, refs, new, h, hr => by
    rw [flL] at h
    have : new = [] := by have := congrArg List.length h; simp at this; exact this
    subst this
    rw [flL]
    exact ⟨rfl, hr⟩
  | t :: ts, out, refs, new, h, hr => by
    obtain ⟨n1, e1, _⟩ := fl_ext t out
    obtain ⟨n2, e2⟩ := flL_ext ts (fl t out) (refs ++ [-((fl t out).length : Int)])
    have h1 := fl_right s t out n1 e1
    have hlen : (fl t out).length = out.length + n1.length := by rw [e1, List.length_append]
    have hp := fl_pos t out
    have h2 := flL_right s ts (fl t out) (refs ++ [-((fl t out).length : Int)]) n2 e2 fun r hm => by
      rcases List.mem_append.1 hm with e | e
      · have := hr r e; omega
      · rw [List.mem_singleton.1 e]; omega
    rw [flL] at h ⊢
    rw [e2, e1, List.append_assoc] at h
    obtain rfl := (List.append_cancel_left h).symm
    rw [wrongF_app, h1, Bool.false_or, ← hlen]
    exact h2
end
/- what it costs -/
open Classical in
mutual
noncomputable def cost (s : Sh) : Tr → Nat
  | .mk k nums text kids => if ∃ h, At s (.mk k nums text kids) h then 0 else 1 + costL s kids
noncomputable def costL (s : Sh) : List Tr → Nat
  | [] => 0
  | t :: ts => cost s t + costL s ts
end
theorem cost_at {s : Sh} {t : Tr} {h : Int} (e : At s t h) : cost s t = 0 := by
  cases t
  rw [cost, if_pos ⟨h, e⟩]
mutual
theorem cost_up {s s' : Sh} (hu : Up s s') : ∀ t : Tr, cost s' t ≤ cost s t
  | .mk k nums text kids => by
    have ih := costL_up hu kids
    rw [cost, cost]
    by_cases e : ∃ h, At s (.mk k nums text kids) h
    · obtain ⟨h, e⟩ := e
      rw [if_pos ⟨h, at_up hu _ _ e⟩]; exact Nat.zero_le _
    · rw [if_neg e]
      split
      · exact Nat.zero_le _
      · omega
theorem costL_up {s s' : Sh} (hu : Up s s') : ∀ ts : List Tr, costL s' ts ≤ costL s ts
  | [] => Nat.le_refl _
  | t :: ts => by
    have h1 := cost_up hu t
    have h2 := costL_up hu ts
    rw [costL, costL]; omega
end
mutual
theorem cost_sz (s : Sh) : ∀ t : Tr, cost s t ≤ szT' t
  | .mk k nums text kids => by
    have ih := costL_sz s kids
    rw [cost, szT']
    split <;> omega
theorem costL_sz (s : Sh) : ∀ ts : List Tr, costL s ts ≤ szL' ts
  | [] => Nat.le_refl _
  | t :: ts => by
    have h1 := cost_sz s t
    have h2 := costL_sz s ts
    rw [costL, szL']; omega
end
theorem put_seek {room : Nat} {s : Sh} : ∀ (l : List Nd) (a c : List Int), seekL s a l = some c → putL room s a l = some (s, c)
  | [], a, c, h => by rw [seekL] at h; rw [putL, ← Option.some.inj h]
  | n :: l, a, c, h => by
    rw [seekL] at h
    split at h
    · cases h
    · rename_i hf
      rw [putL]
      unfold oneA
      rw [if_pos hf]
      exact put_seek l _ c h
mutual
theorem put_tree {room : Nat} {s0 : Sh} : ∀ (t : Tr) (out new : List Nd) (s : Sh) (a : List Int), Inv room s → Up s0 s → (∀ h ∈ a, live s h = true) → a.length = out.length → fl t out = out ++ new → cntS s + cost s t ≤ room →
    ∃ s' c, putL room s a new = some (s', c) ∧ cntS s' ≤ cntS s + cost s t ∧ Inv room s' ∧ Up s s' ∧ (∀ h ∈ c, live s' h = true)
  | .mk k nums text kids, out, new, s, a, hi, hu, ha, hl, hn, hr => by
    have hw := fl_right s0 _ out new hn
    by_cases e : ∃ h, At s (.mk k nums text kids) h
    · obtain ⟨h, e⟩ := e
      obtain ⟨nw, b, e1, e2, _, _⟩ := seek_at hi _ h out a e hl
      rw [hn] at e1
      obtain rfl := List.append_cancel_left e1
      have hp := put_seek (room := room) _ _ _ e2
      have h2 := inv_putL hi hu ha (by rw [hl]; exact hw) hp
      exact ⟨s, _, hp, by omega, h2.1, Up.refl _, h2.2⟩
    · have hc : cost s (.mk k nums text kids) = 1 + costL s kids := by rw [cost, if_neg e]
      obtain ⟨n1, e1⟩ := flL_ext kids out []
      have hn' := hn
      rw [fl, e1, List.append_assoc] at hn'
      obtain rfl := (List.append_cancel_left hn').symm
      obtain ⟨s1, c1, p1, p2, p3, p4, p5⟩ := put_trees kids out n1 [] s a hi hu ha hl e1 (fun r hr => by cases hr) (by omega)
      obtain ⟨_, b1, q2, q3, q4, _⟩ := atL_put kids out s s1 a c1 n1 [] [] hl e1 p1 ⟨rfl, fun r hr => by cases hr⟩
      rw [wrongF_app, Bool.or_eq_false_iff] at hw
      have hlen1 : out.length + n1.length = c1.length := by rw [q3, e1, List.length_append]
      rw [hc]
      have key : ∃ s2 h2, oneA room s1 (asPut c1 ⟨k, (flL kids out []).2, nums, text⟩) = some (s2, h2) ∧ cntS s2 ≤ cntS s1 + 1 := by
        unfold oneA
        split
        · exact ⟨_, _, rfl, by omega⟩
        · have := freeH_le s1
          rw [if_neg (by omega)]
          exact ⟨_, _, rfl, by rw [cnt_setH]; omega⟩
      obtain ⟨s2, h2, o1, o2⟩ := key
      have hput : putL room s a (n1 ++ [⟨k, (flL kids out []).2, nums, text⟩]) = some (s2, c1 ++ [h2]) := by
        rw [putL_app, p1]
        show putL room s1 c1 [_] = _
        rw [putL, o1]; rfl
      have h3 := inv_putL (s0 := s0) p3 (hu.trans p4) p5 (by rw [← hlen1]; exact hw.2) (show putL room s1 c1 [⟨k, (flL kids out []).2, nums, text⟩] = some (s2, c1 ++ [h2]) by rw [putL, o1]; rfl)
      exact ⟨s2, _, hput, by omega, h3.1, (putL_up hput).1, h3.2⟩
theorem put_trees {room : Nat} {s0 : Sh} : ∀ (ts : List Tr) (out new : List Nd) (refs : List Int) (s : Sh) (a : List Int), Inv room s → Up s0 s → (∀ h ∈ a, live s h = true) → a.length = out.length → (flL ts out refs).1 = out ++ new → NegR out.length refs → cntS s + costL s ts ≤ room →
    ∃ s' c, putL room s a new = some (s', c) ∧ cntS s' ≤ cntS s + costL s ts ∧ Inv room s' ∧ Up s s' ∧ (∀ h ∈ c, live s' h = true)
  | [], out, new, refs, s, a, hi, hu, ha, hl, hn, hneg, hr => by
    rw [flL] at hn
    have : new = [] := by have := congrArg List.length hn; simp at this; exact this
    subst this
    exact ⟨s, a, rfl, by omega, hi, Up.refl _, ha⟩
  | t :: ts, out, new, refs, s, a, hi, hu, ha, hl, hn, hneg, hr => by
    obtain ⟨n1, e1, _⟩ := fl_ext t out
    obtain ⟨n2, e2⟩ := flL_ext ts (fl t out) (refs ++ [-((fl t out).length : Int)])
    rw [flL, e2, e1, List.append_assoc] at hn
    obtain rfl := (List.append_cancel_left hn).symm
    rw [costL] at hr ⊢
    obtain ⟨s1, c1, p1, p2, p3, p4, p5⟩ := put_tree t out n1 s a hi hu ha hl e1 (by omega)
    obtain ⟨_, _, _, q3, _, _⟩ := at_put t out s s1 a c1 n1 hl e1 p1
    have hp := fl_pos t out
    have hup := costL_up p4 ts
    obtain ⟨s2, c2, r1, r2, r3, r4, r5⟩ := put_trees ts (fl t out) n2 (refs ++ [-((fl t out).length : Int)]) s1 c1 p3 (hu.trans p4) p5 q3 e2 (fun r hm => by
      rcases List.mem_append.1 hm with e | e
      · have := hneg r e; omega
      · rw [List.mem_singleton.1 e]; omega) (by omega)
    refine ⟨s2, c2, ?_, by omega, r3, p4.trans r4, r5⟩
    rw [putL_app, p1]
    exact r1
end
end Go.Proofs.YthfbhinlgoaajaaDoor
namespace Go.Proofs.YthfbhinlgoaajaaDoor
open Go.RowKit
noncomputable def getR (s : Sh) (h k : Int) : Option (List UInt8) := (hasT s h).bind fun l => getL l k
theorem getR_some {s : Sh} {h k : Int} {l : List En} (e : hasT s h = some l) : getR s h k = getL l k := by unfold getR; rw [e]; rfl
theorem getR_none {s : Sh} {h k : Int} (e : hasT s h = none) : getR s h k = none := by unfold getR; rw [e]; rfl
end Go.Proofs.YthfbhinlgoaajaaDoor
namespace Go.Proofs.YthfbhinlgoaajaaDoor
open Go.RowKit
def bldF (l : List En) : Txs := l.foldl (fun f x => setX f x.key.toNat x.text) (fun _ => [])
def dupF : Txs → List En → Bool
  | _, [] => false
  | f, x :: r => if f x.key.toNat = [] then dupF (setX f x.key.toNat x.text) r else true
def pBldR (room : Nat) (s : Sh) (l : List En) : Sh × Int × Nat :=
  if (l.any fun x => !rightE x) = true then (s, 0, 1) else if dupF (fun _ => []) l = true then (s, 0, 5) else putT room s (entX (bldF l) 1024)
theorem bldF_ok {l : List En} (h : ∀ x ∈ l, rightE x = true) : OkX (bldF l) := by
  unfold bldF
  have key : ∀ (l : List En) (f : Txs), OkX f → (∀ x ∈ l, rightE x = true) → OkX (l.foldl (fun f x => setX f x.key.toNat x.text) f) := by
    intro l
    induction l with
    | nil => intro f h _; exact h
    | cons x l ih =>
      intro f hf h
      rw [List.foldl_cons]
      exact ih _ (setX_ok hf _ (right_iffE.1 (h x (by simp))).2.2.2) fun y hy => h y (List.mem_cons_of_mem _ hy)
  exact key l _ (fun k => Nat.zero_le _) h
end Go.Proofs.YthfbhinlgoaajaaDoor
namespace Go.Proofs.YthfbhinlgoaajaaDoor
open Go.RowKit
theorem partsD_succ (l : List En) (lv n : Nat) : partsD l lv (n + 1) = partsD l lv n ++ if (partD l lv n).isEmpty then [] else [partD l lv n] := by
  unfold partsD
  rw [List.range_succ, List.map_append, List.filter_append]
  congr 1
  cases h : (partD l lv n).isEmpty <;> simp [h]
theorem partsD_le (l : List En) (lv n : Nat) : ∀ m : Nat, ∃ q, partsD l lv (n + m) = partsD l lv n ++ q
  | 0 => ⟨[], by simp⟩
  | m + 1 => by
    obtain ⟨q, e⟩ := partsD_le l lv n m
    refine ⟨q ++ if (partD l lv (n + m)).isEmpty then [] else [partD l lv (n + m)], ?_⟩
    rw [← Nat.add_assoc, partsD_succ, e, List.append_assoc]
end Go.Proofs.YthfbhinlgoaajaaDoor
namespace Go.Proofs.YthfbhinlgoaajaaDoor
theorem putT_good {room : Nat} {s : Sh} (hi : Inv room s) {l : List En} (ho : OkL l) (hne : l ≠ []) (hr : cntS s + cost s (trK 2 l) ≤ room) :
    (putT room s l).2.2 = 0 ∧ IsT (putT room s l).1 (putT room s l).2.1 l ∧ Inv room (putT room s l).1 ∧ Up s (putT room s l).1 ∧ cntS (putT room s l).1 ≤ cntS s + cost s (trK 2 l) ∧ cntS s ≤ cntS (putT room s l).1 := by
  have hN : nodesL l = fl (trK 2 l) [] := by unfold nodesL; rw [if_neg hne]
  obtain ⟨s', c, p1, p2, p3, p4, p5⟩ := put_tree (room := room) (s0 := s) (trK 2 l) [] (fl (trK 2 l) []) s [] hi (Up.refl _) (fun h hh => by cases hh) rfl rfl hr
  obtain ⟨h, b, q1, q2, q3, q4⟩ := at_put (trK 2 l) [] s s' [] c (fl (trK 2 l) []) rfl rfl p1
  have hw := fl_right s (trK 2 l) [] (fl (trK 2 l) []) rfl
  have hP : putA room s (nodesL l) = (s', c, 0) := by
    rw [hN]
    exact put_good hw p1
  have hc : c ≠ [] := fun e => by rw [e] at q3; cases q3
  have hl : c.getLastD 0 = h := by rw [List.getLastD_eq_getLast?, q3]; rfl
  unfold putT
  rw [hP]
  show (if c = [] then 0 else 0) = 0 ∧ IsT s' (c.getLastD 0) l ∧ _
  rw [hl]
  exact ⟨by split <;> rfl, ⟨ho, .inr ⟨hne, q4⟩⟩, p3, p4, p2, cnt_up p1⟩
end Go.Proofs.YthfbhinlgoaajaaDoor
namespace Go.Proofs.YthfbhinlgoaajaaDoor
theorem setX_at (f : Txs) (k : Nat) (v : List UInt8) (j : Nat) : setX f k v j = if j = k then v else f j := rfl
theorem mem_key {l : List En} (ho : OkL l) {y : En} (hy : y ∈ l) : ∃ k : Nat, k < 1024 ∧ y.key = (k : Int) ∧ y.text ≠ [] := by
  have h := right_iffE.1 (ho.1 y hy)
  refine ⟨y.key.toNat, by omega, by omega, fun e => ?_⟩
  rw [e] at h
  exact absurd h.2.2.1 (by decide)
theorem mem_ent {f : Txs} {n : Nat} {y : En} (k : Nat) (hk : k < n) (hy : y.key = (k : Int)) (ht : y.text ≠ []) : y ∈ entX f n ↔ f k = y.text := by
  rw [entX_mem]
  obtain ⟨yk, yt⟩ := y
  have hy : yk = (k : Int) := hy
  subst hy
  constructor
  · rintro ⟨j, _, e, _⟩
    injection e with e1 e2
    have : k = j := by omega
    subst this
    exact e2.symm
  · intro h
    exact ⟨k, hk, by rw [h], by rw [h]; exact ht⟩
def DisK (l : List En) : Prop := l.Pairwise fun a b => a.key ≠ b.key
theorem dup_no : ∀ {l : List En} {f : Txs}, (∀ x ∈ l, rightE x = true) → dupF f l = false → (∀ x ∈ l, f x.key.toNat = []) ∧ DisK l
  | [], _, _, _ => ⟨fun _ h => absurd h List.not_mem_nil, List.Pairwise.nil⟩
  | x :: r, f, hr, h => by
    rw [dupF] at h
    split at h
    · rename_i e
      obtain ⟨a, b⟩ := dup_no (fun y hy => hr y (List.mem_cons_of_mem _ hy)) h
      have hxr := right_iffE.1 (hr x (by simp))
      have hxt : x.text ≠ [] := fun e => by rw [e] at hxr; exact absurd hxr.2.2.1 (by decide)
      have key : ∀ y ∈ r, y.key.toNat ≠ x.key.toNat ∧ f y.key.toNat = [] := fun y hy => by
        have := a y hy
        rw [setX_at] at this
        split at this
        · exact absurd this hxt
        · rename_i q; exact ⟨q, this⟩
      refine ⟨fun y hy => ?_, List.Pairwise.cons (fun y hy e => (key y hy).1 (by rw [e])) b⟩
      rcases List.mem_cons.1 hy with e' | e'
      · rw [e']; exact e
      · exact (key y e').2
    · cases h
theorem bld_at : ∀ (l : List En) (f : Txs) (k : Nat), (∀ x ∈ l, rightE x = true) → DisK l → l.foldl (fun f x => setX f x.key.toNat x.text) f k = (getL l (k : Int)).getD (f k)
  | [], f, k, _, _ => rfl
  | x :: r, f, k, hr, hd => by
    have hxr := right_iffE.1 (hr x (by simp))
    rw [List.foldl_cons, bld_at r _ k (fun y hy => hr y (List.mem_cons_of_mem _ hy)) (List.pairwise_cons.1 hd).2]
    rw [getL]
    split
    · rename_i e
      have hkx : k = x.key.toNat := by omega
      have : getL r (k : Int) = none := getL_none.2 fun y hy ey => (List.pairwise_cons.1 hd).1 y hy (by rw [ey]; exact e)
      rw [this]
      show setX f x.key.toNat x.text k = x.text
      rw [setX_at, if_pos hkx]
    · rename_i e
      have : setX f x.key.toNat x.text k = f k := by
        rw [setX_at, if_neg (fun h => e (by omega))]
      rw [this]
def srtE (l : List En) : List En := entX (bldF l) 1024
theorem srt_ok {l : List En} (hr : ∀ x ∈ l, rightE x = true) : OkL (srtE l) := entX_ok (bldF_ok hr) 1024 (Nat.le_refl _)
theorem getL_dis : ∀ {l : List En}, DisK l → ∀ {x : En}, x ∈ l → getL l x.key = some x.text
  | y :: r, hd, x, hx => by
    rw [getL]
    rcases List.mem_cons.1 hx with e | e
    · rw [e, if_pos rfl]
    · rw [if_neg (fun h => (List.pairwise_cons.1 hd).1 x e h)]
      exact getL_dis (List.pairwise_cons.1 hd).2 e
theorem srt_mem {l : List En} (hr : ∀ x ∈ l, rightE x = true) (hd : DisK l) (y : En) : y ∈ srtE l ↔ y ∈ l := by
  constructor
  · intro hy
    obtain ⟨k, hk, e, ht⟩ := mem_key (srt_ok hr) hy
    have h := (mem_ent (n := 1024) k hk e ht).1 hy
    unfold bldF at h
    rw [bld_at l _ k hr hd] at h
    cases hg : getL l (k : Int) with
    | none => rw [hg] at h; exact absurd h.symm ht
    | some v =>
      rw [hg] at h
      have h : v = y.text := h
      have := getL_mem hg
      rw [h, ← e] at this
      exact this
  · intro hy
    have hyr := right_iffE.1 (hr y hy)
    have ht : y.text ≠ [] := fun e => by rw [e] at hyr; exact absurd hyr.2.2.1 (by decide)
    refine (mem_ent (n := 1024) y.key.toNat (by omega) (by omega) ht).2 ?_
    unfold bldF
    rw [bld_at l _ _ hr hd, show ((y.key.toNat : Nat) : Int) = y.key by omega, getL_dis hd hy]
    rfl
end Go.Proofs.YthfbhinlgoaajaaDoor
namespace Go.Proofs.YthfbhinlgoaajaaDoor
theorem get_is {s : Sh} {h : Int} {l : List En} (a : IsT s h l) (k : Int) : getR s h k = getL l k := getR_some (hasT_some a)
theorem bld_is {room : Nat} {s : Sh} {l : List En} (hr : ∀ x ∈ l, rightE x = true) (hd : dupF (fun _ => []) l = false) : pBldR room s l = putT room s (srtE l) := by
  unfold pBldR
  have h1 : (l.any fun x => !rightE x) = false := List.any_eq_false.2 fun x hx => by rw [hr x hx]; decide
  rw [if_neg (by rw [h1]; decide), if_neg (by rw [hd]; decide)]
  rfl
theorem isT_bound {room : Nat} {s : Sh} (hi : Inv room s) {h : Int} {l : List En} (a : IsT s h l) : 0 ≤ h ∧ h ≤ room := by
  rcases a.2 with e | ⟨_, e⟩
  · omega
  · have key : ∀ t : Tr, At s t h → 0 ≤ h ∧ h ≤ room := by
      rintro ⟨k, nums, text, kids⟩ q
      rw [At] at q
      obtain ⟨hs, hn, _⟩ := q
      have hl := hi.len
      unfold ndAt at hn
      split at hn
      · rename_i hp
        cases hg : s[(h - 1).toNat]? with
        | none => rw [hg] at hn; cases hn
        | some u =>
          have := (List.getElem?_eq_some_iff.1 hg).1
          omega
      · cases hn
    exact key _ e
/- the live question -/
end Go.Proofs.YthfbhinlgoaajaaDoor
namespace Go.Proofs.YthfbhinlgoaajaaDoor
def sortK (l : List En) : Nat → List En
  | 0 => []
  | n + 1 => sortK l n ++ l.filter (fun x => decide (x.key = (n : Int)))
theorem sortK_mem (l : List En) : ∀ (n : Nat) (x : En), x ∈ sortK l n ↔ x ∈ l ∧ 0 ≤ x.key ∧ x.key < (n : Int)
  | 0, x => by rw [sortK]; constructor; (intro h; cases h); (rintro ⟨_, h⟩; omega)
  | n + 1, x => by
    rw [sortK, List.mem_append, sortK_mem l n x, List.mem_filter, decide_eq_true_eq]
    constructor
    · rintro (⟨h, a⟩ | ⟨h, a⟩)
      · exact ⟨h, by omega⟩
      · exact ⟨h, by omega⟩
    · rintro ⟨h, a, b⟩
      by_cases e : x.key = (n : Int)
      · exact .inr ⟨h, e⟩
      · exact .inl ⟨h, by omega⟩
theorem sortK_le (l : List En) : ∀ n : Nat, (sortK l n).Pairwise (fun a b => a.key ≤ b.key)
  | 0 => by rw [sortK]; exact List.Pairwise.nil
  | n + 1 => by
    rw [sortK]
    refine List.pairwise_append.2 ⟨sortK_le l n, ?_, fun a ha b hb => ?_⟩
    · refine List.Pairwise.imp_of_mem (R := fun _ _ => True) (fun {a b} ha hb _ => ?_) (List.pairwise_of_forall fun _ _ => trivial)
      have h1 := (List.mem_filter.1 ha).2
      have h2 := (List.mem_filter.1 hb).2
      rw [decide_eq_true_eq] at h1 h2
      omega
    · have h1 := ((sortK_mem l n a).1 ha).2.2
      have h2 := (List.mem_filter.1 hb).2
      rw [decide_eq_true_eq] at h2
      omega
theorem sortK_count (l : List En) (a : En) : ∀ n : Nat, (sortK l n).count a = if 0 ≤ a.key ∧ a.key < (n : Int) then l.count a else 0
  | 0 => by rw [sortK, if_neg (by omega)]; rfl
  | n + 1 => by
    rw [sortK, List.count_append, sortK_count l a n]
    by_cases hd : a.key = (n : Int)
    · have h0 : (l.filter (fun x => decide (x.key = (n : Int)))).count a = l.count a := List.count_filter (by simpa using hd)
      rw [h0, if_neg (by omega), if_pos (by omega), Nat.zero_add]
    · have h0 : (l.filter (fun x => decide (x.key = (n : Int)))).count a = 0 := List.count_eq_zero.2 (fun hm => hd (by have := (List.mem_filter.1 hm).2; simpa using this))
      rw [h0, Nat.add_zero]
      by_cases h1 : 0 ≤ a.key ∧ a.key < (n : Int)
      · rw [if_pos h1, if_pos (by omega)]
      · rw [if_neg h1, if_neg (by omega)]
theorem sortK_perm_n {l : List En} (hk : KeyIn l) (n : Nat) (hn : n = 1024) : (sortK l n).Perm l := by
  rw [List.perm_iff_count]
  intro a
  rw [sortK_count]
  by_cases ha : a ∈ l
  · have := hk a ha
    rw [if_pos (by omega)]
  · rw [List.count_eq_zero_of_not_mem ha]; simp
theorem sortK_perm {l : List En} (hk : KeyIn l) : (sortK l 1024).Perm l := sortK_perm_n hk 1024 rfl
theorem keyIn_of {l : List En} (h : ∀ x ∈ l, rightE x = true) : KeyIn l := fun x hx => by have := right_iffE.1 (h x hx); omega
theorem dis_perm {l m : List En} (hp : l.Perm m) : DisK l ↔ DisK m := hp.pairwise_iff (fun h e => h e.symm)
theorem le_ne_lt : ∀ {l : List En}, l.Pairwise (fun a b => a.key ≤ b.key) → DisK l → l.Pairwise (fun a b => a.key < b.key) := fun {l} h k =>
  (h.and k).imp fun {a b} ⟨h1, h2⟩ => by omega
theorem dup_yes : ∀ {l : List En} {f : Txs}, (∀ x ∈ l, rightE x = true) → (∀ x ∈ l, f x.key.toNat = []) → DisK l → dupF f l = false
  | [], _, _, _, _ => rfl
  | x :: r, f, hr, hf, hd => by
    rw [dupF, if_pos (hf x (by simp))]
    have h2 := List.pairwise_cons.1 hd
    have hx := right_iffE.1 (hr x (by simp))
    refine dup_yes (fun y hy => hr y (List.mem_cons_of_mem _ hy)) (fun y hy => ?_) h2.2
    have hy' := right_iffE.1 (hr y (List.mem_cons_of_mem _ hy))
    have := h2.1 y hy
    rw [setX_at, if_neg (by omega)]
    exact hf y (List.mem_cons_of_mem _ hy)
theorem sort_ok {l : List En} (hr : ∀ x ∈ l, rightE x = true) (hd : DisK l) : OkL (sortK l 1024) :=
  ⟨fun x hx => hr x ((sortK_perm (keyIn_of hr)).mem_iff.1 hx), le_ne_lt (sortK_le l 1024) ((dis_perm (sortK_perm (keyIn_of hr))).2 hd)⟩
theorem sort_is {l : List En} (hr : ∀ x ∈ l, rightE x = true) (hd : DisK l) : sortK l 1024 = srtE l :=
  (sort_ok hr hd).eq (srt_ok hr) fun y => by rw [srt_mem hr hd]; exact (sortK_perm (keyIn_of hr)).mem_iff
/- what Build comes to -/
theorem bld_no {room : Nat} {s : Sh} {l : List En} {x : En} (hx : x ∈ l) (h : rightE x = false) : pBldR room s l = (s, 0, 1) := by
  unfold pBldR
  rw [if_pos]
  exact List.any_eq_true.2 ⟨x, hx, by rw [h]; rfl⟩
theorem bld_dup {room : Nat} {s : Sh} {l : List En} (hr : ∀ x ∈ l, rightE x = true) (hd : ¬ DisK l) : pBldR room s l = (s, 0, 5) := by
  unfold pBldR
  have h1 : (l.any fun x => !rightE x) = false := List.any_eq_false.2 fun x hx => by rw [hr x hx]; decide
  rw [if_neg (by rw [h1]; decide), if_pos]
  cases h : dupF (fun _ => []) l with
  | true => rfl
  | false => exact absurd (dup_no hr h).2 hd
theorem bld_yes {room : Nat} {s : Sh} {l : List En} (hr : ∀ x ∈ l, rightE x = true) (hd : DisK l) : pBldR room s l = putT room s (sortK l 1024) := by
  rw [bld_is hr (dup_yes hr (fun _ _ => rfl) hd), sort_is hr hd]
def dropK (l : List En) (k : Int) : List En := l.filter (fun x => !decide (x.key = k))
theorem dropK_mem {l : List En} {k : Int} {y : En} : y ∈ dropK l k ↔ y ∈ l ∧ y.key ≠ k := by
  unfold dropK; rw [List.mem_filter]; simp
theorem ok_dis {l : List En} (h : OkL l) : DisK l := h.2.imp fun {a b} hab e => by omega
end Go.Proofs.YthfbhinlgoaajaaDoor
namespace Go.Proofs.YthfbhinlgoaajaaDoor
structure Ch where
  key : Int
  fr : List UInt8
  tt : List UInt8
deriving Inhabited, DecidableEq
def okC (c : Ch) : Bool := decide (0 ≤ c.key) && (decide (c.key ≤ 1023) && (decide (c.fr.length ≤ 200) && (decide (c.tt.length ≤ 200) && !decide (c.fr = c.tt))))
theorem okC_iff {c : Ch} : okC c = true ↔ 0 ≤ c.key ∧ c.key ≤ 1023 ∧ c.fr.length ≤ 200 ∧ c.tt.length ≤ 200 ∧ c.fr ≠ c.tt := by
  unfold okC; simp only [Bool.and_eq_true, decide_eq_true_eq, Bool.not_eq_true', decide_eq_false_iff_not, ne_eq]
def txE (l : List En) (k : Int) : List UInt8 := (getL l k).getD []
def Rg (l : List En) : Prop := (∀ x ∈ l, rightE x = true) ∧ DisK l
theorem rg_of {l : List En} (h : OkL l) : Rg l := ⟨h.1, ok_dis h⟩
theorem rg_sort {l : List En} (h : Rg l) : OkL (sortK l 1024) := sort_ok h.1 h.2
theorem rg_perm {l : List En} (h : Rg l) : (sortK l 1024).Perm l := sortK_perm (keyIn_of h.1)
theorem sort_self {l : List En} (h : OkL l) : sortK l 1024 = l := (rg_sort (rg_of h)).eq h fun _ => (rg_perm (rg_of h)).mem_iff
theorem right_ne {x : En} (h : rightE x = true) : x.text ≠ [] := fun e => by
  have := right_iffE.1 h
  rw [e] at this
  exact absurd this.2.2.1 (by decide)
theorem tx_mem {l : List En} (h : Rg l) {k : Int} {v : List UInt8} (hv : v ≠ []) : txE l k = v ↔ (⟨k, v⟩ : En) ∈ l := by
  unfold txE
  constructor
  · intro e
    cases g : getL l k with
    | none => rw [g] at e; exact absurd e.symm hv
    | some u => rw [g] at e; exact getL_mem (show getL l k = some v from g.trans (congrArg some e))
  · intro e
    rw [show getL l k = some v from getL_dis (x := ⟨k, v⟩) h.2 e]
    rfl
theorem tx_len {l : List En} (h : Rg l) (k : Int) : (txE l k).length ≤ 200 := by
  by_cases e : txE l k = []
  · rw [e]; exact Nat.zero_le _
  · exact (right_iffE.1 (h.1 _ ((tx_mem h e).1 rfl))).2.2.2
theorem tx_ext {u v : List UInt8} (h : ∀ w : List UInt8, w ≠ [] → (u = w ↔ v = w)) : u = v := by
  by_cases e : u = []
  · by_cases f : v = []
    · rw [e, f]
    · exact (h v f).2 rfl
  · exact ((h u e).1 rfl).symm
theorem rg_ext {l m : List En} (a : Rg l) (b : Rg m) (h : ∀ k : Int, 0 ≤ k → k ≤ 1023 → txE l k = txE m k) : sortK l 1024 = sortK m 1024 := by
  refine (rg_sort a).eq (rg_sort b) fun x => ?_
  rw [(rg_perm a).mem_iff, (rg_perm b).mem_iff]
  obtain ⟨k, v⟩ := x
  constructor
  · intro hx
    have hr := a.1 _ hx
    have := right_iffE.1 hr
    refine (tx_mem b (right_ne hr)).1 ?_
    rw [← h k this.1 this.2.1]
    exact (tx_mem a (right_ne hr)).2 hx
  · intro hx
    have hr := b.1 _ hx
    have := right_iffE.1 hr
    refine (tx_mem a (right_ne hr)).1 ?_
    rw [h k this.1 this.2.1]
    exact (tx_mem b (right_ne hr)).2 hx
def stepC (l : List En) (c : Ch) : List En := dropK l c.key ++ (if c.tt = [] then [] else [⟨c.key, c.tt⟩])
theorem step_mem {l : List En} {c : Ch} {y : En} : y ∈ stepC l c ↔ (y ∈ l ∧ y.key ≠ c.key) ∨ (c.tt ≠ [] ∧ y = ⟨c.key, c.tt⟩) := by
  unfold stepC
  rw [List.mem_append, dropK_mem]
  by_cases e : c.tt = []
  · rw [if_pos e]; simp [e]
  · rw [if_neg e, List.mem_singleton]; simp [e]
theorem to_right {c : Ch} (hc : okC c = true) (ht : c.tt ≠ []) : rightE ⟨c.key, c.tt⟩ = true := by
  have := okC_iff.1 hc
  refine right_iffE.2 ⟨this.1, this.2.1, ?_, this.2.2.2.1⟩
  exact List.length_pos_iff.2 ht
theorem step_rg {l : List En} {c : Ch} (h : Rg l) (hc : okC c = true) : Rg (stepC l c) := by
  constructor
  · intro y hy
    rcases step_mem.1 hy with e | ⟨ht, rfl⟩
    · exact h.1 y e.1
    · exact to_right hc ht
  · unfold stepC
    refine List.pairwise_append.2 ⟨h.2.sublist List.filter_sublist, ?_, fun a ha b hb => ?_⟩
    · split
      · exact List.Pairwise.nil
      · exact List.pairwise_singleton _ _
    · split at hb
      · cases hb
      · rw [List.mem_singleton.1 hb]; exact (dropK_mem.1 ha).2
theorem step_tx {l : List En} {c : Ch} (h : Rg l) (hc : okC c = true) (k : Int) : txE (stepC l c) k = if k = c.key then c.tt else txE l k := by
  refine tx_ext fun w hw => ?_
  rw [tx_mem (step_rg h hc) hw, step_mem]
  by_cases e : k = c.key
  · rw [if_pos e]
    constructor
    · rintro (q | ⟨_, q⟩)
      · exact absurd e q.2
      · injection q with q1 q2; exact q2.symm
    · intro q
      refine .inr ⟨by rw [q]; exact hw, by rw [e, q]⟩
  · rw [if_neg e, tx_mem h hw]
    constructor
    · rintro (q | ⟨_, q⟩)
      · exact q.1
      · injection q with q1 q2; exact absurd q1 e
    · intro q; exact .inl ⟨q, e⟩
def DisC (cs : List Ch) : Prop := cs.Pairwise fun a b => a.key ≠ b.key
def runC : List En → List Ch → Option (List En)
  | l, [] => some l
  | l, c :: cs => if txE l c.key = c.fr then runC (stepC l c) cs else none
theorem run_some : ∀ {cs : List Ch} {l m : List En}, Rg l → (∀ c ∈ cs, okC c = true) → DisC cs → runC l cs = some m →
    Rg m ∧ (∀ c ∈ cs, txE l c.key = c.fr ∧ txE m c.key = c.tt) ∧ ∀ k, (∀ c ∈ cs, c.key ≠ k) → txE m k = txE l k
  | [], l, m, h, _, _, e => by
    rw [runC] at e
    obtain rfl := Option.some.inj e
    exact ⟨h, fun c hc => (by cases hc), fun _ _ => rfl⟩
  | c :: cs, l, m, h, hc, hd, e => by
    rw [runC] at e
    split at e
    · rename_i hf
      have hd' := List.pairwise_cons.1 hd
      have hc0 := hc c (by simp)
      obtain ⟨a, b, d⟩ := run_some (step_rg h hc0) (fun q hq => hc q (List.mem_cons_of_mem _ hq)) hd'.2 e
      refine ⟨a, fun q hq => ?_, fun k hk => ?_⟩
      · rcases List.mem_cons.1 hq with rfl | hq
        · refine ⟨hf, ?_⟩
          rw [d q.key fun x hx => (hd'.1 x hx).symm, step_tx h hc0, if_pos rfl]
        · have := b q hq
          rw [step_tx h hc0, if_neg (hd'.1 q hq).symm] at this
          exact this
      · rw [d k fun x hx => hk x (List.mem_cons_of_mem _ hx), step_tx h hc0, if_neg fun e => hk c (by simp) e.symm]
    · cases e
theorem run_ok : ∀ {cs : List Ch} {l : List En}, Rg l → (∀ c ∈ cs, okC c = true) → DisC cs → (∀ c ∈ cs, txE l c.key = c.fr) → ∃ m, runC l cs = some m
  | [], l, _, _, _, _ => ⟨l, rfl⟩
  | c :: cs, l, h, hc, hd, hf => by
    have hd' := List.pairwise_cons.1 hd
    have hc0 := hc c (by simp)
    rw [runC, if_pos (hf c (by simp))]
    refine run_ok (step_rg h hc0) (fun q hq => hc q (List.mem_cons_of_mem _ hq)) hd'.2 fun q hq => ?_
    rw [step_tx h hc0, if_neg (hd'.1 q hq).symm]
    exact hf q (List.mem_cons_of_mem _ hq)
def chN (l m : List En) : Nat → List Ch
  | 0 => []
  | n + 1 => chN l m n ++ (if txE l (n : Int) = txE m (n : Int) then [] else [⟨(n : Int), txE l (n : Int), txE m (n : Int)⟩])
theorem chN_mem {l m : List En} : ∀ {n : Nat} {c : Ch}, c ∈ chN l m n ↔ ∃ k : Nat, k < n ∧ txE l (k : Int) ≠ txE m (k : Int) ∧ c = ⟨(k : Int), txE l (k : Int), txE m (k : Int)⟩
  | 0, c => by
    rw [chN]
    constructor
    · intro h; cases h
    · rintro ⟨k, hk, _⟩; omega
  | n + 1, c => by
    rw [chN, List.mem_append, chN_mem]
    constructor
    · rintro (⟨k, hk, h⟩ | h)
      · exact ⟨k, by omega, h⟩
      · split at h
        · cases h
        · rename_i hne
          exact ⟨n, by omega, hne, List.mem_singleton.1 h⟩
    · rintro ⟨k, hk, hne, e⟩
      by_cases hkn : k < n
      · exact .inl ⟨k, hkn, hne, e⟩
      · obtain rfl : k = n := by omega
        right
        rw [if_neg hne, e]
        exact List.mem_singleton.2 rfl
theorem chN_lt {l m : List En} : ∀ n : Nat, (chN l m n).Pairwise fun a b => a.key < b.key
  | 0 => by rw [chN]; exact List.Pairwise.nil
  | n + 1 => by
    rw [chN]
    refine List.pairwise_append.2 ⟨chN_lt n, ?_, fun a ha b hb => ?_⟩
    · split
      · exact List.Pairwise.nil
      · exact List.pairwise_singleton _ _
    · obtain ⟨k, hk, _, e⟩ := chN_mem.1 ha
      split at hb
      · cases hb
      · rw [List.mem_singleton.1 hb, e]
        show (k : Int) < (n : Int)
        omega
theorem chN_len {l m : List En} : ∀ n : Nat, (chN l m n).length ≤ n
  | 0 => Nat.le_refl _
  | n + 1 => by
    have := chN_len (l := l) (m := m) n
    rw [chN, List.length_append]
    split
    · rw [List.length_nil]; omega
    · rw [List.length_singleton]; omega
def turnC (c : Ch) : Ch := ⟨c.key, c.tt, c.fr⟩
theorem chN_turn {l m : List En} : ∀ n : Nat, (chN l m n).map turnC = chN m l n
  | 0 => rfl
  | n + 1 => by
    rw [chN, chN, List.map_append, chN_turn n]
    by_cases e : txE l (n : Int) = txE m (n : Int)
    · rw [if_pos e, if_pos e.symm]; rfl
    · rw [if_neg e, if_neg fun q => e q.symm]; rfl
theorem chN_self (l : List En) : ∀ n : Nat, chN l l n = []
  | 0 => rfl
  | n + 1 => by rw [chN, chN_self l n, if_pos rfl]; rfl
theorem chN_ok {l m : List En} (a : Rg l) (b : Rg m) {n : Nat} (hn : n ≤ 1024) : ∀ c ∈ chN l m n, okC c = true := fun c hc => by
  obtain ⟨k, hk, hne, rfl⟩ := chN_mem.1 hc
  have h1 := tx_len a (k : Int)
  have h2 := tx_len b (k : Int)
  refine okC_iff.2 ⟨?_, ?_, h1, h2, hne⟩
  · show (0 : Int) ≤ (k : Int); omega
  · show (k : Int) ≤ 1023; omega
theorem chN_dis {l m : List En} (n : Nat) : DisC (chN l m n) := (chN_lt n).imp fun {a b} h e => by omega
theorem run_there {l m : List En} (a : Rg l) (b : Rg m) {n : Nat} (hn : n = 1024) : ∃ q, runC l (chN l m n) = some q ∧ Rg q ∧ sortK q 1024 = sortK m 1024 := by
  have hk := chN_ok a b (n := n) (by omega)
  obtain ⟨q, e⟩ := run_ok a hk (chN_dis n) fun c hc => by
    obtain ⟨k, _, _, rfl⟩ := chN_mem.1 hc
    rfl
  obtain ⟨hq, h1, h2⟩ := run_some a hk (chN_dis n) e
  refine ⟨q, e, hq, rg_ext hq b fun k k0 k1 => ?_⟩
  by_cases hne : txE l k = txE m k
  · rw [h2 k fun c hc ek => ?_, hne]
    obtain ⟨j, _, hj, rfl⟩ := chN_mem.1 hc
    have ek : (j : Int) = k := ek
    rw [ek] at hj
    exact hj hne
  · have ek : ((k.toNat : Nat) : Int) = k := by omega
    have := (h1 ⟨k, txE l k, txE m k⟩ (chN_mem.2 ⟨k.toNat, by omega, by rw [ek]; exact hne, by rw [ek]⟩)).2
    exact this
theorem chN_nil {l m : List En} (a : Rg l) (b : Rg m) {n : Nat} (hn : n = 1024) (h : chN l m n = []) : sortK l 1024 = sortK m 1024 :=
  rg_ext a b fun k k0 k1 => Classical.byContradiction fun hne => by
    have ek : ((k.toNat : Nat) : Int) = k := by omega
    have : (⟨k, txE l k, txE m k⟩ : Ch) ∈ chN l m n := chN_mem.2 ⟨k.toNat, by omega, by rw [ek]; exact hne, by rw [ek]⟩
    rw [h] at this
    cases this
open Classical in
noncomputable def pAplR (room : Nat) (s : Sh) (h : Int) (cs : List Ch) : Sh × Int × Nat := match hasT s h with
  | none => (s, 0, 1)
  | some l => if (∃ c ∈ cs, okC c = false) then (s, 0, 1) else if ¬ DisC cs then (s, 0, 5) else match runC l cs with
    | none => (s, 0, 7)
    | some m => pBldR room s m
theorem apl_none {room : Nat} {s : Sh} {h : Int} {cs : List Ch} (e : hasT s h = none) : pAplR room s h cs = (s, 0, 1) := by unfold pAplR; rw [e]
theorem apl_bad {room : Nat} {s : Sh} {h : Int} {cs : List Ch} {l : List En} (e : hasT s h = some l) {c : Ch} (hc : c ∈ cs) (ho : okC c = false) : pAplR room s h cs = (s, 0, 1) := by
  unfold pAplR
  rw [e]
  exact if_pos ⟨c, hc, ho⟩
theorem all_ok {cs : List Ch} (hc : ∀ c ∈ cs, okC c = true) : ¬ ∃ c ∈ cs, okC c = false := fun ⟨c, h, e⟩ => by rw [hc c h] at e; cases e
theorem apl_dup {room : Nat} {s : Sh} {h : Int} {cs : List Ch} {l : List En} (e : hasT s h = some l) (hc : ∀ c ∈ cs, okC c = true) (hd : ¬ DisC cs) : pAplR room s h cs = (s, 0, 5) := by
  unfold pAplR
  rw [e]
  exact (if_neg (all_ok hc)).trans (if_pos hd)
theorem apl_clash {room : Nat} {s : Sh} {h : Int} {cs : List Ch} {l : List En} (e : hasT s h = some l) (hc : ∀ c ∈ cs, okC c = true) (hd : DisC cs) (hr : runC l cs = none) : pAplR room s h cs = (s, 0, 7) := by
  unfold pAplR
  rw [e]
  refine (if_neg (all_ok hc)).trans ((if_neg (fun q => q hd)).trans ?_)
  rw [hr]
theorem apl_yes {room : Nat} {s : Sh} {h : Int} {cs : List Ch} {l m : List En} (e : hasT s h = some l) (hc : ∀ c ∈ cs, okC c = true) (hd : DisC cs) (hr : runC l cs = some m) : pAplR room s h cs = putT room s (sortK m 1024) := by
  unfold pAplR
  rw [e]
  refine (if_neg (all_ok hc)).trans ((if_neg (fun q => q hd)).trans ?_)
  rw [hr]
  have hm := (run_some (rg_of (hasT_is e).1) hc hd hr).1
  exact bld_yes hm.1 hm.2
theorem put_there {room : Nat} {s : Sh} (hi : Inv room s) {y : Int} {m : List En} (b : IsT s y m) (hr : cntS s ≤ room) :
    (putT room s m).2.2 = 0 ∧ (putT room s m).2.1 = y ∧ Inv room (putT room s m).1 ∧ Up s (putT room s m).1 ∧ cntS (putT room s m).1 = cntS s := by
  rcases b.2 with ⟨rfl, rfl⟩ | ⟨hne, hat⟩
  · have e : putT room s [] = (s, 0, 0) := by
      unfold putT nodesL
      rw [if_pos rfl]
      rfl
    rw [e]
    exact ⟨rfl, rfl, hi, Up.refl _, rfl⟩
  · obtain ⟨h1, h2, h3, h4, h5, h6⟩ := putT_good hi b.1 hne (by rw [cost_at hat]; exact hr)
    rw [cost_at hat] at h5
    exact ⟨h1, isT_one h3 h2 (isT_up h4 b), h3, h4, by omega⟩
theorem apl_there {room : Nat} {s : Sh} (hi : Inv room s) {x y : Int} {l m : List En} (a : IsT s x l) (b : IsT s y m) (hr : cntS s ≤ room) {n : Nat} (hn : n = 1024) :
    (pAplR room s x (chN l m n)).2.2 = 0 ∧ (pAplR room s x (chN l m n)).2.1 = y ∧ Inv room (pAplR room s x (chN l m n)).1 ∧ Up s (pAplR room s x (chN l m n)).1 ∧ cntS (pAplR room s x (chN l m n)).1 = cntS s := by
  obtain ⟨q, e, _, hs⟩ := run_there (rg_of a.1) (rg_of b.1) hn
  rw [apl_yes (hasT_some a) (chN_ok (rg_of a.1) (rg_of b.1) (by omega)) (chN_dis n) e, hs, sort_self b.1]
  exact put_there hi b hr
theorem there_same {room : Nat} {s : Sh} (hi : Inv room s) {x y : Int} {l m : List En} (a : IsT s x l) (b : IsT s y m) {n : Nat} (hn : n = 1024) : x = y ↔ chN l m n = [] := by
  constructor
  · intro e
    rw [e] at a
    rw [isT_fun a b]
    exact chN_self _ _
  · intro e
    have hs := chN_nil (rg_of a.1) (rg_of b.1) hn e
    rw [sort_self a.1, sort_self b.1] at hs
    rw [hs] at a
    exact isT_one hi a b
end Go.Proofs.YthfbhinlgoaajaaDoor
namespace Go.Proofs.YthfbhinlgoaajaaDoor
open Go.RowKit
theorem RowI.at {w : World} {P : Nat → Prop} {A : Option Addr} {l : List Int} (h : RowI w P A l) {i : Nat} (hi : i < l.length) : ∃ g o, A = some ⟨g, o, none⟩ ∧ P g ∧ g < w.heap.size ∧ ∀ (i : Nat) (x : Int), l[i]? = some x → w.cell? ⟨g, o + i, none⟩ = some (.int .i64 x) := by
  rcases h with rfl | h
  · simp at hi
  · exact h
end Go.Proofs.YthfbhinlgoaajaaDoor
namespace Go.Proofs.YthfbhinlgoaajaaDoor
open Go.RowKit
theorem int_info : (Tryd.prog.info? 3).map (fun i => (i.zero, i.size, i.bytes)) = some (some (.int .i64 0), 1, 8) := by kernel_rfl
theorem inW_one : ∀ q : Int, ∀ u ∈ inW q, u.oneCell' = true := by
  intro q u hu
  simp only [inW, List.mem_cons, List.not_mem_nil, or_false] at hu
  subst hu; rfl
end Go.Proofs.YthfbhinlgoaajaaDoor
