/- Texts joined: TpB, OwB, RwB, NdIk, NdMk, TpZ, TpS, TpB9, TpR. -/
import Derived.Test.YthfbhinlgoaajaaDoorDj01
import Derived.OwnWalk
import Derived.Deep.Onto
import Derived.Deep.AppendLies
import Derived.Maps.AppendAt
set_option linter.all false
namespace Go.Proofs.YthfbhinlgoaajaaDoor
structure En where
  key : Int
  text : List UInt8
deriving Inhabited, DecidableEq
def hashK (k : Int) : Int := if 0 ≤ k ∧ k ≤ 1023 then 41 * k % 1024 / 2 else -1
def digK (k : Int) (lv : Nat) : Int := if lv = 0 then hashK k % 32 else hashK k / 32
def rightE (x : En) : Bool := decide (0 ≤ x.key) && (decide (x.key ≤ 1023) && (decide (1 ≤ x.text.length) && decide (x.text.length ≤ 200)))
theorem right_iffE {x : En} : rightE x = true ↔ 0 ≤ x.key ∧ x.key ≤ 1023 ∧ 1 ≤ x.text.length ∧ x.text.length ≤ 200 := by
  unfold rightE; simp only [Bool.and_eq_true, decide_eq_true_eq]
def leafT (x : En) : Tr := .mk 1 [x.key] x.text []
def bukT : List En → Tr
  | [x] => leafT x
  | l => .mk 2 [] [] (l.map leafT)
def oneH : List En → Bool
  | [] => true
  | x :: r => r.all (fun y => decide (hashK y.key = hashK x.key))
def partD (l : List En) (lv d : Nat) : List En := l.filter (fun x => decide (digK x.key lv = (d : Int)))
def partsD (l : List En) (lv n : Nat) : List (List En) := ((List.range n).map (partD l lv)).filter (fun p => !p.isEmpty)
def bitsD (l : List En) (lv : Nat) : Nat → Nat
  | 0 => 0
  | n + 1 => bitsD l lv n + if (partD l lv n).isEmpty then 0 else 2 ^ n
def trK : Nat → List En → Tr
  | 0, l => bukT l
  | k + 1, l => if oneH l then bukT l else .mk 3 [(bitsD l (1 - k) 32 : Int)] [] ((partsD l (1 - k) 32).map (trK k))
mutual
def lvs : Tr → List En
  | .mk k nums text kids => (if k = 1 ∧ nums.length = 1 then [⟨nums.headD 0, text⟩] else []) ++ lvsL kids
def lvsL : List Tr → List En
  | [] => []
  | t :: ts => lvs t ++ lvsL ts
end
theorem lvsL_map (f : List En → Tr) : ∀ (P : List (List En)), (∀ p ∈ P, (lvs (f p)).Perm p) → (lvsL (P.map f)).Perm P.flatten
  | [], _ => by rw [List.map_nil, lvsL, List.flatten_nil]
  | p :: P, h => by
    rw [List.map_cons, lvsL, List.flatten_cons]
    exact (h p (by simp)).append (lvsL_map f P fun q hq => h q (List.mem_cons_of_mem _ hq))
theorem lvs_leaf (x : En) : lvs (leafT x) = [x] := by unfold leafT; rw [lvs, lvsL]; rfl
theorem lvsL_leaf : ∀ l : List En, lvsL (l.map leafT) = l
  | [] => by rw [List.map_nil, lvsL]
  | x :: l => by rw [List.map_cons, lvsL, lvs_leaf, lvsL_leaf l]; rfl
theorem lvs_buk (l : List En) : lvs (bukT l) = l := by
  unfold bukT
  split
  · exact lvs_leaf _
  · rw [lvs, lvsL_leaf]; rfl
theorem hash_bound {k : Int} (h : 0 ≤ k ∧ k ≤ 1023) : 0 ≤ hashK k ∧ hashK k ≤ 511 := by unfold hashK; rw [if_pos h]; omega
theorem dig_bound {k : Int} (h : 0 ≤ k ∧ k ≤ 1023) (lv : Nat) : 0 ≤ digK k lv ∧ digK k lv < 32 := by
  have := hash_bound h
  unfold digK; split <;> omega
theorem part_count (l : List En) (lv n : Nat) (a : En) : ((List.range n).flatMap (partD l lv)).count a = if 0 ≤ digK a.key lv ∧ digK a.key lv < n then l.count a else 0 := by
  induction n with
  | zero => rw [if_neg (by omega)]; rfl
  | succ n ih =>
    rw [List.range_succ, List.flatMap_append, List.count_append, ih]
    have e : ([n].flatMap (partD l lv)) = partD l lv n := by simp
    rw [e]
    by_cases hd : digK a.key lv = (n : Int)
    · have h0 : (partD l lv n).count a = l.count a := List.count_filter (by simpa using hd)
      rw [h0, if_neg (by omega), if_pos (by omega), Nat.zero_add]
    · have h0 : (partD l lv n).count a = 0 := List.count_eq_zero.2 (fun hm => hd (by have := (List.mem_filter.1 hm).2; simpa using this))
      rw [h0, Nat.add_zero]
      by_cases h1 : 0 ≤ digK a.key lv ∧ digK a.key lv < n
      · rw [if_pos h1, if_pos (by omega)]
      · rw [if_neg h1, if_neg (by omega)]
def KeyIn (l : List En) : Prop := ∀ x ∈ l, 0 ≤ x.key ∧ x.key ≤ 1023
theorem parts_perm {l : List En} (hk : KeyIn l) (lv : Nat) : (partsD l lv 32).flatten.Perm l := by
  unfold partsD
  rw [List.flatten_filter_not_isEmpty, ← List.flatMap_def, List.perm_iff_count]
  intro a
  rw [part_count]
  by_cases ha : a ∈ l
  · have := dig_bound (hk a ha) lv
    rw [if_pos (by omega)]
  · rw [List.count_eq_zero_of_not_mem ha]; simp
theorem part_sub {l p : List En} {lv n : Nat} (h : p ∈ partsD l lv n) : p.Sublist l ∧ p ≠ [] ∧ ∃ d : Nat, d < n ∧ p = partD l lv d := by
  unfold partsD at h
  obtain ⟨h1, h2⟩ := List.mem_filter.1 h
  obtain ⟨d, hd, rfl⟩ := List.mem_map.1 h1
  exact ⟨List.filter_sublist, (by intro e; rw [e] at h2; cases h2), d, List.mem_range.1 hd, rfl⟩
theorem lvs_trK : ∀ (k : Nat) {l : List En}, KeyIn l → (lvs (trK k l)).Perm l
  | 0, l, h => by rw [trK, lvs_buk]
  | k + 1, l, h => by
    rw [trK]
    split
    · rw [lvs_buk]
    · rw [lvs, if_neg (by omega), List.nil_append]
      exact (lvsL_map (trK k) _ fun p hp => lvs_trK k fun x hx => h x ((part_sub hp).1.subset hx)).trans (parts_perm h _)
def OkL (l : List En) : Prop := (∀ x ∈ l, rightE x = true) ∧ l.Pairwise (fun a b => a.key < b.key)
theorem OkL.keys {l : List En} (h : OkL l) : KeyIn l := fun x hx => by have := right_iffE.1 (h.1 x hx); omega
theorem OkL.nodup {l : List En} (h : OkL l) : l.Nodup := h.2.imp fun {a b} hab e => by rw [e] at hab; omega
theorem OkL.eq {l m : List En} (h : OkL l) (k : OkL m) (hm : ∀ x, x ∈ l ↔ x ∈ m) : l = m := by
  have hp := (List.perm_ext_iff_of_nodup h.nodup k.nodup).2 hm
  refine hp.eq_of_pairwise (le := fun a b => a.key < b.key) (fun a b _ _ h1 h2 => ?_) h.2 k.2
  omega
theorem OkL.nil : OkL [] := ⟨fun x hx => (by cases hx), List.Pairwise.nil⟩
def IsT (s : Sh) (h : Int) (l : List En) : Prop := OkL l ∧ ((l = [] ∧ h = 0) ∨ (l ≠ [] ∧ At s (trK 2 l) h))
theorem isT_fun {s : Sh} {h : Int} {l m : List En} (a : IsT s h l) (b : IsT s h m) : l = m := by
  obtain ⟨ol, a⟩ := a
  obtain ⟨om, b⟩ := b
  rcases a with ⟨rfl, rfl⟩ | ⟨hl, a⟩
  · rcases b with ⟨rfl, _⟩ | ⟨_, b⟩
    · rfl
    · have := live_bound (at_live b); omega
  · rcases b with ⟨rfl, rfl⟩ | ⟨hm, b⟩
    · have := live_bound (at_live a); omega
    · have e := at_fun _ _ _ a b
      have p1 := lvs_trK 2 ol.keys
      have p2 := lvs_trK 2 om.keys
      rw [e] at p1
      exact ol.eq om fun x => (p1.symm.trans p2).mem_iff
theorem isT_one {room : Nat} {s : Sh} (hi : Inv room s) {h k : Int} {l : List En} (a : IsT s h l) (b : IsT s k l) : h = k := by
  rcases a.2 with ⟨hl, rfl⟩ | ⟨hl, a⟩
  · rcases b.2 with ⟨_, rfl⟩ | ⟨h2, _⟩
    · rfl
    · exact absurd hl h2
  · rcases b.2 with ⟨h2, _⟩ | ⟨_, b⟩
    · exact absurd h2 hl
    · exact at_one hi _ _ _ a b
theorem isT_up {s s' : Sh} (hu : Up s s') {h : Int} {l : List En} (a : IsT s h l) : IsT s' h l :=
  ⟨a.1, a.2.imp id fun h => ⟨h.1, at_up hu _ _ h.2⟩⟩
open Classical in
noncomputable def hasT (s : Sh) (h : Int) : Option (List En) := if e : ∃ l, IsT s h l then some e.choose else none
theorem hasT_some {s : Sh} {h : Int} {l : List En} (a : IsT s h l) : hasT s h = some l := by
  unfold hasT
  rw [dif_pos ⟨l, a⟩]
  exact congrArg some (isT_fun (Exists.choose_spec (⟨l, a⟩ : ∃ l, IsT s h l)) a)
theorem hasT_none {s : Sh} {h : Int} (a : ∀ l, ¬ IsT s h l) : hasT s h = none := by
  unfold hasT
  rw [dif_neg fun ⟨l, e⟩ => a l e]
theorem hasT_is {s : Sh} {h : Int} {l : List En} (a : hasT s h = some l) : IsT s h l := by
  unfold hasT at a
  split at a
  · rename_i e
    rw [← Option.some.inj a]; exact e.choose_spec
  · cases a

/- What the leaves below a handle have. -/
def rdE (s : Sh) (x : Int) : Option En := (ndAt s x).bind fun n => if n.kind = 1 ∧ n.nums.length = 1 then some ⟨n.nums.headD 0, n.text⟩ else none
theorem rch_from {room : Nat} {s : Sh} (hi : Inv room s) {h x : Int} {n : Nd} (hn : ndAt s h = some n) : Rch s [h] x ↔ x = h ∨ ∃ r ∈ n.refs, live s r = true ∧ Rch s [r] x := by
  have hl : live s h = true := live_iff.2 ⟨n, hn⟩
  constructor
  · intro e
    induction e with
    | root r hm _ => exact .inl (by simpa using hm)
    | ref y r m hr hy hm hp ih =>
      rcases ih with rfl | ⟨q, hq, hlq, hrq⟩
      · rw [hn] at hy
        cases hy
        have hlr : live s r = true := by
          rcases hi.shut _ n hn r hm with e | e
          · omega
          · exact e
        exact .inr ⟨r, hm, hlr, .root r (by simp) hlr⟩
      · exact .inr ⟨q, hq, hlq, .ref y r m hrq hy hm hp⟩
  · rintro (rfl | ⟨r, hr, hlr, e⟩)
    · exact .root _ (by simp) hl
    · induction e with
      | root q hm _ =>
        obtain rfl : q = r := by simpa using hm
        exact .ref h q n (.root h (by simp) hl) hn hr (live_bound hlr).1
      | ref y q m _ hy hm hp ih => exact .ref y q m ih hy hm hp
mutual
theorem rch_lvs {room : Nat} {s : Sh} (hi : Inv room s) : ∀ (t : Tr) (h : Int), At s t h → ∀ e, (∃ x, Rch s [h] x ∧ rdE s x = some e) ↔ e ∈ lvs t
  | .mk k nums text kids, h, hA, e => by
    rw [At] at hA
    obtain ⟨hs, hn, hk⟩ := hA
    have hr : rdE s h = if k = 1 ∧ nums.length = 1 then some ⟨nums.headD 0, text⟩ else none := by unfold rdE; rw [hn]; rfl
    have ih := rchL_lvs hi kids hs hk e
    rw [lvs, List.mem_append, ← ih]
    constructor
    · rintro ⟨x, hx, he⟩
      rcases (rch_from hi hn).1 hx with rfl | ⟨r, hm, hl, hq⟩
      · rw [hr] at he
        split at he
        · rename_i hc
          exact .inl (by rw [if_pos hc, Option.some.inj he]; simp)
        · cases he
      · exact .inr ⟨r, hm, x, hq, he⟩
    · rintro (he | ⟨r, hm, x, hq, he⟩)
      · split at he
        · rename_i hc
          exact ⟨h, (rch_from hi hn).2 (.inl rfl), by rw [hr, if_pos hc]; exact congrArg some (List.mem_singleton.1 he).symm⟩
        · cases he
      · exact ⟨x, (rch_from hi hn).2 (.inr ⟨r, hm, atL_live kids hs hk r hm, hq⟩), he⟩
theorem rchL_lvs {room : Nat} {s : Sh} (hi : Inv room s) : ∀ (ts : List Tr) (hs : List Int), AtL s ts hs → ∀ e, (∃ r ∈ hs, ∃ x, Rch s [r] x ∧ rdE s x = some e) ↔ e ∈ lvsL ts
  | [], hs, h, e => by
    rw [AtL] at h
    subst h
    rw [lvsL]
    simp
  | t :: ts, hs, h, e => by
    rw [AtL] at h
    obtain ⟨r, hs', rfl, a, b⟩ := h
    rw [lvsL, List.mem_append, ← rch_lvs hi t r a e, ← rchL_lvs hi ts hs' b e]
    simp only [List.mem_cons]
    constructor
    · rintro ⟨q, rfl | hq, x, hx⟩
      · exact .inl ⟨x, hx⟩
      · exact .inr ⟨q, hq, x, hx⟩
    · rintro (⟨x, hx⟩ | ⟨q, hq, x, hx⟩)
      · exact ⟨r, .inl rfl, x, hx⟩
      · exact ⟨q, .inr hq, x, hx⟩
end
/- Texts by their keys. -/
abbrev Txs := Nat → List UInt8
def setX (f : Txs) (k : Nat) (v : List UInt8) : Txs := fun j => if j = k then v else f j
def addR (s : Sh) (f : Txs) (x : Int) : Txs := match rdE s x with | none => f | some e => if rightE e = true then setX f e.key.toNat e.text else f
def readX (s : Sh) (l : List Int) : Txs := l.foldl (addR s) (fun _ => [])
theorem readX_snoc (s : Sh) (l : List Int) (x : Int) : readX s (l ++ [x]) = addR s (readX s l) x := by unfold readX; rw [List.foldl_append]; rfl
def entX (f : Txs) : Nat → List En
  | 0 => []
  | n + 1 => entX f n ++ if f n = [] then [] else [⟨(n : Int), f n⟩]
theorem entX_mem (f : Txs) : ∀ (n : Nat) (x : En), x ∈ entX f n ↔ ∃ k : Nat, k < n ∧ x = ⟨(k : Int), f k⟩ ∧ f k ≠ []
  | 0, x => by rw [entX]; simp
  | n + 1, x => by
    rw [entX, List.mem_append, entX_mem f n x]
    constructor
    · rintro (⟨k, hk, e, h⟩ | hx)
      · exact ⟨k, by omega, e, h⟩
      · split at hx
        · cases hx
        · rename_i hn
          exact ⟨n, by omega, by simpa using hx, hn⟩
    · rintro ⟨k, hk, e, h⟩
      by_cases e' : k = n
      · subst e'
        exact .inr (by rw [if_neg h]; simp [e])
      · exact .inl ⟨k, by omega, e, h⟩
def OkX (f : Txs) : Prop := ∀ k : Nat, (f k).length ≤ 200
theorem entX_ok {f : Txs} (h : OkX f) : ∀ n : Nat, n ≤ 1024 → OkL (entX f n)
  | 0, _ => by rw [entX]; exact OkL.nil
  | n + 1, hn => by
    have ih := entX_ok h n (by omega)
    refine ⟨fun x hx => ?_, ?_⟩
    · obtain ⟨k, hk, rfl, hne⟩ := (entX_mem f (n + 1) x).1 hx
      have := h k
      have := List.length_pos_iff.2 hne
      exact right_iffE.2 ⟨by show (0 : Int) ≤ (k : Int); omega, by show (k : Int) ≤ 1023; omega, this, by assumption⟩
    · rw [entX]
      refine List.pairwise_append.2 ⟨ih.2, by split <;> simp, fun a ha b hb => ?_⟩
      obtain ⟨k, hk, rfl, _⟩ := (entX_mem f n a).1 ha
      split at hb
      · cases hb
      · rw [List.mem_singleton.1 hb]
        show (k : Int) < (n : Int)
        omega
theorem setX_ok {f : Txs} (h : OkX f) (k : Nat) {v : List UInt8} (hv : v.length ≤ 200) : OkX (setX f k v) := fun j => by
  unfold setX; split
  · exact hv
  · exact h j
theorem readX_ok (s : Sh) (l : List Int) : OkX (readX s l) := by
  unfold readX
  have key : ∀ (l : List Int) (f : Txs), OkX f → OkX (l.foldl (addR s) f) := by
    intro l
    induction l with
    | nil => intro f h; exact h
    | cons x l ih =>
      intro f h
      rw [List.foldl_cons]
      refine ih _ ?_
      unfold addR
      split
      · exact h
      · split
        · rename_i hr
          exact setX_ok h _ (right_iffE.1 hr).2.2.2
        · exact h
  exact key l _ fun k => Nat.zero_le _
def getL : List En → Int → Option (List UInt8)
  | [], _ => none
  | x :: l, k => if x.key = k then some x.text else getL l k
theorem getL_mem : ∀ {l : List En} {k : Int} {v : List UInt8}, getL l k = some v → (⟨k, v⟩ : En) ∈ l
  | x :: l, k, v, h => by
    rw [getL] at h
    split at h
    · rename_i e
      subst e
      rw [← Option.some.inj h]; exact List.mem_cons_self
    · exact List.mem_cons_of_mem _ (getL_mem h)
theorem getL_of : ∀ {l : List En} {x : En}, OkL l → x ∈ l → getL l x.key = some x.text
  | y :: l, x, hl, hx => by
    rw [getL]
    rcases List.mem_cons.1 hx with e | e
    · rw [e, if_pos rfl]
    · have := (List.pairwise_cons.1 hl.2).1 x e
      rw [if_neg (by omega)]
      exact getL_of ⟨fun z hz => hl.1 z (List.mem_cons_of_mem _ hz), (List.pairwise_cons.1 hl.2).2⟩ e
theorem getL_none : ∀ {l : List En} {k : Int}, getL l k = none ↔ ∀ x ∈ l, x.key ≠ k
  | [], k => by simp [getL]
  | y :: l, k => by
    rw [getL]
    split
    · rename_i e; simp [e]
    · rename_i e; rw [getL_none]; simp [e]
def txL (l : List En) : Txs := fun k => (getL l (k : Int)).getD []
theorem ent_txL_n {l : List En} (h : OkL l) (n : Nat) (hn : n = 1024) : entX (txL l) n = l := by
  have hok : OkX (txL l) := fun k => by
    unfold txL
    cases e : getL l (k : Int) with
    | none => exact Nat.zero_le _
    | some v => exact (right_iffE.1 (h.1 _ (getL_mem e))).2.2.2
  refine (entX_ok hok n (Nat.le_of_eq hn)).eq h fun x => ?_
  rw [entX_mem]
  constructor
  · rintro ⟨k, hk, rfl, hne⟩
    unfold txL at hne ⊢
    cases e : getL l (k : Int) with
    | none => rw [e] at hne; exact absurd rfl hne
    | some v => exact getL_mem e
  · intro hx
    have hr := right_iffE.1 (h.1 x hx)
    have hg := getL_of h hx
    refine ⟨x.key.toNat, by omega, ?_, ?_⟩
    · unfold txL
      rw [show ((x.key.toNat : Nat) : Int) = x.key by omega, hg]; rfl
    · unfold txL
      rw [show ((x.key.toNat : Nat) : Int) = x.key by omega, hg]
      exact List.length_pos_iff.1 hr.2.2.1
theorem ent_txL {l : List En} (h : OkL l) : entX (txL l) 1024 = l := ent_txL_n h 1024 rfl
theorem read_is {room : Nat} {s : Sh} (hi : Inv room s) {h : Int} {l : List En} (a : IsT s h l) (k : Nat) : readX s (reachA s [h]) k = txL l k := by
  have hmem : ∀ e, (∃ x ∈ reachA s [h], rdE s x = some e) ↔ e ∈ l := by
    intro e
    have hr : ∀ x, x ∈ reachA s [h] ↔ Rch s [h] x := fun x => by unfold reachA; rw [liveA_mem, left_live hi]
    rcases a.2 with ⟨rfl, rfl⟩ | ⟨hl, hat⟩
    · constructor
      · rintro ⟨x, hx, _⟩
        have := (hr x).1 hx
        exfalso
        have hno : ∀ y, ¬ Rch s [0] y := fun y hy => by
          induction hy with
          | root r hm hlv => have := live_bound hlv; simp at hm; omega
          | ref _ _ _ _ _ _ _ ih => exact ih
        exact hno x this
      · intro he; cases he
    · rw [← (lvs_trK 2 a.1.keys).mem_iff, ← rch_lvs hi _ _ hat e]
      exact ⟨fun ⟨x, hx, he⟩ => ⟨x, (hr x).1 hx, he⟩, fun ⟨x, hx, he⟩ => ⟨x, (hr x).2 hx, he⟩⟩
  -- gone through one by one
  have key : ∀ (L : List Int) (f : Txs), (∀ x ∈ L, ∀ e, rdE s x = some e → e ∈ l) → ∀ k : Nat, (f k = [] ∨ f k = txL l k) → (L.foldl (addR s) f) k = (if f k = [] ∧ ∀ x ∈ L, ∀ e, rdE s x = some e → e.key ≠ (k : Int) then [] else txL l k) := by
    intro L
    induction L with
    | nil =>
      intro f _ k hk
      show f k = _
      rcases hk with e | e
      · rw [if_pos ⟨e, fun x hx => by cases hx⟩, e]
      · by_cases e' : f k = []
        · rw [if_pos ⟨e', fun x hx => by cases hx⟩, e']
        · rw [if_neg fun h => e' h.1, e]
    | cons x L ih =>
      intro f hL k hk
      rw [List.foldl_cons]
      have hL' : ∀ y ∈ L, ∀ e, rdE s y = some e → e ∈ l := fun y hy => hL y (List.mem_cons_of_mem _ hy)
      cases hx : rdE s x with
      | none =>
        have : addR s f x = f := by unfold addR; rw [hx]
        rw [this, ih f hL' k hk]
        congr 1
        apply propext
        constructor
        · rintro ⟨h1, h2⟩
          refine ⟨h1, fun y hy e he => ?_⟩
          rcases List.mem_cons.1 hy with rfl | hy
          · rw [hx] at he; cases he
          · exact h2 y hy e he
        · rintro ⟨h1, h2⟩
          exact ⟨h1, fun y hy => h2 y (List.mem_cons_of_mem _ hy)⟩
      | some e =>
        have hel := hL x List.mem_cons_self e hx
        have hre := a.1.1 e hel
        have hri := right_iffE.1 hre
        have hadd : addR s f x = setX f e.key.toNat e.text := by unfold addR; rw [hx]; exact if_pos hre
        have htx : txL l e.key.toNat = e.text := by
          unfold txL
          rw [show ((e.key.toNat : Nat) : Int) = e.key by omega, getL_of a.1 hel]; rfl
        rw [hadd]
        by_cases hke : k = e.key.toNat
        · subst hke
          have hs : setX f e.key.toNat e.text e.key.toNat = e.text := by unfold setX; rw [if_pos rfl]
          have hne : e.text ≠ [] := List.length_pos_iff.1 hri.2.2.1
          rw [ih _ hL' _ (.inr (by rw [hs, htx])), if_neg (fun h => hne (by rw [← hs]; exact h.1)), if_neg]
          rintro ⟨_, h2⟩
          exact h2 x List.mem_cons_self e hx (by omega)
        · have hs : setX f e.key.toNat e.text k = f k := by unfold setX; rw [if_neg hke]
          rw [ih _ hL' k (by rw [hs]; exact hk), hs]
          congr 1
          apply propext
          constructor
          · rintro ⟨h1, h2⟩
            refine ⟨h1, fun y hy e' he => ?_⟩
            rcases List.mem_cons.1 hy with rfl | hy
            · rw [hx] at he
              cases he
              omega
            · exact h2 y hy e' he
          · rintro ⟨h1, h2⟩
            exact ⟨h1, fun y hy => h2 y (List.mem_cons_of_mem _ hy)⟩
  have := key (reachA s [h]) (fun _ => []) (fun x hx e he => (hmem e).1 ⟨x, hx, he⟩) k (.inl rfl)
  unfold readX
  rw [this]
  split
  · rename_i hc
    unfold txL
    have : getL l (k : Int) = none := getL_none.2 fun y hy => by
      obtain ⟨x, hx, he⟩ := (hmem y).2 hy
      exact hc.2 x hx y he
    rw [this]; rfl
  · rfl
end Go.Proofs.YthfbhinlgoaajaaDoor
namespace Go.Proofs.YthfbhinlgoaajaaDoor
open Go.RowKit
theorem grown_of_below {w w' : World} (h : Below w.heap.size w w') (row : Option Nat) : w.grownBy w' row := ⟨h.os, h.tape, h.output, h.size, fun i hi _ => h.block i hi⟩
theorem own_below {w w' : World} {base : Nat} {e : TypeId} {size : Nat} {v : Value} {n : Nat} {xs : List Value} (h : w.ownsRow base e size v n xs) (hb : Below w.heap.size w w') : w'.ownsRow base e size v n xs :=
  h.kept (grown_of_below hb none) (by cases v.ownBlock <;> simp)
def Stop (P : Prop) : Prop := P
theorem of_stop {P : Prop} (h : Stop P) : P := h
theorem stop_of {P : Prop} (h : P) : Stop P := h
end Go.Proofs.YthfbhinlgoaajaaDoor
namespace Go.Proofs.YthfbhinlgoaajaaDoor
open Go.RowKit
def OwnR {α : Type} (E : TypeId) (n : Nat) (f : α → List Value) (base : Nat) (w : World) (v : Value) (L : List α) : Prop := w.ownsRow base E n v L.length (L.flatMap f)
section
variable {α : Type} {E : TypeId} {n : Nat} {f : α → List Value}
theorem flatR_at (hf : ∀ q, (f q).length = n) : ∀ (l : List α) (i : Nat) (q : α), l[i]? = some q → ∀ (j : Nat) (u : Value), (f q)[j]? = some u → (l.flatMap f)[i * n + j]? = some u
  | [], i, q, h, _, _, _ => by simp at h
  | p :: t, 0, q, h, j, u, hj => by
    simp at h; subst h
    rw [List.flatMap_cons, Nat.zero_mul, Nat.zero_add, List.getElem?_append_left (by exact (List.getElem?_eq_some_iff.1 hj).1)]
    exact hj
  | p :: t, i + 1, q, h, j, u, hj => by
    have := flatR_at hf t i q (by simpa using h) j u hj
    have e : (i + 1) * n + j - n = i * n + j := by rw [Nat.succ_mul]; omega
    rw [List.flatMap_cons, List.getElem?_append_right (by rw [hf, Nat.succ_mul]; omega), hf, e]
    exact this
theorem OwnR.shape {base : Nat} {w : World} {v : Value} {L : List α} (hf : ∀ q, (f q).length = n) (h : OwnR E n f base w v L) : ∃ (A : Option Addr) (cap : Nat), v = .slice A L.length cap ∧ L.length ≤ cap ∧ (L ≠ [] → ∃ g o, A = some ⟨g, o, none⟩ ∧ AtR f n w g o L) := by
  have h' := h
  rcases h.2 with ⟨rfl, hl⟩ | ⟨g, cap, cur, rfl, _, hh, hc, _⟩
  · refine ⟨none, 0, by rw [hl], by rw [hl]; exact Nat.le_refl _, fun hne => ?_⟩
    exact absurd (List.length_eq_zero_iff.1 hl) hne
  · refine ⟨_, cap, rfl, hc, fun _ => ⟨g, 0, rfl, fun i q hi j u hj => ?_⟩⟩
    have hlt : i < L.length := (List.getElem?_eq_some_iff.1 hi).1
    have hjn : j < n := by have := (List.getElem?_eq_some_iff.1 hj).1; rwa [hf] at this
    have hle : i * n + j < L.length * n := by
      have h1 : (i + 1) * n ≤ L.length * n := Nat.mul_le_mul_right n hlt
      rw [Nat.succ_mul] at h1
      omega
    rw [Nat.zero_add]
    exact (World.ownsRow.cellAt h' (i * n + j) (by first | exact hle | omega)).trans (flatR_at hf L i q hi j u hj)
def Apart (v u : Value) : Prop := ∀ k, v.ownBlock = some k → u.ownBlock = some k → False
theorem Apart.symm {v u : Value} (h : Apart v u) : Apart u v := fun k hv hu => h k hu hv
theorem Apart.nil (u : Value) : Apart (.slice none 0 0) u := fun k hv _ => by cases hv
theorem OwnR.beside {base : Nat} {w w' : World} {v u : Value} {L : List α} (h : OwnR E n f base w u L) (hg : w.grownBy w' v.ownBlock) (ha : Apart v u) : OwnR E n f base w' u L := by
  refine World.ownsRow.kept h hg ?_
  cases hu : u.ownBlock with
  | none => exact .inl rfl
  | some k => exact .inr fun e => ha k e.symm hu
theorem OwnR.apart {base : Nat} {w : World} {v v' u : Value} {L : List α} (h : OwnR E n f base w u L) (ha : Apart v u) (hat : v'.ownBlock = v.ownBlock ∨ v'.ownBlock = some (w.heap.size + 1)) : Apart v' u := fun k hv hu => by
  rcases hat with e | e
  · exact ha k (e ▸ hv) hu
  · have h1 := (World.ownsRow.lt h k hu).2
    rw [e] at hv
    cases hv
    omega
theorem OwnR.below {base : Nat} {w w' : World} {v : Value} {L : List α} (h : OwnR E n f base w v L) (hb : Below w.heap.size w w') : OwnR E n f base w' v L := own_below h hb
theorem wpList_append_row {S : TypeId} {i0 : TypeInfo} {z : Value} {nb : Nat}
    (w : World) {ops : Array Oper} {rest : List Oper} {o : Oper} {a : Act} {Q : Exit → Act → World → Prop} (hg : o.guard = none) (s x : Operand) (ho : o.op = .call { callee := .builtin .append, args := #[s, x], argTypes := #[S, S] }) {base : Nat} {v : Value} {X : List α}
    (hs : a.eval s = v) {w0 : World} {q : α} (hw : w = w0.alloc (.cells (f q).toArray E)) (hown : OwnR E n f base w0 v X) (hx : a.eval x = .slice (some ⟨w0.heap.size, 0, none⟩) 1 1)
    (hu : Tryd.prog.underlying S = some (.slice E)) (hi0 : Tryd.prog.info? E = some i0) (hz0 : i0.zero = some z) (hz1 : i0.size = n) (hz2 : i0.bytes = nb) (hzc : z.cells.size = n) (hn0 : 0 < n) (hnb : nb ≤ 100)
    (hf : ∀ q, (f q).length = n) (h1c : ∀ q, ∀ u ∈ f q, u.oneCell' = true) (hlen : X.length ≤ 1000000) (hbase : base ≤ w0.heap.size)
    (h : ∀ v' w', OwnR E n f base w' v' (X ++ [q]) → w0.grownBy w' v.ownBlock → (v'.ownBlock = v.ownBlock ∨ v'.ownBlock = some (w0.heap.size + 1)) → wpList Tryd.prog ops Q rest (a.put o.dst v') w') : wpList Tryd.prog ops Q (o :: rest) a w := by
  subst hw
  have hb : (w0.alloc (.cells (f q).toArray E)).heap[w0.heap.size]? = some (.cells (f q).toArray E) := (MapKept.heap_alloc w0 _).1
  have hroom : nb * (X.length + 1) ≤ 200000000 := by
    have : nb * (X.length + 1) ≤ 100 * (1000000 + 1) := Nat.mul_le_mul hnb (by omega)
    omega
  refine wpList_append_own_at _ hg s x S ho base E i0 z n nb hu hi0 hz0 hz1 hz2 hzc hn0 v X.length (X.flatMap f) hs (World.ownsRow.alloc hown _) ⟨w0.heap.size, 0, none⟩ 1 1 (f q) hx (by rw [hf, Nat.one_mul]) ?_ (h1c q) (by unfold maxLen; omega) ?_ (by simp; omega) fun v' w' hown' hg' _ hat => h v' w' ?_ ?_ (by simpa using hat)
  · intro j u hj
    exact World.news_of_block (cs := (f q).toArray) (t := E) (fr := (0, 0)) hb j u (by simpa using hj)
  · first
    | omega
    | (have e : nb * (X.length + 1) = (X.length + 1) * nb := Nat.mul_comm _ _; omega)
  · unfold OwnR
    rw [List.length_append, List.flatMap_append]
    show w'.ownsRow base _ n v' (X.length + 1) (X.flatMap f ++ [q].flatMap f)
    rw [List.flatMap_singleton]
    exact hown'
  · exact ⟨hg'.os, hg'.tape, hg'.output, Nat.le_trans (by simp) hg'.size, fun k hk hn => (hg'.block k (by simp; omega) hn).trans (Below.heap_alloc w0 _ k hk)⟩
theorem step_append_row {S : TypeId} {i0 : TypeInfo} {z : Value} {nb : Nat}
    {w : World} {ops : Array Oper} {o : Oper} {a : Act} {K : Act → World → Prop} {Q : Exit → Act → World → Prop} {E0 : Prop} (hg : o.guard = none) (s x : Operand) (ho : o.op = .call { callee := .builtin .append, args := #[s, x], argTypes := #[S, S] }) {base : Nat} {v : Value} {X : List α}
    (hs : a.eval s = v) (B : Nat) {q : α} (hx : a.eval x = .slice (some ⟨B, 0, none⟩) 1 1) (hown : OwnR E n f base w v X) (hb : w.heap[B]? = some (.cells (f q).toArray E))
    (hu : Tryd.prog.underlying S = some (.slice E)) (hi0 : Tryd.prog.info? E = some i0) (hz0 : i0.zero = some z) (hz1 : i0.size = n) (hz2 : i0.bytes = nb) (hzc : z.cells.size = n) (hn0 : 0 < n) (hnb : nb ≤ 100)
    (hf : ∀ q, (f q).length = n) (h1c : ∀ q, ∀ u ∈ f q, u.oneCell' = true) (hlen : X.length ≤ 1000000) (hbase : base ≤ w.heap.size)
    (h : ∀ g cap w', OwnR E n f base w' (.slice (some ⟨g, 0, none⟩) (X.length + 1) cap) (X ++ [q]) → w.grownBy w' v.ownBlock → (v.ownBlock = some g ∨ g = w.heap.size) → K (a.put o.dst (.slice (some ⟨g, 0, none⟩) (X.length + 1) cap)) w') :
    if Region.wanted o (yielded ops a.tmps) = true then Oper.wp Tryd.prog o a w K Q else E0 := by
  have hroom : nb * (X.length + 1) ≤ 200000000 := by
    have : nb * (X.length + 1) ≤ 100 * (1000000 + 1) := Nat.mul_le_mul hnb (by omega)
    omega
  refine step_append_lies _ hg s x S ho base E i0 z n nb hu hi0 hz0 hz1 hz2 hzc hn0 v X.length (X.flatMap f) hs hown ⟨B, 0, none⟩ 1 1 (f q) hx (by rw [hf, Nat.one_mul]) ?_ (h1c q) (by omega) (by unfold maxLen; omega) ?_ hbase w.heap.size rfl fun g cap w' hown' hg' hat _ => h g cap w' ?_ hg' hat
  · intro j u hj
    exact World.news_of_block (cs := (f q).toArray) (t := E) (fr := (0, 0)) hb j u (by simpa using hj)
  · first
    | omega
    | (have e : nb * (X.length + 1) = (X.length + 1) * nb := Nat.mul_comm _ _; omega)
  · unfold OwnR
    rw [List.length_append, List.flatMap_append]
    show w'.ownsRow base _ n _ (X.length + 1) (X.flatMap f ++ [q].flatMap f)
    rw [List.flatMap_singleton]
    exact hown'
theorem flatR_len (hf : ∀ q, (f q).length = n) : ∀ l : List α, (l.flatMap f).length = l.length * n
  | [] => by simp
  | q :: l => by rw [List.flatMap_cons, List.length_append, flatR_len hf l, hf, List.length_cons, Nat.succ_mul]; omega
theorem flatR_split (hf : ∀ q, (f q).length = n) (hn0 : 0 < n) {l : List α} {j : Nat} {u : Value} (h : (l.flatMap f)[j]? = some u) : ∃ i q k, l[i]? = some q ∧ (f q)[k]? = some u ∧ j = i * n + k := by
  have hl := (List.getElem?_eq_some_iff.1 h).1
  rw [flatR_len hf] at hl
  have hi : j / n < l.length := Nat.div_lt_of_lt_mul (by rw [Nat.mul_comm]; exact hl)
  have hk : j % n < n := Nat.mod_lt _ hn0
  have hq := List.getElem?_eq_getElem hi
  have hu : (f l[j / n])[j % n]? = some ((f l[j / n])[j % n]'(by rw [hf]; exact hk)) := List.getElem?_eq_getElem _
  have e : j / n * n + j % n = j := Nat.div_add_mod' j n
  have := flatR_at hf l (j / n) _ hq (j % n) _ hu
  rw [e, h] at this
  exact ⟨j / n, _, j % n, hq, by rw [hu, this], e.symm⟩
theorem wpList_append_rows {S : TypeId} {i0 : TypeInfo} {z : Value} {nb : Nat}
    {w : World} {ops : Array Oper} {rest : List Oper} {o : Oper} {a : Act} {Q : Exit → Act → World → Prop} (hg : o.guard = none) (s x : Operand) (ho : o.op = .call { callee := .builtin .append, args := #[s, x], argTypes := #[S, S] }) {base : Nat} {v : Value} {X : List α}
    (hs : a.eval s = v) (hown : OwnR E n f base w v X) {g2 o2 c2 : Nat} {L2 : List α} (hx : a.eval x = .slice (some ⟨g2, o2, none⟩) L2.length c2) (hL : AtR f n w g2 o2 L2) (h0 : 0 < L2.length) {N : Nat} (hN : X.length + L2.length = N) {Z : List α} (hZ : X ++ L2 = Z)
    (hu : Tryd.prog.underlying S = some (.slice E)) (hi0 : Tryd.prog.info? E = some i0) (hz0 : i0.zero = some z) (hz1 : i0.size = n) (hz2 : i0.bytes = nb) (hzc : z.cells.size = n) (hn0 : 0 < n) (hnb : nb ≤ 100)
    (hf : ∀ q, (f q).length = n) (h1c : ∀ q, ∀ u ∈ f q, u.oneCell' = true) (hlen : N ≤ 2000000) (hbase : base ≤ w.heap.size)
    (h : ∀ g cap w', OwnR E n f base w' (.slice (some ⟨g, 0, none⟩) N cap) Z → w.grownBy w' v.ownBlock → (v.ownBlock = some g ∨ g = w.heap.size) → g < w'.heap.size → wpList Tryd.prog ops Q rest (a.put o.dst (.slice (some ⟨g, 0, none⟩) N cap)) w') : wpList Tryd.prog ops Q (o :: rest) a w := by
  subst hN hZ
  have hroom : nb * (X.length + L2.length) ≤ 200000000 := by
    have : nb * (X.length + L2.length) ≤ 100 * 2000000 := Nat.mul_le_mul hnb hlen
    omega
  refine wpList_append_lies _ hg s x S ho base E i0 z n nb hu hi0 hz0 hz1 hz2 hzc hn0 v X.length (X.flatMap f) hs hown ⟨g2, o2, none⟩ L2.length c2 (L2.flatMap f) hx (flatR_len hf L2) ?_ ?_ h0 (by unfold maxLen; omega) ?_ hbase w.heap.size rfl fun g cap w' hown' hg' hat hlt => h g cap w' ?_ hg' hat hlt
  · intro j u hj
    obtain ⟨i, q, k, hi, hk, e⟩ := flatR_split hf hn0 hj
    have := hL i q hi k u hk
    rw [Go.WideShapes.add_plain, e, ← Nat.add_assoc]; exact this
  · intro u hu'
    obtain ⟨q, _, hq⟩ := List.mem_flatMap.1 hu'
    exact h1c q u hq
  · have e : nb * (X.length + L2.length) = (X.length + L2.length) * nb := Nat.mul_comm _ _
    omega
  · unfold OwnR
    rw [List.length_append, List.flatMap_append]
    exact hown'
theorem one_row (w : World) (q : α) : AtR f n (w.alloc (.cells (f q).toArray E)) w.heap.size 0 [q] := fun i p hi j u hj => by
  cases i with
  | succ i => simp at hi
  | zero =>
    obtain rfl : q = p := by simpa using hi
    rw [Nat.zero_mul, Nat.zero_add, cell_of_row _ _ j (f q).toArray E (0, 0) (MapKept.heap_alloc w _).1]
    simpa using hj
theorem own_lit0 (w : World) (base : Nat) (hb : base ≤ w.heap.size) : OwnR E n f base (w.alloc (.cells #[] E)) (.slice (some ⟨w.heap.size, 0, none⟩) 0 0) ([] : List α) :=
  World.ownsRow_lit w #[] 0 hb (by unfold maxLen; omega) (by simp)
theorem OwnR.at {base : Nat} {w : World} {g cap N : Nat} {L : List α} (hf : ∀ q, (f q).length = n) (h : OwnR E n f base w (.slice (some ⟨g, 0, none⟩) N cap) L) (hN : N = L.length) : AtR f n w g 0 L := fun i q hi j u hj => by
  subst hN
  have hlt : i < L.length := (List.getElem?_eq_some_iff.1 hi).1
  have hjn : j < n := by have := (List.getElem?_eq_some_iff.1 hj).1; rwa [hf] at this
  have hle : i * n + j < L.length * n := by
    have h1 : (i + 1) * n ≤ L.length * n := Nat.mul_le_mul_right n hlt
    rw [Nat.succ_mul] at h1
    omega
  rw [Nat.zero_add]
  exact (World.ownsRow.cellAt h (i * n + j) hle).trans (flatR_at hf L i q hi j u hj)
theorem run_append_nothing {P : Program} (w : World) (t ty e : TypeId) (i : TypeInfo) (ht : P.underlying t = some (.slice e)) (hi : P.info? e = some i) (B : Nat) (A : Option Addr) (c : Nat) :
    (Builtin.append_ #[t, t] ty #[.slice (some ⟨B, 0, none⟩) 0 0, .slice A 0 c]).run P w = .ok (.slice (some ⟨B, 0, none⟩) 0 0) w := by
  cases A <;> simp [Builtin.append_, run_underlying ht, sizeOf, typeInfo, hi, Builtin.lenOf, Builtin.firstCells, loadCells, loadCellsFrom, storeCells]
theorem step_append_nothing {P : Program} {w : World} {ops : Array Oper} {o : Oper} {a : Act} {K : Act → World → Prop} {Q : Exit → Act → World → Prop} {E : Prop} (hgd : o.guard = none) (s x : Operand) (t : TypeId)
    (ho : o.op = .call { callee := .builtin .append, args := #[s, x], argTypes := #[t, t] }) (e : TypeId) (i : TypeInfo) (ht : P.underlying t = some (.slice e)) (hi : P.info? e = some i) (B : Nat) (A : Option Addr) (c : Nat)
    (hs : a.eval s = .slice (some ⟨B, 0, none⟩) 0 0) (hx : a.eval x = .slice A 0 c) (h : K (a.put o.dst (.slice (some ⟨B, 0, none⟩) 0 0)) w) :
    if Region.wanted o (yielded ops a.tmps) = true then Oper.wp P o a w K Q else E := by
  have hw : Region.wanted o (yielded ops a.tmps) = true := by simp [Region.wanted, hgd]
  rw [if_pos hw]
  unfold Oper.wp execOp
  simp only [ho, Go.resolve, invoke, builtin, Sem.run_bind, Sem.run_pure, Result.andThen_ok, List.map_toArray, List.map_cons, List.map_nil, hs, hx, run_append_nothing w t o.type e i ht hi B A c]
  exact h
theorem wpList_append_nothing {P : Program} {w : World} {ops : Array Oper} {rest : List Oper} {o : Oper} {a : Act} {Q : Exit → Act → World → Prop} (hgd : o.guard = none) (s x : Operand) (t : TypeId)
    (ho : o.op = .call { callee := .builtin .append, args := #[s, x], argTypes := #[t, t] }) (e : TypeId) (i : TypeInfo) (ht : P.underlying t = some (.slice e)) (hi : P.info? e = some i) (B : Nat) (A : Option Addr) (c : Nat)
    (hs : a.eval s = .slice (some ⟨B, 0, none⟩) 0 0) (hx : a.eval x = .slice A 0 c) (h : wpList P ops Q rest (a.put o.dst (.slice (some ⟨B, 0, none⟩) 0 0)) w) : wpList P ops Q (o :: rest) a w := by
  refine wpList_plain hgd fun K' hK' => ?_
  unfold Oper.wp execOp
  simp only [ho, Go.resolve, invoke, builtin, Sem.run_bind, Sem.run_pure, Result.andThen_ok, List.map_toArray, List.map_cons, List.map_nil, hs, hx, run_append_nothing w t o.type e i ht hi B A c]
  exact hK' _ _ h
theorem step_append_rows {S : TypeId} {i0 : TypeInfo} {z : Value} {nb : Nat}
    {w : World} {ops : Array Oper} {o : Oper} {a : Act} {K : Act → World → Prop} {Q : Exit → Act → World → Prop} {E0 : Prop} (hg : o.guard = none) (s x : Operand) (ho : o.op = .call { callee := .builtin .append, args := #[s, x], argTypes := #[S, S] }) {base : Nat} {v : Value} {X : List α}
    (hs : a.eval s = v) (hown : OwnR E n f base w v X) {g2 o2 c2 : Nat} {L2 : List α} (hx : a.eval x = .slice (some ⟨g2, o2, none⟩) L2.length c2) (hL : AtR f n w g2 o2 L2) (h0 : 0 < L2.length) {N : Nat} (hN : X.length + L2.length = N) {Z : List α} (hZ : X ++ L2 = Z)
    (hu : Tryd.prog.underlying S = some (.slice E)) (hi0 : Tryd.prog.info? E = some i0) (hz0 : i0.zero = some z) (hz1 : i0.size = n) (hz2 : i0.bytes = nb) (hzc : z.cells.size = n) (hn0 : 0 < n) (hnb : nb ≤ 100)
    (hf : ∀ q, (f q).length = n) (h1c : ∀ q, ∀ u ∈ f q, u.oneCell' = true) (hlen : N ≤ 2000000) (hbase : base ≤ w.heap.size)
    (h : ∀ g cap w', OwnR E n f base w' (.slice (some ⟨g, 0, none⟩) N cap) Z → w.grownBy w' v.ownBlock → (v.ownBlock = some g ∨ g = w.heap.size) → g < w'.heap.size → K (a.put o.dst (.slice (some ⟨g, 0, none⟩) N cap)) w') :
    if Region.wanted o (yielded ops a.tmps) = true then Oper.wp Tryd.prog o a w K Q else E0 := by
  subst hN hZ
  have hroom : nb * (X.length + L2.length) ≤ 200000000 := by
    have : nb * (X.length + L2.length) ≤ 100 * 2000000 := Nat.mul_le_mul hnb hlen
    omega
  refine step_append_lies _ hg s x S ho base E i0 z n nb hu hi0 hz0 hz1 hz2 hzc hn0 v X.length (X.flatMap f) hs hown ⟨g2, o2, none⟩ L2.length c2 (L2.flatMap f) hx (flatR_len hf L2) ?_ ?_ h0 (by unfold maxLen; omega) ?_ hbase w.heap.size rfl fun g cap w' hown' hg' hat hlt => h g cap w' ?_ hg' hat hlt
  · intro j u hj
    obtain ⟨i, q, k, hi, hk, e⟩ := flatR_split hf hn0 hj
    have := hL i q hi k u hk
    rw [Go.WideShapes.add_plain, e, ← Nat.add_assoc]; exact this
  · intro u hu'
    obtain ⟨q, _, hq⟩ := List.mem_flatMap.1 hu'
    exact h1c q u hq
  · have e : nb * (X.length + L2.length) = (X.length + L2.length) * nb := Nat.mul_comm _ _
    omega
  · unfold OwnR
    rw [List.length_append, List.flatMap_append]
    exact hown'
theorem own_empty0 {w : World} {base B : Nat} (hb : base ≤ B) (h : w.heap[B]? = some (.cells #[] E (0, 0))) : OwnR E n f base w (.slice (some ⟨B, 0, none⟩) 0 0) ([] : List α) :=
  ⟨by simp, .inr ⟨B, 0, #[], rfl, hb, h, Nat.le_refl _, Nat.zero_le _, by simp, by simp⟩⟩
end
end Go.Proofs.YthfbhinlgoaajaaDoor
namespace Go.Proofs.YthfbhinlgoaajaaDoor
open Go.RowKit
theorem own_of {v : Value} {g k : Nat} (hv : v.ownBlock = some g) (h : v.ownBlock = some k) : k = g := Option.some.inj (h.symm.trans hv)
def nd0 : Nd := ⟨0, [], [], []⟩
end Go.Proofs.YthfbhinlgoaajaaDoor
namespace Go.Proofs.YthfbhinlgoaajaaDoor
open Go.RowKit
def getN (s : Sh) (h : Int) : Nd := (ndAt s h).getD nd0
def getE (s : Sh) (h : Int) : Int := if live s h = true then 0 else 4
end Go.Proofs.YthfbhinlgoaajaaDoor
namespace Go.Proofs.YthfbhinlgoaajaaDoor
theorem flL_app : ∀ (a b : List Tr) (out : List Nd) (refs : List Int), flL (a ++ b) out refs = flL b (flL a out refs).1 (flL a out refs).2
  | [], b, out, refs => by rw [List.nil_append, flL]
  | t :: a, b, out, refs => by rw [List.cons_append, flL, flL_app a b, flL]
theorem flL_mono (ts : List Tr) (n : Nat) (out : List Nd) (refs : List Int) : (flL (ts.take n) out refs).1.length ≤ (flL ts out refs).1.length := by
  have h := flL_app (ts.take n) (ts.drop n) out refs
  rw [List.take_append_drop] at h
  obtain ⟨m, e⟩ := flL_ext (ts.drop n) (flL (ts.take n) out refs).1 (flL (ts.take n) out refs).2
  rw [h, e, List.length_append]; omega
theorem fl_ge (k : Int) (nums : List Int) (text : List UInt8) (kids : List Tr) (out : List Nd) : (flL kids out []).1.length ≤ (fl (.mk k nums text kids) out).length := by
  rw [fl, List.length_append]; omega
mutual
def szT' : Tr → Nat
  | .mk _ _ _ kids => szL' kids + 1
def szL' : List Tr → Nat
  | [] => 0
  | t :: ts => szT' t + szL' ts
end
mutual
theorem fl_size : ∀ (t : Tr) (out : List Nd), (fl t out).length = out.length + szT' t
  | .mk k nums text kids, out => by rw [fl, List.length_append, flL_size kids out [], szT']; rfl
theorem flL_size : ∀ (ts : List Tr) (out : List Nd) (refs : List Int), (flL ts out refs).1.length = out.length + szL' ts
  | [], out, refs => by rw [flL, szL']; rfl
  | t :: ts, out, refs => by rw [flL, flL_size ts, fl_size t, szL']; omega
end
end Go.Proofs.YthfbhinlgoaajaaDoor
namespace Go.Proofs.YthfbhinlgoaajaaDoor
theorem atL_iff {s : Sh} : ∀ (ts : List Tr) (hs : List Int), AtL s ts hs ↔ hs.length = ts.length ∧ ∀ (i : Nat) (t : Tr) (h : Int), ts[i]? = some t → hs[i]? = some h → At s t h
  | [], hs => by
    rw [AtL]
    exact ⟨fun e => by subst e; exact ⟨rfl, fun i t h e => by simp at e⟩, fun e => List.length_eq_zero_iff.1 e.1⟩
  | t :: ts, [] => by
    rw [AtL]
    exact ⟨fun ⟨h, hs', e, _⟩ => (by cases e), fun e => by have := e.1; simp at this⟩
  | t :: ts, h :: hs => by
    rw [AtL]
    constructor
    · rintro ⟨h', hs', e, a, b⟩
      obtain ⟨rfl, rfl⟩ : h = h' ∧ hs = hs' := by injection e with a b; exact ⟨a, b⟩
      obtain ⟨b1, b2⟩ := (atL_iff ts hs).1 b
      refine ⟨by simp [b1], fun i u x hu hx => ?_⟩
      cases i with
      | zero =>
        obtain rfl : t = u := by simpa using hu
        obtain rfl : h = x := by simpa using hx
        exact a
      | succ i => exact b2 i u x (by simpa using hu) (by simpa using hx)
    · rintro ⟨e, hall⟩
      exact ⟨h, hs, rfl, hall 0 t h rfl rfl, (atL_iff ts hs).2 ⟨by simpa using e, fun i u x hu hx => hall (i + 1) u x (by simpa using hu) (by simpa using hx)⟩⟩
theorem at_get {s : Sh} {k : Int} (hk : k ≠ 0) (nums : List Int) (text : List UInt8) (kids : List Tr) (h : Int) : At s (.mk k nums text kids) h ↔ (getN s h).kind = k ∧ (getN s h).text = text ∧ (getN s h).nums = nums ∧ AtL s kids (getN s h).refs := by
  rw [At]
  unfold getN
  constructor
  · rintro ⟨hs, e, hl⟩
    rw [e]
    exact ⟨rfl, rfl, rfl, hl⟩
  · cases e : ndAt s h with
    | none =>
      rintro ⟨h1, _⟩
      exact absurd h1.symm hk
    | some n =>
      rintro ⟨h1, h2, h3, h4⟩
      refine ⟨n.refs, ?_, h4⟩
      obtain ⟨a, b, c, d⟩ := n
      simp only [Option.getD_some] at h1 h2 h3
      rw [h1, h2, h3]
mutual
def okT : Tr → Prop
  | .mk k _ _ kids => k ≠ 0 ∧ okTL kids
def okTL : List Tr → Prop
  | [] => True
  | t :: ts => okT t ∧ okTL ts
end
theorem okTL_at : ∀ {ts : List Tr}, okTL ts → ∀ t ∈ ts, okT t
  | u :: ts, h, t, ht => by
    rw [okTL] at h
    rcases List.mem_cons.1 ht with e | e
    · rw [e]; exact h.1
    · exact okTL_at h.2 t e
theorem okTL_of : ∀ {ts : List Tr}, (∀ t ∈ ts, okT t) → okTL ts
  | [], _ => by rw [okTL]; trivial
  | u :: ts, h => by rw [okTL]; exact ⟨h u (by simp), okTL_of fun t ht => h t (List.mem_cons_of_mem _ ht)⟩
theorem ok_leaf (x : En) : okT (leafT x) := by unfold leafT; rw [okT, okTL]; exact ⟨by decide, trivial⟩
theorem ok_buk (l : List En) : okT (bukT l) := by
  unfold bukT
  split
  · exact ok_leaf _
  · rw [okT]
    exact ⟨by decide, okTL_of fun t ht => by obtain ⟨x, _, rfl⟩ := List.mem_map.1 ht; exact ok_leaf x⟩
theorem ok_trK : ∀ (k : Nat) (l : List En), okT (trK k l)
  | 0, l => by rw [trK]; exact ok_buk l
  | k + 1, l => by
    rw [trK]
    split
    · exact ok_buk l
    · rw [okT]
      exact ⟨by decide, okTL_of fun t ht => by obtain ⟨x, _, rfl⟩ := List.mem_map.1 ht; exact ok_trK k x⟩
theorem flL_at {kids : List Tr} {i : Nat} {t : Tr} (hi : kids[i]? = some t) (out : List Nd) : ∃ o2 m, (flL kids out []).2[i]? = some (-((fl t o2).length : Int)) ∧ (flL kids out []).1 = fl t o2 ++ m := by
  obtain ⟨hl, he⟩ := List.getElem?_eq_some_iff.1 hi
  have hs : kids = kids.take i ++ (t :: kids.drop (i + 1)) := by
    rw [← he, ← List.drop_eq_getElem_cons hl, List.take_append_drop]
  obtain ⟨more, e1, hm⟩ := flL_refs (kids.take i) out []
  have h2 := flL_app (kids.take i) (t :: kids.drop (i + 1)) out []
  rw [← hs, flL] at h2
  obtain ⟨m, e2⟩ := flL_ext (kids.drop (i + 1)) (fl t (flL (kids.take i) out []).1) ((flL (kids.take i) out []).2 ++ [-((fl t (flL (kids.take i) out []).1).length : Int)])
  obtain ⟨more2, e3, _⟩ := flL_refs (kids.drop (i + 1)) (fl t (flL (kids.take i) out []).1) ((flL (kids.take i) out []).2 ++ [-((fl t (flL (kids.take i) out []).1).length : Int)])
  refine ⟨(flL (kids.take i) out []).1, m, ?_, by rw [h2, e2]⟩
  have hlen : (flL (kids.take i) out []).2.length = i := by rw [e1, List.nil_append, hm, List.length_take]; omega
  rw [h2, e3, List.append_assoc, List.getElem?_append_right (by omega), hlen, Nat.sub_self]
  rfl
theorem szT_mem : ∀ {ts : List Tr} {t : Tr}, t ∈ ts → szT' t ≤ szL' ts
  | u :: ts, t, h => by
    rw [szL']
    rcases List.mem_cons.1 h with e | e
    · rw [e]; omega
    · have := szT_mem e; omega
end Go.Proofs.YthfbhinlgoaajaaDoor
namespace Go.Proofs.YthfbhinlgoaajaaDoor
theorem entX_congr {f g : Txs} : ∀ {n : Nat}, (∀ k : Nat, k < n → f k = g k) → entX f n = entX g n
  | 0, _ => rfl
  | n + 1, h => by rw [entX, entX, entX_congr (n := n) (fun k hk => h k (by omega)), h n (by omega)]
end Go.Proofs.YthfbhinlgoaajaaDoor
namespace Go.Proofs.YthfbhinlgoaajaaDoor
theorem rdE_get (s : Sh) (x : Int) : rdE s x = if (getN s x).kind = 1 ∧ (getN s x).nums.length = 1 then some ⟨(getN s x).nums.headD 0, (getN s x).text⟩ else none := by
  unfold rdE getN
  cases e : ndAt s x with
  | none => rfl
  | some n => rfl
theorem read_has {room : Nat} {s : Sh} (hi : Inv room s) {h : Int} {f : Txs} (hf : ∀ k : Nat, k < 1024 → f k = readX s (reachA s [h]) k) {b : Bool} {l : List En} (hl : entX f 1024 = l) (hok : OkL l) (hb : b = true ↔ (l = [] ∧ h = 0) ∨ (l ≠ [] ∧ At s (trK 2 l) h)) :
    hasT s h = if b = true then some l else none := by
  have hbi : b = true ↔ IsT s h l := ⟨fun e => ⟨hok, hb.1 e⟩, fun e => hb.2 e.2⟩
  by_cases e : b = true
  · rw [if_pos e]; exact hasT_some (hbi.1 e)
  · rw [if_neg e]
    refine hasT_none fun m hm => e (hbi.2 ?_)
    have h1 : entX f 1024 = m := by
      rw [← ent_txL hm.1]
      exact entX_congr fun k hk => by rw [hf k hk, read_is hi hm k]
    rw [← hl, h1]; exact hm
end Go.Proofs.YthfbhinlgoaajaaDoor
