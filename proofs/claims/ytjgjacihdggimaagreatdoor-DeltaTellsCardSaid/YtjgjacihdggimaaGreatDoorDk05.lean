/- Texts joined: TpQ, TpT, TsA, TsB, TrAd, NdFk, NdJk, TpM, TqA, TrAr. -/
import Derived.Test.YtjgjacihdggimaaGreatDoorDk04
import Derived.Test.YtjgjacihdggimaaGreatDoorDk02
import Derived.Test.YtjgjacihdggimaaGreatDoorDk03
import Derived.Laws.Rows
import Derived.Deep.LoopGhost
import Derived.Deep.RegionLawGrows
import Derived.Deep.RegionHeld3
set_option linter.all false
namespace Go.Proofs.YtjgjacihdggimaaGreatDoor
theorem setX_at (f : Txs) (k : Nat) (v : List UInt8) (j : Nat) : setX f k v j = if j = k then v else f j := rfl
theorem mem_key {l : List En} (ho : OkL l) {y : En} (hy : y ∈ l) : ∃ k : Nat, k < 1024 ∧ y.key = (k : Int) ∧ y.text ≠ [] := by
  have h := right_iffE.1 (ho.1 y hy)
  refine ⟨y.key.toNat, by omega, by omega, fun e => ?_⟩
  rw [e] at h
  exact absurd h.2.2.1 (by decide)
theorem mem_ent {f : Txs} {n : Nat} {y : En} (k : Nat) (hk : k < n) (hy : y.key = (k : Int)) (ht : y.text ≠ []) : y ∈ entX f n ↔ f k = y.text := by
  rw [entX_mem]
  obtain ⟨yk, yt⟩ := y
  have hy : yk = (k : Int) := hy
  subst hy
  constructor
  · rintro ⟨j, _, e, _⟩
    injection e with e1 e2
    have : k = j := by omega
    subst this
    exact e2.symm
  · intro h
    exact ⟨k, hk, by rw [h], by rw [h]; exact ht⟩
def DisK (l : List En) : Prop := l.Pairwise fun a b => a.key ≠ b.key
theorem dup_no : ∀ {l : List En} {f : Txs}, (∀ x ∈ l, rightE x = true) → dupF f l = false → (∀ x ∈ l, f x.key.toNat = []) ∧ DisK l
  | [], _, _, _ => ⟨fun _ h => absurd h List.not_mem_nil, List.Pairwise.nil⟩
  | x :: r, f, hr, h => by
    rw [dupF] at h
    split at h
    · rename_i e
      obtain ⟨a, b⟩ := dup_no (fun y hy => hr y (List.mem_cons_of_mem _ hy)) h
      have hxr := right_iffE.1 (hr x (by simp))
      have hxt : x.text ≠ [] := fun e => by rw [e] at hxr; exact absurd hxr.2.2.1 (by decide)
      have key : ∀ y ∈ r, y.key.toNat ≠ x.key.toNat ∧ f y.key.toNat = [] := fun y hy => by
        have := a y hy
        rw [setX_at] at this
        split at this
        · exact absurd this hxt
        · rename_i q; exact ⟨q, this⟩
      refine ⟨fun y hy => ?_, List.Pairwise.cons (fun y hy e => (key y hy).1 (by rw [e])) b⟩
      rcases List.mem_cons.1 hy with e' | e'
      · rw [e']; exact e
      · exact (key y e').2
    · cases h
theorem bld_at : ∀ (l : List En) (f : Txs) (k : Nat), (∀ x ∈ l, rightE x = true) → DisK l → l.foldl (fun f x => setX f x.key.toNat x.text) f k = (getL l (k : Int)).getD (f k)
  | [], f, k, _, _ => rfl
  | x :: r, f, k, hr, hd => by
    have hxr := right_iffE.1 (hr x (by simp))
    rw [List.foldl_cons, bld_at r _ k (fun y hy => hr y (List.mem_cons_of_mem _ hy)) (List.pairwise_cons.1 hd).2]
    rw [getL]
    split
    · rename_i e
      have hkx : k = x.key.toNat := by omega
      have : getL r (k : Int) = none := getL_none.2 fun y hy ey => (List.pairwise_cons.1 hd).1 y hy (by rw [ey]; exact e)
      rw [this]
      show setX f x.key.toNat x.text k = x.text
      rw [setX_at, if_pos hkx]
    · rename_i e
      have : setX f x.key.toNat x.text k = f k := by
        rw [setX_at, if_neg (fun h => e (by omega))]
      rw [this]
def srtE (l : List En) : List En := entX (bldF l) 1024
theorem srt_ok {l : List En} (hr : ∀ x ∈ l, rightE x = true) : OkL (srtE l) := entX_ok (bldF_ok hr) 1024 (Nat.le_refl _)
theorem getL_dis : ∀ {l : List En}, DisK l → ∀ {x : En}, x ∈ l → getL l x.key = some x.text
  | y :: r, hd, x, hx => by
    rw [getL]
    rcases List.mem_cons.1 hx with e | e
    · rw [e, if_pos rfl]
    · rw [if_neg (fun h => (List.pairwise_cons.1 hd).1 x e h)]
      exact getL_dis (List.pairwise_cons.1 hd).2 e
theorem srt_mem {l : List En} (hr : ∀ x ∈ l, rightE x = true) (hd : DisK l) (y : En) : y ∈ srtE l ↔ y ∈ l := by
  constructor
  · intro hy
    obtain ⟨k, hk, e, ht⟩ := mem_key (srt_ok hr) hy
    have h := (mem_ent (n := 1024) k hk e ht).1 hy
    unfold bldF at h
    rw [bld_at l _ k hr hd] at h
    cases hg : getL l (k : Int) with
    | none => rw [hg] at h; exact absurd h.symm ht
    | some v =>
      rw [hg] at h
      have h : v = y.text := h
      have := getL_mem hg
      rw [h, ← e] at this
      exact this
  · intro hy
    have hyr := right_iffE.1 (hr y hy)
    have ht : y.text ≠ [] := fun e => by rw [e] at hyr; exact absurd hyr.2.2.1 (by decide)
    refine (mem_ent (n := 1024) y.key.toNat (by omega) (by omega) ht).2 ?_
    unfold bldF
    rw [bld_at l _ _ hr hd, show ((y.key.toNat : Nat) : Int) = y.key by omega, getL_dis hd hy]
    rfl
end Go.Proofs.YtjgjacihdggimaaGreatDoor
namespace Go.Proofs.YtjgjacihdggimaaGreatDoor
theorem bld_is {room : Nat} {s : Sh} {l : List En} (hr : ∀ x ∈ l, rightE x = true) (hd : dupF (fun _ => []) l = false) : pBldR room s l = putT room s (srtE l) := by
  unfold pBldR
  have h1 : (l.any fun x => !rightE x) = false := List.any_eq_false.2 fun x hx => by rw [hr x hx]; decide
  rw [if_neg (by rw [h1]; decide), if_neg (by rw [hd]; decide)]
  rfl
theorem isT_bound {room : Nat} {s : Sh} (hi : Inv room s) {h : Int} {l : List En} (a : IsT s h l) : 0 ≤ h ∧ h ≤ room := by
  rcases a.2 with e | ⟨_, e⟩
  · omega
  · have key : ∀ t : Tr, At s t h → 0 ≤ h ∧ h ≤ room := by
      rintro ⟨k, nums, text, kids⟩ q
      rw [At] at q
      obtain ⟨hs, hn, _⟩ := q
      have hl := hi.len
      unfold ndAt at hn
      split at hn
      · rename_i hp
        cases hg : s[(h - 1).toNat]? with
        | none => rw [hg] at hn; cases hn
        | some u =>
          have := (List.getElem?_eq_some_iff.1 hg).1
          omega
      · cases hn
    exact key _ e
/- the live question -/
end Go.Proofs.YtjgjacihdggimaaGreatDoor
namespace Go.Proofs.YtjgjacihdggimaaGreatDoor
def sortK (l : List En) : Nat → List En
  | 0 => []
  | n + 1 => sortK l n ++ l.filter (fun x => decide (x.key = (n : Int)))
theorem sortK_mem (l : List En) : ∀ (n : Nat) (x : En), x ∈ sortK l n ↔ x ∈ l ∧ 0 ≤ x.key ∧ x.key < (n : Int)
  | 0, x => by rw [sortK]; constructor; (intro h; cases h); (rintro ⟨_, h⟩; omega)
  | n + 1, x => by
    rw [sortK, List.mem_append, sortK_mem l n x, List.mem_filter, decide_eq_true_eq]
    constructor
    · rintro (⟨h, a⟩ | ⟨h, a⟩)
      · exact ⟨h, by omega⟩
      · exact ⟨h, by omega⟩
    · rintro ⟨h, a, b⟩
      by_cases e : x.key = (n : Int)
      · exact .inr ⟨h, e⟩
      · exact .inl ⟨h, by omega⟩
theorem sortK_le (l : List En) : ∀ n : Nat, (sortK l n).Pairwise (fun a b => a.key ≤ b.key)
  | 0 => by rw [sortK]; exact List.Pairwise.nil
  | n + 1 => by
    rw [sortK]
    refine List.pairwise_append.2 ⟨sortK_le l n, ?_, fun a ha b hb => ?_⟩
    · refine List.Pairwise.imp_of_mem (R := fun _ _ => True) (fun {a b} ha hb _ => ?_) (List.pairwise_of_forall fun _ _ => trivial)
      have h1 := (List.mem_filter.1 ha).2
      have h2 := (List.mem_filter.1 hb).2
      rw [decide_eq_true_eq] at h1 h2
      omega
    · have h1 := ((sortK_mem l n a).1 ha).2.2
      have h2 := (List.mem_filter.1 hb).2
      rw [decide_eq_true_eq] at h2
      omega
theorem sortK_count (l : List En) (a : En) : ∀ n : Nat, (sortK l n).count a = if 0 ≤ a.key ∧ a.key < (n : Int) then l.count a else 0
  | 0 => by rw [sortK, if_neg (by omega)]; rfl
  | n + 1 => by
    rw [sortK, List.count_append, sortK_count l a n]
    by_cases hd : a.key = (n : Int)
    · have h0 : (l.filter (fun x => decide (x.key = (n : Int)))).count a = l.count a := List.count_filter (by simpa using hd)
      rw [h0, if_neg (by omega), if_pos (by omega), Nat.zero_add]
    · have h0 : (l.filter (fun x => decide (x.key = (n : Int)))).count a = 0 := List.count_eq_zero.2 (fun hm => hd (by have := (List.mem_filter.1 hm).2; simpa using this))
      rw [h0, Nat.add_zero]
      by_cases h1 : 0 ≤ a.key ∧ a.key < (n : Int)
      · rw [if_pos h1, if_pos (by omega)]
      · rw [if_neg h1, if_neg (by omega)]
theorem sortK_perm_n {l : List En} (hk : KeyIn l) (n : Nat) (hn : n = 1024) : (sortK l n).Perm l := by
  rw [List.perm_iff_count]
  intro a
  rw [sortK_count]
  by_cases ha : a ∈ l
  · have := hk a ha
    rw [if_pos (by omega)]
  · rw [List.count_eq_zero_of_not_mem ha]; simp
theorem sortK_perm {l : List En} (hk : KeyIn l) : (sortK l 1024).Perm l := sortK_perm_n hk 1024 rfl
theorem keyIn_of {l : List En} (h : ∀ x ∈ l, rightE x = true) : KeyIn l := fun x hx => by have := right_iffE.1 (h x hx); omega
theorem dis_perm {l m : List En} (hp : l.Perm m) : DisK l ↔ DisK m := hp.pairwise_iff (fun h e => h e.symm)
theorem le_ne_lt : ∀ {l : List En}, l.Pairwise (fun a b => a.key ≤ b.key) → DisK l → l.Pairwise (fun a b => a.key < b.key) := fun {l} h k =>
  (h.and k).imp fun {a b} ⟨h1, h2⟩ => by omega
theorem adj_dis : ∀ {l : List En}, l.Pairwise (fun a b => a.key ≤ b.key) → (∀ (j : Nat) (x y : En), l[j]? = some x → l[j + 1]? = some y → y.key ≠ x.key) → DisK l
  | [], _, _ => List.Pairwise.nil
  | [x], _, _ => List.pairwise_singleton _ _
  | x :: y :: r, h, ha => by
    have h1 := List.pairwise_cons.1 h
    have ih := adj_dis h1.2 (fun j a b e1 e2 => ha (j + 1) a b (by simpa using e1) (by simpa using e2))
    have h0 := ha 0 x y rfl rfl
    have hxy := h1.1 y (by simp)
    refine List.Pairwise.cons (fun z hz => ?_) ih
    have hyz : y.key ≤ z.key := by
      rcases List.mem_cons.1 hz with e | e
      · rw [e]; exact Int.le_refl _
      · exact (List.pairwise_cons.1 h1.2).1 z e
    omega
theorem dis_adj {l : List En} (hd : DisK l) {j : Nat} {x y : En} (hx : l[j]? = some x) (hy : l[j + 1]? = some y) : y.key ≠ x.key := by
  obtain ⟨h1, rfl⟩ := List.getElem?_eq_some_iff.1 hx
  obtain ⟨h2, rfl⟩ := List.getElem?_eq_some_iff.1 hy
  exact (List.pairwise_iff_getElem.1 hd j (j + 1) h1 h2 (by omega)).symm
theorem dup_yes : ∀ {l : List En} {f : Txs}, (∀ x ∈ l, rightE x = true) → (∀ x ∈ l, f x.key.toNat = []) → DisK l → dupF f l = false
  | [], _, _, _, _ => rfl
  | x :: r, f, hr, hf, hd => by
    rw [dupF, if_pos (hf x (by simp))]
    have h2 := List.pairwise_cons.1 hd
    have hx := right_iffE.1 (hr x (by simp))
    refine dup_yes (fun y hy => hr y (List.mem_cons_of_mem _ hy)) (fun y hy => ?_) h2.2
    have hy' := right_iffE.1 (hr y (List.mem_cons_of_mem _ hy))
    have := h2.1 y hy
    rw [setX_at, if_neg (by omega)]
    exact hf y (List.mem_cons_of_mem _ hy)
theorem sort_ok {l : List En} (hr : ∀ x ∈ l, rightE x = true) (hd : DisK l) : OkL (sortK l 1024) :=
  ⟨fun x hx => hr x ((sortK_perm (keyIn_of hr)).mem_iff.1 hx), le_ne_lt (sortK_le l 1024) ((dis_perm (sortK_perm (keyIn_of hr))).2 hd)⟩
theorem sort_is {l : List En} (hr : ∀ x ∈ l, rightE x = true) (hd : DisK l) : sortK l 1024 = srtE l :=
  (sort_ok hr hd).eq (srt_ok hr) fun y => by rw [srt_mem hr hd]; exact (sortK_perm (keyIn_of hr)).mem_iff
/- what Build comes to -/
theorem bld_no {room : Nat} {s : Sh} {l : List En} {x : En} (hx : x ∈ l) (h : rightE x = false) : pBldR room s l = (s, 0, 1) := by
  unfold pBldR
  rw [if_pos]
  exact List.any_eq_true.2 ⟨x, hx, by rw [h]; rfl⟩
theorem bld_dup {room : Nat} {s : Sh} {l : List En} (hr : ∀ x ∈ l, rightE x = true) (hd : ¬ DisK l) : pBldR room s l = (s, 0, 5) := by
  unfold pBldR
  have h1 : (l.any fun x => !rightE x) = false := List.any_eq_false.2 fun x hx => by rw [hr x hx]; decide
  rw [if_neg (by rw [h1]; decide), if_pos]
  cases h : dupF (fun _ => []) l with
  | true => rfl
  | false => exact absurd (dup_no hr h).2 hd
theorem bld_yes {room : Nat} {s : Sh} {l : List En} (hr : ∀ x ∈ l, rightE x = true) (hd : DisK l) : pBldR room s l = putT room s (sortK l 1024) := by
  rw [bld_is hr (dup_yes hr (fun _ _ => rfl) hd), sort_is hr hd]
theorem sort_adj {l : List En} (hr : ∀ x ∈ l, rightE x = true) (ha : ∀ (j : Nat) (x y : En), (sortK l 1024)[j]? = some x → (sortK l 1024)[j + 1]? = some y → y.key ≠ x.key) : DisK l :=
  (dis_perm (sortK_perm (keyIn_of hr))).1 (adj_dis (sortK_le l 1024) ha)
theorem sort_not {l : List En} (hr : ∀ x ∈ l, rightE x = true) {j : Nat} {x y : En} (hx : (sortK l 1024)[j]? = some x) (hy : (sortK l 1024)[j + 1]? = some y) (e : y.key = x.key) : ¬ DisK l := fun h =>
  dis_adj ((dis_perm (sortK_perm (keyIn_of hr))).2 h) hx hy e
/- without a key -/
def dropK (l : List En) (k : Int) : List En := l.filter (fun x => !decide (x.key = k))
theorem dropK_mem {l : List En} {k : Int} {y : En} : y ∈ dropK l k ↔ y ∈ l ∧ y.key ≠ k := by
  unfold dropK; rw [List.mem_filter]; simp
theorem ok_dis {l : List En} (h : OkL l) : DisK l := h.2.imp fun {a b} hab e => by omega
end Go.Proofs.YtjgjacihdggimaaGreatDoor
namespace Go.Proofs.YtjgjacihdggimaaGreatDoor
def belR (f : Int → Option (List En)) : List Int → List En → Option (List En)
  | [], out => some out
  | r :: rs, out => match f r with
    | none => none
    | some l => if (out ++ l).length > 1024 then none else belR f rs (out ++ l)
def belL (s : Sh) : Nat → Int → Option (List En)
  | 0, _ => none
  | d + 1, h => match ndAt s h with
    | none => none
    | some n => if n.refs.length > 32 then none else if n.kind = 1 ∧ n.nums.length = 1 then some [⟨n.nums.headD 0, n.text⟩] else belR (belL s d) n.refs []
mutual
def okB : Tr → Nat → Prop
  | .mk k nums _ kids, d => ∃ d', d = d' + 1 ∧ kids.length ≤ 32 ∧ (k = 1 ∧ nums.length = 1 → kids = []) ∧ okBL kids d'
def okBL : List Tr → Nat → Prop
  | [], _ => True
  | t :: ts, d => okB t d ∧ okBL ts d
end
theorem okBL_of : ∀ {ts : List Tr} {d : Nat}, (∀ t ∈ ts, okB t d) → okBL ts d
  | [], _, _ => by rw [okBL]; trivial
  | u :: ts, d, h => by rw [okBL]; exact ⟨h u (by simp), okBL_of fun t ht => h t (List.mem_cons_of_mem _ ht)⟩
mutual
theorem okB_up : ∀ (t : Tr) (d : Nat), okB t d → okB t (d + 1)
  | .mk k nums text kids, d, h => by
    rw [okB] at h ⊢
    obtain ⟨d', rfl, h1, h2, h3⟩ := h
    exact ⟨d' + 1, rfl, h1, h2, okBL_up kids d' h3⟩
theorem okBL_up : ∀ (ts : List Tr) (d : Nat), okBL ts d → okBL ts (d + 1)
  | [], _, _ => by rw [okBL]; trivial
  | t :: ts, d, h => by
    rw [okBL] at h ⊢
    exact ⟨okB_up t d h.1, okBL_up ts d h.2⟩
end
theorem okB_leaf (x : En) (d : Nat) : okB (leafT x) (d + 1) := by
  unfold leafT
  rw [okB]
  exact ⟨d, rfl, by simp, fun _ => rfl, by rw [okBL]; trivial⟩
theorem okB_buk {l : List En} (h : l.length ≤ 32) : okB (bukT l) 2 := by
  unfold bukT
  split
  · exact okB_leaf _ 1
  · rw [okB]
    exact ⟨1, rfl, by rw [List.length_map]; exact h, fun e => absurd e.1 (by decide), okBL_of fun t ht => by obtain ⟨x, _, rfl⟩ := List.mem_map.1 ht; exact okB_leaf x 0⟩
theorem okB_trK : ∀ (k : Nat), k ≤ 2 → ∀ {l : List En}, OkL l → Pre k l → okB (trK k l) (k + 2)
  | 0, _, l, h, hp => by
    rw [trK]
    exact okB_buk (Nat.le_trans (bucket_two h hp) (by decide))
  | k + 1, hk, l, h, hp => by
    rw [trK]
    split
    · rename_i ho
      have h2 := okB_buk (Nat.le_trans (bucket_two h ho) (by decide : 2 ≤ 32))
      have : ∀ j : Nat, okB (bukT l) (2 + j) := fun j => by
        induction j with
        | zero => exact h2
        | succ j ih => exact okB_up _ _ ih
      have := this (k + 1)
      rwa [show k + 1 + 2 = 2 + (k + 1) by omega]
    · rw [okB]
      refine ⟨k + 2, rfl, by rw [List.length_map]; exact partsD_len l _, fun e => absurd e.1 (by decide), okBL_of fun t ht => ?_⟩
      obtain ⟨p, hpm, rfl⟩ := List.mem_map.1 ht
      obtain ⟨hs, _, d, _, rfl⟩ := part_sub hpm
      exact okB_trK k (by omega) (okL_sub h hs) (pre_part (by omega) h.keys hp d)
mutual
theorem bel_at {s : Sh} : ∀ (t : Tr) (h : Int) (d : Nat), At s t h → okB t d → (lvs t).length ≤ 1024 → belL s d h = some (lvs t)
  | .mk k nums text kids, h, d, hA, hB, hl => by
    rw [At] at hA
    obtain ⟨hs, e, hk⟩ := hA
    rw [okB] at hB
    obtain ⟨d', rfl, h1, h2, h3⟩ := hB
    have hlen := atL_len kids hs hk
    rw [belL, e]
    show (if hs.length > 32 then none else if k = 1 ∧ nums.length = 1 then some [(⟨nums.headD 0, text⟩ : En)] else belR (belL s d') hs []) = _
    rw [if_neg (by omega), lvs]
    rw [lvs] at hl
    by_cases hc : k = 1 ∧ nums.length = 1
    · rw [if_pos hc, if_pos hc, h2 hc, lvsL, List.append_nil]
    · rw [if_neg hc] at hl ⊢
      rw [if_neg hc, belL_at kids hs d' [] hk h3 (by simpa using hl)]
theorem belL_at {s : Sh} : ∀ (ts : List Tr) (hs : List Int) (d : Nat) (out : List En), AtL s ts hs → okBL ts d → (out ++ lvsL ts).length ≤ 1024 → belR (belL s d) hs out = some (out ++ lvsL ts)
  | [], hs, d, out, hA, _, _ => by
    rw [AtL] at hA
    subst hA
    rw [belR, lvsL, List.append_nil]
  | t :: ts, hs, d, out, hA, hB, hl => by
    rw [AtL] at hA
    obtain ⟨h, hs', rfl, a, b⟩ := hA
    rw [okBL] at hB
    rw [lvsL, ← List.append_assoc] at hl
    have h1 : (out ++ lvs t).length ≤ 1024 := by have e : ((out ++ lvs t) ++ lvsL ts).length = (out ++ lvs t).length + (lvsL ts).length := List.length_append; omega
    rw [belR, bel_at t h d a hB.1 (by rw [List.length_append] at h1; omega)]
    show (if (out ++ lvs t).length > 1024 then none else belR (belL s d) hs' (out ++ lvs t)) = _
    rw [if_neg (by omega), belL_at ts hs' d (out ++ lvs t) b hB.2 hl, lvsL, List.append_assoc]
end
def seekD (s : Sh) (l : List Nd) : Int := match seekL s [] l with
  | none => 0
  | some c => c.getLastD 0
theorem okL_len {l : List En} (h : OkL l) : l.length ≤ 1024 := by
  have e := ent_txL h
  have key : ∀ (f : Txs) (n : Nat), (entX f n).length ≤ n := by
    intro f n
    induction n with
    | zero => rw [entX]; exact Nat.le_refl _
    | succ n ih =>
      rw [entX, List.length_append]
      split <;> simp <;> omega
  have := key (txL l) 1024
  rwa [e] at this
theorem has_yes {room : Nat} {s : Sh} (hi : Inv room s) {h : Int} {l : List En} (hh : h ≠ 0) (a : IsT s h l) : ∃ L, belL s 4 h = some L ∧ (∀ x ∈ L, rightE x = true) ∧ DisK L ∧ sortK L 1024 = l ∧ l ≠ [] ∧ seekD s (nodesL l) = h := by
  rcases a.2 with e | ⟨hne, hat⟩
  · exact absurd e.2 hh
  · have hp := lvs_trK 2 a.1.keys
    have hr : ∀ x ∈ lvs (trK 2 l), rightE x = true := fun x hx => a.1.1 x (hp.mem_iff.1 hx)
    have hd : DisK (lvs (trK 2 l)) := (dis_perm hp).2 (ok_dis a.1)
    refine ⟨lvs (trK 2 l), bel_at _ _ 4 hat (okB_trK 2 (Nat.le_refl _) a.1 trivial) (by rw [hp.length_eq]; exact okL_len a.1), hr, hd, (sort_ok hr hd).eq a.1 fun y => ((sortK_perm (keyIn_of hr)).mem_iff).trans hp.mem_iff, hne, ?_⟩
    obtain ⟨new, b, e1, e2, e3, e4⟩ := seek_at hi (trK 2 l) h [] [] hat rfl
    have hnl : nodesL l = new := by unfold nodesL; rw [if_neg hne, e1]; rfl
    unfold seekD
    rw [hnl, e2]
    show ([] ++ b).getLastD 0 = h
    rw [List.getLastD_eq_getLast?, e4]; rfl
theorem seek_of {s : Sh} {h : Int} {S : List En} (ho : OkL S) (hne : S ≠ []) (hh : h ≠ 0) (hs : seekD s (nodesL S) = h) : hasT s h = some S := by
  refine hasT_some ⟨ho, .inr ⟨hne, ?_⟩⟩
  unfold seekD at hs
  cases e : seekL s [] (nodesL S) with
  | none => rw [e] at hs; exact absurd hs.symm hh
  | some c =>
    rw [e] at hs
    have hnl : nodesL S = fl (trK 2 S) [] := by unfold nodesL; rw [if_neg hne]
    obtain ⟨k, b, _, _, e3, e4⟩ := at_seek (trK 2 S) [] [] c (nodesL S) rfl (by rw [hnl]; rfl) e
    have hs : c.getLastD 0 = h := hs
    rw [List.getLastD_eq_getLast?, e3] at hs
    have hs : k = h := hs
    rw [← hs]; exact e4
theorem has_of {s : Sh} {h : Int} {L : List En} (hr : ∀ x ∈ L, rightE x = true) (hd : DisK L) (hne : sortK L 1024 ≠ []) (hh : h ≠ 0) (hs : seekD s (nodesL (sortK L 1024)) = h) : hasT s h = some (sortK L 1024) :=
  seek_of (sort_ok hr hd) hne hh hs
theorem has_zero (s : Sh) : hasT s 0 = some [] := hasT_some ⟨OkL.nil, .inl ⟨rfl, rfl⟩⟩
theorem has_below {room : Nat} {s : Sh} (hi : Inv room s) {h : Int} (hh : h ≠ 0) (e : belL s 4 h = none) : hasT s h = none :=
  hasT_none fun l a => by
    obtain ⟨L, h1, _⟩ := has_yes hi hh a
    rw [e] at h1; cases h1
theorem has_bad {room : Nat} {s : Sh} (hi : Inv room s) {h : Int} (hh : h ≠ 0) {L : List En} (e : belL s 4 h = some L) {x : En} (hx : x ∈ L) (hr : rightE x = false) : hasT s h = none :=
  hasT_none fun l a => by
    obtain ⟨L', h1, h2, _⟩ := has_yes hi hh a
    rw [e] at h1
    obtain rfl := Option.some.inj h1
    rw [h2 x hx] at hr; cases hr
theorem has_twice {room : Nat} {s : Sh} (hi : Inv room s) {h : Int} (hh : h ≠ 0) {L : List En} (e : belL s 4 h = some L) (hd : ¬ DisK L) : hasT s h = none :=
  hasT_none fun l a => by
    obtain ⟨L', h1, _, h3, _⟩ := has_yes hi hh a
    rw [e] at h1
    obtain rfl := Option.some.inj h1
    exact hd h3
theorem has_empty {room : Nat} {s : Sh} (hi : Inv room s) {h : Int} (hh : h ≠ 0) {L : List En} (e : belL s 4 h = some L) (hs : sortK L 1024 = []) : hasT s h = none :=
  hasT_none fun l a => by
    obtain ⟨L', h1, _, _, h4, h5, _⟩ := has_yes hi hh a
    rw [e] at h1
    obtain rfl := Option.some.inj h1
    exact h5 (h4.symm.trans hs)
theorem has_other {room : Nat} {s : Sh} (hi : Inv room s) {h : Int} (hh : h ≠ 0) {L : List En} (e : belL s 4 h = some L) (hs : seekD s (nodesL (sortK L 1024)) ≠ h) : hasT s h = none :=
  hasT_none fun l a => by
    obtain ⟨L', h1, _, _, h4, _, h6⟩ := has_yes hi hh a
    rw [e] at h1
    obtain rfl := Option.some.inj h1
    rw [h4] at hs; exact hs h6
theorem dis_not {L : List En} {i k : Nat} {x y : En} (hk : k < i) (hy : L[k]? = some y) (hx : L[i]? = some x) (e : y.key = x.key) : ¬ DisK L := fun h => by
  obtain ⟨h1, rfl⟩ := List.getElem?_eq_some_iff.1 hy
  obtain ⟨h2, rfl⟩ := List.getElem?_eq_some_iff.1 hx
  exact List.pairwise_iff_getElem.1 h k i h1 h2 hk e
theorem dis_next {L : List En} {i : Nat} {x : En} (hx : L[i]? = some x) (h : DisK (L.take i)) (hn : ∀ y ∈ L.take i, y.key ≠ x.key) : DisK (L.take (i + 1)) := by
  rw [List.take_add_one, hx]
  exact List.pairwise_append.2 ⟨h, List.pairwise_singleton _ _, fun a ha b hb => by
    obtain rfl : b = x := by simpa using hb
    exact hn a ha⟩
mutual
theorem fl_negs : ∀ (t : Tr) (out : List Nd), (∀ (i : Nat) (n : Nd), out[i]? = some n → NegR i n.refs) → ∀ (i : Nat) (n : Nd), (fl t out)[i]? = some n → NegR i n.refs
  | .mk k nums text kids, out, h, i, n, hn => by
    obtain ⟨h1, h2⟩ := flL_negs kids out [] h (fun r hr => by cases hr)
    rw [fl] at hn
    by_cases hl : i < (flL kids out []).1.length
    · rw [List.getElem?_append_left hl] at hn
      exact h1 i n hn
    · rw [List.getElem?_append_right (by omega)] at hn
      have hi : i = (flL kids out []).1.length := by
        have := (List.getElem?_eq_some_iff.1 hn).1
        simp at this; omega
      subst hi
      rw [Nat.sub_self] at hn
      obtain rfl := Option.some.inj hn
      exact h2
theorem flL_negs : ∀ (ts : List Tr) (out : List Nd) (refs : List Int), (∀ (i : Nat) (n : Nd), out[i]? = some n → NegR i n.refs) → NegR out.length refs → (∀ (i : Nat) (n : Nd), (flL ts out refs).1[i]? = some n → NegR i n.refs) ∧ NegR (flL ts out refs).1.length (flL ts out refs).2
  | [], out, refs, h, hr => by rw [flL]; exact ⟨h, hr⟩
  | t :: ts, out, refs, h, hr => by
    rw [flL]
    have hp := fl_pos t out
    refine flL_negs ts (fl t out) _ (fl_negs t out h) fun r hm => ?_
    rcases List.mem_append.1 hm with e | e
    · have := hr r e
      exact ⟨this.1, by omega⟩
    · rw [List.mem_singleton.1 e]; omega
end
theorem nodes_negs (l : List En) (i : Nat) (n : Nd) (hn : (nodesL l)[i]? = some n) : NegR i n.refs := by
  unfold nodesL at hn
  split at hn
  · simp at hn
  · exact fl_negs (trK 2 l) [] (fun i n h => by simp at h) i n hn
end Go.Proofs.YtjgjacihdggimaaGreatDoor
namespace Go.Proofs.YtjgjacihdggimaaGreatDoor
open Go.RowKit
set_option maxHeartbeats 4000000 in
set_option maxRecDepth 10000 in
theorem rhash_any (k : Int) (w : World) : Calls Tryz.prog 73 #[.int .i64 k] w fun e w' => e = .returned (.int .i64 (hashK k)) ∧ w' = w := by
  by_cases h0 : k < 0
  · have d0 : decide (k < 0) = true := decide_eq_true h0
    have e : hashK k = -1 := by unfold hashK; rw [if_neg (by omega)]
    rw [e]
    clear e h0
    go_enter Tryz.func73, Tryz.ntmps73
    go_wp2_with fail
    go_ret
    exact ⟨rfl, rfl⟩
  · have d0 : decide (k < 0) = false := decide_eq_false h0
    by_cases h1 : (1023 : Int) < k
    · have d1 : decide ((1023 : Int) < k) = true := decide_eq_true h1
      have e : hashK k = -1 := by unfold hashK; rw [if_neg (by omega)]
      rw [e]
      clear e
      go_enter Tryz.func73, Tryz.ntmps73
      go_wp2_with fail
      go_ret
      exact ⟨rfl, rfl⟩
    · have d1 : decide ((1023 : Int) < k) = false := decide_eq_false h1
      have HE : Hid (41 * k % 1024 / 2 = hashK k) := Lib.hid (by unfold hashK; rw [if_pos (by omega)])
      have hk0 : 0 ≤ k := by omega
      have hk1 : k < 1024 := by omega
      clear h0 h1
      go_enter Tryz.func73, Tryz.ntmps73
      go_wp2_with fail
      go_ret
      exact ⟨by rw [← HE.out]; rfl, rfl⟩
set_option maxHeartbeats 4000000 in
set_option maxRecDepth 10000 in
theorem rdigit_any (k : Int) (hk : 0 ≤ k ∧ k ≤ 1023) (lv : Nat) (w : World) : Calls Tryz.prog 56 #[.int .i64 k, .int .i64 (lv : Int)] w fun e w' => e = .returned (.int .i64 (digK k lv)) ∧ w' = w := by
  have HH := Lib.hid (fun w => rhash_any k w)
  have hb := hash_bound hk
  have hp := hb.1
  have hq := hb.2
  by_cases h0 : lv = 0
  · have d0 : ((lv : Int) == 0) = true := by rw [h0]; rfl
    have HD : Hid (hashK k % 32 = digK k lv) := Lib.hid (by unfold digK; rw [if_pos h0])
    generalize hashK k = H at *
    clear hb hk h0
    go_enter Tryz.func56, Tryz.ntmps56
    go_wp2_with fail
    refine (HH.out w).mono ?_; rintro e w1 ⟨rfl, rfl⟩
    go_wp2_with fail
    go_ret
    exact ⟨by rw [← HD.out]; rfl, rfl⟩
  · have d0 : ((lv : Int) == 0) = false := by
      rw [beq_eq_false_iff_ne]; omega
    have HD : Hid (hashK k / 32 = digK k lv) := Lib.hid (by unfold digK; rw [if_neg h0])
    generalize hashK k = H at *
    clear hb hk h0
    go_enter Tryz.func56, Tryz.ntmps56
    go_wp2_with fail
    refine (HH.out w).mono ?_; rintro e w1 ⟨rfl, rfl⟩
    go_wp2_with fail
    go_ret
    exact ⟨by rw [← HD.out]; rfl, rfl⟩
end Go.Proofs.YtjgjacihdggimaaGreatDoor
namespace Go.Proofs.YtjgjacihdggimaaGreatDoor
open Go.RowKit
theorem RowI.at {w : World} {P : Nat → Prop} {A : Option Addr} {l : List Int} (h : RowI w P A l) {i : Nat} (hi : i < l.length) : ∃ g o, A = some ⟨g, o, none⟩ ∧ P g ∧ g < w.heap.size ∧ ∀ (i : Nat) (x : Int), l[i]? = some x → w.cell? ⟨g, o + i, none⟩ = some (.int .i64 x) := by
  rcases h with rfl | h
  · simp at hi
  · exact h
end Go.Proofs.YtjgjacihdggimaaGreatDoor
namespace Go.Proofs.YtjgjacihdggimaaGreatDoor
open Go.RowKit
theorem int_info : (Tryz.prog.info? 3).map (fun i => (i.zero, i.size, i.bytes)) = some (some (.int .i64 0), 1, 8) := by kernel_rfl
theorem inW_one : ∀ q : Int, ∀ u ∈ inW q, u.oneCell' = true := by
  intro q u hu
  simp only [inW, List.mem_cons, List.not_mem_nil, or_false] at hu
  subst hu; rfl
end Go.Proofs.YtjgjacihdggimaaGreatDoor
namespace Go.Proofs.YtjgjacihdggimaaGreatDoor
open Go.RowKit
def enW (x : En) : List Value := [.int .i64 x.key, .string ⟨x.text.toArray⟩]
theorem enW_one : ∀ q : En, ∀ u ∈ enW q, u.oneCell' = true := by
  intro q u hu
  simp only [enW, List.mem_cons, List.not_mem_nil, or_false] at hu
  rcases hu with rfl | rfl <;> rfl
def RowE (w : World) (P : Nat → Prop) (A : Option Addr) (l : List En) : Prop := l = [] ∨ ∃ g o, A = some ⟨g, o, none⟩ ∧ P g ∧ g < w.heap.size ∧ AtR enW 2 w g o l
section
variable {w w' : World} {P Q : Nat → Prop} {A : Option Addr} {l : List En}
theorem RowE.kept (h : RowE w P A l) (hk : Kept w w' P) : RowE w' P A l := by
  rcases h with h | ⟨g, o, rfl, hp, hl, hc⟩
  · exact .inl h
  · exact .inr ⟨g, o, rfl, hp, Nat.lt_of_lt_of_le hl hk.size, fun i x hi j u hj => hk.cell hp (hc i x hi j u hj)⟩
theorem RowE.mono (h : RowE w P A l) (hpq : ∀ g, P g → g < w.heap.size → Q g) : RowE w Q A l := by
  rcases h with h | ⟨g, o, rfl, hp, hl, hc⟩
  · exact .inl h
  · exact .inr ⟨g, o, rfl, hpq g hp hl, hl, hc⟩
theorem RowE.below (h : RowE w P A l) (hb : Below w.heap.size w w') : RowE w' P A l := h.kept (Kept.of_below hb)
theorem RowE.at (h : RowE w P A l) {i : Nat} (hi : i < l.length) : ∃ g o, A = some ⟨g, o, none⟩ ∧ P g ∧ g < w.heap.size ∧ AtR enW 2 w g o l := by
  rcases h with rfl | h
  · simp at hi
  · exact h
theorem AtR.two {g o : Nat} (h : AtR enW 2 w g o l) {i : Nat} {x : En} (hi : l[i]? = some x) : w.cell? ⟨g, o + i * 2, none⟩ = some (.int .i64 x.key) ∧ w.cell? ⟨g, o + i * 2 + 1, none⟩ = some (.string ⟨x.text.toArray⟩) :=
  ⟨h i x hi 0 _ rfl, h i x hi 1 _ rfl⟩
theorem own_rowE {E : TypeId} {base : Nat} {v : Value} {L : List En} (h : OwnR E 2 enW base w v L) : ∃ (A : Option Addr) (cap : Nat), v = .slice A L.length cap ∧ L.length ≤ cap ∧ RowE w (fun g => base ≤ g) A L := by
  obtain ⟨A, cap, rfl, hc, _⟩ := OwnR.shape (f := enW) (fun _ => rfl) h
  refine ⟨A, cap, rfl, hc, ?_⟩
  rcases Nat.eq_zero_or_pos L.length with e | e
  · exact .inl (List.length_eq_zero_iff.1 e)
  · obtain ⟨g, cap', hv, hb, hg⟩ := World.ownsRow.form h e
    have ha := OwnR.at (f := enW) (fun _ => rfl) (hv ▸ h) rfl
    simp at hv
    exact .inr ⟨g, 0, hv.1, hb, hg, ha⟩
theorem AtR.part {g o : Nat} (h : AtR enW 2 w g o l) (k n : Nat) : AtR enW 2 w g (o + k * 2) ((l.drop k).take n) := fun i x hi j u hj => by
  rw [List.getElem?_take] at hi
  split at hi
  · rw [List.getElem?_drop] at hi
    have := h (k + i) x hi j u hj
    rwa [show o + k * 2 + i * 2 + j = o + (k + i) * 2 + j by omega]
  · cases hi
end
/- 1024 texts in a block. -/
def txC (f : Txs) : Array Value := ((List.range 1024).map fun j => Value.string ⟨(f j).toArray⟩).toArray
theorem txC_size (f : Txs) : (txC f).size = 1024 := by
  unfold txC
  rw [List.size_toArray, List.length_map, List.length_range]
theorem txC_at (f : Txs) {j : Nat} (h : j < 1024) : (txC f)[j]? = some (.string ⟨(f j).toArray⟩) := by
  unfold txC
  rw [List.getElem?_toArray, List.getElem?_map, List.getElem?_range h]; rfl
theorem txC_one (f : Txs) : (txC f).all (·.oneCell') = true := by
  unfold txC
  rw [Array.all_eq_true]
  intro i hi
  simp only [List.getElem_toArray, List.getElem_map]
  rfl
theorem txC_set (f : Txs) (k : Nat) (hk : k < 1024) (v : List UInt8) : (txC f).setIfInBounds k (.string ⟨v.toArray⟩) = txC (setX f k v) := by
  apply Array.ext_getElem?
  intro i
  rw [Array.getElem?_setIfInBounds, txC_size]
  by_cases hi : i < 1024
  · rw [txC_at _ hi, txC_at _ hi]
    by_cases e : k = i
    · subst e
      rw [if_pos rfl, if_pos hk]
      unfold setX; rw [if_pos rfl]
    · rw [if_neg e]
      unfold setX; rw [if_neg fun h => e h.symm]
  · rw [if_neg (by omega), Array.getElem?_eq_none_iff.2 (by rw [txC_size]; omega), Array.getElem?_eq_none_iff.2 (by rw [txC_size]; omega)]
theorem txC_congr {f g : Txs} (h : ∀ k : Nat, k < 1024 → f k = g k) : txC f = txC g := by
  unfold txC
  exact congrArg List.toArray (List.map_congr_left fun j hj => by rw [h j (List.mem_range.1 hj)])
theorem txN_nil (n : Nat) : ((List.range n).map fun _ => Value.string ⟨([] : List UInt8).toArray⟩).toArray = Array.replicate n (.string ⟨#[]⟩) := by
  apply Array.ext_getElem?
  intro i
  rw [List.getElem?_toArray, List.getElem?_map, Array.getElem?_replicate]
  by_cases hi : i < n
  · rw [List.getElem?_range hi, if_pos hi]; rfl
  · rw [List.getElem?_eq_none_iff.2 (by rw [List.length_range]; omega), if_neg hi]; rfl
theorem txC_nil : txC (fun _ => []) = Array.replicate 1024 (.string ⟨#[]⟩) := txN_nil 1024
theorem texts_zero : Tryz.zeroCells72 = txC (fun _ => []) := by
  rw [txC_nil]; kernel_rfl
theorem texts_under : Tryz.prog.underlying 72 = some (.array 1024 9) := by kernel_rfl
theorem texts_info : (Tryz.prog.info? 72).map (·.size) = some 1024 := by kernel_rfl
def TX (w : World) (B : Nat) (f : Txs) : Prop := w.heap[B]? = some (.cells (txC f) 72 (0, 0))
theorem TX.lt {w : World} {B : Nat} {f : Txs} (h : TX w B f) : B < w.heap.size := (Array.getElem?_eq_some_iff.1 h).1
theorem TX.cell {w : World} {B : Nat} {f : Txs} (h : TX w B f) {j : Nat} (hj : j < 1024) : w.cell? ⟨B, j, none⟩ = some (.string ⟨(f j).toArray⟩) := by
  rw [Lib.cell_of_heap h j]; exact txC_at f hj
theorem TX.frozen {w : World} {B : Nat} {f : Txs} (h : TX w B f) (j : Nat) : w.frozen? ⟨B, j, none⟩ = false := by
  unfold World.frozen?; rw [show w.heap[B]? = _ from h]; simp
theorem TX.world {w w' : World} {B : Nat} {f : Txs} (h : TX w B f) (hb : w'.heap[B]? = w.heap[B]?) : TX w' B f := hb.trans h
theorem TX.below {w w' : World} {B : Nat} {f : Txs} (h : TX w B f) (hb : Below w.heap.size w w') : TX w' B f := h.world (hb.block B h.lt)
theorem row_set {w : World} {B : Nat} {c : Array Value} {T : TypeId} {fr : Nat × Nat} (h : w.heap[B]? = some (.cells c T fr)) (j : Nat) (v : Value) : (w.setCell ⟨B, j, none⟩ v).heap[B]? = some (.cells (c.setIfInBounds j v) T fr) := by
  have hlt := (Array.getElem?_eq_some_iff.1 h).1
  have he := (Array.getElem?_eq_some_iff.1 h).2
  show (w.heap.modify B _)[B]? = _
  rw [Array.getElem?_eq_getElem (by rw [Array.size_modify]; exact hlt), Array.getElem_modify_self, he]
  rfl
theorem TX.set {w : World} {B : Nat} {f : Txs} (h : TX w B f) {j : Nat} (hj : j < 1024) (v : List UInt8) : TX (w.setCell ⟨B, j, none⟩ (.string ⟨v.toArray⟩)) B (setX f j v) := by
  unfold TX
  rw [row_set h, txC_set f j hj v]
theorem TX.congr {w : World} {B : Nat} {f g : Txs} (h : TX w B f) (hg : ∀ k : Nat, k < 1024 → f k = g k) : TX w B g := by
  unfold TX; rw [← txC_congr hg]; exact h
theorem heap_setRow_self {w : World} {g : Nat} {c : Array Value} {t : TypeId} {fr : Nat × Nat} (h : w.heap[g]? = some (.cells c t fr)) (cs : Array Value) : (w.setRow g cs).heap[g]? = some (.cells cs t fr) := by
  have hlt := (Array.getElem?_eq_some_iff.1 h).1
  have he := (Array.getElem?_eq_some_iff.1 h).2
  unfold World.setRow
  show (w.heap.modify g _)[g]? = _
  rw [Array.getElem?_eq_getElem (by rw [Array.size_modify]; exact hlt), Array.getElem_modify_self, he]
theorem heap_setRow_other (w : World) {g k : Nat} (cs : Array Value) (h : k ≠ g) : (w.setRow g cs).heap[k]? = w.heap[k]? := by
  unfold World.setRow
  show (w.heap.modify g _)[k]? = _
  rw [Array.getElem?_modify, if_neg (fun e => h e.symm)]
theorem below_setRow' {B g : Nat} {w0 w : World} (hb : Below B w0 w) (hBg : B ≤ g) (cs : Array Value) : Below B w0 (w.setRow g cs) := by
  refine ⟨hb.os, hb.tape, hb.output, ?_, fun k hk => (heap_setRow_other w cs (by omega)).trans (hb.block k hk)⟩
  show _ ≤ (w.heap.modify g _).size
  rw [Array.size_modify]; exact hb.size
theorem wpList_load_texts {ops : Array Oper} {rest : List Oper} {o : Oper} {a : Act} {w : World} {Q : Exit → Act → World → Prop} (hgd : o.guard = none) (x : Operand) (ho : o.op = .load 72 x)
    (g : Nat) (hx : a.eval x = .pointer (some ⟨g, 0, none⟩)) {f : Txs} (hg : TX w g f) (h : wpList Tryz.prog ops Q rest (a.put o.dst (.agg (txC f))) w) : wpList Tryz.prog ops Q (o :: rest) a w :=
  wpList_load_row hgd 72 x ho g hx 72 (txC f) (0, 0) _ hg texts_under rfl (by rw [texts_info, txC_size]) h
end Go.Proofs.YtjgjacihdggimaaGreatDoor
namespace Go.Proofs.YtjgjacihdggimaaGreatDoor
open Go.RowKit
set_option maxHeartbeats 4000000 in
set_option maxRecDepth 10000 in
theorem phash_any (k : Int) (w : World) : Calls Tryz.prog 50 #[.int .i64 k] w fun e w' => e = .returned (.int .i64 (hashK k)) ∧ w' = w := by
  by_cases h0 : k < 0
  · have d0 : decide (k < 0) = true := decide_eq_true h0
    have e : hashK k = -1 := by unfold hashK; rw [if_neg (by omega)]
    rw [e]
    clear e h0
    go_enter Tryz.func50, Tryz.ntmps50
    go_wp2_with fail
    go_ret
    exact ⟨rfl, rfl⟩
  · have d0 : decide (k < 0) = false := decide_eq_false h0
    by_cases h1 : (1024 : Int) ≤ k
    · have d1 : decide ((1024 : Int) ≤ k) = true := decide_eq_true h1
      have e : hashK k = -1 := by unfold hashK; rw [if_neg (by omega)]
      rw [e]
      clear e
      go_enter Tryz.func50, Tryz.ntmps50
      go_wp2_with fail
      go_ret
      exact ⟨rfl, rfl⟩
    · have d1 : decide ((1024 : Int) ≤ k) = false := decide_eq_false h1
      have HE : Hid (41 * k % 1024 / 2 = hashK k) := Lib.hid (by unfold hashK; rw [if_pos (by omega)])
      have hk0 : 0 ≤ k := by omega
      have hk1 : k < 1024 := by omega
      clear h0 h1
      go_enter Tryz.func50, Tryz.ntmps50
      go_wp2_with fail
      go_ret
      exact ⟨by rw [← HE.out]; rfl, rfl⟩
set_option maxHeartbeats 4000000 in
set_option maxRecDepth 10000 in
theorem pdigit_any (k : Int) (hk : 0 ≤ k ∧ k ≤ 1023) (lv : Nat) (w : World) : Calls Tryz.prog 87 #[.int .i64 k, .int .i64 (lv : Int)] w fun e w' => e = .returned (.int .i64 (digK k lv)) ∧ w' = w := by
  have HH := Lib.hid (fun w => phash_any k w)
  have hb := hash_bound hk
  have hp := hb.1
  have hq := hb.2
  by_cases h0 : lv = 0
  · have d0 : ((lv : Int) == 0) = true := by rw [h0]; rfl
    have HD : Hid (hashK k % 32 = digK k lv) := Lib.hid (by unfold digK; rw [if_pos h0])
    generalize hashK k = H at *
    clear hb hk h0
    go_enter Tryz.func87, Tryz.ntmps87
    go_wp2_with fail
    refine (HH.out w).mono ?_; rintro e w1 ⟨rfl, rfl⟩
    go_wp2_with fail
    go_ret
    exact ⟨by rw [← HD.out]; rfl, rfl⟩
  · have d0 : ((lv : Int) == 0) = false := by
      rw [beq_eq_false_iff_ne]; omega
    have HD : Hid (hashK k / 32 = digK k lv) := Lib.hid (by unfold digK; rw [if_neg h0])
    generalize hashK k = H at *
    clear hb hk h0
    go_enter Tryz.func87, Tryz.ntmps87
    go_wp2_with fail
    refine (HH.out w).mono ?_; rintro e w1 ⟨rfl, rfl⟩
    go_wp2_with fail
    go_ret
    exact ⟨by rw [← HD.out]; rfl, rfl⟩
theorem hash_neg {k : Int} : decide (hashK k < 0) = !(decide (0 ≤ k) && decide (k ≤ 1023)) := by
  by_cases h : 0 ≤ k ∧ k ≤ 1023
  · rw [decide_eq_true h.1, decide_eq_true h.2, decide_eq_false (by have := hash_bound h; omega)]; rfl
  · have e : hashK k = -1 := by unfold hashK; rw [if_neg h]
    rw [e]
    by_cases h0 : 0 ≤ k
    · rw [decide_eq_true h0, decide_eq_false (fun h1 => h ⟨h0, h1⟩)]; rfl
    · rw [decide_eq_false h0]; rfl
set_option maxHeartbeats 4000000 in
set_option maxRecDepth 10000 in
theorem pwrong_any (x : En) (w : World) (hl : x.text.length ≤ maxLen) : Calls Tryz.prog 26 #[.agg #[.int .i64 x.key, .string ⟨x.text.toArray⟩]] w fun e w' => e = .returned (.bool (!rightE x)) ∧ Below w.heap.size w w' := by
  obtain ⟨k, t⟩ := x
  have HH := Lib.hid (fun w => phash_any k w)
  have HN := Lib.hid (hash_neg (k := k))
  have hba : Below w.heap.size w (w.alloc (.cells #[.int .i64 k, .string ⟨t.toArray⟩] 60)) := (Below.refl _ _).alloc (Nat.le_refl _) _
  have HB := Lib.hid hba
  clear hba
  have hl : t.length ≤ maxLen := hl
  cases h0 : decide (hashK k < 0) with
  | true =>
    have d0 := h0
    have HR : Hid (rightE ⟨k, t⟩ = false) := Lib.hid (by
      have := HN.out; rw [h0] at this
      unfold rightE
      show (decide (0 ≤ k) && (decide (k ≤ 1023) && _)) = false
      rw [← Bool.and_assoc, show (decide (0 ≤ k) && decide (k ≤ 1023)) = false by cases hq : (decide (0 ≤ k) && decide (k ≤ 1023)) with | false => rfl | true => rw [hq] at this; cases this]; rfl)
    generalize hashK k = H at *
    go_enter Tryz.func26, Tryz.ntmps26
    go_wp2_with fail
    refine (HH.out _).mono ?_; rintro e w1 ⟨rfl, rfl⟩
    go_wp2_with fail
    go_ret
    exact ⟨by rw [HR.out]; rfl, HB.out⟩
  | false =>
    have d0 := h0
    have hk : (decide (0 ≤ k) && decide (k ≤ 1023)) = true := by have := HN.out; rw [h0] at this; cases hq : (decide (0 ≤ k) && decide (k ≤ 1023)) with | true => rfl | false => rw [hq] at this; cases this
    have hR1 : rightE ⟨k, t⟩ = (decide (1 ≤ t.length) && decide (t.length ≤ 200)) := by
      unfold rightE
      show (decide (0 ≤ k) && (decide (k ≤ 1023) && (decide (1 ≤ t.length) && decide (t.length ≤ 200)))) = _
      rw [← Bool.and_assoc, hk]; rfl
    cases t with
    | nil =>
      have HR : Hid (rightE ⟨k, []⟩ = false) := Lib.hid (by rw [hR1]; rfl)
      generalize hashK k = H at *
      clear hR1 hk
      go_enter Tryz.func26, Tryz.ntmps26
      go_wp2_with fail
      refine (HH.out _).mono ?_; rintro e w1 ⟨rfl, rfl⟩
      go_wp2_with fail
      go_ret
      exact ⟨by rw [HR.out]; rfl, HB.out⟩
    | cons c t =>
      have hneT0 : (c :: t).isEmpty = false := rfl
      have HR : Hid (rightE ⟨k, c :: t⟩ = decide ((c :: t).length ≤ 200)) := Lib.hid (by rw [hR1, decide_eq_true (show 1 ≤ (c :: t).length by simp)]; rfl)
      generalize hashK k = H at *
      generalize (c :: t) = T at *
      clear hR1 hk
      by_cases h2 : (200 : Int) < (T.length : Int)
      · have d2 : decide ((200 : Int) < (T.length : Int)) = true := decide_eq_true h2
        have HR2 := Lib.hid (HR.out.trans (decide_eq_false (by omega)))
        go_enter Tryz.func26, Tryz.ntmps26
        go_wp2_with fail
        refine (HH.out _).mono ?_; rintro e w1 ⟨rfl, rfl⟩
        go_wp2_with fail
        go_ret
        exact ⟨by rw [HR2.out]; rfl, HB.out⟩
      · have d2 : decide ((200 : Int) < (T.length : Int)) = false := decide_eq_false h2
        have HR2 := Lib.hid (HR.out.trans (decide_eq_true (by omega)))
        go_enter Tryz.func26, Tryz.ntmps26
        go_wp2_with fail
        refine (HH.out _).mono ?_; rintro e w1 ⟨rfl, rfl⟩
        go_wp2_with fail
        go_ret
        exact ⟨by rw [HR2.out]; rfl, HB.out⟩
end Go.Proofs.YtjgjacihdggimaaGreatDoor
namespace Go.Proofs.YtjgjacihdggimaaGreatDoor
open Go.RowKit
theorem rent_info : (Tryz.prog.info? 75).map (fun i => (i.zero, i.size, i.bytes)) = some (some (.agg #[.int .i64 0, .string ⟨#[]⟩]), 2, 24) := by kernel_rfl
set_option maxHeartbeats 4000000 in
set_option maxRecDepth 10000 in
theorem rright_any (x : En) (w : World) (hl : x.text.length ≤ maxLen) : Calls Tryz.prog 28 #[.agg #[.int .i64 x.key, .string ⟨x.text.toArray⟩]] w fun e w' => e = .returned (.bool (rightE x)) ∧ Below w.heap.size w w' := by
  obtain ⟨k, t⟩ := x
  have hba : Below w.heap.size w (w.alloc (.cells #[.int .i64 k, .string ⟨t.toArray⟩] 75)) := (Below.refl _ _).alloc (Nat.le_refl _) _
  have HB := Lib.hid hba
  clear hba
  have hl : t.length ≤ maxLen := hl
  have HR : Hid (rightE ⟨k, t⟩ = (decide (0 ≤ k) && (decide (k ≤ 1023) && (decide ((1 : Int) ≤ (t.length : Int)) && decide ((t.length : Int) ≤ 200))))) := Lib.hid (by
    unfold rightE
    show (decide (0 ≤ k) && (decide (k ≤ 1023) && (decide (1 ≤ t.length) && decide (t.length ≤ 200)))) = _
    congr 3
    · exact decide_eq_decide.2 (by omega)
    · exact decide_eq_decide.2 (by omega))
  cases h0 : decide (0 ≤ k) with
  | false =>
    rw [h0] at HR
    go_enter Tryz.func28, Tryz.ntmps28
    go_wp2_with fail
    go_ret
    exact ⟨by rw [HR.out]; rfl, HB.out⟩
  | true =>
    cases h1 : decide (k ≤ 1023) with
    | false =>
      rw [h0, h1] at HR
      go_enter Tryz.func28, Tryz.ntmps28
      go_wp2_with fail
      go_ret
      exact ⟨by rw [HR.out]; rfl, HB.out⟩
    | true =>
      cases h2 : decide ((1 : Int) ≤ (t.length : Int)) with
      | false =>
        rw [h0, h1, h2] at HR
        go_enter Tryz.func28, Tryz.ntmps28
        go_wp2_with fail
        go_ret
        exact ⟨by rw [HR.out]; rfl, HB.out⟩
      | true =>
        rw [h0, h1, h2] at HR
        go_enter Tryz.func28, Tryz.ntmps28
        go_wp2_with fail
        go_ret
        exact ⟨by rw [HR.out]; rfl, HB.out⟩
end Go.Proofs.YtjgjacihdggimaaGreatDoor
