/- Texts joined: NfD. -/
import Derived.Test.YtjgjacihdggimaaGreatDoorDk15
import Derived.Test.YtjgjacihdggimaaGreatDoorDk03
import Derived.Test.YtjgjacihdggimaaGreatDoorDk07
import Derived.Test.YtjgjacihdggimaaGreatDoorDk06
set_option linter.all false
namespace Go.Proofs.YtjgjacihdggimaaGreatDoor
open Go.RowKit Go.Maps
def ptr (q : Option Nat) : Value := match q with
  | none => .pointer none
  | some g => .pointer (some ⟨g, 0, none⟩)
def pW (q : Option Nat) : List Value := [ptr q]
theorem pW_len (q : Option Nat) : (pW q).length = 1 := rfl
theorem pW_one : ∀ q : Option Nat, ∀ u ∈ pW q, u.oneCell' = true := fun q u hu => by
  obtain rfl := List.mem_singleton.1 hu
  cases q <;> rfl
def NdAt (w : World) (K : Nat → Prop) (g : Nat) (n : Nd) : Prop := K g ∧ ∃ B cb C cc, At4 w g 0 n B cb C cc ∧ RowI w K B n.refs ∧ RowI w K C n.nums
theorem NdAt.kept {w w' : World} {K : Nat → Prop} {g : Nat} {n : Nd} (h : NdAt w K g n) (hk : Kept w w' K) : NdAt w' K g n := by
  obtain ⟨h1, B, cb, C, cc, h2, h3, h4⟩ := h
  exact ⟨h1, B, cb, C, cc, h2.kept hk h1, h3.kept hk, h4.kept hk⟩
theorem NdAt.mono {w : World} {K K' : Nat → Prop} {g : Nat} {n : Nd} (h : NdAt w K g n) (hk : ∀ g, K g → g < w.heap.size → K' g) : NdAt w K' g n := by
  obtain ⟨h1, B, cb, C, cc, h2, h3, h4⟩ := h
  exact ⟨hk g h1 (Lib.lt_of_cell h2.1), B, cb, C, cc, h2, h3.mono hk, h4.mono hk⟩
theorem own_blk {α : Type} {E : TypeId} {n : Nat} {f : α → List Value} {base : Nat} {w w' : World} {A : Option Addr} {len cap : Nat} {L : List α} (h : OwnR E n f base w (.slice A len cap) L) (hb : ∀ g o, A = some ⟨g, o, none⟩ → w'.heap[g]? = w.heap[g]?) : OwnR E n f base w' (.slice A len cap) L := by
  refine ⟨h.1, ?_⟩
  rcases h.2 with ⟨e, hl⟩ | ⟨g, c, cur, e, h1, h2, h3⟩
  · exact .inl ⟨e, hl⟩
  · have eA : A = some ⟨g, 0, none⟩ := by simp at e; exact e.1
    exact .inr ⟨g, c, cur, e, h1, (hb g 0 eA).trans h2, h3⟩
theorem own_set {w : World} {E : TypeId} {base g cap N i : Nat} {L : List (Option Nat)} (h : OwnR E 1 pW base w (.slice (some ⟨g, 0, none⟩) N cap) L) (hN : L.length = N) (hi : i < L.length) (q : Option Nat) :
    OwnR E 1 pW base (w.setCell ⟨g, i, none⟩ (ptr q)) (.slice (some ⟨g, 0, none⟩) N cap) (L.set i q) := by
  have hm : ∀ l : List (Option Nat), l.flatMap pW = l.map ptr := fun l => by
    induction l with
    | nil => rfl
    | cons a l ih => rw [List.flatMap_cons, ih]; rfl
  subst hN
  obtain ⟨_, h⟩ := h
  rw [hm] at h
  unfold OwnR
  rw [hm, List.map_set, List.length_set]
  refine ⟨by simp, ?_⟩
  rcases h with ⟨e, hl⟩ | ⟨g', c, cur, e, h1, h2, h3, h4, h5, h6⟩
  · cases e
  · simp only [Value.slice.injEq, Option.some.injEq, Addr.mk.injEq, and_true, true_and] at e
    obtain ⟨rfl, rfl⟩ := e
    refine .inr ⟨g, cap, cur.setIfInBounds i (ptr q), rfl, h1, ?_, h3, h4, by simpa using h5, ?_⟩
    · simp [World.setCell, Array.getElem?_modify, h2]
    · rw [Array.toList_setIfInBounds, List.take_set, h6]
structure AR (w : World) (K : Nat → Prop) (a room : Nat) (ps : List (Option Nat)) (t tm : Sh) (A : Option Addr) (cS bK low : Nat) : Prop where
  c0 : w.cell? ⟨a, 0, none⟩ = some (.int .i64 (room : Int))
  c1 : w.cell? ⟨a, 1, none⟩ = some (.slice A t.length cS)
  c2 : w.cell? ⟨a, 2, none⟩ = some (.map (some bK))
  c3 : w.cell? ⟨a, 3, none⟩ = some (.int .i64 (low : Int))
  fA : ∀ j, w.frozen? ⟨a, j, none⟩ = false
  row : OwnR 138 1 pW 0 w (.slice A t.length cS) ps
  psl : ps.length = t.length
  at0 : ∀ i : Nat, t[i]? = some none → ps[i]? = some none
  at1 : ∀ (i : Nat) (n : Nd), t[i]? = some (some n) → ∃ g, ps[i]? = some (some g) ∧ NdAt w K g n
  map : MapA w bK tm
  ka : ¬ K a
  kb : ¬ K bK
  ab : a ≠ bK
  ks : ∀ g o, A = some ⟨g, o, none⟩ → ¬ K g ∧ g ≠ a ∧ g ≠ bK
  wide : room ≤ 65536
  len : t.length ≤ room
  low1 : low ≤ t.length
  kl : ∀ g, K g → g < w.heap.size
def LowK (t : Sh) (low : Nat) : Prop := ∀ i : Nat, i < low → t[i]? ≠ some none
section
variable {w w' : World} {K : Nat → Prop} {a room cS bK low : Nat} {ps : List (Option Nat)} {t tm : Sh} {A : Option Addr}
theorem AR.lA (h : AR w K a room ps t tm A cS bK low) : a < w.heap.size := Lib.lt_of_cell h.c0
theorem AR.lB (h : AR w K a room ps t tm A cS bK low) : bK < w.heap.size := h.map.lt
theorem AR.lS (h : AR w K a room ps t tm A cS bK low) {g o : Nat} (e : A = some ⟨g, o, none⟩) : g < w.heap.size := by
  rcases h.row.2 with ⟨e', hl⟩ | ⟨g', c, cur, e', h1, h2, h3⟩
  · simp [e] at e'
  · have eA : A = some ⟨g', 0, none⟩ := by simp at e'; exact e'.1
    rw [eA] at e
    cases e
    exact (Array.getElem?_eq_some_iff.1 h2).1
def Own (K : Nat → Prop) (a bK : Nat) (A : Option Addr) (g : Nat) : Prop := K g ∨ g = a ∨ g = bK ∨ ∃ o, A = some ⟨g, o, none⟩
theorem AR.kept (h : AR w K a room ps t tm A cS bK low) (hk : Kept w w' (Own K a bK A)) : AR w' K a room ps t tm A cS bK low := by
  have ha : w'.heap[a]? = w.heap[a]? := hk.block a (.inr (.inl rfl)) h.lA
  have hK : Kept w w' K := ⟨hk.size, fun g hg hl => hk.block g (.inl hg) hl⟩
  exact { h with
    c0 := by rw [World.cell?_of_block (w := w) ha]; exact h.c0
    c1 := by rw [World.cell?_of_block (w := w) ha]; exact h.c1
    c2 := by rw [World.cell?_of_block (w := w) ha]; exact h.c2
    c3 := by rw [World.cell?_of_block (w := w) ha]; exact h.c3
    fA := fun j => by rw [World.frozen?_of_block (w := w) ha]; exact h.fA j
    row := own_blk h.row fun g o e => hk.block g (.inr (.inr (.inr ⟨o, e⟩))) (h.lS e)
    at1 := fun i n hn => by obtain ⟨g, h1, h2⟩ := h.at1 i n hn; exact ⟨g, h1, h2.kept hK⟩
    map := h.map.block (hk.block bK (.inr (.inr (.inl rfl))) h.lB)
    kl := fun g hg => Nat.lt_of_lt_of_le (h.kl g hg) hk.size }
theorem AR.below (h : AR w K a room ps t tm A cS bK low) (hb : Below w.heap.size w w') : AR w' K a room ps t tm A cS bK low := h.kept (Kept.of_below hb)
theorem AR.mono {K' : Nat → Prop} (h : AR w K a room ps t tm A cS bK low) (hk : ∀ g, K g → g < w.heap.size → K' g) (h1 : ¬ K' a) (h2 : ¬ K' bK) (h3 : ∀ g o, A = some ⟨g, o, none⟩ → ¬ K' g) (h4 : ∀ g, K' g → g < w.heap.size) : AR w K' a room ps t tm A cS bK low :=
  { h with
    at1 := fun i n hn => by obtain ⟨g, e, e'⟩ := h.at1 i n hn; exact ⟨g, e, e'.mono hk⟩
    ka := h1
    kb := h2
    ks := fun g o e => ⟨h3 g o e, (h.ks g o e).2⟩
    kl := h4 }
theorem AR.slot (h : AR w K a room ps t tm A cS bK low) {i : Nat} (hi : i < t.length) : ∃ g q, A = some ⟨g, 0, none⟩ ∧ g < w.heap.size ∧ ps[i]? = some q ∧ w.cell? ⟨g, i, none⟩ = some (ptr q) ∧ w.frozen? ⟨g, i, none⟩ = false := by
  have hl := h.psl
  rcases h.row.2 with ⟨e', hz⟩ | ⟨g, c, cur, e', h1, h2, h3⟩
  · omega
  · have eA : A = some ⟨g, 0, none⟩ := by simp at e'; exact e'.1
    obtain ⟨q, hq⟩ : ∃ q, ps[i]? = some q := ⟨_, List.getElem?_eq_getElem (by omega)⟩
    have hrow := h.row
    rw [eA] at hrow
    have := OwnR.at pW_len hrow hl.symm i q hq 0 (ptr q) rfl
    exact ⟨g, q, eA, (Array.getElem?_eq_some_iff.1 h2).1, hq, by simpa using this, by simp [World.frozen?, h2]⟩
theorem AR.slot_live (h : AR w K a room ps t tm A cS bK low) {i : Nat} {q : Option Nat} (hi : i < t.length) (hq : ps[i]? = some q) : live t ((i : Int) + 1) = q.isSome := by
  unfold live
  rw [ndAt_succ]
  cases e : t[i]? with
  | none => rw [List.getElem?_eq_none_iff] at e; omega
  | some o =>
    cases o with
    | none =>
      have := h.at0 i e
      rw [hq] at this; cases this; rfl
    | some n =>
      obtain ⟨g, h1, _⟩ := h.at1 i n e
      rw [hq] at h1; cases h1; rfl
def Chg (a bK : Nat) (A : Option Addr) (g : Nat) : Prop := g = a ∨ g = bK ∨ ∃ o, A = some ⟨g, o, none⟩
theorem AR.chg (h : AR w K a room ps t tm A cS bK low) {g : Nat} (hg : Chg a bK A g) : ¬ K g ∧ g < w.heap.size := by
  rcases hg with rfl | rfl | ⟨o, e⟩
  · exact ⟨h.ka, h.lA⟩
  · exact ⟨h.kb, h.lB⟩
  · exact ⟨(h.ks g o e).1, h.lS e⟩
theorem AR.setLow (h : AR w K a room ps t tm A cS bK low) {low' : Nat} (hl : low' ≤ t.length) : AR (w.setCell ⟨a, 3, none⟩ (.int .i64 (low' : Int))) K a room ps t tm A cS bK low' := by
  have hb : ∀ k, k ≠ a → (w.setCell ⟨a, 3, none⟩ (.int .i64 (low' : Int))).heap[k]? = w.heap[k]? := fun k hk => Below.heap_setCell w ⟨a, 3, none⟩ _ k hk
  have hK : Kept w (w.setCell ⟨a, 3, none⟩ (.int .i64 (low' : Int))) K := ⟨by simp, fun g hg _ => hb g fun e => h.ka (e ▸ hg)⟩
  exact { h with
    c0 := by rw [World.cell?_setCell_other _ _ _ _ (by simp)]; exact h.c0
    c1 := by rw [World.cell?_setCell_other _ _ _ _ (by simp)]; exact h.c1
    c2 := by rw [World.cell?_setCell_other _ _ _ _ (by simp)]; exact h.c2
    c3 := World.cell?_setCell_same _ _ _ h.c3
    fA := fun j => by rw [World.frozen?_setCell]; exact h.fA j
    row := own_blk h.row fun g o e => hb g (h.ks g o e).2.1
    at1 := fun i n hn => by obtain ⟨g, h1, h2⟩ := h.at1 i n hn; exact ⟨g, h1, h2.kept hK⟩
    map := h.map.block (hb bK h.ab.symm)
    low1 := hl
    kl := fun g hg => by simpa using h.kl g hg }
theorem AR.grow (h : AR w K a room ps t tm A cS bK low) {g cap : Nat} (ho : OwnR 138 1 pW 0 w' (.slice (some ⟨g, 0, none⟩) (t.length + 1) cap) (ps ++ [none])) (hg : w.grownBy w' (Value.slice A t.length cS).ownBlock) (hat : (Value.slice A t.length cS).ownBlock = some g ∨ g = w.heap.size ∨ g = w.heap.size + 1) (hr : t.length + 1 ≤ room) :
    AR (w'.setCell ⟨a, 1, none⟩ (.slice (some ⟨g, 0, none⟩) (t.length + 1) cap)) K a room (ps ++ [none]) (t ++ [none]) tm (some ⟨g, 0, none⟩) cap bK low := by
  have hA : ∀ k, (Value.slice A t.length cS).ownBlock = some k → ∃ o, A = some ⟨k, o, none⟩ := fun k hk => by
    cases A with
    | none => simp [Value.ownBlock] at hk
    | some p =>
      have hrow := h.row
      rcases hrow.2 with ⟨e', hz⟩ | ⟨g', c, cur, e', h1, h2, h3⟩
      · simp at e'
      · have eA : p = ⟨g', 0, none⟩ := by simp at e'; exact e'.1
        subst eA
        simp [Value.ownBlock] at hk
        exact ⟨0, by rw [hk]⟩
  have hga : ¬ K g ∧ g ≠ a ∧ g ≠ bK := by
    rcases hat with e | e | e
    · obtain ⟨o, e'⟩ := hA g e; exact h.ks g o e'
    · have h1 := h.lA; have h2 := h.lB; exact ⟨fun hk => by have := h.kl g hk; omega, by omega, by omega⟩
    · have h1 := h.lA; have h2 := h.lB; exact ⟨fun hk => by have := h.kl g hk; omega, by omega, by omega⟩
  have hblk : ∀ k, k < w.heap.size → ¬ (∃ o, A = some ⟨k, o, none⟩) → w'.heap[k]? = w.heap[k]? := fun k hk hn => hg.block k hk fun e => hn (hA k e.symm)
  have ha : w'.heap[a]? = w.heap[a]? := hblk a h.lA fun ⟨o, e⟩ => (h.ks a o e).2.1 rfl
  have hb : ∀ k, k ≠ a → (w'.setCell ⟨a, 1, none⟩ (.slice (some ⟨g, 0, none⟩) (t.length + 1) cap)).heap[k]? = w'.heap[k]? := fun k hk => Below.heap_setCell w' ⟨a, 1, none⟩ _ k hk
  have hK : Kept w (w'.setCell ⟨a, 1, none⟩ (.slice (some ⟨g, 0, none⟩) (t.length + 1) cap)) K := ⟨by simpa using hg.size, fun k hk hl => (hb k fun e => h.ka (e ▸ hk)).trans (hblk k hl fun ⟨o, e⟩ => (h.ks k o e).1 hk)⟩
  have c1 : w'.cell? ⟨a, 1, none⟩ = some (.slice A t.length cS) := by rw [World.cell?_of_block (w := w) ha]; exact h.c1
  exact { h with
    c0 := by rw [World.cell?_setCell_other _ _ _ _ (by simp), World.cell?_of_block (w := w) ha]; exact h.c0
    c1 := by rw [World.cell?_setCell_same _ _ _ c1, List.length_append]; rfl
    c2 := by rw [World.cell?_setCell_other _ _ _ _ (by simp), World.cell?_of_block (w := w) ha]; exact h.c2
    c3 := by rw [World.cell?_setCell_other _ _ _ _ (by simp), World.cell?_of_block (w := w) ha]; exact h.c3
    fA := fun j => by rw [World.frozen?_setCell, World.frozen?_of_block (w := w) ha]; exact h.fA j
    row := by rw [List.length_append]; exact own_blk ho fun k o e => by cases e; exact hb g hga.2.1
    psl := by rw [List.length_append, List.length_append, h.psl]; rfl
    at0 := fun i hi => by
      by_cases e : i < t.length
      · rw [List.getElem?_append_left e] at hi
        rw [List.getElem?_append_left (by rw [h.psl]; exact e)]
        exact h.at0 i hi
      · have e' : i = t.length := by
          have := (List.getElem?_eq_some_iff.1 hi).1
          simp at this; omega
        rw [e', List.getElem?_append_right (by rw [h.psl]; exact Nat.le_refl _), h.psl]; simp
    at1 := fun i n hn => by
      have e : i < t.length := by
        by_cases e : i < t.length
        · exact e
        · rw [List.getElem?_append_right (by omega)] at hn
          have := List.mem_of_getElem? hn
          simp at this
      rw [List.getElem?_append_left e] at hn
      obtain ⟨k, h1, h2⟩ := h.at1 i n hn
      exact ⟨k, by rw [List.getElem?_append_left (by rw [h.psl]; exact e)]; exact h1, h2.kept hK⟩
    map := h.map.block ((hb bK h.ab.symm).trans (hblk bK h.lB fun ⟨o, e⟩ => (h.ks bK o e).2.2 rfl))
    ks := fun k o e => by cases e; exact hga
    len := by rw [List.length_append]; exact hr
    low1 := by rw [List.length_append]; have := h.low1; omega
    kl := fun k hk => by have := h.kl k hk; have := hg.size; simp; omega }
theorem AR.setSlot (h : AR w K a room ps t tm A cS bK low) {i : Nat} (hi : i < t.length) {gS : Nat} (hA : A = some ⟨gS, 0, none⟩) {q : Option Nat} {o : Option Nd} (hq : (q = none ∧ o = none) ∨ ∃ g n, q = some g ∧ o = some n ∧ NdAt w K g n) :
    AR (w.setCell ⟨gS, i, none⟩ (ptr q)) K a room (ps.set i q) (t.set i o) tm A cS bK low := by
  have hs := h.ks gS 0 hA
  have hb : ∀ k, k ≠ gS → (w.setCell ⟨gS, i, none⟩ (ptr q)).heap[k]? = w.heap[k]? := fun k hk => Below.heap_setCell w ⟨gS, i, none⟩ _ k hk
  have hK : Kept w (w.setCell ⟨gS, i, none⟩ (ptr q)) K := ⟨by simp, fun g hg _ => hb g fun e => hs.1 (e ▸ hg)⟩
  have ha := hb a hs.2.1.symm
  have hpl := h.psl
  exact { h with
    c0 := by rw [World.cell?_of_block (w := w) ha]; exact h.c0
    c1 := by rw [World.cell?_of_block (w := w) ha, List.length_set]; exact h.c1
    c2 := by rw [World.cell?_of_block (w := w) ha]; exact h.c2
    c3 := by rw [World.cell?_of_block (w := w) ha]; exact h.c3
    fA := fun j => by rw [World.frozen?_of_block (w := w) ha]; exact h.fA j
    row := by
      rw [List.length_set]
      have hrow := h.row
      rw [hA] at hrow ⊢
      exact own_set hrow hpl (by omega) q
    psl := by rw [List.length_set, List.length_set, hpl]
    at0 := fun j hj => by
      by_cases e : i = j
      · subst e
        rw [List.getElem?_set_self (by omega)] at hj
        cases hj
        rw [List.getElem?_set_self (by omega)]
        rcases hq with ⟨e1, _⟩ | ⟨g, n, _, e2, _⟩
        · rw [e1]
        · cases e2
      · rw [List.getElem?_set_ne e] at hj ⊢
        exact h.at0 j hj
    at1 := fun j n hn => by
      by_cases e : i = j
      · subst e
        rw [List.getElem?_set_self (by omega)] at hn
        rcases hq with ⟨_, e2⟩ | ⟨g, m, e1, e2, h2⟩
        · rw [e2] at hn; cases hn
        · rw [e2] at hn; cases hn
          exact ⟨g, by rw [List.getElem?_set_self (by omega), e1], h2.kept hK⟩
      · rw [List.getElem?_set_ne e] at hn ⊢
        obtain ⟨g, h1, h2⟩ := h.at1 j n hn
        exact ⟨g, h1, h2.kept hK⟩
    map := h.map.block (hb bK hs.2.2.symm)
    len := by rw [List.length_set]; exact h.len
    low1 := by rw [List.length_set]; exact h.low1
    kl := fun g hg => by simpa using h.kl g hg }
theorem AR.setMap (h : AR w K a room ps t tm A cS bK low) {tm' : Sh} (hm : MapA w' bK tm') (hg : w.grownBy w' (some bK)) : AR w' K a room ps t tm' A cS bK low := by
  have hb : ∀ k, k < w.heap.size → k ≠ bK → w'.heap[k]? = w.heap[k]? := fun k hk hn => hg.block k hk fun e => hn (by cases e; rfl)
  have hK : Kept w w' K := ⟨hg.size, fun g hg' hl => hb g hl fun e => h.kb (e ▸ hg')⟩
  have ha := hb a h.lA h.ab
  exact { h with
    c0 := by rw [World.cell?_of_block (w := w) ha]; exact h.c0
    c1 := by rw [World.cell?_of_block (w := w) ha]; exact h.c1
    c2 := by rw [World.cell?_of_block (w := w) ha]; exact h.c2
    c3 := by rw [World.cell?_of_block (w := w) ha]; exact h.c3
    fA := fun j => by rw [World.frozen?_of_block (w := w) ha]; exact h.fA j
    row := own_blk h.row fun g o e => hb g (h.lS e) (h.ks g o e).2.2
    at1 := fun i n hn => by obtain ⟨g, h1, h2⟩ := h.at1 i n hn; exact ⟨g, h1, h2.kept hK⟩
    map := hm
    kl := fun g hg' => Nat.lt_of_lt_of_le (h.kl g hg') hg.size }
set_option maxHeartbeats 4000000 in
set_option maxRecDepth 10000 in
theorem plive_any (h : AR w K a room ps t tm A cS bK low) (r : Int) (hr : -9223372036854775808 ≤ r ∧ r ≤ 9223372036854775807) :
    Calls Tryz.prog 78 #[.pointer (some ⟨a, 0, none⟩), .int .i64 r] w fun e w' => e = .returned (.bool (live t r)) ∧ w' = w := by
  have c1 := h.c1
  have hw := h.wide
  have hlen := h.len
  by_cases h1 : 0 < r
  · have d1 : decide (0 < r) = true := decide_eq_true h1
    by_cases h2 : r ≤ t.length
    · have d2 : decide (r ≤ (t.length : Int)) = true := decide_eq_true h2
      obtain ⟨i, e1⟩ : ∃ i : Nat, r - 1 = (i : Int) := ⟨(r - 1).toNat, by omega⟩
      obtain ⟨g, q, rfl, hg, hq, q0, _⟩ := h.slot (i := i) (by omega)
      have HV : Hid (live t r = q.isSome) := Lib.hid (by rw [show r = (i : Int) + 1 by omega]; exact h.slot_live (by omega) hq)
      generalize live t r = V at *
      generalize t.length = N at *
      have hi : i < N := by omega
      cases q with
      | none =>
        change w.cell? ⟨g, i, none⟩ = some (.pointer none) at q0
        clear h hq
        go_enter Tryz.func78, Tryz.ntmps78
        go_wp2_with fail
        go_ret
        exact ⟨by rw [HV.out]; rfl, rfl⟩
      | some b =>
        change w.cell? ⟨g, i, none⟩ = some (.pointer (some ⟨b, 0, none⟩)) at q0
        clear h hq
        go_enter Tryz.func78, Tryz.ntmps78
        go_wp2_with fail
        go_ret
        exact ⟨by rw [HV.out]; rfl, rfl⟩
    · have d2 : decide (r ≤ (t.length : Int)) = false := decide_eq_false h2
      have HV : Hid (live t r = false) := Lib.hid (Bool.eq_false_iff.2 fun e => h2 (live_bound e).2)
      generalize live t r = V at *
      generalize t.length = N at *
      clear h
      go_enter Tryz.func78, Tryz.ntmps78
      go_wp2_with fail
      go_ret
      exact ⟨by rw [HV.out]; rfl, rfl⟩
  · have d1 : decide (0 < r) = false := decide_eq_false h1
    have HV : Hid (live t r = false) := Lib.hid (Bool.eq_false_iff.2 fun e => h1 (by have := (live_bound e).1; omega))
    generalize live t r = V at *
    generalize t.length = N at *
    clear h
    go_enter Tryz.func78, Tryz.ntmps78
    go_wp2_with fail
    go_ret
    exact ⟨by rw [HV.out]; rfl, rfl⟩
end
end Go.Proofs.YtjgjacihdggimaaGreatDoor
