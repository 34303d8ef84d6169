/- Texts joined: SyF, SyG, RefK, LxQ, SyH, SyI, SyJ. -/
import Derived.Test.YteflmfifhmlpiaaDoorMa06
import Derived.Test.YteflmfifhmlpiaaDoorMa03
set_option linter.all false
set_option linter.unusedVariables false
set_option linter.unusedSimpArgs false
namespace Go.Proofs.YteflmfifhmlpiaaDoor

def mkT (s : List UInt8) : Tok := ⟨5, 0, 0, 0, s, 0⟩
def numK (n : Int) : Tok := ⟨1, n, 0, 0, [], 0⟩
def placeK (c r : Int) : Tok := ⟨2, 0, c, r, [], 0⟩
def badK : Tok := ⟨3, 0, 0, 0, [], 0⟩
def wordK (w : List UInt8) : Tok := ⟨4, 0, 0, 0, w, 0⟩
def Holds (L : List Tok) (p : Nat) (ts : List Tok) : Prop := ∀ i t, ts[i]? = some t → ∃ f, L[p + i]? = some { t with frm := f }
theorem Holds.cons {L : List Tok} {p : Nat} {t : Tok} {ts : List Tok} (h : Holds L p (t :: ts)) : (∃ f, L[p]? = some { t with frm := f }) ∧ Holds L (p + 1) ts :=
  ⟨h 0 t rfl, fun i u hi => by have := h (i + 1) u (by simpa using hi); rwa [show p + (i + 1) = p + 1 + i from by omega] at this⟩
theorem Holds.left {L : List Tok} {p : Nat} {a b : List Tok} (h : Holds L p (a ++ b)) : Holds L p a := fun i t hi => h i t (by rw [List.getElem?_append_left (List.getElem?_eq_some_iff.1 hi).1]; exact hi)
theorem Holds.right {L : List Tok} {p : Nat} {a b : List Tok} (h : Holds L p (a ++ b)) : Holds L (p + a.length) b := fun i t hi => by
  have := h (a.length + i) t (by rw [List.getElem?_append_right (by omega)]; simpa using hi)
  rwa [← Nat.add_assoc] at this
theorem Holds.mark {L : List Tok} {p : Nat} {s : List UInt8} {ts : List Tok} (h : Holds L p (mkT s :: ts)) : isMark L p s = true := by
  obtain ⟨f, hf⟩ := h.cons.1
  exact mark_at hf rfl
inductive Mode where
  | tree | wi (m : Nat) | item (corners : Bool) | its (corners : Bool)
inductive Pr : Mode → Tr → List UInt8 → List Tok → Prop
  | num {n : Nat} : n ≤ 9223372036854775807 → Pr .tree (numT n) (Lib.decDigits n) [numK n]
  | read {c r : Int} : rightB c r = true → Pr .tree (readT c r) (placeText c r) [placeK c r]
  | bad : Pr .tree badT [35, 82, 69, 70] [badK]
  | neg {a : Tr} {s : List UInt8} {ts : List Tok} : Pr (.wi 4) a s ts → Pr .tree (negT a) (45 :: s) (mkT [45] :: ts)
  | op {w sa sb : List UInt8} {a b : Tr} {ta tb : List Tok} : 1 ≤ lvl w → Pr (.wi (lvl w)) a sa ta → Pr (.wi (lvl w + 1)) b sb tb → Pr .tree (opT w a b) (sa ++ (w ++ sb)) (ta ++ mkT w :: tb)
  | plain {m : Nat} {t : Tr} {s : List UInt8} {ts : List Tok} : Pr .tree t s ts → (t.kind = 4 → m ≤ lvl t.word) → Pr (.wi m) t s ts
  | brk {m : Nat} {t : Tr} {s : List UInt8} {ts : List Tok} : Pr .tree t s ts → t.kind = 4 → lvl t.word < m → Pr (.wi m) t (40 :: (s ++ [41])) (mkT [40] :: (ts ++ [mkT [41]]))
  | cif {a b c : Tr} {sa sb sc : List UInt8} {ta tb tc : List Tok} : Pr .tree a sa ta → Pr .tree b sb tb → Pr .tree c sc tc →
      Pr .tree (callT [73, 70] [a, b, c]) ([73, 70, 40] ++ (sa ++ 44 :: (sb ++ 44 :: (sc ++ [41])))) (wordK [73, 70] :: mkT [40] :: (ta ++ mkT [44] :: (tb ++ mkT [44] :: (tc ++ [mkT [41]]))))
  | call {w s : List UInt8} {ks : List Tr} {ts : List Tok} : (w = [83, 85, 77] ∨ w = [77, 73, 78] ∨ w = [77, 65, 88] ∨ w = [67, 79, 85, 78, 84]) → Pr (.its (w == [67, 79, 85, 78, 84])) (callT [] ks) s ts → Pr .tree (callT w ks) (w ++ 40 :: s) (wordK w :: mkT [40] :: ts)
  | itT {t : Tr} {s : List UInt8} {ts : List Tok} : Pr .tree t s ts → Pr (.item false) t s ts
  | itBad : Pr (.item true) badT [35, 82, 69, 70] [badK]
  | itSpan {k : Bool} {c r d s : Int} : rightB c r = true → rightB d s = true → c ≤ d → r ≤ s → Pr (.item k) (spanT c r d s) (placeText c r ++ 58 :: placeText d s) [placeK c r, mkT [58], placeK d s]
  | last {k : Bool} {t : Tr} {s : List UInt8} {ts : List Tok} : Pr (.item k) t s ts → Pr (.its k) (callT [] [t]) (s ++ [41]) (ts ++ [mkT [41]])
  | more {k : Bool} {t : Tr} {ks : List Tr} {s s' : List UInt8} {ts ts' : List Tok} : Pr (.item k) t s ts → Pr (.its k) (callT [] ks) s' ts' → Pr (.its k) (callT [] (t :: ks)) (s ++ 44 :: s') (ts ++ mkT [44] :: ts')
def Mo (L : List Tok) (E p q : Nat) (t : Tr) : Mode → Prop
  | .tree => Seg L E p q t (if t.kind = 4 then lvl t.word else 4) ∧ First L p q
  | .wi m => m ≤ 4 → Seg L E p q t m ∧ First L p q
  | .item k => ∀ s, isMark L q s = true → s = [44] ∨ s = [41] → ∃ j, itemF L E j k p = some (.ok t q)
  | .its k => Its L E k p q t.kids
theorem lvl_le (w : List UInt8) : lvl w ≤ 3 := by unfold lvl; split <;> (try split) <;> (try split) <;> omega
theorem one_of {L : List Tok} {E p q : Nat} {t : Tr} (h : Seg L E p q t (if t.kind = 4 then lvl t.word else 4)) (hp : t.kind = 4 → 1 ≤ lvl t.word) : Seg L E p q t 1 := by
  refine h.down ?_
  split
  · rename_i e; exact hp e
  · omega
theorem pr_op {md : Mode} {t : Tr} {s : List UInt8} {ts : List Tok} (h : Pr md t s ts) : (md = .tree ∨ ∃ m, md = .wi m) → t.kind = 4 → 1 ≤ lvl t.word := by
  induction h with
  | num => intro _ h; simp [numT, Tr.kind] at h
  | read => intro _ h; simp [readT, Tr.kind] at h
  | bad => intro _ h; simp [badT, Tr.kind] at h
  | neg => intro _ h; simp [negT, Tr.kind] at h
  | op h => intro _ _; exact h
  | plain _ _ ih => intro _ h; exact ih (.inl rfl) h
  | brk _ _ _ ih => intro _ h; exact ih (.inl rfl) h
  | cif => intro _ h; simp [callT, Tr.kind] at h
  | call => intro _ h; simp [callT, Tr.kind] at h
  | itT _ ih => intro _ h; exact ih (.inl rfl) h
  | itBad => intro _ h; simp [badT, Tr.kind] at h
  | itSpan => intro _ h; simp [spanT, Tr.kind] at h
  | last => intro _ h; simp [callT, Tr.kind] at h
  | more => intro _ h; simp [callT, Tr.kind] at h
theorem pr_seg {md : Mode} {t : Tr} {s : List UInt8} {ts : List Tok} (h : Pr md t s ts) : ∀ (L : List Tok) (E p : Nat), Holds L p ts → Mo L E p (p + ts.length) t md := by
  induction h with
  | @num n _ =>
    intro L E p H
    obtain ⟨f, hf⟩ := H.cons.1
    exact ⟨seg_leaf hf (.inl ⟨rfl, rfl⟩), first_not hf (by simp [numK])⟩
  | @read c r _ =>
    intro L E p H
    obtain ⟨f, hf⟩ := H.cons.1
    exact ⟨seg_leaf hf (.inr (.inl ⟨rfl, rfl⟩)), fun _ => .inl rfl⟩
  | bad =>
    intro L E p H
    obtain ⟨f, hf⟩ := H.cons.1
    exact ⟨seg_leaf hf (.inr (.inr ⟨rfl, rfl⟩)), fun _ => .inl rfl⟩
  | @neg a s ts _ ih =>
    intro L E p H
    obtain ⟨hs, _⟩ := ih L E (p + 1) H.cons.2 (Nat.le_refl _)
    have e : p + (mkT [45] :: ts).length = p + 1 + ts.length := by simp; omega
    rw [e]
    exact ⟨seg_neg H.mark hs, first_mark H.mark⟩
  | @op w sa sb a b ta tb hw _ _ iha ihb =>
    intro L E p H
    have h3 := lvl_le w
    obtain ⟨ha, hf⟩ := iha L E p H.left (by omega)
    obtain ⟨hb, _⟩ := ihb L E (p + ta.length + 1) H.right.cons.2 (by omega)
    obtain ⟨f, hg⟩ := H.right.cons.1
    have hm := H.right.mark
    have e : p + (ta ++ mkT w :: tb).length = p + ta.length + 1 + tb.length := by simp; omega
    rw [e]
    refine ⟨seg_op hw h3 ha (mark_level hm) ?_ hb, first_op hf (by rw [mark_level hm]; exact hw)⟩
    simp [List.getD_eq_getElem?_getD, hg, mkT]
  | @plain m t s ts hp hle ih =>
    intro L E p H hm
    obtain ⟨h1, h2⟩ := ih L E p H
    refine ⟨h1.down ?_, h2⟩
    split
    · rename_i e; exact hle e
    · exact hm
  | @brk m t s ts hp hk hlt ih =>
    intro L E p H hm
    obtain ⟨h1, h2⟩ := ih L E (p + 1) H.cons.2.left
    have e : p + (mkT [40] :: (ts ++ [mkT [41]])).length = p + 1 + ts.length + 1 := by simp; omega
    rw [e]
    exact ⟨(seg_brk H.mark (one_of h1 (pr_op hp (.inl rfl))) H.cons.2.right.mark).down hm, first_mark H.mark⟩
  | @cif a b c sa sb sc ta tb tc pa pb pc iha ihb ihc =>
    intro L E p H
    obtain ⟨f, hf⟩ := H.cons.1
    have H1 := H.cons.2
    have H2 := H1.cons.2
    have H3 := H2.right.cons.2
    have H4 := H3.right.cons.2
    obtain ⟨ha, _⟩ := iha L E _ H2.left
    obtain ⟨hb, _⟩ := ihb L E _ H3.left
    obtain ⟨hc, _⟩ := ihc L E _ H4.left
    have e : p + (wordK [73, 70] :: mkT [40] :: (ta ++ mkT [44] :: (tb ++ mkT [44] :: (tc ++ [mkT [41]])))).length = p + 1 + 1 + ta.length + 1 + tb.length + 1 + tc.length + 1 := by simp; omega
    rw [e]
    exact ⟨seg_if hf rfl rfl H1.mark (one_of ha (pr_op pa (.inl rfl))) H2.right.mark (one_of hb (pr_op pb (.inl rfl))) H3.right.mark (one_of hc (pr_op pc (.inl rfl))) H4.right.mark, first_not hf (by simp [wordK])⟩
  | @call w s ks ts hw _ ih =>
    intro L E p H
    obtain ⟨f, hf⟩ := H.cons.1
    have H1 := H.cons.2
    have hi := ih L E _ H1.cons.2
    have e : p + (wordK w :: mkT [40] :: ts).length = p + 1 + 1 + ts.length := by simp; omega
    rw [e]
    exact ⟨seg_call hf rfl (by rcases hw with rfl | rfl | rfl | rfl <;> simp [wordK]) H1.mark hi, first_not hf (by simp [wordK])⟩
  | @itT t s ts hp ih =>
    intro L E p H z hz hzz
    obtain ⟨h1, h2⟩ := ih L E p H
    exact item_line (one_of h1 (pr_op hp (.inl rfl))) h2 hz (by rcases hzz with rfl | rfl <;> decide) (by rcases hzz with rfl | rfl <;> decide)
  | itBad =>
    intro L E p H z hz hzz
    obtain ⟨f, hf⟩ := H.cons.1
    exact item_bad hf rfl hz (by rcases hzz with rfl | rfl <;> decide)
  | @itSpan k c r d s _ _ hc hr =>
    intro L E p H z hz hzz
    obtain ⟨f, hf⟩ := H.cons.1
    obtain ⟨g, hg⟩ := H.cons.2.cons.2.cons.1
    exact item_span k hf rfl H.cons.2.mark hg rfl hc hr
  | @last k t s ts _ ih =>
    intro L E p H
    have e : p + (ts ++ [mkT [41]]).length = p + ts.length + 1 := by simp; omega
    rw [e]
    exact .last (ih L E p H.left _ H.right.mark (.inr rfl)) H.right.mark
  | @more k t ks s s' ts ts' _ _ ih ih' =>
    intro L E p H
    have e : p + (ts ++ mkT [44] :: ts').length = p + ts.length + 1 + ts'.length := by simp; omega
    rw [e]
    exact .more (ih L E p H.left _ H.right.mark (.inl rfl)) H.right.mark (ih' L E _ H.right.cons.2)
end Go.Proofs.YteflmfifhmlpiaaDoor
namespace Go.Proofs.YteflmfifhmlpiaaDoor

theorem res_eq {a b : Option Res} {x y : Res} (h : Le a b) (ha : a = some x) (hb : b = some y) : x = y := by
  have := h x ha
  rw [hb] at this
  exact (Option.some.inj this).symm
theorem line_uni {L : List Tok} {E lev p k j : Nat} {x y : Res} (h : lineF L E k lev p = some x) (g : lineF L E j lev p = some y) : x = y := by
  rcases Nat.le_total k j with e | e
  · exact res_eq ((le_all L E k j e).line lev p) h g
  · exact (res_eq ((le_all L E j k e).line lev p) g h).symm
theorem tree_is {L : List Tok} {E k : Nat} {x : Res} (h : lineF L E k 1 0 = some x) : treeT L E = some x := by
  obtain ⟨y, hy, _⟩ := tree_some L E
  rw [hy, line_uni h hy]
theorem level_end (L : List Tok) : levelAt L L.length = 0 := by
  unfold levelAt
  rw [List.getElem?_eq_none (Nat.le_refl _)]
theorem holds_of {L ts : List Tok} (h : L.map bareT = ts) : Holds L 0 ts := by
  intro i t hi
  subst h
  rw [List.getElem?_map] at hi
  obtain ⟨u, hu, rfl⟩ := Option.map_eq_some_iff.1 hi
  exact ⟨u.frm, by rw [Nat.zero_add, hu]; rfl⟩
theorem tree_back {L ts : List Tok} {s : List UInt8} {t : Tr} (E : Nat) (hp : Pr .tree t s ts) (h : L.map bareT = ts) : treeT L E = some (.ok t L.length) := by
  obtain ⟨h1, _⟩ := pr_seg hp L E 0 (holds_of h)
  have e : 0 + ts.length = L.length := by rw [← h]; simp
  rw [e] at h1
  obtain ⟨k, hk⟩ := (one_of h1 (pr_op hp (.inl rfl))).line 1 (Nat.le_refl _) (Nat.le_refl _) (by omega) (by rw [level_end]; omega)
  exact tree_is hk
end Go.Proofs.YteflmfifhmlpiaaDoor
namespace Go.Proofs.YteflmfifhmlpiaaDoor
open Go.Lib

theorem letter_toNat (c : Int) (h0 : 0 ≤ c) (h1 : c ≤ 15) : (letter c).toNat = 65 + c.toNat := by
  unfold letter; rw [UInt8.toNat_ofNat']; omega
theorem textAt_is (j : Nat) (h : j < 1024) : textAt j = letter ((j : Int) % 16) :: decDigits (j / 16 + 1) := by
  unfold textAt
  rw [atC_of j h, atR_of j h]
  unfold placeText
  rw [if_pos ((rightB_iff _ _).2 (by omega))]
  refine congrArg (List.cons _) ?_
  have e : (j : Int) / 16 + 1 = ((j / 16 + 1 : Nat) : Int) := by omega
  rw [e, itoa_nonneg]
theorem formed_parts {l : List UInt8} (h : formedB l = true) : ∃ (ch : UInt8) (ds : List UInt8) (u : Nat), l = ch :: ds ∧ 65 ≤ ch.toNat ∧ ch.toNat ≤ 90 ∧ 1 ≤ u ∧ u ≤ 999 ∧ decDigits u = ds ∧ decFrom 0 ds = some u := by
  unfold formedB at h
  rw [Bool.and_eq_true, decide_eq_true_eq, decide_eq_true_eq] at h
  obtain ⟨⟨h2, h4, ha, hz, h1⟩, hd⟩ := h
  cases l with
  | nil => simp at h2
  | cons ch ds =>
    have hdec : ∃ u, decFrom 0 ds = some u := by
      have aux : ∀ (l : List UInt8) (acc : Nat), (∀ i (hi : i < l.length), 48 ≤ (l[i]'hi).toNat ∧ (l[i]'hi).toNat ≤ 57) → ∃ u, decFrom acc l = some u := by
        intro l
        induction l with
        | nil => intro acc _; exact ⟨acc, rfl⟩
        | cons b t ih =>
          intro acc hb
          have h0 := hb 0 (by simp)
          simp only [List.getElem_cons_zero] at h0
          simp only [decFrom, digitVal, if_pos h0]
          exact ih _ fun i hi => by
            have := hb (i + 1) (by simpa using hi)
            simpa using this
      refine aux ds 0 fun i hi => ?_
      have := hd (i + 1) (by simpa using hi) (by omega)
      simpa [List.getD_eq_getElem?_getD, List.getElem?_eq_getElem hi] using this
    obtain ⟨u, hu⟩ := hdec
    have hne : ds ≠ [] := by rintro rfl; simp at h2
    have hh : ds.head? ≠ some 48 := by
      cases ds with
      | nil => simp
      | cons b t =>
        simp only [List.getD_eq_getElem?_getD, List.getElem?_cons_succ, List.getElem?_cons_zero, Option.getD_some] at h1
        intro e
        have e := Option.some.inj e
        subst e
        exact h1 rfl
    have hdig := digits_of_dec ds.length ds u rfl hu hne (.inl hh)
    have hlt := decFrom_lt ds 0 u hu
    have hl3 : ds.length ≤ 3 := by simpa using h4
    have hp : 10 ^ ds.length ≤ 10 ^ 3 := Nat.pow_le_pow_right (by decide) hl3
    refine ⟨ch, ds, u, rfl, ha, hz, ?_, by omega, hdig, hu⟩
    rcases Nat.eq_zero_or_pos u with e | e
    · subst e
      rw [digits_zero] at hdig
      rw [← hdig] at hh
      simp at hh
    · exact e
theorem digits_inj {u v : Nat} (h : decDigits u = decDigits v) : u = v := by
  have a := dec_digits u
  rw [h, dec_digits] at a
  exact (Option.some.inj a).symm
theorem parse_yes {ch : UInt8} {ds : List UInt8} {u : Nat} (hf : formedB (ch :: ds) = true) (h1 : 65 ≤ ch.toNat) (h2 : ch.toNat ≤ 80) (hu : 1 ≤ u) (hu2 : u ≤ 64) (hd : decDigits u = ds) :
    prC (ch :: ds) = (ch.toNat : Int) - 65 ∧ prR (ch :: ds) = (u : Int) - 1 ∧ prE (ch :: ds) = 0 := by
  obtain ⟨i, hi⟩ : ∃ i : Nat, i = 16 * (u - 1) + (ch.toNat - 65) := ⟨_, rfl⟩
  have hi2 : i < 1024 := by omega
  have ht : textAt i = ch :: ds := by
    rw [textAt_is i hi2, ← hd]
    have e1 : letter ((i : Int) % 16) = ch := by
      apply UInt8.toNat_inj.1
      rw [letter_toNat _ (by omega) (by omega)]
      omega
    have e2 : i / 16 + 1 = u := by omega
    rw [e1, e2]
  have hfd := find_some hi2 ht fun j hj he => by
    have hj2 : j < 1024 := by omega
    rw [textAt_is j hj2, ← hd] at he
    have e1 := congrArg UInt8.toNat (List.cons.inj he).1
    rw [letter_toNat _ (by omega) (by omega)] at e1
    have e2 := digits_inj (List.cons.inj he).2
    omega
  refine ⟨?_, ?_, ?_⟩
  · unfold prC; rw [if_pos hf, hfd]; show atC (i : Int) = _; rw [atC_of i hi2]; omega
  · unfold prR; rw [if_pos hf, hfd]; show atR (i : Int) = _; rw [atR_of i hi2]; omega
  · unfold prE; rw [if_pos hf, hfd]
theorem parse_no {ch : UInt8} {ds : List UInt8} {u : Nat} (hf : formedB (ch :: ds) = true) (h : 80 < ch.toNat ∨ 64 < u) (hd : decDigits u = ds) :
    prC (ch :: ds) = 0 ∧ prR (ch :: ds) = 0 ∧ prE (ch :: ds) = 4 := by
  have hfd := find_none (l := ch :: ds) fun j hj2 he => by
    rw [textAt_is j hj2, ← hd] at he
    have e1 := congrArg UInt8.toNat (List.cons.inj he).1
    rw [letter_toNat _ (by omega) (by omega)] at e1
    have e2 := digits_inj (List.cons.inj he).2
    omega
  refine ⟨?_, ?_, ?_⟩
  · unfold prC; rw [if_pos hf, hfd]
  · unfold prR; rw [if_pos hf, hfd]
  · unfold prE; rw [if_pos hf, hfd]
theorem parse_form {l : List UInt8} (hf : formedB l = false) : prC l = 0 ∧ prR l = 0 ∧ prE l = 2 := by
  refine ⟨?_, ?_, ?_⟩
  · unfold prC; rw [if_neg (by rw [hf]; decide)]
  · unfold prR; rw [if_neg (by rw [hf]; decide)]
  · unfold prE; rw [if_neg (by rw [hf]; decide)]
end Go.Proofs.YteflmfifhmlpiaaDoor
namespace Go.Proofs.YteflmfifhmlpiaaDoor
open Go.Lib

def live1 : List UInt8 := [32, 66, 50, 60, 61, 48, 48, 55, 32, 35, 82, 69, 70, 32, 83, 85, 77, 40, 81, 49]
def live2 : List UInt8 := [49, 43, 32, 83, 85, 77, 50]
def liveT : List Tok := [⟨2, 0, 1, 1, [], 1⟩, ⟨5, 0, 0, 0, [60, 61], 3⟩, ⟨1, 7, 0, 0, [], 5⟩, ⟨3, 0, 0, 0, [], 9⟩, ⟨4, 0, 0, 0, [83, 85, 77], 14⟩, ⟨5, 0, 0, 0, [40], 17⟩, ⟨3, 0, 0, 0, [], 18⟩]
theorem scanF_blank {l : List UInt8} {k p : Nat} {acc : List Tok} (h : p < l.length) (hb : l.getD p 0 = 32) : scanF l (k + 1) p acc = scanF l k (p + 1) acc := by
  rw [scanF, if_pos h, if_pos hb]
theorem scanF_tok {l : List UInt8} {k p n : Nat} {acc : List Tok} {t : Tok} (h : p < l.length) (hb : ¬ l.getD p 0 = 32) (ho : oneT l p = some (t, n)) : scanF l (k + 1) p acc = scanF l k (p + n) (acc ++ [t]) := by
  rw [scanF, if_pos h, if_neg hb, ho]
theorem scanF_bad {l : List UInt8} {k p : Nat} {acc : List Tok} (h : p < l.length) (hb : ¬ l.getD p 0 = 32) (ho : oneT l p = none) : scanF l (k + 1) p acc = (none, p) := by
  rw [scanF, if_pos h, if_neg hb, ho]
theorem scanF_end {l : List UInt8} {k p : Nat} {acc : List Tok} (h : ¬ p < l.length) : scanF l (k + 1) p acc = (some acc, 0) := by
  rw [scanF, if_neg h]
theorem one_mark {l : List UInt8} {p : Nat} {m : Int} {x : List UInt8} (h1 : ¬ isFig (l.getD p 0) = true) (h2 : ¬ (65 ≤ (l.getD p 0).toNat ∧ (l.getD p 0).toNat ≤ 90)) (h3 : ¬ subL l p 4 = [35, 82, 69, 70]) (hm : markN l p = m) (h0 : ¬ m = 0) (hx : subL l p m.toNat = x) :
    oneT l p = some (⟨5, 0, 0, 0, x, p⟩, m.toNat) := by
  unfold oneT
  rw [if_neg h1, if_neg h2, if_neg h3, hm, if_neg h0, hx]
theorem one_fig {l : List UInt8} {p n u : Nat} (h1 : isFig (l.getD p 0) = true) (hr : runLen isFig l p = n) (hu : numV (subL l p n) = some u) : oneT l p = some (⟨1, (u : Int), 0, 0, [], p⟩, n) := by
  unfold oneT
  rw [if_pos h1, hr, hu]
theorem one_ref {l : List UInt8} {p : Nat} (h1 : ¬ isFig (l.getD p 0) = true) (h2 : ¬ (65 ≤ (l.getD p 0).toNat ∧ (l.getD p 0).toNat ≤ 90)) (h3 : subL l p 4 = [35, 82, 69, 70]) : oneT l p = some (⟨3, 0, 0, 0, [], p⟩, 4) := by
  unfold oneT
  rw [if_neg h1, if_neg h2, if_pos h3]
theorem one_word {l : List UInt8} {p n : Nat} {x : List UInt8} (h1 : ¬ isFig (l.getD p 0) = true) (h2 : 65 ≤ (l.getD p 0).toNat ∧ (l.getD p 0).toNat ≤ 90) (hr : runLen isNam l p = n) (hx : subL l p n = x) (hw : wordB x = true) : oneT l p = some (⟨4, 0, 0, 0, x, p⟩, n) := by
  unfold oneT
  rw [if_neg h1, if_pos h2, hr, hx, if_pos hw]
theorem one_place {l : List UInt8} {p n : Nat} {x : List UInt8} {c r : Int} (h1 : ¬ isFig (l.getD p 0) = true) (h2 : 65 ≤ (l.getD p 0).toNat ∧ (l.getD p 0).toNat ≤ 90) (hr : runLen isNam l p = n) (hx : subL l p n = x) (hw : ¬ wordB x = true)
    (h : prC x = c ∧ prR x = r ∧ prE x = 0) : oneT l p = some (⟨2, 0, c, r, [], p⟩, n) := by
  unfold oneT
  rw [if_neg h1, if_pos h2, hr, hx, if_neg hw, if_pos h.2.2, h.1, h.2.1]
theorem one_past {l : List UInt8} {p n : Nat} {x : List UInt8} {c r : Int} (h1 : ¬ isFig (l.getD p 0) = true) (h2 : 65 ≤ (l.getD p 0).toNat ∧ (l.getD p 0).toNat ≤ 90) (hr : runLen isNam l p = n) (hx : subL l p n = x) (hw : ¬ wordB x = true)
    (h : prC x = c ∧ prR x = r ∧ prE x = 4) : oneT l p = some (⟨3, 0, 0, 0, [], p⟩, n) := by
  unfold oneT
  rw [if_neg h1, if_pos h2, hr, hx, if_neg hw, h.2.2]
  rfl
theorem one_none {l : List UInt8} {p n : Nat} {x : List UInt8} {c r : Int} (h1 : ¬ isFig (l.getD p 0) = true) (h2 : 65 ≤ (l.getD p 0).toNat ∧ (l.getD p 0).toNat ≤ 90) (hr : runLen isNam l p = n) (hx : subL l p n = x) (hw : ¬ wordB x = true)
    (h : prC x = c ∧ prR x = r ∧ prE x = 2) : oneT l p = none := by
  unfold oneT
  rw [if_neg h1, if_pos h2, hr, hx, if_neg hw, h.2.2]
  rfl
theorem scan_live1 : scanT live1 = (some liveT, 0) := by
  show scanF live1 21 0 [] = _
  rw [scanF_blank (by decide) (by decide),
    scanF_tok (by decide) (by decide) (one_place (by decide) (by decide) (n := 2) (x := [66, 50]) (by decide) (by decide) (by decide) (parse_yes (u := 2) (by decide) (by decide) (by decide) (by decide) (by decide) (by decide +kernel))),
    scanF_tok (by decide) (by decide) (one_mark (m := 2) (x := [60, 61]) (by decide) (by decide) (by decide) (by decide) (by decide) (by decide)),
    scanF_tok (by decide) (by decide) (one_fig (n := 3) (u := 7) (by decide) (by decide) (by decide)),
    scanF_blank (by decide) (by decide),
    scanF_tok (by decide) (by decide) (one_ref (by decide) (by decide) (by decide)),
    scanF_blank (by decide) (by decide),
    scanF_tok (by decide) (by decide) (one_word (n := 3) (x := [83, 85, 77]) (by decide) (by decide) (by decide) (by decide) (by decide)),
    scanF_tok (by decide) (by decide) (one_mark (m := 1) (x := [40]) (by decide) (by decide) (by decide) (by decide) (by decide) (by decide)),
    scanF_tok (by decide) (by decide) (one_past (n := 2) (x := [81, 49]) (by decide) (by decide) (by decide) (by decide) (by decide) (parse_no (u := 1) (by decide) (by decide) (by decide +kernel))),
    scanF_end (by decide)]
  rfl
theorem scan_live2 : scanT live2 = (none, 3) := by
  show scanF live2 8 0 [] = _
  rw [scanF_tok (by decide) (by decide) (one_fig (n := 1) (u := 1) (by decide) (by decide) (by decide)),
    scanF_tok (by decide) (by decide) (one_mark (m := 1) (x := [43]) (by decide) (by decide) (by decide) (by decide) (by decide) (by decide)),
    scanF_blank (by decide) (by decide),
    scanF_bad (by decide) (by decide) (one_none (n := 4) (x := [83, 85, 77, 50]) (by decide) (by decide) (by decide) (by decide) (by decide) (parse_form (by decide)))]
  rfl
theorem ans_live1 : ansL live1 = liveT ∧ ansP live1 = 0 ∧ ansE live1 = 0 := ans_some (by decide) scan_live1
theorem ans_live2 : ansL live2 = [] ∧ ansP live2 = 3 ∧ ansE live2 = 2 := ans_none (by decide) scan_live2
end Go.Proofs.YteflmfifhmlpiaaDoor
namespace Go.Proofs.YteflmfifhmlpiaaDoor
open Go.Lib

def rowFigs (r : Nat) : List UInt8 := if r < 9 then [UInt8.ofNat (48 + (r + 1))] else [UInt8.ofNat (48 + (r + 1) / 10), UInt8.ofNat (48 + (r + 1) % 10)]
theorem figs_all : ∀ r : Fin 64, Lib.decFrom 0 (rowFigs r.val) = some (r.val + 1) ∧ rowFigs r.val ≠ [] ∧ (rowFigs r.val).head? ≠ some 48 := by decide +kernel
theorem figs_is (r : Nat) (h : r < 64) : Lib.decDigits (r + 1) = rowFigs r := by
  obtain ⟨h1, h2, h3⟩ := figs_all ⟨r, h⟩
  exact digits_of_dec (rowFigs r).length (rowFigs r) (r + 1) rfl h1 h2 (.inl h3)
theorem form_all : ∀ c : Fin 16, ∀ r : Fin 64, formedB (UInt8.ofNat (65 + c.val) :: rowFigs r.val) = true := by decide +kernel
theorem parse_text {c r : Int} (h : rightB c r = true) : prC (placeText c r) = c ∧ prR (placeText c r) = r ∧ prE (placeText c r) = 0 := by
  obtain ⟨c0, c1, r0, r1⟩ := (rightB_iff c r).1 h
  have e : placeText c r = letter c :: Lib.itoa (r + 1) := if_pos h
  have e2 : r + 1 = ((r.toNat + 1 : Nat) : Int) := by omega
  rw [e, e2, Lib.itoa_nonneg, figs_is r.toNat (by omega)]
  have hf : formedB (letter c :: rowFigs r.toNat) = true := form_all ⟨c.toNat, by omega⟩ ⟨r.toNat, by omega⟩
  have hl := letter_toNat c c0 c1
  obtain ⟨p1, p2, p3⟩ := parse_yes hf (by omega) (by omega) (u := r.toNat + 1) (by omega) (by omega) (figs_is r.toNat (by omega))
  exact ⟨by rw [p1]; omega, by rw [p2]; omega, p3⟩


theorem run_app {f : UInt8 → Bool} {x z : List UInt8} (hx : ∀ c ∈ x, f c = true) (hz : ∀ c, z.head? = some c → f c = false) : runLen f (x ++ z) 0 = x.length := by
  unfold runLen
  rw [List.drop_zero]
  have hz' : z.takeWhile f = [] := by
    cases z with
    | nil => rfl
    | cons c t => rw [List.takeWhile_cons, hz c rfl]; rfl
  have : (x ++ z).takeWhile f = x := by
    induction x with
    | nil => simpa using hz'
    | cons c t ih =>
      rw [List.cons_append, List.takeWhile_cons, hx c (by simp)]
      simp only [if_true]
      rw [ih fun d hd => hx d (by simp [hd])]
  rw [this]
theorem sub_app (x z : List UInt8) : subL (x ++ z) 0 x.length = x := by
  unfold subL
  rw [List.drop_zero, List.take_left']
  rfl
theorem figs_of_dec {u : Nat} : ∀ {l : List UInt8} {acc : Nat}, decFrom acc l = some u → ∀ c ∈ l, isFig c = true
  | [], _, _, c, hc => by cases hc
  | b :: l, acc, h, c, hc => by
    simp only [decFrom] at h
    cases hd : digitVal b with
    | none => rw [hd] at h; cases h
    | some d =>
      rw [hd] at h
      rcases List.mem_cons.1 hc with rfl | hc
      · unfold digitVal at hd
        split at hd
        · rename_i hb; exact decide_eq_true hb
        · cases hd
      · exact figs_of_dec h c hc
theorem head_of {x z : List UInt8} (hx : x ≠ []) : (x ++ z).getD 0 0 = x.head hx := by
  cases x with
  | nil => exact absurd rfl hx
  | cons c t => rfl
theorem decs_ne (n : Nat) : decDigits n ≠ [] := by
  intro h
  have a := dec_digits n
  rw [h] at a
  have : n = 0 := by simpa [decFrom] using a.symm
  subst this
  rw [digits_zero] at h
  cases h
theorem lex_num {n : Nat} {z : List UInt8} (hn : n ≤ 9223372036854775807) (hz : ∀ c, z.head? = some c → isFig c = false) : oneT (decDigits n ++ z) 0 = some (⟨1, (n : Int), 0, 0, [], 0⟩, (decDigits n).length) := by
  have hf := figs_of_dec (dec_digits n)
  refine one_fig ?_ (run_app hf hz) ?_
  · rw [head_of (decs_ne n)]; exact hf _ (List.head_mem _)
  · rw [sub_app]
    unfold numV
    rw [dec_digits]
    simp only
    rw [if_pos hn]
theorem nam_all : ∀ c : Fin 16, ∀ r : Fin 64, (UInt8.ofNat (65 + c.val) :: rowFigs r.val).all isNam = true ∧ wordB (UInt8.ofNat (65 + c.val) :: rowFigs r.val) = false ∧ isFig (UInt8.ofNat (65 + c.val)) = false ∧ 65 ≤ (UInt8.ofNat (65 + c.val)).toNat ∧ (UInt8.ofNat (65 + c.val)).toNat ≤ 90 := by decide +kernel
theorem lex_place {c r : Int} {z : List UInt8} (h : rightB c r = true) (hz : ∀ c, z.head? = some c → isNam c = false) : oneT (placeText c r ++ z) 0 = some (⟨2, 0, c, r, [], 0⟩, (placeText c r).length) := by
  have hp := parse_text h
  obtain ⟨c0, c1, r0, r1⟩ := (rightB_iff c r).1 h
  obtain ⟨g1, g2, g3, g4, g5⟩ := nam_all ⟨c.toNat, by omega⟩ ⟨r.toNat, by omega⟩
  have e : placeText c r = letter c :: rowFigs r.toNat := by
    have e1 : placeText c r = letter c :: Lib.itoa (r + 1) := if_pos h
    have e2 : r + 1 = ((r.toNat + 1 : Nat) : Int) := by omega
    rw [e1, e2, Lib.itoa_nonneg, figs_is r.toNat (by omega)]
  rw [e] at hp ⊢
  refine one_place (x := letter c :: rowFigs r.toNat) ?_ ?_ (run_app (List.all_eq_true.1 g1) hz) (sub_app _ _) ?_ hp
  · show ¬ isFig (letter c) = true
    unfold letter; rw [g3]; decide
  · exact ⟨g4, g5⟩
  · show ¬ wordB (UInt8.ofNat (65 + c.toNat) :: rowFigs r.toNat) = true
    rw [g2]; decide
theorem lex_word {w z : List UInt8} (hw : wordB w = true) (hz : ∀ c, z.head? = some c → isNam c = false) : oneT (w ++ z) 0 = some (⟨4, 0, 0, 0, w, 0⟩, w.length) := by
  have hc : w = [73, 70] ∨ w = [83, 85, 77] ∨ w = [77, 73, 78] ∨ w = [77, 65, 88] ∨ w = [67, 79, 85, 78, 84] := by
    unfold wordB at hw
    simpa [or_assoc] using hw
  have hn : ∀ c ∈ w, isNam c = true := by rcases hc with rfl | rfl | rfl | rfl | rfl <;> decide
  refine one_word ?_ ?_ (run_app hn hz) (sub_app _ _) hw
  · rcases hc with rfl | rfl | rfl | rfl | rfl <;> simp [isFig]
  · rcases hc with rfl | rfl | rfl | rfl | rfl <;> simp
theorem lex_ref (z : List UInt8) : oneT ([35, 82, 69, 70] ++ z) 0 = some (⟨3, 0, 0, 0, [], 0⟩, 4) := one_ref (show ¬ isFig 35 = true by decide) (show ¬ (65 ≤ (35 : UInt8).toNat ∧ (35 : UInt8).toNat ≤ 90) by decide) rfl
end Go.Proofs.YteflmfifhmlpiaaDoor
namespace Go.Proofs.YteflmfifhmlpiaaDoor
open Go.Lib

def Foll (z : List UInt8) : Prop := ∀ c, z.head? = some c → isNam c = false
theorem Foll.fig {z : List UInt8} (h : Foll z) : ∀ c, z.head? = some c → isFig c = false := fun c hc => by
  have := h c hc
  unfold isNam at this
  unfold isFig
  simp only [decide_eq_false_iff_not] at this ⊢
  omega
theorem Foll.nil : Foll [] := fun c h => by cases h
theorem foll_of {c : UInt8} {z : List UInt8} (h : isNam c = false) : Foll (c :: z) := fun d hd => by cases hd; exact h
def Beg (s : List UInt8) : Prop := ∃ c r, s = c :: r ∧ c ≠ 61 ∧ c ≠ 62 ∧ c ≠ 32
theorem lvl_cases {w : List UInt8} (h : 1 ≤ lvl w) : w = [60] ∨ w = [60, 61] ∨ w = [61] ∨ w = [60, 62] ∨ w = [62, 61] ∨ w = [62] ∨ w = [43] ∨ w = [45] ∨ w = [42] ∨ w = [47] := by
  unfold lvl at h
  split at h
  · rename_i e; rcases e with e | e | e | e | e | e <;> simp [e]
  · split at h
    · rename_i e; rcases e with e | e <;> simp [e]
    · split at h
      · rename_i e; rcases e with e | e <;> simp [e]
      · omega
theorem lex_cons {x z : List UInt8} {o : Nat} {t : Tok} {zs : List Tok} (hx : ∃ c r, x = c :: r ∧ c ≠ 32) (ho : oneT (x ++ z) 0 = some (t, x.length)) (hl : Lex z (o + x.length) zs) : Lex (x ++ z) o ({ t with frm := o } :: zs) := by
  obtain ⟨c, r, rfl, hc⟩ := hx
  refine .tok (by simp) (by simpa using hc) ho ?_
  rw [List.drop_left']
  · exact hl
  · rfl
theorem lex_single {c : UInt8} {z : List UInt8} (h : c = 45 ∨ c = 40 ∨ c = 41 ∨ c = 44 ∨ c = 58) : oneT ([c] ++ z) 0 = some (mkT [c], 1) := by
  have hm : ∀ d, markC c d = 1 := fun d => by rcases h with rfl | rfl | rfl | rfl | rfl <;> simp [markC]
  have := one_mark (l := [c] ++ z) (p := 0) (m := 1) (x := [c]) (by rcases h with rfl | rfl | rfl | rfl | rfl <;> simp [isFig]) (by rcases h with rfl | rfl | rfl | rfl | rfl <;> simp) (by rcases h with rfl | rfl | rfl | rfl | rfl <;> simp [subL]) (hm _) (by decide) (by simp [subL])
  exact this
theorem lex_op {w z : List UInt8} (h : 1 ≤ lvl w) (hz : Beg z) : oneT (w ++ z) 0 = some (mkT w, w.length) := by
  obtain ⟨d, r, rfl, h1, h2, _⟩ := hz
  have key : ∀ (m : Int), m.toNat = w.length → ¬ m = 0 → markN (w ++ d :: r) 0 = m → oneT (w ++ d :: r) 0 = some (mkT w, w.length) := fun m hm h0 hn => by
    have hx : subL (w ++ d :: r) 0 m.toNat = w := by rw [hm]; exact sub_app _ _
    have := one_mark (l := w ++ d :: r) (p := 0) (m := m) (x := w) (by rcases lvl_cases h with e | e | e | e | e | e | e | e | e | e <;> subst e <;> simp [isFig]) (by rcases lvl_cases h with e | e | e | e | e | e | e | e | e | e <;> subst e <;> simp) (by rcases lvl_cases h with e | e | e | e | e | e | e | e | e | e <;> subst e <;> simp [subL]) hn h0 hx
    rw [hm] at this
    exact this
  rcases lvl_cases h with e | e | e | e | e | e | e | e | e | e <;> subst e
  · exact key 1 rfl (by decide) (by simp [markN, markC, h1, h2])
  · exact key 2 rfl (by decide) (by simp [markN, markC])
  · exact key 1 rfl (by decide) (by simp [markN, markC])
  · exact key 2 rfl (by decide) (by simp [markN, markC])
  · exact key 2 rfl (by decide) (by simp [markN, markC])
  · exact key 1 rfl (by decide) (by simp [markN, markC, h1])
  · exact key 1 rfl (by decide) (by simp [markN, markC])
  · exact key 1 rfl (by decide) (by simp [markN, markC])
  · exact key 1 rfl (by decide) (by simp [markN, markC])
  · exact key 1 rfl (by decide) (by simp [markN, markC])
theorem foll_op {w z : List UInt8} (h : 1 ≤ lvl w) : Foll (w ++ z) := by
  rcases lvl_cases h with e | e | e | e | e | e | e | e | e | e <;> subst e <;> exact foll_of (by decide)
theorem op_beg {w : List UInt8} (h : 1 ≤ lvl w) : ∃ c r, w = c :: r ∧ c ≠ 32 := by
  rcases lvl_cases h with e | e | e | e | e | e | e | e | e | e <;> subst e <;> exact ⟨_, _, rfl, by decide⟩
theorem Beg.app {s : List UInt8} (h : Beg s) (z : List UInt8) : Beg (s ++ z) := by
  obtain ⟨c, r, rfl, hc⟩ := h
  exact ⟨c, r ++ z, rfl, hc⟩
theorem Beg.ne {s : List UInt8} (h : Beg s) : ∃ c r, s = c :: r ∧ c ≠ 32 := by
  obtain ⟨c, r, rfl, h1, h2, h3⟩ := h
  exact ⟨c, r, rfl, h3⟩
theorem beg_num (n : Nat) : Beg (decDigits n) := by
  have hf := figs_of_dec (dec_digits n)
  cases e : decDigits n with
  | nil => exact absurd e (decs_ne n)
  | cons c r =>
    have := hf c (by rw [e]; simp)
    unfold isFig at this
    simp only [decide_eq_true_eq] at this
    exact ⟨c, r, rfl, by rintro rfl; revert this; decide, by rintro rfl; revert this; decide, by rintro rfl; revert this; decide⟩
theorem beg_place {c r : Int} (h : rightB c r = true) : Beg (placeText c r) := by
  obtain ⟨c0, c1, r0, r1⟩ := (rightB_iff c r).1 h
  have e : placeText c r = letter c :: Lib.itoa (r + 1) := if_pos h
  have hl := letter_toNat c c0 c1
  rw [e]
  exact ⟨_, _, rfl, by intro h; rw [h] at hl; revert hl; simp; omega, by intro h; rw [h] at hl; revert hl; simp; omega, by intro h; rw [h] at hl; revert hl; simp; omega⟩
theorem pr_beg {md : Mode} {t : Tr} {s : List UInt8} {ts : List Tok} (h : Pr md t s ts) : Beg s := by
  induction h with
  | num _ => exact beg_num _
  | read h => exact beg_place h
  | bad => exact ⟨_, _, rfl, by decide, by decide, by decide⟩
  | neg => exact ⟨_, _, rfl, by decide, by decide, by decide⟩
  | op _ _ _ ih _ => exact ih.app _
  | plain _ _ ih => exact ih
  | brk => exact ⟨_, _, rfl, by decide, by decide, by decide⟩
  | cif => exact ⟨_, _, rfl, by decide, by decide, by decide⟩
  | call hw => rcases hw with rfl | rfl | rfl | rfl <;> exact ⟨_, _, rfl, by decide, by decide, by decide⟩
  | itT _ ih => exact ih
  | itBad => exact ⟨_, _, rfl, by decide, by decide, by decide⟩
  | itSpan h => exact (beg_place h).app _
  | last _ ih => exact ih.app _
  | more _ _ ih _ => exact ih.app _
end Go.Proofs.YteflmfifhmlpiaaDoor
namespace Go.Proofs.YteflmfifhmlpiaaDoor
open Go.Lib

def LexP (s : List UInt8) (ts : List Tok) : Prop := ∀ (z : List UInt8) (o : Nat) (zs : List Tok), Foll z → Lex z (o + s.length) zs → ∃ us, Lex (s ++ z) o (us ++ zs) ∧ us.map bareT = ts
theorem LexP.one {x : List UInt8} {t : Tok} (hx : ∃ c r, x = c :: r ∧ c ≠ 32) (ho : ∀ z, Foll z → oneT (x ++ z) 0 = some (t, x.length)) (hb : bareT t = t) : LexP x [t] := fun z o zs hz hl =>
  ⟨[{ t with frm := o }], lex_cons hx (ho z hz) hl, by show [bareT t] = [t]; rw [hb]⟩
theorem LexP.app {x y : List UInt8} {ts us : List Tok} (hx : LexP x ts) (hy : LexP y us) (hf : ∀ z, Foll (y ++ z)) : LexP (x ++ y) (ts ++ us) := fun z o zs hz hl => by
  obtain ⟨b, hb, eb⟩ := hy z (o + x.length) zs hz (by rw [List.length_append, ← Nat.add_assoc] at hl; exact hl)
  obtain ⟨a, ha, ea⟩ := hx (y ++ z) o (b ++ zs) (hf z) hb
  refine ⟨a ++ b, ?_, by rw [List.map_append, ea, eb]⟩
  rw [List.append_assoc, List.append_assoc]
  exact ha
theorem LexP.head {x y : List UInt8} {t : Tok} {us : List Tok} (hx : ∃ c r, x = c :: r ∧ c ≠ 32) (ho : ∀ z, oneT (x ++ (y ++ z)) 0 = some (t, x.length)) (hb : bareT t = t) (hy : LexP y us) : LexP (x ++ y) (t :: us) := fun z o zs hz hl => by
  obtain ⟨b, hb', eb⟩ := hy z (o + x.length) zs hz (by rw [List.length_append, ← Nat.add_assoc] at hl; exact hl)
  refine ⟨{ t with frm := o } :: b, ?_, by rw [List.map_cons, eb]; show bareT t :: us = t :: us; rw [hb]⟩
  rw [List.append_assoc]
  exact lex_cons hx (ho z) hb'
theorem lexP_mark {c : UInt8} (h : c = 45 ∨ c = 40 ∨ c = 41 ∨ c = 44 ∨ c = 58) : LexP [c] [mkT [c]] :=
  .one ⟨c, [], rfl, by rcases h with rfl | rfl | rfl | rfl | rfl <;> decide⟩ (fun _ _ => lex_single h) rfl
theorem LexP.mark {c : UInt8} {y : List UInt8} {us : List Tok} (h : c = 45 ∨ c = 40 ∨ c = 41 ∨ c = 44 ∨ c = 58) (hy : LexP y us) : LexP (c :: y) (mkT [c] :: us) :=
  LexP.head (x := [c]) ⟨c, [], rfl, by rcases h with rfl | rfl | rfl | rfl | rfl <;> decide⟩ (fun _ => lex_single h) rfl hy
theorem lexP_place {c r : Int} (h : rightB c r = true) : LexP (placeText c r) [placeK c r] := .one (beg_place h).ne (fun _ hz => lex_place h hz) rfl
theorem foll_mark {c : UInt8} {y z : List UInt8} (h : c = 45 ∨ c = 40 ∨ c = 41 ∨ c = 44 ∨ c = 58) : Foll (c :: y ++ z) := foll_of (by rcases h with rfl | rfl | rfl | rfl | rfl <;> decide)
theorem lexP_word {w y : List UInt8} {us : List Tok} (hw : wordB w = true) (hy : LexP y us) : LexP (w ++ 40 :: y) (wordK w :: mkT [40] :: us) := by
  have hc : w = [73, 70] ∨ w = [83, 85, 77] ∨ w = [77, 73, 78] ∨ w = [77, 65, 88] ∨ w = [67, 79, 85, 78, 84] := by
    unfold wordB at hw
    simpa [or_assoc] using hw
  exact LexP.head (by rcases hc with rfl | rfl | rfl | rfl | rfl <;> exact ⟨_, _, rfl, by decide⟩) (fun z => lex_word hw (foll_mark (.inr (.inl rfl)))) rfl (hy.mark (.inr (.inl rfl)))
theorem pr_lex {md : Mode} {t : Tr} {s : List UInt8} {ts : List Tok} (h : Pr md t s ts) : LexP s ts := by
  induction h with
  | @num n hn => exact .one (beg_num n).ne (fun _ hz => lex_num hn hz.fig) rfl
  | read h => exact lexP_place h
  | bad => exact .one ⟨_, _, rfl, by decide⟩ (fun z _ => lex_ref z) rfl
  | neg _ ih => exact ih.mark (.inl rfl)
  | @op w sa sb a b ta tb hw _ hb iha ihb =>
    exact iha.app (LexP.head (op_beg hw) (fun z => lex_op hw ((pr_beg hb).app z)) rfl ihb) fun z => by rw [List.append_assoc]; exact foll_op hw
  | plain _ _ ih => exact ih
  | brk _ _ _ ih => exact (ih.app (lexP_mark (.inr (.inr (.inl rfl)))) fun z => foll_mark (.inr (.inr (.inl rfl)))).mark (.inr (.inl rfl))
  | cif _ _ _ iha ihb ihc =>
    have hC := ihc.app (lexP_mark (c := 41) (.inr (.inr (.inl rfl)))) fun z => foll_mark (.inr (.inr (.inl rfl)))
    have hB := ihb.app (hC.mark (c := 44) (.inr (.inr (.inr (.inl rfl))))) fun z => foll_mark (.inr (.inr (.inr (.inl rfl))))
    have hA := iha.app (hB.mark (c := 44) (.inr (.inr (.inr (.inl rfl))))) fun z => foll_mark (.inr (.inr (.inr (.inl rfl))))
    exact lexP_word (w := [73, 70]) (by decide) hA
  | @call w s ks ts hw _ ih => exact lexP_word (by rcases hw with rfl | rfl | rfl | rfl <;> decide) ih
  | itT _ ih => exact ih
  | itBad => exact .one ⟨_, _, rfl, by decide⟩ (fun z _ => lex_ref z) rfl
  | itSpan h1 h2 _ _ => exact (lexP_place h1).app ((lexP_place h2).mark (.inr (.inr (.inr (.inr rfl))))) fun z => foll_mark (.inr (.inr (.inr (.inr rfl))))
  | last _ ih => exact ih.app (lexP_mark (.inr (.inr (.inl rfl)))) fun z => foll_mark (.inr (.inr (.inl rfl)))
  | more _ _ ih ih' => exact ih.app (ih'.mark (.inr (.inr (.inr (.inl rfl))))) fun z => foll_mark (.inr (.inr (.inr (.inl rfl))))
theorem pr_back {t : Tr} {s : List UInt8} {ts : List Tok} (h : Pr .tree t s ts) (hl : s.length ≤ 200) : ansE s = 0 ∧ (ansL s).map bareT = ts ∧ ∀ E, treeT (ansL s) E = some (.ok t (ansL s).length) := by
  obtain ⟨us, h1, h2⟩ := pr_lex h [] 0 [] Foll.nil (.nil _)
  rw [List.append_nil, List.append_nil] at h1
  obtain ⟨h3, h4⟩ := lex_ans h1 hl
  refine ⟨h4, by rw [h3]; exact h2, fun E => ?_⟩
  rw [h3]
  exact tree_back E h h2
end Go.Proofs.YteflmfifhmlpiaaDoor
