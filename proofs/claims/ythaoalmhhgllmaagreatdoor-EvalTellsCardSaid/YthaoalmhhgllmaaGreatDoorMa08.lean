/- Texts joined: SyI, SyJ, SyK, SyL, SyO, TvB, TvC, SyP, SrA, SrB. -/
import Derived.Test.YthaoalmhhgllmaaGreatDoorMa07
import Derived.Deep.QuietTactic
import Derived.BigQuiet
import Derived.Deep.RegionHeld3
import Derived.Deep.RegionWith
import Derived.Shelf.Abstract
set_option linter.all false
set_option linter.unusedVariables false
set_option linter.unusedSimpArgs false
namespace Go.Proofs.YthaoalmhhgllmaaGreatDoor
open Go.Lib

def Foll (z : List UInt8) : Prop := ∀ c, z.head? = some c → isNam c = false
theorem Foll.fig {z : List UInt8} (h : Foll z) : ∀ c, z.head? = some c → isFig c = false := fun c hc => by
  have := h c hc
  unfold isNam at this
  unfold isFig
  simp only [decide_eq_false_iff_not] at this ⊢
  omega
theorem Foll.nil : Foll [] := fun c h => by cases h
theorem foll_of {c : UInt8} {z : List UInt8} (h : isNam c = false) : Foll (c :: z) := fun d hd => by cases hd; exact h
def Beg (s : List UInt8) : Prop := ∃ c r, s = c :: r ∧ c ≠ 61 ∧ c ≠ 62 ∧ c ≠ 32
theorem lvl_cases {w : List UInt8} (h : 1 ≤ lvl w) : w = [60] ∨ w = [60, 61] ∨ w = [61] ∨ w = [60, 62] ∨ w = [62, 61] ∨ w = [62] ∨ w = [43] ∨ w = [45] ∨ w = [42] ∨ w = [47] := by
  unfold lvl at h
  split at h
  · rename_i e; rcases e with e | e | e | e | e | e <;> simp [e]
  · split at h
    · rename_i e; rcases e with e | e <;> simp [e]
    · split at h
      · rename_i e; rcases e with e | e <;> simp [e]
      · omega
theorem lex_cons {x z : List UInt8} {o : Nat} {t : Tok} {zs : List Tok} (hx : ∃ c r, x = c :: r ∧ c ≠ 32) (ho : oneT (x ++ z) 0 = some (t, x.length)) (hl : Lex z (o + x.length) zs) : Lex (x ++ z) o ({ t with frm := o } :: zs) := by
  obtain ⟨c, r, rfl, hc⟩ := hx
  refine .tok (by simp) (by simpa using hc) ho ?_
  rw [List.drop_left']
  · exact hl
  · rfl
theorem lex_single {c : UInt8} {z : List UInt8} (h : c = 45 ∨ c = 40 ∨ c = 41 ∨ c = 44 ∨ c = 58) : oneT ([c] ++ z) 0 = some (mkT [c], 1) := by
  have hm : ∀ d, markC c d = 1 := fun d => by rcases h with rfl | rfl | rfl | rfl | rfl <;> simp [markC]
  have := one_mark (l := [c] ++ z) (p := 0) (m := 1) (x := [c]) (by rcases h with rfl | rfl | rfl | rfl | rfl <;> simp [isFig]) (by rcases h with rfl | rfl | rfl | rfl | rfl <;> simp) (by rcases h with rfl | rfl | rfl | rfl | rfl <;> simp [subL]) (hm _) (by decide) (by simp [subL])
  exact this
theorem lex_op {w z : List UInt8} (h : 1 ≤ lvl w) (hz : Beg z) : oneT (w ++ z) 0 = some (mkT w, w.length) := by
  obtain ⟨d, r, rfl, h1, h2, _⟩ := hz
  have key : ∀ (m : Int), m.toNat = w.length → ¬ m = 0 → markN (w ++ d :: r) 0 = m → oneT (w ++ d :: r) 0 = some (mkT w, w.length) := fun m hm h0 hn => by
    have hx : subL (w ++ d :: r) 0 m.toNat = w := by rw [hm]; exact sub_app _ _
    have := one_mark (l := w ++ d :: r) (p := 0) (m := m) (x := w) (by rcases lvl_cases h with e | e | e | e | e | e | e | e | e | e <;> subst e <;> simp [isFig]) (by rcases lvl_cases h with e | e | e | e | e | e | e | e | e | e <;> subst e <;> simp) (by rcases lvl_cases h with e | e | e | e | e | e | e | e | e | e <;> subst e <;> simp [subL]) hn h0 hx
    rw [hm] at this
    exact this
  rcases lvl_cases h with e | e | e | e | e | e | e | e | e | e <;> subst e
  · exact key 1 rfl (by decide) (by simp [markN, markC, h1, h2])
  · exact key 2 rfl (by decide) (by simp [markN, markC])
  · exact key 1 rfl (by decide) (by simp [markN, markC])
  · exact key 2 rfl (by decide) (by simp [markN, markC])
  · exact key 2 rfl (by decide) (by simp [markN, markC])
  · exact key 1 rfl (by decide) (by simp [markN, markC, h1])
  · exact key 1 rfl (by decide) (by simp [markN, markC])
  · exact key 1 rfl (by decide) (by simp [markN, markC])
  · exact key 1 rfl (by decide) (by simp [markN, markC])
  · exact key 1 rfl (by decide) (by simp [markN, markC])
theorem foll_op {w z : List UInt8} (h : 1 ≤ lvl w) : Foll (w ++ z) := by
  rcases lvl_cases h with e | e | e | e | e | e | e | e | e | e <;> subst e <;> exact foll_of (by decide)
theorem op_beg {w : List UInt8} (h : 1 ≤ lvl w) : ∃ c r, w = c :: r ∧ c ≠ 32 := by
  rcases lvl_cases h with e | e | e | e | e | e | e | e | e | e <;> subst e <;> exact ⟨_, _, rfl, by decide⟩
theorem Beg.app {s : List UInt8} (h : Beg s) (z : List UInt8) : Beg (s ++ z) := by
  obtain ⟨c, r, rfl, hc⟩ := h
  exact ⟨c, r ++ z, rfl, hc⟩
theorem Beg.ne {s : List UInt8} (h : Beg s) : ∃ c r, s = c :: r ∧ c ≠ 32 := by
  obtain ⟨c, r, rfl, h1, h2, h3⟩ := h
  exact ⟨c, r, rfl, h3⟩
theorem beg_num (n : Nat) : Beg (decDigits n) := by
  have hf := figs_of_dec (dec_digits n)
  cases e : decDigits n with
  | nil => exact absurd e (decs_ne n)
  | cons c r =>
    have := hf c (by rw [e]; simp)
    unfold isFig at this
    simp only [decide_eq_true_eq] at this
    exact ⟨c, r, rfl, by rintro rfl; revert this; decide, by rintro rfl; revert this; decide, by rintro rfl; revert this; decide⟩
theorem beg_place {c r : Int} (h : rightB c r = true) : Beg (placeText c r) := by
  obtain ⟨c0, c1, r0, r1⟩ := (rightB_iff c r).1 h
  have e : placeText c r = letter c :: Lib.itoa (r + 1) := if_pos h
  have hl := letter_toNat c c0 c1
  rw [e]
  exact ⟨_, _, rfl, by intro h; rw [h] at hl; revert hl; simp; omega, by intro h; rw [h] at hl; revert hl; simp; omega, by intro h; rw [h] at hl; revert hl; simp; omega⟩
theorem pr_beg {md : Mode} {t : Tr} {s : List UInt8} {ts : List Tok} (h : Pr md t s ts) : Beg s := by
  induction h with
  | num _ => exact beg_num _
  | read h => exact beg_place h
  | bad => exact ⟨_, _, rfl, by decide, by decide, by decide⟩
  | neg => exact ⟨_, _, rfl, by decide, by decide, by decide⟩
  | op _ _ _ ih _ => exact ih.app _
  | plain _ _ ih => exact ih
  | brk => exact ⟨_, _, rfl, by decide, by decide, by decide⟩
  | cif => exact ⟨_, _, rfl, by decide, by decide, by decide⟩
  | call hw => rcases hw with rfl | rfl | rfl | rfl <;> exact ⟨_, _, rfl, by decide, by decide, by decide⟩
  | itT _ ih => exact ih
  | itBad => exact ⟨_, _, rfl, by decide, by decide, by decide⟩
  | itSpan h => exact (beg_place h).app _
  | last _ ih => exact ih.app _
  | more _ _ ih _ => exact ih.app _
end Go.Proofs.YthaoalmhhgllmaaGreatDoor
namespace Go.Proofs.YthaoalmhhgllmaaGreatDoor
open Go.Lib

def LexP (s : List UInt8) (ts : List Tok) : Prop := ∀ (z : List UInt8) (o : Nat) (zs : List Tok), Foll z → Lex z (o + s.length) zs → ∃ us, Lex (s ++ z) o (us ++ zs) ∧ us.map bareT = ts
theorem LexP.one {x : List UInt8} {t : Tok} (hx : ∃ c r, x = c :: r ∧ c ≠ 32) (ho : ∀ z, Foll z → oneT (x ++ z) 0 = some (t, x.length)) (hb : bareT t = t) : LexP x [t] := fun z o zs hz hl =>
  ⟨[{ t with frm := o }], lex_cons hx (ho z hz) hl, by show [bareT t] = [t]; rw [hb]⟩
theorem LexP.app {x y : List UInt8} {ts us : List Tok} (hx : LexP x ts) (hy : LexP y us) (hf : ∀ z, Foll (y ++ z)) : LexP (x ++ y) (ts ++ us) := fun z o zs hz hl => by
  obtain ⟨b, hb, eb⟩ := hy z (o + x.length) zs hz (by rw [List.length_append, ← Nat.add_assoc] at hl; exact hl)
  obtain ⟨a, ha, ea⟩ := hx (y ++ z) o (b ++ zs) (hf z) hb
  refine ⟨a ++ b, ?_, by rw [List.map_append, ea, eb]⟩
  rw [List.append_assoc, List.append_assoc]
  exact ha
theorem LexP.head {x y : List UInt8} {t : Tok} {us : List Tok} (hx : ∃ c r, x = c :: r ∧ c ≠ 32) (ho : ∀ z, oneT (x ++ (y ++ z)) 0 = some (t, x.length)) (hb : bareT t = t) (hy : LexP y us) : LexP (x ++ y) (t :: us) := fun z o zs hz hl => by
  obtain ⟨b, hb', eb⟩ := hy z (o + x.length) zs hz (by rw [List.length_append, ← Nat.add_assoc] at hl; exact hl)
  refine ⟨{ t with frm := o } :: b, ?_, by rw [List.map_cons, eb]; show bareT t :: us = t :: us; rw [hb]⟩
  rw [List.append_assoc]
  exact lex_cons hx (ho z) hb'
theorem lexP_mark {c : UInt8} (h : c = 45 ∨ c = 40 ∨ c = 41 ∨ c = 44 ∨ c = 58) : LexP [c] [mkT [c]] :=
  .one ⟨c, [], rfl, by rcases h with rfl | rfl | rfl | rfl | rfl <;> decide⟩ (fun _ _ => lex_single h) rfl
theorem LexP.mark {c : UInt8} {y : List UInt8} {us : List Tok} (h : c = 45 ∨ c = 40 ∨ c = 41 ∨ c = 44 ∨ c = 58) (hy : LexP y us) : LexP (c :: y) (mkT [c] :: us) :=
  LexP.head (x := [c]) ⟨c, [], rfl, by rcases h with rfl | rfl | rfl | rfl | rfl <;> decide⟩ (fun _ => lex_single h) rfl hy
theorem lexP_place {c r : Int} (h : rightB c r = true) : LexP (placeText c r) [placeK c r] := .one (beg_place h).ne (fun _ hz => lex_place h hz) rfl
theorem foll_mark {c : UInt8} {y z : List UInt8} (h : c = 45 ∨ c = 40 ∨ c = 41 ∨ c = 44 ∨ c = 58) : Foll (c :: y ++ z) := foll_of (by rcases h with rfl | rfl | rfl | rfl | rfl <;> decide)
theorem lexP_word {w y : List UInt8} {us : List Tok} (hw : wordB w = true) (hy : LexP y us) : LexP (w ++ 40 :: y) (wordK w :: mkT [40] :: us) := by
  have hc : w = [73, 70] ∨ w = [83, 85, 77] ∨ w = [77, 73, 78] ∨ w = [77, 65, 88] ∨ w = [67, 79, 85, 78, 84] := by
    unfold wordB at hw
    simpa [or_assoc] using hw
  exact LexP.head (by rcases hc with rfl | rfl | rfl | rfl | rfl <;> exact ⟨_, _, rfl, by decide⟩) (fun z => lex_word hw (foll_mark (.inr (.inl rfl)))) rfl (hy.mark (.inr (.inl rfl)))
theorem pr_lex {md : Mode} {t : Tr} {s : List UInt8} {ts : List Tok} (h : Pr md t s ts) : LexP s ts := by
  induction h with
  | @num n hn => exact .one (beg_num n).ne (fun _ hz => lex_num hn hz.fig) rfl
  | read h => exact lexP_place h
  | bad => exact .one ⟨_, _, rfl, by decide⟩ (fun z _ => lex_ref z) rfl
  | neg _ ih => exact ih.mark (.inl rfl)
  | @op w sa sb a b ta tb hw _ hb iha ihb =>
    exact iha.app (LexP.head (op_beg hw) (fun z => lex_op hw ((pr_beg hb).app z)) rfl ihb) fun z => by rw [List.append_assoc]; exact foll_op hw
  | plain _ _ ih => exact ih
  | brk _ _ _ ih => exact (ih.app (lexP_mark (.inr (.inr (.inl rfl)))) fun z => foll_mark (.inr (.inr (.inl rfl)))).mark (.inr (.inl rfl))
  | cif _ _ _ iha ihb ihc =>
    have hC := ihc.app (lexP_mark (c := 41) (.inr (.inr (.inl rfl)))) fun z => foll_mark (.inr (.inr (.inl rfl)))
    have hB := ihb.app (hC.mark (c := 44) (.inr (.inr (.inr (.inl rfl))))) fun z => foll_mark (.inr (.inr (.inr (.inl rfl))))
    have hA := iha.app (hB.mark (c := 44) (.inr (.inr (.inr (.inl rfl))))) fun z => foll_mark (.inr (.inr (.inr (.inl rfl))))
    exact lexP_word (w := [73, 70]) (by decide) hA
  | @call w s ks ts hw _ ih => exact lexP_word (by rcases hw with rfl | rfl | rfl | rfl <;> decide) ih
  | itT _ ih => exact ih
  | itBad => exact .one ⟨_, _, rfl, by decide⟩ (fun z _ => lex_ref z) rfl
  | itSpan h1 h2 _ _ => exact (lexP_place h1).app ((lexP_place h2).mark (.inr (.inr (.inr (.inr rfl))))) fun z => foll_mark (.inr (.inr (.inr (.inr rfl))))
  | last _ ih => exact ih.app (lexP_mark (.inr (.inr (.inl rfl)))) fun z => foll_mark (.inr (.inr (.inl rfl)))
  | more _ _ ih ih' => exact ih.app (ih'.mark (.inr (.inr (.inr (.inl rfl))))) fun z => foll_mark (.inr (.inr (.inr (.inl rfl))))
theorem pr_back {t : Tr} {s : List UInt8} {ts : List Tok} (h : Pr .tree t s ts) (hl : s.length ≤ 200) : ansE s = 0 ∧ (ansL s).map bareT = ts ∧ ∀ E, treeT (ansL s) E = some (.ok t (ansL s).length) := by
  obtain ⟨us, h1, h2⟩ := pr_lex h [] 0 [] Foll.nil (.nil _)
  rw [List.append_nil, List.append_nil] at h1
  obtain ⟨h3, h4⟩ := lex_ans h1 hl
  refine ⟨h4, by rw [h3]; exact h2, fun E => ?_⟩
  rw [h3]
  exact tree_back E h h2
end Go.Proofs.YthaoalmhhgllmaaGreatDoor
namespace Go.Proofs.YthaoalmhhgllmaaGreatDoor
open Go.Lib

def Ex (md : Mode) (t : Tr) : Prop := ∃ s ts, Pr md t s ts
theorem Ex.wi {t : Tr} (h : Ex .tree t) (m : Nat) : Ex (.wi m) t := by
  obtain ⟨s, ts, h⟩ := h
  by_cases hk : t.kind = 4
  · by_cases hl : lvl t.word < m
    · exact ⟨_, _, .brk h hk hl⟩
    · exact ⟨_, _, .plain h fun _ => by omega⟩
  · exact ⟨_, _, .plain h fun e => absurd e hk⟩
theorem Ex.op {w : List UInt8} {a b : Tr} (hw : 1 ≤ lvl w) (ha : Ex .tree a) (hb : Ex .tree b) : Ex .tree (opT w a b) := by
  obtain ⟨_, _, h1⟩ := ha.wi (lvl w)
  obtain ⟨_, _, h2⟩ := hb.wi (lvl w + 1)
  exact ⟨_, _, .op hw h1 h2⟩
theorem Ex.neg {a : Tr} (ha : Ex .tree a) : Ex .tree (negT a) := by
  obtain ⟨_, _, h1⟩ := ha.wi 4
  exact ⟨_, _, .neg h1⟩
theorem ex_its {k : Bool} : ∀ (ks : List Tr), ks ≠ [] → (∀ t ∈ ks, Ex (.item k) t) → Ex (.its k) (callT [] ks)
  | [], h, _ => absurd rfl h
  | [t], _, h => by
    obtain ⟨_, _, h1⟩ := h t (by simp)
    exact ⟨_, _, .last h1⟩
  | t :: u :: ks, _, h => by
    obtain ⟨_, _, h1⟩ := h t (by simp)
    obtain ⟨_, _, h2⟩ := ex_its (u :: ks) (by simp) fun x hx => h x (by simp only [List.mem_cons] at hx ⊢; exact .inr hx)
    exact ⟨_, _, .more h1 h2⟩
structure GoodT (t : Tok) : Prop where
  num : t.kind = 1 → ∃ n : Nat, t.num = (n : Int) ∧ n ≤ 9223372036854775807
  place : t.kind = 2 → rightB t.col t.row = true
  word : t.kind = 4 → wordB t.text = true
  kind : 1 ≤ t.kind ∧ t.kind ≤ 5
def GoodL (L : List Tok) : Prop := ∀ (p : Nat) (t : Tok), L[p]? = some t → GoodT t
def Gives (md : Mode) (o : Option Res) : Prop := ∀ t q, o = some (.ok t q) → Ex md t
theorem Gives.ok {md : Mode} {t : Tr} {q : Nat} (h : Ex md t) : Gives md (some (.ok t q)) := fun _ _ e => by cases e; exact h
theorem Gives.bad {md : Mode} {w : Nat} : Gives md (some (.bad w)) := fun _ _ e => by cases e
theorem Gives.next {md md' : Mode} {a : Option Res} {f : Tr → Nat → Option Res} (h : Gives md a) (hf : ∀ t q, Ex md t → Gives md' (f t q)) : Gives md' (Res.next a f) := fun t q e => by
  cases a with
  | none => cases e
  | some r =>
    cases r with
    | ok u p => exact hf u p (h u p rfl) t q e
    | bad w => cases e
theorem Gives.must {md : Mode} {L : List Tok} {E p : Nat} {s : List UInt8} {f : Nat → Option Res} (hf : ∀ q, Gives md (f q)) : Gives md (mustF L E p s f) := by
  unfold mustF
  split
  · exact hf _
  · exact .bad
theorem word_cases {w : List UInt8} (h : wordB w = true) : w = [73, 70] ∨ w = [83, 85, 77] ∨ w = [77, 73, 78] ∨ w = [77, 65, 88] ∨ w = [67, 79, 85, 78, 84] := by
  unfold wordB at h
  simpa [or_assoc] using h
structure GivesAll (L : List Tok) (E k : Nat) : Prop where
  line : ∀ lev p, 1 ≤ lev → Gives .tree (lineF L E k lev p)
  rest : ∀ lev out p, 1 ≤ lev → Ex .tree out → Gives .tree (restF L E k lev out p)
  pref : ∀ p, Gives .tree (prefF L E k p)
  oper : ∀ p, Gives .tree (operF L E k p)
  items : ∀ w acc p, wordB w = true → w ≠ [73, 70] → (∀ t ∈ acc, Ex (.item (w == [67, 79, 85, 78, 84])) t) → Gives .tree (itemsF L E k w acc p)
  item : ∀ c p, Gives (.item c) (itemF L E k c p)
theorem gives_all {L : List Tok} (hL : GoodL L) (E : Nat) : ∀ k, GivesAll L E k
  | 0 => by
    constructor <;> intros <;> first | (rw [lineF]; intro _ _ h; cases h) | (rw [restF]; intro _ _ h; cases h) | (rw [prefF]; intro _ _ h; cases h) | (rw [operF]; intro _ _ h; cases h) | (rw [itemsF]; intro _ _ h; cases h) | (rw [itemF]; intro _ _ h; cases h)
  | k + 1 => by
    have I := gives_all hL E k
    constructor
    · intro lev p h1
      simp only [lineF]
      split
      · exact I.pref p
      · exact (I.line _ _ (by omega)).next fun t q ht => I.rest lev t q h1 ht
    · intro lev out p h1 ho
      simp only [restF]
      split
      · rename_i hl
        refine (I.line _ _ (by omega)).next fun t q ht => I.rest lev _ q h1 (Ex.op ?_ ho ht)
        have hlt := level_lt hl h1
        unfold levelAt at hl
        rw [List.getElem?_eq_getElem hlt] at hl
        simp only at hl
        split at hl
        · simp only [List.getD_eq_getElem?_getD, List.getElem?_map, List.getElem?_eq_getElem hlt, Option.map_some, Option.getD_some]
          omega
        · omega
      · exact .ok ho
    · intro p
      simp only [prefF]
      split
      · exact (I.pref _).next fun t q ht => .ok ht.neg
      · exact I.oper p
    · intro p
      simp only [operF]
      split
      · exact (I.line _ _ (by omega)).next fun t q ht => .must fun _ => .ok ht
      · split
        · exact .bad
        · rename_i t ht
          have G := hL p t ht
          split
          · exact .bad
          · split
            · rename_i h1
              obtain ⟨n, hn, hle⟩ := G.num h1
              rw [hn]
              exact .ok ⟨_, _, .num hle⟩
            · split
              · rename_i h2
                exact .ok ⟨_, _, .read (G.place h2)⟩
              · split
                · exact .ok ⟨_, _, .bad⟩
                · have h4 : t.kind = 4 := by have := G.kind; omega
                  have hw := G.word h4
                  refine .must fun q => ?_
                  split
                  · refine (I.line _ _ (by omega)).next fun a q ha => .must fun q => (I.line _ _ (by omega)).next fun b q hb => .must fun q => (I.line _ _ (by omega)).next fun c q hc => .must fun q => .ok ?_
                    obtain ⟨_, _, ha⟩ := ha
                    obtain ⟨_, _, hb⟩ := hb
                    obtain ⟨_, _, hc⟩ := hc
                    exact ⟨_, _, .cif ha hb hc⟩
                  · rename_i hn
                    exact I.items t.text [] q hw hn fun x hx => by cases hx
    · intro w acc p hw hn ha
      simp only [itemsF]
      refine (I.item _ _).next fun t q ht => ?_
      have hall : ∀ x ∈ acc ++ [t], Ex (.item (w == [67, 79, 85, 78, 84])) x := fun x hx => by
        rcases List.mem_append.1 hx with h | h
        · exact ha x h
        · rw [List.mem_singleton.1 h]; exact ht
      split
      · exact I.items w _ _ hw hn hall
      · refine .must fun _ => .ok ?_
        obtain ⟨_, _, h⟩ := ex_its (acc ++ [t]) (by simp) hall
        exact ⟨_, _, .call ((word_cases hw).resolve_left hn) h⟩
    · intro c p
      simp only [itemF]
      split
      · rename_i h
        obtain ⟨rfl, _⟩ := h
        intro t q e
        obtain ⟨_, _, h⟩ := I.line 1 p (by omega) t q e
        exact ⟨_, _, .itT h⟩
      · rename_i hc
        have hB : Ex (.item c) badT := by
          cases c
          · exact ⟨_, _, .itT .bad⟩
          · exact ⟨_, _, .itBad⟩
        split
        · exact .bad
        · rename_i a ha
          split
          · exact .bad
          · rename_i he
            split
            · exact .ok hB
            · refine .must fun q => ?_
              split
              · exact .bad
              · rename_i b hb
                split
                · exact .bad
                · rename_i he2
                  split
                  · exact .ok hB
                  · rename_i h3
                    unfold isEnd at he he2
                    rw [ha] at he
                    rw [hb] at he2
                    simp at he he2
                    have h1 := (hL _ _ ha).place (by omega)
                    have h2 := (hL _ _ hb).place (by omega)
                    obtain ⟨a0, a1, a2, a3⟩ := (rightB_iff _ _).1 h1
                    obtain ⟨b0, b1, b2, b3⟩ := (rightB_iff _ _).1 h2
                    exact .ok ⟨_, _, .itSpan ((rightB_iff _ _).2 (by omega)) ((rightB_iff _ _).2 (by omega)) (by omega) (by omega)⟩
theorem tree_may {L : List Tok} {E : Nat} (hL : GoodL L) {t : Tr} {q : Nat} (h : treeT L E = some (.ok t q)) : Ex .tree t := (gives_all hL E _).line 1 0 (by omega) t q h
end Go.Proofs.YthaoalmhhgllmaaGreatDoor
namespace Go.Proofs.YthaoalmhhgllmaaGreatDoor
open Go.Lib

theorem find_low {n : Nat} {f : Nat → Bool} {i : Nat} (h : (List.range n).find? f = some i) : i < n := List.mem_range.1 (List.mem_of_find?_eq_some h)
theorem find_lt {l : List UInt8} {i : Nat} (h : findP l = some i) : i < 1024 := find_low (f := fun i => textAt i == l) h
theorem parse_right {l : List UInt8} (h : prE l = 0) : rightB (prC l) (prR l) = true := by
  unfold prE at h
  unfold prC prR
  split at h
  · rename_i hf
    rw [if_pos hf, if_pos hf]
    cases e : findP l with
    | none => rw [e] at h; exact absurd h (by decide)
    | some i =>
      have hi : i < 1024 := find_lt e
      show rightB (atC (i : Int)) (atR (i : Int)) = true
      rw [atC_of i hi, atR_of i hi]
      exact (rightB_iff _ _).2 (by omega)
  · exact absurd h (by decide)
theorem good_one {l : List UInt8} {p n : Nat} {t : Tok} (h : oneT l p = some (t, n)) : GoodT t := by
  unfold oneT at h
  split at h
  · split at h
    · rename_i u hu
      have h := (Prod.mk.inj (Option.some.inj h)).1; subst h
      refine ⟨fun _ => ⟨u, rfl, ?_⟩, fun e => by simp at e, fun e => by simp at e, by simp⟩
      unfold numV at hu
      split at hu
      · split at hu
        · rename_i hle; cases hu; exact hle
        · cases hu
      · cases hu
    · cases h
  · split at h
    · split at h
      · rename_i hw
        have h := (Prod.mk.inj (Option.some.inj h)).1; subst h
        exact ⟨fun e => by simp at e, fun e => by simp at e, fun _ => hw, by simp⟩
      · split at h
        · rename_i hp
          have hr := parse_right hp
          have h := (Prod.mk.inj (Option.some.inj h)).1; subst h
          exact ⟨fun e => by simp at e, fun _ => by simp only; exact hr, fun e => by simp at e, by simp⟩
        · split at h
          · have h := (Prod.mk.inj (Option.some.inj h)).1; subst h
            exact ⟨fun e => by simp at e, fun e => by simp at e, fun e => by simp at e, by simp⟩
          · cases h
    · split at h
      · have h := (Prod.mk.inj (Option.some.inj h)).1; subst h
        exact ⟨fun e => by simp at e, fun e => by simp at e, fun e => by simp at e, by simp⟩
      · split at h
        · cases h
        · have h := (Prod.mk.inj (Option.some.inj h)).1; subst h
          exact ⟨fun e => by simp at e, fun e => by simp at e, fun e => by simp at e, by simp⟩
theorem good_lex {r : List UInt8} {o : Nat} {ts : List Tok} (h : Lex r o ts) : ∀ t ∈ ts, GoodT t := by
  induction h with
  | nil => intro t ht; cases ht
  | blank _ ih => exact ih
  | tok _ _ ho _ ih =>
    intro t ht
    rcases List.mem_cons.1 ht with rfl | ht
    · have G := good_one ho
      exact ⟨G.num, G.place, G.word, G.kind⟩
    · exact ih t ht
theorem good_ans {l : List UInt8} (h : ansE l = 0) (hl : l.length ≤ 200) : GoodL (ansL l) := fun _ t ht => good_lex (ans_ok h hl) t (List.mem_of_getElem? ht)
theorem parsed_back {l : List UInt8} (h : ansE l = 0) (hl : l.length ≤ 200) {t : Tr} {q E : Nat} (ht : treeT (ansL l) E = some (.ok t q)) :
    ∃ s ts, Pr .tree t s ts ∧ (s.length ≤ 200 → ansE s = 0 ∧ ∀ E, treeT (ansL s) E = some (.ok t (ansL s).length)) := by
  obtain ⟨s, ts, hp⟩ := tree_may (good_ans h hl) ht
  exact ⟨s, ts, hp, fun hs => by obtain ⟨a, _, b⟩ := pr_back hp hs; exact ⟨a, b⟩⟩
end Go.Proofs.YthaoalmhhgllmaaGreatDoor
namespace Go.Proofs.YthaoalmhhgllmaaGreatDoor

mutual
def deepT : Tr → Nat
  | .mk _ _ _ _ _ _ _ ks => deepL ks + 1
def deepL : List Tr → Nat
  | [] => 0
  | t :: ts => max (deepT t) (deepL ts)
end
def txW (m : Nat) (t : Tr) (s : List UInt8) : List UInt8 := if t.kind = 4 ∧ lvl t.word < m then 40 :: (s ++ [41]) else s
def txJ : List (List UInt8) → List UInt8
  | [] => [41]
  | [s] => s ++ [41]
  | s :: t :: r => s ++ 44 :: txJ (t :: r)
mutual
def txT : Tr → List UInt8
  | .mk k n c r d s w ks =>
    if k = 0 then Lib.decDigits n.toNat else if k = 1 then placeText c r else if k = 6 then placeText c r ++ 58 :: placeText d s
    else if k = 3 then 45 :: txW 4 (ks.getD 0 badT) ((txL ks).getD 0 [])
    else if k = 4 then txW (lvl w) (ks.getD 0 badT) ((txL ks).getD 0 []) ++ (w ++ txW (lvl w + 1) (ks.getD 1 badT) ((txL ks).getD 1 []))
    else if k = 5 then w ++ 40 :: txJ (txL ks) else [35, 82, 69, 70]
def txL : List Tr → List (List UInt8)
  | [] => []
  | t :: ts => txT t :: txL ts
end
theorem txL_nil : txL [] = [] := by rw [txL]
theorem txL_cons (t : Tr) (ts : List Tr) : txL (t :: ts) = txT t :: txL ts := by rw [txL]
def MoT (t : Tr) (s : List UInt8) : Mode → Prop
  | .tree => s = txT t
  | .wi m => s = txW m t (txT t)
  | .item _ => s = txT t
  | .its _ => t.kids ≠ [] ∧ s = txJ (txL t.kids)
theorem pr_tx {md : Mode} {t : Tr} {s : List UInt8} {ts : List Tok} (h : Pr md t s ts) : MoT t s md := by
  induction h with
  | @num n _ => show _ = txT (numT n); unfold numT; rw [txT]; simp
  | @read c r _ => show _ = txT (readT c r); unfold readT; rw [txT]; simp
  | bad => show _ = txT badT; unfold badT; rw [txT]; simp
  | @neg a s ts _ ih =>
    have ih : s = txW 4 a (txT a) := ih
    show _ = txT (negT a); unfold negT; rw [txT]; simp [txL_cons, txL_nil, ih]
  | @op w sa sb a b ta tb _ _ _ iha ihb =>
    have iha : sa = txW (lvl w) a (txT a) := iha
    have ihb : sb = txW (lvl w + 1) b (txT b) := ihb
    show _ = txT (opT w a b); unfold opT; rw [txT]; simp [txL_cons, txL_nil, iha, ihb]
  | @plain m t s ts _ hle ih =>
    have ih : s = txT t := ih
    show _ = txW m t (txT t)
    unfold txW
    rw [if_neg (fun ⟨a, b⟩ => by have := hle a; omega), ih]
  | @brk m t s ts _ hk hlt ih =>
    have ih : s = txT t := ih
    show _ = txW m t (txT t)
    unfold txW
    rw [if_pos ⟨hk, hlt⟩, ih]
  | @cif a b c sa sb sc ta tb tc _ _ _ iha ihb ihc =>
    have iha : sa = txT a := iha
    have ihb : sb = txT b := ihb
    have ihc : sc = txT c := ihc
    show _ = txT (callT [73, 70] [a, b, c]); unfold callT; rw [txT]; simp [txL_cons, txL_nil, txJ, iha, ihb, ihc]
  | @call w s ks ts _ _ ih =>
    obtain ⟨_, ih⟩ := ih
    have ih : s = txJ (txL ks) := ih
    show _ = txT (callT w ks); unfold callT; rw [txT]; simp [ih]
  | itT _ ih => exact ih
  | itBad => show _ = txT badT; unfold badT; rw [txT]; simp
  | @itSpan k c r d s _ _ _ _ => show _ = txT (spanT c r d s); unfold spanT; rw [txT]; simp
  | @last k t s ts _ ih =>
    have ih : s = txT t := ih
    refine ⟨by simp [callT, Tr.kids], ?_⟩
    show _ = txJ (txL [t])
    rw [txL_cons, txL_nil, ih]
    rfl
  | @more k t ks s s' ts ts' _ _ ih ih' =>
    have ih : s = txT t := ih
    obtain ⟨hne, ih'⟩ := ih'
    have hne : ks ≠ [] := hne
    have ih' : s' = txJ (txL ks) := ih'
    refine ⟨by simp [callT, Tr.kids], ?_⟩
    show _ = txJ (txL (t :: ks))
    cases ks with
    | nil => exact absurd rfl hne
    | cons u r =>
      rw [txL_cons, txL_cons, ih, ih', txL_cons]
      rfl
end Go.Proofs.YthaoalmhhgllmaaGreatDoor
namespace Go.Proofs.YthaoalmhhgllmaaGreatDoor
open Go.RowKit

theorem deep_kid : ∀ {ks : List Tr} {i : Nat} {u : Tr}, ks[i]? = some u → deepT u ≤ deepL ks
  | [], i, u, h => by simp at h
  | t :: ts, i, u, h => by
    rw [deepL]
    match i, h with
    | 0, h => simp at h; subst h; exact Nat.le_max_left _ _
    | i + 1, h => have := deep_kid (ks := ts) (i := i) (by simpa using h); exact Nat.le_trans this (Nat.le_max_right _ _)
theorem deep_snoc : ∀ (ks : List Tr) (u : Tr), deepL (ks ++ [u]) = max (deepL ks) (deepT u)
  | [], u => by simp only [List.nil_append, deepL]; omega
  | t :: ts, u => by simp only [List.cons_append]; rw [deepL, deepL, deep_snoc ts u]; omega
theorem deep_take {ks : List Tr} {i : Nat} {u : Tr} (h : ks[i]? = some u) : deepL (ks.take (i + 1)) = max (deepL (ks.take i)) (deepT u) := by
  rw [List.take_add_one, h]; exact deep_snoc _ _
theorem deep_take_le : ∀ (ks : List Tr) (i : Nat), deepL (ks.take i) ≤ deepL ks
  | [], i => by simp
  | t :: ts, 0 => by rw [List.take_zero, deepL]; exact Nat.zero_le _
  | t :: ts, i + 1 => by
    rw [List.take_succ_cons, deepL, deepL]
    have := deep_take_le ts i
    omega
inductive Wid : Tr → Prop
  | mk {k n c r d s : Int} {w : List UInt8} {ks : List Tr} : ks.length ≤ maxLen → (∀ t ∈ ks, Wid t) → Wid (.mk k n c r d s w ks)
theorem Wid.len {t : Tr} (h : Wid t) : t.kids.length ≤ maxLen := by cases h with | mk h _ => exact h
theorem Wid.kid {t u : Tr} (h : Wid t) {i : Nat} (hi : t.kids[i]? = some u) : Wid u := by cases h with | mk _ h => exact h u (List.mem_of_getElem? hi)
theorem deep_eq (t : Tr) : deepT t = deepL t.kids + 1 := by cases t; rw [deepT]; rfl
theorem KV.kidAt {w wr : World} {P : Nat → Prop} {t u : Tr} {g o : Nat} (h : KV w P t (some ⟨g, o, none⟩)) (hb : Below w.heap.size w wr) {i : Nat} (hi : t.kids[i]? = some u) :
    g < w.heap.size ∧ ∃ A cap, At8 wr g (o + i * 8) u A cap ∧ KV wr (fun _ => True) u A := by
  obtain ⟨_, hg, A, cap, h8, hk⟩ := h.kid hi
  rw [Nat.mul_comm] at h8
  exact ⟨hg, A, cap, h8.kept (P := fun _ => True) (Kept.of_below hb) trivial, (hk.kept (Kept.of_below hb)).imp fun _ _ => trivial⟩
end Go.Proofs.YthaoalmhhgllmaaGreatDoor
namespace Go.Proofs.YthaoalmhhgllmaaGreatDoor
open Go.RowKit

theorem rangeGuard : Tryz.prog.eqGuardType Tryz.prog.depth 26 = false := by kernel_rfl
theorem rangeStood : Tryz.prog.stoodInHeld 26 = false := by kernel_rfl
theorem rangeStruct : Tryz.prog.underlying 26 = some (.struct (Tryz.prog.fieldsOf 26)) := by kernel_rfl
theorem guard_range (op : BinOp) (X Y : Operand) (xs ys : Array Value) (W : World) : (eqGuard op 26 X Y (.agg xs) (.agg ys)).run Tryz.prog W = .ok () W := run_eqGuard_agg W op 26 X Y xs ys rangeGuard
set_option maxHeartbeats 2000000 in
theorem eql_range (a b c d a' b' c' d' : Int) (W : World) : (binOp .eql 26 (.agg #[.int .i64 a, .int .i64 b, .int .i64 c, .int .i64 d]) (.agg #[.int .i64 a', .int .i64 b', .int .i64 c', .int .i64 d'])).run Tryz.prog W
    = .ok (.bool (a == a' && b == b' && (c == c' && d == d'))) W := by
  rw [run_eql_struct, run_equalIn_agg W 9999 26 _ _ rangeStruct rangeStood]
  by_cases h1 : a = a' <;> by_cases h2 : b = b' <;> by_cases h3 : c = c' <;> by_cases h4 : d = d' <;> simp [go_sem, h1, h2, h3, h4]
theorem tr_ext {t u : Tr} (h0 : t.kind = u.kind) (h1 : t.num = u.num) (h2 : t.c1 = u.c1) (h3 : t.r1 = u.r1) (h4 : t.c2 = u.c2) (h5 : t.r2 = u.r2) (h6 : t.word = u.word) (h7 : t.kids = u.kids) : t = u := by
  cases t; cases u
  simp only [Tr.kind, Tr.num, Tr.c1, Tr.r1, Tr.c2, Tr.r2, Tr.word, Tr.kids] at *
  subst h0 h1 h2 h3 h4 h5 h6 h7
  rfl
theorem take_eq {l m : List Tr} {i : Nat} {a b : Tr} (ha : l[i]? = some a) (hb : m[i]? = some b) (h : l.take i = m.take i) (e : a = b) : l.take (i + 1) = m.take (i + 1) := by
  rw [List.take_add_one, List.take_add_one, ha, hb, h, e]
set_option maxHeartbeats 2000000 in
theorem neq_range (a b c d a' b' c' d' : Int) (W : World) : (binOp .neq 26 (.agg #[.int .i64 a, .int .i64 b, .int .i64 c, .int .i64 d]) (.agg #[.int .i64 a', .int .i64 b', .int .i64 c', .int .i64 d'])).run Tryz.prog W
    = .ok (.bool (!(a == a' && b == b' && (c == c' && d == d')))) W := by
  rw [run_neq_struct, run_equalIn_agg W 9999 26 _ _ rangeStruct rangeStood]
  by_cases h1 : a = a' <;> by_cases h2 : b = b' <;> by_cases h3 : c = c' <;> by_cases h4 : d = d' <;> simp [go_sem, h1, h2, h3, h4]
end Go.Proofs.YthaoalmhhgllmaaGreatDoor
namespace Go.Proofs.YthaoalmhhgllmaaGreatDoor
open Go.Lib

def onlyB (t : Tr) (n : Nat) : Bool := match t with
  | .mk k num c r d s w ks => (k == 0 || num == 0) && ((k == 1 || k == 6 || (c == 0 && r == 0 && d == 0 && s == 0)) && ((k == 4 || k == 5 || w == []) && ks.length == n))
mutual
def mayB : Tr → Bool
  | .mk k n c r d s w ks =>
    if k = 0 then onlyB (.mk k n c r d s w ks) 0 && decide (0 ≤ n)
    else if k = 1 then onlyB (.mk k n c r d s w ks) 0 && (rightB c r && (c == d && r == s))
    else if k = 2 then onlyB (.mk k n c r d s w ks) 0
    else if k = 6 then onlyB (.mk k n c r d s w ks) 0 && (rightB c r && rightB d s && decide (c ≤ d) && decide (r ≤ s))
    else if k = 3 then onlyB (.mk k n c r d s w ks) 1 && allB ks false false
    else if k = 4 then onlyB (.mk k n c r d s w ks) 2 && (allB ks false false && decide (1 ≤ lvl w))
    else if k = 5 then onlyB (.mk k n c r d s w ks) ks.length && (allB ks (w != [73, 70]) (w == [67, 79, 85, 78, 84]) && (if w = [73, 70] then ks.length == 3 else if w = [83, 85, 77] ∨ w = [77, 73, 78] ∨ w = [77, 65, 88] ∨ w = [67, 79, 85, 78, 84] then decide (0 < ks.length) else false))
    else false
def allB : List Tr → Bool → Bool → Bool
  | [], _, _ => true
  | t :: ts, spans, corners => (mayB t && ((spans || t.kind != 6) && (!corners || t.kind == 6 || t.kind == 2))) && allB ts spans corners
end
inductive Fit : Tr → Prop
  | mk {k n c r d s : Int} {w : List UInt8} {ks : List Tr} : n ≤ 9223372036854775807 → (∀ t ∈ ks, Fit t) → Fit (.mk k n c r d s w ks)
theorem all_mem {ks : List Tr} {a b : Bool} (h : allB ks a b = true) : ∀ t ∈ ks, mayB t = true ∧ (a = true ∨ t.kind ≠ 6) ∧ (b = false ∨ t.kind = 6 ∨ t.kind = 2) := by
  induction ks with
  | nil => intro t ht; cases ht
  | cons u r ih =>
    rw [allB] at h
    simp only [Bool.and_eq_true, Bool.or_eq_true, Bool.not_eq_true', bne_iff_ne, beq_iff_eq] at h
    obtain ⟨⟨h1, h2, h3⟩, h4⟩ := h
    intro t ht
    rcases List.mem_cons.1 ht with rfl | ht
    · exact ⟨h1, h2, by rcases h3 with (h3 | h3) | h3; exact .inl h3; exact .inr (.inl h3); exact .inr (.inr h3)⟩
    · exact ih h4 t ht
theorem may_ex {t : Tr} (hf : Fit t) : mayB t = true → (t.kind ≠ 6 → Ex .tree t) ∧ (t.kind = 6 → ∀ c, Ex (.item c) t) ∧ (t.kind = 2 → ∀ c, Ex (.item c) t) := by
  induction hf with
  | @mk k n c r d s w ks hn _ ih =>
    intro h
    rw [mayB] at h
    unfold onlyB at h
    by_cases h0 : k = 0
    · subst h0
      simp at h
      obtain ⟨⟨⟨⟨⟨rfl, rfl⟩, rfl⟩, rfl⟩, rfl, rfl⟩, h⟩ := h
      refine ⟨fun _ => ?_, fun e => by simp [Tr.kind] at e, fun e => by simp [Tr.kind] at e⟩
      obtain ⟨m, rfl⟩ := Int.eq_ofNat_of_zero_le h
      exact ⟨_, _, .num (by omega)⟩
    by_cases h1 : k = 1
    · subst h1
      simp at h
      obtain ⟨⟨rfl, rfl, rfl⟩, h, rfl, rfl⟩ := h
      exact ⟨fun _ => ⟨_, _, .read h⟩, fun e => by simp [Tr.kind] at e, fun e => by simp [Tr.kind] at e⟩
    by_cases h2 : k = 2
    · subst h2
      simp at h
      obtain ⟨rfl, ⟨⟨⟨rfl, rfl⟩, rfl⟩, rfl⟩, rfl, rfl⟩ := h
      refine ⟨fun _ => ⟨_, _, .bad⟩, fun e => by simp [Tr.kind] at e, fun _ c => ?_⟩
      cases c
      · exact ⟨_, _, .itT .bad⟩
      · exact ⟨_, _, .itBad⟩
    by_cases h6 : k = 6
    · subst h6
      simp at h
      obtain ⟨⟨rfl, rfl, rfl⟩, ⟨⟨a, b⟩, e⟩, f⟩ := h
      exact ⟨fun e => by simp [Tr.kind] at e, fun _ c => ⟨_, _, .itSpan a b e f⟩, fun e => by simp [Tr.kind] at e⟩
    by_cases h3 : k = 3
    · subst h3
      simp at h
      obtain ⟨⟨rfl, ⟨⟨⟨rfl, rfl⟩, rfl⟩, rfl⟩, rfl, hk⟩, ha⟩ := h
      obtain ⟨a, rfl⟩ := List.length_eq_one_iff.1 hk
      have A := all_mem ha a (by simp)
      exact ⟨fun _ => Ex.neg ((ih a (by simp) A.1).1 (by simpa using A.2.1)), fun e => by simp [Tr.kind] at e, fun e => by simp [Tr.kind] at e⟩
    by_cases h4 : k = 4
    · subst h4
      simp at h
      obtain ⟨⟨rfl, ⟨⟨⟨rfl, rfl⟩, rfl⟩, rfl⟩, hk⟩, ha, hw⟩ := h
      obtain ⟨a, b, rfl⟩ : ∃ a b, ks = [a, b] := by
        match ks, hk with
        | [a, b], _ => exact ⟨a, b, rfl⟩
      have A := all_mem ha a (by simp)
      have B := all_mem ha b (by simp)
      exact ⟨fun _ => Ex.op hw ((ih a (by simp) A.1).1 (by simpa using A.2.1)) ((ih b (by simp) B.1).1 (by simpa using B.2.1)), fun e => by simp [Tr.kind] at e, fun e => by simp [Tr.kind] at e⟩
    by_cases h5 : k = 5
    · subst h5
      rw [if_neg (by decide), if_neg (by decide), if_neg (by decide), if_neg (by decide), if_neg (by decide), if_neg (by decide), if_pos rfl, Bool.and_eq_true] at h
      obtain ⟨ho, h⟩ := h
      rw [Bool.and_eq_true] at h
      obtain ⟨ha, hif⟩ := h
      simp at ho
      obtain ⟨rfl, ⟨⟨⟨rfl, rfl⟩, rfl⟩, rfl⟩⟩ := ho
      refine ⟨fun _ => ?_, fun e => by simp [Tr.kind] at e, fun e => by simp [Tr.kind] at e⟩
      have M := all_mem ha
      by_cases hw : w = [73, 70]
      · subst hw
        rw [if_pos rfl, beq_iff_eq] at hif
        obtain ⟨a, b, c, rfl⟩ : ∃ a b c, ks = [a, b, c] := by
          match ks, hif with
          | [a, b, c], _ => exact ⟨a, b, c, rfl⟩
        have T : ∀ t ∈ [a, b, c], Ex .tree t := fun t ht => (ih t ht (M t ht).1).1 (by simpa using (M t ht).2.1)
        obtain ⟨_, _, A⟩ := T a (by simp)
        obtain ⟨_, _, B⟩ := T b (by simp)
        obtain ⟨_, _, C⟩ := T c (by simp)
        exact ⟨_, _, .cif A B C⟩
      · rw [if_neg hw] at hif
        split at hif
        · rename_i hc
          have hne : ks ≠ [] := by
            rintro rfl
            simp at hif
          obtain ⟨_, _, I⟩ := ex_its (k := w == [67, 79, 85, 78, 84]) ks hne fun t ht => by
            obtain ⟨m1, _, m3⟩ := M t ht
            obtain ⟨i1, i2, i3⟩ := ih t ht m1
            by_cases e6 : t.kind = 6
            · exact i2 e6 _
            · by_cases e2 : t.kind = 2
              · exact i3 e2 _
              · rcases m3 with m | m | m
                · rw [m]
                  obtain ⟨_, _, X⟩ := i1 e6
                  exact ⟨_, _, .itT X⟩
                · exact absurd m e6
                · exact absurd m e2
          exact ⟨_, _, .call hc I⟩
        · cases hif
    · simp [h0, h1, h2, h3, h4, h5, h6] at h
end Go.Proofs.YthaoalmhhgllmaaGreatDoor
namespace Go.Proofs.YthaoalmhhgllmaaGreatDoor
open Go.RowKit

set_option maxHeartbeats 4000000 in
set_option maxRecDepth 10000 in
theorem pspare_at (k num a b c d : Int) (wd : List UInt8) (A : Option Addr) (n cap : Nat) (w : World) (N0 B0 AT B1 B6 W0 B4 B5 LN B3 : Bool) (hn : (num != 0) = N0) (h0 : (k != 0) = B0)
    (hA : ∀ W, (binOp .neq 26 (.agg #[.int .i64 a, .int .i64 b, .int .i64 c, .int .i64 d]) (.agg #[.int .i64 0, .int .i64 0, .int .i64 0, .int .i64 0])).run Tryz.prog W = .ok (.bool AT) W)
    (h1 : (k != 1) = B1) (h6 : (k != 6) = B6) (hw : (wd == []) = W0) (h4 : (k != 4) = B4) (h5 : (k != 5) = B5) (hl : decide ((0 : Int) < (n : Int)) = LN) (h3 : (k != 3) = B3) :
    Calls Tryz.prog 46 #[.agg #[.int .i64 k, .int .i64 num, .int .i64 a, .int .i64 b, .int .i64 c, .int .i64 d, .string ⟨wd.toArray⟩, .slice A n cap]] w fun e w' => e = .returned (.bool ((N0 && B0) || ((AT && (B1 && B6)) || ((!W0 && (B4 && B5)) || (LN && (B3 && (B4 && B5))))))) ∧ Below w.heap.size w w' := by
  have hG := fun op X Y W => guard_range op X Y #[.int .i64 a, .int .i64 b, .int .i64 c, .int .i64 d] #[.int .i64 0, .int .i64 0, .int .i64 0, .int .i64 0] W
  cases N0 with
  | true =>
   cases B0 with
   | true =>
    go_enter Tryz.func46, Tryz.ntmps46
    go_wp2_with fail
    go_ret
    exact ⟨rfl, (Below.refl _ _).alloc (Nat.le_refl _) _⟩
   | false =>
    cases AT with
    | true =>
     cases B1 with
     | true =>
      cases B6 with
      | true =>
       go_enter Tryz.func46, Tryz.ntmps46
       go_wp2_with fail
       go_ret
       exact ⟨rfl, (Below.refl _ _).alloc (Nat.le_refl _) _⟩
      | false =>
       have ea : k = 0 := by simpa using h0
       have eb : k = 6 := by simpa using h6
       omega
     | false =>
      have ea : k = 0 := by simpa using h0
      have eb : k = 1 := by simpa using h1
      omega
    | false =>
     cases W0 with
     | true =>
      cases LN with
      | true =>
       have hz : 0 < n := by simpa using hl
       cases B3 with
       | true =>
        cases B4 with
        | true =>
         cases B5 with
         | true =>
          go_enter Tryz.func46, Tryz.ntmps46
          go_wp2_with fail
          go_ret
          exact ⟨rfl, (Below.refl _ _).alloc (Nat.le_refl _) _⟩
         | false =>
          have ea : k = 0 := by simpa using h0
          have eb : k = 5 := by simpa using h5
          omega
        | false =>
         have ea : k = 0 := by simpa using h0
         have eb : k = 4 := by simpa using h4
         omega
       | false =>
        have ea : k = 0 := by simpa using h0
        have eb : k = 3 := by simpa using h3
        omega
      | false =>
       have hz : ¬ 0 < n := by simpa using hl
       go_enter Tryz.func46, Tryz.ntmps46
       go_wp2_with fail
       go_ret
       exact ⟨rfl, (Below.refl _ _).alloc (Nat.le_refl _) _⟩
     | false =>
      cases B4 with
      | true =>
       cases B5 with
       | true =>
        go_enter Tryz.func46, Tryz.ntmps46
        go_wp2_with fail
        go_ret
        exact ⟨rfl, (Below.refl _ _).alloc (Nat.le_refl _) _⟩
       | false =>
        have ea : k = 0 := by simpa using h0
        have eb : k = 5 := by simpa using h5
        omega
      | false =>
       have ea : k = 0 := by simpa using h0
       have eb : k = 4 := by simpa using h4
       omega
  | false =>
   cases AT with
   | true =>
    cases B1 with
    | true =>
     cases B6 with
     | true =>
      go_enter Tryz.func46, Tryz.ntmps46
      go_wp2_with fail
      go_ret
      exact ⟨rfl, (Below.refl _ _).alloc (Nat.le_refl _) _⟩
     | false =>
      cases W0 with
      | true =>
       cases LN with
       | true =>
        have hz : 0 < n := by simpa using hl
        cases B3 with
        | true =>
         cases B4 with
         | true =>
          cases B5 with
          | true =>
           go_enter Tryz.func46, Tryz.ntmps46
           go_wp2_with fail
           go_ret
           exact ⟨rfl, (Below.refl _ _).alloc (Nat.le_refl _) _⟩
          | false =>
           have ea : k = 6 := by simpa using h6
           have eb : k = 5 := by simpa using h5
           omega
         | false =>
          have ea : k = 6 := by simpa using h6
          have eb : k = 4 := by simpa using h4
          omega
        | false =>
         have ea : k = 6 := by simpa using h6
         have eb : k = 3 := by simpa using h3
         omega
       | false =>
        have hz : ¬ 0 < n := by simpa using hl
        go_enter Tryz.func46, Tryz.ntmps46
        go_wp2_with fail
        go_ret
        exact ⟨rfl, (Below.refl _ _).alloc (Nat.le_refl _) _⟩
      | false =>
       cases B4 with
       | true =>
        cases B5 with
        | true =>
         go_enter Tryz.func46, Tryz.ntmps46
         go_wp2_with fail
         go_ret
         exact ⟨rfl, (Below.refl _ _).alloc (Nat.le_refl _) _⟩
        | false =>
         have ea : k = 6 := by simpa using h6
         have eb : k = 5 := by simpa using h5
         omega
       | false =>
        have ea : k = 6 := by simpa using h6
        have eb : k = 4 := by simpa using h4
        omega
    | false =>
     cases W0 with
     | true =>
      cases LN with
      | true =>
       have hz : 0 < n := by simpa using hl
       cases B3 with
       | true =>
        cases B4 with
        | true =>
         cases B5 with
         | true =>
          go_enter Tryz.func46, Tryz.ntmps46
          go_wp2_with fail
          go_ret
          exact ⟨rfl, (Below.refl _ _).alloc (Nat.le_refl _) _⟩
         | false =>
          have ea : k = 1 := by simpa using h1
          have eb : k = 5 := by simpa using h5
          omega
        | false =>
         have ea : k = 1 := by simpa using h1
         have eb : k = 4 := by simpa using h4
         omega
       | false =>
        have ea : k = 1 := by simpa using h1
        have eb : k = 3 := by simpa using h3
        omega
      | false =>
       have hz : ¬ 0 < n := by simpa using hl
       go_enter Tryz.func46, Tryz.ntmps46
       go_wp2_with fail
       go_ret
       exact ⟨rfl, (Below.refl _ _).alloc (Nat.le_refl _) _⟩
     | false =>
      cases B4 with
      | true =>
       cases B5 with
       | true =>
        go_enter Tryz.func46, Tryz.ntmps46
        go_wp2_with fail
        go_ret
        exact ⟨rfl, (Below.refl _ _).alloc (Nat.le_refl _) _⟩
       | false =>
        have ea : k = 1 := by simpa using h1
        have eb : k = 5 := by simpa using h5
        omega
      | false =>
       have ea : k = 1 := by simpa using h1
       have eb : k = 4 := by simpa using h4
       omega
   | false =>
    cases W0 with
    | true =>
     cases LN with
     | true =>
      have hz : 0 < n := by simpa using hl
      cases B3 with
      | true =>
       cases B4 with
       | true =>
        cases B5 with
        | true =>
         go_enter Tryz.func46, Tryz.ntmps46
         go_wp2_with fail
         go_ret
         exact ⟨rfl, (Below.refl _ _).alloc (Nat.le_refl _) _⟩
        | false =>
         go_enter Tryz.func46, Tryz.ntmps46
         go_wp2_with fail
         go_ret
         exact ⟨rfl, (Below.refl _ _).alloc (Nat.le_refl _) _⟩
       | false =>
        go_enter Tryz.func46, Tryz.ntmps46
        go_wp2_with fail
        go_ret
        exact ⟨rfl, (Below.refl _ _).alloc (Nat.le_refl _) _⟩
      | false =>
       go_enter Tryz.func46, Tryz.ntmps46
       go_wp2_with fail
       go_ret
       exact ⟨rfl, (Below.refl _ _).alloc (Nat.le_refl _) _⟩
     | false =>
      have hz : ¬ 0 < n := by simpa using hl
      go_enter Tryz.func46, Tryz.ntmps46
      go_wp2_with fail
      go_ret
      exact ⟨rfl, (Below.refl _ _).alloc (Nat.le_refl _) _⟩
    | false =>
     cases B4 with
     | true =>
      cases B5 with
      | true =>
       go_enter Tryz.func46, Tryz.ntmps46
       go_wp2_with fail
       go_ret
       exact ⟨rfl, (Below.refl _ _).alloc (Nat.le_refl _) _⟩
      | false =>
       cases LN with
       | true =>
        have hz : 0 < n := by simpa using hl
        cases B3 with
        | true =>
         go_enter Tryz.func46, Tryz.ntmps46
         go_wp2_with fail
         go_ret
         exact ⟨rfl, (Below.refl _ _).alloc (Nat.le_refl _) _⟩
        | false =>
         have ea : k = 5 := by simpa using h5
         have eb : k = 3 := by simpa using h3
         omega
       | false =>
        have hz : ¬ 0 < n := by simpa using hl
        go_enter Tryz.func46, Tryz.ntmps46
        go_wp2_with fail
        go_ret
        exact ⟨rfl, (Below.refl _ _).alloc (Nat.le_refl _) _⟩
     | false =>
      cases LN with
      | true =>
       have hz : 0 < n := by simpa using hl
       cases B3 with
       | true =>
        go_enter Tryz.func46, Tryz.ntmps46
        go_wp2_with fail
        go_ret
        exact ⟨rfl, (Below.refl _ _).alloc (Nat.le_refl _) _⟩
       | false =>
        have ea : k = 4 := by simpa using h4
        have eb : k = 3 := by simpa using h3
        omega
      | false =>
       have hz : ¬ 0 < n := by simpa using hl
       go_enter Tryz.func46, Tryz.ntmps46
       go_wp2_with fail
       go_ret
       exact ⟨rfl, (Below.refl _ _).alloc (Nat.le_refl _) _⟩
def spareB (t : Tr) : Bool := ((t.num != 0) && (t.kind != 0)) || (((!(t.c1 == 0 && t.r1 == 0 && (t.c2 == 0 && t.r2 == 0))) && ((t.kind != 1) && (t.kind != 6))) || ((!(t.word == []) && ((t.kind != 4) && (t.kind != 5))) || (decide ((0 : Int) < (t.kids.length : Int)) && ((t.kind != 3) && ((t.kind != 4) && (t.kind != 5))))))
theorem pspare_any (t : Tr) (A : Option Addr) (cap : Nat) (w : World) :
    Calls Tryz.prog 46 #[tv t A cap] w fun e w' => e = .returned (.bool (spareB t)) ∧ Below w.heap.size w w' :=
  pspare_at t.kind t.num t.c1 t.r1 t.c2 t.r2 t.word A t.kids.length cap w _ _ _ _ _ _ _ _ _ _ rfl rfl (fun W => neq_range _ _ _ _ _ _ _ _ W) rfl rfl rfl rfl rfl rfl rfl
end Go.Proofs.YthaoalmhhgllmaaGreatDoor
namespace Go.Proofs.YthaoalmhhgllmaaGreatDoor
open Go.RowKit Go.Shelf

structure TestC (F : Nat) (p : Tr → Bool) : Prop where
  enters : ∀ (args : Array Value) (w : World), (callFunc F args).run Tryz.prog w = .ok (.enter F args) w
  runs : ∀ (t : Tr) (A : Option Addr) (cap : Nat) (w : World), Calls Tryz.prog F #[tv t A cap] w fun e w' => e = .returned (.bool (p t)) ∧ Below w.heap.size w w'
set_option maxHeartbeats 1000000 in
set_option maxRecDepth 10000 in
theorem spanC : TestC 113 (fun t => t.kind == 6) := by
  refine ⟨fun args w => enters_of Tryz.func113 (by kernel_rfl) rfl args w, fun t A cap w => ?_⟩
  unfold tv
  go_enter Tryz.func113, Tryz.ntmps113
  go_wp2_with fail
  go_ret
  exact ⟨rfl, (Below.refl _ _).alloc (Nat.le_refl _) _⟩
set_option maxHeartbeats 1000000 in
set_option maxRecDepth 10000 in
theorem uncountedC : TestC 115 (fun t => (t.kind != 6) && (t.kind != 2)) := by
  refine ⟨fun args w => enters_of Tryz.func115 (by kernel_rfl) rfl args w, fun t A cap w => ?_⟩
  unfold tv
  cases h6 : (t.kind != 6) with
  | true =>
    go_enter Tryz.func115, Tryz.ntmps115
    go_wp2_with fail
    go_ret
    exact ⟨rfl, (Below.refl _ _).alloc (Nat.le_refl _) _⟩
  | false =>
    go_enter Tryz.func115, Tryz.ntmps115
    go_wp2_with fail
    go_ret
    exact ⟨rfl, (Below.refl _ _).alloc (Nat.le_refl _) _⟩
theorem any_hit {p : Tr → Bool} {ks : List Tr} {i : Nat} {u : Tr} (h : ks[i]? = some u) (hp : p u = true) : ks.any p = true := List.any_eq_true.2 ⟨u, List.mem_of_getElem? h, hp⟩
theorem any_miss {p : Tr → Bool} {ks : List Tr} (h : ∀ (j : Nat) (u : Tr), j < ks.length → ks[j]? = some u → p u = false) : ks.any p = false := by
  rw [Bool.eq_false_iff]
  intro ha
  obtain ⟨u, hu, hp⟩ := List.any_eq_true.1 ha
  obtain ⟨j, hj⟩ := List.getElem?_of_mem hu
  have := h j u (List.getElem?_eq_some_iff.1 hj).1 hj
  rw [hp] at this; cases this
set_option maxHeartbeats 1000000 in
set_option maxRecDepth 10000 in
theorem sindexs_any {F : Nat} {p : Tr → Bool} (hF : TestC F p) (t : Tr) (ht : Wid t) (w : World) (P : Nat → Prop) (A : Option Addr) (ca : Nat) (hA : KV w P t A) :
    Calls Tryz.prog 126 #[.slice A t.kids.length ca, .func (.func F) #[] #[]] w fun e w' => (∃ i : Int, e = .returned (.int .i64 i) ∧ decide (0 ≤ i) = t.kids.any p) ∧ Below w.heap.size w w' := by
  have hlen := ht.len
  unfold maxLen at hlen
  have hE := hF.enters
  have HF := Lib.hid hF.runs
  have HA := Lib.hid hA
  clear hF hA
  go_enter Tryz.func126, Tryz.ntmps126
  go_wp2_with fail
  go_loopw [8] (fun vi wr => ∃ i : Nat, i ≤ t.kids.length ∧ vi = .int .i64 (i : Int) ∧ Hid (∀ (j : Nat) (u : Tr), j < i → t.kids[j]? = some u → p u = false) ∧ Below w.heap.size w wr) (fun vi _ => t.kids.length - (intOf vi).toNat)
  case atStart => exact ⟨0, Nat.zero_le _, rfl, Lib.hid fun j u hj => by omega, Below.refl _ _⟩
  case round =>
    obtain ⟨i, hi, rfl, HN, hbel⟩ := hrel
    by_cases hlt : i < t.kids.length
    · have ha : t.kids[i]? = some (t.kids[i]'hlt) := List.getElem?_eq_getElem hlt
      obtain ⟨g, o, rfl⟩ := HA.out.addr ha
      obtain ⟨hg, A', ca', h8, hkv⟩ := HA.out.kidAt hbel ha
      have HM := Lib.hid ha
      have HC := Lib.hid (HF.out (t.kids[i]'hlt) A' ca' wr)
      generalize t.kids[i]'hlt = x at *
      unfold At8 at h8
      unfold tv at HC
      obtain ⟨q0, q1, q2, q3, q4, q5, q6, q7⟩ := h8
      clear hkv ha
      cases hp : p x with
      | true =>
        rw [hp] at HC
        have HH := Lib.hid (any_hit HM.out hp)
        clear hp
        go_wp2_with fail
        refine HC.out.mono ?_; rintro e w1 ⟨rfl, b1⟩
        have hb1 := hbel.trans (b1.mono hbel.size)
        clear b1 q0 q1 q2 q3 q4 q5 q6 q7
        go_wp2_with fail
        go_ret
        exact ⟨⟨_, rfl, by rw [HH.out]; exact decide_eq_true (by omega)⟩, hb1⟩
      | false =>
        rw [hp] at HC
        have HH := Lib.hid hp
        clear hp
        go_wp2_with fail
        refine HC.out.mono ?_; rintro e w1 ⟨rfl, b1⟩
        have hb1 := hbel.trans (b1.mono hbel.size)
        clear b1 q0 q1 q2 q3 q4 q5 q6 q7
        go_wp2_with fail
        go_roundw
        case rel => exact ⟨i + 1, by omega, by go_num, Lib.hid fun j u hj hu => by
          by_cases hji : j < i
          · exact HN.out j u hji hu
          · obtain rfl : j = i := by omega
            rw [HM.out] at hu; obtain rfl := Option.some.inj hu; exact HH.out, hb1⟩
        case measure => simp [intOf]; omega
    · have hii : i = t.kids.length := by omega
      subst hii
      have HH := Lib.hid (any_miss HN.out)
      go_wp2_with fail
      go_ret
      exact ⟨⟨_, rfl, by rw [HH.out]; rfl⟩, hbel⟩
set_option maxHeartbeats 1000000 in
set_option maxRecDepth 10000 in
theorem pcontains_any {F : Nat} {p : Tr → Bool} (hF : TestC F p) (t : Tr) (ht : Wid t) (w : World) (P : Nat → Prop) (A : Option Addr) (ca : Nat) (hA : KV w P t A) :
    Calls Tryz.prog 112 #[.slice A t.kids.length ca, .func (.func F) #[] #[]] w fun e w' => e = .returned (.bool (t.kids.any p)) ∧ Below w.heap.size w w' := by
  have H := Lib.hid (sindexs_any hF t ht w P A ca hA)
  clear hF hA
  go_enter Tryz.func112, Tryz.ntmps112
  go_wp2_with fail
  refine H.out.mono ?_; rintro e w1 ⟨⟨i, rfl, hi⟩, b1⟩
  have HI := Lib.hid hi
  clear hi
  go_wp2_with fail
  go_ret
  exact ⟨ret_bool HI.out, b1⟩
def exprsB (ks : List Tr) (n : Nat) : Bool := (ks.length == n) && !ks.any (fun t => t.kind == 6)
set_option maxHeartbeats 1000000 in
set_option maxRecDepth 10000 in
theorem pexprs_any (n : Nat) (t : Tr) (ht : Wid t) (w : World) (P : Nat → Prop) (A : Option Addr) (ca : Nat) (hA : KV w P t A) :
    Calls Tryz.prog 78 #[.slice A t.kids.length ca, .int .i64 (n : Int)] w fun e w' => e = .returned (.bool (exprsB t.kids n)) ∧ Below w.heap.size w w' := by
  have hlen := ht.len
  unfold maxLen at hlen
  have H := Lib.hid (pcontains_any spanC t ht w P A ca hA)
  unfold exprsB
  clear hA
  cases hl : (t.kids.length == n) with
  | true =>
    have d1 : ((t.kids.length : Int) == (n : Int)) = true := by rw [beq_iff_eq] at hl ⊢; omega
    go_enter Tryz.func78, Tryz.ntmps78
    go_wp2_with fail
    refine H.out.mono ?_; rintro e w1 ⟨rfl, b1⟩
    go_wp2_with fail
    go_ret
    exact ⟨ret_bool (Bool.true_and _).symm, b1⟩
  | false =>
    have d1 : ((t.kids.length : Int) == (n : Int)) = false := by rw [beq_eq_false_iff_ne] at hl ⊢; omega
    go_enter Tryz.func78, Tryz.ntmps78
    go_wp2_with fail
    go_ret
    exact ⟨rfl, Below.refl _ _⟩
def calledB (wd : List UInt8) (ks : List Tr) : Bool :=
  if wd = [73, 70] then exprsB ks 3 else if wd = [83, 85, 77] ∨ wd = [77, 73, 78] ∨ wd = [77, 65, 88] then decide ((0 : Int) < (ks.length : Int)) else if wd = [67, 79, 85, 78, 84] then decide ((0 : Int) < (ks.length : Int)) && !ks.any (fun t => (t.kind != 6) && (t.kind != 2)) else false
set_option maxHeartbeats 1000000 in
set_option maxRecDepth 10000 in
theorem pcalled_any (wd : List UInt8) (t : Tr) (ht : Wid t) (w : World) (P : Nat → Prop) (A : Option Addr) (ca : Nat) (hA : KV w P t A) :
    Calls Tryz.prog 80 #[.string ⟨wd.toArray⟩, .slice A t.kids.length ca] w fun e w' => e = .returned (.bool (calledB wd t.kids)) ∧ Below w.heap.size w w' := by
  have hlen := ht.len
  unfold maxLen at hlen
  have HX := Lib.hid (pexprs_any 3 t ht w P A ca hA)
  have HC := Lib.hid (pcontains_any uncountedC t ht w P A ca hA)
  clear hA
  unfold calledB
  have HD : ∀ b, decide ((0 : Int) < (t.kids.length : Int)) = b → decide ((0 : Int) < (t.kids.length : Int)) = b := fun _ h => h
  generalize hn : t.kids.length = n at *
  have HNN := Lib.hid hn
  clear hn HD
  by_cases hi : wd = [73, 70]
  · subst hi
    rw [if_pos rfl]
    go_enter Tryz.func80, Tryz.ntmps80
    go_wp2_with fail
    refine HX.out.mono ?_; rintro e w1 ⟨rfl, b1⟩
    go_wp2_with fail
    go_ret
    exact ⟨rfl, b1⟩
  · rw [if_neg hi]
    by_cases h3 : wd = [83, 85, 77] ∨ wd = [77, 73, 78] ∨ wd = [77, 65, 88]
    · rw [if_pos h3]
      rcases h3 with rfl | rfl | rfl
      · by_cases hz : 0 < n
        · have d1 : decide ((0 : Int) < (n : Int)) = true := decide_eq_true (by omega)
          have d2 := Lib.hid d1
          go_enter Tryz.func80, Tryz.ntmps80
          go_wp2_with fail
          go_ret
          exact ⟨ret_bool (by rw [d2.out]), Below.refl _ _⟩
        · have d1 : decide ((0 : Int) < (n : Int)) = false := decide_eq_false (by omega)
          have d2 := Lib.hid d1
          go_enter Tryz.func80, Tryz.ntmps80
          go_wp2_with fail
          go_ret
          exact ⟨ret_bool (by rw [d2.out]), Below.refl _ _⟩
      · by_cases hz : 0 < n
        · have d1 : decide ((0 : Int) < (n : Int)) = true := decide_eq_true (by omega)
          have d2 := Lib.hid d1
          go_enter Tryz.func80, Tryz.ntmps80
          go_wp2_with fail
          go_ret
          exact ⟨ret_bool (by rw [d2.out]), Below.refl _ _⟩
        · have d1 : decide ((0 : Int) < (n : Int)) = false := decide_eq_false (by omega)
          have d2 := Lib.hid d1
          go_enter Tryz.func80, Tryz.ntmps80
          go_wp2_with fail
          go_ret
          exact ⟨ret_bool (by rw [d2.out]), Below.refl _ _⟩
      · by_cases hz : 0 < n
        · have d1 : decide ((0 : Int) < (n : Int)) = true := decide_eq_true (by omega)
          have d2 := Lib.hid d1
          go_enter Tryz.func80, Tryz.ntmps80
          go_wp2_with fail
          go_ret
          exact ⟨ret_bool (by rw [d2.out]), Below.refl _ _⟩
        · have d1 : decide ((0 : Int) < (n : Int)) = false := decide_eq_false (by omega)
          have d2 := Lib.hid d1
          go_enter Tryz.func80, Tryz.ntmps80
          go_wp2_with fail
          go_ret
          exact ⟨ret_bool (by rw [d2.out]), Below.refl _ _⟩
    · rw [if_neg h3]
      by_cases hc : wd = [67, 79, 85, 78, 84]
      · subst hc
        rw [if_pos rfl]
        by_cases hz : 0 < n
        · have d1 : decide ((0 : Int) < (n : Int)) = true := decide_eq_true (by omega)
          have d2 := Lib.hid d1
          go_enter Tryz.func80, Tryz.ntmps80
          go_wp2_with fail
          refine HC.out.mono ?_; rintro e w1 ⟨rfl, b1⟩
          go_wp2_with fail
          go_ret
          exact ⟨ret_bool (by rw [d2.out, Bool.true_and]), b1⟩
        · have d1 : decide ((0 : Int) < (n : Int)) = false := decide_eq_false (by omega)
          have d2 := Lib.hid d1
          go_enter Tryz.func80, Tryz.ntmps80
          go_wp2_with fail
          go_ret
          exact ⟨ret_bool (by rw [d2.out, Bool.false_and]), Below.refl _ _⟩
      · rw [if_neg hc]
        have e0 : (wd == [73, 70]) = false := by rw [beq_eq_false_iff_ne]; exact hi
        have e1 : (wd == [83, 85, 77]) = false := by rw [beq_eq_false_iff_ne]; exact fun e => h3 (.inl e)
        have e2 : (wd == [77, 73, 78]) = false := by rw [beq_eq_false_iff_ne]; exact fun e => h3 (.inr (.inl e))
        have e3 : (wd == [77, 65, 88]) = false := by rw [beq_eq_false_iff_ne]; exact fun e => h3 (.inr (.inr e))
        have e4 : (wd == [67, 79, 85, 78, 84]) = false := by rw [beq_eq_false_iff_ne]; exact hc
        clear hi h3 hc
        go_enter Tryz.func80, Tryz.ntmps80
        go_wp2_with fail
        go_ret
        exact ⟨rfl, Below.refl _ _⟩
end Go.Proofs.YthaoalmhhgllmaaGreatDoor
