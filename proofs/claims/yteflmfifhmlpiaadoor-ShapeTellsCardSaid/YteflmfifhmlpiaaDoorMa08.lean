/- Texts joined: SyK, SyL, SyO, SyP, TrA, TrB. -/
import Derived.Test.YteflmfifhmlpiaaDoorMa07
import Derived.Test.YteflmfifhmlpiaaDoorMa06
import Derived.Test.YteflmfifhmlpiaaDoorMa01
import Derived.OwnWalk
import Derived.Test.YteflmfifhmlpiaaDoorMa05
import Derived.Deep.QuietTactic
import Derived.BigQuiet
import Derived.Laws.Pointers
import Derived.StillTactics
set_option linter.all false
set_option linter.unusedVariables false
set_option linter.unusedSimpArgs false
namespace Go.Proofs.YteflmfifhmlpiaaDoor
open Go.Lib

def Ex (md : Mode) (t : Tr) : Prop := ∃ s ts, Pr md t s ts
theorem Ex.wi {t : Tr} (h : Ex .tree t) (m : Nat) : Ex (.wi m) t := by
  obtain ⟨s, ts, h⟩ := h
  by_cases hk : t.kind = 4
  · by_cases hl : lvl t.word < m
    · exact ⟨_, _, .brk h hk hl⟩
    · exact ⟨_, _, .plain h fun _ => by omega⟩
  · exact ⟨_, _, .plain h fun e => absurd e hk⟩
theorem Ex.op {w : List UInt8} {a b : Tr} (hw : 1 ≤ lvl w) (ha : Ex .tree a) (hb : Ex .tree b) : Ex .tree (opT w a b) := by
  obtain ⟨_, _, h1⟩ := ha.wi (lvl w)
  obtain ⟨_, _, h2⟩ := hb.wi (lvl w + 1)
  exact ⟨_, _, .op hw h1 h2⟩
theorem Ex.neg {a : Tr} (ha : Ex .tree a) : Ex .tree (negT a) := by
  obtain ⟨_, _, h1⟩ := ha.wi 4
  exact ⟨_, _, .neg h1⟩
theorem ex_its {k : Bool} : ∀ (ks : List Tr), ks ≠ [] → (∀ t ∈ ks, Ex (.item k) t) → Ex (.its k) (callT [] ks)
  | [], h, _ => absurd rfl h
  | [t], _, h => by
    obtain ⟨_, _, h1⟩ := h t (by simp)
    exact ⟨_, _, .last h1⟩
  | t :: u :: ks, _, h => by
    obtain ⟨_, _, h1⟩ := h t (by simp)
    obtain ⟨_, _, h2⟩ := ex_its (u :: ks) (by simp) fun x hx => h x (by simp only [List.mem_cons] at hx ⊢; exact .inr hx)
    exact ⟨_, _, .more h1 h2⟩
structure GoodT (t : Tok) : Prop where
  num : t.kind = 1 → ∃ n : Nat, t.num = (n : Int) ∧ n ≤ 9223372036854775807
  place : t.kind = 2 → rightB t.col t.row = true
  word : t.kind = 4 → wordB t.text = true
  kind : 1 ≤ t.kind ∧ t.kind ≤ 5
def GoodL (L : List Tok) : Prop := ∀ (p : Nat) (t : Tok), L[p]? = some t → GoodT t
def Gives (md : Mode) (o : Option Res) : Prop := ∀ t q, o = some (.ok t q) → Ex md t
theorem Gives.ok {md : Mode} {t : Tr} {q : Nat} (h : Ex md t) : Gives md (some (.ok t q)) := fun _ _ e => by cases e; exact h
theorem Gives.bad {md : Mode} {w : Nat} : Gives md (some (.bad w)) := fun _ _ e => by cases e
theorem Gives.next {md md' : Mode} {a : Option Res} {f : Tr → Nat → Option Res} (h : Gives md a) (hf : ∀ t q, Ex md t → Gives md' (f t q)) : Gives md' (Res.next a f) := fun t q e => by
  cases a with
  | none => cases e
  | some r =>
    cases r with
    | ok u p => exact hf u p (h u p rfl) t q e
    | bad w => cases e
theorem Gives.must {md : Mode} {L : List Tok} {E p : Nat} {s : List UInt8} {f : Nat → Option Res} (hf : ∀ q, Gives md (f q)) : Gives md (mustF L E p s f) := by
  unfold mustF
  split
  · exact hf _
  · exact .bad
theorem word_cases {w : List UInt8} (h : wordB w = true) : w = [73, 70] ∨ w = [83, 85, 77] ∨ w = [77, 73, 78] ∨ w = [77, 65, 88] ∨ w = [67, 79, 85, 78, 84] := by
  unfold wordB at h
  simpa [or_assoc] using h
structure GivesAll (L : List Tok) (E k : Nat) : Prop where
  line : ∀ lev p, 1 ≤ lev → Gives .tree (lineF L E k lev p)
  rest : ∀ lev out p, 1 ≤ lev → Ex .tree out → Gives .tree (restF L E k lev out p)
  pref : ∀ p, Gives .tree (prefF L E k p)
  oper : ∀ p, Gives .tree (operF L E k p)
  items : ∀ w acc p, wordB w = true → w ≠ [73, 70] → (∀ t ∈ acc, Ex (.item (w == [67, 79, 85, 78, 84])) t) → Gives .tree (itemsF L E k w acc p)
  item : ∀ c p, Gives (.item c) (itemF L E k c p)
theorem gives_all {L : List Tok} (hL : GoodL L) (E : Nat) : ∀ k, GivesAll L E k
  | 0 => by
    constructor <;> intros <;> first | (rw [lineF]; intro _ _ h; cases h) | (rw [restF]; intro _ _ h; cases h) | (rw [prefF]; intro _ _ h; cases h) | (rw [operF]; intro _ _ h; cases h) | (rw [itemsF]; intro _ _ h; cases h) | (rw [itemF]; intro _ _ h; cases h)
  | k + 1 => by
    have I := gives_all hL E k
    constructor
    · intro lev p h1
      simp only [lineF]
      split
      · exact I.pref p
      · exact (I.line _ _ (by omega)).next fun t q ht => I.rest lev t q h1 ht
    · intro lev out p h1 ho
      simp only [restF]
      split
      · rename_i hl
        refine (I.line _ _ (by omega)).next fun t q ht => I.rest lev _ q h1 (Ex.op ?_ ho ht)
        have hlt := level_lt hl h1
        unfold levelAt at hl
        rw [List.getElem?_eq_getElem hlt] at hl
        simp only at hl
        split at hl
        · simp only [List.getD_eq_getElem?_getD, List.getElem?_map, List.getElem?_eq_getElem hlt, Option.map_some, Option.getD_some]
          omega
        · omega
      · exact .ok ho
    · intro p
      simp only [prefF]
      split
      · exact (I.pref _).next fun t q ht => .ok ht.neg
      · exact I.oper p
    · intro p
      simp only [operF]
      split
      · exact (I.line _ _ (by omega)).next fun t q ht => .must fun _ => .ok ht
      · split
        · exact .bad
        · rename_i t ht
          have G := hL p t ht
          split
          · exact .bad
          · split
            · rename_i h1
              obtain ⟨n, hn, hle⟩ := G.num h1
              rw [hn]
              exact .ok ⟨_, _, .num hle⟩
            · split
              · rename_i h2
                exact .ok ⟨_, _, .read (G.place h2)⟩
              · split
                · exact .ok ⟨_, _, .bad⟩
                · have h4 : t.kind = 4 := by have := G.kind; omega
                  have hw := G.word h4
                  refine .must fun q => ?_
                  split
                  · refine (I.line _ _ (by omega)).next fun a q ha => .must fun q => (I.line _ _ (by omega)).next fun b q hb => .must fun q => (I.line _ _ (by omega)).next fun c q hc => .must fun q => .ok ?_
                    obtain ⟨_, _, ha⟩ := ha
                    obtain ⟨_, _, hb⟩ := hb
                    obtain ⟨_, _, hc⟩ := hc
                    exact ⟨_, _, .cif ha hb hc⟩
                  · rename_i hn
                    exact I.items t.text [] q hw hn fun x hx => by cases hx
    · intro w acc p hw hn ha
      simp only [itemsF]
      refine (I.item _ _).next fun t q ht => ?_
      have hall : ∀ x ∈ acc ++ [t], Ex (.item (w == [67, 79, 85, 78, 84])) x := fun x hx => by
        rcases List.mem_append.1 hx with h | h
        · exact ha x h
        · rw [List.mem_singleton.1 h]; exact ht
      split
      · exact I.items w _ _ hw hn hall
      · refine .must fun _ => .ok ?_
        obtain ⟨_, _, h⟩ := ex_its (acc ++ [t]) (by simp) hall
        exact ⟨_, _, .call ((word_cases hw).resolve_left hn) h⟩
    · intro c p
      simp only [itemF]
      split
      · rename_i h
        obtain ⟨rfl, _⟩ := h
        intro t q e
        obtain ⟨_, _, h⟩ := I.line 1 p (by omega) t q e
        exact ⟨_, _, .itT h⟩
      · rename_i hc
        have hB : Ex (.item c) badT := by
          cases c
          · exact ⟨_, _, .itT .bad⟩
          · exact ⟨_, _, .itBad⟩
        split
        · exact .bad
        · rename_i a ha
          split
          · exact .bad
          · rename_i he
            split
            · exact .ok hB
            · refine .must fun q => ?_
              split
              · exact .bad
              · rename_i b hb
                split
                · exact .bad
                · rename_i he2
                  split
                  · exact .ok hB
                  · rename_i h3
                    unfold isEnd at he he2
                    rw [ha] at he
                    rw [hb] at he2
                    simp at he he2
                    have h1 := (hL _ _ ha).place (by omega)
                    have h2 := (hL _ _ hb).place (by omega)
                    obtain ⟨a0, a1, a2, a3⟩ := (rightB_iff _ _).1 h1
                    obtain ⟨b0, b1, b2, b3⟩ := (rightB_iff _ _).1 h2
                    exact .ok ⟨_, _, .itSpan ((rightB_iff _ _).2 (by omega)) ((rightB_iff _ _).2 (by omega)) (by omega) (by omega)⟩
theorem tree_may {L : List Tok} {E : Nat} (hL : GoodL L) {t : Tr} {q : Nat} (h : treeT L E = some (.ok t q)) : Ex .tree t := (gives_all hL E _).line 1 0 (by omega) t q h
end Go.Proofs.YteflmfifhmlpiaaDoor
namespace Go.Proofs.YteflmfifhmlpiaaDoor
open Go.Lib

theorem find_low {n : Nat} {f : Nat → Bool} {i : Nat} (h : (List.range n).find? f = some i) : i < n := List.mem_range.1 (List.mem_of_find?_eq_some h)
theorem find_lt {l : List UInt8} {i : Nat} (h : findP l = some i) : i < 1024 := find_low (f := fun i => textAt i == l) h
theorem parse_right {l : List UInt8} (h : prE l = 0) : rightB (prC l) (prR l) = true := by
  unfold prE at h
  unfold prC prR
  split at h
  · rename_i hf
    rw [if_pos hf, if_pos hf]
    cases e : findP l with
    | none => rw [e] at h; exact absurd h (by decide)
    | some i =>
      have hi : i < 1024 := find_lt e
      show rightB (atC (i : Int)) (atR (i : Int)) = true
      rw [atC_of i hi, atR_of i hi]
      exact (rightB_iff _ _).2 (by omega)
  · exact absurd h (by decide)
theorem good_one {l : List UInt8} {p n : Nat} {t : Tok} (h : oneT l p = some (t, n)) : GoodT t := by
  unfold oneT at h
  split at h
  · split at h
    · rename_i u hu
      have h := (Prod.mk.inj (Option.some.inj h)).1; subst h
      refine ⟨fun _ => ⟨u, rfl, ?_⟩, fun e => by simp at e, fun e => by simp at e, by simp⟩
      unfold numV at hu
      split at hu
      · split at hu
        · rename_i hle; cases hu; exact hle
        · cases hu
      · cases hu
    · cases h
  · split at h
    · split at h
      · rename_i hw
        have h := (Prod.mk.inj (Option.some.inj h)).1; subst h
        exact ⟨fun e => by simp at e, fun e => by simp at e, fun _ => hw, by simp⟩
      · split at h
        · rename_i hp
          have hr := parse_right hp
          have h := (Prod.mk.inj (Option.some.inj h)).1; subst h
          exact ⟨fun e => by simp at e, fun _ => by simp only; exact hr, fun e => by simp at e, by simp⟩
        · split at h
          · have h := (Prod.mk.inj (Option.some.inj h)).1; subst h
            exact ⟨fun e => by simp at e, fun e => by simp at e, fun e => by simp at e, by simp⟩
          · cases h
    · split at h
      · have h := (Prod.mk.inj (Option.some.inj h)).1; subst h
        exact ⟨fun e => by simp at e, fun e => by simp at e, fun e => by simp at e, by simp⟩
      · split at h
        · cases h
        · have h := (Prod.mk.inj (Option.some.inj h)).1; subst h
          exact ⟨fun e => by simp at e, fun e => by simp at e, fun e => by simp at e, by simp⟩
theorem good_lex {r : List UInt8} {o : Nat} {ts : List Tok} (h : Lex r o ts) : ∀ t ∈ ts, GoodT t := by
  induction h with
  | nil => intro t ht; cases ht
  | blank _ ih => exact ih
  | tok _ _ ho _ ih =>
    intro t ht
    rcases List.mem_cons.1 ht with rfl | ht
    · have G := good_one ho
      exact ⟨G.num, G.place, G.word, G.kind⟩
    · exact ih t ht
theorem good_ans {l : List UInt8} (h : ansE l = 0) (hl : l.length ≤ 200) : GoodL (ansL l) := fun _ t ht => good_lex (ans_ok h hl) t (List.mem_of_getElem? ht)
theorem parsed_back {l : List UInt8} (h : ansE l = 0) (hl : l.length ≤ 200) {t : Tr} {q E : Nat} (ht : treeT (ansL l) E = some (.ok t q)) :
    ∃ s ts, Pr .tree t s ts ∧ (s.length ≤ 200 → ansE s = 0 ∧ ∀ E, treeT (ansL s) E = some (.ok t (ansL s).length)) := by
  obtain ⟨s, ts, hp⟩ := tree_may (good_ans h hl) ht
  exact ⟨s, ts, hp, fun hs => by obtain ⟨a, _, b⟩ := pr_back hp hs; exact ⟨a, b⟩⟩
end Go.Proofs.YteflmfifhmlpiaaDoor
namespace Go.Proofs.YteflmfifhmlpiaaDoor

mutual
def deepT : Tr → Nat
  | .mk _ _ _ _ _ _ _ ks => deepL ks + 1
def deepL : List Tr → Nat
  | [] => 0
  | t :: ts => max (deepT t) (deepL ts)
end
def txW (m : Nat) (t : Tr) (s : List UInt8) : List UInt8 := if t.kind = 4 ∧ lvl t.word < m then 40 :: (s ++ [41]) else s
def txJ : List (List UInt8) → List UInt8
  | [] => [41]
  | [s] => s ++ [41]
  | s :: t :: r => s ++ 44 :: txJ (t :: r)
mutual
def txT : Tr → List UInt8
  | .mk k n c r d s w ks =>
    if k = 0 then Lib.decDigits n.toNat else if k = 1 then placeText c r else if k = 6 then placeText c r ++ 58 :: placeText d s
    else if k = 3 then 45 :: txW 4 (ks.getD 0 badT) ((txL ks).getD 0 [])
    else if k = 4 then txW (lvl w) (ks.getD 0 badT) ((txL ks).getD 0 []) ++ (w ++ txW (lvl w + 1) (ks.getD 1 badT) ((txL ks).getD 1 []))
    else if k = 5 then w ++ 40 :: txJ (txL ks) else [35, 82, 69, 70]
def txL : List Tr → List (List UInt8)
  | [] => []
  | t :: ts => txT t :: txL ts
end
theorem txL_nil : txL [] = [] := by rw [txL]
theorem txL_cons (t : Tr) (ts : List Tr) : txL (t :: ts) = txT t :: txL ts := by rw [txL]
def MoT (t : Tr) (s : List UInt8) : Mode → Prop
  | .tree => s = txT t
  | .wi m => s = txW m t (txT t)
  | .item _ => s = txT t
  | .its _ => t.kids ≠ [] ∧ s = txJ (txL t.kids)
theorem pr_tx {md : Mode} {t : Tr} {s : List UInt8} {ts : List Tok} (h : Pr md t s ts) : MoT t s md := by
  induction h with
  | @num n _ => show _ = txT (numT n); unfold numT; rw [txT]; simp
  | @read c r _ => show _ = txT (readT c r); unfold readT; rw [txT]; simp
  | bad => show _ = txT badT; unfold badT; rw [txT]; simp
  | @neg a s ts _ ih =>
    have ih : s = txW 4 a (txT a) := ih
    show _ = txT (negT a); unfold negT; rw [txT]; simp [txL_cons, txL_nil, ih]
  | @op w sa sb a b ta tb _ _ _ iha ihb =>
    have iha : sa = txW (lvl w) a (txT a) := iha
    have ihb : sb = txW (lvl w + 1) b (txT b) := ihb
    show _ = txT (opT w a b); unfold opT; rw [txT]; simp [txL_cons, txL_nil, iha, ihb]
  | @plain m t s ts _ hle ih =>
    have ih : s = txT t := ih
    show _ = txW m t (txT t)
    unfold txW
    rw [if_neg (fun ⟨a, b⟩ => by have := hle a; omega), ih]
  | @brk m t s ts _ hk hlt ih =>
    have ih : s = txT t := ih
    show _ = txW m t (txT t)
    unfold txW
    rw [if_pos ⟨hk, hlt⟩, ih]
  | @cif a b c sa sb sc ta tb tc _ _ _ iha ihb ihc =>
    have iha : sa = txT a := iha
    have ihb : sb = txT b := ihb
    have ihc : sc = txT c := ihc
    show _ = txT (callT [73, 70] [a, b, c]); unfold callT; rw [txT]; simp [txL_cons, txL_nil, txJ, iha, ihb, ihc]
  | @call w s ks ts _ _ ih =>
    obtain ⟨_, ih⟩ := ih
    have ih : s = txJ (txL ks) := ih
    show _ = txT (callT w ks); unfold callT; rw [txT]; simp [ih]
  | itT _ ih => exact ih
  | itBad => show _ = txT badT; unfold badT; rw [txT]; simp
  | @itSpan k c r d s _ _ _ _ => show _ = txT (spanT c r d s); unfold spanT; rw [txT]; simp
  | @last k t s ts _ ih =>
    have ih : s = txT t := ih
    refine ⟨by simp [callT, Tr.kids], ?_⟩
    show _ = txJ (txL [t])
    rw [txL_cons, txL_nil, ih]
    rfl
  | @more k t ks s s' ts ts' _ _ ih ih' =>
    have ih : s = txT t := ih
    obtain ⟨hne, ih'⟩ := ih'
    have hne : ks ≠ [] := hne
    have ih' : s' = txJ (txL ks) := ih'
    refine ⟨by simp [callT, Tr.kids], ?_⟩
    show _ = txJ (txL (t :: ks))
    cases ks with
    | nil => exact absurd rfl hne
    | cons u r =>
      rw [txL_cons, txL_cons, ih, ih', txL_cons]
      rfl
end Go.Proofs.YteflmfifhmlpiaaDoor
namespace Go.Proofs.YteflmfifhmlpiaaDoor
open Go.Lib

def onlyB (t : Tr) (n : Nat) : Bool := match t with
  | .mk k num c r d s w ks => (k == 0 || num == 0) && ((k == 1 || k == 6 || (c == 0 && r == 0 && d == 0 && s == 0)) && ((k == 4 || k == 5 || w == []) && ks.length == n))
mutual
def mayB : Tr → Bool
  | .mk k n c r d s w ks =>
    if k = 0 then onlyB (.mk k n c r d s w ks) 0 && decide (0 ≤ n)
    else if k = 1 then onlyB (.mk k n c r d s w ks) 0 && (rightB c r && (c == d && r == s))
    else if k = 2 then onlyB (.mk k n c r d s w ks) 0
    else if k = 6 then onlyB (.mk k n c r d s w ks) 0 && (rightB c r && rightB d s && decide (c ≤ d) && decide (r ≤ s))
    else if k = 3 then onlyB (.mk k n c r d s w ks) 1 && allB ks false false
    else if k = 4 then onlyB (.mk k n c r d s w ks) 2 && (allB ks false false && decide (1 ≤ lvl w))
    else if k = 5 then onlyB (.mk k n c r d s w ks) ks.length && (allB ks (w != [73, 70]) (w == [67, 79, 85, 78, 84]) && (if w = [73, 70] then ks.length == 3 else if w = [83, 85, 77] ∨ w = [77, 73, 78] ∨ w = [77, 65, 88] ∨ w = [67, 79, 85, 78, 84] then decide (0 < ks.length) else false))
    else false
def allB : List Tr → Bool → Bool → Bool
  | [], _, _ => true
  | t :: ts, spans, corners => (mayB t && ((spans || t.kind != 6) && (!corners || t.kind == 6 || t.kind == 2))) && allB ts spans corners
end
inductive Fit : Tr → Prop
  | mk {k n c r d s : Int} {w : List UInt8} {ks : List Tr} : n ≤ 9223372036854775807 → (∀ t ∈ ks, Fit t) → Fit (.mk k n c r d s w ks)
theorem all_mem {ks : List Tr} {a b : Bool} (h : allB ks a b = true) : ∀ t ∈ ks, mayB t = true ∧ (a = true ∨ t.kind ≠ 6) ∧ (b = false ∨ t.kind = 6 ∨ t.kind = 2) := by
  induction ks with
  | nil => intro t ht; cases ht
  | cons u r ih =>
    rw [allB] at h
    simp only [Bool.and_eq_true, Bool.or_eq_true, Bool.not_eq_true', bne_iff_ne, beq_iff_eq] at h
    obtain ⟨⟨h1, h2, h3⟩, h4⟩ := h
    intro t ht
    rcases List.mem_cons.1 ht with rfl | ht
    · exact ⟨h1, h2, by rcases h3 with (h3 | h3) | h3; exact .inl h3; exact .inr (.inl h3); exact .inr (.inr h3)⟩
    · exact ih h4 t ht
theorem may_ex {t : Tr} (hf : Fit t) : mayB t = true → (t.kind ≠ 6 → Ex .tree t) ∧ (t.kind = 6 → ∀ c, Ex (.item c) t) ∧ (t.kind = 2 → ∀ c, Ex (.item c) t) := by
  induction hf with
  | @mk k n c r d s w ks hn _ ih =>
    intro h
    rw [mayB] at h
    unfold onlyB at h
    by_cases h0 : k = 0
    · subst h0
      simp at h
      obtain ⟨⟨⟨⟨⟨rfl, rfl⟩, rfl⟩, rfl⟩, rfl, rfl⟩, h⟩ := h
      refine ⟨fun _ => ?_, fun e => by simp [Tr.kind] at e, fun e => by simp [Tr.kind] at e⟩
      obtain ⟨m, rfl⟩ := Int.eq_ofNat_of_zero_le h
      exact ⟨_, _, .num (by omega)⟩
    by_cases h1 : k = 1
    · subst h1
      simp at h
      obtain ⟨⟨rfl, rfl, rfl⟩, h, rfl, rfl⟩ := h
      exact ⟨fun _ => ⟨_, _, .read h⟩, fun e => by simp [Tr.kind] at e, fun e => by simp [Tr.kind] at e⟩
    by_cases h2 : k = 2
    · subst h2
      simp at h
      obtain ⟨rfl, ⟨⟨⟨rfl, rfl⟩, rfl⟩, rfl⟩, rfl, rfl⟩ := h
      refine ⟨fun _ => ⟨_, _, .bad⟩, fun e => by simp [Tr.kind] at e, fun _ c => ?_⟩
      cases c
      · exact ⟨_, _, .itT .bad⟩
      · exact ⟨_, _, .itBad⟩
    by_cases h6 : k = 6
    · subst h6
      simp at h
      obtain ⟨⟨rfl, rfl, rfl⟩, ⟨⟨a, b⟩, e⟩, f⟩ := h
      exact ⟨fun e => by simp [Tr.kind] at e, fun _ c => ⟨_, _, .itSpan a b e f⟩, fun e => by simp [Tr.kind] at e⟩
    by_cases h3 : k = 3
    · subst h3
      simp at h
      obtain ⟨⟨rfl, ⟨⟨⟨rfl, rfl⟩, rfl⟩, rfl⟩, rfl, hk⟩, ha⟩ := h
      obtain ⟨a, rfl⟩ := List.length_eq_one_iff.1 hk
      have A := all_mem ha a (by simp)
      exact ⟨fun _ => Ex.neg ((ih a (by simp) A.1).1 (by simpa using A.2.1)), fun e => by simp [Tr.kind] at e, fun e => by simp [Tr.kind] at e⟩
    by_cases h4 : k = 4
    · subst h4
      simp at h
      obtain ⟨⟨rfl, ⟨⟨⟨rfl, rfl⟩, rfl⟩, rfl⟩, hk⟩, ha, hw⟩ := h
      obtain ⟨a, b, rfl⟩ : ∃ a b, ks = [a, b] := by
        match ks, hk with
        | [a, b], _ => exact ⟨a, b, rfl⟩
      have A := all_mem ha a (by simp)
      have B := all_mem ha b (by simp)
      exact ⟨fun _ => Ex.op hw ((ih a (by simp) A.1).1 (by simpa using A.2.1)) ((ih b (by simp) B.1).1 (by simpa using B.2.1)), fun e => by simp [Tr.kind] at e, fun e => by simp [Tr.kind] at e⟩
    by_cases h5 : k = 5
    · subst h5
      rw [if_neg (by decide), if_neg (by decide), if_neg (by decide), if_neg (by decide), if_neg (by decide), if_neg (by decide), if_pos rfl, Bool.and_eq_true] at h
      obtain ⟨ho, h⟩ := h
      rw [Bool.and_eq_true] at h
      obtain ⟨ha, hif⟩ := h
      simp at ho
      obtain ⟨rfl, ⟨⟨⟨rfl, rfl⟩, rfl⟩, rfl⟩⟩ := ho
      refine ⟨fun _ => ?_, fun e => by simp [Tr.kind] at e, fun e => by simp [Tr.kind] at e⟩
      have M := all_mem ha
      by_cases hw : w = [73, 70]
      · subst hw
        rw [if_pos rfl, beq_iff_eq] at hif
        obtain ⟨a, b, c, rfl⟩ : ∃ a b c, ks = [a, b, c] := by
          match ks, hif with
          | [a, b, c], _ => exact ⟨a, b, c, rfl⟩
        have T : ∀ t ∈ [a, b, c], Ex .tree t := fun t ht => (ih t ht (M t ht).1).1 (by simpa using (M t ht).2.1)
        obtain ⟨_, _, A⟩ := T a (by simp)
        obtain ⟨_, _, B⟩ := T b (by simp)
        obtain ⟨_, _, C⟩ := T c (by simp)
        exact ⟨_, _, .cif A B C⟩
      · rw [if_neg hw] at hif
        split at hif
        · rename_i hc
          have hne : ks ≠ [] := by
            rintro rfl
            simp at hif
          obtain ⟨_, _, I⟩ := ex_its (k := w == [67, 79, 85, 78, 84]) ks hne fun t ht => by
            obtain ⟨m1, _, m3⟩ := M t ht
            obtain ⟨i1, i2, i3⟩ := ih t ht m1
            by_cases e6 : t.kind = 6
            · exact i2 e6 _
            · by_cases e2 : t.kind = 2
              · exact i3 e2 _
              · rcases m3 with m | m | m
                · rw [m]
                  obtain ⟨_, _, X⟩ := i1 e6
                  exact ⟨_, _, .itT X⟩
                · exact absurd m e6
                · exact absurd m e2
          exact ⟨_, _, .call hc I⟩
        · cases hif
    · simp [h0, h1, h2, h3, h4, h5, h6] at h
end Go.Proofs.YteflmfifhmlpiaaDoor
namespace Go.Proofs.YteflmfifhmlpiaaDoor
open Go.RowKit

def Tr.c1 : Tr → Int | .mk _ _ c _ _ _ _ _ => c
def Tr.r1 : Tr → Int | .mk _ _ _ r _ _ _ _ => r
def Tr.c2 : Tr → Int | .mk _ _ _ _ d _ _ _ => d
def Tr.r2 : Tr → Int | .mk _ _ _ _ _ s _ _ => s
def tv (t : Tr) (A : Option Addr) (cap : Nat) : Value := .agg #[.int .i64 t.kind, .int .i64 t.num, .int .i64 t.c1, .int .i64 t.r1, .int .i64 t.c2, .int .i64 t.r2, .string ⟨t.word.toArray⟩, .slice A t.kids.length cap]
def At8 (w : World) (g o : Nat) (t : Tr) (A : Option Addr) (cap : Nat) : Prop :=
  w.cell? ⟨g, o, none⟩ = some (.int .i64 t.kind) ∧ w.cell? ⟨g, o + 1, none⟩ = some (.int .i64 t.num) ∧ w.cell? ⟨g, o + 2, none⟩ = some (.int .i64 t.c1) ∧ w.cell? ⟨g, o + 3, none⟩ = some (.int .i64 t.r1) ∧
  w.cell? ⟨g, o + 4, none⟩ = some (.int .i64 t.c2) ∧ w.cell? ⟨g, o + 5, none⟩ = some (.int .i64 t.r2) ∧ w.cell? ⟨g, o + 6, none⟩ = some (.string ⟨t.word.toArray⟩) ∧ w.cell? ⟨g, o + 7, none⟩ = some (.slice A t.kids.length cap)
mutual
def KV (w : World) (P : Nat → Prop) : Tr → Option Addr → Prop
  | .mk _ _ _ _ _ _ _ ks, A => ks = [] ∨ ∃ g o, A = some ⟨g, o, none⟩ ∧ P g ∧ g < w.heap.size ∧ KL w P ks g o
def KL (w : World) (P : Nat → Prop) : List Tr → Nat → Nat → Prop
  | [], _, _ => True
  | t :: ts, g, o => (∃ A cap, At8 w g o t A cap ∧ KV w P t A) ∧ KL w P ts g (o + 8)
end
structure Kept (w w' : World) (P : Nat → Prop) : Prop where
  size : w.heap.size ≤ w'.heap.size
  block : ∀ g, P g → g < w.heap.size → w'.heap[g]? = w.heap[g]?
theorem Kept.of_below {w w' : World} {P : Nat → Prop} (h : Below w.heap.size w w') : Kept w w' P := ⟨h.size, fun g _ hg => h.block g hg⟩
theorem Kept.trans {w w' w'' : World} {P : Nat → Prop} (h : Kept w w' P) (h' : Kept w' w'' P) : Kept w w'' P :=
  ⟨Nat.le_trans h.size h'.size, fun g hp hg => (h'.block g hp (Nat.lt_of_lt_of_le hg h.size)).trans (h.block g hp hg)⟩
theorem Kept.refl (w : World) (P : Nat → Prop) : Kept w w P := ⟨Nat.le_refl _, fun _ _ _ => rfl⟩
theorem Kept.cell {w w' : World} {P : Nat → Prop} (h : Kept w w' P) {g o : Nat} (hp : P g) {v : Value} (hv : w.cell? ⟨g, o, none⟩ = some v) : w'.cell? ⟨g, o, none⟩ = some v := by
  have hl : g < w.heap.size := Lib.lt_of_cell hv
  have hb := h.block g hp hl
  rw [← hv]
  unfold World.cell?
  simp only [hb]
theorem At8.kept {w w' : World} {P : Nat → Prop} {g o : Nat} {t : Tr} {A : Option Addr} {cap : Nat} (h : At8 w g o t A cap) (hk : Kept w w' P) (hp : P g) : At8 w' g o t A cap :=
  ⟨hk.cell hp h.1, hk.cell hp h.2.1, hk.cell hp h.2.2.1, hk.cell hp h.2.2.2.1, hk.cell hp h.2.2.2.2.1, hk.cell hp h.2.2.2.2.2.1, hk.cell hp h.2.2.2.2.2.2.1, hk.cell hp h.2.2.2.2.2.2.2⟩
mutual
theorem KV.kept {w w' : World} {P : Nat → Prop} (hk : Kept w w' P) : ∀ {t : Tr} {A : Option Addr}, KV w P t A → KV w' P t A
  | .mk _ _ _ _ _ _ _ ks, A, h => by
    rw [KV] at h ⊢
    rcases h with h | ⟨g, o, rfl, hp, hl, h⟩
    · exact .inl h
    · exact .inr ⟨g, o, rfl, hp, Nat.lt_of_lt_of_le hl hk.size, KL.kept hk hp h⟩
theorem KL.kept {w w' : World} {P : Nat → Prop} (hk : Kept w w' P) : ∀ {ks : List Tr} {g o : Nat}, P g → KL w P ks g o → KL w' P ks g o
  | [], _, _, _, _ => by rw [KL]; trivial
  | t :: ts, g, o, hp, h => by
    rw [KL] at h ⊢
    obtain ⟨⟨A, cap, h8, hv⟩, hl⟩ := h
    exact ⟨⟨A, cap, h8.kept hk hp, KV.kept hk hv⟩, KL.kept hk hp hl⟩
end
theorem KL.at {w : World} {P : Nat → Prop} : ∀ {ks : List Tr} {g o : Nat}, KL w P ks g o → ∀ {i : Nat} {t : Tr}, ks[i]? = some t → ∃ A cap, At8 w g (o + 8 * i) t A cap ∧ KV w P t A
  | [], _, _, _, i, t, hi => by simp at hi
  | u :: us, g, o, h, i, t, hi => by
    rw [KL] at h
    obtain ⟨⟨A, cap, h8, hv⟩, hl⟩ := h
    match i, hi with
    | 0, hi =>
      simp at hi
      subst hi
      exact ⟨A, cap, h8, hv⟩
    | i + 1, hi =>
      have := hl.at (i := i) (t := t) (by simpa using hi)
      rwa [show o + 8 + 8 * i = o + 8 * (i + 1) from by omega] at this
theorem KL.of {w : World} {P : Nat → Prop} : ∀ {ks : List Tr} {g o : Nat}, (∀ (i : Nat) (t : Tr), ks[i]? = some t → ∃ A cap, At8 w g (o + 8 * i) t A cap ∧ KV w P t A) → KL w P ks g o
  | [], _, _, _ => by rw [KL]; trivial
  | t :: ts, g, o, h => by
    rw [KL]
    refine ⟨?_, KL.of fun i u hu => ?_⟩
    · have := h 0 t (by simp)
      simpa using this
    · have := h (i + 1) u (by simpa using hu)
      rwa [show o + 8 + 8 * i = o + 8 * (i + 1) from by omega]
theorem KV.kids {w : World} {P : Nat → Prop} {t : Tr} {A : Option Addr} (h : KV w P t A) : t.kids = [] ∨ ∃ g o, A = some ⟨g, o, none⟩ ∧ P g ∧ g < w.heap.size ∧ KL w P t.kids g o := by
  cases t
  rw [KV] at h
  exact h
theorem KV.mk {w : World} {P : Nat → Prop} {t : Tr} {A : Option Addr} (h : t.kids = [] ∨ ∃ g o, A = some ⟨g, o, none⟩ ∧ P g ∧ g < w.heap.size ∧ KL w P t.kids g o) : KV w P t A := by
  cases t
  rw [KV]
  exact h
theorem KV.kid {w : World} {P : Nat → Prop} {t u : Tr} {g o : Nat} (h : KV w P t (some ⟨g, o, none⟩)) {i : Nat} (hi : t.kids[i]? = some u) : P g ∧ g < w.heap.size ∧ ∃ A cap, At8 w g (o + 8 * i) u A cap ∧ KV w P u A := by
  rcases h.kids with h | ⟨g', o', he, hp, hl, h⟩
  · rw [h] at hi; simp at hi
  · simp at he
    obtain ⟨rfl, rfl⟩ := he
    exact ⟨hp, hl, h.at hi⟩
theorem KV.addr {w : World} {P : Nat → Prop} {t u : Tr} {A : Option Addr} (h : KV w P t A) {i : Nat} (hi : t.kids[i]? = some u) : ∃ g o, A = some ⟨g, o, none⟩ := by
  rcases h.kids with h | ⟨g, o, he, _⟩
  · rw [h] at hi; simp at hi
  · exact ⟨g, o, he⟩
end Go.Proofs.YteflmfifhmlpiaaDoor
namespace Go.Proofs.YteflmfifhmlpiaaDoor
open Go.RowKit

structure But (R : Nat) (w w' : World) : Prop where
  os : w'.os = w.os
  tape : w'.tape = w.tape
  output : w'.output = w.output
  size : w.heap.size ≤ w'.heap.size
  block : ∀ k, k < w.heap.size → k ≠ R → w'.heap[k]? = w.heap[k]?
theorem But.refl (R : Nat) (w : World) : But R w w := ⟨rfl, rfl, rfl, Nat.le_refl _, fun _ _ _ => rfl⟩
theorem But.trans {R : Nat} {a b c : World} (h : But R a b) (k : But R b c) : But R a c :=
  ⟨k.os.trans h.os, k.tape.trans h.tape, k.output.trans h.output, Nat.le_trans h.size k.size, fun i hi hn => (k.block i (Nat.lt_of_lt_of_le hi h.size) hn).trans (h.block i hi hn)⟩
theorem But.of_below {R : Nat} {w w' : World} (h : Below w.heap.size w w') : But R w w' := ⟨h.os, h.tape, h.output, h.size, fun k hk _ => h.block k hk⟩
theorem But.alloc {R : Nat} {a w : World} (h : But R a w) (o : Obj) : But R a (w.alloc o) := h.trans (But.of_below ((Below.refl _ _).alloc (Nat.le_refl _) o))
theorem But.drew {R : Nat} {a w : World} (h : But R a w) : But R a w.drew := ⟨h.os, h.tape, h.output, h.size, h.block⟩
theorem But.setCell {R : Nat} {a w : World} (h : But R a w) {p : Addr} (hp : p.block = R ∨ a.heap.size ≤ p.block) (u : Value) : But R a (w.setCell p u) := by
  have hb := (Below.refl 0 w).setCell (p := p) (Nat.zero_le _) u
  refine ⟨hb.os.trans h.os, hb.tape.trans h.tape, hb.output.trans h.output, Nat.le_trans h.size hb.size, fun k hk hn => ?_⟩
  rw [Below.heap_setCell w p u k (by rcases hp with hp | hp; exact fun e => hn (e.trans hp); exact fun e => by omega)]
  exact h.block k hk hn
theorem But.setR {R : Nat} {a w : World} (h : But R a w) (o : Nat) (u : Value) : But R a (w.setCell ⟨R, o, none⟩ u) := h.setCell (.inl rfl) u
theorem But.setN {R : Nat} {a w : World} (h : But R a w) {g : Nat} (hg : a.heap.size ≤ g) (o : Nat) (u : Value) : But R a (w.setCell ⟨g, o, none⟩ u) := h.setCell (.inr hg) u
theorem But.drewN {R : Nat} {a w : World} (h : But R a w) (n : Nat) : But R a (w.drewN n) := h.trans (But.of_below (below_drewN (Below.refl _ _) n))
theorem But.cell {R : Nat} {w w' : World} (h : But R w w') {p : Addr} {v : Value} (hne : p.block ≠ R) (hv : w.cell? p = some v) : w'.cell? p = some v := by
  rw [World.cell?_of_block (w := w) (h.block p.block (Lib.lt_of_cell hv) hne)]; exact hv
theorem But.frozen {R : Nat} {w w' : World} (h : But R w w') {p : Addr} (hne : p.block ≠ R) (hl : p.block < w.heap.size) (hv : w.frozen? p = false) : w'.frozen? p = false := by
  rw [World.frozen?_of_block (w := w) (h.block p.block hl hne)]; exact hv
theorem But.kept {R : Nat} {w w' : World} (h : But R w w') : Kept w w' (fun g => g ≠ R) := ⟨h.size, fun g hp hl => h.block g hl hp⟩
theorem But.below {R n : Nat} {w w' : World} (h : But R w w') (hn : n ≤ R) (hs : n ≤ w.heap.size) : Below n w w' := ⟨h.os, h.tape, h.output, h.size, fun k hk => h.block k (by omega) (by omega)⟩

def TK (w : World) (R : Nat) (A : Option Addr) (L : List Tok) : Prop := L = [] ∨ ∃ g, A = some ⟨g, 0, none⟩ ∧ g ≠ R ∧ g < w.heap.size ∧ AtT w g L
structure RC (w : World) (R : Nat) (A : Option Addr) (cap : Nat) (L : List Tok) (E : Nat) (p : Int) (f : Bool) (x : Int) : Prop where
  c0 : w.cell? ⟨R, 0, none⟩ = some (.slice A L.length cap)
  c1 : w.cell? ⟨R, 1, none⟩ = some (.int .i64 p)
  c2 : w.cell? ⟨R, 2, none⟩ = some (.int .i64 (E : Int))
  c3 : w.cell? ⟨R, 3, none⟩ = some (.bool f)
  c4 : w.cell? ⟨R, 4, none⟩ = some (.int .i64 x)
  f1 : w.frozen? ⟨R, 1, none⟩ = false
  f3 : w.frozen? ⟨R, 3, none⟩ = false
  f4 : w.frozen? ⟨R, 4, none⟩ = false
theorem RC.lt {w : World} {R : Nat} {A : Option Addr} {cap : Nat} {L : List Tok} {E : Nat} {p : Int} {f : Bool} {x : Int} (h : RC w R A cap L E p f x) : R < w.heap.size := Lib.lt_of_cell h.c0
theorem RC.below {w w' : World} {R : Nat} {A : Option Addr} {cap : Nat} {L : List Tok} {E : Nat} {p : Int} {f : Bool} {x : Int} (h : RC w R A cap L E p f x) (hb : Below w.heap.size w w') : RC w' R A cap L E p f x :=
  ⟨keep_cell hb h.c0, keep_cell hb h.c1, keep_cell hb h.c2, keep_cell hb h.c3, keep_cell hb h.c4, keep_frozen hb h.lt h.f1, keep_frozen hb h.lt h.f3, keep_frozen hb h.lt h.f4⟩
theorem AtT.but {R g : Nat} {w w' : World} {L : List Tok} (h : AtT w g L) (hb : But R w w') (hg : g ≠ R) : AtT w' g L := fun i t hi => by
  obtain ⟨a, b, c, d, e, f⟩ := h i t hi
  exact ⟨hb.cell hg a, hb.cell hg b, hb.cell hg c, hb.cell hg d, hb.cell hg e, hb.cell hg f⟩
theorem TK.but {R : Nat} {w w' : World} {A : Option Addr} {L : List Tok} (h : TK w R A L) (hb : But R w w') : TK w' R A L := by
  rcases h with h | ⟨g, e, hn, hl, ht⟩
  · exact .inl h
  · exact .inr ⟨g, e, hn, Nat.lt_of_lt_of_le hl hb.size, ht.but hb hn⟩
theorem TK.at {w : World} {R : Nat} {A : Option Addr} {L : List Tok} (h : TK w R A L) {i : Nat} {t : Tok} (hi : L[i]? = some t) : ∃ g, A = some ⟨g, 0, none⟩ ∧ g ≠ R ∧ g < w.heap.size ∧ w.cell? ⟨g, i * 6, none⟩ = some (.int .i64 t.kind) ∧ w.cell? ⟨g, i * 6 + 1, none⟩ = some (.int .i64 t.num) ∧ w.cell? ⟨g, i * 6 + 2, none⟩ = some (.int .i64 t.col) ∧
    w.cell? ⟨g, i * 6 + 3, none⟩ = some (.int .i64 t.row) ∧ w.cell? ⟨g, i * 6 + 4, none⟩ = some (.string ⟨t.text.toArray⟩) ∧ w.cell? ⟨g, i * 6 + 5, none⟩ = some (.int .i64 (t.frm : Int)) := by
  rcases h with h | ⟨g, e, hn, hl, ht⟩
  · rw [h] at hi; simp at hi
  · exact ⟨g, e, hn, hl, ht i t hi⟩
theorem zBa {R : Nat} {a w : World} (h : But R a w) (o : Obj) : But R a (w.alloc o) := h.alloc o
theorem zBd {R : Nat} {a w : World} (h : But R a w) : But R a w.drew := h.drew
theorem zBr {R : Nat} {a w : World} (h : But R a w) (o : Nat) (u : Value) : But R a (w.setCell ⟨R, o, none⟩ u) := h.setR o u
theorem zBs {R : Nat} {a w : World} (h : But R a w) {g : Nat} (hg : a.heap.size ≤ g) (o : Nat) (u : Value) : But R a (w.setCell ⟨g, o, none⟩ u) := h.setN hg o u
theorem zBn {R : Nat} {a w : World} (h : But R a w) (n : Nat) : But R a (w.drewN n) := h.drewN n
end Go.Proofs.YteflmfifhmlpiaaDoor
