/- Texts joined: LxM, LxN, SyA, SyB, SyC, SyD, SyE. -/
import Derived.Test.YteflmfifhmlpiaaDoorMa05
set_option linter.all false
set_option linter.unusedVariables false
set_option linter.unusedSimpArgs false
namespace Go.Proofs.YteflmfifhmlpiaaDoor
open Go.RowKit

inductive Lex : List UInt8 → Nat → List Tok → Prop
  | nil (o : Nat) : Lex [] o []
  | blank {r : List UInt8} {o : Nat} {ts : List Tok} : Lex r (o + 1) ts → Lex (32 :: r) o ts
  | tok {r : List UInt8} {o : Nat} {t : Tok} {n : Nat} {ts : List Tok} : r ≠ [] → r.head? ≠ some 32 → oneT r 0 = some (t, n) → Lex (r.drop n) (o + n) ts → Lex r o ({ t with frm := o } :: ts)
theorem scan_lex {l : List UInt8} : ∀ (k p : Nat) (acc a : List Tok) (q : Nat), p ≤ l.length → scanF l k p acc = (some a, q) → ∃ ts, a = acc ++ ts ∧ Lex (l.drop p) p ts
  | 0, p, acc, a, q, _, h => by simp [scanF] at h
  | k + 1, p, acc, a, q, hp, h => by
    unfold scanF at h
    split at h
    · rename_i hlt
      have e : l.drop p = l[p] :: l.drop (p + 1) := List.drop_eq_getElem_cons hlt
      have g : l.getD p 0 = l[p] := by simp [List.getD_eq_getElem?_getD, hlt]
      split at h
      · rename_i hc
        obtain ⟨ts, rfl, hL⟩ := scan_lex k (p + 1) acc a q (by omega) h
        refine ⟨ts, rfl, ?_⟩
        rw [e, ← g, hc]
        exact .blank hL
      · rename_i hc
        split at h
        · simp at h
        · rename_i t n ho
          obtain ⟨h0, h1⟩ := one_pos' hlt ho
          obtain ⟨ts, rfl, hL⟩ := scan_lex k (p + n) (acc ++ [t]) a q h1 h
          rw [one_drop] at ho
          cases ho' : oneT (l.drop p) 0 with
          | none => rw [ho'] at ho; cases ho
          | some x =>
            obtain ⟨t', n'⟩ := x
            rw [ho'] at ho
            simp at ho
            obtain ⟨rfl, rfl⟩ := ho
            refine ⟨{ t' with frm := p } :: ts, by simp, ?_⟩
            refine .tok (by rw [e]; exact List.cons_ne_nil _ _) (by rw [e, ← g]; simpa using hc) ho' ?_
            rw [List.drop_drop]
            exact hL
    · simp at h
      refine ⟨[], by simp [h.1], ?_⟩
      rw [List.drop_eq_nil_of_le (by omega)]
      exact .nil p
theorem lex_scan {l r : List UInt8} {o : Nat} {ts : List Tok} (h : Lex r o ts) : l.drop o = r → o ≤ l.length → ∀ k, l.length < k + o → ∀ acc, scanF l k o acc = (some (acc ++ ts), 0) := by
  induction h with
  | nil o =>
    intro hd ho k hk acc
    have hlen : l.length ≤ o := by
      have := congrArg List.length hd
      simp at this
      omega
    cases k with
    | zero => omega
    | succ k =>
      unfold scanF
      rw [if_neg (by omega)]
      simp
  | @blank r o ts _ ih =>
    intro hd ho k hk acc
    have hlt : o < l.length := by
      have := congrArg List.length hd
      simp at this
      omega
    have g : l.getD o 0 = 32 := by
      have := getD_drop l o 0
      rw [hd] at this
      simpa using this.symm
    cases k with
    | zero => omega
    | succ k =>
      unfold scanF
      rw [if_pos hlt, if_pos g]
      refine ih ?_ (by omega) k (by omega) acc
      rw [show o + 1 = o + 1 from rfl, ← List.drop_drop, hd]
      rfl
  | @tok r o t n ts hr h32 ho _ ih =>
    intro hd hol k hk acc
    have hlt : o < l.length := by
      have := congrArg List.length hd
      have h1 := List.length_pos_iff.2 hr
      simp at this
      omega
    have g : l.getD o 0 ≠ 32 := by
      have := getD_drop l o 0
      rw [hd] at this
      intro e
      apply h32
      cases r with
      | nil => exact absurd rfl hr
      | cons c q =>
        have e2 : c = 32 := by rw [Nat.add_zero, e] at this; simpa using this
        rw [e2]; rfl
    have ho2 : oneT l o = some ({ t with frm := o }, n) := by rw [one_drop, hd, ho]; rfl
    obtain ⟨h0, h1⟩ := one_pos' hlt ho2
    cases k with
    | zero => omega
    | succ k =>
      unfold scanF
      rw [if_pos hlt, if_neg g, ho2]
      show scanF l k (o + n) (acc ++ [_]) = _
      have hi := ih (by rw [← List.drop_drop, hd]) h1 k (by omega) (acc ++ [{ t with frm := o }])
      rw [List.append_assoc] at hi
      exact hi
theorem lex_of {l : List UInt8} {a : List Tok} {q : Nat} (h : scanT l = (some a, q)) : Lex l 0 a := by
  obtain ⟨ts, rfl, hL⟩ := scan_lex (l.length + 1) 0 [] a q (Nat.zero_le _) h
  rw [List.drop_zero] at hL
  exact hL
theorem of_lex {l : List UInt8} {a : List Tok} (h : Lex l 0 a) : scanT l = (some a, 0) := by
  have := lex_scan (l := l) h (by simp) (Nat.zero_le _) (l.length + 1) (by omega) []
  exact this
def onT (k : Nat) (t : Tok) : Tok := { t with frm := t.frm + k }
theorem lex_shift {r : List UInt8} {o : Nat} {ts : List Tok} (k : Nat) (h : Lex r o ts) : Lex r (o + k) (ts.map (onT k)) := by
  induction h with
  | nil o => exact .nil _
  | @blank r o ts _ ih => exact .blank (by rwa [show o + k + 1 = o + 1 + k from by omega])
  | @tok r o t n ts hr h32 ho _ ih => exact .tok (t := t) hr h32 ho (by rwa [show o + k + n = o + n + k from by omega])
theorem lex_front {r : List UInt8} {ts : List Tok} : ∀ (k o : Nat), Lex r (o + k) ts → Lex (List.replicate k 32 ++ r) o ts
  | 0, _, h => by simpa using h
  | k + 1, o, h => by
    rw [List.replicate_succ]
    exact .blank (lex_front k (o + 1) (by rwa [show o + 1 + k = o + (k + 1) from by omega]))
theorem lex_blanks : ∀ (k o : Nat), Lex (List.replicate k 32) o []
  | 0, o => .nil o
  | k + 1, o => by rw [List.replicate_succ]; exact .blank (lex_blanks k (o + 1))
theorem lex_back {r : List UInt8} {o : Nat} {ts : List Tok} (k : Nat) (h : Lex r o ts) : Lex (r ++ List.replicate k 32) o ts := by
  induction h with
  | nil o => simpa using lex_blanks k o
  | blank _ ih => exact .blank ih
  | @tok r o t n ts hr h32 ho _ ih =>
    obtain ⟨hn, hle⟩ := one_pos' (l := r) (p := 0) (List.length_pos_iff.2 hr) ho
    rw [Nat.zero_add] at hle
    have e : r ++ List.replicate k 32 = r.take n ++ (r.drop n ++ List.replicate k 32) := by rw [← List.append_assoc, List.take_append_drop]
    have hd : (r ++ List.replicate k 32).drop n = r.drop n ++ List.replicate k 32 := List.drop_append_of_le_length hle
    refine .tok (t := t) (n := n) (by simp [hr]) ?_ ?_ (by rw [hd]; exact ih)
    · cases r with
      | nil => exact absurd rfl hr
      | cons c q => exact h32
    · rw [e]
      refine one_local hr ho ?_
      cases hx : r.drop n with
      | nil =>
        cases k with
        | zero => exact .inl rfl
        | succ k => exact .inr (.inl rfl)
      | cons c q => exact .inr (.inr rfl)
def nextP (e : Nat) (ts : List Tok) : Nat := match ts with | [] => e | t :: _ => t.frm
theorem lex_gap {r : List UInt8} {o : Nat} {ts : List Tok} (h : Lex r o ts) : o ≤ nextP (o + r.length) ts ∧ nextP (o + r.length) ts ≤ o + r.length ∧ r.take (nextP (o + r.length) ts - o) = List.replicate (nextP (o + r.length) ts - o) 32 := by
  induction h with
  | nil o => exact ⟨Nat.le_refl _, Nat.le_refl _, by simp [nextP]⟩
  | @blank r o ts _ ih =>
    obtain ⟨h1, h2, h3⟩ := ih
    have e : o + 1 + r.length = o + (32 :: r).length := by simp; omega
    rw [e] at h1 h2 h3
    refine ⟨by omega, h2, ?_⟩
    have e2 : nextP (o + (32 :: r).length) ts - o = (nextP (o + (32 :: r).length) ts - (o + 1)) + 1 := by omega
    rw [e2, List.take_succ_cons, List.replicate_succ, h3]
  | @tok r o t n ts hr h32 ho _ ih => exact ⟨Nat.le_refl _, by show o ≤ _; omega, by simp [nextP]⟩
def apartL (l : List UInt8) : List Tok → List UInt8
  | [] => []
  | t :: ts => (l.drop t.frm).take (nextP l.length ts - t.frm) ++ [32] ++ apartL l ts
def bareT (t : Tok) : Tok := { t with frm := 0 }
theorem lex_apart {l r : List UInt8} {o : Nat} {ts : List Tok} (h : Lex r o ts) : l.drop o = r → o ≤ l.length → ∀ p, ∃ ts', Lex (apartL l ts) p ts' ∧ ts'.map bareT = ts.map bareT := by
  induction h with
  | nil o => intro _ _ p; exact ⟨[], .nil p, rfl⟩
  | @blank r o ts _ ih =>
    intro hd ho p
    have hlt : o < l.length := by
      have := congrArg List.length hd
      simp at this
      omega
    exact ih (by rw [← List.drop_drop, hd]; rfl) (by omega) p
  | @tok r o t n ts hr h32 ho hL ih =>
    intro hd hol p
    obtain ⟨hn, hle⟩ := one_pos' (l := r) (p := 0) (List.length_pos_iff.2 hr) ho
    rw [Nat.zero_add] at hle
    have hlen : l.length = o + r.length := by
      have := congrArg List.length hd
      simp at this
      omega
    obtain ⟨g1, g2, g3⟩ := lex_gap hL
    have e1 : o + n + (r.drop n).length = l.length := by rw [List.length_drop]; omega
    rw [e1] at g1 g2 g3
    obtain ⟨m, hm⟩ : ∃ m, nextP l.length ts = o + n + m := ⟨nextP l.length ts - (o + n), by omega⟩
    have hp : (l.drop o).take (nextP l.length ts - o) = r.take n ++ List.replicate m 32 := by
      rw [hd, hm, show o + n + m - o = n + m from by omega, List.take_add]
      rw [hm, show o + n + m - (o + n) = m from by omega] at g3
      rw [g3]
    obtain ⟨ts', hx, hy⟩ := ih (by rw [← List.drop_drop, hd]) (by omega) (p + n + (m + 1))
    have e2 : apartL l ({ t with frm := o } :: ts) = r.take n ++ (List.replicate (m + 1) 32 ++ apartL l ts) := by
      show (l.drop o).take (nextP l.length ts - o) ++ [32] ++ apartL l ts = _
      rw [hp, List.replicate_succ']
      simp
    rw [e2]
    have htl : (r.take n).length = n := by rw [List.length_take]; omega
    refine ⟨{ t with frm := p } :: ts', .tok (t := t) (n := n) ?_ ?_ ?_ ?_, by simp [hy, bareT]⟩
    · cases r with
      | nil => exact absurd rfl hr
      | cons c q =>
        cases n with
        | zero => omega
        | succ k => simp
    · cases r with
      | nil => exact absurd rfl hr
      | cons c q =>
        cases n with
        | zero => omega
        | succ k => exact h32
    · exact one_local hr ho (.inr (.inl (by simp [List.replicate_succ])))
    · have hd2 : (r.take n ++ (List.replicate (m + 1) 32 ++ apartL l ts)).drop n = List.replicate (m + 1) 32 ++ apartL l ts := List.drop_left' htl
      rw [hd2]
      exact lex_front (m + 1) (p + n) hx
end Go.Proofs.YteflmfifhmlpiaaDoor
namespace Go.Proofs.YteflmfifhmlpiaaDoor
open Go.RowKit

theorem nextP_le {r : List UInt8} {o : Nat} {ts : List Tok} (h : Lex r o ts) : nextP (o + r.length) ts ≤ o + r.length := (lex_gap h).2.1
theorem lex_rise {r : List UInt8} {o : Nat} {ts : List Tok} (h : Lex r o ts) : ∀ (i : Nat) (t : Tok), ts[i]? = some t → t.frm < nextP (o + r.length) (ts.drop (i + 1)) ∧ nextP (o + r.length) (ts.drop (i + 1)) ≤ o + r.length := by
  induction h with
  | nil o => intro i t hi; simp at hi
  | @blank r o ts _ ih =>
    intro i t hi
    have e : o + 1 + r.length = o + (32 :: r).length := by simp; omega
    rw [← e]
    exact ih i t hi
  | @tok r o t n ts hr h32 ho hL ih =>
    intro i u hi
    obtain ⟨hn, hle⟩ := one_pos' (l := r) (p := 0) (List.length_pos_iff.2 hr) ho
    rw [Nat.zero_add] at hle
    have e1 : o + n + (r.drop n).length = o + r.length := by rw [List.length_drop]; omega
    cases i with
    | zero =>
      obtain ⟨g1, g2, _⟩ := lex_gap hL
      rw [e1] at g1 g2
      simp at hi
      subst hi
      show o < nextP (o + r.length) ts ∧ _
      exact ⟨by omega, g2⟩
    | succ j =>
      have := ih j u (by simpa using hi)
      rwa [e1] at this
def apartI (l : List UInt8) (ts : List Tok) : Nat → List UInt8
  | 0 => []
  | i + 1 => apartI l ts i ++ (match ts[i]? with | some t => (l.drop t.frm).take (nextP l.length (ts.drop (i + 1)) - t.frm) ++ [32] | none => [])
theorem apartI_cons (l : List UInt8) (t : Tok) (ts : List Tok) : ∀ i, apartI l (t :: ts) (i + 1) = (l.drop t.frm).take (nextP l.length ts - t.frm) ++ [32] ++ apartI l ts i
  | 0 => by simp [apartI]
  | i + 1 => by
    rw [apartI, apartI_cons l t ts i, apartI]
    simp
theorem apartI_all (l : List UInt8) : ∀ ts : List Tok, apartI l ts ts.length = apartL l ts
  | [] => rfl
  | t :: ts => by
    rw [List.length_cons, apartI_cons, apartI_all l ts]
    rfl
theorem apartI_succ {l : List UInt8} {ts : List Tok} {i : Nat} {t : Tok} (h : ts[i]? = some t) : apartI l ts (i + 1) = apartI l ts i ++ ((l.drop t.frm).take (nextP l.length (ts.drop (i + 1)) - t.frm) ++ [32]) := by
  rw [apartI, h]
theorem lex_len {r : List UInt8} {o : Nat} {ts : List Tok} (h : Lex r o ts) : ts.length ≤ r.length := by
  induction h with
  | nil o => exact Nat.le_refl _
  | blank _ ih => simp; omega
  | @tok r o t n ts hr h32 ho hL ih =>
    obtain ⟨hn, hle⟩ := one_pos' (l := r) (p := 0) (List.length_pos_iff.2 hr) ho
    rw [List.length_drop] at ih
    simp
    omega
theorem apart_len {l : List UInt8} : ∀ {ts : List Tok} {r : List UInt8} {o : Nat}, Lex r o ts → o + r.length = l.length → nextP l.length ts + (apartL l ts).length ≤ l.length + ts.length := by
  intro ts r o h
  induction h with
  | nil o => intro e; simp [nextP, apartL]
  | @blank r o ts _ ih => intro e; exact ih (by simp at e; omega)
  | @tok r o t n ts hr h32 ho hL ih =>
    intro e
    obtain ⟨hn, hle⟩ := one_pos' (l := r) (p := 0) (List.length_pos_iff.2 hr) ho
    rw [Nat.zero_add] at hle
    have e1 : o + n + (r.drop n).length = l.length := by rw [List.length_drop]; omega
    have := ih e1
    obtain ⟨g1, g2, _⟩ := lex_gap hL
    rw [e1] at g1 g2
    show o + ((l.drop o).take (nextP l.length ts - o) ++ [32] ++ apartL l ts).length ≤ l.length + (ts.length + 1)
    simp
    omega
theorem ans_ok {l : List UInt8} (h : ansE l = 0) (hl : l.length ≤ 200) : Lex l 0 (ansL l) := by
  cases hs : scanT l with
  | mk o q =>
    cases o with
    | none => rw [(ans_none (by omega) hs).2.2] at h; cases h
    | some a =>
      have hL := lex_of hs
      have e := of_lex hL
      rw [(ans_some (by omega) e).1]
      exact hL
theorem lex_ans {l : List UInt8} {ts : List Tok} (h : Lex l 0 ts) (hl : l.length ≤ 200) : ansL l = ts ∧ ansE l = 0 := by
  have := ans_some (l := l) (by omega) (of_lex h)
  exact ⟨this.1, this.2.2⟩
theorem ans_blanks {l : List UInt8} (h : ansE l = 0) (hl : l.length ≤ 90) {k : Nat} (hk : k ≤ 8) : ansL (List.replicate k 32 ++ l ++ List.replicate k 32) = (ansL l).map (onT k) ∧ ansE (List.replicate k 32 ++ l ++ List.replicate k 32) = 0 := by
  have h0 := lex_shift k (ans_ok h (by omega))
  have h1 := lex_front k 0 (lex_back k h0)
  rw [← List.append_assoc] at h1
  exact lex_ans h1 (by simp; omega)
theorem ans_apart {l : List UInt8} (h : ansE l = 0) (hl : l.length ≤ 90) : ∃ ts', ansL (apartL l (ansL l)) = ts' ∧ ansE (apartL l (ansL l)) = 0 ∧ ts'.map bareT = (ansL l).map bareT := by
  have h0 := ans_ok h (by omega)
  obtain ⟨ts', h1, h2⟩ := lex_apart (l := l) h0 rfl (Nat.zero_le _) 0
  have h3 := apart_len (l := l) h0 (by simp)
  have h4 := lex_len h0
  have h5 := lex_ans h1 (by omega)
  exact ⟨ts', h5.1, h5.2, h2⟩
theorem ans_err {l : List UInt8} (h : ansE l ≠ 0) : ansL l = [] := by
  by_cases hl : 200 < l.length
  · exact if_pos hl
  · cases hs : scanT l with
    | mk o q =>
      cases o with
      | none => exact (ans_none hl hs).1
      | some a =>
        have e := of_lex (lex_of hs)
        exact absurd (ans_some hl e).2.2 h
end Go.Proofs.YteflmfifhmlpiaaDoor
namespace Go.Proofs.YteflmfifhmlpiaaDoor

inductive Tr where
  | mk (kind num : Int) (c r d s : Int) (word : List UInt8) (kids : List Tr)
deriving Inhabited
def Tr.kind : Tr → Int | .mk k _ _ _ _ _ _ _ => k
def Tr.num : Tr → Int | .mk _ n _ _ _ _ _ _ => n
def Tr.word : Tr → List UInt8 | .mk _ _ _ _ _ _ w _ => w
def Tr.kids : Tr → List Tr | .mk _ _ _ _ _ _ _ ks => ks
def lvl (s : List UInt8) : Nat :=
  if s = [60] ∨ s = [60, 61] ∨ s = [61] ∨ s = [60, 62] ∨ s = [62, 61] ∨ s = [62] then 1
  else if s = [43] ∨ s = [45] then 2 else if s = [42] ∨ s = [47] then 3 else 0
def isMark (L : List Tok) (p : Nat) (s : List UInt8) : Bool := match L[p]? with | some t => t.kind == 5 && t.text == s | none => false
def whr (L : List Tok) (E p : Nat) : Nat := match L[p]? with | some t => t.frm | none => E
def levelAt (L : List Tok) (p : Nat) : Nat := match L[p]? with | some t => if t.kind = 5 then lvl t.text else 0 | none => 0
def isEnd (L : List Tok) (p : Nat) : Bool := match L[p]? with | some t => t.kind == 2 || t.kind == 3 | none => false
inductive Res where
  | ok (t : Tr) (q : Nat)
  | bad (w : Nat)
def Res.next (x : Option Res) (f : Tr → Nat → Option Res) : Option Res := match x with
  | some (.ok t q) => f t q
  | o => o
def mustF (L : List Tok) (E p : Nat) (s : List UInt8) (f : Nat → Option Res) : Option Res := if isMark L p s = true then f (p + 1) else some (.bad (whr L E p))
def opT (w : List UInt8) (a b : Tr) : Tr := .mk 4 0 0 0 0 0 w [a, b]
def negT (a : Tr) : Tr := .mk 3 0 0 0 0 0 [] [a]
def numT (n : Int) : Tr := .mk 0 n 0 0 0 0 [] []
def readT (c r : Int) : Tr := .mk 1 0 c r c r [] []
def badT : Tr := .mk 2 0 0 0 0 0 [] []
def spanT (c r d s : Int) : Tr := .mk 6 0 c r d s [] []
def callT (w : List UInt8) (ks : List Tr) : Tr := .mk 5 0 0 0 0 0 w ks
mutual
def lineF (L : List Tok) (E : Nat) : Nat → Nat → Nat → Option Res
  | 0, _, _ => none
  | k + 1, lev, p => if 3 < lev then prefF L E k p else Res.next (lineF L E k (lev + 1) p) fun t q => restF L E k lev t q
def restF (L : List Tok) (E : Nat) : Nat → Nat → Tr → Nat → Option Res
  | 0, _, _, _ => none
  | k + 1, lev, out, p => if levelAt L p = lev then Res.next (lineF L E k (lev + 1) (p + 1)) fun t q => restF L E k lev (opT ((L.map Tok.text).getD p []) out t) q else some (.ok out p)
def prefF (L : List Tok) (E : Nat) : Nat → Nat → Option Res
  | 0, _ => none
  | k + 1, p => if isMark L p [45] = true then Res.next (prefF L E k (p + 1)) fun t q => some (.ok (negT t) q) else operF L E k p
def operF (L : List Tok) (E : Nat) : Nat → Nat → Option Res
  | 0, _ => none
  | k + 1, p => if isMark L p [40] = true then Res.next (lineF L E k 1 (p + 1)) fun t q => mustF L E q [41] fun q => some (.ok t q)
    else match L[p]? with
      | none => some (.bad E)
      | some t => if t.kind = 5 then some (.bad t.frm) else if t.kind = 1 then some (.ok (numT t.num) (p + 1)) else if t.kind = 2 then some (.ok (readT t.col t.row) (p + 1)) else if t.kind = 3 then some (.ok badT (p + 1))
        else mustF L E (p + 1) [40] fun q =>
          if t.text = [73, 70] then Res.next (lineF L E k 1 q) fun a q => mustF L E q [44] fun q => Res.next (lineF L E k 1 q) fun b q => mustF L E q [44] fun q => Res.next (lineF L E k 1 q) fun c q => mustF L E q [41] fun q => some (.ok (callT [73, 70] [a, b, c]) q)
          else itemsF L E k t.text [] q
def itemsF (L : List Tok) (E : Nat) : Nat → List UInt8 → List Tr → Nat → Option Res
  | 0, _, _, _ => none
  | k + 1, w, acc, p => Res.next (itemF L E k (w == [67, 79, 85, 78, 84]) p) fun t q => if isMark L q [44] = true then itemsF L E k w (acc ++ [t]) (q + 1) else mustF L E q [41] fun q => some (.ok (callT w (acc ++ [t])) q)
def itemF (L : List Tok) (E : Nat) : Nat → Bool → Nat → Option Res
  | 0, _, _ => none
  | k + 1, corners, p =>
    if corners = false ∧ (isEnd L p = false ∨ isMark L (p + 1) [58] = false) then lineF L E k 1 p
    else match L[p]? with
      | none => some (.bad E)
      | some a =>
        if isEnd L p = false then some (.bad a.frm)
        else if isMark L (p + 1) [58] = false ∧ a.kind = 3 then some (.ok badT (p + 1))
        else mustF L E (p + 1) [58] fun q => match L[q]? with
          | none => some (.bad E)
          | some b => if isEnd L q = false then some (.bad b.frm) else if a.kind = 3 ∨ b.kind = 3 then some (.ok badT (q + 1)) else some (.ok (spanT (min a.col b.col) (min a.row b.row) (max a.col b.col) (max a.row b.row)) (q + 1))
end
end Go.Proofs.YteflmfifhmlpiaaDoor
namespace Go.Proofs.YteflmfifhmlpiaaDoor

def Le (a b : Option Res) : Prop := ∀ x, a = some x → b = some x
theorem Le.refl (a : Option Res) : Le a a := fun _ h => h
theorem Le.none (b : Option Res) : Le Option.none b := fun _ h => by cases h
theorem Le.next {a b : Option Res} {f g : Tr → Nat → Option Res} (h : Le a b) (hf : ∀ t q, Le (f t q) (g t q)) : Le (Res.next a f) (Res.next b g) := by
  intro x hx
  cases a with
  | none => cases hx
  | some r =>
    rw [h r rfl]
    cases r with
    | ok t q => exact hf t q x hx
    | bad w => exact hx
theorem Le.must {L : List Tok} {E p : Nat} {s : List UInt8} {f g : Nat → Option Res} (hf : ∀ q, Le (f q) (g q)) : Le (mustF L E p s f) (mustF L E p s g) := by
  unfold mustF
  split
  · exact hf _
  · exact Le.refl _
structure LeAll (L : List Tok) (E k m : Nat) : Prop where
  line : ∀ lev p, Le (lineF L E k lev p) (lineF L E m lev p)
  rest : ∀ lev out p, Le (restF L E k lev out p) (restF L E m lev out p)
  pref : ∀ p, Le (prefF L E k p) (prefF L E m p)
  oper : ∀ p, Le (operF L E k p) (operF L E m p)
  items : ∀ w acc p, Le (itemsF L E k w acc p) (itemsF L E m w acc p)
  item : ∀ c p, Le (itemF L E k c p) (itemF L E m c p)
theorem le_all (L : List Tok) (E : Nat) : ∀ k m, k ≤ m → LeAll L E k m
  | 0, m, _ => by
    constructor <;> intros <;> first | (rw [lineF]; exact Le.none _) | (rw [restF]; exact Le.none _) | (rw [prefF]; exact Le.none _) | (rw [operF]; exact Le.none _) | (rw [itemsF]; exact Le.none _) | (rw [itemF]; exact Le.none _)
  | k + 1, 0, h => absurd h (by omega)
  | k + 1, m + 1, h => by
    have I := le_all L E k m (by omega)
    constructor
    · intro lev p
      simp only [lineF]
      split
      · exact I.pref p
      · exact Le.next (I.line _ _) fun t q => I.rest _ _ _
    · intro lev out p
      simp only [restF]
      split
      · exact Le.next (I.line _ _) fun t q => I.rest _ _ _
      · exact Le.refl _
    · intro p
      simp only [prefF]
      split
      · exact Le.next (I.pref _) fun t q => Le.refl _
      · exact I.oper p
    · intro p
      simp only [operF]
      split
      · exact Le.next (I.line _ _) fun t q => Le.refl _
      · split
        · exact Le.refl _
        · split
          · exact Le.refl _
          · split
            · exact Le.refl _
            · split
              · exact Le.refl _
              · split
                · exact Le.refl _
                · refine Le.must fun q => ?_
                  split
                  · exact Le.next (I.line _ _) fun a q => Le.must fun q => Le.next (I.line _ _) fun b q => Le.must fun q => Le.next (I.line _ _) fun c q => Le.refl _
                  · exact I.items _ _ _
    · intro w acc p
      simp only [itemsF]
      refine Le.next (I.item _ _) fun t q => ?_
      split
      · exact I.items _ _ _
      · exact Le.refl _
    · intro c p
      simp only [itemF]
      split
      · exact I.line _ _
      · exact Le.refl _
end Go.Proofs.YteflmfifhmlpiaaDoor
namespace Go.Proofs.YteflmfifhmlpiaaDoor

def Fine (n lo : Nat) (o : Option Res) : Prop := ∃ x, o = some x ∧ ∀ t q, x = .ok t q → lo ≤ q ∧ q ≤ n
theorem Fine.bad (n lo w : Nat) : Fine n lo (some (.bad w)) := ⟨_, rfl, fun _ _ h => by cases h⟩
theorem Fine.ok {n lo q : Nat} {t : Tr} (h : lo ≤ q) (h2 : q ≤ n) : Fine n lo (some (.ok t q)) := ⟨_, rfl, fun _ _ h' => by cases h'; exact ⟨h, h2⟩⟩
theorem Fine.next {n lo lo' : Nat} {a : Option Res} {f : Tr → Nat → Option Res} (h : Fine n lo a) (hf : ∀ t q, lo ≤ q → q ≤ n → Fine n lo' (f t q)) : Fine n lo' (Res.next a f) := by
  obtain ⟨x, rfl, hx⟩ := h
  cases x with
  | ok t q => exact hf t q (hx t q rfl).1 (hx t q rfl).2
  | bad w => exact Fine.bad _ _ _
theorem mark_lt {L : List Tok} {p : Nat} {s : List UInt8} (h : isMark L p s = true) : p < L.length := by
  unfold isMark at h
  split at h
  · rename_i t ht; exact (List.getElem?_eq_some_iff.1 ht).1
  · cases h
theorem level_lt {L : List Tok} {p lev : Nat} (h : levelAt L p = lev) (hl : 1 ≤ lev) : p < L.length := by
  unfold levelAt at h
  split at h
  · rename_i t ht; exact (List.getElem?_eq_some_iff.1 ht).1
  · omega
theorem Fine.must {L : List Tok} {E p lo : Nat} {s : List UInt8} {f : Nat → Option Res} (hf : p < L.length → Fine L.length lo (f (p + 1))) : Fine L.length lo (mustF L E p s f) := by
  unfold mustF
  split
  · rename_i h; exact hf (mark_lt h)
  · exact Fine.bad _ _ _
structure FineAll (L : List Tok) (E k : Nat) : Prop where
  line : ∀ lev p, 1 ≤ lev → lev ≤ 4 → p ≤ L.length → 8 * (L.length - p) + 7 ≤ k + lev → Fine L.length (p + 1) (lineF L E k lev p)
  rest : ∀ lev out p, 1 ≤ lev → lev ≤ 3 → p ≤ L.length → 8 * (L.length - p) + 1 ≤ k → Fine L.length p (restF L E k lev out p)
  pref : ∀ p, p ≤ L.length → 8 * (L.length - p) + 2 ≤ k → Fine L.length (p + 1) (prefF L E k p)
  oper : ∀ p, p ≤ L.length → 8 * (L.length - p) + 1 ≤ k → Fine L.length (p + 1) (operF L E k p)
  items : ∀ w acc p, p ≤ L.length → 8 * (L.length - p) + 8 ≤ k → Fine L.length (p + 1) (itemsF L E k w acc p)
  item : ∀ c p, p ≤ L.length → 8 * (L.length - p) + 7 ≤ k → Fine L.length (p + 1) (itemF L E k c p)
theorem fine_all (L : List Tok) (E : Nat) : ∀ k, FineAll L E k
  | 0 => by
    constructor <;> intros <;> omega
  | k + 1 => by
    have I := fine_all L E k
    constructor
    · intro lev p h1 h4 hp hk
      simp only [lineF]
      split
      · exact I.pref p hp (by omega)
      · refine Fine.next (I.line _ _ (by omega) (by omega) hp (by omega)) fun t q hq hn => ?_
        obtain ⟨x, hx, h⟩ := I.rest lev t q h1 (by omega) hn (by omega)
        exact ⟨x, hx, fun t q' e => ⟨by have := (h t q' e).1; omega, (h t q' e).2⟩⟩
    · intro lev out p h1 h3 hp hk
      simp only [restF]
      split
      · rename_i hl
        have := level_lt hl h1
        refine Fine.next (I.line _ _ (by omega) (by omega) (by omega) (by omega)) fun t q hq hn => ?_
        obtain ⟨x, hx, h⟩ := I.rest lev (opT ((L.map Tok.text).getD p []) out t) q h1 h3 hn (by omega)
        exact ⟨x, hx, fun t q' e => ⟨by have := (h t q' e).1; omega, (h t q' e).2⟩⟩
      · exact Fine.ok (Nat.le_refl _) hp
    · intro p hp hk
      simp only [prefF]
      split
      · rename_i hm
        have := mark_lt hm
        exact Fine.next (I.pref _ (by omega) (by omega)) fun t q hq hn => Fine.ok (by omega) hn
      · exact I.oper p hp (by omega)
    · intro p hp hk
      simp only [operF]
      split
      · rename_i hm
        have := mark_lt hm
        exact Fine.next (I.line _ _ (by omega) (by omega) (by omega) (by omega)) fun t q hq hn => Fine.must fun h => Fine.ok (by omega) (by omega)
      · split
        · exact Fine.bad _ _ _
        · rename_i t ht
          have hlt := (List.getElem?_eq_some_iff.1 ht).1
          split
          · exact Fine.bad _ _ _
          · split
            · exact Fine.ok (Nat.le_refl _) (by omega)
            · split
              · exact Fine.ok (Nat.le_refl _) (by omega)
              · split
                · exact Fine.ok (Nat.le_refl _) (by omega)
                · refine Fine.must fun h => ?_
                  split
                  · exact Fine.next (I.line _ _ (by omega) (by omega) (by omega) (by omega)) fun a q h1 h2 => Fine.must fun h3 => Fine.next (I.line _ _ (by omega) (by omega) (by omega) (by omega)) fun b q h4 h5 => Fine.must fun h6 => Fine.next (I.line _ _ (by omega) (by omega) (by omega) (by omega)) fun c q h7 h8 => Fine.must fun h9 => Fine.ok (by omega) (by omega)
                  · obtain ⟨x, hx, h'⟩ := I.items t.text [] (p + 1 + 1) (by omega) (by omega)
                    exact ⟨x, hx, fun t q' e => ⟨by have := (h' t q' e).1; omega, (h' t q' e).2⟩⟩
    · intro w acc p hp hk
      simp only [itemsF]
      refine Fine.next (I.item _ _ hp (by omega)) fun t q hq hn => ?_
      split
      · rename_i hm
        have := mark_lt hm
        obtain ⟨x, hx, h'⟩ := I.items w (acc ++ [t]) (q + 1) (by omega) (by omega)
        exact ⟨x, hx, fun t q' e => ⟨by have := (h' t q' e).1; omega, (h' t q' e).2⟩⟩
      · exact Fine.must fun h => Fine.ok (by omega) (by omega)
    · intro c p hp hk
      simp only [itemF]
      split
      · exact I.line _ _ (by omega) (by omega) hp (by omega)
      · split
        · exact Fine.bad _ _ _
        · rename_i a ha
          have hlt := (List.getElem?_eq_some_iff.1 ha).1
          split
          · exact Fine.bad _ _ _
          · split
            · exact Fine.ok (by omega) (by omega)
            · refine Fine.must fun h => ?_
              split
              · exact Fine.bad _ _ _
              · rename_i b hb
                have hlt2 := (List.getElem?_eq_some_iff.1 hb).1
                split
                · exact Fine.bad _ _ _
                · split
                  · exact Fine.ok (by omega) (by omega)
                  · exact Fine.ok (by omega) (by omega)
def treeT (L : List Tok) (E : Nat) : Option Res := lineF L E (8 * L.length + 6) 1 0
theorem tree_some (L : List Tok) (E : Nat) : ∃ x, treeT L E = some x ∧ ∀ t q, x = .ok t q → q ≤ L.length := by
  obtain ⟨x, hx, h⟩ := (fine_all L E (8 * L.length + 6)).line 1 0 (by omega) (by omega) (Nat.zero_le _) (by omega)
  exact ⟨x, hx, fun t q e => (h t q e).2⟩
end Go.Proofs.YteflmfifhmlpiaaDoor
namespace Go.Proofs.YteflmfifhmlpiaaDoor

structure Seg (L : List Tok) (E p q : Nat) (t : Tr) (m0 : Nat) : Prop where
  line : ∀ m, 1 ≤ m → m ≤ m0 → m ≤ 4 → levelAt L q < m → ∃ k, lineF L E k m p = some (.ok t q)
  rest : ∀ m, 1 ≤ m → m ≤ m0 → m ≤ 3 → levelAt L q ≤ m → ∀ x, (∃ k, restF L E k m t q = some x) → ∃ k, lineF L E k m p = some x
  pref : 4 ≤ m0 → ∃ k, prefF L E k p = some (.ok t q)
theorem next_ok {a : Option Res} {t : Tr} {q : Nat} {f : Tr → Nat → Option Res} (h : a = some (.ok t q)) : Res.next a f = f t q := by rw [h]; rfl
theorem rest_stop {L : List Tok} {E k m q : Nat} {t : Tr} (h : ¬ levelAt L q = m) : restF L E (k + 1) m t q = some (.ok t q) := by
  simp only [restF]; rw [if_neg h]
theorem line_pref {L : List Tok} {E k p : Nat} {m : Nat} (h : 3 < m) : lineF L E (k + 1) m p = prefF L E k p := by
  simp only [lineF]; rw [if_pos h]
theorem line_up {L : List Tok} {E p q m : Nat} {t : Tr} {x : Res} (h : ¬ 3 < m) (h1 : ∃ k, lineF L E k (m + 1) p = some (.ok t q)) (h2 : ∃ k, restF L E k m t q = some x) : ∃ k, lineF L E k m p = some x := by
  obtain ⟨k, hk⟩ := h1
  obtain ⟨j, hj⟩ := h2
  have a := (le_all L E k (max k j) (by omega)).line _ _ _ hk
  have b := (le_all L E j (max k j) (by omega)).rest _ _ _ _ hj
  refine ⟨max k j + 1, ?_⟩
  simp only [lineF]
  rw [if_neg h, next_ok a, b]
theorem Seg.down {L : List Tok} {E p q : Nat} {t : Tr} {m0 m1 : Nat} (h : Seg L E p q t m0) (hm : m1 ≤ m0) : Seg L E p q t m1 :=
  ⟨fun m h1 h2 h4 => h.line m h1 (by omega) h4, fun m h1 h2 h3 => h.rest m h1 (by omega) h3, fun h4 => h.pref (by omega)⟩
theorem seg_below {L : List Tok} {E p q : Nat} {t : Tr} {n : Nat} (hD : levelAt L q < n → ∃ k, lineF L E k n p = some (.ok t q)) : ∀ d m, m + d = n → 1 ≤ m → n ≤ 4 →
    (levelAt L q < m → ∃ k, lineF L E k m p = some (.ok t q)) ∧ (m < n → levelAt L q ≤ m → ∀ x, (∃ k, restF L E k m t q = some x) → ∃ k, lineF L E k m p = some x)
  | 0, m, h, _, _ => by
    obtain rfl : m = n := by omega
    exact ⟨hD, fun h => absurd h (by omega)⟩
  | d + 1, m, h, h1, h4 => by
    have I := (seg_below hD d (m + 1) (by omega) (by omega) h4).1
    have R : levelAt L q ≤ m → ∀ x, (∃ k, restF L E k m t q = some x) → ∃ k, lineF L E k m p = some x := fun hl x hx => line_up (by omega) (I (by omega)) hx
    exact ⟨fun hl => R (by omega) _ ⟨1, rest_stop (by omega)⟩, fun _ => R⟩
theorem seg_atom {L : List Tok} {E p q : Nat} {t : Tr} (h : ∃ k, prefF L E k p = some (.ok t q)) : Seg L E p q t 4 := by
  have hD : levelAt L q < 4 → ∃ k, lineF L E k 4 p = some (.ok t q) := fun _ => by
    obtain ⟨k, hk⟩ := h
    exact ⟨k + 1, (line_pref (by omega)).trans hk⟩
  exact ⟨fun m h1 _ h4 => (seg_below hD (4 - m) m (by omega) h1 (by omega)).1, fun m h1 _ h3 => (seg_below hD (4 - m) m (by omega) h1 (by omega)).2 (by omega), fun _ => h⟩
theorem seg_op {L : List Tok} {E p q1 q : Nat} {a b : Tr} {m : Nat} {w : List UInt8} (h1 : 1 ≤ m) (h3 : m ≤ 3) (ha : Seg L E p q1 a m) (hl : levelAt L q1 = m) (hw : (L.map Tok.text).getD q1 [] = w) (hb : Seg L E (q1 + 1) q b (m + 1)) :
    Seg L E p q (opT w a b) m := by
  have R : levelAt L q ≤ m → ∀ x, (∃ k, restF L E k m (opT w a b) q = some x) → ∃ k, lineF L E k m p = some x := fun hq x ⟨j, hj⟩ => by
    refine ha.rest m h1 (Nat.le_refl _) h3 (by omega) x ?_
    obtain ⟨k, hk⟩ := hb.line (m + 1) (by omega) (Nat.le_refl _) (by omega) (by omega)
    have A := (le_all L E k (max k j) (by omega)).line _ _ _ hk
    have B := (le_all L E j (max k j) (by omega)).rest _ _ _ _ hj
    refine ⟨max k j + 1, ?_⟩
    simp only [restF]
    rw [if_pos hl, next_ok A, hw, B]
  have hD : levelAt L q < m → ∃ k, lineF L E k m p = some (.ok (opT w a b) q) := fun hq => R (by omega) _ ⟨1, rest_stop (by omega)⟩
  refine ⟨fun n g1 g2 g4 => (seg_below hD (m - n) n (by omega) g1 (by omega)).1, fun n g1 g2 g3 => ?_, fun h4 => by omega⟩
  by_cases e : n = m
  · subst e; exact R
  · exact (seg_below hD (m - n) n (by omega) g1 (by omega)).2 (by omega)
theorem seg_neg {L : List Tok} {E p q : Nat} {a : Tr} (hm : isMark L p [45] = true) (ha : Seg L E (p + 1) q a 4) : Seg L E p q (negT a) 4 := by
  obtain ⟨k, hk⟩ := ha.pref (Nat.le_refl _)
  refine seg_atom ⟨k + 1, ?_⟩
  simp only [prefF]
  rw [if_pos hm, next_ok hk]
theorem pref_oper {L : List Tok} {E p : Nat} {x : Res} (hm : ¬ isMark L p [45] = true) (h : ∃ k, operF L E k p = some x) : ∃ k, prefF L E k p = some x := by
  obtain ⟨k, hk⟩ := h
  refine ⟨k + 1, ?_⟩
  simp only [prefF]
  rw [if_neg hm, hk]
theorem must_ok {L : List Tok} {E p : Nat} {s : List UInt8} {f : Nat → Option Res} (h : isMark L p s = true) : mustF L E p s f = f (p + 1) := by
  unfold mustF; rw [if_pos h]
theorem mark_uni {L : List Tok} {p : Nat} {s z : List UInt8} (h : isMark L p s = true) (hz : isMark L p z = true) : s = z := by
  unfold isMark at h hz
  cases e : L[p]? with
  | none => rw [e] at h; cases h
  | some t =>
    rw [e] at h hz
    simp at h hz
    rw [← h.2, ← hz.2]
theorem mark_level {L : List Tok} {p : Nat} {s : List UInt8} (h : isMark L p s = true) : levelAt L p = lvl s := by
  unfold isMark at h
  unfold levelAt
  split at h
  · simp at h; rw [if_pos h.1, h.2]
  · cases h
theorem seg_brk {L : List Tok} {E p q : Nat} {t : Tr} (hm : isMark L p [40] = true) (h : Seg L E (p + 1) q t 1) (hc : isMark L q [41] = true) : Seg L E p (q + 1) t 4 := by
  have hl : levelAt L q = 0 := by rw [mark_level hc]; decide
  obtain ⟨k, hk⟩ := h.line 1 (by omega) (by omega) (by omega) (by omega)
  refine seg_atom (pref_oper (fun h' => by have := mark_uni hm h'; revert this; decide) ⟨k + 1, ?_⟩)
  simp only [operF]
  rw [if_pos hm, next_ok hk, must_ok hc]
theorem mark_none {L : List Tok} {p : Nat} {t : Tok} {s : List UInt8} (ht : L[p]? = some t) (hk : t.kind ≠ 5) : ¬ isMark L p s = true := by
  unfold isMark
  rw [ht]
  simp [hk]
theorem seg_leaf {L : List Tok} {E p : Nat} {t : Tok} (ht : L[p]? = some t) {x : Tr} (h : t.kind = 1 ∧ x = numT t.num ∨ t.kind = 2 ∧ x = readT t.col t.row ∨ t.kind = 3 ∧ x = badT) : Seg L E p (p + 1) x 4 := by
  have hk : t.kind ≠ 5 := by rcases h with h | h | h <;> omega
  refine seg_atom (pref_oper (mark_none ht hk) ⟨1, ?_⟩)
  simp only [operF]
  rw [if_neg (mark_none ht hk), ht]
  simp only
  rw [if_neg hk]
  rcases h with ⟨h, rfl⟩ | ⟨h, rfl⟩ | ⟨h, rfl⟩
  · rw [if_pos h]
  · rw [if_neg (by omega), if_pos h]
  · rw [if_neg (by omega), if_neg (by omega), if_pos h]
end Go.Proofs.YteflmfifhmlpiaaDoor
namespace Go.Proofs.YteflmfifhmlpiaaDoor

theorem mark_off {L : List Tok} {p : Nat} {s z : List UInt8} (h : isMark L p s = true) (hz : s ≠ z) : isMark L p z = false := by
  cases e : isMark L p z with
  | false => rfl
  | true => exact absurd (mark_uni h e) hz
theorem mark_at {L : List Tok} {p : Nat} {t : Tok} (h : L[p]? = some t) (hk : t.kind = 5) : isMark L p t.text = true := by
  unfold isMark; rw [h]; simp [hk]
theorem seg_line {L : List Tok} {E p q : Nat} {t : Tr} {s : List UInt8} (h : Seg L E p q t 1) (hm : isMark L q s = true) (hs : lvl s = 0) : ∃ k, lineF L E k 1 p = some (.ok t q) :=
  h.line 1 (by omega) (by omega) (by omega) (by rw [mark_level hm, hs]; omega)
inductive Its (L : List Tok) (E : Nat) (corners : Bool) : Nat → Nat → List Tr → Prop
  | last {p q : Nat} {t : Tr} : (∃ k, itemF L E k corners p = some (.ok t q)) → isMark L q [41] = true → Its L E corners p (q + 1) [t]
  | more {p q r : Nat} {t : Tr} {ts : List Tr} : (∃ k, itemF L E k corners p = some (.ok t q)) → isMark L q [44] = true → Its L E corners (q + 1) r ts → Its L E corners p r (t :: ts)
theorem its_ok {L : List Tok} {E p r : Nat} {w : List UInt8} {ts : List Tr} (h : Its L E (w == [67, 79, 85, 78, 84]) p r ts) : ∀ acc, ∃ k, itemsF L E k w acc p = some (.ok (callT w (acc ++ ts)) r) := by
  induction h with
  | last hi hm =>
    intro acc
    obtain ⟨k, hk⟩ := hi
    refine ⟨k + 1, ?_⟩
    simp only [itemsF]
    rw [next_ok hk, if_neg (by rw [mark_off hm (by decide)]; decide), must_ok hm]
  | @more p q r t ts hi hm _ ih =>
    intro acc
    obtain ⟨k, hk⟩ := hi
    obtain ⟨j, hj⟩ := ih (acc ++ [t])
    have a := (le_all L E k (max k j) (by omega)).item _ _ _ hk
    have b := (le_all L E j (max k j) (by omega)).items _ _ _ _ hj
    refine ⟨max k j + 1, ?_⟩
    simp only [itemsF]
    rw [next_ok a, if_pos hm, b, List.append_assoc, List.singleton_append]
theorem seg_call {L : List Tok} {E p q : Nat} {t : Tok} {ts : List Tr} (ht : L[p]? = some t) (hk : t.kind = 4) (hw : t.text ≠ [73, 70]) (hm : isMark L (p + 1) [40] = true) (h : Its L E (t.text == [67, 79, 85, 78, 84]) (p + 1 + 1) q ts) : Seg L E p q (callT t.text ts) 4 := by
  obtain ⟨k, hk'⟩ := its_ok h []
  refine seg_atom (pref_oper (mark_none ht (by omega)) ⟨k + 1, ?_⟩)
  simp only [operF]
  rw [if_neg (mark_none ht (by omega)), ht]
  simp only
  rw [if_neg (by omega), if_neg (by omega), if_neg (by omega), if_neg (by omega), must_ok hm, if_neg hw, hk', List.nil_append]
theorem seg_if {L : List Tok} {E p q1 q2 q3 : Nat} {t : Tok} {a b c : Tr} (ht : L[p]? = some t) (hk : t.kind = 4) (hw : t.text = [73, 70]) (hm : isMark L (p + 1) [40] = true) (ha : Seg L E (p + 1 + 1) q1 a 1) (h1 : isMark L q1 [44] = true)
    (hb : Seg L E (q1 + 1) q2 b 1) (h2 : isMark L q2 [44] = true) (hc : Seg L E (q2 + 1) q3 c 1) (h3 : isMark L q3 [41] = true) : Seg L E p (q3 + 1) (callT [73, 70] [a, b, c]) 4 := by
  obtain ⟨i, hi⟩ := seg_line ha h1 (by decide)
  obtain ⟨j, hj⟩ := seg_line hb h2 (by decide)
  obtain ⟨k, hk'⟩ := seg_line hc h3 (by decide)
  have A := (le_all L E i (i + j + k) (by omega)).line _ _ _ hi
  have B := (le_all L E j (i + j + k) (by omega)).line _ _ _ hj
  have C := (le_all L E k (i + j + k) (by omega)).line _ _ _ hk'
  refine seg_atom (pref_oper (mark_none ht (by omega)) ⟨i + j + k + 1, ?_⟩)
  simp only [operF]
  rw [if_neg (mark_none ht (by omega)), ht]
  simp only
  rw [if_neg (by omega), if_neg (by omega), if_neg (by omega), if_neg (by omega), must_ok hm, if_pos hw, next_ok A, must_ok h1, next_ok B, must_ok h2, next_ok C, must_ok h3]
def First (L : List Tok) (p q : Nat) : Prop := isEnd L p = true → p + 1 = q ∨ 0 < levelAt L (p + 1)
theorem first_not {L : List Tok} {p q : Nat} {t : Tok} (ht : L[p]? = some t) (h : t.kind ≠ 2 ∧ t.kind ≠ 3) : First L p q := by
  intro he
  unfold isEnd at he
  rw [ht] at he
  simp at he
  omega
theorem mark_is {L : List Tok} {p : Nat} {s : List UInt8} (h : isMark L p s = true) : ∃ t, L[p]? = some t ∧ t.kind = 5 ∧ t.text = s := by
  unfold isMark at h
  cases e : L[p]? with
  | none => rw [e] at h; cases h
  | some t =>
    rw [e] at h
    simp at h
    exact ⟨t, rfl, h.1, h.2⟩
theorem first_mark {L : List Tok} {p q : Nat} {s : List UInt8} (h : isMark L p s = true) : First L p q := by
  obtain ⟨t, ht, hk, _⟩ := mark_is h
  exact first_not ht (by omega)
theorem first_op {L : List Tok} {p q1 q : Nat} (h : First L p q1) (hl : 0 < levelAt L q1) : First L p q := by
  intro he
  rcases h he with h | h
  · exact .inr (by rw [h]; exact hl)
  · exact .inr h
theorem item_line {L : List Tok} {E p q : Nat} {t : Tr} {s : List UInt8} (h : Seg L E p q t 1) (hf : First L p q) (hm : isMark L q s = true) (hs : lvl s = 0) (hc : s ≠ [58]) : ∃ k, itemF L E k false p = some (.ok t q) := by
  obtain ⟨k, hk⟩ := seg_line h hm hs
  refine ⟨k + 1, ?_⟩
  simp only [itemF]
  rw [if_pos, hk]
  refine ⟨trivial, ?_⟩
  cases he : isEnd L p with
  | false => exact .inl rfl
  | true =>
    refine .inr ?_
    rcases hf he with e | e
    · rw [e]; exact mark_off hm hc
    · cases h' : isMark L (p + 1) [58] with
      | false => rfl
      | true => rw [mark_level h'] at e; exact absurd e (by decide)
theorem item_bad {L : List Tok} {E p : Nat} {a : Tok} {s : List UInt8} (h : L[p]? = some a) (hk : a.kind = 3) (hm : isMark L (p + 1) s = true) (hs : s ≠ [58]) : ∃ k, itemF L E k true p = some (.ok badT (p + 1)) := by
  refine ⟨1, ?_⟩
  have he : isEnd L p = true := by unfold isEnd; rw [h]; simp [hk]
  simp only [itemF]
  rw [if_neg (by rintro ⟨h, _⟩; cases h), h]
  simp only
  rw [if_neg (by rw [he]; decide), if_pos ⟨mark_off hm hs, hk⟩]
theorem item_span {L : List Tok} {E p : Nat} {a b : Tok} (corners : Bool) (ha : L[p]? = some a) (hka : a.kind = 2) (hm : isMark L (p + 1) [58] = true) (hb : L[p + 1 + 1]? = some b) (hkb : b.kind = 2) (hc : a.col ≤ b.col) (hr : a.row ≤ b.row) :
    ∃ k, itemF L E k corners p = some (.ok (spanT a.col a.row b.col b.row) (p + 1 + 1 + 1)) := by
  refine ⟨1, ?_⟩
  have he : isEnd L p = true := by unfold isEnd; rw [ha]; simp [hka]
  have he2 : isEnd L (p + 1 + 1) = true := by unfold isEnd; rw [hb]; simp [hkb]
  simp only [itemF]
  rw [if_neg (by rw [he, hm]; simp), ha]
  simp only
  rw [if_neg (by rw [he]; decide), if_neg (by omega), must_ok hm, hb]
  simp only
  rw [if_neg (by rw [he2]; decide), if_neg (by omega), Int.min_eq_left hc, Int.min_eq_left hr, Int.max_eq_right hc, Int.max_eq_right hr]
end Go.Proofs.YteflmfifhmlpiaaDoor
