/- Plain facts on tokens: texts, blanks, and the tokens' own bytes apart. -/
import Derived.Test.YtjfmmnebhmlkeaaDoorLxL
namespace Go.Proofs.YtjfmmnebhmlkeaaDoor
open Go.RowKit

/-- the tokens of a text that begins at o -/
inductive Lex : List UInt8 → Nat → List Tok → Prop
  | nil (o : Nat) : Lex [] o []
  | blank {r : List UInt8} {o : Nat} {ts : List Tok} : Lex r (o + 1) ts → Lex (32 :: r) o ts
  | tok {r : List UInt8} {o : Nat} {t : Tok} {n : Nat} {ts : List Tok} : r ≠ [] → r.head? ≠ some 32 → oneT r 0 = some (t, n) → Lex (r.drop n) (o + n) ts → Lex r o ({ t with frm := o } :: ts)
theorem scan_lex {l : List UInt8} : ∀ (k p : Nat) (acc a : List Tok) (q : Nat), p ≤ l.length → scanF l k p acc = (some a, q) → ∃ ts, a = acc ++ ts ∧ Lex (l.drop p) p ts
  | 0, p, acc, a, q, _, h => by simp [scanF] at h
  | k + 1, p, acc, a, q, hp, h => by
    unfold scanF at h
    split at h
    · rename_i hlt
      have e : l.drop p = l[p] :: l.drop (p + 1) := List.drop_eq_getElem_cons hlt
      have g : l.getD p 0 = l[p] := by simp [List.getD_eq_getElem?_getD, hlt]
      split at h
      · rename_i hc
        obtain ⟨ts, rfl, hL⟩ := scan_lex k (p + 1) acc a q (by omega) h
        refine ⟨ts, rfl, ?_⟩
        rw [e, ← g, hc]
        exact .blank hL
      · rename_i hc
        split at h
        · simp at h
        · rename_i t n ho
          obtain ⟨h0, h1⟩ := one_pos' hlt ho
          obtain ⟨ts, rfl, hL⟩ := scan_lex k (p + n) (acc ++ [t]) a q h1 h
          rw [one_drop] at ho
          cases ho' : oneT (l.drop p) 0 with
          | none => rw [ho'] at ho; cases ho
          | some x =>
            obtain ⟨t', n'⟩ := x
            rw [ho'] at ho
            simp at ho
            obtain ⟨rfl, rfl⟩ := ho
            refine ⟨{ t' with frm := p } :: ts, by simp, ?_⟩
            refine .tok (by rw [e]; exact List.cons_ne_nil _ _) (by rw [e, ← g]; simpa using hc) ho' ?_
            rw [List.drop_drop]
            exact hL
    · simp at h
      refine ⟨[], by simp [h.1], ?_⟩
      rw [List.drop_eq_nil_of_le (by omega)]
      exact .nil p
theorem lex_scan {l r : List UInt8} {o : Nat} {ts : List Tok} (h : Lex r o ts) : l.drop o = r → o ≤ l.length → ∀ k, l.length < k + o → ∀ acc, scanF l k o acc = (some (acc ++ ts), 0) := by
  induction h with
  | nil o =>
    intro hd ho k hk acc
    have hlen : l.length ≤ o := by
      have := congrArg List.length hd
      simp at this
      omega
    cases k with
    | zero => omega
    | succ k =>
      unfold scanF
      rw [if_neg (by omega)]
      simp
  | @blank r o ts _ ih =>
    intro hd ho k hk acc
    have hlt : o < l.length := by
      have := congrArg List.length hd
      simp at this
      omega
    have g : l.getD o 0 = 32 := by
      have := getD_drop l o 0
      rw [hd] at this
      simpa using this.symm
    cases k with
    | zero => omega
    | succ k =>
      unfold scanF
      rw [if_pos hlt, if_pos g]
      refine ih ?_ (by omega) k (by omega) acc
      rw [show o + 1 = o + 1 from rfl, ← List.drop_drop, hd]
      rfl
  | @tok r o t n ts hr h32 ho _ ih =>
    intro hd hol k hk acc
    have hlt : o < l.length := by
      have := congrArg List.length hd
      have h1 := List.length_pos_iff.2 hr
      simp at this
      omega
    have g : l.getD o 0 ≠ 32 := by
      have := getD_drop l o 0
      rw [hd] at this
      intro e
      apply h32
      cases r with
      | nil => exact absurd rfl hr
      | cons c q =>
        have e2 : c = 32 := by rw [Nat.add_zero, e] at this; simpa using this
        rw [e2]; rfl
    have ho2 : oneT l o = some ({ t with frm := o }, n) := by rw [one_drop, hd, ho]; rfl
    obtain ⟨h0, h1⟩ := one_pos' hlt ho2
    cases k with
    | zero => omega
    | succ k =>
      unfold scanF
      rw [if_pos hlt, if_neg g, ho2]
      show scanF l k (o + n) (acc ++ [_]) = _
      have hi := ih (by rw [← List.drop_drop, hd]) h1 k (by omega) (acc ++ [{ t with frm := o }])
      rw [List.append_assoc] at hi
      exact hi
theorem lex_of {l : List UInt8} {a : List Tok} {q : Nat} (h : scanT l = (some a, q)) : Lex l 0 a := by
  obtain ⟨ts, rfl, hL⟩ := scan_lex (l.length + 1) 0 [] a q (Nat.zero_le _) h
  rw [List.drop_zero] at hL
  exact hL
theorem of_lex {l : List UInt8} {a : List Tok} (h : Lex l 0 a) : scanT l = (some a, 0) := by
  have := lex_scan (l := l) h (by simp) (Nat.zero_le _) (l.length + 1) (by omega) []
  exact this
/-- a token so much on -/
def onT (k : Nat) (t : Tok) : Tok := { t with frm := t.frm + k }
theorem lex_shift {r : List UInt8} {o : Nat} {ts : List Tok} (k : Nat) (h : Lex r o ts) : Lex r (o + k) (ts.map (onT k)) := by
  induction h with
  | nil o => exact .nil _
  | @blank r o ts _ ih => exact .blank (by rwa [show o + k + 1 = o + 1 + k from by omega])
  | @tok r o t n ts hr h32 ho _ ih => exact .tok (t := t) hr h32 ho (by rwa [show o + k + n = o + n + k from by omega])
theorem lex_front {r : List UInt8} {ts : List Tok} : ∀ (k o : Nat), Lex r (o + k) ts → Lex (List.replicate k 32 ++ r) o ts
  | 0, _, h => by simpa using h
  | k + 1, o, h => by
    rw [List.replicate_succ]
    exact .blank (lex_front k (o + 1) (by rwa [show o + 1 + k = o + (k + 1) from by omega]))
theorem lex_blanks : ∀ (k o : Nat), Lex (List.replicate k 32) o []
  | 0, o => .nil o
  | k + 1, o => by rw [List.replicate_succ]; exact .blank (lex_blanks k (o + 1))
theorem lex_back {r : List UInt8} {o : Nat} {ts : List Tok} (k : Nat) (h : Lex r o ts) : Lex (r ++ List.replicate k 32) o ts := by
  induction h with
  | nil o => simpa using lex_blanks k o
  | blank _ ih => exact .blank ih
  | @tok r o t n ts hr h32 ho _ ih =>
    obtain ⟨hn, hle⟩ := one_pos' (l := r) (p := 0) (List.length_pos_iff.2 hr) ho
    rw [Nat.zero_add] at hle
    have e : r ++ List.replicate k 32 = r.take n ++ (r.drop n ++ List.replicate k 32) := by rw [← List.append_assoc, List.take_append_drop]
    have hd : (r ++ List.replicate k 32).drop n = r.drop n ++ List.replicate k 32 := List.drop_append_of_le_length hle
    refine .tok (t := t) (n := n) (by simp [hr]) ?_ ?_ (by rw [hd]; exact ih)
    · cases r with
      | nil => exact absurd rfl hr
      | cons c q => exact h32
    · rw [e]
      refine one_local hr ho ?_
      cases hx : r.drop n with
      | nil =>
        cases k with
        | zero => exact .inl rfl
        | succ k => exact .inr (.inl rfl)
      | cons c q => exact .inr (.inr rfl)
/-- where the next token begins, or the text ends -/
def nextP (e : Nat) (ts : List Tok) : Nat := match ts with | [] => e | t :: _ => t.frm
/-- up to the first token stand blanks alone -/
theorem lex_gap {r : List UInt8} {o : Nat} {ts : List Tok} (h : Lex r o ts) : o ≤ nextP (o + r.length) ts ∧ nextP (o + r.length) ts ≤ o + r.length ∧ r.take (nextP (o + r.length) ts - o) = List.replicate (nextP (o + r.length) ts - o) 32 := by
  induction h with
  | nil o => exact ⟨Nat.le_refl _, Nat.le_refl _, by simp [nextP]⟩
  | @blank r o ts _ ih =>
    obtain ⟨h1, h2, h3⟩ := ih
    have e : o + 1 + r.length = o + (32 :: r).length := by simp; omega
    rw [e] at h1 h2 h3
    refine ⟨by omega, h2, ?_⟩
    have e2 : nextP (o + (32 :: r).length) ts - o = (nextP (o + (32 :: r).length) ts - (o + 1)) + 1 := by omega
    rw [e2, List.take_succ_cons, List.replicate_succ, h3]
  | @tok r o t n ts hr h32 ho _ ih => exact ⟨Nat.le_refl _, by show o ≤ _; omega, by simp [nextP]⟩
/-- the tokens' bytes, each with a blank behind -/
def apartL (l : List UInt8) : List Tok → List UInt8
  | [] => []
  | t :: ts => (l.drop t.frm).take (nextP l.length ts - t.frm) ++ [32] ++ apartL l ts
/-- a token, wherever it begins -/
def bareT (t : Tok) : Tok := { t with frm := 0 }
theorem lex_apart {l r : List UInt8} {o : Nat} {ts : List Tok} (h : Lex r o ts) : l.drop o = r → o ≤ l.length → ∀ p, ∃ ts', Lex (apartL l ts) p ts' ∧ ts'.map bareT = ts.map bareT := by
  induction h with
  | nil o => intro _ _ p; exact ⟨[], .nil p, rfl⟩
  | @blank r o ts _ ih =>
    intro hd ho p
    have hlt : o < l.length := by
      have := congrArg List.length hd
      simp at this
      omega
    exact ih (by rw [← List.drop_drop, hd]; rfl) (by omega) p
  | @tok r o t n ts hr h32 ho hL ih =>
    intro hd hol p
    obtain ⟨hn, hle⟩ := one_pos' (l := r) (p := 0) (List.length_pos_iff.2 hr) ho
    rw [Nat.zero_add] at hle
    have hlen : l.length = o + r.length := by
      have := congrArg List.length hd
      simp at this
      omega
    obtain ⟨g1, g2, g3⟩ := lex_gap hL
    have e1 : o + n + (r.drop n).length = l.length := by rw [List.length_drop]; omega
    rw [e1] at g1 g2 g3
    obtain ⟨m, hm⟩ : ∃ m, nextP l.length ts = o + n + m := ⟨nextP l.length ts - (o + n), by omega⟩
    have hp : (l.drop o).take (nextP l.length ts - o) = r.take n ++ List.replicate m 32 := by
      rw [hd, hm, show o + n + m - o = n + m from by omega, List.take_add]
      rw [hm, show o + n + m - (o + n) = m from by omega] at g3
      rw [g3]
    obtain ⟨ts', hx, hy⟩ := ih (by rw [← List.drop_drop, hd]) (by omega) (p + n + (m + 1))
    have e2 : apartL l ({ t with frm := o } :: ts) = r.take n ++ (List.replicate (m + 1) 32 ++ apartL l ts) := by
      show (l.drop o).take (nextP l.length ts - o) ++ [32] ++ apartL l ts = _
      rw [hp, List.replicate_succ']
      simp
    rw [e2]
    have htl : (r.take n).length = n := by rw [List.length_take]; omega
    refine ⟨{ t with frm := p } :: ts', .tok (t := t) (n := n) ?_ ?_ ?_ ?_, by simp [hy, bareT]⟩
    · cases r with
      | nil => exact absurd rfl hr
      | cons c q =>
        cases n with
        | zero => omega
        | succ k => simp
    · cases r with
      | nil => exact absurd rfl hr
      | cons c q =>
        cases n with
        | zero => omega
        | succ k => exact h32
    · exact one_local hr ho (.inr (.inl (by simp [List.replicate_succ])))
    · have hd2 : (r.take n ++ (List.replicate (m + 1) 32 ++ apartL l ts)).drop n = List.replicate (m + 1) 32 ++ apartL l ts := List.drop_left' htl
      rw [hd2]
      exact lex_front (m + 1) (p + n) hx
end Go.Proofs.YtjfmmnebhmlkeaaDoor
