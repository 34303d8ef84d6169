/- The walk of the statement on blanks: the short ways; and what its loops stand on. -/
import Derived.Test.YtjfmmnebhmlkeaaDoorLxM
namespace Go.Proofs.YtjfmmnebhmlkeaaDoor
open Go.RowKit

theorem nextP_le {r : List UInt8} {o : Nat} {ts : List Tok} (h : Lex r o ts) : nextP (o + r.length) ts ≤ o + r.length := (lex_gap h).2.1
/-- tokens rise; each ends where the next one begins, or ahead of it -/
theorem lex_rise {r : List UInt8} {o : Nat} {ts : List Tok} (h : Lex r o ts) : ∀ (i : Nat) (t : Tok), ts[i]? = some t → t.frm < nextP (o + r.length) (ts.drop (i + 1)) ∧ nextP (o + r.length) (ts.drop (i + 1)) ≤ o + r.length := by
  induction h with
  | nil o => intro i t hi; simp at hi
  | @blank r o ts _ ih =>
    intro i t hi
    have e : o + 1 + r.length = o + (32 :: r).length := by simp; omega
    rw [← e]
    exact ih i t hi
  | @tok r o t n ts hr h32 ho hL ih =>
    intro i u hi
    obtain ⟨hn, hle⟩ := one_pos' (l := r) (p := 0) (List.length_pos_iff.2 hr) ho
    rw [Nat.zero_add] at hle
    have e1 : o + n + (r.drop n).length = o + r.length := by rw [List.length_drop]; omega
    cases i with
    | zero =>
      obtain ⟨g1, g2, _⟩ := lex_gap hL
      rw [e1] at g1 g2
      simp at hi
      subst hi
      show o < nextP (o + r.length) ts ∧ _
      exact ⟨by omega, g2⟩
    | succ j =>
      have := ih j u (by simpa using hi)
      rwa [e1] at this
/-- the bytes of the first i tokens, each with a blank behind -/
def apartI (l : List UInt8) (ts : List Tok) : Nat → List UInt8
  | 0 => []
  | i + 1 => apartI l ts i ++ (match ts[i]? with | some t => (l.drop t.frm).take (nextP l.length (ts.drop (i + 1)) - t.frm) ++ [32] | none => [])
theorem apartI_cons (l : List UInt8) (t : Tok) (ts : List Tok) : ∀ i, apartI l (t :: ts) (i + 1) = (l.drop t.frm).take (nextP l.length ts - t.frm) ++ [32] ++ apartI l ts i
  | 0 => by simp [apartI]
  | i + 1 => by
    rw [apartI, apartI_cons l t ts i, apartI]
    simp
theorem apartI_all (l : List UInt8) : ∀ ts : List Tok, apartI l ts ts.length = apartL l ts
  | [] => rfl
  | t :: ts => by
    rw [List.length_cons, apartI_cons, apartI_all l ts]
    rfl
theorem apartI_succ {l : List UInt8} {ts : List Tok} {i : Nat} {t : Tok} (h : ts[i]? = some t) : apartI l ts (i + 1) = apartI l ts i ++ ((l.drop t.frm).take (nextP l.length (ts.drop (i + 1)) - t.frm) ++ [32]) := by
  rw [apartI, h]
theorem lex_len {r : List UInt8} {o : Nat} {ts : List Tok} (h : Lex r o ts) : ts.length ≤ r.length := by
  induction h with
  | nil o => exact Nat.le_refl _
  | blank _ ih => simp; omega
  | @tok r o t n ts hr h32 ho hL ih =>
    obtain ⟨hn, hle⟩ := one_pos' (l := r) (p := 0) (List.length_pos_iff.2 hr) ho
    rw [List.length_drop] at ih
    simp
    omega
theorem apart_len {l : List UInt8} : ∀ {ts : List Tok} {r : List UInt8} {o : Nat}, Lex r o ts → o + r.length = l.length → nextP l.length ts + (apartL l ts).length ≤ l.length + ts.length := by
  intro ts r o h
  induction h with
  | nil o => intro e; simp [nextP, apartL]
  | @blank r o ts _ ih => intro e; exact ih (by simp at e; omega)
  | @tok r o t n ts hr h32 ho hL ih =>
    intro e
    obtain ⟨hn, hle⟩ := one_pos' (l := r) (p := 0) (List.length_pos_iff.2 hr) ho
    rw [Nat.zero_add] at hle
    have e1 : o + n + (r.drop n).length = l.length := by rw [List.length_drop]; omega
    have := ih e1
    obtain ⟨g1, g2, _⟩ := lex_gap hL
    rw [e1] at g1 g2
    show o + ((l.drop o).take (nextP l.length ts - o) ++ [32] ++ apartL l ts).length ≤ l.length + (ts.length + 1)
    simp
    omega
/-- what Scan answers where there are tokens, and what it answers of the text with blanks, and of the bytes apart -/
theorem ans_ok {l : List UInt8} (h : ansE l = 0) (hl : l.length ≤ 200) : Lex l 0 (ansL l) := by
  cases hs : scanT l with
  | mk o q =>
    cases o with
    | none => rw [(ans_none (by omega) hs).2.2] at h; cases h
    | some a =>
      have hL := lex_of hs
      have e := of_lex hL
      rw [(ans_some (by omega) e).1]
      exact hL
theorem lex_ans {l : List UInt8} {ts : List Tok} (h : Lex l 0 ts) (hl : l.length ≤ 200) : ansL l = ts ∧ ansE l = 0 := by
  have := ans_some (l := l) (by omega) (of_lex h)
  exact ⟨this.1, this.2.2⟩
theorem ans_blanks {l : List UInt8} (h : ansE l = 0) (hl : l.length ≤ 90) {k : Nat} (hk : k ≤ 8) : ansL (List.replicate k 32 ++ l ++ List.replicate k 32) = (ansL l).map (onT k) ∧ ansE (List.replicate k 32 ++ l ++ List.replicate k 32) = 0 := by
  have h0 := lex_shift k (ans_ok h (by omega))
  have h1 := lex_front k 0 (lex_back k h0)
  rw [← List.append_assoc] at h1
  exact lex_ans h1 (by simp; omega)
theorem ans_apart {l : List UInt8} (h : ansE l = 0) (hl : l.length ≤ 90) : ∃ ts', ansL (apartL l (ansL l)) = ts' ∧ ansE (apartL l (ansL l)) = 0 ∧ ts'.map bareT = (ansL l).map bareT := by
  have h0 := ans_ok h (by omega)
  obtain ⟨ts', h1, h2⟩ := lex_apart (l := l) h0 rfl (Nat.zero_le _) 0
  have h3 := apart_len (l := l) h0 (by simp)
  have h4 := lex_len h0
  have h5 := lex_ans h1 (by omega)
  exact ⟨ts', h5.1, h5.2, h2⟩
theorem ans_err {l : List UInt8} (h : ansE l ≠ 0) : ansL l = [] := by
  by_cases hl : 200 < l.length
  · exact if_pos hl
  · cases hs : scanT l with
    | mk o q =>
      cases o with
      | none => exact (ans_none hl hs).1
      | some a =>
        have e := of_lex (lex_of hs)
        exact absurd (ans_some hl e).2.2 h
end Go.Proofs.YtjfmmnebhmlkeaaDoor
