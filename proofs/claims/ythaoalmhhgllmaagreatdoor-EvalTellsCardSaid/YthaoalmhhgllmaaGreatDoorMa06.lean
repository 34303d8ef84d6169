/- Texts joined: LxL, LxM, LxN, SyA, TrA, TrB, SyB, SyC. -/
import Derived.Test.YthaoalmhhgllmaaGreatDoorMa05
import Derived.Test.YthaoalmhhgllmaaGreatDoorMa01
import Derived.OwnWalk
import Derived.Deep.QuietTactic
import Derived.BigQuiet
import Derived.Laws.Pointers
import Derived.StillTactics
set_option linter.all false
set_option linter.unusedVariables false
set_option linter.unusedSimpArgs false
namespace Go.Proofs.YthaoalmhhgllmaaGreatDoor
open Go.RowKit

theorem getD_drop (l : List UInt8) (p i : Nat) : (l.drop p).getD i 0 = l.getD (p + i) 0 := by
  simp [List.getD_eq_getElem?_getD]
theorem one_drop (l : List UInt8) (p : Nat) : oneT l p = (oneT (l.drop p) 0).map fun x => ({ x.1 with frm := p }, x.2) := by
  have e0 : (l.drop p).getD 0 0 = l.getD p 0 := getD_drop l p 0
  have e1 : ∀ f, runLen f (l.drop p) 0 = runLen f l p := fun f => by unfold runLen; simp
  have e2 : ∀ n, subL (l.drop p) 0 n = subL l p n := fun n => by unfold subL; simp
  have e3 : markN (l.drop p) 0 = markN l p := by
    unfold markN
    rw [e0, getD_drop]
  unfold oneT
  rw [e0, e1, e1, e2, e2, e2, e3, e2]
  split
  · cases numV (subL l p (runLen isFig l p)) <;> rfl
  · split
    · split
      · rfl
      · split
        · rfl
        · split <;> rfl
    · split
      · rfl
      · split <;> rfl
theorem run_take (f : UInt8 → Bool) (r : List UInt8) : r.take (runLen f r 0) = r.takeWhile f := by
  unfold runLen
  rw [List.drop_zero]
  exact (List.prefix_iff_eq_take.1 (List.takeWhile_prefix f)).symm
theorem run_end (f : UInt8 → Bool) : ∀ (r : List UInt8) (c : UInt8), (r.drop (runLen f r 0)).head? = some c → f c = false
  | [], c, h => by simp at h
  | a :: q, c, h => by
    unfold runLen at h
    rw [List.drop_zero, List.takeWhile_cons] at h
    cases ha : f a with
    | false => rw [ha] at h; simp at h; rw [← h]; exact ha
    | true =>
      rw [ha] at h
      simp at h
      exact run_end f q c (by unfold runLen; simpa using h)
theorem take_own (f : UInt8 → Bool) (z : List UInt8) (hz : z.takeWhile f = []) : ∀ r : List UInt8, (r.takeWhile f ++ z).takeWhile f = r.takeWhile f
  | [] => hz
  | a :: q => by
    rw [List.takeWhile_cons]
    cases ha : f a with
    | false => simpa using hz
    | true =>
      show (a :: (q.takeWhile f ++ z)).takeWhile f = a :: q.takeWhile f
      rw [List.takeWhile_cons, ha]
      show a :: (q.takeWhile f ++ z).takeWhile f = _
      rw [take_own f z hz q]
theorem run_local (f : UInt8 → Bool) (r z : List UInt8) (h32 : f 32 = false) (hz : z.head? = none ∨ z.head? = some 32 ∨ z.head? = (r.drop (runLen f r 0)).head?) : runLen f (r.take (runLen f r 0) ++ z) 0 = runLen f r 0 := by
  have hzf : z.takeWhile f = [] := by
    cases z with
    | nil => rfl
    | cons c q =>
      rw [List.takeWhile_cons]
      have hc : f c = false := by
        rcases hz with h | h | h
        · simp at h
        · simp at h; rw [h]; exact h32
        · exact run_end f r c (by rw [← h]; rfl)
      rw [hc]; rfl
  rw [run_take]
  unfold runLen
  rw [List.drop_zero, List.drop_zero, take_own f z hzf r]
theorem head_take {r z : List UInt8} {n : Nat} (hn : 0 < n) (hr : r ≠ []) : (r.take n ++ z).getD 0 0 = r.getD 0 0 := by
  cases r with
  | nil => exact absurd rfl hr
  | cons a q =>
    cases n with
    | zero => omega
    | succ k => rfl
theorem sub_take {r z : List UInt8} {n : Nat} (hn : n ≤ r.length) : subL (r.take n ++ z) 0 n = subL r 0 n := by
  unfold subL
  rw [List.drop_zero, List.drop_zero, List.take_append_of_le_length (by rw [List.length_take]; omega), List.take_take, Nat.min_self]
theorem mark_one {c d : UInt8} (h : markC c d = 1) : markC c 0 = 1 ∧ markC c 32 = 1 := by
  unfold markC at h ⊢
  split at h
  · simp at h
  · split at h
    · rename_i h1
      have a : ¬ (c = 60 ∧ ((0 : UInt8) = 61 ∨ (0 : UInt8) = 62) ∨ c = 62 ∧ (0 : UInt8) = 61) := by
        rintro (⟨_, h | h⟩ | ⟨_, h⟩) <;> exact absurd h (by decide)
      have b : ¬ (c = 60 ∧ ((32 : UInt8) = 61 ∨ (32 : UInt8) = 62) ∨ c = 62 ∧ (32 : UInt8) = 61) := by
        rintro (⟨_, h | h⟩ | ⟨_, h⟩) <;> exact absurd h (by decide)
      rw [if_neg a, if_neg b, if_pos h1]
      exact ⟨rfl, rfl⟩
    · simp at h
theorem mark_val (c d : UInt8) : markC c d = 0 ∨ markC c d = 1 ∨ markC c d = 2 := by
  unfold markC
  split
  · exact .inr (.inr rfl)
  · split
    · exact .inr (.inl rfl)
    · exact .inl rfl
theorem mark_35 (d : UInt8) : markC 35 d = 0 := by
  unfold markC
  rw [if_neg (by rintro (⟨h, _⟩ | ⟨h, _⟩) <;> exact absurd h (by decide)), if_neg (by decide)]
theorem one_local {r z : List UInt8} {t : Tok} {n : Nat} (hr : r ≠ []) (h : oneT r 0 = some (t, n)) (hz : z.head? = none ∨ z.head? = some 32 ∨ z.head? = (r.drop n).head?) : oneT (r.take n ++ z) 0 = some (t, n) := by
  obtain ⟨hn, hle⟩ := one_pos' (l := r) (p := 0) (List.length_pos_iff.2 hr) h
  rw [Nat.zero_add] at hle
  have hh := head_take (z := z) hn hr
  have hs := sub_take (z := z) hle
  have h0 := h
  unfold oneT at h ⊢
  rw [hh]
  split at h
  · rename_i hf
    rw [if_pos hf]
    have hn2 : n = runLen isFig r 0 := by
      split at h
      · simp at h; exact h.2.symm
      · cases h
    subst hn2
    rw [run_local isFig r z (by decide) hz, hs]
    exact h
  · rename_i hf
    rw [if_neg hf]
    split at h
    · rename_i hc
      rw [if_pos hc]
      have hn2 : n = runLen isNam r 0 := by
        split at h
        · simp at h; exact h.2.symm
        · split at h
          · simp at h; exact h.2.symm
          · split at h
            · simp at h; exact h.2.symm
            · cases h
      subst hn2
      rw [run_local isNam r z (by decide) hz, hs]
      exact h
    · rename_i hc
      rw [if_neg hc]
      split at h
      · rename_i hq
        have hn2 : n = 4 := by simp at h; exact h.2.symm
        subst hn2
        rw [if_pos (by rw [hs]; exact hq)]
        exact h
      · rename_i hq
        split at h
        · cases h
        · rename_i hm
          simp at h
          obtain ⟨ht, hn2⟩ := h
          cases r with
          | nil => exact absurd rfl hr
          | cons c q =>
            have c35 : c ≠ 35 := by
              rintro rfl
              exact hm (mark_35 _)
            have hq2 : ¬ subL ((c :: q).take n ++ z) 0 4 = [35, 82, 69, 70] := by
              cases n with
              | zero => omega
              | succ k =>
                intro e
                have e2 := congrArg List.head? e
                simp [subL] at e2
                exact c35 e2
            have hm2 : markN ((c :: q).take n ++ z) 0 = markN (c :: q) 0 := by
              have hv : markN (c :: q) 0 = markC c (q.getD 0 0) := rfl
              rw [hv] at hm hn2 ⊢
              rcases mark_val c (q.getD 0 0) with h1 | h1 | h1
              · exact absurd h1 hm
              · rw [h1] at hn2 ⊢
                have hn3 : n = 1 := by simpa using hn2.symm
                subst hn3
                obtain ⟨m0, m1⟩ := mark_one h1
                cases z with
                | nil => exact m0
                | cons a y =>
                  show markC c a = 1
                  rcases hz with h | h | h
                  · simp at h
                  · simp at h; rw [h]; exact m1
                  · simp at h
                    cases q with
                    | nil => simp at h
                    | cons b x => simp at h; rw [h]; exact h1
              · rw [h1] at hn2 ⊢
                have hn3 : n = 2 := by simpa using hn2.symm
                subst hn3
                cases q with
                | nil => simp at hle
                | cons b x => exact h1
            rw [if_neg hq2, hm2, if_neg hm, hn2, hs]
            rw [hn2] at ht
            rw [← ht]
end Go.Proofs.YthaoalmhhgllmaaGreatDoor
namespace Go.Proofs.YthaoalmhhgllmaaGreatDoor
open Go.RowKit

inductive Lex : List UInt8 → Nat → List Tok → Prop
  | nil (o : Nat) : Lex [] o []
  | blank {r : List UInt8} {o : Nat} {ts : List Tok} : Lex r (o + 1) ts → Lex (32 :: r) o ts
  | tok {r : List UInt8} {o : Nat} {t : Tok} {n : Nat} {ts : List Tok} : r ≠ [] → r.head? ≠ some 32 → oneT r 0 = some (t, n) → Lex (r.drop n) (o + n) ts → Lex r o ({ t with frm := o } :: ts)
theorem scan_lex {l : List UInt8} : ∀ (k p : Nat) (acc a : List Tok) (q : Nat), p ≤ l.length → scanF l k p acc = (some a, q) → ∃ ts, a = acc ++ ts ∧ Lex (l.drop p) p ts
  | 0, p, acc, a, q, _, h => by simp [scanF] at h
  | k + 1, p, acc, a, q, hp, h => by
    unfold scanF at h
    split at h
    · rename_i hlt
      have e : l.drop p = l[p] :: l.drop (p + 1) := List.drop_eq_getElem_cons hlt
      have g : l.getD p 0 = l[p] := by simp [List.getD_eq_getElem?_getD, hlt]
      split at h
      · rename_i hc
        obtain ⟨ts, rfl, hL⟩ := scan_lex k (p + 1) acc a q (by omega) h
        refine ⟨ts, rfl, ?_⟩
        rw [e, ← g, hc]
        exact .blank hL
      · rename_i hc
        split at h
        · simp at h
        · rename_i t n ho
          obtain ⟨h0, h1⟩ := one_pos' hlt ho
          obtain ⟨ts, rfl, hL⟩ := scan_lex k (p + n) (acc ++ [t]) a q h1 h
          rw [one_drop] at ho
          cases ho' : oneT (l.drop p) 0 with
          | none => rw [ho'] at ho; cases ho
          | some x =>
            obtain ⟨t', n'⟩ := x
            rw [ho'] at ho
            simp at ho
            obtain ⟨rfl, rfl⟩ := ho
            refine ⟨{ t' with frm := p } :: ts, by simp, ?_⟩
            refine .tok (by rw [e]; exact List.cons_ne_nil _ _) (by rw [e, ← g]; simpa using hc) ho' ?_
            rw [List.drop_drop]
            exact hL
    · simp at h
      refine ⟨[], by simp [h.1], ?_⟩
      rw [List.drop_eq_nil_of_le (by omega)]
      exact .nil p
theorem lex_scan {l r : List UInt8} {o : Nat} {ts : List Tok} (h : Lex r o ts) : l.drop o = r → o ≤ l.length → ∀ k, l.length < k + o → ∀ acc, scanF l k o acc = (some (acc ++ ts), 0) := by
  induction h with
  | nil o =>
    intro hd ho k hk acc
    have hlen : l.length ≤ o := by
      have := congrArg List.length hd
      simp at this
      omega
    cases k with
    | zero => omega
    | succ k =>
      unfold scanF
      rw [if_neg (by omega)]
      simp
  | @blank r o ts _ ih =>
    intro hd ho k hk acc
    have hlt : o < l.length := by
      have := congrArg List.length hd
      simp at this
      omega
    have g : l.getD o 0 = 32 := by
      have := getD_drop l o 0
      rw [hd] at this
      simpa using this.symm
    cases k with
    | zero => omega
    | succ k =>
      unfold scanF
      rw [if_pos hlt, if_pos g]
      refine ih ?_ (by omega) k (by omega) acc
      rw [show o + 1 = o + 1 from rfl, ← List.drop_drop, hd]
      rfl
  | @tok r o t n ts hr h32 ho _ ih =>
    intro hd hol k hk acc
    have hlt : o < l.length := by
      have := congrArg List.length hd
      have h1 := List.length_pos_iff.2 hr
      simp at this
      omega
    have g : l.getD o 0 ≠ 32 := by
      have := getD_drop l o 0
      rw [hd] at this
      intro e
      apply h32
      cases r with
      | nil => exact absurd rfl hr
      | cons c q =>
        have e2 : c = 32 := by rw [Nat.add_zero, e] at this; simpa using this
        rw [e2]; rfl
    have ho2 : oneT l o = some ({ t with frm := o }, n) := by rw [one_drop, hd, ho]; rfl
    obtain ⟨h0, h1⟩ := one_pos' hlt ho2
    cases k with
    | zero => omega
    | succ k =>
      unfold scanF
      rw [if_pos hlt, if_neg g, ho2]
      show scanF l k (o + n) (acc ++ [_]) = _
      have hi := ih (by rw [← List.drop_drop, hd]) h1 k (by omega) (acc ++ [{ t with frm := o }])
      rw [List.append_assoc] at hi
      exact hi
theorem lex_of {l : List UInt8} {a : List Tok} {q : Nat} (h : scanT l = (some a, q)) : Lex l 0 a := by
  obtain ⟨ts, rfl, hL⟩ := scan_lex (l.length + 1) 0 [] a q (Nat.zero_le _) h
  rw [List.drop_zero] at hL
  exact hL
theorem of_lex {l : List UInt8} {a : List Tok} (h : Lex l 0 a) : scanT l = (some a, 0) := by
  have := lex_scan (l := l) h (by simp) (Nat.zero_le _) (l.length + 1) (by omega) []
  exact this
def onT (k : Nat) (t : Tok) : Tok := { t with frm := t.frm + k }
theorem lex_shift {r : List UInt8} {o : Nat} {ts : List Tok} (k : Nat) (h : Lex r o ts) : Lex r (o + k) (ts.map (onT k)) := by
  induction h with
  | nil o => exact .nil _
  | @blank r o ts _ ih => exact .blank (by rwa [show o + k + 1 = o + 1 + k from by omega])
  | @tok r o t n ts hr h32 ho _ ih => exact .tok (t := t) hr h32 ho (by rwa [show o + k + n = o + n + k from by omega])
theorem lex_front {r : List UInt8} {ts : List Tok} : ∀ (k o : Nat), Lex r (o + k) ts → Lex (List.replicate k 32 ++ r) o ts
  | 0, _, h => by simpa using h
  | k + 1, o, h => by
    rw [List.replicate_succ]
    exact .blank (lex_front k (o + 1) (by rwa [show o + 1 + k = o + (k + 1) from by omega]))
theorem lex_blanks : ∀ (k o : Nat), Lex (List.replicate k 32) o []
  | 0, o => .nil o
  | k + 1, o => by rw [List.replicate_succ]; exact .blank (lex_blanks k (o + 1))
theorem lex_back {r : List UInt8} {o : Nat} {ts : List Tok} (k : Nat) (h : Lex r o ts) : Lex (r ++ List.replicate k 32) o ts := by
  induction h with
  | nil o => simpa using lex_blanks k o
  | blank _ ih => exact .blank ih
  | @tok r o t n ts hr h32 ho _ ih =>
    obtain ⟨hn, hle⟩ := one_pos' (l := r) (p := 0) (List.length_pos_iff.2 hr) ho
    rw [Nat.zero_add] at hle
    have e : r ++ List.replicate k 32 = r.take n ++ (r.drop n ++ List.replicate k 32) := by rw [← List.append_assoc, List.take_append_drop]
    have hd : (r ++ List.replicate k 32).drop n = r.drop n ++ List.replicate k 32 := List.drop_append_of_le_length hle
    refine .tok (t := t) (n := n) (by simp [hr]) ?_ ?_ (by rw [hd]; exact ih)
    · cases r with
      | nil => exact absurd rfl hr
      | cons c q => exact h32
    · rw [e]
      refine one_local hr ho ?_
      cases hx : r.drop n with
      | nil =>
        cases k with
        | zero => exact .inl rfl
        | succ k => exact .inr (.inl rfl)
      | cons c q => exact .inr (.inr rfl)
def nextP (e : Nat) (ts : List Tok) : Nat := match ts with | [] => e | t :: _ => t.frm
theorem lex_gap {r : List UInt8} {o : Nat} {ts : List Tok} (h : Lex r o ts) : o ≤ nextP (o + r.length) ts ∧ nextP (o + r.length) ts ≤ o + r.length ∧ r.take (nextP (o + r.length) ts - o) = List.replicate (nextP (o + r.length) ts - o) 32 := by
  induction h with
  | nil o => exact ⟨Nat.le_refl _, Nat.le_refl _, by simp [nextP]⟩
  | @blank r o ts _ ih =>
    obtain ⟨h1, h2, h3⟩ := ih
    have e : o + 1 + r.length = o + (32 :: r).length := by simp; omega
    rw [e] at h1 h2 h3
    refine ⟨by omega, h2, ?_⟩
    have e2 : nextP (o + (32 :: r).length) ts - o = (nextP (o + (32 :: r).length) ts - (o + 1)) + 1 := by omega
    rw [e2, List.take_succ_cons, List.replicate_succ, h3]
  | @tok r o t n ts hr h32 ho _ ih => exact ⟨Nat.le_refl _, by show o ≤ _; omega, by simp [nextP]⟩
def apartL (l : List UInt8) : List Tok → List UInt8
  | [] => []
  | t :: ts => (l.drop t.frm).take (nextP l.length ts - t.frm) ++ [32] ++ apartL l ts
def bareT (t : Tok) : Tok := { t with frm := 0 }
theorem lex_apart {l r : List UInt8} {o : Nat} {ts : List Tok} (h : Lex r o ts) : l.drop o = r → o ≤ l.length → ∀ p, ∃ ts', Lex (apartL l ts) p ts' ∧ ts'.map bareT = ts.map bareT := by
  induction h with
  | nil o => intro _ _ p; exact ⟨[], .nil p, rfl⟩
  | @blank r o ts _ ih =>
    intro hd ho p
    have hlt : o < l.length := by
      have := congrArg List.length hd
      simp at this
      omega
    exact ih (by rw [← List.drop_drop, hd]; rfl) (by omega) p
  | @tok r o t n ts hr h32 ho hL ih =>
    intro hd hol p
    obtain ⟨hn, hle⟩ := one_pos' (l := r) (p := 0) (List.length_pos_iff.2 hr) ho
    rw [Nat.zero_add] at hle
    have hlen : l.length = o + r.length := by
      have := congrArg List.length hd
      simp at this
      omega
    obtain ⟨g1, g2, g3⟩ := lex_gap hL
    have e1 : o + n + (r.drop n).length = l.length := by rw [List.length_drop]; omega
    rw [e1] at g1 g2 g3
    obtain ⟨m, hm⟩ : ∃ m, nextP l.length ts = o + n + m := ⟨nextP l.length ts - (o + n), by omega⟩
    have hp : (l.drop o).take (nextP l.length ts - o) = r.take n ++ List.replicate m 32 := by
      rw [hd, hm, show o + n + m - o = n + m from by omega, List.take_add]
      rw [hm, show o + n + m - (o + n) = m from by omega] at g3
      rw [g3]
    obtain ⟨ts', hx, hy⟩ := ih (by rw [← List.drop_drop, hd]) (by omega) (p + n + (m + 1))
    have e2 : apartL l ({ t with frm := o } :: ts) = r.take n ++ (List.replicate (m + 1) 32 ++ apartL l ts) := by
      show (l.drop o).take (nextP l.length ts - o) ++ [32] ++ apartL l ts = _
      rw [hp, List.replicate_succ']
      simp
    rw [e2]
    have htl : (r.take n).length = n := by rw [List.length_take]; omega
    refine ⟨{ t with frm := p } :: ts', .tok (t := t) (n := n) ?_ ?_ ?_ ?_, by simp [hy, bareT]⟩
    · cases r with
      | nil => exact absurd rfl hr
      | cons c q =>
        cases n with
        | zero => omega
        | succ k => simp
    · cases r with
      | nil => exact absurd rfl hr
      | cons c q =>
        cases n with
        | zero => omega
        | succ k => exact h32
    · exact one_local hr ho (.inr (.inl (by simp [List.replicate_succ])))
    · have hd2 : (r.take n ++ (List.replicate (m + 1) 32 ++ apartL l ts)).drop n = List.replicate (m + 1) 32 ++ apartL l ts := List.drop_left' htl
      rw [hd2]
      exact lex_front (m + 1) (p + n) hx
end Go.Proofs.YthaoalmhhgllmaaGreatDoor
namespace Go.Proofs.YthaoalmhhgllmaaGreatDoor
open Go.RowKit

theorem nextP_le {r : List UInt8} {o : Nat} {ts : List Tok} (h : Lex r o ts) : nextP (o + r.length) ts ≤ o + r.length := (lex_gap h).2.1
theorem lex_rise {r : List UInt8} {o : Nat} {ts : List Tok} (h : Lex r o ts) : ∀ (i : Nat) (t : Tok), ts[i]? = some t → t.frm < nextP (o + r.length) (ts.drop (i + 1)) ∧ nextP (o + r.length) (ts.drop (i + 1)) ≤ o + r.length := by
  induction h with
  | nil o => intro i t hi; simp at hi
  | @blank r o ts _ ih =>
    intro i t hi
    have e : o + 1 + r.length = o + (32 :: r).length := by simp; omega
    rw [← e]
    exact ih i t hi
  | @tok r o t n ts hr h32 ho hL ih =>
    intro i u hi
    obtain ⟨hn, hle⟩ := one_pos' (l := r) (p := 0) (List.length_pos_iff.2 hr) ho
    rw [Nat.zero_add] at hle
    have e1 : o + n + (r.drop n).length = o + r.length := by rw [List.length_drop]; omega
    cases i with
    | zero =>
      obtain ⟨g1, g2, _⟩ := lex_gap hL
      rw [e1] at g1 g2
      simp at hi
      subst hi
      show o < nextP (o + r.length) ts ∧ _
      exact ⟨by omega, g2⟩
    | succ j =>
      have := ih j u (by simpa using hi)
      rwa [e1] at this
def apartI (l : List UInt8) (ts : List Tok) : Nat → List UInt8
  | 0 => []
  | i + 1 => apartI l ts i ++ (match ts[i]? with | some t => (l.drop t.frm).take (nextP l.length (ts.drop (i + 1)) - t.frm) ++ [32] | none => [])
theorem apartI_cons (l : List UInt8) (t : Tok) (ts : List Tok) : ∀ i, apartI l (t :: ts) (i + 1) = (l.drop t.frm).take (nextP l.length ts - t.frm) ++ [32] ++ apartI l ts i
  | 0 => by simp [apartI]
  | i + 1 => by
    rw [apartI, apartI_cons l t ts i, apartI]
    simp
theorem apartI_all (l : List UInt8) : ∀ ts : List Tok, apartI l ts ts.length = apartL l ts
  | [] => rfl
  | t :: ts => by
    rw [List.length_cons, apartI_cons, apartI_all l ts]
    rfl
theorem apartI_succ {l : List UInt8} {ts : List Tok} {i : Nat} {t : Tok} (h : ts[i]? = some t) : apartI l ts (i + 1) = apartI l ts i ++ ((l.drop t.frm).take (nextP l.length (ts.drop (i + 1)) - t.frm) ++ [32]) := by
  rw [apartI, h]
theorem lex_len {r : List UInt8} {o : Nat} {ts : List Tok} (h : Lex r o ts) : ts.length ≤ r.length := by
  induction h with
  | nil o => exact Nat.le_refl _
  | blank _ ih => simp; omega
  | @tok r o t n ts hr h32 ho hL ih =>
    obtain ⟨hn, hle⟩ := one_pos' (l := r) (p := 0) (List.length_pos_iff.2 hr) ho
    rw [List.length_drop] at ih
    simp
    omega
theorem apart_len {l : List UInt8} : ∀ {ts : List Tok} {r : List UInt8} {o : Nat}, Lex r o ts → o + r.length = l.length → nextP l.length ts + (apartL l ts).length ≤ l.length + ts.length := by
  intro ts r o h
  induction h with
  | nil o => intro e; simp [nextP, apartL]
  | @blank r o ts _ ih => intro e; exact ih (by simp at e; omega)
  | @tok r o t n ts hr h32 ho hL ih =>
    intro e
    obtain ⟨hn, hle⟩ := one_pos' (l := r) (p := 0) (List.length_pos_iff.2 hr) ho
    rw [Nat.zero_add] at hle
    have e1 : o + n + (r.drop n).length = l.length := by rw [List.length_drop]; omega
    have := ih e1
    obtain ⟨g1, g2, _⟩ := lex_gap hL
    rw [e1] at g1 g2
    show o + ((l.drop o).take (nextP l.length ts - o) ++ [32] ++ apartL l ts).length ≤ l.length + (ts.length + 1)
    simp
    omega
theorem ans_ok {l : List UInt8} (h : ansE l = 0) (hl : l.length ≤ 200) : Lex l 0 (ansL l) := by
  cases hs : scanT l with
  | mk o q =>
    cases o with
    | none => rw [(ans_none (by omega) hs).2.2] at h; cases h
    | some a =>
      have hL := lex_of hs
      have e := of_lex hL
      rw [(ans_some (by omega) e).1]
      exact hL
theorem lex_ans {l : List UInt8} {ts : List Tok} (h : Lex l 0 ts) (hl : l.length ≤ 200) : ansL l = ts ∧ ansE l = 0 := by
  have := ans_some (l := l) (by omega) (of_lex h)
  exact ⟨this.1, this.2.2⟩
theorem ans_blanks {l : List UInt8} (h : ansE l = 0) (hl : l.length ≤ 90) {k : Nat} (hk : k ≤ 8) : ansL (List.replicate k 32 ++ l ++ List.replicate k 32) = (ansL l).map (onT k) ∧ ansE (List.replicate k 32 ++ l ++ List.replicate k 32) = 0 := by
  have h0 := lex_shift k (ans_ok h (by omega))
  have h1 := lex_front k 0 (lex_back k h0)
  rw [← List.append_assoc] at h1
  exact lex_ans h1 (by simp; omega)
theorem ans_apart {l : List UInt8} (h : ansE l = 0) (hl : l.length ≤ 90) : ∃ ts', ansL (apartL l (ansL l)) = ts' ∧ ansE (apartL l (ansL l)) = 0 ∧ ts'.map bareT = (ansL l).map bareT := by
  have h0 := ans_ok h (by omega)
  obtain ⟨ts', h1, h2⟩ := lex_apart (l := l) h0 rfl (Nat.zero_le _) 0
  have h3 := apart_len (l := l) h0 (by simp)
  have h4 := lex_len h0
  have h5 := lex_ans h1 (by omega)
  exact ⟨ts', h5.1, h5.2, h2⟩
theorem ans_err {l : List UInt8} (h : ansE l ≠ 0) : ansL l = [] := by
  by_cases hl : 200 < l.length
  · exact if_pos hl
  · cases hs : scanT l with
    | mk o q =>
      cases o with
      | none => exact (ans_none hl hs).1
      | some a =>
        have e := of_lex (lex_of hs)
        exact absurd (ans_some hl e).2.2 h
end Go.Proofs.YthaoalmhhgllmaaGreatDoor
namespace Go.Proofs.YthaoalmhhgllmaaGreatDoor

inductive Tr where
  | mk (kind num : Int) (c r d s : Int) (word : List UInt8) (kids : List Tr)
deriving Inhabited
def Tr.kind : Tr → Int | .mk k _ _ _ _ _ _ _ => k
def Tr.num : Tr → Int | .mk _ n _ _ _ _ _ _ => n
def Tr.word : Tr → List UInt8 | .mk _ _ _ _ _ _ w _ => w
def Tr.kids : Tr → List Tr | .mk _ _ _ _ _ _ _ ks => ks
def lvl (s : List UInt8) : Nat :=
  if s = [60] ∨ s = [60, 61] ∨ s = [61] ∨ s = [60, 62] ∨ s = [62, 61] ∨ s = [62] then 1
  else if s = [43] ∨ s = [45] then 2 else if s = [42] ∨ s = [47] then 3 else 0
def isMark (L : List Tok) (p : Nat) (s : List UInt8) : Bool := match L[p]? with | some t => t.kind == 5 && t.text == s | none => false
def whr (L : List Tok) (E p : Nat) : Nat := match L[p]? with | some t => t.frm | none => E
def levelAt (L : List Tok) (p : Nat) : Nat := match L[p]? with | some t => if t.kind = 5 then lvl t.text else 0 | none => 0
def isEnd (L : List Tok) (p : Nat) : Bool := match L[p]? with | some t => t.kind == 2 || t.kind == 3 | none => false
inductive Res where
  | ok (t : Tr) (q : Nat)
  | bad (w : Nat)
def Res.next (x : Option Res) (f : Tr → Nat → Option Res) : Option Res := match x with
  | some (.ok t q) => f t q
  | o => o
def mustF (L : List Tok) (E p : Nat) (s : List UInt8) (f : Nat → Option Res) : Option Res := if isMark L p s = true then f (p + 1) else some (.bad (whr L E p))
def opT (w : List UInt8) (a b : Tr) : Tr := .mk 4 0 0 0 0 0 w [a, b]
def negT (a : Tr) : Tr := .mk 3 0 0 0 0 0 [] [a]
def numT (n : Int) : Tr := .mk 0 n 0 0 0 0 [] []
def readT (c r : Int) : Tr := .mk 1 0 c r c r [] []
def badT : Tr := .mk 2 0 0 0 0 0 [] []
def spanT (c r d s : Int) : Tr := .mk 6 0 c r d s [] []
def callT (w : List UInt8) (ks : List Tr) : Tr := .mk 5 0 0 0 0 0 w ks
mutual
def lineF (L : List Tok) (E : Nat) : Nat → Nat → Nat → Option Res
  | 0, _, _ => none
  | k + 1, lev, p => if 3 < lev then prefF L E k p else Res.next (lineF L E k (lev + 1) p) fun t q => restF L E k lev t q
def restF (L : List Tok) (E : Nat) : Nat → Nat → Tr → Nat → Option Res
  | 0, _, _, _ => none
  | k + 1, lev, out, p => if levelAt L p = lev then Res.next (lineF L E k (lev + 1) (p + 1)) fun t q => restF L E k lev (opT ((L.map Tok.text).getD p []) out t) q else some (.ok out p)
def prefF (L : List Tok) (E : Nat) : Nat → Nat → Option Res
  | 0, _ => none
  | k + 1, p => if isMark L p [45] = true then Res.next (prefF L E k (p + 1)) fun t q => some (.ok (negT t) q) else operF L E k p
def operF (L : List Tok) (E : Nat) : Nat → Nat → Option Res
  | 0, _ => none
  | k + 1, p => if isMark L p [40] = true then Res.next (lineF L E k 1 (p + 1)) fun t q => mustF L E q [41] fun q => some (.ok t q)
    else match L[p]? with
      | none => some (.bad E)
      | some t => if t.kind = 5 then some (.bad t.frm) else if t.kind = 1 then some (.ok (numT t.num) (p + 1)) else if t.kind = 2 then some (.ok (readT t.col t.row) (p + 1)) else if t.kind = 3 then some (.ok badT (p + 1))
        else mustF L E (p + 1) [40] fun q =>
          if t.text = [73, 70] then Res.next (lineF L E k 1 q) fun a q => mustF L E q [44] fun q => Res.next (lineF L E k 1 q) fun b q => mustF L E q [44] fun q => Res.next (lineF L E k 1 q) fun c q => mustF L E q [41] fun q => some (.ok (callT [73, 70] [a, b, c]) q)
          else itemsF L E k t.text [] q
def itemsF (L : List Tok) (E : Nat) : Nat → List UInt8 → List Tr → Nat → Option Res
  | 0, _, _, _ => none
  | k + 1, w, acc, p => Res.next (itemF L E k (w == [67, 79, 85, 78, 84]) p) fun t q => if isMark L q [44] = true then itemsF L E k w (acc ++ [t]) (q + 1) else mustF L E q [41] fun q => some (.ok (callT w (acc ++ [t])) q)
def itemF (L : List Tok) (E : Nat) : Nat → Bool → Nat → Option Res
  | 0, _, _ => none
  | k + 1, corners, p =>
    if corners = false ∧ (isEnd L p = false ∨ isMark L (p + 1) [58] = false) then lineF L E k 1 p
    else match L[p]? with
      | none => some (.bad E)
      | some a =>
        if isEnd L p = false then some (.bad a.frm)
        else if isMark L (p + 1) [58] = false ∧ a.kind = 3 then some (.ok badT (p + 1))
        else mustF L E (p + 1) [58] fun q => match L[q]? with
          | none => some (.bad E)
          | some b => if isEnd L q = false then some (.bad b.frm) else if a.kind = 3 ∨ b.kind = 3 then some (.ok badT (q + 1)) else some (.ok (spanT (min a.col b.col) (min a.row b.row) (max a.col b.col) (max a.row b.row)) (q + 1))
end
end Go.Proofs.YthaoalmhhgllmaaGreatDoor
namespace Go.Proofs.YthaoalmhhgllmaaGreatDoor
open Go.RowKit

def Tr.c1 : Tr → Int | .mk _ _ c _ _ _ _ _ => c
def Tr.r1 : Tr → Int | .mk _ _ _ r _ _ _ _ => r
def Tr.c2 : Tr → Int | .mk _ _ _ _ d _ _ _ => d
def Tr.r2 : Tr → Int | .mk _ _ _ _ _ s _ _ => s
def tv (t : Tr) (A : Option Addr) (cap : Nat) : Value := .agg #[.int .i64 t.kind, .int .i64 t.num, .int .i64 t.c1, .int .i64 t.r1, .int .i64 t.c2, .int .i64 t.r2, .string ⟨t.word.toArray⟩, .slice A t.kids.length cap]
def At8 (w : World) (g o : Nat) (t : Tr) (A : Option Addr) (cap : Nat) : Prop :=
  w.cell? ⟨g, o, none⟩ = some (.int .i64 t.kind) ∧ w.cell? ⟨g, o + 1, none⟩ = some (.int .i64 t.num) ∧ w.cell? ⟨g, o + 2, none⟩ = some (.int .i64 t.c1) ∧ w.cell? ⟨g, o + 3, none⟩ = some (.int .i64 t.r1) ∧
  w.cell? ⟨g, o + 4, none⟩ = some (.int .i64 t.c2) ∧ w.cell? ⟨g, o + 5, none⟩ = some (.int .i64 t.r2) ∧ w.cell? ⟨g, o + 6, none⟩ = some (.string ⟨t.word.toArray⟩) ∧ w.cell? ⟨g, o + 7, none⟩ = some (.slice A t.kids.length cap)
mutual
def KV (w : World) (P : Nat → Prop) : Tr → Option Addr → Prop
  | .mk _ _ _ _ _ _ _ ks, A => ks = [] ∨ ∃ g o, A = some ⟨g, o, none⟩ ∧ P g ∧ g < w.heap.size ∧ KL w P ks g o
def KL (w : World) (P : Nat → Prop) : List Tr → Nat → Nat → Prop
  | [], _, _ => True
  | t :: ts, g, o => (∃ A cap, At8 w g o t A cap ∧ KV w P t A) ∧ KL w P ts g (o + 8)
end
structure Kept (w w' : World) (P : Nat → Prop) : Prop where
  size : w.heap.size ≤ w'.heap.size
  block : ∀ g, P g → g < w.heap.size → w'.heap[g]? = w.heap[g]?
theorem Kept.of_below {w w' : World} {P : Nat → Prop} (h : Below w.heap.size w w') : Kept w w' P := ⟨h.size, fun g _ hg => h.block g hg⟩
theorem Kept.trans {w w' w'' : World} {P : Nat → Prop} (h : Kept w w' P) (h' : Kept w' w'' P) : Kept w w'' P :=
  ⟨Nat.le_trans h.size h'.size, fun g hp hg => (h'.block g hp (Nat.lt_of_lt_of_le hg h.size)).trans (h.block g hp hg)⟩
theorem Kept.refl (w : World) (P : Nat → Prop) : Kept w w P := ⟨Nat.le_refl _, fun _ _ _ => rfl⟩
theorem Kept.cell {w w' : World} {P : Nat → Prop} (h : Kept w w' P) {g o : Nat} (hp : P g) {v : Value} (hv : w.cell? ⟨g, o, none⟩ = some v) : w'.cell? ⟨g, o, none⟩ = some v := by
  have hl : g < w.heap.size := Lib.lt_of_cell hv
  have hb := h.block g hp hl
  rw [← hv]
  unfold World.cell?
  simp only [hb]
theorem At8.kept {w w' : World} {P : Nat → Prop} {g o : Nat} {t : Tr} {A : Option Addr} {cap : Nat} (h : At8 w g o t A cap) (hk : Kept w w' P) (hp : P g) : At8 w' g o t A cap :=
  ⟨hk.cell hp h.1, hk.cell hp h.2.1, hk.cell hp h.2.2.1, hk.cell hp h.2.2.2.1, hk.cell hp h.2.2.2.2.1, hk.cell hp h.2.2.2.2.2.1, hk.cell hp h.2.2.2.2.2.2.1, hk.cell hp h.2.2.2.2.2.2.2⟩
mutual
theorem KV.kept {w w' : World} {P : Nat → Prop} (hk : Kept w w' P) : ∀ {t : Tr} {A : Option Addr}, KV w P t A → KV w' P t A
  | .mk _ _ _ _ _ _ _ ks, A, h => by
    rw [KV] at h ⊢
    rcases h with h | ⟨g, o, rfl, hp, hl, h⟩
    · exact .inl h
    · exact .inr ⟨g, o, rfl, hp, Nat.lt_of_lt_of_le hl hk.size, KL.kept hk hp h⟩
theorem KL.kept {w w' : World} {P : Nat → Prop} (hk : Kept w w' P) : ∀ {ks : List Tr} {g o : Nat}, P g → KL w P ks g o → KL w' P ks g o
  | [], _, _, _, _ => by rw [KL]; trivial
  | t :: ts, g, o, hp, h => by
    rw [KL] at h ⊢
    obtain ⟨⟨A, cap, h8, hv⟩, hl⟩ := h
    exact ⟨⟨A, cap, h8.kept hk hp, KV.kept hk hv⟩, KL.kept hk hp hl⟩
end
theorem KL.at {w : World} {P : Nat → Prop} : ∀ {ks : List Tr} {g o : Nat}, KL w P ks g o → ∀ {i : Nat} {t : Tr}, ks[i]? = some t → ∃ A cap, At8 w g (o + 8 * i) t A cap ∧ KV w P t A
  | [], _, _, _, i, t, hi => by simp at hi
  | u :: us, g, o, h, i, t, hi => by
    rw [KL] at h
    obtain ⟨⟨A, cap, h8, hv⟩, hl⟩ := h
    match i, hi with
    | 0, hi =>
      simp at hi
      subst hi
      exact ⟨A, cap, h8, hv⟩
    | i + 1, hi =>
      have := hl.at (i := i) (t := t) (by simpa using hi)
      rwa [show o + 8 + 8 * i = o + 8 * (i + 1) from by omega] at this
theorem KL.of {w : World} {P : Nat → Prop} : ∀ {ks : List Tr} {g o : Nat}, (∀ (i : Nat) (t : Tr), ks[i]? = some t → ∃ A cap, At8 w g (o + 8 * i) t A cap ∧ KV w P t A) → KL w P ks g o
  | [], _, _, _ => by rw [KL]; trivial
  | t :: ts, g, o, h => by
    rw [KL]
    refine ⟨?_, KL.of fun i u hu => ?_⟩
    · have := h 0 t (by simp)
      simpa using this
    · have := h (i + 1) u (by simpa using hu)
      rwa [show o + 8 + 8 * i = o + 8 * (i + 1) from by omega]
theorem KV.kids {w : World} {P : Nat → Prop} {t : Tr} {A : Option Addr} (h : KV w P t A) : t.kids = [] ∨ ∃ g o, A = some ⟨g, o, none⟩ ∧ P g ∧ g < w.heap.size ∧ KL w P t.kids g o := by
  cases t
  rw [KV] at h
  exact h
theorem KV.mk {w : World} {P : Nat → Prop} {t : Tr} {A : Option Addr} (h : t.kids = [] ∨ ∃ g o, A = some ⟨g, o, none⟩ ∧ P g ∧ g < w.heap.size ∧ KL w P t.kids g o) : KV w P t A := by
  cases t
  rw [KV]
  exact h
theorem KV.kid {w : World} {P : Nat → Prop} {t u : Tr} {g o : Nat} (h : KV w P t (some ⟨g, o, none⟩)) {i : Nat} (hi : t.kids[i]? = some u) : P g ∧ g < w.heap.size ∧ ∃ A cap, At8 w g (o + 8 * i) u A cap ∧ KV w P u A := by
  rcases h.kids with h | ⟨g', o', he, hp, hl, h⟩
  · rw [h] at hi; simp at hi
  · simp at he
    obtain ⟨rfl, rfl⟩ := he
    exact ⟨hp, hl, h.at hi⟩
theorem KV.addr {w : World} {P : Nat → Prop} {t u : Tr} {A : Option Addr} (h : KV w P t A) {i : Nat} (hi : t.kids[i]? = some u) : ∃ g o, A = some ⟨g, o, none⟩ := by
  rcases h.kids with h | ⟨g, o, he, _⟩
  · rw [h] at hi; simp at hi
  · exact ⟨g, o, he⟩
end Go.Proofs.YthaoalmhhgllmaaGreatDoor
namespace Go.Proofs.YthaoalmhhgllmaaGreatDoor
open Go.RowKit

structure But (R : Nat) (w w' : World) : Prop where
  os : w'.os = w.os
  tape : w'.tape = w.tape
  output : w'.output = w.output
  size : w.heap.size ≤ w'.heap.size
  block : ∀ k, k < w.heap.size → k ≠ R → w'.heap[k]? = w.heap[k]?
theorem But.refl (R : Nat) (w : World) : But R w w := ⟨rfl, rfl, rfl, Nat.le_refl _, fun _ _ _ => rfl⟩
theorem But.trans {R : Nat} {a b c : World} (h : But R a b) (k : But R b c) : But R a c :=
  ⟨k.os.trans h.os, k.tape.trans h.tape, k.output.trans h.output, Nat.le_trans h.size k.size, fun i hi hn => (k.block i (Nat.lt_of_lt_of_le hi h.size) hn).trans (h.block i hi hn)⟩
theorem But.of_below {R : Nat} {w w' : World} (h : Below w.heap.size w w') : But R w w' := ⟨h.os, h.tape, h.output, h.size, fun k hk _ => h.block k hk⟩
theorem But.alloc {R : Nat} {a w : World} (h : But R a w) (o : Obj) : But R a (w.alloc o) := h.trans (But.of_below ((Below.refl _ _).alloc (Nat.le_refl _) o))
theorem But.drew {R : Nat} {a w : World} (h : But R a w) : But R a w.drew := ⟨h.os, h.tape, h.output, h.size, h.block⟩
theorem But.setCell {R : Nat} {a w : World} (h : But R a w) {p : Addr} (hp : p.block = R ∨ a.heap.size ≤ p.block) (u : Value) : But R a (w.setCell p u) := by
  have hb := (Below.refl 0 w).setCell (p := p) (Nat.zero_le _) u
  refine ⟨hb.os.trans h.os, hb.tape.trans h.tape, hb.output.trans h.output, Nat.le_trans h.size hb.size, fun k hk hn => ?_⟩
  rw [Below.heap_setCell w p u k (by rcases hp with hp | hp; exact fun e => hn (e.trans hp); exact fun e => by omega)]
  exact h.block k hk hn
theorem But.setR {R : Nat} {a w : World} (h : But R a w) (o : Nat) (u : Value) : But R a (w.setCell ⟨R, o, none⟩ u) := h.setCell (.inl rfl) u
theorem But.setN {R : Nat} {a w : World} (h : But R a w) {g : Nat} (hg : a.heap.size ≤ g) (o : Nat) (u : Value) : But R a (w.setCell ⟨g, o, none⟩ u) := h.setCell (.inr hg) u
theorem But.drewN {R : Nat} {a w : World} (h : But R a w) (n : Nat) : But R a (w.drewN n) := h.trans (But.of_below (below_drewN (Below.refl _ _) n))
theorem But.cell {R : Nat} {w w' : World} (h : But R w w') {p : Addr} {v : Value} (hne : p.block ≠ R) (hv : w.cell? p = some v) : w'.cell? p = some v := by
  rw [World.cell?_of_block (w := w) (h.block p.block (Lib.lt_of_cell hv) hne)]; exact hv
theorem But.frozen {R : Nat} {w w' : World} (h : But R w w') {p : Addr} (hne : p.block ≠ R) (hl : p.block < w.heap.size) (hv : w.frozen? p = false) : w'.frozen? p = false := by
  rw [World.frozen?_of_block (w := w) (h.block p.block hl hne)]; exact hv
theorem But.kept {R : Nat} {w w' : World} (h : But R w w') : Kept w w' (fun g => g ≠ R) := ⟨h.size, fun g hp hl => h.block g hl hp⟩
theorem But.below {R n : Nat} {w w' : World} (h : But R w w') (hn : n ≤ R) (hs : n ≤ w.heap.size) : Below n w w' := ⟨h.os, h.tape, h.output, h.size, fun k hk => h.block k (by omega) (by omega)⟩

def TK (w : World) (R : Nat) (A : Option Addr) (L : List Tok) : Prop := L = [] ∨ ∃ g, A = some ⟨g, 0, none⟩ ∧ g ≠ R ∧ g < w.heap.size ∧ AtT w g L
structure RC (w : World) (R : Nat) (A : Option Addr) (cap : Nat) (L : List Tok) (E : Nat) (p : Int) (f : Bool) (x : Int) : Prop where
  c0 : w.cell? ⟨R, 0, none⟩ = some (.slice A L.length cap)
  c1 : w.cell? ⟨R, 1, none⟩ = some (.int .i64 p)
  c2 : w.cell? ⟨R, 2, none⟩ = some (.int .i64 (E : Int))
  c3 : w.cell? ⟨R, 3, none⟩ = some (.bool f)
  c4 : w.cell? ⟨R, 4, none⟩ = some (.int .i64 x)
  f1 : w.frozen? ⟨R, 1, none⟩ = false
  f3 : w.frozen? ⟨R, 3, none⟩ = false
  f4 : w.frozen? ⟨R, 4, none⟩ = false
theorem RC.lt {w : World} {R : Nat} {A : Option Addr} {cap : Nat} {L : List Tok} {E : Nat} {p : Int} {f : Bool} {x : Int} (h : RC w R A cap L E p f x) : R < w.heap.size := Lib.lt_of_cell h.c0
theorem RC.below {w w' : World} {R : Nat} {A : Option Addr} {cap : Nat} {L : List Tok} {E : Nat} {p : Int} {f : Bool} {x : Int} (h : RC w R A cap L E p f x) (hb : Below w.heap.size w w') : RC w' R A cap L E p f x :=
  ⟨keep_cell hb h.c0, keep_cell hb h.c1, keep_cell hb h.c2, keep_cell hb h.c3, keep_cell hb h.c4, keep_frozen hb h.lt h.f1, keep_frozen hb h.lt h.f3, keep_frozen hb h.lt h.f4⟩
theorem AtT.but {R g : Nat} {w w' : World} {L : List Tok} (h : AtT w g L) (hb : But R w w') (hg : g ≠ R) : AtT w' g L := fun i t hi => by
  obtain ⟨a, b, c, d, e, f⟩ := h i t hi
  exact ⟨hb.cell hg a, hb.cell hg b, hb.cell hg c, hb.cell hg d, hb.cell hg e, hb.cell hg f⟩
theorem TK.but {R : Nat} {w w' : World} {A : Option Addr} {L : List Tok} (h : TK w R A L) (hb : But R w w') : TK w' R A L := by
  rcases h with h | ⟨g, e, hn, hl, ht⟩
  · exact .inl h
  · exact .inr ⟨g, e, hn, Nat.lt_of_lt_of_le hl hb.size, ht.but hb hn⟩
theorem TK.at {w : World} {R : Nat} {A : Option Addr} {L : List Tok} (h : TK w R A L) {i : Nat} {t : Tok} (hi : L[i]? = some t) : ∃ g, A = some ⟨g, 0, none⟩ ∧ g ≠ R ∧ g < w.heap.size ∧ w.cell? ⟨g, i * 6, none⟩ = some (.int .i64 t.kind) ∧ w.cell? ⟨g, i * 6 + 1, none⟩ = some (.int .i64 t.num) ∧ w.cell? ⟨g, i * 6 + 2, none⟩ = some (.int .i64 t.col) ∧
    w.cell? ⟨g, i * 6 + 3, none⟩ = some (.int .i64 t.row) ∧ w.cell? ⟨g, i * 6 + 4, none⟩ = some (.string ⟨t.text.toArray⟩) ∧ w.cell? ⟨g, i * 6 + 5, none⟩ = some (.int .i64 (t.frm : Int)) := by
  rcases h with h | ⟨g, e, hn, hl, ht⟩
  · rw [h] at hi; simp at hi
  · exact ⟨g, e, hn, hl, ht i t hi⟩
theorem zBa {R : Nat} {a w : World} (h : But R a w) (o : Obj) : But R a (w.alloc o) := h.alloc o
theorem zBd {R : Nat} {a w : World} (h : But R a w) : But R a w.drew := h.drew
theorem zBr {R : Nat} {a w : World} (h : But R a w) (o : Nat) (u : Value) : But R a (w.setCell ⟨R, o, none⟩ u) := h.setR o u
theorem zBs {R : Nat} {a w : World} (h : But R a w) {g : Nat} (hg : a.heap.size ≤ g) (o : Nat) (u : Value) : But R a (w.setCell ⟨g, o, none⟩ u) := h.setN hg o u
theorem zBn {R : Nat} {a w : World} (h : But R a w) (n : Nat) : But R a (w.drewN n) := h.drewN n
end Go.Proofs.YthaoalmhhgllmaaGreatDoor
namespace Go.Proofs.YthaoalmhhgllmaaGreatDoor

def Le (a b : Option Res) : Prop := ∀ x, a = some x → b = some x
theorem Le.refl (a : Option Res) : Le a a := fun _ h => h
theorem Le.none (b : Option Res) : Le Option.none b := fun _ h => by cases h
theorem Le.next {a b : Option Res} {f g : Tr → Nat → Option Res} (h : Le a b) (hf : ∀ t q, Le (f t q) (g t q)) : Le (Res.next a f) (Res.next b g) := by
  intro x hx
  cases a with
  | none => cases hx
  | some r =>
    rw [h r rfl]
    cases r with
    | ok t q => exact hf t q x hx
    | bad w => exact hx
theorem Le.must {L : List Tok} {E p : Nat} {s : List UInt8} {f g : Nat → Option Res} (hf : ∀ q, Le (f q) (g q)) : Le (mustF L E p s f) (mustF L E p s g) := by
  unfold mustF
  split
  · exact hf _
  · exact Le.refl _
structure LeAll (L : List Tok) (E k m : Nat) : Prop where
  line : ∀ lev p, Le (lineF L E k lev p) (lineF L E m lev p)
  rest : ∀ lev out p, Le (restF L E k lev out p) (restF L E m lev out p)
  pref : ∀ p, Le (prefF L E k p) (prefF L E m p)
  oper : ∀ p, Le (operF L E k p) (operF L E m p)
  items : ∀ w acc p, Le (itemsF L E k w acc p) (itemsF L E m w acc p)
  item : ∀ c p, Le (itemF L E k c p) (itemF L E m c p)
theorem le_all (L : List Tok) (E : Nat) : ∀ k m, k ≤ m → LeAll L E k m
  | 0, m, _ => by
    constructor <;> intros <;> first | (rw [lineF]; exact Le.none _) | (rw [restF]; exact Le.none _) | (rw [prefF]; exact Le.none _) | (rw [operF]; exact Le.none _) | (rw [itemsF]; exact Le.none _) | (rw [itemF]; exact Le.none _)
  | k + 1, 0, h => absurd h (by omega)
  | k + 1, m + 1, h => by
    have I := le_all L E k m (by omega)
    constructor
    · intro lev p
      simp only [lineF]
      split
      · exact I.pref p
      · exact Le.next (I.line _ _) fun t q => I.rest _ _ _
    · intro lev out p
      simp only [restF]
      split
      · exact Le.next (I.line _ _) fun t q => I.rest _ _ _
      · exact Le.refl _
    · intro p
      simp only [prefF]
      split
      · exact Le.next (I.pref _) fun t q => Le.refl _
      · exact I.oper p
    · intro p
      simp only [operF]
      split
      · exact Le.next (I.line _ _) fun t q => Le.refl _
      · split
        · exact Le.refl _
        · split
          · exact Le.refl _
          · split
            · exact Le.refl _
            · split
              · exact Le.refl _
              · split
                · exact Le.refl _
                · refine Le.must fun q => ?_
                  split
                  · exact Le.next (I.line _ _) fun a q => Le.must fun q => Le.next (I.line _ _) fun b q => Le.must fun q => Le.next (I.line _ _) fun c q => Le.refl _
                  · exact I.items _ _ _
    · intro w acc p
      simp only [itemsF]
      refine Le.next (I.item _ _) fun t q => ?_
      split
      · exact I.items _ _ _
      · exact Le.refl _
    · intro c p
      simp only [itemF]
      split
      · exact I.line _ _
      · exact Le.refl _
end Go.Proofs.YthaoalmhhgllmaaGreatDoor
namespace Go.Proofs.YthaoalmhhgllmaaGreatDoor

def Fine (n lo : Nat) (o : Option Res) : Prop := ∃ x, o = some x ∧ ∀ t q, x = .ok t q → lo ≤ q ∧ q ≤ n
theorem Fine.bad (n lo w : Nat) : Fine n lo (some (.bad w)) := ⟨_, rfl, fun _ _ h => by cases h⟩
theorem Fine.ok {n lo q : Nat} {t : Tr} (h : lo ≤ q) (h2 : q ≤ n) : Fine n lo (some (.ok t q)) := ⟨_, rfl, fun _ _ h' => by cases h'; exact ⟨h, h2⟩⟩
theorem Fine.next {n lo lo' : Nat} {a : Option Res} {f : Tr → Nat → Option Res} (h : Fine n lo a) (hf : ∀ t q, lo ≤ q → q ≤ n → Fine n lo' (f t q)) : Fine n lo' (Res.next a f) := by
  obtain ⟨x, rfl, hx⟩ := h
  cases x with
  | ok t q => exact hf t q (hx t q rfl).1 (hx t q rfl).2
  | bad w => exact Fine.bad _ _ _
theorem mark_lt {L : List Tok} {p : Nat} {s : List UInt8} (h : isMark L p s = true) : p < L.length := by
  unfold isMark at h
  split at h
  · rename_i t ht; exact (List.getElem?_eq_some_iff.1 ht).1
  · cases h
theorem level_lt {L : List Tok} {p lev : Nat} (h : levelAt L p = lev) (hl : 1 ≤ lev) : p < L.length := by
  unfold levelAt at h
  split at h
  · rename_i t ht; exact (List.getElem?_eq_some_iff.1 ht).1
  · omega
theorem Fine.must {L : List Tok} {E p lo : Nat} {s : List UInt8} {f : Nat → Option Res} (hf : p < L.length → Fine L.length lo (f (p + 1))) : Fine L.length lo (mustF L E p s f) := by
  unfold mustF
  split
  · rename_i h; exact hf (mark_lt h)
  · exact Fine.bad _ _ _
structure FineAll (L : List Tok) (E k : Nat) : Prop where
  line : ∀ lev p, 1 ≤ lev → lev ≤ 4 → p ≤ L.length → 8 * (L.length - p) + 7 ≤ k + lev → Fine L.length (p + 1) (lineF L E k lev p)
  rest : ∀ lev out p, 1 ≤ lev → lev ≤ 3 → p ≤ L.length → 8 * (L.length - p) + 1 ≤ k → Fine L.length p (restF L E k lev out p)
  pref : ∀ p, p ≤ L.length → 8 * (L.length - p) + 2 ≤ k → Fine L.length (p + 1) (prefF L E k p)
  oper : ∀ p, p ≤ L.length → 8 * (L.length - p) + 1 ≤ k → Fine L.length (p + 1) (operF L E k p)
  items : ∀ w acc p, p ≤ L.length → 8 * (L.length - p) + 8 ≤ k → Fine L.length (p + 1) (itemsF L E k w acc p)
  item : ∀ c p, p ≤ L.length → 8 * (L.length - p) + 7 ≤ k → Fine L.length (p + 1) (itemF L E k c p)
theorem fine_all (L : List Tok) (E : Nat) : ∀ k, FineAll L E k
  | 0 => by
    constructor <;> intros <;> omega
  | k + 1 => by
    have I := fine_all L E k
    constructor
    · intro lev p h1 h4 hp hk
      simp only [lineF]
      split
      · exact I.pref p hp (by omega)
      · refine Fine.next (I.line _ _ (by omega) (by omega) hp (by omega)) fun t q hq hn => ?_
        obtain ⟨x, hx, h⟩ := I.rest lev t q h1 (by omega) hn (by omega)
        exact ⟨x, hx, fun t q' e => ⟨by have := (h t q' e).1; omega, (h t q' e).2⟩⟩
    · intro lev out p h1 h3 hp hk
      simp only [restF]
      split
      · rename_i hl
        have := level_lt hl h1
        refine Fine.next (I.line _ _ (by omega) (by omega) (by omega) (by omega)) fun t q hq hn => ?_
        obtain ⟨x, hx, h⟩ := I.rest lev (opT ((L.map Tok.text).getD p []) out t) q h1 h3 hn (by omega)
        exact ⟨x, hx, fun t q' e => ⟨by have := (h t q' e).1; omega, (h t q' e).2⟩⟩
      · exact Fine.ok (Nat.le_refl _) hp
    · intro p hp hk
      simp only [prefF]
      split
      · rename_i hm
        have := mark_lt hm
        exact Fine.next (I.pref _ (by omega) (by omega)) fun t q hq hn => Fine.ok (by omega) hn
      · exact I.oper p hp (by omega)
    · intro p hp hk
      simp only [operF]
      split
      · rename_i hm
        have := mark_lt hm
        exact Fine.next (I.line _ _ (by omega) (by omega) (by omega) (by omega)) fun t q hq hn => Fine.must fun h => Fine.ok (by omega) (by omega)
      · split
        · exact Fine.bad _ _ _
        · rename_i t ht
          have hlt := (List.getElem?_eq_some_iff.1 ht).1
          split
          · exact Fine.bad _ _ _
          · split
            · exact Fine.ok (Nat.le_refl _) (by omega)
            · split
              · exact Fine.ok (Nat.le_refl _) (by omega)
              · split
                · exact Fine.ok (Nat.le_refl _) (by omega)
                · refine Fine.must fun h => ?_
                  split
                  · exact Fine.next (I.line _ _ (by omega) (by omega) (by omega) (by omega)) fun a q h1 h2 => Fine.must fun h3 => Fine.next (I.line _ _ (by omega) (by omega) (by omega) (by omega)) fun b q h4 h5 => Fine.must fun h6 => Fine.next (I.line _ _ (by omega) (by omega) (by omega) (by omega)) fun c q h7 h8 => Fine.must fun h9 => Fine.ok (by omega) (by omega)
                  · obtain ⟨x, hx, h'⟩ := I.items t.text [] (p + 1 + 1) (by omega) (by omega)
                    exact ⟨x, hx, fun t q' e => ⟨by have := (h' t q' e).1; omega, (h' t q' e).2⟩⟩
    · intro w acc p hp hk
      simp only [itemsF]
      refine Fine.next (I.item _ _ hp (by omega)) fun t q hq hn => ?_
      split
      · rename_i hm
        have := mark_lt hm
        obtain ⟨x, hx, h'⟩ := I.items w (acc ++ [t]) (q + 1) (by omega) (by omega)
        exact ⟨x, hx, fun t q' e => ⟨by have := (h' t q' e).1; omega, (h' t q' e).2⟩⟩
      · exact Fine.must fun h => Fine.ok (by omega) (by omega)
    · intro c p hp hk
      simp only [itemF]
      split
      · exact I.line _ _ (by omega) (by omega) hp (by omega)
      · split
        · exact Fine.bad _ _ _
        · rename_i a ha
          have hlt := (List.getElem?_eq_some_iff.1 ha).1
          split
          · exact Fine.bad _ _ _
          · split
            · exact Fine.ok (by omega) (by omega)
            · refine Fine.must fun h => ?_
              split
              · exact Fine.bad _ _ _
              · rename_i b hb
                have hlt2 := (List.getElem?_eq_some_iff.1 hb).1
                split
                · exact Fine.bad _ _ _
                · split
                  · exact Fine.ok (by omega) (by omega)
                  · exact Fine.ok (by omega) (by omega)
def treeT (L : List Tok) (E : Nat) : Option Res := lineF L E (8 * L.length + 6) 1 0
theorem tree_some (L : List Tok) (E : Nat) : ∃ x, treeT L E = some x ∧ ∀ t q, x = .ok t q → q ≤ L.length := by
  obtain ⟨x, hx, h⟩ := (fine_all L E (8 * L.length + 6)).line 1 0 (by omega) (by omega) (Nat.zero_le _) (by omega)
  exact ⟨x, hx, fun t q e => (h t q e).2⟩
end Go.Proofs.YthaoalmhhgllmaaGreatDoor
