/- Texts joined: SyM, SyN, SyO, TvB, TvC, SyP. -/
import Derived.Test.YtahdlijkohmdfaaGreatDoorMg08
import Derived.Test.YtahdlijkohmdfaaGreatDoorMg07
import Derived.Deep.QuietTactic
import Derived.BigQuiet
import Derived.Deep.RegionHeld3
import Derived.Deep.RegionWith
set_option linter.all false
set_option linter.unusedVariables false
set_option linter.unusedSimpArgs false
/- The descent over a piece of a longer list of tokens, behind which stands a bracket, or a comma, or nothing. -/
namespace Go.Proofs.YtahdlijkohmdfaaGreatDoor

/-- M stands in L from o on, and what is behind it begins nothing -/
structure Piece (L M : List Tok) (o : Nat) : Prop where
  holds : ∀ (i : Nat) (t : Tok), M[i]? = some t → ∃ f, L[o + i]? = some { t with frm := f }
  level : levelAt L (o + M.length) = 0
  fin : isEnd L (o + M.length) = false
  mark : ∀ s, s ≠ [41] → isMark L (o + M.length) s = false
theorem Piece.get {L M : List Tok} {o : Nat} (h : Piece L M o) {p : Nat} {t : Tok} (ht : M[p]? = some t) : ∃ f, L[o + p]? = some { t with frm := f } := h.holds p t ht
theorem past {M : List Tok} {p : Nat} (h : p ≤ M.length) (hn : M[p]? = none) : p = M.length := by
  have := List.getElem?_eq_none_iff.1 hn
  omega
theorem Piece.level_eq {L M : List Tok} {o : Nat} (h : Piece L M o) {p : Nat} (hp : p ≤ M.length) : levelAt L (o + p) = levelAt M p := by
  cases e : M[p]? with
  | none =>
    rw [past hp e, h.level, level_end]
  | some t =>
    obtain ⟨f, hf⟩ := h.get e
    unfold levelAt
    rw [e, hf]
theorem Piece.end_eq {L M : List Tok} {o : Nat} (h : Piece L M o) {p : Nat} (hp : p ≤ M.length) : isEnd L (o + p) = isEnd M p := by
  cases e : M[p]? with
  | none =>
    have e' := past hp e
    subst e'
    rw [h.fin]
    unfold isEnd
    rw [e]
  | some t =>
    obtain ⟨f, hf⟩ := h.get e
    unfold isEnd
    rw [e, hf]
theorem Piece.mark_eq {L M : List Tok} {o : Nat} (h : Piece L M o) {p : Nat} (hp : p ≤ M.length) {s : List UInt8} (hs : s ≠ [41]) : isMark L (o + p) s = isMark M p s := by
  cases e : M[p]? with
  | none =>
    have e' := past hp e
    subst e'
    rw [h.mark s hs]
    unfold isMark
    rw [e]
  | some t =>
    obtain ⟨f, hf⟩ := h.get e
    unfold isMark
    rw [e, hf]
theorem Piece.mark_yes {L M : List Tok} {o : Nat} (h : Piece L M o) {p : Nat} {s : List UInt8} (hm : isMark M p s = true) : isMark L (o + p) s = true := by
  obtain ⟨t, ht, hk, hx⟩ := mark_is hm
  obtain ⟨f, hf⟩ := h.get ht
  unfold isMark
  rw [hf]
  simp [hk, hx]
theorem next_inv {a : Option Res} {f : Tr → Nat → Option Res} {t : Tr} {q : Nat} (h : Res.next a f = some (.ok t q)) : ∃ u p, a = some (.ok u p) ∧ f u p = some (.ok t q) := by
  cases a with
  | none => cases h
  | some r =>
    cases r with
    | ok u p => exact ⟨u, p, rfl, h⟩
    | bad w => cases h
theorem must_inv {M : List Tok} {E p : Nat} {s : List UInt8} {f : Nat → Option Res} {t : Tr} {q : Nat} (h : mustF M E p s f = some (.ok t q)) : isMark M p s = true ∧ f (p + 1) = some (.ok t q) := by
  unfold mustF at h
  split at h
  · rename_i hm; exact ⟨hm, h⟩
  · cases h
structure PieceAll (L M : List Tok) (E D o k : Nat) : Prop where
  line : ∀ lev p t q, 1 ≤ lev → p ≤ M.length → lineF M D k lev p = some (.ok t q) → q ≤ M.length ∧ lineF L E k lev (o + p) = some (.ok t (o + q))
  rest : ∀ lev out p t q, 1 ≤ lev → p ≤ M.length → restF M D k lev out p = some (.ok t q) → q ≤ M.length ∧ restF L E k lev out (o + p) = some (.ok t (o + q))
  pref : ∀ p t q, p ≤ M.length → prefF M D k p = some (.ok t q) → q ≤ M.length ∧ prefF L E k (o + p) = some (.ok t (o + q))
  oper : ∀ p t q, p ≤ M.length → operF M D k p = some (.ok t q) → q ≤ M.length ∧ operF L E k (o + p) = some (.ok t (o + q))
  items : ∀ w acc p t q, p ≤ M.length → itemsF M D k w acc p = some (.ok t q) → q ≤ M.length ∧ itemsF L E k w acc (o + p) = some (.ok t (o + q))
  item : ∀ c p t q, p ≤ M.length → itemF M D k c p = some (.ok t q) → q ≤ M.length ∧ itemF L E k c (o + p) = some (.ok t (o + q))
theorem piece_all {L M : List Tok} {o : Nat} (h : Piece L M o) (E D : Nat) : ∀ k, PieceAll L M E D o k
  | 0 => by
    constructor
    · intro _ _ _ _ _ _ e; rw [lineF] at e; cases e
    · intro _ _ _ _ _ _ _ e; rw [restF] at e; cases e
    · intro _ _ _ _ e; rw [prefF] at e; cases e
    · intro _ _ _ _ e; rw [operF] at e; cases e
    · intro _ _ _ _ _ _ e; rw [itemsF] at e; cases e
    · intro _ _ _ _ _ e; rw [itemF] at e; cases e
  | k + 1 => by
    have I := piece_all h E D k
    constructor
    · intro lev p t q h1 hp e
      simp only [lineF] at e ⊢
      split at e
      · rename_i hl
        rw [if_pos hl]
        exact I.pref p t q hp e
      · rename_i hl
        rw [if_neg hl]
        obtain ⟨u, r, e1, e2⟩ := next_inv e
        obtain ⟨hr, a⟩ := I.line _ _ _ _ (by omega) hp e1
        obtain ⟨hq, b⟩ := I.rest _ _ _ _ _ h1 hr e2
        exact ⟨hq, by rw [next_ok a]; exact b⟩
    · intro lev out p t q h1 hp e
      simp only [restF] at e ⊢
      rw [h.level_eq hp]
      split at e
      · rename_i hl
        rw [if_pos hl]
        have hlt := level_lt hl h1
        obtain ⟨f, hf⟩ := h.get (List.getElem?_eq_getElem hlt)
        obtain ⟨u, r, e1, e2⟩ := next_inv e
        obtain ⟨hr, a⟩ := I.line _ _ _ _ (by omega) (by omega) e1
        obtain ⟨hq, b⟩ := I.rest _ _ _ _ _ h1 hr e2
        have hx : (L.map Tok.text).getD (o + p) [] = (M.map Tok.text).getD p [] := by
          simp [List.getD_eq_getElem?_getD, hf, List.getElem?_eq_getElem hlt]
        rw [← Nat.add_assoc] at a
        exact ⟨hq, by rw [next_ok a, hx]; exact b⟩
      · rename_i hl
        rw [if_neg hl]
        cases e
        exact ⟨hp, rfl⟩
    · intro p t q hp e
      simp only [prefF] at e ⊢
      rw [h.mark_eq hp (by decide)]
      split at e
      · rename_i hm
        rw [if_pos hm]
        have := mark_lt hm
        obtain ⟨u, r, e1, e2⟩ := next_inv e
        obtain ⟨hr, a⟩ := I.pref _ _ _ (by omega) e1
        rw [← Nat.add_assoc] at a
        cases e2
        exact ⟨hr, by rw [next_ok a]⟩
      · rename_i hm
        rw [if_neg hm]
        exact I.oper p t q hp e
    · intro p t q hp e
      simp only [operF] at e ⊢
      rw [h.mark_eq hp (by decide)]
      split at e
      · rename_i hm
        rw [if_pos hm]
        have := mark_lt hm
        obtain ⟨u, r, e1, e2⟩ := next_inv e
        obtain ⟨hr, a⟩ := I.line _ _ _ _ (by omega) (by omega) e1
        rw [← Nat.add_assoc] at a
        obtain ⟨m1, m2⟩ := must_inv e2
        have := mark_lt m1
        cases m2
        exact ⟨by omega, by rw [next_ok a, must_ok (h.mark_yes m1)]; rfl⟩
      · rename_i hm
        rw [if_neg hm]
        split at e
        · cases e
        · rename_i x hx
          have hlt := (List.getElem?_eq_some_iff.1 hx).1
          obtain ⟨f, hf⟩ := h.get hx
          rw [hf]
          simp only
          split at e
          · cases e
          · rename_i k5
            rw [if_neg k5]
            split at e
            · rename_i k1
              rw [if_pos k1]
              cases e
              exact ⟨by omega, rfl⟩
            · rename_i k1
              rw [if_neg k1]
              split at e
              · rename_i k2
                rw [if_pos k2]
                cases e
                exact ⟨by omega, rfl⟩
              · rename_i k2
                rw [if_neg k2]
                split at e
                · rename_i k3
                  rw [if_pos k3]
                  cases e
                  exact ⟨by omega, rfl⟩
                · rename_i k3
                  rw [if_neg k3]
                  obtain ⟨m1, m2⟩ := must_inv e
                  have l1 := mark_lt m1
                  rw [Nat.add_assoc o p 1, must_ok (h.mark_yes m1)]
                  split at m2
                  · rename_i hw
                    rw [if_pos hw]
                    obtain ⟨u1, r1, a1, a2⟩ := next_inv m2
                    obtain ⟨g1, b1⟩ := I.line _ _ _ _ (by omega) (by omega) a1
                    obtain ⟨c1, c2⟩ := must_inv a2
                    have l2 := mark_lt c1
                    obtain ⟨u2, r2, a3, a4⟩ := next_inv c2
                    obtain ⟨g2, b2⟩ := I.line _ _ _ _ (by omega) (by omega) a3
                    obtain ⟨c3, c4⟩ := must_inv a4
                    have l3 := mark_lt c3
                    obtain ⟨u3, r3, a5, a6⟩ := next_inv c4
                    obtain ⟨g3, b3⟩ := I.line _ _ _ _ (by omega) (by omega) a5
                    obtain ⟨c5, c6⟩ := must_inv a6
                    have l4 := mark_lt c5
                    cases c6
                    rw [← Nat.add_assoc] at b1 b2 b3
                    refine ⟨by omega, ?_⟩
                    rw [next_ok b1, must_ok (h.mark_yes c1), next_ok b2, must_ok (h.mark_yes c3), next_ok b3, must_ok (h.mark_yes c5)]
                    rfl
                  · rename_i hw
                    rw [if_neg hw]
                    obtain ⟨hq, b⟩ := I.items _ _ _ _ _ (by omega) m2
                    exact ⟨hq, b⟩
    · intro w acc p t q hp e
      simp only [itemsF] at e ⊢
      obtain ⟨u, r, e1, e2⟩ := next_inv e
      obtain ⟨hr, a⟩ := I.item _ _ _ _ hp e1
      rw [next_ok a, h.mark_eq hr (by decide)]
      split at e2
      · rename_i hm
        have := mark_lt hm
        rw [if_pos hm]
        exact I.items _ _ _ _ _ (by omega) e2
      · rename_i hm
        rw [if_neg hm]
        obtain ⟨m1, m2⟩ := must_inv e2
        have := mark_lt m1
        cases m2
        exact ⟨by omega, by rw [must_ok (h.mark_yes m1)]; rfl⟩
    · intro c p t q hp e
      simp only [itemF] at e ⊢
      rw [h.end_eq hp]
      by_cases hlt : p < M.length
      · rw [show o + p + 1 = o + (p + 1) from rfl, h.mark_eq (by omega) (by decide)]
        split at e
        · rename_i hc
          rw [if_pos hc]
          exact I.line _ _ _ _ (by omega) hp e
        · rename_i hc
          rw [if_neg hc]
          split at e
          · cases e
          · rename_i x hx
            obtain ⟨f, hf⟩ := h.get hx
            rw [hf]
            simp only
            split at e
            · cases e
            · rename_i he
              rw [if_neg he]
              split at e
              · rename_i h3
                rw [if_pos h3]
                cases e
                exact ⟨by omega, rfl⟩
              · rename_i h3
                rw [if_neg h3]
                obtain ⟨m1, m2⟩ := must_inv e
                have l1 := mark_lt m1
                rw [must_ok (h.mark_yes m1)]
                split at m2
                · cases m2
                · rename_i y hy
                  have l2 := (List.getElem?_eq_some_iff.1 hy).1
                  obtain ⟨g, hg⟩ := h.get hy
                  rw [show o + (p + 1) + 1 = o + (p + 1 + 1) from rfl, hg, h.end_eq (by omega)]
                  simp only
                  split at m2
                  · cases m2
                  · rename_i he2
                    rw [if_neg he2]
                    split at m2
                    · rename_i h4
                      rw [if_pos h4]
                      cases m2
                      exact ⟨by omega, rfl⟩
                    · rename_i h4
                      rw [if_neg h4]
                      cases m2
                      exact ⟨by omega, rfl⟩
      · have hn : M[p]? = none := List.getElem?_eq_none (by omega)
        have hf : isEnd M p = false := by unfold isEnd; rw [hn]
        rw [hn] at e
        simp only at e
        split at e
        · rename_i hc
          rw [if_pos ⟨hc.1, .inl hf⟩]
          exact I.line _ _ _ _ (by omega) hp e
        · cases e
theorem piece_tree {L M : List Tok} {o E D : Nat} {t : Tr} (h : Piece L M o) (ht : treeT M D = some (.ok t M.length)) : ∃ k, lineF L E k 1 o = some (.ok t (o + M.length)) :=
  ⟨_, ((piece_all h E D _).line 1 0 t M.length (by omega) (Nat.zero_le _) ht).2⟩
/-- brackets about whatever is read as a tree -/
theorem brk_any {L : List Tok} {E p q : Nat} {t : Tr} (hm : isMark L p [40] = true) (h : ∃ k, lineF L E k 1 (p + 1) = some (.ok t q)) (hc : isMark L q [41] = true) : Seg L E p (q + 1) t 4 := by
  obtain ⟨k, hk⟩ := h
  refine seg_atom (pref_oper (fun h' => by have := mark_uni hm h'; revert this; decide) ⟨k + 1, ?_⟩)
  simp only [operF]
  rw [if_pos hm, next_ok hk, must_ok hc]
/-- a piece in brackets -/
theorem piece_brk {L M : List Tok} {o E D : Nat} {t : Tr} (ho : isMark L o [40] = true) (hc : isMark L (o + 1 + M.length) [41] = true)
    (hh : ∀ (i : Nat) (t : Tok), M[i]? = some t → ∃ f, L[o + 1 + i]? = some { t with frm := f }) (ht : treeT M D = some (.ok t M.length)) : Seg L E o (o + 1 + M.length + 1) t 4 := by
  have hP : Piece L M (o + 1) := by
    refine ⟨hh, by rw [mark_level hc]; decide, ?_, fun s hs => mark_off hc (Ne.symm hs)⟩
    obtain ⟨x, hx, hk, _⟩ := mark_is hc
    unfold isEnd
    rw [hx]
    simp [hk]
  exact brk_any ho (piece_tree hP ht) hc
end Go.Proofs.YtahdlijkohmdfaaGreatDoor
/- A text that has tokens, with a bracket behind. -/
namespace Go.Proofs.YtahdlijkohmdfaaGreatDoor

theorem run_localC (f : UInt8 → Bool) (r z : List UInt8) (h41 : f 41 = false) (hz : z.head? = none ∨ z.head? = some 41 ∨ z.head? = (r.drop (runLen f r 0)).head?) : runLen f (r.take (runLen f r 0) ++ z) 0 = runLen f r 0 := by
  have hzf : z.takeWhile f = [] := by
    cases z with
    | nil => rfl
    | cons c q =>
      rw [List.takeWhile_cons]
      have hc : f c = false := by
        rcases hz with h | h | h
        · simp at h
        · simp at h; rw [h]; exact h41
        · exact run_end f r c (by rw [← h]; rfl)
      rw [hc]; rfl
  rw [run_take]
  unfold runLen
  rw [List.drop_zero, List.drop_zero, take_own f z hzf r]
theorem mark_oneC {c d : UInt8} (h : markC c d = 1) : markC c 0 = 1 ∧ markC c 41 = 1 := by
  unfold markC at h ⊢
  split at h
  · simp at h
  · split at h
    · rename_i h1
      have a : ¬ (c = 60 ∧ ((0 : UInt8) = 61 ∨ (0 : UInt8) = 62) ∨ c = 62 ∧ (0 : UInt8) = 61) := by
        rintro (⟨_, h | h⟩ | ⟨_, h⟩) <;> exact absurd h (by decide)
      have b : ¬ (c = 60 ∧ ((41 : UInt8) = 61 ∨ (41 : UInt8) = 62) ∨ c = 62 ∧ (41 : UInt8) = 61) := by
        rintro (⟨_, h | h⟩ | ⟨_, h⟩) <;> exact absurd h (by decide)
      rw [if_neg a, if_neg b, if_pos h1]
      exact ⟨rfl, rfl⟩
    · simp at h
theorem one_localC {r z : List UInt8} {t : Tok} {n : Nat} (hr : r ≠ []) (h : oneT r 0 = some (t, n)) (hz : z.head? = none ∨ z.head? = some 41 ∨ z.head? = (r.drop n).head?) : oneT (r.take n ++ z) 0 = some (t, n) := by
  obtain ⟨hn, hle⟩ := one_pos' (l := r) (p := 0) (List.length_pos_iff.2 hr) h
  rw [Nat.zero_add] at hle
  have hh := head_take (z := z) hn hr
  have hs := sub_take (z := z) hle
  have h0 := h
  unfold oneT at h ⊢
  rw [hh]
  split at h
  · rename_i hf
    rw [if_pos hf]
    have hn2 : n = runLen isFig r 0 := by
      split at h
      · simp at h; exact h.2.symm
      · cases h
    subst hn2
    rw [run_localC isFig r z (by decide) hz, hs]
    exact h
  · rename_i hf
    rw [if_neg hf]
    split at h
    · rename_i hc
      rw [if_pos hc]
      have hn2 : n = runLen isNam r 0 := by
        split at h
        · simp at h; exact h.2.symm
        · split at h
          · simp at h; exact h.2.symm
          · split at h
            · simp at h; exact h.2.symm
            · cases h
      subst hn2
      rw [run_localC isNam r z (by decide) hz, hs]
      exact h
    · rename_i hc
      rw [if_neg hc]
      split at h
      · rename_i hq
        have hn2 : n = 4 := by simp at h; exact h.2.symm
        subst hn2
        rw [if_pos (by rw [hs]; exact hq)]
        exact h
      · rename_i hq
        split at h
        · cases h
        · rename_i hm
          simp at h
          obtain ⟨ht, hn2⟩ := h
          cases r with
          | nil => exact absurd rfl hr
          | cons c q =>
            have c35 : c ≠ 35 := by
              rintro rfl
              exact hm (mark_35 _)
            have hq2 : ¬ subL ((c :: q).take n ++ z) 0 4 = [35, 82, 69, 70] := by
              cases n with
              | zero => omega
              | succ k =>
                intro e
                have e2 := congrArg List.head? e
                simp [subL] at e2
                exact c35 e2
            have hm2 : markN ((c :: q).take n ++ z) 0 = markN (c :: q) 0 := by
              have hv : markN (c :: q) 0 = markC c (q.getD 0 0) := rfl
              rw [hv] at hm hn2 ⊢
              rcases mark_val c (q.getD 0 0) with h1 | h1 | h1
              · exact absurd h1 hm
              · rw [h1] at hn2 ⊢
                have hn3 : n = 1 := by simpa using hn2.symm
                subst hn3
                obtain ⟨m0, m1⟩ := mark_oneC h1
                cases z with
                | nil => exact m0
                | cons a y =>
                  show markC c a = 1
                  rcases hz with h | h | h
                  · simp at h
                  · simp at h; rw [h]; exact m1
                  · simp at h
                    cases q with
                    | nil => simp at h
                    | cons b x => simp at h; rw [h]; exact h1
              · rw [h1] at hn2 ⊢
                have hn3 : n = 2 := by simpa using hn2.symm
                subst hn3
                cases q with
                | nil => simp at hle
                | cons b x => exact h1
            rw [if_neg hq2, hm2, if_neg hm, hn2, hs]
            rw [hn2] at ht
            rw [← ht]
/-- behind a text that has tokens stands a bracket, and more -/
theorem lex_close {r : List UInt8} {o : Nat} {ts : List Tok} (h : Lex r o ts) : ∀ (z : List UInt8) (zs : List Tok), Lex (41 :: z) (o + r.length) zs → Lex (r ++ 41 :: z) o (ts ++ zs) := by
  induction h with
  | nil o => intro z zs hz; simpa using hz
  | @blank r o ts _ ih =>
    intro z zs hz
    refine .blank (ih z zs ?_)
    have e : o + (32 :: r).length = o + 1 + r.length := by simp; omega
    rwa [e] at hz
  | @tok r o t n ts hr h32 ho _ ih =>
    intro z zs hz
    obtain ⟨hn, hle⟩ := one_pos' (l := r) (p := 0) (List.length_pos_iff.2 hr) ho
    rw [Nat.zero_add] at hle
    have e : r ++ 41 :: z = r.take n ++ (r.drop n ++ 41 :: z) := by rw [← List.append_assoc, List.take_append_drop]
    have hd : (r ++ 41 :: z).drop n = r.drop n ++ 41 :: z := List.drop_append_of_le_length hle
    have hl : o + r.length = o + n + (r.drop n).length := by rw [List.length_drop]; omega
    refine .tok (t := t) (n := n) (by simp) ?_ ?_ (by rw [hd]; exact ih z zs (by rwa [hl] at hz))
    · cases r with
      | nil => exact absurd rfl hr
      | cons c q => exact h32
    · rw [e]
      refine one_localC hr ho ?_
      cases hx : r.drop n with
      | nil => exact .inr (.inl rfl)
      | cons c q => exact .inr (.inr rfl)
end Go.Proofs.YtahdlijkohmdfaaGreatDoor
/- A tree's text, and how deep it is. -/
namespace Go.Proofs.YtahdlijkohmdfaaGreatDoor

mutual
def deepT : Tr → Nat
  | .mk _ _ _ _ _ _ _ ks => deepL ks + 1
def deepL : List Tr → Nat
  | [] => 0
  | t :: ts => max (deepT t) (deepL ts)
end
/-- a kid's text, in brackets if it is weaker than so much -/
def txW (m : Nat) (t : Tr) (s : List UInt8) : List UInt8 := if t.kind = 4 ∧ lvl t.word < m then 40 :: (s ++ [41]) else s
/-- texts, with commas between and a bracket behind -/
def txJ : List (List UInt8) → List UInt8
  | [] => [41]
  | [s] => s ++ [41]
  | s :: t :: r => s ++ 44 :: txJ (t :: r)
mutual
def txT : Tr → List UInt8
  | .mk k n c r d s w ks =>
    if k = 0 then Lib.decDigits n.toNat else if k = 1 then placeText c r else if k = 6 then placeText c r ++ 58 :: placeText d s
    else if k = 3 then 45 :: txW 4 (ks.getD 0 badT) ((txL ks).getD 0 [])
    else if k = 4 then txW (lvl w) (ks.getD 0 badT) ((txL ks).getD 0 []) ++ (w ++ txW (lvl w + 1) (ks.getD 1 badT) ((txL ks).getD 1 []))
    else if k = 5 then w ++ 40 :: txJ (txL ks) else [35, 82, 69, 70]
def txL : List Tr → List (List UInt8)
  | [] => []
  | t :: ts => txT t :: txL ts
end
theorem txL_nil : txL [] = [] := by rw [txL]
theorem txL_cons (t : Tr) (ts : List Tr) : txL (t :: ts) = txT t :: txL ts := by rw [txL]
def MoT (t : Tr) (s : List UInt8) : Mode → Prop
  | .tree => s = txT t
  | .wi m => s = txW m t (txT t)
  | .item _ => s = txT t
  | .its _ => t.kids ≠ [] ∧ s = txJ (txL t.kids)
theorem pr_tx {md : Mode} {t : Tr} {s : List UInt8} {ts : List Tok} (h : Pr md t s ts) : MoT t s md := by
  induction h with
  | @num n _ => show _ = txT (numT n); unfold numT; rw [txT]; simp
  | @read c r _ => show _ = txT (readT c r); unfold readT; rw [txT]; simp
  | bad => show _ = txT badT; unfold badT; rw [txT]; simp
  | @neg a s ts _ ih =>
    have ih : s = txW 4 a (txT a) := ih
    show _ = txT (negT a); unfold negT; rw [txT]; simp [txL_cons, txL_nil, ih]
  | @op w sa sb a b ta tb _ _ _ iha ihb =>
    have iha : sa = txW (lvl w) a (txT a) := iha
    have ihb : sb = txW (lvl w + 1) b (txT b) := ihb
    show _ = txT (opT w a b); unfold opT; rw [txT]; simp [txL_cons, txL_nil, iha, ihb]
  | @plain m t s ts _ hle ih =>
    have ih : s = txT t := ih
    show _ = txW m t (txT t)
    unfold txW
    rw [if_neg (fun ⟨a, b⟩ => by have := hle a; omega), ih]
  | @brk m t s ts _ hk hlt ih =>
    have ih : s = txT t := ih
    show _ = txW m t (txT t)
    unfold txW
    rw [if_pos ⟨hk, hlt⟩, ih]
  | @cif a b c sa sb sc ta tb tc _ _ _ iha ihb ihc =>
    have iha : sa = txT a := iha
    have ihb : sb = txT b := ihb
    have ihc : sc = txT c := ihc
    show _ = txT (callT [73, 70] [a, b, c]); unfold callT; rw [txT]; simp [txL_cons, txL_nil, txJ, iha, ihb, ihc]
  | @call w s ks ts _ _ ih =>
    obtain ⟨_, ih⟩ := ih
    have ih : s = txJ (txL ks) := ih
    show _ = txT (callT w ks); unfold callT; rw [txT]; simp [ih]
  | itT _ ih => exact ih
  | itBad => show _ = txT badT; unfold badT; rw [txT]; simp
  | @itSpan k c r d s _ _ _ _ => show _ = txT (spanT c r d s); unfold spanT; rw [txT]; simp
  | @last k t s ts _ ih =>
    have ih : s = txT t := ih
    refine ⟨by simp [callT, Tr.kids], ?_⟩
    show _ = txJ (txL [t])
    rw [txL_cons, txL_nil, ih]
    rfl
  | @more k t ks s s' ts ts' _ _ ih ih' =>
    have ih : s = txT t := ih
    obtain ⟨hne, ih'⟩ := ih'
    have hne : ks ≠ [] := hne
    have ih' : s' = txJ (txL ks) := ih'
    refine ⟨by simp [callT, Tr.kids], ?_⟩
    show _ = txJ (txL (t :: ks))
    cases ks with
    | nil => exact absurd rfl hne
    | cons u r =>
      rw [txL_cons, txL_cons, ih, ih', txL_cons]
      rfl
end Go.Proofs.YtahdlijkohmdfaaGreatDoor
/- How deep a tree is, kid by kid; where a kid stands: plain. -/
namespace Go.Proofs.YtahdlijkohmdfaaGreatDoor
open Go.RowKit

theorem deep_kid : ∀ {ks : List Tr} {i : Nat} {u : Tr}, ks[i]? = some u → deepT u ≤ deepL ks
  | [], i, u, h => by simp at h
  | t :: ts, i, u, h => by
    rw [deepL]
    match i, h with
    | 0, h => simp at h; subst h; exact Nat.le_max_left _ _
    | i + 1, h => have := deep_kid (ks := ts) (i := i) (by simpa using h); exact Nat.le_trans this (Nat.le_max_right _ _)
theorem deep_snoc : ∀ (ks : List Tr) (u : Tr), deepL (ks ++ [u]) = max (deepL ks) (deepT u)
  | [], u => by simp only [List.nil_append, deepL]; omega
  | t :: ts, u => by simp only [List.cons_append]; rw [deepL, deepL, deep_snoc ts u]; omega
theorem deep_take {ks : List Tr} {i : Nat} {u : Tr} (h : ks[i]? = some u) : deepL (ks.take (i + 1)) = max (deepL (ks.take i)) (deepT u) := by
  rw [List.take_add_one, h]; exact deep_snoc _ _
theorem deep_take_le : ∀ (ks : List Tr) (i : Nat), deepL (ks.take i) ≤ deepL ks
  | [], i => by simp
  | t :: ts, 0 => by rw [List.take_zero, deepL]; exact Nat.zero_le _
  | t :: ts, i + 1 => by
    rw [List.take_succ_cons, deepL, deepL]
    have := deep_take_le ts i
    omega
/-- a tree whose lists of kids are such as slices are -/
inductive Wid : Tr → Prop
  | mk {k n c r d s : Int} {w : List UInt8} {ks : List Tr} : ks.length ≤ maxLen → (∀ t ∈ ks, Wid t) → Wid (.mk k n c r d s w ks)
theorem Wid.len {t : Tr} (h : Wid t) : t.kids.length ≤ maxLen := by cases h with | mk h _ => exact h
theorem Wid.kid {t u : Tr} (h : Wid t) {i : Nat} (hi : t.kids[i]? = some u) : Wid u := by cases h with | mk _ h => exact h u (List.mem_of_getElem? hi)
theorem deep_eq (t : Tr) : deepT t = deepL t.kids + 1 := by cases t; rw [deepT]; rfl
/-- where a kid stands, in a later world -/
theorem KV.kidAt {w wr : World} {P : Nat → Prop} {t u : Tr} {g o : Nat} (h : KV w P t (some ⟨g, o, none⟩)) (hb : Below w.heap.size w wr) {i : Nat} (hi : t.kids[i]? = some u) :
    g < w.heap.size ∧ ∃ A cap, At8 wr g (o + i * 8) u A cap ∧ KV wr (fun _ => True) u A := by
  obtain ⟨_, hg, A, cap, h8, hk⟩ := h.kid hi
  rw [Nat.mul_comm] at h8
  exact ⟨hg, A, cap, h8.kept (P := fun _ => True) (Kept.of_below hb) trivial, (hk.kept (Kept.of_below hb)).imp fun _ _ => trivial⟩
end Go.Proofs.YtahdlijkohmdfaaGreatDoor
/- Ranges compared; two trees that have the same: plain. -/
namespace Go.Proofs.YtahdlijkohmdfaaGreatDoor
open Go.RowKit

theorem rangeGuard : Tryz.prog.eqGuardType Tryz.prog.depth 27 = false := by kernel_rfl
theorem rangeStood : Tryz.prog.stoodInHeld 27 = false := by kernel_rfl
theorem rangeStruct : Tryz.prog.underlying 27 = some (.struct (Tryz.prog.fieldsOf 27)) := by kernel_rfl
theorem guard_range (op : BinOp) (X Y : Operand) (xs ys : Array Value) (W : World) : (eqGuard op 27 X Y (.agg xs) (.agg ys)).run Tryz.prog W = .ok () W := run_eqGuard_agg W op 27 X Y xs ys rangeGuard
set_option maxHeartbeats 2000000 in
theorem eql_range (a b c d a' b' c' d' : Int) (W : World) : (binOp .eql 27 (.agg #[.int .i64 a, .int .i64 b, .int .i64 c, .int .i64 d]) (.agg #[.int .i64 a', .int .i64 b', .int .i64 c', .int .i64 d'])).run Tryz.prog W
    = .ok (.bool (a == a' && b == b' && (c == c' && d == d'))) W := by
  rw [run_eql_struct, run_equalIn_agg W 9999 27 _ _ rangeStruct rangeStood]
  by_cases h1 : a = a' <;> by_cases h2 : b = b' <;> by_cases h3 : c = c' <;> by_cases h4 : d = d' <;> simp [go_sem, h1, h2, h3, h4]
theorem tr_ext {t u : Tr} (h0 : t.kind = u.kind) (h1 : t.num = u.num) (h2 : t.c1 = u.c1) (h3 : t.r1 = u.r1) (h4 : t.c2 = u.c2) (h5 : t.r2 = u.r2) (h6 : t.word = u.word) (h7 : t.kids = u.kids) : t = u := by
  cases t; cases u
  simp only [Tr.kind, Tr.num, Tr.c1, Tr.r1, Tr.c2, Tr.r2, Tr.word, Tr.kids] at *
  subst h0 h1 h2 h3 h4 h5 h6 h7
  rfl
theorem take_eq {l m : List Tr} {i : Nat} {a b : Tr} (ha : l[i]? = some a) (hb : m[i]? = some b) (h : l.take i = m.take i) (e : a = b) : l.take (i + 1) = m.take (i + 1) := by
  rw [List.take_add_one, List.take_add_one, ha, hb, h, e]
set_option maxHeartbeats 2000000 in
theorem neq_range (a b c d a' b' c' d' : Int) (W : World) : (binOp .neq 27 (.agg #[.int .i64 a, .int .i64 b, .int .i64 c, .int .i64 d]) (.agg #[.int .i64 a', .int .i64 b', .int .i64 c', .int .i64 d'])).run Tryz.prog W
    = .ok (.bool (!(a == a' && b == b' && (c == c' && d == d')))) W := by
  rw [run_neq_struct, run_equalIn_agg W 9999 27 _ _ rangeStruct rangeStood]
  by_cases h1 : a = a' <;> by_cases h2 : b = b' <;> by_cases h3 : c = c' <;> by_cases h4 : d = d' <;> simp [go_sem, h1, h2, h3, h4]
end Go.Proofs.YtahdlijkohmdfaaGreatDoor
/- Which trees may be: the document's own test. -/
namespace Go.Proofs.YtahdlijkohmdfaaGreatDoor
open Go.Lib

/-- has a tree just what its kind has? -/
def onlyB (t : Tr) (n : Nat) : Bool := match t with
  | .mk k num c r d s w ks => (k == 0 || num == 0) && ((k == 1 || k == 6 || (c == 0 && r == 0 && d == 0 && s == 0)) && ((k == 4 || k == 5 || w == []) && ks.length == n))
mutual
def mayB : Tr → Bool
  | .mk k n c r d s w ks =>
    if k = 0 then onlyB (.mk k n c r d s w ks) 0 && decide (0 ≤ n)
    else if k = 1 then onlyB (.mk k n c r d s w ks) 0 && (rightB c r && (c == d && r == s))
    else if k = 2 then onlyB (.mk k n c r d s w ks) 0
    else if k = 6 then onlyB (.mk k n c r d s w ks) 0 && (rightB c r && rightB d s && decide (c ≤ d) && decide (r ≤ s))
    else if k = 3 then onlyB (.mk k n c r d s w ks) 1 && allB ks false false
    else if k = 4 then onlyB (.mk k n c r d s w ks) 2 && (allB ks false false && decide (1 ≤ lvl w))
    else if k = 5 then onlyB (.mk k n c r d s w ks) ks.length && (allB ks (w != [73, 70]) (w == [67, 79, 85, 78, 84]) && (if w = [73, 70] then ks.length == 3 else if w = [83, 85, 77] ∨ w = [77, 73, 78] ∨ w = [77, 65, 88] ∨ w = [67, 79, 85, 78, 84] then decide (0 < ks.length) else false))
    else false
def allB : List Tr → Bool → Bool → Bool
  | [], _, _ => true
  | t :: ts, spans, corners => (mayB t && ((spans || t.kind != 6) && (!corners || t.kind == 6 || t.kind == 2))) && allB ts spans corners
end
/-- a tree whose numbers are such as an int holds -/
inductive Fit : Tr → Prop
  | mk {k n c r d s : Int} {w : List UInt8} {ks : List Tr} : n ≤ 9223372036854775807 → (∀ t ∈ ks, Fit t) → Fit (.mk k n c r d s w ks)
theorem all_mem {ks : List Tr} {a b : Bool} (h : allB ks a b = true) : ∀ t ∈ ks, mayB t = true ∧ (a = true ∨ t.kind ≠ 6) ∧ (b = false ∨ t.kind = 6 ∨ t.kind = 2) := by
  induction ks with
  | nil => intro t ht; cases ht
  | cons u r ih =>
    rw [allB] at h
    simp only [Bool.and_eq_true, Bool.or_eq_true, Bool.not_eq_true', bne_iff_ne, beq_iff_eq] at h
    obtain ⟨⟨h1, h2, h3⟩, h4⟩ := h
    intro t ht
    rcases List.mem_cons.1 ht with rfl | ht
    · exact ⟨h1, h2, by rcases h3 with (h3 | h3) | h3; exact .inl h3; exact .inr (.inl h3); exact .inr (.inr h3)⟩
    · exact ih h4 t ht
/-- what the test lets through may be -/
theorem may_ex {t : Tr} (hf : Fit t) : mayB t = true → (t.kind ≠ 6 → Ex .tree t) ∧ (t.kind = 6 → ∀ c, Ex (.item c) t) ∧ (t.kind = 2 → ∀ c, Ex (.item c) t) := by
  induction hf with
  | @mk k n c r d s w ks hn _ ih =>
    intro h
    rw [mayB] at h
    unfold onlyB at h
    by_cases h0 : k = 0
    · subst h0
      simp at h
      obtain ⟨⟨⟨⟨⟨rfl, rfl⟩, rfl⟩, rfl⟩, rfl, rfl⟩, h⟩ := h
      refine ⟨fun _ => ?_, fun e => by simp [Tr.kind] at e, fun e => by simp [Tr.kind] at e⟩
      obtain ⟨m, rfl⟩ := Int.eq_ofNat_of_zero_le h
      exact ⟨_, _, .num (by omega)⟩
    by_cases h1 : k = 1
    · subst h1
      simp at h
      obtain ⟨⟨rfl, rfl, rfl⟩, h, rfl, rfl⟩ := h
      exact ⟨fun _ => ⟨_, _, .read h⟩, fun e => by simp [Tr.kind] at e, fun e => by simp [Tr.kind] at e⟩
    by_cases h2 : k = 2
    · subst h2
      simp at h
      obtain ⟨rfl, ⟨⟨⟨rfl, rfl⟩, rfl⟩, rfl⟩, rfl, rfl⟩ := h
      refine ⟨fun _ => ⟨_, _, .bad⟩, fun e => by simp [Tr.kind] at e, fun _ c => ?_⟩
      cases c
      · exact ⟨_, _, .itT .bad⟩
      · exact ⟨_, _, .itBad⟩
    by_cases h6 : k = 6
    · subst h6
      simp at h
      obtain ⟨⟨rfl, rfl, rfl⟩, ⟨⟨a, b⟩, e⟩, f⟩ := h
      exact ⟨fun e => by simp [Tr.kind] at e, fun _ c => ⟨_, _, .itSpan a b e f⟩, fun e => by simp [Tr.kind] at e⟩
    by_cases h3 : k = 3
    · subst h3
      simp at h
      obtain ⟨⟨rfl, ⟨⟨⟨rfl, rfl⟩, rfl⟩, rfl⟩, rfl, hk⟩, ha⟩ := h
      obtain ⟨a, rfl⟩ := List.length_eq_one_iff.1 hk
      have A := all_mem ha a (by simp)
      exact ⟨fun _ => Ex.neg ((ih a (by simp) A.1).1 (by simpa using A.2.1)), fun e => by simp [Tr.kind] at e, fun e => by simp [Tr.kind] at e⟩
    by_cases h4 : k = 4
    · subst h4
      simp at h
      obtain ⟨⟨rfl, ⟨⟨⟨rfl, rfl⟩, rfl⟩, rfl⟩, hk⟩, ha, hw⟩ := h
      obtain ⟨a, b, rfl⟩ : ∃ a b, ks = [a, b] := by
        match ks, hk with
        | [a, b], _ => exact ⟨a, b, rfl⟩
      have A := all_mem ha a (by simp)
      have B := all_mem ha b (by simp)
      exact ⟨fun _ => Ex.op hw ((ih a (by simp) A.1).1 (by simpa using A.2.1)) ((ih b (by simp) B.1).1 (by simpa using B.2.1)), fun e => by simp [Tr.kind] at e, fun e => by simp [Tr.kind] at e⟩
    by_cases h5 : k = 5
    · subst h5
      rw [if_neg (by decide), if_neg (by decide), if_neg (by decide), if_neg (by decide), if_neg (by decide), if_neg (by decide), if_pos rfl, Bool.and_eq_true] at h
      obtain ⟨ho, h⟩ := h
      rw [Bool.and_eq_true] at h
      obtain ⟨ha, hif⟩ := h
      simp at ho
      obtain ⟨rfl, ⟨⟨⟨rfl, rfl⟩, rfl⟩, rfl⟩⟩ := ho
      refine ⟨fun _ => ?_, fun e => by simp [Tr.kind] at e, fun e => by simp [Tr.kind] at e⟩
      have M := all_mem ha
      by_cases hw : w = [73, 70]
      · subst hw
        rw [if_pos rfl, beq_iff_eq] at hif
        obtain ⟨a, b, c, rfl⟩ : ∃ a b c, ks = [a, b, c] := by
          match ks, hif with
          | [a, b, c], _ => exact ⟨a, b, c, rfl⟩
        have T : ∀ t ∈ [a, b, c], Ex .tree t := fun t ht => (ih t ht (M t ht).1).1 (by simpa using (M t ht).2.1)
        obtain ⟨_, _, A⟩ := T a (by simp)
        obtain ⟨_, _, B⟩ := T b (by simp)
        obtain ⟨_, _, C⟩ := T c (by simp)
        exact ⟨_, _, .cif A B C⟩
      · rw [if_neg hw] at hif
        split at hif
        · rename_i hc
          have hne : ks ≠ [] := by
            rintro rfl
            simp at hif
          obtain ⟨_, _, I⟩ := ex_its (k := w == [67, 79, 85, 78, 84]) ks hne fun t ht => by
            obtain ⟨m1, _, m3⟩ := M t ht
            obtain ⟨i1, i2, i3⟩ := ih t ht m1
            by_cases e6 : t.kind = 6
            · exact i2 e6 _
            · by_cases e2 : t.kind = 2
              · exact i3 e2 _
              · rcases m3 with m | m | m
                · rw [m]
                  obtain ⟨_, _, X⟩ := i1 e6
                  exact ⟨_, _, .itT X⟩
                · exact absurd m e6
                · exact absurd m e2
          exact ⟨_, _, .call hc I⟩
        · cases hif
    · simp [h0, h1, h2, h3, h4, h5, h6] at h
end Go.Proofs.YtahdlijkohmdfaaGreatDoor
