/- Texts joined: LxQ, SyH, SyI, SyJ, SyK, SyL, SyO, TvB, TvC. -/
import Derived.Test.YtahdlijkohmdfaaGreatDoorMp06
import Derived.Test.YtahdlijkohmdfaaGreatDoorMp07
import Derived.Deep.QuietTactic
import Derived.BigQuiet
import Derived.Deep.RegionHeld3
import Derived.Deep.RegionWith
set_option linter.all false
set_option linter.unusedVariables false
set_option linter.unusedSimpArgs false
namespace Go.Proofs.YtahdlijkohmdfaaGreatDoor
open Go.Lib

def live1 : List UInt8 := [32, 66, 50, 60, 61, 48, 48, 55, 32, 35, 82, 69, 70, 32, 83, 85, 77, 40, 81, 49]
def live2 : List UInt8 := [49, 43, 32, 83, 85, 77, 50]
def liveT : List Tok := [⟨2, 0, 1, 1, [], 1⟩, ⟨5, 0, 0, 0, [60, 61], 3⟩, ⟨1, 7, 0, 0, [], 5⟩, ⟨3, 0, 0, 0, [], 9⟩, ⟨4, 0, 0, 0, [83, 85, 77], 14⟩, ⟨5, 0, 0, 0, [40], 17⟩, ⟨3, 0, 0, 0, [], 18⟩]
theorem scanF_blank {l : List UInt8} {k p : Nat} {acc : List Tok} (h : p < l.length) (hb : l.getD p 0 = 32) : scanF l (k + 1) p acc = scanF l k (p + 1) acc := by
  rw [scanF, if_pos h, if_pos hb]
theorem scanF_tok {l : List UInt8} {k p n : Nat} {acc : List Tok} {t : Tok} (h : p < l.length) (hb : ¬ l.getD p 0 = 32) (ho : oneT l p = some (t, n)) : scanF l (k + 1) p acc = scanF l k (p + n) (acc ++ [t]) := by
  rw [scanF, if_pos h, if_neg hb, ho]
theorem scanF_bad {l : List UInt8} {k p : Nat} {acc : List Tok} (h : p < l.length) (hb : ¬ l.getD p 0 = 32) (ho : oneT l p = none) : scanF l (k + 1) p acc = (none, p) := by
  rw [scanF, if_pos h, if_neg hb, ho]
theorem scanF_end {l : List UInt8} {k p : Nat} {acc : List Tok} (h : ¬ p < l.length) : scanF l (k + 1) p acc = (some acc, 0) := by
  rw [scanF, if_neg h]
theorem one_mark {l : List UInt8} {p : Nat} {m : Int} {x : List UInt8} (h1 : ¬ isFig (l.getD p 0) = true) (h2 : ¬ (65 ≤ (l.getD p 0).toNat ∧ (l.getD p 0).toNat ≤ 90)) (h3 : ¬ subL l p 4 = [35, 82, 69, 70]) (hm : markN l p = m) (h0 : ¬ m = 0) (hx : subL l p m.toNat = x) :
    oneT l p = some (⟨5, 0, 0, 0, x, p⟩, m.toNat) := by
  unfold oneT
  rw [if_neg h1, if_neg h2, if_neg h3, hm, if_neg h0, hx]
theorem one_fig {l : List UInt8} {p n u : Nat} (h1 : isFig (l.getD p 0) = true) (hr : runLen isFig l p = n) (hu : numV (subL l p n) = some u) : oneT l p = some (⟨1, (u : Int), 0, 0, [], p⟩, n) := by
  unfold oneT
  rw [if_pos h1, hr, hu]
theorem one_ref {l : List UInt8} {p : Nat} (h1 : ¬ isFig (l.getD p 0) = true) (h2 : ¬ (65 ≤ (l.getD p 0).toNat ∧ (l.getD p 0).toNat ≤ 90)) (h3 : subL l p 4 = [35, 82, 69, 70]) : oneT l p = some (⟨3, 0, 0, 0, [], p⟩, 4) := by
  unfold oneT
  rw [if_neg h1, if_neg h2, if_pos h3]
theorem one_word {l : List UInt8} {p n : Nat} {x : List UInt8} (h1 : ¬ isFig (l.getD p 0) = true) (h2 : 65 ≤ (l.getD p 0).toNat ∧ (l.getD p 0).toNat ≤ 90) (hr : runLen isNam l p = n) (hx : subL l p n = x) (hw : wordB x = true) : oneT l p = some (⟨4, 0, 0, 0, x, p⟩, n) := by
  unfold oneT
  rw [if_neg h1, if_pos h2, hr, hx, if_pos hw]
theorem one_place {l : List UInt8} {p n : Nat} {x : List UInt8} {c r : Int} (h1 : ¬ isFig (l.getD p 0) = true) (h2 : 65 ≤ (l.getD p 0).toNat ∧ (l.getD p 0).toNat ≤ 90) (hr : runLen isNam l p = n) (hx : subL l p n = x) (hw : ¬ wordB x = true)
    (h : prC x = c ∧ prR x = r ∧ prE x = 0) : oneT l p = some (⟨2, 0, c, r, [], p⟩, n) := by
  unfold oneT
  rw [if_neg h1, if_pos h2, hr, hx, if_neg hw, if_pos h.2.2, h.1, h.2.1]
theorem one_past {l : List UInt8} {p n : Nat} {x : List UInt8} {c r : Int} (h1 : ¬ isFig (l.getD p 0) = true) (h2 : 65 ≤ (l.getD p 0).toNat ∧ (l.getD p 0).toNat ≤ 90) (hr : runLen isNam l p = n) (hx : subL l p n = x) (hw : ¬ wordB x = true)
    (h : prC x = c ∧ prR x = r ∧ prE x = 4) : oneT l p = some (⟨3, 0, 0, 0, [], p⟩, n) := by
  unfold oneT
  rw [if_neg h1, if_pos h2, hr, hx, if_neg hw, h.2.2]
  rfl
theorem one_none {l : List UInt8} {p n : Nat} {x : List UInt8} {c r : Int} (h1 : ¬ isFig (l.getD p 0) = true) (h2 : 65 ≤ (l.getD p 0).toNat ∧ (l.getD p 0).toNat ≤ 90) (hr : runLen isNam l p = n) (hx : subL l p n = x) (hw : ¬ wordB x = true)
    (h : prC x = c ∧ prR x = r ∧ prE x = 2) : oneT l p = none := by
  unfold oneT
  rw [if_neg h1, if_pos h2, hr, hx, if_neg hw, h.2.2]
  rfl
theorem scan_live1 : scanT live1 = (some liveT, 0) := by
  show scanF live1 21 0 [] = _
  rw [scanF_blank (by decide) (by decide),
    scanF_tok (by decide) (by decide) (one_place (by decide) (by decide) (n := 2) (x := [66, 50]) (by decide) (by decide) (by decide) (parse_yes (u := 2) (by decide) (by decide) (by decide) (by decide) (by decide) (by decide +kernel))),
    scanF_tok (by decide) (by decide) (one_mark (m := 2) (x := [60, 61]) (by decide) (by decide) (by decide) (by decide) (by decide) (by decide)),
    scanF_tok (by decide) (by decide) (one_fig (n := 3) (u := 7) (by decide) (by decide) (by decide)),
    scanF_blank (by decide) (by decide),
    scanF_tok (by decide) (by decide) (one_ref (by decide) (by decide) (by decide)),
    scanF_blank (by decide) (by decide),
    scanF_tok (by decide) (by decide) (one_word (n := 3) (x := [83, 85, 77]) (by decide) (by decide) (by decide) (by decide) (by decide)),
    scanF_tok (by decide) (by decide) (one_mark (m := 1) (x := [40]) (by decide) (by decide) (by decide) (by decide) (by decide) (by decide)),
    scanF_tok (by decide) (by decide) (one_past (n := 2) (x := [81, 49]) (by decide) (by decide) (by decide) (by decide) (by decide) (parse_no (u := 1) (by decide) (by decide) (by decide +kernel))),
    scanF_end (by decide)]
  rfl
theorem scan_live2 : scanT live2 = (none, 3) := by
  show scanF live2 8 0 [] = _
  rw [scanF_tok (by decide) (by decide) (one_fig (n := 1) (u := 1) (by decide) (by decide) (by decide)),
    scanF_tok (by decide) (by decide) (one_mark (m := 1) (x := [43]) (by decide) (by decide) (by decide) (by decide) (by decide) (by decide)),
    scanF_blank (by decide) (by decide),
    scanF_bad (by decide) (by decide) (one_none (n := 4) (x := [83, 85, 77, 50]) (by decide) (by decide) (by decide) (by decide) (by decide) (parse_form (by decide)))]
  rfl
theorem ans_live1 : ansL live1 = liveT ∧ ansP live1 = 0 ∧ ansE live1 = 0 := ans_some (by decide) scan_live1
theorem ans_live2 : ansL live2 = [] ∧ ansP live2 = 3 ∧ ansE live2 = 2 := ans_none (by decide) scan_live2
end Go.Proofs.YtahdlijkohmdfaaGreatDoor
namespace Go.Proofs.YtahdlijkohmdfaaGreatDoor
open Go.Lib

def rowFigs (r : Nat) : List UInt8 := if r < 9 then [UInt8.ofNat (48 + (r + 1))] else [UInt8.ofNat (48 + (r + 1) / 10), UInt8.ofNat (48 + (r + 1) % 10)]
theorem figs_all : ∀ r : Fin 64, Lib.decFrom 0 (rowFigs r.val) = some (r.val + 1) ∧ rowFigs r.val ≠ [] ∧ (rowFigs r.val).head? ≠ some 48 := by decide +kernel
theorem figs_is (r : Nat) (h : r < 64) : Lib.decDigits (r + 1) = rowFigs r := by
  obtain ⟨h1, h2, h3⟩ := figs_all ⟨r, h⟩
  exact digits_of_dec (rowFigs r).length (rowFigs r) (r + 1) rfl h1 h2 (.inl h3)
theorem form_all : ∀ c : Fin 16, ∀ r : Fin 64, formedB (UInt8.ofNat (65 + c.val) :: rowFigs r.val) = true := by decide +kernel
theorem parse_text {c r : Int} (h : rightB c r = true) : prC (placeText c r) = c ∧ prR (placeText c r) = r ∧ prE (placeText c r) = 0 := by
  obtain ⟨c0, c1, r0, r1⟩ := (rightB_iff c r).1 h
  have e : placeText c r = letter c :: Lib.itoa (r + 1) := if_pos h
  have e2 : r + 1 = ((r.toNat + 1 : Nat) : Int) := by omega
  rw [e, e2, Lib.itoa_nonneg, figs_is r.toNat (by omega)]
  have hf : formedB (letter c :: rowFigs r.toNat) = true := form_all ⟨c.toNat, by omega⟩ ⟨r.toNat, by omega⟩
  have hl := letter_toNat c c0 c1
  obtain ⟨p1, p2, p3⟩ := parse_yes hf (by omega) (by omega) (u := r.toNat + 1) (by omega) (by omega) (figs_is r.toNat (by omega))
  exact ⟨by rw [p1]; omega, by rw [p2]; omega, p3⟩


theorem run_app {f : UInt8 → Bool} {x z : List UInt8} (hx : ∀ c ∈ x, f c = true) (hz : ∀ c, z.head? = some c → f c = false) : runLen f (x ++ z) 0 = x.length := by
  unfold runLen
  rw [List.drop_zero]
  have hz' : z.takeWhile f = [] := by
    cases z with
    | nil => rfl
    | cons c t => rw [List.takeWhile_cons, hz c rfl]; rfl
  have : (x ++ z).takeWhile f = x := by
    induction x with
    | nil => simpa using hz'
    | cons c t ih =>
      rw [List.cons_append, List.takeWhile_cons, hx c (by simp)]
      simp only [if_true]
      rw [ih fun d hd => hx d (by simp [hd])]
  rw [this]
theorem sub_app (x z : List UInt8) : subL (x ++ z) 0 x.length = x := by
  unfold subL
  rw [List.drop_zero, List.take_left']
  rfl
theorem figs_of_dec {u : Nat} : ∀ {l : List UInt8} {acc : Nat}, decFrom acc l = some u → ∀ c ∈ l, isFig c = true
  | [], _, _, c, hc => by cases hc
  | b :: l, acc, h, c, hc => by
    simp only [decFrom] at h
    cases hd : digitVal b with
    | none => rw [hd] at h; cases h
    | some d =>
      rw [hd] at h
      rcases List.mem_cons.1 hc with rfl | hc
      · unfold digitVal at hd
        split at hd
        · rename_i hb; exact decide_eq_true hb
        · cases hd
      · exact figs_of_dec h c hc
theorem head_of {x z : List UInt8} (hx : x ≠ []) : (x ++ z).getD 0 0 = x.head hx := by
  cases x with
  | nil => exact absurd rfl hx
  | cons c t => rfl
theorem decs_ne (n : Nat) : decDigits n ≠ [] := by
  intro h
  have a := dec_digits n
  rw [h] at a
  have : n = 0 := by simpa [decFrom] using a.symm
  subst this
  rw [digits_zero] at h
  cases h
theorem lex_num {n : Nat} {z : List UInt8} (hn : n ≤ 9223372036854775807) (hz : ∀ c, z.head? = some c → isFig c = false) : oneT (decDigits n ++ z) 0 = some (⟨1, (n : Int), 0, 0, [], 0⟩, (decDigits n).length) := by
  have hf := figs_of_dec (dec_digits n)
  refine one_fig ?_ (run_app hf hz) ?_
  · rw [head_of (decs_ne n)]; exact hf _ (List.head_mem _)
  · rw [sub_app]
    unfold numV
    rw [dec_digits]
    simp only
    rw [if_pos hn]
theorem nam_all : ∀ c : Fin 16, ∀ r : Fin 64, (UInt8.ofNat (65 + c.val) :: rowFigs r.val).all isNam = true ∧ wordB (UInt8.ofNat (65 + c.val) :: rowFigs r.val) = false ∧ isFig (UInt8.ofNat (65 + c.val)) = false ∧ 65 ≤ (UInt8.ofNat (65 + c.val)).toNat ∧ (UInt8.ofNat (65 + c.val)).toNat ≤ 90 := by decide +kernel
theorem lex_place {c r : Int} {z : List UInt8} (h : rightB c r = true) (hz : ∀ c, z.head? = some c → isNam c = false) : oneT (placeText c r ++ z) 0 = some (⟨2, 0, c, r, [], 0⟩, (placeText c r).length) := by
  have hp := parse_text h
  obtain ⟨c0, c1, r0, r1⟩ := (rightB_iff c r).1 h
  obtain ⟨g1, g2, g3, g4, g5⟩ := nam_all ⟨c.toNat, by omega⟩ ⟨r.toNat, by omega⟩
  have e : placeText c r = letter c :: rowFigs r.toNat := by
    have e1 : placeText c r = letter c :: Lib.itoa (r + 1) := if_pos h
    have e2 : r + 1 = ((r.toNat + 1 : Nat) : Int) := by omega
    rw [e1, e2, Lib.itoa_nonneg, figs_is r.toNat (by omega)]
  rw [e] at hp ⊢
  refine one_place (x := letter c :: rowFigs r.toNat) ?_ ?_ (run_app (List.all_eq_true.1 g1) hz) (sub_app _ _) ?_ hp
  · show ¬ isFig (letter c) = true
    unfold letter; rw [g3]; decide
  · exact ⟨g4, g5⟩
  · show ¬ wordB (UInt8.ofNat (65 + c.toNat) :: rowFigs r.toNat) = true
    rw [g2]; decide
theorem lex_word {w z : List UInt8} (hw : wordB w = true) (hz : ∀ c, z.head? = some c → isNam c = false) : oneT (w ++ z) 0 = some (⟨4, 0, 0, 0, w, 0⟩, w.length) := by
  have hc : w = [73, 70] ∨ w = [83, 85, 77] ∨ w = [77, 73, 78] ∨ w = [77, 65, 88] ∨ w = [67, 79, 85, 78, 84] := by
    unfold wordB at hw
    simpa [or_assoc] using hw
  have hn : ∀ c ∈ w, isNam c = true := by rcases hc with rfl | rfl | rfl | rfl | rfl <;> decide
  refine one_word ?_ ?_ (run_app hn hz) (sub_app _ _) hw
  · rcases hc with rfl | rfl | rfl | rfl | rfl <;> simp [isFig]
  · rcases hc with rfl | rfl | rfl | rfl | rfl <;> simp
theorem lex_ref (z : List UInt8) : oneT ([35, 82, 69, 70] ++ z) 0 = some (⟨3, 0, 0, 0, [], 0⟩, 4) := one_ref (show ¬ isFig 35 = true by decide) (show ¬ (65 ≤ (35 : UInt8).toNat ∧ (35 : UInt8).toNat ≤ 90) by decide) rfl
end Go.Proofs.YtahdlijkohmdfaaGreatDoor
namespace Go.Proofs.YtahdlijkohmdfaaGreatDoor
open Go.Lib

def Foll (z : List UInt8) : Prop := ∀ c, z.head? = some c → isNam c = false
theorem Foll.fig {z : List UInt8} (h : Foll z) : ∀ c, z.head? = some c → isFig c = false := fun c hc => by
  have := h c hc
  unfold isNam at this
  unfold isFig
  simp only [decide_eq_false_iff_not] at this ⊢
  omega
theorem Foll.nil : Foll [] := fun c h => by cases h
theorem foll_of {c : UInt8} {z : List UInt8} (h : isNam c = false) : Foll (c :: z) := fun d hd => by cases hd; exact h
def Beg (s : List UInt8) : Prop := ∃ c r, s = c :: r ∧ c ≠ 61 ∧ c ≠ 62 ∧ c ≠ 32
theorem lvl_cases {w : List UInt8} (h : 1 ≤ lvl w) : w = [60] ∨ w = [60, 61] ∨ w = [61] ∨ w = [60, 62] ∨ w = [62, 61] ∨ w = [62] ∨ w = [43] ∨ w = [45] ∨ w = [42] ∨ w = [47] := by
  unfold lvl at h
  split at h
  · rename_i e; rcases e with e | e | e | e | e | e <;> simp [e]
  · split at h
    · rename_i e; rcases e with e | e <;> simp [e]
    · split at h
      · rename_i e; rcases e with e | e <;> simp [e]
      · omega
theorem lex_cons {x z : List UInt8} {o : Nat} {t : Tok} {zs : List Tok} (hx : ∃ c r, x = c :: r ∧ c ≠ 32) (ho : oneT (x ++ z) 0 = some (t, x.length)) (hl : Lex z (o + x.length) zs) : Lex (x ++ z) o ({ t with frm := o } :: zs) := by
  obtain ⟨c, r, rfl, hc⟩ := hx
  refine .tok (by simp) (by simpa using hc) ho ?_
  rw [List.drop_left']
  · exact hl
  · rfl
theorem lex_single {c : UInt8} {z : List UInt8} (h : c = 45 ∨ c = 40 ∨ c = 41 ∨ c = 44 ∨ c = 58) : oneT ([c] ++ z) 0 = some (mkT [c], 1) := by
  have hm : ∀ d, markC c d = 1 := fun d => by rcases h with rfl | rfl | rfl | rfl | rfl <;> simp [markC]
  have := one_mark (l := [c] ++ z) (p := 0) (m := 1) (x := [c]) (by rcases h with rfl | rfl | rfl | rfl | rfl <;> simp [isFig]) (by rcases h with rfl | rfl | rfl | rfl | rfl <;> simp) (by rcases h with rfl | rfl | rfl | rfl | rfl <;> simp [subL]) (hm _) (by decide) (by simp [subL])
  exact this
theorem lex_op {w z : List UInt8} (h : 1 ≤ lvl w) (hz : Beg z) : oneT (w ++ z) 0 = some (mkT w, w.length) := by
  obtain ⟨d, r, rfl, h1, h2, _⟩ := hz
  have key : ∀ (m : Int), m.toNat = w.length → ¬ m = 0 → markN (w ++ d :: r) 0 = m → oneT (w ++ d :: r) 0 = some (mkT w, w.length) := fun m hm h0 hn => by
    have hx : subL (w ++ d :: r) 0 m.toNat = w := by rw [hm]; exact sub_app _ _
    have := one_mark (l := w ++ d :: r) (p := 0) (m := m) (x := w) (by rcases lvl_cases h with e | e | e | e | e | e | e | e | e | e <;> subst e <;> simp [isFig]) (by rcases lvl_cases h with e | e | e | e | e | e | e | e | e | e <;> subst e <;> simp) (by rcases lvl_cases h with e | e | e | e | e | e | e | e | e | e <;> subst e <;> simp [subL]) hn h0 hx
    rw [hm] at this
    exact this
  rcases lvl_cases h with e | e | e | e | e | e | e | e | e | e <;> subst e
  · exact key 1 rfl (by decide) (by simp [markN, markC, h1, h2])
  · exact key 2 rfl (by decide) (by simp [markN, markC])
  · exact key 1 rfl (by decide) (by simp [markN, markC])
  · exact key 2 rfl (by decide) (by simp [markN, markC])
  · exact key 2 rfl (by decide) (by simp [markN, markC])
  · exact key 1 rfl (by decide) (by simp [markN, markC, h1])
  · exact key 1 rfl (by decide) (by simp [markN, markC])
  · exact key 1 rfl (by decide) (by simp [markN, markC])
  · exact key 1 rfl (by decide) (by simp [markN, markC])
  · exact key 1 rfl (by decide) (by simp [markN, markC])
theorem foll_op {w z : List UInt8} (h : 1 ≤ lvl w) : Foll (w ++ z) := by
  rcases lvl_cases h with e | e | e | e | e | e | e | e | e | e <;> subst e <;> exact foll_of (by decide)
theorem op_beg {w : List UInt8} (h : 1 ≤ lvl w) : ∃ c r, w = c :: r ∧ c ≠ 32 := by
  rcases lvl_cases h with e | e | e | e | e | e | e | e | e | e <;> subst e <;> exact ⟨_, _, rfl, by decide⟩
theorem Beg.app {s : List UInt8} (h : Beg s) (z : List UInt8) : Beg (s ++ z) := by
  obtain ⟨c, r, rfl, hc⟩ := h
  exact ⟨c, r ++ z, rfl, hc⟩
theorem Beg.ne {s : List UInt8} (h : Beg s) : ∃ c r, s = c :: r ∧ c ≠ 32 := by
  obtain ⟨c, r, rfl, h1, h2, h3⟩ := h
  exact ⟨c, r, rfl, h3⟩
theorem beg_num (n : Nat) : Beg (decDigits n) := by
  have hf := figs_of_dec (dec_digits n)
  cases e : decDigits n with
  | nil => exact absurd e (decs_ne n)
  | cons c r =>
    have := hf c (by rw [e]; simp)
    unfold isFig at this
    simp only [decide_eq_true_eq] at this
    exact ⟨c, r, rfl, by rintro rfl; revert this; decide, by rintro rfl; revert this; decide, by rintro rfl; revert this; decide⟩
theorem beg_place {c r : Int} (h : rightB c r = true) : Beg (placeText c r) := by
  obtain ⟨c0, c1, r0, r1⟩ := (rightB_iff c r).1 h
  have e : placeText c r = letter c :: Lib.itoa (r + 1) := if_pos h
  have hl := letter_toNat c c0 c1
  rw [e]
  exact ⟨_, _, rfl, by intro h; rw [h] at hl; revert hl; simp; omega, by intro h; rw [h] at hl; revert hl; simp; omega, by intro h; rw [h] at hl; revert hl; simp; omega⟩
theorem pr_beg {md : Mode} {t : Tr} {s : List UInt8} {ts : List Tok} (h : Pr md t s ts) : Beg s := by
  induction h with
  | num _ => exact beg_num _
  | read h => exact beg_place h
  | bad => exact ⟨_, _, rfl, by decide, by decide, by decide⟩
  | neg => exact ⟨_, _, rfl, by decide, by decide, by decide⟩
  | op _ _ _ ih _ => exact ih.app _
  | plain _ _ ih => exact ih
  | brk => exact ⟨_, _, rfl, by decide, by decide, by decide⟩
  | cif => exact ⟨_, _, rfl, by decide, by decide, by decide⟩
  | call hw => rcases hw with rfl | rfl | rfl | rfl <;> exact ⟨_, _, rfl, by decide, by decide, by decide⟩
  | itT _ ih => exact ih
  | itBad => exact ⟨_, _, rfl, by decide, by decide, by decide⟩
  | itSpan h => exact (beg_place h).app _
  | last _ ih => exact ih.app _
  | more _ _ ih _ => exact ih.app _
end Go.Proofs.YtahdlijkohmdfaaGreatDoor
namespace Go.Proofs.YtahdlijkohmdfaaGreatDoor
open Go.Lib

def LexP (s : List UInt8) (ts : List Tok) : Prop := ∀ (z : List UInt8) (o : Nat) (zs : List Tok), Foll z → Lex z (o + s.length) zs → ∃ us, Lex (s ++ z) o (us ++ zs) ∧ us.map bareT = ts
theorem LexP.one {x : List UInt8} {t : Tok} (hx : ∃ c r, x = c :: r ∧ c ≠ 32) (ho : ∀ z, Foll z → oneT (x ++ z) 0 = some (t, x.length)) (hb : bareT t = t) : LexP x [t] := fun z o zs hz hl =>
  ⟨[{ t with frm := o }], lex_cons hx (ho z hz) hl, by show [bareT t] = [t]; rw [hb]⟩
theorem LexP.app {x y : List UInt8} {ts us : List Tok} (hx : LexP x ts) (hy : LexP y us) (hf : ∀ z, Foll (y ++ z)) : LexP (x ++ y) (ts ++ us) := fun z o zs hz hl => by
  obtain ⟨b, hb, eb⟩ := hy z (o + x.length) zs hz (by rw [List.length_append, ← Nat.add_assoc] at hl; exact hl)
  obtain ⟨a, ha, ea⟩ := hx (y ++ z) o (b ++ zs) (hf z) hb
  refine ⟨a ++ b, ?_, by rw [List.map_append, ea, eb]⟩
  rw [List.append_assoc, List.append_assoc]
  exact ha
theorem LexP.head {x y : List UInt8} {t : Tok} {us : List Tok} (hx : ∃ c r, x = c :: r ∧ c ≠ 32) (ho : ∀ z, oneT (x ++ (y ++ z)) 0 = some (t, x.length)) (hb : bareT t = t) (hy : LexP y us) : LexP (x ++ y) (t :: us) := fun z o zs hz hl => by
  obtain ⟨b, hb', eb⟩ := hy z (o + x.length) zs hz (by rw [List.length_append, ← Nat.add_assoc] at hl; exact hl)
  refine ⟨{ t with frm := o } :: b, ?_, by rw [List.map_cons, eb]; show bareT t :: us = t :: us; rw [hb]⟩
  rw [List.append_assoc]
  exact lex_cons hx (ho z) hb'
theorem lexP_mark {c : UInt8} (h : c = 45 ∨ c = 40 ∨ c = 41 ∨ c = 44 ∨ c = 58) : LexP [c] [mkT [c]] :=
  .one ⟨c, [], rfl, by rcases h with rfl | rfl | rfl | rfl | rfl <;> decide⟩ (fun _ _ => lex_single h) rfl
theorem LexP.mark {c : UInt8} {y : List UInt8} {us : List Tok} (h : c = 45 ∨ c = 40 ∨ c = 41 ∨ c = 44 ∨ c = 58) (hy : LexP y us) : LexP (c :: y) (mkT [c] :: us) :=
  LexP.head (x := [c]) ⟨c, [], rfl, by rcases h with rfl | rfl | rfl | rfl | rfl <;> decide⟩ (fun _ => lex_single h) rfl hy
theorem lexP_place {c r : Int} (h : rightB c r = true) : LexP (placeText c r) [placeK c r] := .one (beg_place h).ne (fun _ hz => lex_place h hz) rfl
theorem foll_mark {c : UInt8} {y z : List UInt8} (h : c = 45 ∨ c = 40 ∨ c = 41 ∨ c = 44 ∨ c = 58) : Foll (c :: y ++ z) := foll_of (by rcases h with rfl | rfl | rfl | rfl | rfl <;> decide)
theorem lexP_word {w y : List UInt8} {us : List Tok} (hw : wordB w = true) (hy : LexP y us) : LexP (w ++ 40 :: y) (wordK w :: mkT [40] :: us) := by
  have hc : w = [73, 70] ∨ w = [83, 85, 77] ∨ w = [77, 73, 78] ∨ w = [77, 65, 88] ∨ w = [67, 79, 85, 78, 84] := by
    unfold wordB at hw
    simpa [or_assoc] using hw
  exact LexP.head (by rcases hc with rfl | rfl | rfl | rfl | rfl <;> exact ⟨_, _, rfl, by decide⟩) (fun z => lex_word hw (foll_mark (.inr (.inl rfl)))) rfl (hy.mark (.inr (.inl rfl)))
theorem pr_lex {md : Mode} {t : Tr} {s : List UInt8} {ts : List Tok} (h : Pr md t s ts) : LexP s ts := by
  induction h with
  | @num n hn => exact .one (beg_num n).ne (fun _ hz => lex_num hn hz.fig) rfl
  | read h => exact lexP_place h
  | bad => exact .one ⟨_, _, rfl, by decide⟩ (fun z _ => lex_ref z) rfl
  | neg _ ih => exact ih.mark (.inl rfl)
  | @op w sa sb a b ta tb hw _ hb iha ihb =>
    exact iha.app (LexP.head (op_beg hw) (fun z => lex_op hw ((pr_beg hb).app z)) rfl ihb) fun z => by rw [List.append_assoc]; exact foll_op hw
  | plain _ _ ih => exact ih
  | brk _ _ _ ih => exact (ih.app (lexP_mark (.inr (.inr (.inl rfl)))) fun z => foll_mark (.inr (.inr (.inl rfl)))).mark (.inr (.inl rfl))
  | cif _ _ _ iha ihb ihc =>
    have hC := ihc.app (lexP_mark (c := 41) (.inr (.inr (.inl rfl)))) fun z => foll_mark (.inr (.inr (.inl rfl)))
    have hB := ihb.app (hC.mark (c := 44) (.inr (.inr (.inr (.inl rfl))))) fun z => foll_mark (.inr (.inr (.inr (.inl rfl))))
    have hA := iha.app (hB.mark (c := 44) (.inr (.inr (.inr (.inl rfl))))) fun z => foll_mark (.inr (.inr (.inr (.inl rfl))))
    exact lexP_word (w := [73, 70]) (by decide) hA
  | @call w s ks ts hw _ ih => exact lexP_word (by rcases hw with rfl | rfl | rfl | rfl <;> decide) ih
  | itT _ ih => exact ih
  | itBad => exact .one ⟨_, _, rfl, by decide⟩ (fun z _ => lex_ref z) rfl
  | itSpan h1 h2 _ _ => exact (lexP_place h1).app ((lexP_place h2).mark (.inr (.inr (.inr (.inr rfl))))) fun z => foll_mark (.inr (.inr (.inr (.inr rfl))))
  | last _ ih => exact ih.app (lexP_mark (.inr (.inr (.inl rfl)))) fun z => foll_mark (.inr (.inr (.inl rfl)))
  | more _ _ ih ih' => exact ih.app (ih'.mark (.inr (.inr (.inr (.inl rfl))))) fun z => foll_mark (.inr (.inr (.inr (.inl rfl))))
theorem pr_back {t : Tr} {s : List UInt8} {ts : List Tok} (h : Pr .tree t s ts) (hl : s.length ≤ 200) : ansE s = 0 ∧ (ansL s).map bareT = ts ∧ ∀ E, treeT (ansL s) E = some (.ok t (ansL s).length) := by
  obtain ⟨us, h1, h2⟩ := pr_lex h [] 0 [] Foll.nil (.nil _)
  rw [List.append_nil, List.append_nil] at h1
  obtain ⟨h3, h4⟩ := lex_ans h1 hl
  refine ⟨h4, by rw [h3]; exact h2, fun E => ?_⟩
  rw [h3]
  exact tree_back E h h2
end Go.Proofs.YtahdlijkohmdfaaGreatDoor
namespace Go.Proofs.YtahdlijkohmdfaaGreatDoor
open Go.Lib

def Ex (md : Mode) (t : Tr) : Prop := ∃ s ts, Pr md t s ts
theorem Ex.wi {t : Tr} (h : Ex .tree t) (m : Nat) : Ex (.wi m) t := by
  obtain ⟨s, ts, h⟩ := h
  by_cases hk : t.kind = 4
  · by_cases hl : lvl t.word < m
    · exact ⟨_, _, .brk h hk hl⟩
    · exact ⟨_, _, .plain h fun _ => by omega⟩
  · exact ⟨_, _, .plain h fun e => absurd e hk⟩
theorem Ex.op {w : List UInt8} {a b : Tr} (hw : 1 ≤ lvl w) (ha : Ex .tree a) (hb : Ex .tree b) : Ex .tree (opT w a b) := by
  obtain ⟨_, _, h1⟩ := ha.wi (lvl w)
  obtain ⟨_, _, h2⟩ := hb.wi (lvl w + 1)
  exact ⟨_, _, .op hw h1 h2⟩
theorem Ex.neg {a : Tr} (ha : Ex .tree a) : Ex .tree (negT a) := by
  obtain ⟨_, _, h1⟩ := ha.wi 4
  exact ⟨_, _, .neg h1⟩
theorem ex_its {k : Bool} : ∀ (ks : List Tr), ks ≠ [] → (∀ t ∈ ks, Ex (.item k) t) → Ex (.its k) (callT [] ks)
  | [], h, _ => absurd rfl h
  | [t], _, h => by
    obtain ⟨_, _, h1⟩ := h t (by simp)
    exact ⟨_, _, .last h1⟩
  | t :: u :: ks, _, h => by
    obtain ⟨_, _, h1⟩ := h t (by simp)
    obtain ⟨_, _, h2⟩ := ex_its (u :: ks) (by simp) fun x hx => h x (by simp only [List.mem_cons] at hx ⊢; exact .inr hx)
    exact ⟨_, _, .more h1 h2⟩
structure GoodT (t : Tok) : Prop where
  num : t.kind = 1 → ∃ n : Nat, t.num = (n : Int) ∧ n ≤ 9223372036854775807
  place : t.kind = 2 → rightB t.col t.row = true
  word : t.kind = 4 → wordB t.text = true
  kind : 1 ≤ t.kind ∧ t.kind ≤ 5
def GoodL (L : List Tok) : Prop := ∀ (p : Nat) (t : Tok), L[p]? = some t → GoodT t
def Gives (md : Mode) (o : Option Res) : Prop := ∀ t q, o = some (.ok t q) → Ex md t
theorem Gives.ok {md : Mode} {t : Tr} {q : Nat} (h : Ex md t) : Gives md (some (.ok t q)) := fun _ _ e => by cases e; exact h
theorem Gives.bad {md : Mode} {w : Nat} : Gives md (some (.bad w)) := fun _ _ e => by cases e
theorem Gives.next {md md' : Mode} {a : Option Res} {f : Tr → Nat → Option Res} (h : Gives md a) (hf : ∀ t q, Ex md t → Gives md' (f t q)) : Gives md' (Res.next a f) := fun t q e => by
  cases a with
  | none => cases e
  | some r =>
    cases r with
    | ok u p => exact hf u p (h u p rfl) t q e
    | bad w => cases e
theorem Gives.must {md : Mode} {L : List Tok} {E p : Nat} {s : List UInt8} {f : Nat → Option Res} (hf : ∀ q, Gives md (f q)) : Gives md (mustF L E p s f) := by
  unfold mustF
  split
  · exact hf _
  · exact .bad
theorem word_cases {w : List UInt8} (h : wordB w = true) : w = [73, 70] ∨ w = [83, 85, 77] ∨ w = [77, 73, 78] ∨ w = [77, 65, 88] ∨ w = [67, 79, 85, 78, 84] := by
  unfold wordB at h
  simpa [or_assoc] using h
structure GivesAll (L : List Tok) (E k : Nat) : Prop where
  line : ∀ lev p, 1 ≤ lev → Gives .tree (lineF L E k lev p)
  rest : ∀ lev out p, 1 ≤ lev → Ex .tree out → Gives .tree (restF L E k lev out p)
  pref : ∀ p, Gives .tree (prefF L E k p)
  oper : ∀ p, Gives .tree (operF L E k p)
  items : ∀ w acc p, wordB w = true → w ≠ [73, 70] → (∀ t ∈ acc, Ex (.item (w == [67, 79, 85, 78, 84])) t) → Gives .tree (itemsF L E k w acc p)
  item : ∀ c p, Gives (.item c) (itemF L E k c p)
theorem gives_all {L : List Tok} (hL : GoodL L) (E : Nat) : ∀ k, GivesAll L E k
  | 0 => by
    constructor <;> intros <;> first | (rw [lineF]; intro _ _ h; cases h) | (rw [restF]; intro _ _ h; cases h) | (rw [prefF]; intro _ _ h; cases h) | (rw [operF]; intro _ _ h; cases h) | (rw [itemsF]; intro _ _ h; cases h) | (rw [itemF]; intro _ _ h; cases h)
  | k + 1 => by
    have I := gives_all hL E k
    constructor
    · intro lev p h1
      simp only [lineF]
      split
      · exact I.pref p
      · exact (I.line _ _ (by omega)).next fun t q ht => I.rest lev t q h1 ht
    · intro lev out p h1 ho
      simp only [restF]
      split
      · rename_i hl
        refine (I.line _ _ (by omega)).next fun t q ht => I.rest lev _ q h1 (Ex.op ?_ ho ht)
        have hlt := level_lt hl h1
        unfold levelAt at hl
        rw [List.getElem?_eq_getElem hlt] at hl
        simp only at hl
        split at hl
        · simp only [List.getD_eq_getElem?_getD, List.getElem?_map, List.getElem?_eq_getElem hlt, Option.map_some, Option.getD_some]
          omega
        · omega
      · exact .ok ho
    · intro p
      simp only [prefF]
      split
      · exact (I.pref _).next fun t q ht => .ok ht.neg
      · exact I.oper p
    · intro p
      simp only [operF]
      split
      · exact (I.line _ _ (by omega)).next fun t q ht => .must fun _ => .ok ht
      · split
        · exact .bad
        · rename_i t ht
          have G := hL p t ht
          split
          · exact .bad
          · split
            · rename_i h1
              obtain ⟨n, hn, hle⟩ := G.num h1
              rw [hn]
              exact .ok ⟨_, _, .num hle⟩
            · split
              · rename_i h2
                exact .ok ⟨_, _, .read (G.place h2)⟩
              · split
                · exact .ok ⟨_, _, .bad⟩
                · have h4 : t.kind = 4 := by have := G.kind; omega
                  have hw := G.word h4
                  refine .must fun q => ?_
                  split
                  · refine (I.line _ _ (by omega)).next fun a q ha => .must fun q => (I.line _ _ (by omega)).next fun b q hb => .must fun q => (I.line _ _ (by omega)).next fun c q hc => .must fun q => .ok ?_
                    obtain ⟨_, _, ha⟩ := ha
                    obtain ⟨_, _, hb⟩ := hb
                    obtain ⟨_, _, hc⟩ := hc
                    exact ⟨_, _, .cif ha hb hc⟩
                  · rename_i hn
                    exact I.items t.text [] q hw hn fun x hx => by cases hx
    · intro w acc p hw hn ha
      simp only [itemsF]
      refine (I.item _ _).next fun t q ht => ?_
      have hall : ∀ x ∈ acc ++ [t], Ex (.item (w == [67, 79, 85, 78, 84])) x := fun x hx => by
        rcases List.mem_append.1 hx with h | h
        · exact ha x h
        · rw [List.mem_singleton.1 h]; exact ht
      split
      · exact I.items w _ _ hw hn hall
      · refine .must fun _ => .ok ?_
        obtain ⟨_, _, h⟩ := ex_its (acc ++ [t]) (by simp) hall
        exact ⟨_, _, .call ((word_cases hw).resolve_left hn) h⟩
    · intro c p
      simp only [itemF]
      split
      · rename_i h
        obtain ⟨rfl, _⟩ := h
        intro t q e
        obtain ⟨_, _, h⟩ := I.line 1 p (by omega) t q e
        exact ⟨_, _, .itT h⟩
      · rename_i hc
        have hB : Ex (.item c) badT := by
          cases c
          · exact ⟨_, _, .itT .bad⟩
          · exact ⟨_, _, .itBad⟩
        split
        · exact .bad
        · rename_i a ha
          split
          · exact .bad
          · rename_i he
            split
            · exact .ok hB
            · refine .must fun q => ?_
              split
              · exact .bad
              · rename_i b hb
                split
                · exact .bad
                · rename_i he2
                  split
                  · exact .ok hB
                  · rename_i h3
                    unfold isEnd at he he2
                    rw [ha] at he
                    rw [hb] at he2
                    simp at he he2
                    have h1 := (hL _ _ ha).place (by omega)
                    have h2 := (hL _ _ hb).place (by omega)
                    obtain ⟨a0, a1, a2, a3⟩ := (rightB_iff _ _).1 h1
                    obtain ⟨b0, b1, b2, b3⟩ := (rightB_iff _ _).1 h2
                    exact .ok ⟨_, _, .itSpan ((rightB_iff _ _).2 (by omega)) ((rightB_iff _ _).2 (by omega)) (by omega) (by omega)⟩
theorem tree_may {L : List Tok} {E : Nat} (hL : GoodL L) {t : Tr} {q : Nat} (h : treeT L E = some (.ok t q)) : Ex .tree t := (gives_all hL E _).line 1 0 (by omega) t q h
end Go.Proofs.YtahdlijkohmdfaaGreatDoor
namespace Go.Proofs.YtahdlijkohmdfaaGreatDoor
open Go.Lib

theorem find_low {n : Nat} {f : Nat → Bool} {i : Nat} (h : (List.range n).find? f = some i) : i < n := List.mem_range.1 (List.mem_of_find?_eq_some h)
theorem find_lt {l : List UInt8} {i : Nat} (h : findP l = some i) : i < 1024 := find_low (f := fun i => textAt i == l) h
theorem parse_right {l : List UInt8} (h : prE l = 0) : rightB (prC l) (prR l) = true := by
  unfold prE at h
  unfold prC prR
  split at h
  · rename_i hf
    rw [if_pos hf, if_pos hf]
    cases e : findP l with
    | none => rw [e] at h; exact absurd h (by decide)
    | some i =>
      have hi : i < 1024 := find_lt e
      show rightB (atC (i : Int)) (atR (i : Int)) = true
      rw [atC_of i hi, atR_of i hi]
      exact (rightB_iff _ _).2 (by omega)
  · exact absurd h (by decide)
theorem good_one {l : List UInt8} {p n : Nat} {t : Tok} (h : oneT l p = some (t, n)) : GoodT t := by
  unfold oneT at h
  split at h
  · split at h
    · rename_i u hu
      have h := (Prod.mk.inj (Option.some.inj h)).1; subst h
      refine ⟨fun _ => ⟨u, rfl, ?_⟩, fun e => by simp at e, fun e => by simp at e, by simp⟩
      unfold numV at hu
      split at hu
      · split at hu
        · rename_i hle; cases hu; exact hle
        · cases hu
      · cases hu
    · cases h
  · split at h
    · split at h
      · rename_i hw
        have h := (Prod.mk.inj (Option.some.inj h)).1; subst h
        exact ⟨fun e => by simp at e, fun e => by simp at e, fun _ => hw, by simp⟩
      · split at h
        · rename_i hp
          have hr := parse_right hp
          have h := (Prod.mk.inj (Option.some.inj h)).1; subst h
          exact ⟨fun e => by simp at e, fun _ => by simp only; exact hr, fun e => by simp at e, by simp⟩
        · split at h
          · have h := (Prod.mk.inj (Option.some.inj h)).1; subst h
            exact ⟨fun e => by simp at e, fun e => by simp at e, fun e => by simp at e, by simp⟩
          · cases h
    · split at h
      · have h := (Prod.mk.inj (Option.some.inj h)).1; subst h
        exact ⟨fun e => by simp at e, fun e => by simp at e, fun e => by simp at e, by simp⟩
      · split at h
        · cases h
        · have h := (Prod.mk.inj (Option.some.inj h)).1; subst h
          exact ⟨fun e => by simp at e, fun e => by simp at e, fun e => by simp at e, by simp⟩
theorem good_lex {r : List UInt8} {o : Nat} {ts : List Tok} (h : Lex r o ts) : ∀ t ∈ ts, GoodT t := by
  induction h with
  | nil => intro t ht; cases ht
  | blank _ ih => exact ih
  | tok _ _ ho _ ih =>
    intro t ht
    rcases List.mem_cons.1 ht with rfl | ht
    · have G := good_one ho
      exact ⟨G.num, G.place, G.word, G.kind⟩
    · exact ih t ht
theorem good_ans {l : List UInt8} (h : ansE l = 0) (hl : l.length ≤ 200) : GoodL (ansL l) := fun _ t ht => good_lex (ans_ok h hl) t (List.mem_of_getElem? ht)
theorem parsed_back {l : List UInt8} (h : ansE l = 0) (hl : l.length ≤ 200) {t : Tr} {q E : Nat} (ht : treeT (ansL l) E = some (.ok t q)) :
    ∃ s ts, Pr .tree t s ts ∧ (s.length ≤ 200 → ansE s = 0 ∧ ∀ E, treeT (ansL s) E = some (.ok t (ansL s).length)) := by
  obtain ⟨s, ts, hp⟩ := tree_may (good_ans h hl) ht
  exact ⟨s, ts, hp, fun hs => by obtain ⟨a, _, b⟩ := pr_back hp hs; exact ⟨a, b⟩⟩
end Go.Proofs.YtahdlijkohmdfaaGreatDoor
namespace Go.Proofs.YtahdlijkohmdfaaGreatDoor

mutual
def deepT : Tr → Nat
  | .mk _ _ _ _ _ _ _ ks => deepL ks + 1
def deepL : List Tr → Nat
  | [] => 0
  | t :: ts => max (deepT t) (deepL ts)
end
def txW (m : Nat) (t : Tr) (s : List UInt8) : List UInt8 := if t.kind = 4 ∧ lvl t.word < m then 40 :: (s ++ [41]) else s
def txJ : List (List UInt8) → List UInt8
  | [] => [41]
  | [s] => s ++ [41]
  | s :: t :: r => s ++ 44 :: txJ (t :: r)
mutual
def txT : Tr → List UInt8
  | .mk k n c r d s w ks =>
    if k = 0 then Lib.decDigits n.toNat else if k = 1 then placeText c r else if k = 6 then placeText c r ++ 58 :: placeText d s
    else if k = 3 then 45 :: txW 4 (ks.getD 0 badT) ((txL ks).getD 0 [])
    else if k = 4 then txW (lvl w) (ks.getD 0 badT) ((txL ks).getD 0 []) ++ (w ++ txW (lvl w + 1) (ks.getD 1 badT) ((txL ks).getD 1 []))
    else if k = 5 then w ++ 40 :: txJ (txL ks) else [35, 82, 69, 70]
def txL : List Tr → List (List UInt8)
  | [] => []
  | t :: ts => txT t :: txL ts
end
theorem txL_nil : txL [] = [] := by rw [txL]
theorem txL_cons (t : Tr) (ts : List Tr) : txL (t :: ts) = txT t :: txL ts := by rw [txL]
def MoT (t : Tr) (s : List UInt8) : Mode → Prop
  | .tree => s = txT t
  | .wi m => s = txW m t (txT t)
  | .item _ => s = txT t
  | .its _ => t.kids ≠ [] ∧ s = txJ (txL t.kids)
theorem pr_tx {md : Mode} {t : Tr} {s : List UInt8} {ts : List Tok} (h : Pr md t s ts) : MoT t s md := by
  induction h with
  | @num n _ => show _ = txT (numT n); unfold numT; rw [txT]; simp
  | @read c r _ => show _ = txT (readT c r); unfold readT; rw [txT]; simp
  | bad => show _ = txT badT; unfold badT; rw [txT]; simp
  | @neg a s ts _ ih =>
    have ih : s = txW 4 a (txT a) := ih
    show _ = txT (negT a); unfold negT; rw [txT]; simp [txL_cons, txL_nil, ih]
  | @op w sa sb a b ta tb _ _ _ iha ihb =>
    have iha : sa = txW (lvl w) a (txT a) := iha
    have ihb : sb = txW (lvl w + 1) b (txT b) := ihb
    show _ = txT (opT w a b); unfold opT; rw [txT]; simp [txL_cons, txL_nil, iha, ihb]
  | @plain m t s ts _ hle ih =>
    have ih : s = txT t := ih
    show _ = txW m t (txT t)
    unfold txW
    rw [if_neg (fun ⟨a, b⟩ => by have := hle a; omega), ih]
  | @brk m t s ts _ hk hlt ih =>
    have ih : s = txT t := ih
    show _ = txW m t (txT t)
    unfold txW
    rw [if_pos ⟨hk, hlt⟩, ih]
  | @cif a b c sa sb sc ta tb tc _ _ _ iha ihb ihc =>
    have iha : sa = txT a := iha
    have ihb : sb = txT b := ihb
    have ihc : sc = txT c := ihc
    show _ = txT (callT [73, 70] [a, b, c]); unfold callT; rw [txT]; simp [txL_cons, txL_nil, txJ, iha, ihb, ihc]
  | @call w s ks ts _ _ ih =>
    obtain ⟨_, ih⟩ := ih
    have ih : s = txJ (txL ks) := ih
    show _ = txT (callT w ks); unfold callT; rw [txT]; simp [ih]
  | itT _ ih => exact ih
  | itBad => show _ = txT badT; unfold badT; rw [txT]; simp
  | @itSpan k c r d s _ _ _ _ => show _ = txT (spanT c r d s); unfold spanT; rw [txT]; simp
  | @last k t s ts _ ih =>
    have ih : s = txT t := ih
    refine ⟨by simp [callT, Tr.kids], ?_⟩
    show _ = txJ (txL [t])
    rw [txL_cons, txL_nil, ih]
    rfl
  | @more k t ks s s' ts ts' _ _ ih ih' =>
    have ih : s = txT t := ih
    obtain ⟨hne, ih'⟩ := ih'
    have hne : ks ≠ [] := hne
    have ih' : s' = txJ (txL ks) := ih'
    refine ⟨by simp [callT, Tr.kids], ?_⟩
    show _ = txJ (txL (t :: ks))
    cases ks with
    | nil => exact absurd rfl hne
    | cons u r =>
      rw [txL_cons, txL_cons, ih, ih', txL_cons]
      rfl
end Go.Proofs.YtahdlijkohmdfaaGreatDoor
namespace Go.Proofs.YtahdlijkohmdfaaGreatDoor
open Go.RowKit

theorem deep_kid : ∀ {ks : List Tr} {i : Nat} {u : Tr}, ks[i]? = some u → deepT u ≤ deepL ks
  | [], i, u, h => by simp at h
  | t :: ts, i, u, h => by
    rw [deepL]
    match i, h with
    | 0, h => simp at h; subst h; exact Nat.le_max_left _ _
    | i + 1, h => have := deep_kid (ks := ts) (i := i) (by simpa using h); exact Nat.le_trans this (Nat.le_max_right _ _)
theorem deep_snoc : ∀ (ks : List Tr) (u : Tr), deepL (ks ++ [u]) = max (deepL ks) (deepT u)
  | [], u => by simp only [List.nil_append, deepL]; omega
  | t :: ts, u => by simp only [List.cons_append]; rw [deepL, deepL, deep_snoc ts u]; omega
theorem deep_take {ks : List Tr} {i : Nat} {u : Tr} (h : ks[i]? = some u) : deepL (ks.take (i + 1)) = max (deepL (ks.take i)) (deepT u) := by
  rw [List.take_add_one, h]; exact deep_snoc _ _
theorem deep_take_le : ∀ (ks : List Tr) (i : Nat), deepL (ks.take i) ≤ deepL ks
  | [], i => by simp
  | t :: ts, 0 => by rw [List.take_zero, deepL]; exact Nat.zero_le _
  | t :: ts, i + 1 => by
    rw [List.take_succ_cons, deepL, deepL]
    have := deep_take_le ts i
    omega
inductive Wid : Tr → Prop
  | mk {k n c r d s : Int} {w : List UInt8} {ks : List Tr} : ks.length ≤ maxLen → (∀ t ∈ ks, Wid t) → Wid (.mk k n c r d s w ks)
theorem Wid.len {t : Tr} (h : Wid t) : t.kids.length ≤ maxLen := by cases h with | mk h _ => exact h
theorem Wid.kid {t u : Tr} (h : Wid t) {i : Nat} (hi : t.kids[i]? = some u) : Wid u := by cases h with | mk _ h => exact h u (List.mem_of_getElem? hi)
theorem deep_eq (t : Tr) : deepT t = deepL t.kids + 1 := by cases t; rw [deepT]; rfl
theorem KV.kidAt {w wr : World} {P : Nat → Prop} {t u : Tr} {g o : Nat} (h : KV w P t (some ⟨g, o, none⟩)) (hb : Below w.heap.size w wr) {i : Nat} (hi : t.kids[i]? = some u) :
    g < w.heap.size ∧ ∃ A cap, At8 wr g (o + i * 8) u A cap ∧ KV wr (fun _ => True) u A := by
  obtain ⟨_, hg, A, cap, h8, hk⟩ := h.kid hi
  rw [Nat.mul_comm] at h8
  exact ⟨hg, A, cap, h8.kept (P := fun _ => True) (Kept.of_below hb) trivial, (hk.kept (Kept.of_below hb)).imp fun _ _ => trivial⟩
end Go.Proofs.YtahdlijkohmdfaaGreatDoor
namespace Go.Proofs.YtahdlijkohmdfaaGreatDoor
open Go.RowKit

theorem rangeGuard : Tryz.prog.eqGuardType Tryz.prog.depth 27 = false := by kernel_rfl
theorem rangeStood : Tryz.prog.stoodInHeld 27 = false := by kernel_rfl
theorem rangeStruct : Tryz.prog.underlying 27 = some (.struct (Tryz.prog.fieldsOf 27)) := by kernel_rfl
theorem guard_range (op : BinOp) (X Y : Operand) (xs ys : Array Value) (W : World) : (eqGuard op 27 X Y (.agg xs) (.agg ys)).run Tryz.prog W = .ok () W := run_eqGuard_agg W op 27 X Y xs ys rangeGuard
set_option maxHeartbeats 2000000 in
theorem eql_range (a b c d a' b' c' d' : Int) (W : World) : (binOp .eql 27 (.agg #[.int .i64 a, .int .i64 b, .int .i64 c, .int .i64 d]) (.agg #[.int .i64 a', .int .i64 b', .int .i64 c', .int .i64 d'])).run Tryz.prog W
    = .ok (.bool (a == a' && b == b' && (c == c' && d == d'))) W := by
  rw [run_eql_struct, run_equalIn_agg W 9999 27 _ _ rangeStruct rangeStood]
  by_cases h1 : a = a' <;> by_cases h2 : b = b' <;> by_cases h3 : c = c' <;> by_cases h4 : d = d' <;> simp [go_sem, h1, h2, h3, h4]
theorem tr_ext {t u : Tr} (h0 : t.kind = u.kind) (h1 : t.num = u.num) (h2 : t.c1 = u.c1) (h3 : t.r1 = u.r1) (h4 : t.c2 = u.c2) (h5 : t.r2 = u.r2) (h6 : t.word = u.word) (h7 : t.kids = u.kids) : t = u := by
  cases t; cases u
  simp only [Tr.kind, Tr.num, Tr.c1, Tr.r1, Tr.c2, Tr.r2, Tr.word, Tr.kids] at *
  subst h0 h1 h2 h3 h4 h5 h6 h7
  rfl
theorem take_eq {l m : List Tr} {i : Nat} {a b : Tr} (ha : l[i]? = some a) (hb : m[i]? = some b) (h : l.take i = m.take i) (e : a = b) : l.take (i + 1) = m.take (i + 1) := by
  rw [List.take_add_one, List.take_add_one, ha, hb, h, e]
set_option maxHeartbeats 2000000 in
theorem neq_range (a b c d a' b' c' d' : Int) (W : World) : (binOp .neq 27 (.agg #[.int .i64 a, .int .i64 b, .int .i64 c, .int .i64 d]) (.agg #[.int .i64 a', .int .i64 b', .int .i64 c', .int .i64 d'])).run Tryz.prog W
    = .ok (.bool (!(a == a' && b == b' && (c == c' && d == d')))) W := by
  rw [run_neq_struct, run_equalIn_agg W 9999 27 _ _ rangeStruct rangeStood]
  by_cases h1 : a = a' <;> by_cases h2 : b = b' <;> by_cases h3 : c = c' <;> by_cases h4 : d = d' <;> simp [go_sem, h1, h2, h3, h4]
end Go.Proofs.YtahdlijkohmdfaaGreatDoor
