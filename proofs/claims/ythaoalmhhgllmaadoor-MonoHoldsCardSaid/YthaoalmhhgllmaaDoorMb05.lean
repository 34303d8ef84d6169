/- Texts joined: LxM, LxN, SyA, TrA, TrB, SyB, SyC, KvA, TvA, SyF, SyI, SyJ, SyK, SyL, SyO. -/
import Derived.Test.YthaoalmhhgllmaaDoorMb04
import Derived.Test.YthaoalmhhgllmaaDoorMb01
import Derived.OwnWalk
import Derived.Deep.QuietTactic
import Derived.BigQuiet
import Derived.Laws.Pointers
import Derived.StillTactics
import Derived.Test.YthaoalmhhgllmaaDoorMb03
set_option linter.all false
namespace Go.Proofs.YthaoalmhhgllmaaDoor
open Go.RowKit
inductive Lex : List UInt8 → Nat → List Tok → Prop
  | nil (o : Nat) : Lex [] o []
  | blank {r : List UInt8} {o : Nat} {ts : List Tok} : Lex r (o + 1) ts → Lex (32 :: r) o ts
  | tok {r : List UInt8} {o : Nat} {t : Tok} {n : Nat} {ts : List Tok} : r ≠ [] → r.head? ≠ some 32 → oneT r 0 = some (t, n) → Lex (r.drop n) (o + n) ts → Lex r o ({ t with frm := o } :: ts)
theorem scan_lex {l : List UInt8} : ∀ (k p : Nat) (acc a : List Tok) (q : Nat), p ≤ l.length → scanF l k p acc = (some a, q) → ∃ ts, a = acc ++ ts ∧ Lex (l.drop p) p ts
  | 0, p, acc, a, q, _, h => by simp [scanF] at h
  | k + 1, p, acc, a, q, hp, h => by
    unfold scanF at h
    split at h
    · rename_i hlt
      have e : l.drop p = l[p] :: l.drop (p + 1) := List.drop_eq_getElem_cons hlt
      have g : l.getD p 0 = l[p] := by simp [List.getD_eq_getElem?_getD, hlt]
      split at h
      · rename_i hc
        obtain ⟨ts, rfl, hL⟩ := scan_lex k (p + 1) acc a q (by omega) h
        refine ⟨ts, rfl, ?_⟩
        rw [e, ← g, hc]
        exact .blank hL
      · rename_i hc
        split at h
        · simp at h
        · rename_i t n ho
          obtain ⟨h0, h1⟩ := one_pos' hlt ho
          obtain ⟨ts, rfl, hL⟩ := scan_lex k (p + n) (acc ++ [t]) a q h1 h
          rw [one_drop] at ho
          cases ho' : oneT (l.drop p) 0 with
          | none => rw [ho'] at ho; cases ho
          | some x =>
            obtain ⟨t', n'⟩ := x
            rw [ho'] at ho
            simp at ho
            obtain ⟨rfl, rfl⟩ := ho
            refine ⟨{ t' with frm := p } :: ts, by simp, ?_⟩
            refine .tok (by rw [e]; exact List.cons_ne_nil _ _) (by rw [e, ← g]; simpa using hc) ho' ?_
            rw [List.drop_drop]
            exact hL
    · simp at h
      refine ⟨[], by simp [h.1], ?_⟩
      rw [List.drop_eq_nil_of_le (by omega)]
      exact .nil p
theorem lex_scan {l r : List UInt8} {o : Nat} {ts : List Tok} (h : Lex r o ts) : l.drop o = r → o ≤ l.length → ∀ k, l.length < k + o → ∀ acc, scanF l k o acc = (some (acc ++ ts), 0) := by
  induction h with
  | nil o =>
    intro hd ho k hk acc
    have hlen : l.length ≤ o := by
      have := congrArg List.length hd
      simp at this
      omega
    cases k with
    | zero => omega
    | succ k =>
      unfold scanF
      rw [if_neg (by omega)]
      simp
  | @blank r o ts _ ih =>
    intro hd ho k hk acc
    have hlt : o < l.length := by
      have := congrArg List.length hd
      simp at this
      omega
    have g : l.getD o 0 = 32 := by
      have := getD_drop l o 0
      rw [hd] at this
      simpa using this.symm
    cases k with
    | zero => omega
    | succ k =>
      unfold scanF
      rw [if_pos hlt, if_pos g]
      refine ih ?_ (by omega) k (by omega) acc
      rw [show o + 1 = o + 1 from rfl, ← List.drop_drop, hd]
      rfl
  | @tok r o t n ts hr h32 ho _ ih =>
    intro hd hol k hk acc
    have hlt : o < l.length := by
      have := congrArg List.length hd
      have h1 := List.length_pos_iff.2 hr
      simp at this
      omega
    have g : l.getD o 0 ≠ 32 := by
      have := getD_drop l o 0
      rw [hd] at this
      intro e
      apply h32
      cases r with
      | nil => exact absurd rfl hr
      | cons c q =>
        have e2 : c = 32 := by rw [Nat.add_zero, e] at this; simpa using this
        rw [e2]; rfl
    have ho2 : oneT l o = some ({ t with frm := o }, n) := by rw [one_drop, hd, ho]; rfl
    obtain ⟨h0, h1⟩ := one_pos' hlt ho2
    cases k with
    | zero => omega
    | succ k =>
      unfold scanF
      rw [if_pos hlt, if_neg g, ho2]
      show scanF l k (o + n) (acc ++ [_]) = _
      have hi := ih (by rw [← List.drop_drop, hd]) h1 k (by omega) (acc ++ [{ t with frm := o }])
      rw [List.append_assoc] at hi
      exact hi
theorem lex_of {l : List UInt8} {a : List Tok} {q : Nat} (h : scanT l = (some a, q)) : Lex l 0 a := by
  obtain ⟨ts, rfl, hL⟩ := scan_lex (l.length + 1) 0 [] a q (Nat.zero_le _) h
  rw [List.drop_zero] at hL
  exact hL
theorem of_lex {l : List UInt8} {a : List Tok} (h : Lex l 0 a) : scanT l = (some a, 0) := by
  have := lex_scan (l := l) h (by simp) (Nat.zero_le _) (l.length + 1) (by omega) []
  exact this
def bareT (t : Tok) : Tok := { t with frm := 0 }
end Go.Proofs.YthaoalmhhgllmaaDoor
namespace Go.Proofs.YthaoalmhhgllmaaDoor
open Go.RowKit
theorem ans_ok {l : List UInt8} (h : ansE l = 0) (hl : l.length ≤ 200) : Lex l 0 (ansL l) := by
  cases hs : scanT l with
  | mk o q =>
    cases o with
    | none => rw [(ans_none (by omega) hs).2.2] at h; cases h
    | some a =>
      have hL := lex_of hs
      have e := of_lex hL
      rw [(ans_some (by omega) e).1]
      exact hL
end Go.Proofs.YthaoalmhhgllmaaDoor
namespace Go.Proofs.YthaoalmhhgllmaaDoor
inductive Tr where
  | mk (kind num : Int) (c r d s : Int) (word : List UInt8) (kids : List Tr)
deriving Inhabited
def Tr.kind : Tr → Int | .mk k _ _ _ _ _ _ _ => k
def Tr.num : Tr → Int | .mk _ n _ _ _ _ _ _ => n
def Tr.word : Tr → List UInt8 | .mk _ _ _ _ _ _ w _ => w
def Tr.kids : Tr → List Tr | .mk _ _ _ _ _ _ _ ks => ks
def lvl (s : List UInt8) : Nat :=
  if s = [60] ∨ s = [60, 61] ∨ s = [61] ∨ s = [60, 62] ∨ s = [62, 61] ∨ s = [62] then 1
  else if s = [43] ∨ s = [45] then 2 else if s = [42] ∨ s = [47] then 3 else 0
def isMark (L : List Tok) (p : Nat) (s : List UInt8) : Bool := match L[p]? with | some t => t.kind == 5 && t.text == s | none => false
def whr (L : List Tok) (E p : Nat) : Nat := match L[p]? with | some t => t.frm | none => E
def levelAt (L : List Tok) (p : Nat) : Nat := match L[p]? with | some t => if t.kind = 5 then lvl t.text else 0 | none => 0
def isEnd (L : List Tok) (p : Nat) : Bool := match L[p]? with | some t => t.kind == 2 || t.kind == 3 | none => false
inductive Res where
  | ok (t : Tr) (q : Nat)
  | bad (w : Nat)
def Res.next (x : Option Res) (f : Tr → Nat → Option Res) : Option Res := match x with
  | some (.ok t q) => f t q
  | o => o
def mustF (L : List Tok) (E p : Nat) (s : List UInt8) (f : Nat → Option Res) : Option Res := if isMark L p s = true then f (p + 1) else some (.bad (whr L E p))
def opT (w : List UInt8) (a b : Tr) : Tr := .mk 4 0 0 0 0 0 w [a, b]
def negT (a : Tr) : Tr := .mk 3 0 0 0 0 0 [] [a]
def numT (n : Int) : Tr := .mk 0 n 0 0 0 0 [] []
def readT (c r : Int) : Tr := .mk 1 0 c r c r [] []
def badT : Tr := .mk 2 0 0 0 0 0 [] []
def spanT (c r d s : Int) : Tr := .mk 6 0 c r d s [] []
def callT (w : List UInt8) (ks : List Tr) : Tr := .mk 5 0 0 0 0 0 w ks
mutual
def lineF (L : List Tok) (E : Nat) : Nat → Nat → Nat → Option Res
  | 0, _, _ => none
  | k + 1, lev, p => if 3 < lev then prefF L E k p else Res.next (lineF L E k (lev + 1) p) fun t q => restF L E k lev t q
def restF (L : List Tok) (E : Nat) : Nat → Nat → Tr → Nat → Option Res
  | 0, _, _, _ => none
  | k + 1, lev, out, p => if levelAt L p = lev then Res.next (lineF L E k (lev + 1) (p + 1)) fun t q => restF L E k lev (opT ((L.map Tok.text).getD p []) out t) q else some (.ok out p)
def prefF (L : List Tok) (E : Nat) : Nat → Nat → Option Res
  | 0, _ => none
  | k + 1, p => if isMark L p [45] = true then Res.next (prefF L E k (p + 1)) fun t q => some (.ok (negT t) q) else operF L E k p
def operF (L : List Tok) (E : Nat) : Nat → Nat → Option Res
  | 0, _ => none
  | k + 1, p => if isMark L p [40] = true then Res.next (lineF L E k 1 (p + 1)) fun t q => mustF L E q [41] fun q => some (.ok t q)
    else match L[p]? with
      | none => some (.bad E)
      | some t => if t.kind = 5 then some (.bad t.frm) else if t.kind = 1 then some (.ok (numT t.num) (p + 1)) else if t.kind = 2 then some (.ok (readT t.col t.row) (p + 1)) else if t.kind = 3 then some (.ok badT (p + 1))
        else mustF L E (p + 1) [40] fun q =>
          if t.text = [73, 70] then Res.next (lineF L E k 1 q) fun a q => mustF L E q [44] fun q => Res.next (lineF L E k 1 q) fun b q => mustF L E q [44] fun q => Res.next (lineF L E k 1 q) fun c q => mustF L E q [41] fun q => some (.ok (callT [73, 70] [a, b, c]) q)
          else itemsF L E k t.text [] q
def itemsF (L : List Tok) (E : Nat) : Nat → List UInt8 → List Tr → Nat → Option Res
  | 0, _, _, _ => none
  | k + 1, w, acc, p => Res.next (itemF L E k (w == [67, 79, 85, 78, 84]) p) fun t q => if isMark L q [44] = true then itemsF L E k w (acc ++ [t]) (q + 1) else mustF L E q [41] fun q => some (.ok (callT w (acc ++ [t])) q)
def itemF (L : List Tok) (E : Nat) : Nat → Bool → Nat → Option Res
  | 0, _, _ => none
  | k + 1, corners, p =>
    if corners = false ∧ (isEnd L p = false ∨ isMark L (p + 1) [58] = false) then lineF L E k 1 p
    else match L[p]? with
      | none => some (.bad E)
      | some a =>
        if isEnd L p = false then some (.bad a.frm)
        else if isMark L (p + 1) [58] = false ∧ a.kind = 3 then some (.ok badT (p + 1))
        else mustF L E (p + 1) [58] fun q => match L[q]? with
          | none => some (.bad E)
          | some b => if isEnd L q = false then some (.bad b.frm) else if a.kind = 3 ∨ b.kind = 3 then some (.ok badT (q + 1)) else some (.ok (spanT (min a.col b.col) (min a.row b.row) (max a.col b.col) (max a.row b.row)) (q + 1))
end
end Go.Proofs.YthaoalmhhgllmaaDoor
namespace Go.Proofs.YthaoalmhhgllmaaDoor
open Go.RowKit
def Tr.c1 : Tr → Int | .mk _ _ c _ _ _ _ _ => c
def Tr.r1 : Tr → Int | .mk _ _ _ r _ _ _ _ => r
def Tr.c2 : Tr → Int | .mk _ _ _ _ d _ _ _ => d
def Tr.r2 : Tr → Int | .mk _ _ _ _ _ s _ _ => s
def tv (t : Tr) (A : Option Addr) (cap : Nat) : Value := .agg #[.int .i64 t.kind, .int .i64 t.num, .int .i64 t.c1, .int .i64 t.r1, .int .i64 t.c2, .int .i64 t.r2, .string ⟨t.word.toArray⟩, .slice A t.kids.length cap]
def At8 (w : World) (g o : Nat) (t : Tr) (A : Option Addr) (cap : Nat) : Prop :=
  w.cell? ⟨g, o, none⟩ = some (.int .i64 t.kind) ∧ w.cell? ⟨g, o + 1, none⟩ = some (.int .i64 t.num) ∧ w.cell? ⟨g, o + 2, none⟩ = some (.int .i64 t.c1) ∧ w.cell? ⟨g, o + 3, none⟩ = some (.int .i64 t.r1) ∧
  w.cell? ⟨g, o + 4, none⟩ = some (.int .i64 t.c2) ∧ w.cell? ⟨g, o + 5, none⟩ = some (.int .i64 t.r2) ∧ w.cell? ⟨g, o + 6, none⟩ = some (.string ⟨t.word.toArray⟩) ∧ w.cell? ⟨g, o + 7, none⟩ = some (.slice A t.kids.length cap)
mutual
def KV (w : World) (P : Nat → Prop) : Tr → Option Addr → Prop
  | .mk _ _ _ _ _ _ _ ks, A => ks = [] ∨ ∃ g o, A = some ⟨g, o, none⟩ ∧ P g ∧ g < w.heap.size ∧ KL w P ks g o
def KL (w : World) (P : Nat → Prop) : List Tr → Nat → Nat → Prop
  | [], _, _ => True
  | t :: ts, g, o => (∃ A cap, At8 w g o t A cap ∧ KV w P t A) ∧ KL w P ts g (o + 8)
end
structure Kept (w w' : World) (P : Nat → Prop) : Prop where
  size : w.heap.size ≤ w'.heap.size
  block : ∀ g, P g → g < w.heap.size → w'.heap[g]? = w.heap[g]?
theorem Kept.of_below {w w' : World} {P : Nat → Prop} (h : Below w.heap.size w w') : Kept w w' P := ⟨h.size, fun g _ hg => h.block g hg⟩
theorem Kept.trans {w w' w'' : World} {P : Nat → Prop} (h : Kept w w' P) (h' : Kept w' w'' P) : Kept w w'' P :=
  ⟨Nat.le_trans h.size h'.size, fun g hp hg => (h'.block g hp (Nat.lt_of_lt_of_le hg h.size)).trans (h.block g hp hg)⟩
theorem Kept.refl (w : World) (P : Nat → Prop) : Kept w w P := ⟨Nat.le_refl _, fun _ _ _ => rfl⟩
theorem Kept.cell {w w' : World} {P : Nat → Prop} (h : Kept w w' P) {g o : Nat} (hp : P g) {v : Value} (hv : w.cell? ⟨g, o, none⟩ = some v) : w'.cell? ⟨g, o, none⟩ = some v := by
  have hl : g < w.heap.size := Lib.lt_of_cell hv
  have hb := h.block g hp hl
  rw [← hv]
  unfold World.cell?
  simp only [hb]
theorem At8.kept {w w' : World} {P : Nat → Prop} {g o : Nat} {t : Tr} {A : Option Addr} {cap : Nat} (h : At8 w g o t A cap) (hk : Kept w w' P) (hp : P g) : At8 w' g o t A cap :=
  ⟨hk.cell hp h.1, hk.cell hp h.2.1, hk.cell hp h.2.2.1, hk.cell hp h.2.2.2.1, hk.cell hp h.2.2.2.2.1, hk.cell hp h.2.2.2.2.2.1, hk.cell hp h.2.2.2.2.2.2.1, hk.cell hp h.2.2.2.2.2.2.2⟩
mutual
theorem KV.kept {w w' : World} {P : Nat → Prop} (hk : Kept w w' P) : ∀ {t : Tr} {A : Option Addr}, KV w P t A → KV w' P t A
  | .mk _ _ _ _ _ _ _ ks, A, h => by
    rw [KV] at h ⊢
    rcases h with h | ⟨g, o, rfl, hp, hl, h⟩
    · exact .inl h
    · exact .inr ⟨g, o, rfl, hp, Nat.lt_of_lt_of_le hl hk.size, KL.kept hk hp h⟩
theorem KL.kept {w w' : World} {P : Nat → Prop} (hk : Kept w w' P) : ∀ {ks : List Tr} {g o : Nat}, P g → KL w P ks g o → KL w' P ks g o
  | [], _, _, _, _ => by rw [KL]; trivial
  | t :: ts, g, o, hp, h => by
    rw [KL] at h ⊢
    obtain ⟨⟨A, cap, h8, hv⟩, hl⟩ := h
    exact ⟨⟨A, cap, h8.kept hk hp, KV.kept hk hv⟩, KL.kept hk hp hl⟩
end
theorem KL.at {w : World} {P : Nat → Prop} : ∀ {ks : List Tr} {g o : Nat}, KL w P ks g o → ∀ {i : Nat} {t : Tr}, ks[i]? = some t → ∃ A cap, At8 w g (o + 8 * i) t A cap ∧ KV w P t A
  | [], _, _, _, i, t, hi => by simp at hi
  | u :: us, g, o, h, i, t, hi => by
    rw [KL] at h
    obtain ⟨⟨A, cap, h8, hv⟩, hl⟩ := h
    match i, hi with
    | 0, hi =>
      simp at hi
      subst hi
      exact ⟨A, cap, h8, hv⟩
    | i + 1, hi =>
      have := hl.at (i := i) (t := t) (by simpa using hi)
      rwa [show o + 8 + 8 * i = o + 8 * (i + 1) from by omega] at this
theorem KL.of {w : World} {P : Nat → Prop} : ∀ {ks : List Tr} {g o : Nat}, (∀ (i : Nat) (t : Tr), ks[i]? = some t → ∃ A cap, At8 w g (o + 8 * i) t A cap ∧ KV w P t A) → KL w P ks g o
  | [], _, _, _ => by rw [KL]; trivial
  | t :: ts, g, o, h => by
    rw [KL]
    refine ⟨?_, KL.of fun i u hu => ?_⟩
    · have := h 0 t (by simp)
      simpa using this
    · have := h (i + 1) u (by simpa using hu)
      rwa [show o + 8 + 8 * i = o + 8 * (i + 1) from by omega]
theorem KV.kids {w : World} {P : Nat → Prop} {t : Tr} {A : Option Addr} (h : KV w P t A) : t.kids = [] ∨ ∃ g o, A = some ⟨g, o, none⟩ ∧ P g ∧ g < w.heap.size ∧ KL w P t.kids g o := by
  cases t
  rw [KV] at h
  exact h
theorem KV.mk {w : World} {P : Nat → Prop} {t : Tr} {A : Option Addr} (h : t.kids = [] ∨ ∃ g o, A = some ⟨g, o, none⟩ ∧ P g ∧ g < w.heap.size ∧ KL w P t.kids g o) : KV w P t A := by
  cases t
  rw [KV]
  exact h
theorem KV.kid {w : World} {P : Nat → Prop} {t u : Tr} {g o : Nat} (h : KV w P t (some ⟨g, o, none⟩)) {i : Nat} (hi : t.kids[i]? = some u) : P g ∧ g < w.heap.size ∧ ∃ A cap, At8 w g (o + 8 * i) u A cap ∧ KV w P u A := by
  rcases h.kids with h | ⟨g', o', he, hp, hl, h⟩
  · rw [h] at hi; simp at hi
  · simp at he
    obtain ⟨rfl, rfl⟩ := he
    exact ⟨hp, hl, h.at hi⟩
theorem KV.addr {w : World} {P : Nat → Prop} {t u : Tr} {A : Option Addr} (h : KV w P t A) {i : Nat} (hi : t.kids[i]? = some u) : ∃ g o, A = some ⟨g, o, none⟩ := by
  rcases h.kids with h | ⟨g, o, he, _⟩
  · rw [h] at hi; simp at hi
  · exact ⟨g, o, he⟩
end Go.Proofs.YthaoalmhhgllmaaDoor
namespace Go.Proofs.YthaoalmhhgllmaaDoor
open Go.RowKit
structure But (R : Nat) (w w' : World) : Prop where
  os : w'.os = w.os
  tape : w'.tape = w.tape
  output : w'.output = w.output
  size : w.heap.size ≤ w'.heap.size
  block : ∀ k, k < w.heap.size → k ≠ R → w'.heap[k]? = w.heap[k]?
theorem But.refl (R : Nat) (w : World) : But R w w := ⟨rfl, rfl, rfl, Nat.le_refl _, fun _ _ _ => rfl⟩
theorem But.trans {R : Nat} {a b c : World} (h : But R a b) (k : But R b c) : But R a c :=
  ⟨k.os.trans h.os, k.tape.trans h.tape, k.output.trans h.output, Nat.le_trans h.size k.size, fun i hi hn => (k.block i (Nat.lt_of_lt_of_le hi h.size) hn).trans (h.block i hi hn)⟩
theorem But.of_below {R : Nat} {w w' : World} (h : Below w.heap.size w w') : But R w w' := ⟨h.os, h.tape, h.output, h.size, fun k hk _ => h.block k hk⟩
theorem But.alloc {R : Nat} {a w : World} (h : But R a w) (o : Obj) : But R a (w.alloc o) := h.trans (But.of_below ((Below.refl _ _).alloc (Nat.le_refl _) o))
theorem But.drew {R : Nat} {a w : World} (h : But R a w) : But R a w.drew := ⟨h.os, h.tape, h.output, h.size, h.block⟩
theorem But.setCell {R : Nat} {a w : World} (h : But R a w) {p : Addr} (hp : p.block = R ∨ a.heap.size ≤ p.block) (u : Value) : But R a (w.setCell p u) := by
  have hb := (Below.refl 0 w).setCell (p := p) (Nat.zero_le _) u
  refine ⟨hb.os.trans h.os, hb.tape.trans h.tape, hb.output.trans h.output, Nat.le_trans h.size hb.size, fun k hk hn => ?_⟩
  rw [Below.heap_setCell w p u k (by rcases hp with hp | hp; exact fun e => hn (e.trans hp); exact fun e => by omega)]
  exact h.block k hk hn
theorem But.setR {R : Nat} {a w : World} (h : But R a w) (o : Nat) (u : Value) : But R a (w.setCell ⟨R, o, none⟩ u) := h.setCell (.inl rfl) u
theorem But.setN {R : Nat} {a w : World} (h : But R a w) {g : Nat} (hg : a.heap.size ≤ g) (o : Nat) (u : Value) : But R a (w.setCell ⟨g, o, none⟩ u) := h.setCell (.inr hg) u
theorem But.drewN {R : Nat} {a w : World} (h : But R a w) (n : Nat) : But R a (w.drewN n) := h.trans (But.of_below (below_drewN (Below.refl _ _) n))
theorem But.cell {R : Nat} {w w' : World} (h : But R w w') {p : Addr} {v : Value} (hne : p.block ≠ R) (hv : w.cell? p = some v) : w'.cell? p = some v := by
  rw [World.cell?_of_block (w := w) (h.block p.block (Lib.lt_of_cell hv) hne)]; exact hv
theorem But.frozen {R : Nat} {w w' : World} (h : But R w w') {p : Addr} (hne : p.block ≠ R) (hl : p.block < w.heap.size) (hv : w.frozen? p = false) : w'.frozen? p = false := by
  rw [World.frozen?_of_block (w := w) (h.block p.block hl hne)]; exact hv
theorem But.kept {R : Nat} {w w' : World} (h : But R w w') : Kept w w' (fun g => g ≠ R) := ⟨h.size, fun g hp hl => h.block g hl hp⟩
theorem But.below {R n : Nat} {w w' : World} (h : But R w w') (hn : n ≤ R) (hs : n ≤ w.heap.size) : Below n w w' := ⟨h.os, h.tape, h.output, h.size, fun k hk => h.block k (by omega) (by omega)⟩

def TK (w : World) (R : Nat) (A : Option Addr) (L : List Tok) : Prop := L = [] ∨ ∃ g, A = some ⟨g, 0, none⟩ ∧ g ≠ R ∧ g < w.heap.size ∧ AtT w g L
structure RC (w : World) (R : Nat) (A : Option Addr) (cap : Nat) (L : List Tok) (E : Nat) (p : Int) (f : Bool) (x : Int) : Prop where
  c0 : w.cell? ⟨R, 0, none⟩ = some (.slice A L.length cap)
  c1 : w.cell? ⟨R, 1, none⟩ = some (.int .i64 p)
  c2 : w.cell? ⟨R, 2, none⟩ = some (.int .i64 (E : Int))
  c3 : w.cell? ⟨R, 3, none⟩ = some (.bool f)
  c4 : w.cell? ⟨R, 4, none⟩ = some (.int .i64 x)
  f1 : w.frozen? ⟨R, 1, none⟩ = false
  f3 : w.frozen? ⟨R, 3, none⟩ = false
  f4 : w.frozen? ⟨R, 4, none⟩ = false
theorem RC.lt {w : World} {R : Nat} {A : Option Addr} {cap : Nat} {L : List Tok} {E : Nat} {p : Int} {f : Bool} {x : Int} (h : RC w R A cap L E p f x) : R < w.heap.size := Lib.lt_of_cell h.c0
theorem RC.below {w w' : World} {R : Nat} {A : Option Addr} {cap : Nat} {L : List Tok} {E : Nat} {p : Int} {f : Bool} {x : Int} (h : RC w R A cap L E p f x) (hb : Below w.heap.size w w') : RC w' R A cap L E p f x :=
  ⟨keep_cell hb h.c0, keep_cell hb h.c1, keep_cell hb h.c2, keep_cell hb h.c3, keep_cell hb h.c4, keep_frozen hb h.lt h.f1, keep_frozen hb h.lt h.f3, keep_frozen hb h.lt h.f4⟩
theorem AtT.but {R g : Nat} {w w' : World} {L : List Tok} (h : AtT w g L) (hb : But R w w') (hg : g ≠ R) : AtT w' g L := fun i t hi => by
  obtain ⟨a, b, c, d, e, f⟩ := h i t hi
  exact ⟨hb.cell hg a, hb.cell hg b, hb.cell hg c, hb.cell hg d, hb.cell hg e, hb.cell hg f⟩
theorem TK.but {R : Nat} {w w' : World} {A : Option Addr} {L : List Tok} (h : TK w R A L) (hb : But R w w') : TK w' R A L := by
  rcases h with h | ⟨g, e, hn, hl, ht⟩
  · exact .inl h
  · exact .inr ⟨g, e, hn, Nat.lt_of_lt_of_le hl hb.size, ht.but hb hn⟩
theorem TK.at {w : World} {R : Nat} {A : Option Addr} {L : List Tok} (h : TK w R A L) {i : Nat} {t : Tok} (hi : L[i]? = some t) : ∃ g, A = some ⟨g, 0, none⟩ ∧ g ≠ R ∧ g < w.heap.size ∧ w.cell? ⟨g, i * 6, none⟩ = some (.int .i64 t.kind) ∧ w.cell? ⟨g, i * 6 + 1, none⟩ = some (.int .i64 t.num) ∧ w.cell? ⟨g, i * 6 + 2, none⟩ = some (.int .i64 t.col) ∧
    w.cell? ⟨g, i * 6 + 3, none⟩ = some (.int .i64 t.row) ∧ w.cell? ⟨g, i * 6 + 4, none⟩ = some (.string ⟨t.text.toArray⟩) ∧ w.cell? ⟨g, i * 6 + 5, none⟩ = some (.int .i64 (t.frm : Int)) := by
  rcases h with h | ⟨g, e, hn, hl, ht⟩
  · rw [h] at hi; simp at hi
  · exact ⟨g, e, hn, hl, ht i t hi⟩
theorem zBa {R : Nat} {a w : World} (h : But R a w) (o : Obj) : But R a (w.alloc o) := h.alloc o
theorem zBd {R : Nat} {a w : World} (h : But R a w) : But R a w.drew := h.drew
theorem zBr {R : Nat} {a w : World} (h : But R a w) (o : Nat) (u : Value) : But R a (w.setCell ⟨R, o, none⟩ u) := h.setR o u
theorem zBs {R : Nat} {a w : World} (h : But R a w) {g : Nat} (hg : a.heap.size ≤ g) (o : Nat) (u : Value) : But R a (w.setCell ⟨g, o, none⟩ u) := h.setN hg o u
theorem zBn {R : Nat} {a w : World} (h : But R a w) (n : Nat) : But R a (w.drewN n) := h.drewN n
end Go.Proofs.YthaoalmhhgllmaaDoor
namespace Go.Proofs.YthaoalmhhgllmaaDoor
def Le (a b : Option Res) : Prop := ∀ x, a = some x → b = some x
theorem Le.refl (a : Option Res) : Le a a := fun _ h => h
theorem Le.none (b : Option Res) : Le Option.none b := fun _ h => by cases h
theorem Le.next {a b : Option Res} {f g : Tr → Nat → Option Res} (h : Le a b) (hf : ∀ t q, Le (f t q) (g t q)) : Le (Res.next a f) (Res.next b g) := by
  intro x hx
  cases a with
  | none => cases hx
  | some r =>
    rw [h r rfl]
    cases r with
    | ok t q => exact hf t q x hx
    | bad w => exact hx
theorem Le.must {L : List Tok} {E p : Nat} {s : List UInt8} {f g : Nat → Option Res} (hf : ∀ q, Le (f q) (g q)) : Le (mustF L E p s f) (mustF L E p s g) := by
  unfold mustF
  split
  · exact hf _
  · exact Le.refl _
end Go.Proofs.YthaoalmhhgllmaaDoor
namespace Go.Proofs.YthaoalmhhgllmaaDoor
def Fine (n lo : Nat) (o : Option Res) : Prop := ∃ x, o = some x ∧ ∀ t q, x = .ok t q → lo ≤ q ∧ q ≤ n
theorem Fine.bad (n lo w : Nat) : Fine n lo (some (.bad w)) := ⟨_, rfl, fun _ _ h => by cases h⟩
theorem Fine.ok {n lo q : Nat} {t : Tr} (h : lo ≤ q) (h2 : q ≤ n) : Fine n lo (some (.ok t q)) := ⟨_, rfl, fun _ _ h' => by cases h'; exact ⟨h, h2⟩⟩
theorem Fine.next {n lo lo' : Nat} {a : Option Res} {f : Tr → Nat → Option Res} (h : Fine n lo a) (hf : ∀ t q, lo ≤ q → q ≤ n → Fine n lo' (f t q)) : Fine n lo' (Res.next a f) := by
  obtain ⟨x, rfl, hx⟩ := h
  cases x with
  | ok t q => exact hf t q (hx t q rfl).1 (hx t q rfl).2
  | bad w => exact Fine.bad _ _ _
theorem mark_lt {L : List Tok} {p : Nat} {s : List UInt8} (h : isMark L p s = true) : p < L.length := by
  unfold isMark at h
  split at h
  · rename_i t ht; exact (List.getElem?_eq_some_iff.1 ht).1
  · cases h
theorem level_lt {L : List Tok} {p lev : Nat} (h : levelAt L p = lev) (hl : 1 ≤ lev) : p < L.length := by
  unfold levelAt at h
  split at h
  · rename_i t ht; exact (List.getElem?_eq_some_iff.1 ht).1
  · omega
theorem Fine.must {L : List Tok} {E p lo : Nat} {s : List UInt8} {f : Nat → Option Res} (hf : p < L.length → Fine L.length lo (f (p + 1))) : Fine L.length lo (mustF L E p s f) := by
  unfold mustF
  split
  · rename_i h; exact hf (mark_lt h)
  · exact Fine.bad _ _ _
structure FineAll (L : List Tok) (E k : Nat) : Prop where
  line : ∀ lev p, 1 ≤ lev → lev ≤ 4 → p ≤ L.length → 8 * (L.length - p) + 7 ≤ k + lev → Fine L.length (p + 1) (lineF L E k lev p)
  rest : ∀ lev out p, 1 ≤ lev → lev ≤ 3 → p ≤ L.length → 8 * (L.length - p) + 1 ≤ k → Fine L.length p (restF L E k lev out p)
  pref : ∀ p, p ≤ L.length → 8 * (L.length - p) + 2 ≤ k → Fine L.length (p + 1) (prefF L E k p)
  oper : ∀ p, p ≤ L.length → 8 * (L.length - p) + 1 ≤ k → Fine L.length (p + 1) (operF L E k p)
  items : ∀ w acc p, p ≤ L.length → 8 * (L.length - p) + 8 ≤ k → Fine L.length (p + 1) (itemsF L E k w acc p)
  item : ∀ c p, p ≤ L.length → 8 * (L.length - p) + 7 ≤ k → Fine L.length (p + 1) (itemF L E k c p)
theorem fine_all (L : List Tok) (E : Nat) : ∀ k, FineAll L E k
  | 0 => by
    constructor <;> intros <;> omega
  | k + 1 => by
    have I := fine_all L E k
    constructor
    · intro lev p h1 h4 hp hk
      simp only [lineF]
      split
      · exact I.pref p hp (by omega)
      · refine Fine.next (I.line _ _ (by omega) (by omega) hp (by omega)) fun t q hq hn => ?_
        obtain ⟨x, hx, h⟩ := I.rest lev t q h1 (by omega) hn (by omega)
        exact ⟨x, hx, fun t q' e => ⟨by have := (h t q' e).1; omega, (h t q' e).2⟩⟩
    · intro lev out p h1 h3 hp hk
      simp only [restF]
      split
      · rename_i hl
        have := level_lt hl h1
        refine Fine.next (I.line _ _ (by omega) (by omega) (by omega) (by omega)) fun t q hq hn => ?_
        obtain ⟨x, hx, h⟩ := I.rest lev (opT ((L.map Tok.text).getD p []) out t) q h1 h3 hn (by omega)
        exact ⟨x, hx, fun t q' e => ⟨by have := (h t q' e).1; omega, (h t q' e).2⟩⟩
      · exact Fine.ok (Nat.le_refl _) hp
    · intro p hp hk
      simp only [prefF]
      split
      · rename_i hm
        have := mark_lt hm
        exact Fine.next (I.pref _ (by omega) (by omega)) fun t q hq hn => Fine.ok (by omega) hn
      · exact I.oper p hp (by omega)
    · intro p hp hk
      simp only [operF]
      split
      · rename_i hm
        have := mark_lt hm
        exact Fine.next (I.line _ _ (by omega) (by omega) (by omega) (by omega)) fun t q hq hn => Fine.must fun h => Fine.ok (by omega) (by omega)
      · split
        · exact Fine.bad _ _ _
        · rename_i t ht
          have hlt := (List.getElem?_eq_some_iff.1 ht).1
          split
          · exact Fine.bad _ _ _
          · split
            · exact Fine.ok (Nat.le_refl _) (by omega)
            · split
              · exact Fine.ok (Nat.le_refl _) (by omega)
              · split
                · exact Fine.ok (Nat.le_refl _) (by omega)
                · refine Fine.must fun h => ?_
                  split
                  · exact Fine.next (I.line _ _ (by omega) (by omega) (by omega) (by omega)) fun a q h1 h2 => Fine.must fun h3 => Fine.next (I.line _ _ (by omega) (by omega) (by omega) (by omega)) fun b q h4 h5 => Fine.must fun h6 => Fine.next (I.line _ _ (by omega) (by omega) (by omega) (by omega)) fun c q h7 h8 => Fine.must fun h9 => Fine.ok (by omega) (by omega)
                  · obtain ⟨x, hx, h'⟩ := I.items t.text [] (p + 1 + 1) (by omega) (by omega)
                    exact ⟨x, hx, fun t q' e => ⟨by have := (h' t q' e).1; omega, (h' t q' e).2⟩⟩
    · intro w acc p hp hk
      simp only [itemsF]
      refine Fine.next (I.item _ _ hp (by omega)) fun t q hq hn => ?_
      split
      · rename_i hm
        have := mark_lt hm
        obtain ⟨x, hx, h'⟩ := I.items w (acc ++ [t]) (q + 1) (by omega) (by omega)
        exact ⟨x, hx, fun t q' e => ⟨by have := (h' t q' e).1; omega, (h' t q' e).2⟩⟩
      · exact Fine.must fun h => Fine.ok (by omega) (by omega)
    · intro c p hp hk
      simp only [itemF]
      split
      · exact I.line _ _ (by omega) (by omega) hp (by omega)
      · split
        · exact Fine.bad _ _ _
        · rename_i a ha
          have hlt := (List.getElem?_eq_some_iff.1 ha).1
          split
          · exact Fine.bad _ _ _
          · split
            · exact Fine.ok (by omega) (by omega)
            · refine Fine.must fun h => ?_
              split
              · exact Fine.bad _ _ _
              · rename_i b hb
                have hlt2 := (List.getElem?_eq_some_iff.1 hb).1
                split
                · exact Fine.bad _ _ _
                · split
                  · exact Fine.ok (by omega) (by omega)
                  · exact Fine.ok (by omega) (by omega)
def treeT (L : List Tok) (E : Nat) : Option Res := lineF L E (8 * L.length + 6) 1 0
theorem tree_some (L : List Tok) (E : Nat) : ∃ x, treeT L E = some x ∧ ∀ t q, x = .ok t q → q ≤ L.length := by
  obtain ⟨x, hx, h⟩ := (fine_all L E (8 * L.length + 6)).line 1 0 (by omega) (by omega) (Nat.zero_le _) (by omega)
  exact ⟨x, hx, fun t q e => (h t q e).2⟩
end Go.Proofs.YthaoalmhhgllmaaDoor
namespace Go.Proofs.YthaoalmhhgllmaaDoor
open Go.RowKit
mutual
def KVc (w : World) (P : Nat → Prop) : Tr → Option Addr → Nat → Prop
  | .mk _ _ _ _ _ _ _ ks, A, cap => ks.length ≤ cap ∧ (ks = [] ∨ ∃ g o, A = some ⟨g, o, none⟩ ∧ P g ∧ g < w.heap.size ∧ KLc w P ks g o)
def KLc (w : World) (P : Nat → Prop) : List Tr → Nat → Nat → Prop
  | [], _, _ => True
  | t :: ts, g, o => (∃ A cap, At8 w g o t A cap ∧ KVc w P t A cap) ∧ KLc w P ts g (o + 8)
end
mutual
theorem KVc.kv {w : World} {P : Nat → Prop} : ∀ {t : Tr} {A : Option Addr} {cap : Nat}, KVc w P t A cap → KV w P t A
  | .mk _ _ _ _ _ _ _ ks, A, cap, h => by
    rw [KVc] at h
    rw [KV]
    rcases h.2 with h | ⟨g, o, rfl, hp, hl, h⟩
    · exact .inl h
    · exact .inr ⟨g, o, rfl, hp, hl, KLc.kl h⟩
theorem KLc.kl {w : World} {P : Nat → Prop} : ∀ {ks : List Tr} {g o : Nat}, KLc w P ks g o → KL w P ks g o
  | [], _, _, _ => by rw [KL]; trivial
  | t :: ts, g, o, h => by
    rw [KLc] at h
    rw [KL]
    obtain ⟨⟨A, cap, h8, hv⟩, hl⟩ := h
    exact ⟨⟨A, cap, h8, hv.kv⟩, KLc.kl hl⟩
end
mutual
theorem KVc.kept {w w' : World} {P Q : Nat → Prop} (hk : Kept w w' P) (hq : ∀ g, P g → Q g) : ∀ {t : Tr} {A : Option Addr} {cap : Nat}, KVc w P t A cap → KVc w' Q t A cap
  | .mk _ _ _ _ _ _ _ ks, A, cap, h => by
    rw [KVc] at h ⊢
    refine ⟨h.1, ?_⟩
    rcases h.2 with h | ⟨g, o, rfl, hp, hl, h⟩
    · exact .inl h
    · exact .inr ⟨g, o, rfl, hq g hp, Nat.lt_of_lt_of_le hl hk.size, KLc.kept hk hq hp h⟩
theorem KLc.kept {w w' : World} {P Q : Nat → Prop} (hk : Kept w w' P) (hq : ∀ g, P g → Q g) : ∀ {ks : List Tr} {g o : Nat}, P g → KLc w P ks g o → KLc w' Q ks g o
  | [], _, _, _, _ => by rw [KLc]; trivial
  | t :: ts, g, o, hp, h => by
    rw [KLc] at h ⊢
    obtain ⟨⟨A, cap, h8, hv⟩, hl⟩ := h
    exact ⟨⟨A, cap, h8.kept hk hp, KVc.kept hk hq hv⟩, KLc.kept hk hq hp hl⟩
end
theorem KVc.below {w w' : World} {P : Nat → Prop} {t : Tr} {A : Option Addr} {cap : Nat} (h : KVc w P t A cap) (hb : Below w.heap.size w w') : KVc w' (fun _ => True) t A cap := h.kept (Kept.of_below hb) fun _ _ => trivial
theorem KLc.at {w : World} {P : Nat → Prop} : ∀ {ks : List Tr} {g o : Nat}, KLc w P ks g o → ∀ {i : Nat} {t : Tr}, ks[i]? = some t → ∃ A cap, At8 w g (o + 8 * i) t A cap ∧ KVc w P t A cap
  | [], _, _, _, i, t, hi => by simp at hi
  | u :: us, g, o, h, i, t, hi => by
    rw [KLc] at h
    obtain ⟨⟨A, cap, h8, hv⟩, hl⟩ := h
    match i, hi with
    | 0, hi =>
      simp at hi
      subst hi
      exact ⟨A, cap, h8, hv⟩
    | i + 1, hi =>
      have := hl.at (i := i) (t := t) (by simpa using hi)
      rwa [show o + 8 + 8 * i = o + 8 * (i + 1) from by omega] at this
theorem KLc.of {w : World} {P : Nat → Prop} : ∀ {ks : List Tr} {g o : Nat}, (∀ (i : Nat) (t : Tr), ks[i]? = some t → ∃ A cap, At8 w g (o + 8 * i) t A cap ∧ KVc w P t A cap) → KLc w P ks g o
  | [], _, _, _ => by rw [KLc]; trivial
  | t :: ts, g, o, h => by
    rw [KLc]
    refine ⟨?_, KLc.of fun i u hu => ?_⟩
    · have := h 0 t (by simp)
      simpa using this
    · have := h (i + 1) u (by simpa using hu)
      rwa [show o + 8 * (i + 1) = o + 8 + 8 * i from by omega] at this
theorem KVc.mk' {w : World} {P : Nat → Prop} {t : Tr} {A : Option Addr} {cap : Nat} (hc : t.kids.length ≤ cap) (h : t.kids = [] ∨ ∃ g o, A = some ⟨g, o, none⟩ ∧ P g ∧ g < w.heap.size ∧ KLc w P t.kids g o) : KVc w P t A cap := by
  cases t
  rw [KVc]
  exact ⟨hc, h⟩
theorem KVc.cap {w : World} {P : Nat → Prop} {t : Tr} {A : Option Addr} {cap : Nat} (h : KVc w P t A cap) : t.kids.length ≤ cap := by
  cases t
  rw [KVc] at h
  exact h.1
theorem KVc.kidAt {w wr : World} {P : Nat → Prop} {t u : Tr} {g o cap : Nat} (h : KVc w P t (some ⟨g, o, none⟩) cap) (hb : Below w.heap.size w wr) {i : Nat} (hi : t.kids[i]? = some u) :
    g < w.heap.size ∧ ∃ A ca, At8 wr g (o + i * 8) u A ca ∧ KVc wr (fun _ => True) u A ca := by
  obtain ⟨k, n, c, r, d, s, wd, ks⟩ := t
  rw [KVc] at h
  rcases h.2 with h | ⟨g', o', he, hp, hl, h⟩
  · have hi : ks[i]? = some u := hi
    rw [h] at hi; simp at hi
  · simp at he
    obtain ⟨rfl, rfl⟩ := he
    obtain ⟨A, ca, h8, hk⟩ := h.at hi
    rw [Nat.mul_comm] at h8
    exact ⟨hl, A, ca, h8.kept (P := fun _ => True) (Kept.of_below hb) trivial, hk.below hb⟩
mutual
theorem KVc.imp {w : World} {P Q : Nat → Prop} (h : ∀ g, P g → Q g) : ∀ {t : Tr} {A : Option Addr} {cap : Nat}, KVc w P t A cap → KVc w Q t A cap
  | .mk _ _ _ _ _ _ _ ks, A, cap, hk => by
    rw [KVc] at hk ⊢
    refine ⟨hk.1, ?_⟩
    rcases hk.2 with hk | ⟨g, o, e, hp, hl, hk⟩
    · exact .inl hk
    · exact .inr ⟨g, o, e, h g hp, hl, KLc.imp h hk⟩
theorem KLc.imp {w : World} {P Q : Nat → Prop} (h : ∀ g, P g → Q g) : ∀ {ks : List Tr} {g o : Nat}, KLc w P ks g o → KLc w Q ks g o
  | [], _, _, _ => by rw [KLc]; trivial
  | t :: ts, g, o, hk => by
    rw [KLc] at hk ⊢
    obtain ⟨⟨A, cap, h8, hv⟩, hl⟩ := hk
    exact ⟨⟨A, cap, h8, KVc.imp h hv⟩, KLc.imp h hl⟩
end
mutual
theorem KVc.low {w : World} {P : Nat → Prop} : ∀ {t : Tr} {A : Option Addr} {cap : Nat}, KVc w P t A cap → KVc w (fun b => P b ∧ b < w.heap.size) t A cap
  | .mk _ _ _ _ _ _ _ ks, A, cap, hk => by
    rw [KVc] at hk ⊢
    refine ⟨hk.1, ?_⟩
    rcases hk.2 with hk | ⟨g, o, e, hp, hl, hk⟩
    · exact .inl hk
    · exact .inr ⟨g, o, e, ⟨hp, hl⟩, hl, KLc.low hk⟩
theorem KLc.low {w : World} {P : Nat → Prop} : ∀ {ks : List Tr} {g o : Nat}, KLc w P ks g o → KLc w (fun b => P b ∧ b < w.heap.size) ks g o
  | [], _, _, _ => by rw [KLc]; trivial
  | t :: ts, g, o, hk => by
    rw [KLc] at hk ⊢
    obtain ⟨⟨A, cap, h8, hv⟩, hl⟩ := hk
    exact ⟨⟨A, cap, h8, KVc.low hv⟩, KLc.low hl⟩
end
theorem KVc.stay {w w' : World} {P : Nat → Prop} {t : Tr} {A : Option Addr} {cap : Nat} (h : KVc w P t A cap) (hk : Kept w w' P) : KVc w' P t A cap := h.kept hk fun _ h => h
theorem KVc.kids {w : World} {P : Nat → Prop} {t : Tr} {A : Option Addr} {cap : Nat} (h : KVc w P t A cap) : t.kids = [] ∨ ∃ g o, A = some ⟨g, o, none⟩ ∧ P g ∧ g < w.heap.size ∧ KLc w P t.kids g o := by
  cases t
  rw [KVc] at h
  exact h.2
end Go.Proofs.YthaoalmhhgllmaaDoor
namespace Go.Proofs.YthaoalmhhgllmaaDoor
open Go.RowKit
structure V8 where
  n0 : Int
  n1 : Int
  n2 : Int
  n3 : Int
  n4 : Int
  n5 : Int
  s : ByteArray
  A : Option Addr
  len : Nat
  cap : Nat
def V8.val (x : V8) : Value := .agg #[.int .i64 x.n0, .int .i64 x.n1, .int .i64 x.n2, .int .i64 x.n3, .int .i64 x.n4, .int .i64 x.n5, .string x.s, .slice x.A x.len x.cap]
def tv8 (t : Tr) (A : Option Addr) (cap : Nat) : V8 := ⟨t.kind, t.num, t.c1, t.r1, t.c2, t.r2, ⟨t.word.toArray⟩, A, t.kids.length, cap⟩
mutual
theorem KV.imp {w : World} {P Q : Nat → Prop} (h : ∀ g, P g → Q g) : ∀ {t : Tr} {A : Option Addr}, KV w P t A → KV w Q t A
  | .mk _ _ _ _ _ _ _ ks, A, hk => by
    rw [KV] at hk ⊢
    rcases hk with hk | ⟨g, o, e, hp, hl, hk⟩
    · exact .inl hk
    · exact .inr ⟨g, o, e, h g hp, hl, KL.imp h hk⟩
theorem KL.imp {w : World} {P Q : Nat → Prop} (h : ∀ g, P g → Q g) : ∀ {ks : List Tr} {g o : Nat}, KL w P ks g o → KL w Q ks g o
  | [], _, _, _ => by rw [KL]; trivial
  | t :: ts, g, o, hk => by
    rw [KL] at hk ⊢
    obtain ⟨⟨A, cap, h8, hv⟩, hl⟩ := hk
    exact ⟨⟨A, cap, h8, KV.imp h hv⟩, KL.imp h hl⟩
end
theorem Kept.set {a w : World} {P : Nat → Prop} (h : Kept a w P) {g : Nat} (hg : ¬ P g ∨ a.heap.size ≤ g) (o : Nat) (u : Value) : Kept a (w.setCell ⟨g, o, none⟩ u) P := by
  have hb := (Below.refl 0 w).setCell (p := ⟨g, o, none⟩) (Nat.zero_le _) u
  refine ⟨Nat.le_trans h.size hb.size, fun k hp hk => ?_⟩
  rw [Below.heap_setCell w ⟨g, o, none⟩ u k (by rintro rfl; rcases hg with hg | hg; exact hg hp; exact absurd hk (Nat.not_lt.2 hg))]
  exact h.block k hp hk
theorem Kept.set1 {a w : World} {B : Nat} (h : Kept a w (fun b => B < b)) {g : Nat} (hg : g ≤ B) (o : Nat) (u : Value) : Kept a (w.setCell ⟨g, o, none⟩ u) (fun b => B < b) := h.set (.inl fun hh => Nat.not_lt.2 hg hh) o u
theorem Kept.set2 {a w : World} {B O : Nat} (h : Kept a w (fun b => B < b ∧ b ≠ O)) {g : Nat} (hg : g ≤ B) (o : Nat) (u : Value) : Kept a (w.setCell ⟨g, o, none⟩ u) (fun b => B < b ∧ b ≠ O) := h.set (.inl fun hh => Nat.not_lt.2 hg hh.1) o u
theorem Kept.set2o {a w : World} {B O : Nat} (h : Kept a w (fun b => B < b ∧ b ≠ O)) (o : Nat) (u : Value) : Kept a (w.setCell ⟨O, o, none⟩ u) (fun b => B < b ∧ b ≠ O) := h.set (.inl fun hh => hh.2 rfl) o u
theorem Kept.setNew {a w : World} {P : Nat → Prop} (h : Kept a w P) {g : Nat} (hg : a.heap.size ≤ g) (o : Nat) (u : Value) : Kept a (w.setCell ⟨g, o, none⟩ u) P := h.set (.inr hg) o u
theorem Kept.alloc {a w : World} {P : Nat → Prop} (h : Kept a w P) (o : Obj) : Kept a (w.alloc o) P := h.trans (Kept.of_below ((Below.refl _ _).alloc (Nat.le_refl _) o))
theorem Kept.drew {a w : World} {P : Nat → Prop} (h : Kept a w P) : Kept a w.drew P := ⟨h.size, h.block⟩
theorem Kept.drewN {a w : World} {P : Nat → Prop} (h : Kept a w P) (n : Nat) : Kept a (w.drewN n) P := h.trans (Kept.of_below (below_drewN (Below.refl _ _) n))
theorem Kept.but {a w w' : World} {P : Nat → Prop} {R : Nat} (h : Kept a w P) (hb : But R w w') (hR : ¬ P R) : Kept a w' P :=
  h.trans ⟨hb.size, fun g hp hl => hb.block g hl fun e => hR (e ▸ hp)⟩
def TV (w : World) (P : Nat → Prop) (x : V8) : Option Tr → Prop
  | some t => ∃ A cap, x = tv8 t A cap ∧ KVc w P t A cap
  | none => True
theorem TV.kept {w w' : World} {P : Nat → Prop} {x : V8} {ot : Option Tr} (h : TV w P x ot) (hb : Kept w w' P) : TV w' P x ot := by
  cases ot with
  | none => trivial
  | some t => obtain ⟨A, cap, hx, hk⟩ := h; exact ⟨A, cap, hx, hk.stay hb⟩
theorem TV.imp {w : World} {P Q : Nat → Prop} {x : V8} {ot : Option Tr} (h : TV w P x ot) (hq : ∀ g, P g → Q g) : TV w Q x ot := by
  cases ot with
  | none => trivial
  | some t => obtain ⟨A, cap, hx, hk⟩ := h; exact ⟨A, cap, hx, hk.imp hq⟩
theorem kc_set {w : World} {b o : Nat} {v : Value} (h : w.cell? ⟨b, o, none⟩ = some v) {g : Nat} (hg : g ≠ b) (o' : Nat) (u : Value) : (w.setCell ⟨g, o', none⟩ u).cell? ⟨b, o, none⟩ = some v := by
  rw [World.cell?_setCell_far w ⟨g, o', none⟩ ⟨b, o, none⟩ u hg]; exact h
theorem kc_alloc {w : World} {b o : Nat} {v : Value} (h : w.cell? ⟨b, o, none⟩ = some v) (ob : Obj) : (w.alloc ob).cell? ⟨b, o, none⟩ = some v := keep_cell ((Below.refl _ _).alloc (Nat.le_refl _) ob) h
theorem kc_drew {w : World} {b o : Nat} {v : Value} (h : w.cell? ⟨b, o, none⟩ = some v) : w.drew.cell? ⟨b, o, none⟩ = some v := h
theorem kc_drewN {w : World} {b o : Nat} {v : Value} (h : w.cell? ⟨b, o, none⟩ = some v) (n : Nat) : (w.drewN n).cell? ⟨b, o, none⟩ = some v := h
theorem kf_set {w : World} {b o : Nat} (h : w.frozen? ⟨b, o, none⟩ = false) {g : Nat} (hg : g ≠ b) (o' : Nat) (u : Value) : (w.setCell ⟨g, o', none⟩ u).frozen? ⟨b, o, none⟩ = false := by
  rw [World.frozen?_of_block (w := w) (a := ⟨b, o, none⟩) (Below.heap_setCell w ⟨g, o', none⟩ u b fun e => hg e.symm)]; exact h
theorem kf_alloc {w : World} {b o : Nat} (h : w.frozen? ⟨b, o, none⟩ = false) (hb : b < w.heap.size) (ob : Obj) : (w.alloc ob).frozen? ⟨b, o, none⟩ = false := keep_frozen ((Below.refl _ _).alloc (Nat.le_refl _) ob) hb h
theorem kf_drew {w : World} {b o : Nat} (h : w.frozen? ⟨b, o, none⟩ = false) : w.drew.frozen? ⟨b, o, none⟩ = false := h
theorem kf_drewN {w : World} {b o : Nat} (h : w.frozen? ⟨b, o, none⟩ = false) (n : Nat) : (w.drewN n).frozen? ⟨b, o, none⟩ = false := h
def At8V (w : World) (g o : Nat) (x : V8) : Prop :=
  w.cell? ⟨g, o, none⟩ = some (.int .i64 x.n0) ∧ w.cell? ⟨g, o + 1, none⟩ = some (.int .i64 x.n1) ∧ w.cell? ⟨g, o + 2, none⟩ = some (.int .i64 x.n2) ∧ w.cell? ⟨g, o + 3, none⟩ = some (.int .i64 x.n3) ∧
  w.cell? ⟨g, o + 4, none⟩ = some (.int .i64 x.n4) ∧ w.cell? ⟨g, o + 5, none⟩ = some (.int .i64 x.n5) ∧ w.cell? ⟨g, o + 6, none⟩ = some (.string x.s) ∧ w.cell? ⟨g, o + 7, none⟩ = some (.slice x.A x.len x.cap)
theorem TV.node {w : World} {P : Nat → Prop} {G cap : Nat} (k : Int) (wd : List UInt8) (xs : List (V8 × Tr)) (hG : P G) (hl : G < w.heap.size)
    (h : ∀ (i : Nat) (x : V8) (t : Tr), xs[i]? = some (x, t) → At8V w G (8 * i) x ∧ TV w P x (some t)) (hcap : xs.length ≤ cap := by first | exact Nat.le_refl _ | assumption | omega | (simp; done)) :
    TV w P ⟨k, 0, 0, 0, 0, 0, ⟨wd.toArray⟩, some ⟨G, 0, none⟩, xs.length, cap⟩ (some (.mk k 0 0 0 0 0 wd (xs.map Prod.snd))) := by
  refine ⟨some ⟨G, 0, none⟩, cap, by simp [tv8, Tr.kind, Tr.num, Tr.c1, Tr.r1, Tr.c2, Tr.r2, Tr.word, Tr.kids], KVc.mk' (by rw [show (Tr.mk k 0 0 0 0 0 wd (xs.map Prod.snd)).kids = xs.map Prod.snd from rfl, List.length_map]; exact hcap) (.inr ⟨G, 0, rfl, hG, hl, KLc.of fun i t hi => ?_⟩)⟩
  have hi' : (xs.map Prod.snd)[i]? = some t := hi
  rw [List.getElem?_map] at hi'
  cases hx : xs[i]? with
  | none => rw [hx] at hi'; cases hi'
  | some xt =>
    obtain ⟨x, t'⟩ := xt
    rw [hx] at hi'
    obtain rfl : t' = t := Option.some.inj hi'
    obtain ⟨h8, A, cap', hxv, hk⟩ := h i x t' hx
    subst hxv
    refine ⟨A, cap', ?_, hk⟩
    rw [Nat.zero_add]
    exact h8
theorem TV.node1 {w : World} {P : Nat → Prop} {G cap : Nat} (k : Int) (wd : List UInt8) (x : V8) (ot : Option Tr) (hG : P G) (hl : G < w.heap.size) (h8 : At8V w G 0 x) (hx : TV w P x ot) (hcap : 1 ≤ cap := by first | exact Nat.le_refl _ | assumption | omega | (simp; done)) :
    TV w P ⟨k, 0, 0, 0, 0, 0, ⟨wd.toArray⟩, some ⟨G, 0, none⟩, 1, cap⟩ (ot.map fun t => .mk k 0 0 0 0 0 wd [t]) := by
  cases ot with
  | none => trivial
  | some t =>
    refine TV.node k wd [(x, t)] hG hl (fun i y u hi => ?_) hcap
    match i, hi with
    | 0, hi => simp at hi; obtain ⟨rfl, rfl⟩ := hi; exact ⟨h8, hx⟩
theorem end_some {L : List Tok} {p : Nat} (h : isEnd L p = true) : ∃ t, L[p]? = some t ∧ (t.kind = 2 ∨ t.kind = 3) := by
  unfold isEnd at h
  split at h
  · rename_i t ht
    refine ⟨t, ht, ?_⟩
    simpa using h
  · cases h
theorem whr_some {L : List Tok} {E p : Nat} {t : Tok} (h : L[p]? = some t) : whr L E p = t.frm := by unfold whr; rw [h]
theorem whr_none {L : List Tok} {E p : Nat} (h : L[p]? = none) : whr L E p = E := by unfold whr; rw [h]
theorem end_none {L : List Tok} {p : Nat} (h : L[p]? = none) : isEnd L p = false := by unfold isEnd; rw [h]
def cornerF (L : List Tok) (E : Nat) (a : Tok) (q : Nat) : Option Res := match L[q]? with
  | none => some (.bad E)
  | some b => if isEnd L q = false then some (.bad b.frm) else if a.kind = 3 ∨ b.kind = 3 then some (.ok badT (q + 1)) else some (.ok (spanT (min a.col b.col) (min a.row b.row) (max a.col b.col) (max a.row b.row)) (q + 1))
theorem TV.node2 {w : World} {P : Nat → Prop} {G cap : Nat} (k : Int) (wd : List UInt8) (x y : V8) (t : Tr) (ot : Option Tr) (hG : P G) (hl : G < w.heap.size) (h8 : At8V w G 0 x) (k8 : At8V w G 8 y) (hx : TV w P x (some t)) (hy : TV w P y ot) (hcap : 2 ≤ cap := by first | exact Nat.le_refl _ | assumption | omega | (simp; done)) :
    TV w P ⟨k, 0, 0, 0, 0, 0, ⟨wd.toArray⟩, some ⟨G, 0, none⟩, 2, cap⟩ (ot.map fun u => .mk k 0 0 0 0 0 wd [t, u]) := by
  cases ot with
  | none => trivial
  | some u =>
    refine TV.node k wd [(x, t), (y, u)] hG hl (fun i z v hi => ?_) hcap
    match i, hi with
    | 0, hi => simp at hi; obtain ⟨rfl, rfl⟩ := hi; exact ⟨h8, hx⟩
    | 1, hi => simp at hi; obtain ⟨rfl, rfl⟩ := hi; exact ⟨k8, hy⟩
mutual
theorem KV.lowT {w : World} {P : Nat → Prop} : ∀ {t : Tr} {A : Option Addr}, KV w P t A → KV w (fun b => P b ∧ b < w.heap.size) t A
  | .mk _ _ _ _ _ _ _ ks, A, hk => by
    rw [KV] at hk ⊢
    rcases hk with hk | ⟨g, o, e, hp, hl, hk⟩
    · exact .inl hk
    · exact .inr ⟨g, o, e, ⟨hp, hl⟩, hl, KL.lowT hk⟩
theorem KL.lowT {w : World} {P : Nat → Prop} : ∀ {ks : List Tr} {g o : Nat}, KL w P ks g o → KL w (fun b => P b ∧ b < w.heap.size) ks g o
  | [], _, _, _ => by rw [KL]; trivial
  | t :: ts, g, o, hk => by
    rw [KL] at hk ⊢
    obtain ⟨⟨A, cap, h8, hv⟩, hl⟩ := hk
    exact ⟨⟨A, cap, h8, KV.lowT hv⟩, KL.lowT hl⟩
end
theorem KV.low {w : World} {P : Nat → Prop} : ∀ {t : Tr} {A : Option Addr}, KV w P t A → KV w (fun b => P b ∧ b < w.heap.size) t A := by
  intro t A h
  exact KV.lowT h
theorem TV.fresh {w : World} {P : Nat → Prop} {x : V8} {ot : Option Tr} (h : TV w P x ot) : TV w (fun b => P b ∧ b ≠ w.heap.size) x ot := by
  cases ot with
  | none => trivial
  | some t => obtain ⟨A, cap, hx, hk⟩ := h; exact ⟨A, cap, hx, hk.low.imp fun b hb => ⟨hb.1, Nat.ne_of_lt hb.2⟩⟩
theorem kc_alloc' {w : World} {p : Addr} {v : Value} (h : w.cell? p = some v) {ob : Obj} : (w.alloc ob).cell? p = some v := by
  rw [((Below.refl _ _).alloc (Nat.le_refl _) ob).cell (Lib.lt_of_cell h)]; exact h
theorem zCs {w : World} {b o : Nat} {v : Value} (h : w.cell? ⟨b, o, none⟩ = some v) {g : Nat} (hg : g ≠ b) (o' : Nat) (u : Value) : (w.setCell ⟨g, o', none⟩ u).cell? ⟨b, o, none⟩ = some v := kc_set h hg o' u
theorem zCa {w : World} {b o : Nat} {v : Value} (h : w.cell? ⟨b, o, none⟩ = some v) (ob : Obj) : (w.alloc ob).cell? ⟨b, o, none⟩ = some v := kc_alloc h ob
theorem zCd {w : World} {b o : Nat} {v : Value} (h : w.cell? ⟨b, o, none⟩ = some v) : w.drew.cell? ⟨b, o, none⟩ = some v := kc_drew h
theorem zCn {w : World} {b o : Nat} {v : Value} (h : w.cell? ⟨b, o, none⟩ = some v) (n : Nat) : (w.drewN n).cell? ⟨b, o, none⟩ = some v := kc_drewN h n
theorem zFs {w : World} {b o : Nat} (h : w.frozen? ⟨b, o, none⟩ = false) {g : Nat} (hg : g ≠ b) (o' : Nat) (u : Value) : (w.setCell ⟨g, o', none⟩ u).frozen? ⟨b, o, none⟩ = false := kf_set h hg o' u
theorem zFa {w : World} {b o : Nat} (h : w.frozen? ⟨b, o, none⟩ = false) (hb : b < w.heap.size) (ob : Obj) : (w.alloc ob).frozen? ⟨b, o, none⟩ = false := kf_alloc h hb ob
theorem zFd {w : World} {b o : Nat} (h : w.frozen? ⟨b, o, none⟩ = false) : w.drew.frozen? ⟨b, o, none⟩ = false := kf_drew h
theorem zFn {w : World} {b o : Nat} (h : w.frozen? ⟨b, o, none⟩ = false) (n : Nat) : (w.drewN n).frozen? ⟨b, o, none⟩ = false := kf_drewN h n
end Go.Proofs.YthaoalmhhgllmaaDoor
namespace Go.Proofs.YthaoalmhhgllmaaDoor
def mkT (s : List UInt8) : Tok := ⟨5, 0, 0, 0, s, 0⟩
def numK (n : Int) : Tok := ⟨1, n, 0, 0, [], 0⟩
def placeK (c r : Int) : Tok := ⟨2, 0, c, r, [], 0⟩
def badK : Tok := ⟨3, 0, 0, 0, [], 0⟩
def wordK (w : List UInt8) : Tok := ⟨4, 0, 0, 0, w, 0⟩
def Holds (L : List Tok) (p : Nat) (ts : List Tok) : Prop := ∀ i t, ts[i]? = some t → ∃ f, L[p + i]? = some { t with frm := f }
theorem Holds.cons {L : List Tok} {p : Nat} {t : Tok} {ts : List Tok} (h : Holds L p (t :: ts)) : (∃ f, L[p]? = some { t with frm := f }) ∧ Holds L (p + 1) ts :=
  ⟨h 0 t rfl, fun i u hi => by have := h (i + 1) u (by simpa using hi); rwa [show p + (i + 1) = p + 1 + i from by omega] at this⟩
theorem Holds.left {L : List Tok} {p : Nat} {a b : List Tok} (h : Holds L p (a ++ b)) : Holds L p a := fun i t hi => h i t (by rw [List.getElem?_append_left (List.getElem?_eq_some_iff.1 hi).1]; exact hi)
theorem Holds.right {L : List Tok} {p : Nat} {a b : List Tok} (h : Holds L p (a ++ b)) : Holds L (p + a.length) b := fun i t hi => by
  have := h (a.length + i) t (by rw [List.getElem?_append_right (by omega)]; simpa using hi)
  rwa [← Nat.add_assoc] at this
inductive Mode where
  | tree | wi (m : Nat) | item (corners : Bool) | its (corners : Bool)
inductive Pr : Mode → Tr → List UInt8 → List Tok → Prop
  | num {n : Nat} : n ≤ 9223372036854775807 → Pr .tree (numT n) (Lib.decDigits n) [numK n]
  | read {c r : Int} : rightB c r = true → Pr .tree (readT c r) (placeText c r) [placeK c r]
  | bad : Pr .tree badT [35, 82, 69, 70] [badK]
  | neg {a : Tr} {s : List UInt8} {ts : List Tok} : Pr (.wi 4) a s ts → Pr .tree (negT a) (45 :: s) (mkT [45] :: ts)
  | op {w sa sb : List UInt8} {a b : Tr} {ta tb : List Tok} : 1 ≤ lvl w → Pr (.wi (lvl w)) a sa ta → Pr (.wi (lvl w + 1)) b sb tb → Pr .tree (opT w a b) (sa ++ (w ++ sb)) (ta ++ mkT w :: tb)
  | plain {m : Nat} {t : Tr} {s : List UInt8} {ts : List Tok} : Pr .tree t s ts → (t.kind = 4 → m ≤ lvl t.word) → Pr (.wi m) t s ts
  | brk {m : Nat} {t : Tr} {s : List UInt8} {ts : List Tok} : Pr .tree t s ts → t.kind = 4 → lvl t.word < m → Pr (.wi m) t (40 :: (s ++ [41])) (mkT [40] :: (ts ++ [mkT [41]]))
  | cif {a b c : Tr} {sa sb sc : List UInt8} {ta tb tc : List Tok} : Pr .tree a sa ta → Pr .tree b sb tb → Pr .tree c sc tc →
      Pr .tree (callT [73, 70] [a, b, c]) ([73, 70, 40] ++ (sa ++ 44 :: (sb ++ 44 :: (sc ++ [41])))) (wordK [73, 70] :: mkT [40] :: (ta ++ mkT [44] :: (tb ++ mkT [44] :: (tc ++ [mkT [41]]))))
  | call {w s : List UInt8} {ks : List Tr} {ts : List Tok} : (w = [83, 85, 77] ∨ w = [77, 73, 78] ∨ w = [77, 65, 88] ∨ w = [67, 79, 85, 78, 84]) → Pr (.its (w == [67, 79, 85, 78, 84])) (callT [] ks) s ts → Pr .tree (callT w ks) (w ++ 40 :: s) (wordK w :: mkT [40] :: ts)
  | itT {t : Tr} {s : List UInt8} {ts : List Tok} : Pr .tree t s ts → Pr (.item false) t s ts
  | itBad : Pr (.item true) badT [35, 82, 69, 70] [badK]
  | itSpan {k : Bool} {c r d s : Int} : rightB c r = true → rightB d s = true → c ≤ d → r ≤ s → Pr (.item k) (spanT c r d s) (placeText c r ++ 58 :: placeText d s) [placeK c r, mkT [58], placeK d s]
  | last {k : Bool} {t : Tr} {s : List UInt8} {ts : List Tok} : Pr (.item k) t s ts → Pr (.its k) (callT [] [t]) (s ++ [41]) (ts ++ [mkT [41]])
  | more {k : Bool} {t : Tr} {ks : List Tr} {s s' : List UInt8} {ts ts' : List Tok} : Pr (.item k) t s ts → Pr (.its k) (callT [] ks) s' ts' → Pr (.its k) (callT [] (t :: ks)) (s ++ 44 :: s') (ts ++ mkT [44] :: ts')
end Go.Proofs.YthaoalmhhgllmaaDoor
namespace Go.Proofs.YthaoalmhhgllmaaDoor
open Go.Lib
def Foll (z : List UInt8) : Prop := ∀ c, z.head? = some c → isNam c = false
theorem Foll.nil : Foll [] := fun c h => by cases h
def Beg (s : List UInt8) : Prop := ∃ c r, s = c :: r ∧ c ≠ 61 ∧ c ≠ 62 ∧ c ≠ 32
theorem lvl_cases {w : List UInt8} (h : 1 ≤ lvl w) : w = [60] ∨ w = [60, 61] ∨ w = [61] ∨ w = [60, 62] ∨ w = [62, 61] ∨ w = [62] ∨ w = [43] ∨ w = [45] ∨ w = [42] ∨ w = [47] := by
  unfold lvl at h
  split at h
  · rename_i e; rcases e with e | e | e | e | e | e <;> simp [e]
  · split at h
    · rename_i e; rcases e with e | e <;> simp [e]
    · split at h
      · rename_i e; rcases e with e | e <;> simp [e]
      · omega
theorem lex_cons {x z : List UInt8} {o : Nat} {t : Tok} {zs : List Tok} (hx : ∃ c r, x = c :: r ∧ c ≠ 32) (ho : oneT (x ++ z) 0 = some (t, x.length)) (hl : Lex z (o + x.length) zs) : Lex (x ++ z) o ({ t with frm := o } :: zs) := by
  obtain ⟨c, r, rfl, hc⟩ := hx
  refine .tok (by simp) (by simpa using hc) ho ?_
  rw [List.drop_left']
  · exact hl
  · rfl
theorem Beg.app {s : List UInt8} (h : Beg s) (z : List UInt8) : Beg (s ++ z) := by
  obtain ⟨c, r, rfl, hc⟩ := h
  exact ⟨c, r ++ z, rfl, hc⟩
end Go.Proofs.YthaoalmhhgllmaaDoor
namespace Go.Proofs.YthaoalmhhgllmaaDoor
open Go.Lib
def LexP (s : List UInt8) (ts : List Tok) : Prop := ∀ (z : List UInt8) (o : Nat) (zs : List Tok), Foll z → Lex z (o + s.length) zs → ∃ us, Lex (s ++ z) o (us ++ zs) ∧ us.map bareT = ts
theorem LexP.app {x y : List UInt8} {ts us : List Tok} (hx : LexP x ts) (hy : LexP y us) (hf : ∀ z, Foll (y ++ z)) : LexP (x ++ y) (ts ++ us) := fun z o zs hz hl => by
  obtain ⟨b, hb, eb⟩ := hy z (o + x.length) zs hz (by rw [List.length_append, ← Nat.add_assoc] at hl; exact hl)
  obtain ⟨a, ha, ea⟩ := hx (y ++ z) o (b ++ zs) (hf z) hb
  refine ⟨a ++ b, ?_, by rw [List.map_append, ea, eb]⟩
  rw [List.append_assoc, List.append_assoc]
  exact ha
theorem LexP.head {x y : List UInt8} {t : Tok} {us : List Tok} (hx : ∃ c r, x = c :: r ∧ c ≠ 32) (ho : ∀ z, oneT (x ++ (y ++ z)) 0 = some (t, x.length)) (hb : bareT t = t) (hy : LexP y us) : LexP (x ++ y) (t :: us) := fun z o zs hz hl => by
  obtain ⟨b, hb', eb⟩ := hy z (o + x.length) zs hz (by rw [List.length_append, ← Nat.add_assoc] at hl; exact hl)
  refine ⟨{ t with frm := o } :: b, ?_, by rw [List.map_cons, eb]; show bareT t :: us = t :: us; rw [hb]⟩
  rw [List.append_assoc]
  exact lex_cons hx (ho z) hb'
end Go.Proofs.YthaoalmhhgllmaaDoor
namespace Go.Proofs.YthaoalmhhgllmaaDoor
open Go.Lib
def Ex (md : Mode) (t : Tr) : Prop := ∃ s ts, Pr md t s ts
theorem Ex.wi {t : Tr} (h : Ex .tree t) (m : Nat) : Ex (.wi m) t := by
  obtain ⟨s, ts, h⟩ := h
  by_cases hk : t.kind = 4
  · by_cases hl : lvl t.word < m
    · exact ⟨_, _, .brk h hk hl⟩
    · exact ⟨_, _, .plain h fun _ => by omega⟩
  · exact ⟨_, _, .plain h fun e => absurd e hk⟩
theorem Ex.op {w : List UInt8} {a b : Tr} (hw : 1 ≤ lvl w) (ha : Ex .tree a) (hb : Ex .tree b) : Ex .tree (opT w a b) := by
  obtain ⟨_, _, h1⟩ := ha.wi (lvl w)
  obtain ⟨_, _, h2⟩ := hb.wi (lvl w + 1)
  exact ⟨_, _, .op hw h1 h2⟩
theorem Ex.neg {a : Tr} (ha : Ex .tree a) : Ex .tree (negT a) := by
  obtain ⟨_, _, h1⟩ := ha.wi 4
  exact ⟨_, _, .neg h1⟩
structure GoodT (t : Tok) : Prop where
  num : t.kind = 1 → ∃ n : Nat, t.num = (n : Int) ∧ n ≤ 9223372036854775807
  place : t.kind = 2 → rightB t.col t.row = true
  word : t.kind = 4 → wordB t.text = true
  kind : 1 ≤ t.kind ∧ t.kind ≤ 5
def GoodL (L : List Tok) : Prop := ∀ (p : Nat) (t : Tok), L[p]? = some t → GoodT t
def Gives (md : Mode) (o : Option Res) : Prop := ∀ t q, o = some (.ok t q) → Ex md t
theorem Gives.ok {md : Mode} {t : Tr} {q : Nat} (h : Ex md t) : Gives md (some (.ok t q)) := fun _ _ e => by cases e; exact h
theorem Gives.bad {md : Mode} {w : Nat} : Gives md (some (.bad w)) := fun _ _ e => by cases e
theorem Gives.next {md md' : Mode} {a : Option Res} {f : Tr → Nat → Option Res} (h : Gives md a) (hf : ∀ t q, Ex md t → Gives md' (f t q)) : Gives md' (Res.next a f) := fun t q e => by
  cases a with
  | none => cases e
  | some r =>
    cases r with
    | ok u p => exact hf u p (h u p rfl) t q e
    | bad w => cases e
theorem Gives.must {md : Mode} {L : List Tok} {E p : Nat} {s : List UInt8} {f : Nat → Option Res} (hf : ∀ q, Gives md (f q)) : Gives md (mustF L E p s f) := by
  unfold mustF
  split
  · exact hf _
  · exact .bad
end Go.Proofs.YthaoalmhhgllmaaDoor
namespace Go.Proofs.YthaoalmhhgllmaaDoor
open Go.Lib
theorem find_low {n : Nat} {f : Nat → Bool} {i : Nat} (h : (List.range n).find? f = some i) : i < n := List.mem_range.1 (List.mem_of_find?_eq_some h)
theorem find_lt {l : List UInt8} {i : Nat} (h : findP l = some i) : i < 1024 := find_low (f := fun i => textAt i == l) h
theorem parse_right {l : List UInt8} (h : prE l = 0) : rightB (prC l) (prR l) = true := by
  unfold prE at h
  unfold prC prR
  split at h
  · rename_i hf
    rw [if_pos hf, if_pos hf]
    cases e : findP l with
    | none => rw [e] at h; exact absurd h (by decide)
    | some i =>
      have hi : i < 1024 := find_lt e
      show rightB (atC (i : Int)) (atR (i : Int)) = true
      rw [atC_of i hi, atR_of i hi]
      exact (rightB_iff _ _).2 (by omega)
  · exact absurd h (by decide)
theorem good_one {l : List UInt8} {p n : Nat} {t : Tok} (h : oneT l p = some (t, n)) : GoodT t := by
  unfold oneT at h
  split at h
  · split at h
    · rename_i u hu
      have h := (Prod.mk.inj (Option.some.inj h)).1; subst h
      refine ⟨fun _ => ⟨u, rfl, ?_⟩, fun e => by simp at e, fun e => by simp at e, by simp⟩
      unfold numV at hu
      split at hu
      · split at hu
        · rename_i hle; cases hu; exact hle
        · cases hu
      · cases hu
    · cases h
  · split at h
    · split at h
      · rename_i hw
        have h := (Prod.mk.inj (Option.some.inj h)).1; subst h
        exact ⟨fun e => by simp at e, fun e => by simp at e, fun _ => hw, by simp⟩
      · split at h
        · rename_i hp
          have hr := parse_right hp
          have h := (Prod.mk.inj (Option.some.inj h)).1; subst h
          exact ⟨fun e => by simp at e, fun _ => by simp only; exact hr, fun e => by simp at e, by simp⟩
        · split at h
          · have h := (Prod.mk.inj (Option.some.inj h)).1; subst h
            exact ⟨fun e => by simp at e, fun e => by simp at e, fun e => by simp at e, by simp⟩
          · cases h
    · split at h
      · have h := (Prod.mk.inj (Option.some.inj h)).1; subst h
        exact ⟨fun e => by simp at e, fun e => by simp at e, fun e => by simp at e, by simp⟩
      · split at h
        · cases h
        · have h := (Prod.mk.inj (Option.some.inj h)).1; subst h
          exact ⟨fun e => by simp at e, fun e => by simp at e, fun e => by simp at e, by simp⟩
theorem good_lex {r : List UInt8} {o : Nat} {ts : List Tok} (h : Lex r o ts) : ∀ t ∈ ts, GoodT t := by
  induction h with
  | nil => intro t ht; cases ht
  | blank _ ih => exact ih
  | tok _ _ ho _ ih =>
    intro t ht
    rcases List.mem_cons.1 ht with rfl | ht
    · have G := good_one ho
      exact ⟨G.num, G.place, G.word, G.kind⟩
    · exact ih t ht
theorem good_ans {l : List UInt8} (h : ansE l = 0) (hl : l.length ≤ 200) : GoodL (ansL l) := fun _ t ht => good_lex (ans_ok h hl) t (List.mem_of_getElem? ht)
end Go.Proofs.YthaoalmhhgllmaaDoor
namespace Go.Proofs.YthaoalmhhgllmaaDoor
mutual
def deepT : Tr → Nat
  | .mk _ _ _ _ _ _ _ ks => deepL ks + 1
def deepL : List Tr → Nat
  | [] => 0
  | t :: ts => max (deepT t) (deepL ts)
end
end Go.Proofs.YthaoalmhhgllmaaDoor
