/- Texts joined: FtA, TbA, TrC, TrD, TrE, TrF, TrG, RtA. -/
import Derived.Test.YtahdlijkohmdfaaGreatDoorMg28
import Derived.Test.YtahdlijkohmdfaaGreatDoorMg09
import Derived.Test.YtahdlijkohmdfaaGreatDoorMg02
import Derived.Lib.ItoaLen
import Derived.Test.YtahdlijkohmdfaaGreatDoorMg06
import Derived.Deep.RegionWith
import Derived.Test.YtahdlijkohmdfaaGreatDoorMg20
import Derived.Laws.Concat
set_option linter.all false
set_option linter.unusedVariables false
set_option linter.unusedSimpArgs false
/- The statement's own test whether a tree is gone through. -/
namespace Go.Proofs.YtahdlijkohmdfaaGreatDoor
open Go.RowKit

def fitsB (t : Tr) : Bool := decide (szT t 400 ≤ 400) && witB 40 t
theorem fits_iff {t : Tr} : fitsB t = true ↔ szT t 400 ≤ 400 ∧ witB 40 t = true := by unfold fitsB; simp
theorem fits_deep {t : Tr} (h : fitsB t = true) : deepT t ≤ 40 := wit_deep (fits_iff.1 h).2
set_option maxHeartbeats 1000000 in
set_option maxRecDepth 10000 in
theorem lfits_any (t : Tr) (hW : Wid t) (w : World) (A : Option Addr) (cap : Nat) (hk : KV w (fun _ => True) t A) :
    Calls Tryz.prog 11 #[tv t A cap] w fun e w' => e = .returned (.bool (fitsB t)) ∧ Below w.heap.size w w' := by
  have hlen := hW.len
  unfold maxLen at hlen
  have h0 : ∀ ob, Below w.heap.size w (w.alloc ob) := fun ob => (Below.refl _ _).alloc (Nat.le_refl _) ob
  have H1 := Lib.hid (fun ob => lsize_any hW 400 (by decide) (by decide) (w.alloc ob) (fun _ => True) A cap (hk.kept (Kept.of_below (h0 ob))))
  have H2 := Lib.hid (fun w1 (hb : Below w.heap.size w w1) => lwithin_any 40 t (by decide) hW 40 rfl w1 (fun _ => True) A cap (hk.kept (Kept.of_below hb)))
  have hb := szT_bound t 400 (by decide)
  unfold tv at *
  by_cases hz : szT t 400 ≤ 400
  · have hf : fitsB t = witB 40 t := by unfold fitsB; rw [decide_eq_true hz]; rfl
    have HF := Lib.hid hf
    have dz : decide (400 < szT t 400) = false := decide_eq_false (by omega)
    generalize szT t 400 = z at *
    clear hk hW hz hf
    go_enter Tryz.func11, Tryz.ntmps11
    go_wp2_with fail
    refine (H1.out _).mono ?_; rintro e w1 ⟨rfl, b1⟩
    have k10 := keep_fresh b1 0 (v := .int .i64 t.kind) rfl
    have k11 := keep_fresh b1 1 (v := .int .i64 t.num) rfl
    have k12 := keep_fresh b1 2 (v := .int .i64 t.c1) rfl
    have k13 := keep_fresh b1 3 (v := .int .i64 t.r1) rfl
    have k14 := keep_fresh b1 4 (v := .int .i64 t.c2) rfl
    have k15 := keep_fresh b1 5 (v := .int .i64 t.r2) rfl
    have k16 := keep_fresh b1 6 (v := .string ⟨t.word.toArray⟩) rfl
    have k17 := keep_fresh b1 7 (v := .slice A t.kids.length cap) rfl
    have h1 : Below w.heap.size w w1 := ((Below.refl _ _).alloc (Nat.le_refl _) _).trans (b1.mono (by simp))
    have HH := Lib.hid h1
    clear b1 h1
    go_wp2_with fail
    refine (H2.out w1 HH.out).mono ?_; rintro e w2 ⟨rfl, b2⟩
    have h2 := HH.out.trans (b2.mono HH.out.size)
    clear b2 k10 k11 k12 k13 k14 k15 k16 k17
    go_wp2_with fail
    go_ret
    exact ⟨by rw [HF.out]; rfl, h2⟩
  · have hf : fitsB t = false := by unfold fitsB; rw [decide_eq_false hz]; rfl
    have HF := Lib.hid hf
    have dz : decide (400 < szT t 400) = true := decide_eq_true (by omega)
    generalize szT t 400 = z at *
    clear hk hW hz hf
    go_enter Tryz.func11, Tryz.ntmps11
    go_wp2_with fail
    refine (H1.out _).mono ?_; rintro e w1 ⟨rfl, b1⟩
    have h1 : Below w.heap.size w w1 := ((Below.refl _ _).alloc (Nat.le_refl _) _).trans (b1.mono (by simp))
    clear b1
    go_wp2_with fail
    go_ret
    exact ⟨by rw [HF.out]; rfl, h1⟩
end Go.Proofs.YtahdlijkohmdfaaGreatDoor
/- How long a tree's text is, by its parts: plain. -/
namespace Go.Proofs.YtahdlijkohmdfaaGreatDoor
open Go.RowKit

mutual
def cntT : Tr → Nat
  | .mk _ _ _ _ _ _ _ ks => cntL ks + 1
def cntL : List Tr → Nat
  | [] => 0
  | t :: ts => cntT t + cntL ts
end
theorem szL_ge : ∀ (ks : List Tr) (n m : Int), 1 ≤ n → n ≤ m + 1 → n ≤ szL ks n m
  | [], n, m, _, _ => by rw [szL]; exact Int.le_refl _
  | u :: r, n, m, h1, h2 => by
    rw [szL]
    by_cases h : n ≤ m
    · rw [if_pos h]
      have := szT_bound u (m - n) (by omega)
      have := szL_ge r (n + szT u (m - n)) m (by omega) (by omega)
      omega
    · rw [if_neg h]; exact Int.le_refl _
mutual
theorem szT_cnt : ∀ (t : Tr) (m : Int), 0 ≤ m → szT t m ≤ m → szT t m = (cntT t : Int)
  | .mk _ _ _ _ _ _ _ ks, m, h, hm => by
    rw [szT] at hm ⊢
    rw [cntT, szL_cnt ks 1 m (by omega) (by omega) hm]
    omega
theorem szL_cnt : ∀ (ks : List Tr) (n m : Int), 1 ≤ n → n ≤ m + 1 → szL ks n m ≤ m → szL ks n m = n + (cntL ks : Int)
  | [], n, m, _, _, _ => by rw [szL, cntL]; omega
  | u :: r, n, m, h1, h2, hm => by
    rw [szL] at hm ⊢
    by_cases h : n ≤ m
    · rw [if_pos h] at hm ⊢
      have hb := szT_bound u (m - n) (by omega)
      have hg := szL_ge r (n + szT u (m - n)) m (by omega) (by omega)
      have hu := szT_cnt u (m - n) (by omega) (by omega)
      rw [szL_cnt r _ m (by omega) (by omega) hm, hu, cntL]
      omega
    · rw [if_neg h] at hm; omega
end
theorem txW_len (m : Nat) (t : Tr) (s : List UInt8) : (txW m t s).length ≤ s.length + 2 := by
  unfold txW; split <;> simp
theorem txJ_len : ∀ (l : List (List UInt8)) (B : Nat), (l.map List.length).sum ≤ B → (txJ l).length ≤ B + l.length + 1
  | [], B, _ => by simp [txJ]
  | [s], B, h => by simp [txJ] at *; omega
  | s :: t :: r, B, h => by
    rw [txJ]
    have h' : s.length + ((t :: r).map List.length).sum ≤ B := by simpa using h
    have := txJ_len (t :: r) (B - s.length) (by omega)
    simp only [List.length_append, List.length_cons] at *
    omega
theorem place_len' (c r : Int) : (placeText c r).length ≤ 100 := by
  unfold placeText
  by_cases h : rightB c r = true
  · rw [if_pos h]
    obtain ⟨_, _, r0, r1⟩ := (rightB_iff c r).1 h
    have := Lib.itoa_length_le (r + 1) (by omega) (by omega)
    simp; omega
  · rw [if_neg h]; simp
theorem tx_cnt {t : Tr} (hf : Fit t) : mayB t = true → (txT t).length + 10 ≤ 250 * cntT t := by
  induction hf with
  | @mk k n c r d s w ks hn hk ih =>
    intro h
    rw [mayB] at h
    rw [txT, cntT]
    by_cases h0 : k = 0
    · rw [if_pos h0]
      have := digits_len n.toNat (by omega)
      omega
    rw [if_neg h0] at h ⊢
    by_cases h1 : k = 1
    · rw [if_pos h1]
      have := place_len' c r
      omega
    rw [if_neg h1] at h ⊢
    by_cases h6 : k = 6
    · rw [if_pos h6]
      have := place_len' c r
      have := place_len' d s
      simp only [List.length_append, List.length_cons]
      omega
    rw [if_neg h6] at h ⊢
    by_cases h2 : k = 2
    · rw [if_neg (by omega), if_neg (by omega), if_neg (by omega)]
      simp
      omega
    rw [if_neg h2] at h
    by_cases h3 : k = 3
    · subst h3
      rw [if_pos rfl] at h ⊢
      simp [onlyB] at h
      obtain ⟨⟨_, _, _, hl⟩, ha⟩ := h
      obtain ⟨a, rfl⟩ := List.length_eq_one_iff.1 hl
      have A := all_mem ha a (by simp)
      have := ih a (by simp) A.1
      rw [txL_cons, txL_nil]
      have hw := txW_len 4 a (txT a)
      simp only [List.getD_cons_zero, List.length_cons, cntL]
      omega
    rw [if_neg h3] at h ⊢
    by_cases h4 : k = 4
    · subst h4
      rw [if_pos rfl] at h ⊢
      simp [onlyB] at h
      obtain ⟨⟨_, _, hl⟩, ha, hw⟩ := h
      obtain ⟨a, b, rfl⟩ : ∃ a b, ks = [a, b] := by
        match ks, hl with
        | [a, b], _ => exact ⟨a, b, rfl⟩
      have A := all_mem ha a (by simp)
      have B := all_mem ha b (by simp)
      have := ih a (by simp) A.1
      have := ih b (by simp) B.1
      rw [txL_cons, txL_cons, txL_nil]
      have hwa := txW_len (lvl w) a (txT a)
      have hwb := txW_len (lvl w + 1) b (txT b)
      have hwl : w.length ≤ 2 := by rcases lvl_cases hw with e | e | e | e | e | e | e | e | e | e <;> rw [e] <;> decide
      simp only [List.getD_cons_zero, List.getD_cons_succ, List.length_append, cntL]
      omega
    rw [if_neg h4] at h ⊢
    by_cases h5 : k = 5
    · subst h5
      rw [if_pos rfl] at h ⊢
      rw [Bool.and_eq_true, Bool.and_eq_true] at h
      obtain ⟨_, ha, hif⟩ := h
      have M := all_mem ha
      have hwl : w.length ≤ 5 := by
        by_cases e : w = [73, 70]
        · rw [e]; decide
        · rw [if_neg e] at hif
          split at hif
          · rename_i hc
            rcases hc with e | e | e | e <;> rw [e] <;> decide
          · cases hif
      have hs : ∀ (l : List Tr), (∀ t ∈ l, (txT t).length + 10 ≤ 250 * cntT t) → ((txL l).map List.length).sum + 10 * l.length ≤ 250 * cntL l ∧ (txL l).length = l.length := by
        intro l
        induction l with
        | nil => intro _; rw [txL_nil, cntL]; simp
        | cons u r ihr =>
          intro hu
          have h1 := hu u (by simp)
          have h2 := ihr fun t ht => hu t (by simp [ht])
          rw [txL_cons, cntL]
          simp only [List.map_cons, List.sum_cons, List.length_cons]
          omega
      have hk2 := hs ks fun t ht => ih t ht (M t ht).1
      have := txJ_len (txL ks) _ (Nat.le_refl _)
      simp only [List.length_append, List.length_cons]
      omega
    rw [if_neg h5] at h
    cases h
/-- such a tree's text, if it may be, is not long -/
theorem tx_short {t : Tr} (hf : Fit t) (hm : mayB t = true) (h : szT t 400 ≤ 400) : (txT t).length ≤ 140737488355328 := by
  have h1 := szT_cnt t 400 (by decide) h
  have h2 := tx_cnt hf hm
  omega
end Go.Proofs.YtahdlijkohmdfaaGreatDoor
/- The document's own Reader's states, plain: what a descent makes of them. -/
namespace Go.Proofs.YtahdlijkohmdfaaGreatDoor

/-- a Reader's state: it goes on at a token; it failed, and where -/
inductive St where
  | run (p : Nat)
  | out (x : Nat)
/-- what comes of a descent: the state, and a tree, if it did not fail -/
abbrev Got := St × Option Tr
def toS : Option Res → Option Got
  | none => none
  | some (.ok t q) => some (.run q, some t)
  | some (.bad x) => some (.out x, none)
/-- a descent, from whatever state -/
def goS (f : Nat → Option Res) : St → Option Got
  | .out x => some (.out x, none)
  | .run p => toS (f p)
def mustS (L : List Tok) (E : Nat) (s : List UInt8) : St → St
  | .out x => .out x
  | .run p => if isMark L p s = true then .run (p + 1) else .out (whr L E p)
def markR (L : List Tok) (m : Nat) (s : List UInt8) : St → Bool
  | .out _ => false
  | .run p => isMark L (p + m) s
def levelS (L : List Tok) : St → Nat
  | .out _ => 0
  | .run p => levelAt L p
def endS (L : List Tok) : St → Bool
  | .out _ => false
  | .run p => isEnd L p
def failS (L : List Tok) (E : Nat) : St → St
  | .out x => .out x
  | .run p => .out (whr L E p)
/-- a state that may be -/
def OkS (L : List Tok) : St → Prop
  | .out _ => True
  | .run p => p ≤ L.length
theorem toS_next {a : Option Res} {f : Tr → Nat → Option Res} {g : Got} (h : toS (Res.next a f) = some g) :
    (∃ t q, toS a = some (.run q, some t) ∧ toS (f t q) = some g) ∨ (∃ x, toS a = some (.out x, none) ∧ g = (.out x, none)) := by
  cases a with
  | none => cases h
  | some r =>
    cases r with
    | ok t q => exact .inl ⟨t, q, rfl, h⟩
    | bad x => exact .inr ⟨x, rfl, (Option.some.inj h).symm⟩
theorem toS_must {L : List Tok} {E p : Nat} {s : List UInt8} {f : Nat → Option Res} {g : Got} (h : toS (mustF L E p s f) = some g) :
    (∃ q, mustS L E s (.run p) = .run q ∧ toS (f q) = some g) ∨ (∃ x, mustS L E s (.run p) = .out x ∧ g = (.out x, none)) := by
  unfold mustF at h
  by_cases hm : isMark L p s = true
  · rw [if_pos hm] at h
    exact .inl ⟨p + 1, if_pos hm, h⟩
  · rw [if_neg hm] at h
    exact .inr ⟨whr L E p, if_neg hm, (Option.some.inj h).symm⟩
theorem goS_fine {L : List Tok} {f : Nat → Option Res} {st : St} {lo : Nat → Nat} (hs : OkS L st) (h : ∀ p, p ≤ L.length → Fine L.length (lo p) (f p)) : ∃ g, goS f st = some g ∧ OkS L g.1 := by
  cases st with
  | out x => exact ⟨_, rfl, trivial⟩
  | run p =>
    obtain ⟨r, e, hr⟩ := h p hs
    cases r with
    | ok t q => exact ⟨(.run q, some t), by show toS (f p) = _; rw [e]; rfl, (hr t q rfl).2⟩
    | bad x => exact ⟨(.out x, none), by show toS (f p) = _; rw [e]; rfl, trivial⟩
end Go.Proofs.YtahdlijkohmdfaaGreatDoor
/- The document's own Reader: its test for a mark. -/
namespace Go.Proofs.YtahdlijkohmdfaaGreatDoor
open Go.RowKit

/-- a Reader in a state -/
def RS (w : World) (R : Nat) (A : Option Addr) (cap : Nat) (L : List Tok) (E : Nat) : St → Prop
  | .run p => p ≤ L.length ∧ ∃ x : Int, RC w R A cap L E (p : Int) false x
  | .out x => ∃ p : Int, RC w R A cap L E p true (x : Int)
theorem RS.below {w w' : World} {R : Nat} {A : Option Addr} {cap : Nat} {L : List Tok} {E : Nat} {st : St} (h : RS w R A cap L E st) (hb : Below w.heap.size w w') : RS w' R A cap L E st := by
  cases st with
  | run p => obtain ⟨hp, x, h⟩ := h; exact ⟨hp, x, h.below hb⟩
  | out x => obtain ⟨p, h⟩ := h; exact ⟨p, h.below hb⟩

set_option maxHeartbeats 1000000 in
set_option maxRecDepth 10000 in
theorem rmark_bad {w : World} {R : Nat} {A : Option Addr} {cap : Nat} {L : List Tok} {E : Nat} {p x : Int} (m : Int) (s : ByteArray) (h : RC w R A cap L E p true x) :
    Calls Tryz.prog 68 #[.pointer (some ⟨R, 0, none⟩), .int .i64 m, .string s] w fun e w' => e = .returned (.bool false) ∧ Below w.heap.size w w' := by
  have c3 := h.c3
  clear h
  go_enter Tryz.func68, Tryz.ntmps68
  go_wp2_with fail
  go_quiet (fail)
  go_wp2_with fail
  go_ret
  exact ⟨rfl, below_drewN (Below.refl _ _) _⟩
set_option maxHeartbeats 1000000 in
set_option maxRecDepth 10000 in
theorem rmark_off {w : World} {R : Nat} {A : Option Addr} {cap : Nat} {L : List Tok} {E : Nat} {p m : Nat} {x : Int} (s : ByteArray) (_hL : L.length ≤ 1000) (hp : p ≤ 1000) (hm : m ≤ 1) (h : RC w R A cap L E p false x) (ho : ¬ p + m < L.length) :
    Calls Tryz.prog 68 #[.pointer (some ⟨R, 0, none⟩), .int .i64 (m : Int), .string s] w fun e w' => e = .returned (.bool false) ∧ Below w.heap.size w w' := by
  have c0 := h.c0
  have c1 := h.c1
  have c3 := h.c3
  have d1 : decide ((p : Int) + (m : Int) < (L.length : Int)) = false := decide_eq_false (by omega)
  clear h ho
  go_enter Tryz.func68, Tryz.ntmps68
  go_wp2_with fail
  go_quiet (fail)
  go_wp2_with fail
  go_ret
  exact ⟨rfl, below_drewN (Below.refl _ _) _⟩
set_option maxHeartbeats 1000000 in
set_option maxRecDepth 10000 in
theorem rmark_on {w : World} {R : Nat} {A : Option Addr} {cap : Nat} {L : List Tok} {E : Nat} {p m : Nat} {x : Int} (s : ByteArray) (hL : L.length ≤ 1000) (hp : p ≤ 1000) (hm : m ≤ 1) (h : RC w R A cap L E p false x) (hk : TK w R A L) {t : Tok} (ht : L[p + m]? = some t) :
    Calls Tryz.prog 68 #[.pointer (some ⟨R, 0, none⟩), .int .i64 (m : Int), .string s] w fun e w' => e = .returned (.bool (t.kind == 5 && t.text == s.data.toList)) ∧ Below w.heap.size w w' := by
  have c0 := h.c0
  have c1 := h.c1
  have c3 := h.c3
  obtain ⟨g, rfl, _, _, k0, _, _, _, k4, _⟩ := hk.at ht
  have hlt : p + m < L.length := (List.getElem?_eq_some_iff.1 ht).1
  have d1 : decide ((p : Int) + (m : Int) < (L.length : Int)) = true := decide_eq_true (by omega)
  have hT : (t.text == s.toList) = (t.text == s.data.toList) := by rw [ByteArray.toList_eq]
  clear h hk ht
  cases h5 : (t.kind == 5) with
  | false =>
    go_enter Tryz.func68, Tryz.ntmps68
    go_wp2_with fail
    go_quiet (fail)
    go_wp2_with fail
    go_ret
    exact ⟨rfl, below_drewN (Below.refl _ _) _⟩
  | true =>
    go_enter Tryz.func68, Tryz.ntmps68
    go_wp2_with fail
    go_quiet (fail)
    go_wp2_with fail
    go_ret
    exact ⟨ret_bool (Bool.true_and _).symm, below_drewN (Below.refl _ _) _⟩
/-- what mark answers in whatever state -/
theorem rmark_any {w : World} {R : Nat} {A : Option Addr} {cap : Nat} {L : List Tok} {E m : Nat} {st : St} (s : ByteArray) (hL : L.length ≤ 1000) (hm : m ≤ 1) (h : RS w R A cap L E st) (hk : TK w R A L) :
    Calls Tryz.prog 68 #[.pointer (some ⟨R, 0, none⟩), .int .i64 (m : Int), .string s] w fun e w' => e = .returned (.bool (markR L m s.data.toList st)) ∧ Below w.heap.size w w' := by
  cases st with
  | out x => obtain ⟨p, h⟩ := h; exact rmark_bad _ s h
  | run p =>
    obtain ⟨hp, x, h⟩ := h
    by_cases ho : p + m < L.length
    · have ht : L[p + m]? = some (L[p + m]'ho) := List.getElem?_eq_getElem ho
      refine (rmark_on s hL (by omega) hm h hk ht).mono fun e w' ⟨he, hb⟩ => ⟨he.trans (ret_bool ?_), hb⟩
      show _ = isMark L (p + m) s.data.toList
      unfold isMark
      rw [ht]
    · refine (rmark_off s hL (by omega) hm h ho).mono fun e w' ⟨he, hb⟩ => ⟨he.trans (ret_bool ?_), hb⟩
      show _ = isMark L (p + m) s.data.toList
      unfold isMark
      rw [List.getElem?_eq_none (by omega)]
end Go.Proofs.YtahdlijkohmdfaaGreatDoor
/- The document's own Reader: where it fails. -/
namespace Go.Proofs.YtahdlijkohmdfaaGreatDoor
open Go.RowKit

set_option maxHeartbeats 1000000 in
set_option maxRecDepth 10000 in
theorem rfail_bad {w : World} {R : Nat} {A : Option Addr} {cap : Nat} {L : List Tok} {E : Nat} {p x : Int} (h : RC w R A cap L E p true x) :
    Calls Tryz.prog 21 #[.pointer (some ⟨R, 0, none⟩)] w fun e w' => e = .returned (.tuple #[]) ∧ w = w' := by
  have c3 := h.c3
  clear h
  go_enter Tryz.func21, Tryz.ntmps21
  go_wp2_with fail
  refine bodyPost_ret (results_none rfl _ _ _) rfl ?_
  exact ⟨rfl, rfl⟩
set_option maxHeartbeats 1000000 in
set_option maxRecDepth 10000 in
theorem rfail_off {w : World} {R : Nat} {A : Option Addr} {cap : Nat} {L : List Tok} {E : Nat} {p : Nat} {x : Int} (h : RC w R A cap L E p false x) (ho : ¬ p < L.length) :
    Calls Tryz.prog 21 #[.pointer (some ⟨R, 0, none⟩)] w fun e w' => e = .returned (.tuple #[]) ∧ RC w' R A cap L E p true E ∧ But R w w' := by
  have c0 := h.c0
  have c1 := h.c1
  have c2 := h.c2
  have c3 := h.c3
  have c4 := h.c4
  have f1 := h.f1
  have f3 := h.f3
  have f4 := h.f4
  have hR := h.lt
  have d1 : decide (p < L.length) = false := decide_eq_false ho
  clear h ho
  go_enter Tryz.func21, Tryz.ntmps21
  go_wp2_with fail
  go_quiet (fail)
  go_wp2_with fail
  go_end0
  exact ⟨rfl, ⟨by simp [go_sem, c0], by simp [go_sem, c1], by simp [go_sem, c2], by simp [go_sem, c3], by simp [go_sem, c4], by simp [go_sem, f1], by simp [go_sem, f3], by simp [go_sem, f4]⟩, (((But.refl _ _).setR _ _).setR _ _).drewN _⟩
set_option maxHeartbeats 1000000 in
set_option maxRecDepth 10000 in
theorem rfail_on {w : World} {R : Nat} {A : Option Addr} {cap : Nat} {L : List Tok} {E : Nat} {p : Nat} {x : Int} (_hL : L.length ≤ 1000) (h : RC w R A cap L E p false x) (hk : TK w R A L) {t : Tok} (ht : L[p]? = some t) :
    Calls Tryz.prog 21 #[.pointer (some ⟨R, 0, none⟩)] w fun e w' => e = .returned (.tuple #[]) ∧ RC w' R A cap L E p true (t.frm : Int) ∧ But R w w' := by
  have c0 := h.c0
  have c1 := h.c1
  have c2 := h.c2
  have c3 := h.c3
  have c4 := h.c4
  have f1 := h.f1
  have f3 := h.f3
  have f4 := h.f4
  have hR := h.lt
  obtain ⟨g, rfl, hg, _, _, _, _, _, _, k5⟩ := hk.at ht
  have hlt : p < L.length := (List.getElem?_eq_some_iff.1 ht).1
  have d1 : decide (p < L.length) = true := decide_eq_true hlt
  clear h hk ht
  go_enter Tryz.func21, Tryz.ntmps21
  go_wp2_with fail
  go_quiet (fail)
  go_wp2_with fail
  go_region
  all_goals
    go_wp2_with fail
    go_end0
    exact ⟨rfl, ⟨by simp [go_sem, c0], by simp [go_sem, c1], by simp [go_sem, c2], by simp [go_sem, c3], World.cell?_setCell_same _ _ _ (u := .int .i64 (E : Int)) (by rw [World.cell?_drewN]; exact World.cell?_setCell_same _ _ _ (u := .int .i64 x) (by simp [go_sem, c4])), by simp [go_sem, f1], by simp [go_sem, f3], by simp [go_sem, f4]⟩, by
      repeat' (first | (with_reducible exact But.refl _ _) | (with_reducible refine But.drewN ?_ _) | (with_reducible refine But.setR ?_ _ _) | (with_reducible refine But.drew ?_))⟩
/-- what fail makes of whatever state -/
theorem rfail_any {w : World} {R : Nat} {A : Option Addr} {cap : Nat} {L : List Tok} {E : Nat} {st : St} (hL : L.length ≤ 1000) (h : RS w R A cap L E st) (hk : TK w R A L) :
    Calls Tryz.prog 21 #[.pointer (some ⟨R, 0, none⟩)] w fun e w' => e = .returned (.tuple #[]) ∧ RS w' R A cap L E (failS L E st) ∧ But R w w' := by
  cases st with
  | out x =>
    obtain ⟨p, h⟩ := h
    exact (rfail_bad h).mono fun e w' ⟨he, hw⟩ => ⟨he, hw ▸ ⟨p, h⟩, hw ▸ But.refl _ _⟩
  | run p =>
    obtain ⟨hp, x, h⟩ := h
    by_cases ho : p < L.length
    · have ht : L[p]? = some (L[p]'ho) := List.getElem?_eq_getElem ho
      refine (rfail_on hL h hk ht).mono fun e w' ⟨he, hr, hb⟩ => ⟨he, ⟨p, ?_⟩, hb⟩
      have e1 : whr L E p = (L[p]'ho).frm := by unfold whr; rw [ht]
      rw [e1]
      exact hr
    · refine (rfail_off h ho).mono fun e w' ⟨he, hr, hb⟩ => ⟨he, ⟨p, ?_⟩, hb⟩
      have e1 : whr L E p = E := by unfold whr; rw [List.getElem?_eq_none (by omega)]
      rw [e1]
      exact hr
end Go.Proofs.YtahdlijkohmdfaaGreatDoor
/- The document's own Reader: a mark that must stand there; marks' strengths; ends of ranges. -/
namespace Go.Proofs.YtahdlijkohmdfaaGreatDoor
open Go.RowKit

/-- a Reader goes one on -/
theorem RC.step {w : World} {R : Nat} {A : Option Addr} {cap : Nat} {L : List Tok} {E p : Nat} {x : Int} (h : RC w R A cap L E (p : Int) false x) {v : Int} (hv : v = ((p + 1 : Nat) : Int)) : RC (w.setCell ⟨R, 1, none⟩ (.int .i64 v)) R A cap L E ((p + 1 : Nat) : Int) false x := by
  subst hv
  have c0 := h.c0
  have c1 := h.c1
  have c2 := h.c2
  have c3 := h.c3
  have c4 := h.c4
  have f1 := h.f1
  have f3 := h.f3
  have f4 := h.f4
  exact ⟨by simp [go_sem, c0], by simp [go_sem, c1], by simp [go_sem, c2], by simp [go_sem, c3], by simp [go_sem, c4], by simp [go_sem, f1], by simp [go_sem, f3], by simp [go_sem, f4]⟩
set_option maxHeartbeats 1000000 in
set_option maxRecDepth 10000 in
/-- what must makes of whatever state -/
theorem rmust_any {w : World} {R : Nat} {A : Option Addr} {cap : Nat} {L : List Tok} {E : Nat} {st : St} (s : ByteArray) (hL : L.length ≤ 1000) (h : RS w R A cap L E st) (hk : TK w R A L) :
    Calls Tryz.prog 88 #[.pointer (some ⟨R, 0, none⟩), .string s] w fun e w' => e = .returned (.tuple #[]) ∧ RS w' R A cap L E (mustS L E s.data.toList st) ∧ But R w w' := by
  have H1 := rmark_any (m := 0) s hL (by omega) h hk
  cases hm : markR L 0 s.data.toList st with
  | true =>
    rw [hm] at H1
    have HM := Lib.hid H1
    have hst : ∃ p, st = .run p := by
      cases st with
      | run p => exact ⟨p, rfl⟩
      | out x => cases hm
    obtain ⟨p, rfl⟩ := hst
    have hm' : isMark L p s.data.toList = true := hm
    have hlt := mark_lt hm'
    have e1 : mustS L E s.data.toList (.run p) = .run (p + 1) := if_pos hm'
    obtain ⟨hp, x, hc⟩ := h
    have HC := Lib.hid hc
    have HE := Lib.hid e1
    clear H1 hm hm' hk e1 hc
    go_enter Tryz.func88, Tryz.ntmps88
    go_wp2_with fail
    refine HM.out.mono ?_; rintro e w1 ⟨rfl, b1⟩
    have HC1 := Lib.hid (HC.out.below b1)
    have c1 := HC1.out.c1
    have f1 := HC1.out.f1
    go_wp2_with fail
    go_end0
    exact ⟨rfl, by rw [HE.out]; exact ⟨by omega, x, HC1.out.step (by omega)⟩, (But.of_below b1).setR _ _⟩
  | false =>
    rw [hm] at H1
    have HM := Lib.hid H1
    have e1 : mustS L E s.data.toList st = failS L E st := by
      cases st with
      | out x => rfl
      | run p => exact if_neg (by rw [show isMark L p s.data.toList = false from hm]; decide)
    have HE := Lib.hid e1
    have HH := Lib.hid (And.intro h hk)
    clear H1 hm hk h e1
    go_enter Tryz.func88, Tryz.ntmps88
    go_wp2_with fail
    refine HM.out.mono ?_; rintro e w1 ⟨rfl, b1⟩
    have HF := Lib.hid (rfail_any hL (HH.out.1.below b1) (HH.out.2.but (But.of_below b1)))
    go_wp2_with fail
    refine HF.out.mono ?_; rintro e w2 ⟨rfl, r2, b2⟩
    have HR := Lib.hid r2
    clear r2
    go_wp2_with fail
    refine bodyPost_ret (results_none rfl _ _ _) rfl ?_
    exact ⟨rfl, by rw [HE.out]; exact HR.out, (But.of_below b1).trans b2⟩
end Go.Proofs.YtahdlijkohmdfaaGreatDoor
/- The document's own strengths of marks; a Reader's next one; ends of ranges. -/
namespace Go.Proofs.YtahdlijkohmdfaaGreatDoor
open Go.RowKit

set_option maxHeartbeats 1000000 in
theorem rLevel_at (s : ByteArray) (w : World) (b : List Bool) (n : Nat) (hb : b.length = 10) (hn : n = if b.getD 0 false || b.getD 1 false || b.getD 2 false || b.getD 3 false || b.getD 4 false || b.getD 5 false then 1 else if b.getD 6 false || b.getD 7 false then 2 else if b.getD 8 false || b.getD 9 false then 3 else 0)
    (h0 : (s.toList == [60]) = b.getD 0 false)
    (h1 : (s.toList == [60, 61]) = b.getD 1 false)
    (h2 : (s.toList == [61]) = b.getD 2 false)
    (h3 : (s.toList == [60, 62]) = b.getD 3 false)
    (h4 : (s.toList == [62, 61]) = b.getD 4 false)
    (h5 : (s.toList == [62]) = b.getD 5 false)
    (h6 : (s.toList == [43]) = b.getD 6 false)
    (h7 : (s.toList == [45]) = b.getD 7 false)
    (h8 : (s.toList == [42]) = b.getD 8 false)
    (h9 : (s.toList == [47]) = b.getD 9 false) :
    Calls Tryz.prog 49 #[.string s] w fun e w' => e = .returned (.int .i64 (n : Int)) ∧ w = w' := by
  match b, hb with
  | [b0, b1, b2, b3, b4, b5, b6, b7, b8, b9], _ =>
    simp only [List.getD_cons_zero, List.getD_cons_succ] at *
    cases b0 with
    | true =>
      simp at hn
      subst hn
      go_enter Tryz.func49, Tryz.ntmps49
      go_wp2_with fail
      go_ret
      exact ⟨rfl, rfl⟩
    | false =>
      cases b1 with
      | true =>
        simp at hn
        subst hn
        go_enter Tryz.func49, Tryz.ntmps49
        go_wp2_with fail
        go_ret
        exact ⟨rfl, rfl⟩
      | false =>
        cases b2 with
        | true =>
          simp at hn
          subst hn
          go_enter Tryz.func49, Tryz.ntmps49
          go_wp2_with fail
          go_ret
          exact ⟨rfl, rfl⟩
        | false =>
          cases b3 with
          | true =>
            simp at hn
            subst hn
            go_enter Tryz.func49, Tryz.ntmps49
            go_wp2_with fail
            go_ret
            exact ⟨rfl, rfl⟩
          | false =>
            cases b4 with
            | true =>
              simp at hn
              subst hn
              go_enter Tryz.func49, Tryz.ntmps49
              go_wp2_with fail
              go_ret
              exact ⟨rfl, rfl⟩
            | false =>
              cases b5 with
              | true =>
                simp at hn
                subst hn
                go_enter Tryz.func49, Tryz.ntmps49
                go_wp2_with fail
                go_ret
                exact ⟨rfl, rfl⟩
              | false =>
                cases b6 with
                | true =>
                  simp at hn
                  subst hn
                  go_enter Tryz.func49, Tryz.ntmps49
                  go_wp2_with fail
                  go_ret
                  exact ⟨rfl, rfl⟩
                | false =>
                  cases b7 with
                  | true =>
                    simp at hn
                    subst hn
                    go_enter Tryz.func49, Tryz.ntmps49
                    go_wp2_with fail
                    go_ret
                    exact ⟨rfl, rfl⟩
                  | false =>
                    cases b8 with
                    | true =>
                      simp at hn
                      subst hn
                      go_enter Tryz.func49, Tryz.ntmps49
                      go_wp2_with fail
                      go_ret
                      exact ⟨rfl, rfl⟩
                    | false =>
                      cases b9 with
                      | true =>
                        simp at hn
                        subst hn
                        go_enter Tryz.func49, Tryz.ntmps49
                        go_wp2_with fail
                        go_ret
                        exact ⟨rfl, rfl⟩
                      | false =>
                        simp at hn
                        subst hn
                        go_enter Tryz.func49, Tryz.ntmps49
                        go_wp2_with fail
                        go_ret
                        exact ⟨rfl, rfl⟩
theorem rLevel_any (s : ByteArray) (w : World) :
    Calls Tryz.prog 49 #[.string s] w fun e w' => e = .returned (.int .i64 (lvl s.data.toList : Int)) ∧ w = w' := by
  refine rLevel_at s w [s.toList == [60], s.toList == [60, 61], s.toList == [61], s.toList == [60, 62], s.toList == [62, 61], s.toList == [62], s.toList == [43], s.toList == [45], s.toList == [42], s.toList == [47]] _ rfl ?_ rfl rfl rfl rfl rfl rfl rfl rfl rfl rfl
  rw [ByteArray.toList_eq]
  unfold lvl
  simp only [List.getD_cons_zero, List.getD_cons_succ, Bool.or_eq_true, beq_iff_eq, or_assoc]

set_option maxHeartbeats 1000000 in
set_option maxRecDepth 10000 in
theorem rlevel_bad {w : World} {R : Nat} {A : Option Addr} {cap : Nat} {L : List Tok} {E : Nat} {p x : Int} (h : RC w R A cap L E p true x) :
    Calls Tryz.prog 36 #[.pointer (some ⟨R, 0, none⟩)] w fun e w' => e = .returned (.int .i64 0) ∧ Below w.heap.size w w' := by
  have c3 := h.c3
  clear h
  go_enter Tryz.func36, Tryz.ntmps36
  go_wp2_with fail
  go_quiet (fail)
  go_wp2_with fail
  go_ret
  exact ⟨rfl, below_drewN (Below.refl _ _) _⟩
set_option maxHeartbeats 1000000 in
set_option maxRecDepth 10000 in
theorem rlevel_off {w : World} {R : Nat} {A : Option Addr} {cap : Nat} {L : List Tok} {E p : Nat} {x : Int} (h : RC w R A cap L E p false x) (ho : ¬ p < L.length) :
    Calls Tryz.prog 36 #[.pointer (some ⟨R, 0, none⟩)] w fun e w' => e = .returned (.int .i64 0) ∧ Below w.heap.size w w' := by
  have c0 := h.c0
  have c1 := h.c1
  have c3 := h.c3
  have d1 : decide (L.length ≤ p) = true := decide_eq_true (by omega)
  clear h ho
  go_enter Tryz.func36, Tryz.ntmps36
  go_wp2_with fail
  go_quiet (fail)
  go_wp2_with fail
  go_ret
  exact ⟨rfl, below_drewN (Below.refl _ _) _⟩
set_option maxHeartbeats 1000000 in
set_option maxRecDepth 10000 in
theorem rlevel_on {w : World} {R : Nat} {A : Option Addr} {cap : Nat} {L : List Tok} {E p : Nat} {x : Int} (_hL : L.length ≤ 1000) (h : RC w R A cap L E p false x) (hk : TK w R A L) {t : Tok} (ht : L[p]? = some t) :
    Calls Tryz.prog 36 #[.pointer (some ⟨R, 0, none⟩)] w fun e w' => e = .returned (.int .i64 ((if t.kind = 5 then lvl t.text else 0 : Nat) : Int)) ∧ Below w.heap.size w w' := by
  have c0 := h.c0
  have c1 := h.c1
  have c3 := h.c3
  obtain ⟨g, rfl, _, _, k0, _, _, _, k4, _⟩ := hk.at ht
  have hlt : p < L.length := (List.getElem?_eq_some_iff.1 ht).1
  have d1 : decide (L.length ≤ p) = false := decide_eq_false (by omega)
  have HL := Lib.hid (rLevel_any ⟨t.text.toArray⟩)
  clear h hk ht
  by_cases h5 : t.kind = 5
  · have d5 : (t.kind != 5) = false := by simpa using h5
    have e1 : (⟨t.text.toArray⟩ : ByteArray).data.toList = t.text := by simp
    rw [e1] at HL
    rw [if_pos h5]
    clear h5 e1
    go_enter Tryz.func36, Tryz.ntmps36
    go_wp2_with fail
    go_quiet (fail)
    go_wp2_with fail
    go_region_with ((go_at_call 49; refine (HL.out _).mono ?_; rintro e w1 ⟨rfl, rfl⟩))
    all_goals
      go_wp2_with fail
      go_ret
      exact ⟨rfl, below_drewN (Below.refl _ _) _⟩
  · have d5 : (t.kind != 5) = true := by simpa using h5
    rw [if_neg h5]
    clear h5 HL
    go_enter Tryz.func36, Tryz.ntmps36
    go_wp2_with fail
    go_quiet (fail)
    go_wp2_with fail
    go_ret
    exact ⟨rfl, below_drewN (Below.refl _ _) _⟩
theorem rlevel_any {w : World} {R : Nat} {A : Option Addr} {cap : Nat} {L : List Tok} {E : Nat} {st : St} (hL : L.length ≤ 1000) (h : RS w R A cap L E st) (hk : TK w R A L) :
    Calls Tryz.prog 36 #[.pointer (some ⟨R, 0, none⟩)] w fun e w' => e = .returned (.int .i64 (levelS L st : Int)) ∧ Below w.heap.size w w' := by
  cases st with
  | out x => obtain ⟨p, h⟩ := h; exact rlevel_bad h
  | run p =>
    obtain ⟨hp, x, h⟩ := h
    by_cases ho : p < L.length
    · have ht : L[p]? = some (L[p]'ho) := List.getElem?_eq_getElem ho
      have e1 : levelS L (.run p) = if (L[p]'ho).kind = 5 then lvl (L[p]'ho).text else 0 := by show levelAt L p = _; unfold levelAt; rw [ht]
      rw [e1]
      exact rlevel_on hL h hk ht
    · have e1 : levelS L (.run p) = 0 := by show levelAt L p = _; unfold levelAt; rw [List.getElem?_eq_none (by omega)]
      rw [e1]
      exact rlevel_off h ho

set_option maxHeartbeats 1000000 in
set_option maxRecDepth 10000 in
theorem rend_bad {w : World} {R : Nat} {A : Option Addr} {cap : Nat} {L : List Tok} {E : Nat} {p x : Int} (h : RC w R A cap L E p true x) :
    Calls Tryz.prog 105 #[.pointer (some ⟨R, 0, none⟩)] w fun e w' => e = .returned (.bool false) ∧ Below w.heap.size w w' := by
  have c3 := h.c3
  clear h
  go_enter Tryz.func105, Tryz.ntmps105
  go_wp2_with fail
  go_quiet (fail)
  go_wp2_with fail
  go_ret
  exact ⟨rfl, below_drewN (Below.refl _ _) _⟩
set_option maxHeartbeats 1000000 in
set_option maxRecDepth 10000 in
theorem rend_off {w : World} {R : Nat} {A : Option Addr} {cap : Nat} {L : List Tok} {E p : Nat} {x : Int} (h : RC w R A cap L E p false x) (ho : ¬ p < L.length) :
    Calls Tryz.prog 105 #[.pointer (some ⟨R, 0, none⟩)] w fun e w' => e = .returned (.bool false) ∧ Below w.heap.size w w' := by
  have c0 := h.c0
  have c1 := h.c1
  have c3 := h.c3
  have d1 : decide (p < L.length) = false := decide_eq_false ho
  clear h ho
  go_enter Tryz.func105, Tryz.ntmps105
  go_wp2_with fail
  go_quiet (fail)
  go_wp2_with fail
  go_ret
  exact ⟨rfl, below_drewN (Below.refl _ _) _⟩
set_option maxHeartbeats 1000000 in
set_option maxRecDepth 10000 in
theorem rend_on {w : World} {R : Nat} {A : Option Addr} {cap : Nat} {L : List Tok} {E p : Nat} {x : Int} (_hL : L.length ≤ 1000) (h : RC w R A cap L E p false x) (hk : TK w R A L) {t : Tok} (ht : L[p]? = some t) :
    Calls Tryz.prog 105 #[.pointer (some ⟨R, 0, none⟩)] w fun e w' => e = .returned (.bool (t.kind == 2 || t.kind == 3)) ∧ Below w.heap.size w w' := by
  have c0 := h.c0
  have c1 := h.c1
  have c3 := h.c3
  obtain ⟨g, rfl, _, _, k0, _, _, _, _, _⟩ := hk.at ht
  have hlt : p < L.length := (List.getElem?_eq_some_iff.1 ht).1
  have d1 : decide (p < L.length) = true := decide_eq_true hlt
  clear h hk ht
  cases h2 : (t.kind == 2) with
  | true =>
    go_enter Tryz.func105, Tryz.ntmps105
    go_wp2_with fail
    go_quiet (fail)
    go_wp2_with fail
    go_ret
    exact ⟨rfl, below_drewN (Below.refl _ _) _⟩
  | false =>
    go_enter Tryz.func105, Tryz.ntmps105
    go_wp2_with fail
    go_quiet (fail)
    go_wp2_with fail
    go_ret
    exact ⟨rfl, below_drewN (Below.refl _ _) _⟩
theorem rend_any {w : World} {R : Nat} {A : Option Addr} {cap : Nat} {L : List Tok} {E : Nat} {st : St} (hL : L.length ≤ 1000) (h : RS w R A cap L E st) (hk : TK w R A L) :
    Calls Tryz.prog 105 #[.pointer (some ⟨R, 0, none⟩)] w fun e w' => e = .returned (.bool (endS L st)) ∧ Below w.heap.size w w' := by
  cases st with
  | out x => obtain ⟨p, h⟩ := h; exact rend_bad h
  | run p =>
    obtain ⟨hp, x, h⟩ := h
    by_cases ho : p < L.length
    · have ht : L[p]? = some (L[p]'ho) := List.getElem?_eq_getElem ho
      have e1 : endS L (.run p) = ((L[p]'ho).kind == 2 || (L[p]'ho).kind == 3) := by show isEnd L p = _; unfold isEnd; rw [ht]
      rw [e1]
      exact rend_on hL h hk ht
    · have e1 : endS L (.run p) = false := by show isEnd L p = _; unfold isEnd; rw [List.getElem?_eq_none (by omega)]
      rw [e1]
      exact rend_off h ho
end Go.Proofs.YtahdlijkohmdfaaGreatDoor
/- The document's own text of a tree: parts, and leaves. -/
namespace Go.Proofs.YtahdlijkohmdfaaGreatDoor
open Go.RowKit

def TextC (t : Tr) : Prop := (txT t).length ≤ 140737488355328 → ∀ (w : World) (A : Option Addr) (ca : Nat), KV w (fun _ => True) t A →
  Calls Tryz.prog 28 #[.agg #[.int .i64 t.kind, .int .i64 t.num, .int .i64 t.c1, .int .i64 t.r1, .int .i64 t.c2, .int .i64 t.r2, .string ⟨t.word.toArray⟩, .slice A t.kids.length ca]] w fun e w' => e = .returned (.string ⟨(txT t).toArray⟩) ∧ Below w.heap.size w w'
theorem brk_bytes (l : List UInt8) : ((⟨#[40]⟩ : ByteArray) ++ ⟨l.toArray⟩ ++ (⟨#[41]⟩ : ByteArray)) = ⟨(40 :: (l ++ [41])).toArray⟩ := by
  apply ByteArray.ext; simp [ByteArray.data_append]
set_option maxHeartbeats 1000000 in
set_option maxRecDepth 10000 in
theorem rwithin_plain (t : Tr) (hT : TextC t) (hlen : t.kids.length ≤ maxLen) (hl : (txT t).length ≤ 140737488355328) (m : Int) (h4 : (t.kind == 4) = false) (w : World) (A : Option Addr) (ca : Nat) (hA : KV w (fun _ => True) t A) :
    Calls Tryz.prog 52 #[.agg #[.int .i64 t.kind, .int .i64 t.num, .int .i64 t.c1, .int .i64 t.r1, .int .i64 t.c2, .int .i64 t.r2, .string ⟨t.word.toArray⟩, .slice A t.kids.length ca], .int .i64 m] w fun e w' => e = .returned (.string ⟨(txT t).toArray⟩) ∧ Below w.heap.size w w' := by
  have h0 : ∀ ob, Below w.heap.size w (w.alloc ob) := fun ob => (Below.refl _ _).alloc (Nat.le_refl _) ob
  have H := Lib.hid (fun ob => hT hl (w.alloc ob) A ca (hA.kept (Kept.of_below (h0 ob))))
  unfold maxLen at hlen
  have hsz : (⟨(txT t).toArray⟩ : ByteArray).size ≤ 140737488355328 := by simpa [ByteArray.size] using hl
  generalize (⟨(txT t).toArray⟩ : ByteArray) = S at *
  clear hT hA h0 hl
  go_enter Tryz.func52, Tryz.ntmps52
  go_wp2_with fail
  refine (H.out _).mono ?_; rintro e w1 ⟨rfl, b1⟩
  have k10 := keep_fresh b1 0 (v := .int .i64 t.kind) rfl
  have k16 := keep_fresh b1 6 (v := .string ⟨t.word.toArray⟩) rfl
  have h1 : Below w.heap.size w w1 := ((Below.refl _ _).alloc (Nat.le_refl _) _).trans (b1.mono (by simp))
  clear b1
  go_wp2_with fail
  go_ret
  exact ⟨rfl, h1⟩
set_option maxHeartbeats 1000000 in
set_option maxRecDepth 10000 in
theorem rwithin_op (t : Tr) (hT : TextC t) (hlen : t.kids.length ≤ maxLen) (hl : (txT t).length ≤ 140737488355328) (m : Int) (h4 : (t.kind == 4) = true) (b : Bool) (hb : decide ((lvl t.word : Int) < m) = b) (w : World) (A : Option Addr) (ca : Nat) (hA : KV w (fun _ => True) t A) :
    Calls Tryz.prog 52 #[.agg #[.int .i64 t.kind, .int .i64 t.num, .int .i64 t.c1, .int .i64 t.r1, .int .i64 t.c2, .int .i64 t.r2, .string ⟨t.word.toArray⟩, .slice A t.kids.length ca], .int .i64 m] w fun e w' => e = .returned (.string (if b = true then (⟨#[40]⟩ : ByteArray) ++ ⟨(txT t).toArray⟩ ++ (⟨#[41]⟩ : ByteArray) else ⟨(txT t).toArray⟩)) ∧ Below w.heap.size w w' := by
  have h0 : ∀ ob, Below w.heap.size w (w.alloc ob) := fun ob => (Below.refl _ _).alloc (Nat.le_refl _) ob
  have H := Lib.hid (fun ob => hT hl (w.alloc ob) A ca (hA.kept (Kept.of_below (h0 ob))))
  have HL := Lib.hid (fun w => rLevel_any ⟨t.word.toArray⟩ w)
  have hw : (⟨t.word.toArray⟩ : ByteArray).data.toList = t.word := by simp
  rw [hw] at HL
  have hlv := lvl_le t.word
  unfold maxLen at hlen
  have hsz : (⟨(txT t).toArray⟩ : ByteArray).size ≤ 140737488355328 := by simpa [ByteArray.size] using hl
  generalize (⟨(txT t).toArray⟩ : ByteArray) = S at *
  clear hT hA h0 hl
  cases b with
  | true =>
    go_enter Tryz.func52, Tryz.ntmps52
    go_wp2_with fail
    refine (H.out _).mono ?_; rintro e w1 ⟨rfl, b1⟩
    have k10 := keep_fresh b1 0 (v := .int .i64 t.kind) rfl
    have k16 := keep_fresh b1 6 (v := .string ⟨t.word.toArray⟩) rfl
    have h1 : Below w.heap.size w w1 := ((Below.refl _ _).alloc (Nat.le_refl _) _).trans (b1.mono (by simp))
    clear b1
    go_wp2_with fail
    refine Calls.mono (HL.out _) ?_; rintro e w2 ⟨rfl, rfl⟩
    have h2 := h1
    clear h1
    go_wp2_with fail
    go_ret
    exact ⟨rfl, h2⟩
  | false =>
    go_enter Tryz.func52, Tryz.ntmps52
    go_wp2_with fail
    refine (H.out _).mono ?_; rintro e w1 ⟨rfl, b1⟩
    have k10 := keep_fresh b1 0 (v := .int .i64 t.kind) rfl
    have k16 := keep_fresh b1 6 (v := .string ⟨t.word.toArray⟩) rfl
    have h1 : Below w.heap.size w w1 := ((Below.refl _ _).alloc (Nat.le_refl _) _).trans (b1.mono (by simp))
    clear b1
    go_wp2_with fail
    refine Calls.mono (HL.out _) ?_; rintro e w2 ⟨rfl, rfl⟩
    have h2 := h1
    clear h1
    go_wp2_with fail
    go_ret
    exact ⟨rfl, h2⟩
theorem rwithin_any (t : Tr) (hT : TextC t) (hlen : t.kids.length ≤ maxLen) (hl : (txT t).length ≤ 140737488355328) (m : Nat) (w : World) (A : Option Addr) (ca : Nat) (hA : KV w (fun _ => True) t A) :
    Calls Tryz.prog 52 #[.agg #[.int .i64 t.kind, .int .i64 t.num, .int .i64 t.c1, .int .i64 t.r1, .int .i64 t.c2, .int .i64 t.r2, .string ⟨t.word.toArray⟩, .slice A t.kids.length ca], .int .i64 (m : Int)] w fun e w' => e = .returned (.string ⟨(txW m t (txT t)).toArray⟩) ∧ Below w.heap.size w w' := by
  unfold txW
  cases h4 : (t.kind == 4) with
  | false =>
    rw [if_neg (fun h => by rw [h.1] at h4; cases h4)]
    exact rwithin_plain t hT hlen hl m h4 w A ca hA
  | true =>
    have e4 : t.kind = 4 := by simpa using h4
    have h := rwithin_op t hT hlen hl m h4 _ rfl w A ca hA
    by_cases hm : lvl t.word < m
    · rw [if_pos ⟨e4, hm⟩]
      rw [decide_eq_true (show (lvl t.word : Int) < (m : Int) by omega), if_pos rfl, brk_bytes] at h
      exact h
    · rw [if_neg (fun h => hm h.2)]
      rw [decide_eq_false (show ¬ (lvl t.word : Int) < (m : Int) by omega), if_neg (by decide)] at h
      exact h
end Go.Proofs.YtahdlijkohmdfaaGreatDoor
