/- Texts joined: SzA, TbA, CnA, PzB. -/
import Derived.Test.YtahdlijkohmdfaaGreatDoorMp08
import Derived.Deep.RegionWith
import Derived.Test.YtahdlijkohmdfaaGreatDoorMp09
import Derived.Test.YtahdlijkohmdfaaGreatDoorMp02
import Derived.Lib.ItoaLen
import Derived.Test.YtahdlijkohmdfaaGreatDoorMp22
import Derived.Test.YtahdlijkohmdfaaGreatDoorMp27
import Derived.Test.YtahdlijkohmdfaaGreatDoorMp28
import Derived.Test.YtahdlijkohmdfaaGreatDoorMp37
set_option linter.all false
set_option linter.unusedVariables false
set_option linter.unusedSimpArgs false
namespace Go.Proofs.YtahdlijkohmdfaaGreatDoor
open Go.RowKit

mutual
def szT : Tr → Int → Int
  | .mk _ _ _ _ _ _ _ ks, m => szL ks 1 m
def szL : List Tr → Int → Int → Int
  | [], n, _ => n
  | u :: r, n, m => if n ≤ m then szL r (n + szT u (m - n)) m else n
end
mutual
theorem szT_bound : ∀ (t : Tr) (m : Int), 0 ≤ m → 1 ≤ szT t m ∧ szT t m ≤ m + 1
  | .mk _ _ _ _ _ _ _ ks, m, h => by
    rw [szT]
    exact szL_bound ks 1 m (by omega) (by omega)
theorem szL_bound : ∀ (ks : List Tr) (n m : Int), 1 ≤ n → n ≤ m + 1 → 1 ≤ szL ks n m ∧ szL ks n m ≤ m + 1
  | [], n, m, h1, h2 => by rw [szL]; exact ⟨h1, h2⟩
  | u :: r, n, m, h1, h2 => by
    rw [szL]
    by_cases h : n ≤ m
    · rw [if_pos h]
      have := szT_bound u (m - n) (by omega)
      exact szL_bound r _ m (by omega) (by omega)
    · rw [if_neg h]; exact ⟨h1, h2⟩
end
theorem szT_eq (t : Tr) (m : Int) : szT t m = szL t.kids 1 m := by cases t; rw [szT]; rfl
def SizeC (t : Tr) : Prop := ∀ (m : Int), 0 ≤ m → m ≤ 400 → ∀ (w : World) (P : Nat → Prop) (A : Option Addr) (cap : Nat), KV w P t A →
  Calls Tryz.prog 25 #[.agg #[.int .i64 t.kind, .int .i64 t.num, .int .i64 t.c1, .int .i64 t.r1, .int .i64 t.c2, .int .i64 t.r2, .string ⟨t.word.toArray⟩, .slice A t.kids.length cap], .int .i64 m] w fun e w' => e = .returned (.int .i64 (szT t m)) ∧ Below w.heap.size w w'
set_option maxHeartbeats 1000000 in
set_option maxRecDepth 10000 in
theorem size_level (t : Tr) (hlen : t.kids.length ≤ maxLen) (ih : ∀ u ∈ t.kids, SizeC u) : SizeC t := by
  intro m m0 m4 w P A cap hk
  have HK := Lib.hid hk
  have HI := Lib.hid ih
  have HE := Lib.hid (szT_eq t m)
  unfold maxLen at hlen
  generalize szT t m = Z at *
  clear hk ih
  go_enter Tryz.func25, Tryz.ntmps25
  go_wp2_with fail
  go_loopw [5, 6] (fun vn vi wr => ∃ (i : Nat) (n : Int), i ≤ t.kids.length ∧ vn = .int .i64 n ∧ vi = .int .i64 (i : Int) ∧ (1 ≤ n ∧ n ≤ m + 1) ∧ Hid (Z = szL (t.kids.drop i) n m) ∧ Below w.heap.size w wr ∧ w.heap.size < wr.heap.size ∧ wr.cell? ⟨w.heap.size, 7, none⟩ = some (.slice A t.kids.length cap)) (fun _ vi _ => t.kids.length - (intOf vi).toNat)
  case atStart => exact ⟨0, 1, Nat.zero_le _, rfl, rfl, ⟨by omega, by omega⟩, HE, (Below.refl _ _).alloc (Nat.le_refl _) _, by simp, by simp [go_sem]⟩
  case round =>
    obtain ⟨i, n, hi, rfl, rfl, ⟨n1, n2⟩, HZ, hbel, hsz, c7⟩ := hrel
    by_cases hlt : i < t.kids.length
    · by_cases hnm : n ≤ m
      · have hu : t.kids[i]? = some (t.kids[i]'hlt) := List.getElem?_eq_getElem hlt
        obtain ⟨g, o, rfl⟩ := HK.out.addr hu
        obtain ⟨hg, A', cap', h8, hkv⟩ := HK.out.kidAt hbel hu
        have hb := szT_bound (t.kids[i]'hlt) (m - n) (by omega)
        have HC := Lib.hid (HI.out _ (List.getElem_mem hlt) (m - n) (by omega) (by omega) wr _ A' cap' hkv)
        have HN : Hid (Z = szL (t.kids.drop (i + 1)) (n + szT (t.kids[i]'hlt) (m - n)) m) := Lib.hid (by
          have h := HZ.out
          rw [List.drop_eq_getElem_cons hlt, szL, if_pos hnm] at h
          exact h)
        have dn : decide (n ≤ m) = true := decide_eq_true hnm
        generalize szT (t.kids[i]'hlt) (m - n) = q at *
        generalize t.kids[i]'hlt = u at *
        obtain ⟨q0, q1, q2, q3, q4, q5, q6, q7⟩ := h8
        have hgw : g < wr.heap.size := by have := hbel.size; omega
        clear hu hkv HZ
        go_wp2_with fail
        refine Calls.mono HC.out ?_; rintro e w2 ⟨rfl, b2⟩
        have h2 := hbel.trans (b2.mono hbel.size)
        have k2 := keep_cell b2 c7
        have z2 : w.heap.size < w2.heap.size := Nat.lt_of_lt_of_le hsz b2.size
        clear b2 q0 q1 q2 q3 q4 q5 q6 q7
        go_wp2_with fail
        go_roundw
        case rel => exact ⟨i + 1, n + q, by omega, by go_num, by go_num, ⟨by omega, by omega⟩, HN, h2, z2, k2⟩
        case measure => simp [intOf]; omega
      · have HN : Hid (Z = n) := Lib.hid (by
          have h := HZ.out
          rw [List.drop_eq_getElem_cons hlt, szL, if_neg hnm] at h
          exact h)
        have dn : decide (n ≤ m) = false := decide_eq_false hnm
        clear HZ
        go_wp2_with fail
        go_ret
        exact ⟨by rw [HN.out]; rfl, hbel⟩
    · have HN : Hid (Z = n) := Lib.hid (by
        have h := HZ.out
        rw [List.drop_eq_nil_of_le (by omega), szL] at h
        exact h)
      clear HZ
      go_wp2_with fail
      go_ret
      exact ⟨by rw [HN.out]; rfl, hbel⟩
theorem lsize_any : ∀ {t : Tr}, Wid t → SizeC t := by
  intro t hW
  induction hW with
  | @mk k n c r d s w ks hl hk ih => exact size_level _ hl ih
end Go.Proofs.YtahdlijkohmdfaaGreatDoor
namespace Go.Proofs.YtahdlijkohmdfaaGreatDoor
open Go.RowKit

mutual
def cntT : Tr → Nat
  | .mk _ _ _ _ _ _ _ ks => cntL ks + 1
def cntL : List Tr → Nat
  | [] => 0
  | t :: ts => cntT t + cntL ts
end
theorem szL_ge : ∀ (ks : List Tr) (n m : Int), 1 ≤ n → n ≤ m + 1 → n ≤ szL ks n m
  | [], n, m, _, _ => by rw [szL]; exact Int.le_refl _
  | u :: r, n, m, h1, h2 => by
    rw [szL]
    by_cases h : n ≤ m
    · rw [if_pos h]
      have := szT_bound u (m - n) (by omega)
      have := szL_ge r (n + szT u (m - n)) m (by omega) (by omega)
      omega
    · rw [if_neg h]; exact Int.le_refl _
mutual
theorem szT_cnt : ∀ (t : Tr) (m : Int), 0 ≤ m → szT t m ≤ m → szT t m = (cntT t : Int)
  | .mk _ _ _ _ _ _ _ ks, m, h, hm => by
    rw [szT] at hm ⊢
    rw [cntT, szL_cnt ks 1 m (by omega) (by omega) hm]
    omega
theorem szL_cnt : ∀ (ks : List Tr) (n m : Int), 1 ≤ n → n ≤ m + 1 → szL ks n m ≤ m → szL ks n m = n + (cntL ks : Int)
  | [], n, m, _, _, _ => by rw [szL, cntL]; omega
  | u :: r, n, m, h1, h2, hm => by
    rw [szL] at hm ⊢
    by_cases h : n ≤ m
    · rw [if_pos h] at hm ⊢
      have hb := szT_bound u (m - n) (by omega)
      have hg := szL_ge r (n + szT u (m - n)) m (by omega) (by omega)
      have hu := szT_cnt u (m - n) (by omega) (by omega)
      rw [szL_cnt r _ m (by omega) (by omega) hm, hu, cntL]
      omega
    · rw [if_neg h] at hm; omega
end
theorem txW_len (m : Nat) (t : Tr) (s : List UInt8) : (txW m t s).length ≤ s.length + 2 := by
  unfold txW; split <;> simp
theorem txJ_len : ∀ (l : List (List UInt8)) (B : Nat), (l.map List.length).sum ≤ B → (txJ l).length ≤ B + l.length + 1
  | [], B, _ => by simp [txJ]
  | [s], B, h => by simp [txJ] at *; omega
  | s :: t :: r, B, h => by
    rw [txJ]
    have h' : s.length + ((t :: r).map List.length).sum ≤ B := by simpa using h
    have := txJ_len (t :: r) (B - s.length) (by omega)
    simp only [List.length_append, List.length_cons] at *
    omega
theorem place_len' (c r : Int) : (placeText c r).length ≤ 100 := by
  unfold placeText
  by_cases h : rightB c r = true
  · rw [if_pos h]
    obtain ⟨_, _, r0, r1⟩ := (rightB_iff c r).1 h
    have := Lib.itoa_length_le (r + 1) (by omega) (by omega)
    simp; omega
  · rw [if_neg h]; simp
theorem tx_cnt {t : Tr} (hf : Fit t) : mayB t = true → (txT t).length + 10 ≤ 250 * cntT t := by
  induction hf with
  | @mk k n c r d s w ks hn hk ih =>
    intro h
    rw [mayB] at h
    rw [txT, cntT]
    by_cases h0 : k = 0
    · rw [if_pos h0]
      have := digits_len n.toNat (by omega)
      omega
    rw [if_neg h0] at h ⊢
    by_cases h1 : k = 1
    · rw [if_pos h1]
      have := place_len' c r
      omega
    rw [if_neg h1] at h ⊢
    by_cases h6 : k = 6
    · rw [if_pos h6]
      have := place_len' c r
      have := place_len' d s
      simp only [List.length_append, List.length_cons]
      omega
    rw [if_neg h6] at h ⊢
    by_cases h2 : k = 2
    · rw [if_neg (by omega), if_neg (by omega), if_neg (by omega)]
      simp
      omega
    rw [if_neg h2] at h
    by_cases h3 : k = 3
    · subst h3
      rw [if_pos rfl] at h ⊢
      simp [onlyB] at h
      obtain ⟨⟨_, _, _, hl⟩, ha⟩ := h
      obtain ⟨a, rfl⟩ := List.length_eq_one_iff.1 hl
      have A := all_mem ha a (by simp)
      have := ih a (by simp) A.1
      rw [txL_cons, txL_nil]
      have hw := txW_len 4 a (txT a)
      simp only [List.getD_cons_zero, List.length_cons, cntL]
      omega
    rw [if_neg h3] at h ⊢
    by_cases h4 : k = 4
    · subst h4
      rw [if_pos rfl] at h ⊢
      simp [onlyB] at h
      obtain ⟨⟨_, _, hl⟩, ha, hw⟩ := h
      obtain ⟨a, b, rfl⟩ : ∃ a b, ks = [a, b] := by
        match ks, hl with
        | [a, b], _ => exact ⟨a, b, rfl⟩
      have A := all_mem ha a (by simp)
      have B := all_mem ha b (by simp)
      have := ih a (by simp) A.1
      have := ih b (by simp) B.1
      rw [txL_cons, txL_cons, txL_nil]
      have hwa := txW_len (lvl w) a (txT a)
      have hwb := txW_len (lvl w + 1) b (txT b)
      have hwl : w.length ≤ 2 := by rcases lvl_cases hw with e | e | e | e | e | e | e | e | e | e <;> rw [e] <;> decide
      simp only [List.getD_cons_zero, List.getD_cons_succ, List.length_append, cntL]
      omega
    rw [if_neg h4] at h ⊢
    by_cases h5 : k = 5
    · subst h5
      rw [if_pos rfl] at h ⊢
      rw [Bool.and_eq_true, Bool.and_eq_true] at h
      obtain ⟨_, ha, hif⟩ := h
      have M := all_mem ha
      have hwl : w.length ≤ 5 := by
        by_cases e : w = [73, 70]
        · rw [e]; decide
        · rw [if_neg e] at hif
          split at hif
          · rename_i hc
            rcases hc with e | e | e | e <;> rw [e] <;> decide
          · cases hif
      have hs : ∀ (l : List Tr), (∀ t ∈ l, (txT t).length + 10 ≤ 250 * cntT t) → ((txL l).map List.length).sum + 10 * l.length ≤ 250 * cntL l ∧ (txL l).length = l.length := by
        intro l
        induction l with
        | nil => intro _; rw [txL_nil, cntL]; simp
        | cons u r ihr =>
          intro hu
          have h1 := hu u (by simp)
          have h2 := ihr fun t ht => hu t (by simp [ht])
          rw [txL_cons, cntL]
          simp only [List.map_cons, List.sum_cons, List.length_cons]
          omega
      have hk2 := hs ks fun t ht => ih t ht (M t ht).1
      have := txJ_len (txL ks) _ (Nat.le_refl _)
      simp only [List.length_append, List.length_cons]
      omega
    rw [if_neg h5] at h
    cases h
theorem tx_short {t : Tr} (hf : Fit t) (hm : mayB t = true) (h : szT t 400 ≤ 400) : (txT t).length ≤ 140737488355328 := by
  have h1 := szT_cnt t 400 (by decide) h
  have h2 := tx_cnt hf hm
  omega
end Go.Proofs.YtahdlijkohmdfaaGreatDoor
namespace Go.Proofs.YtahdlijkohmdfaaGreatDoor

def GivC (lo : Nat) (o : Option Res) : Prop := ∀ t q, o = some (.ok t q) → cntT t + lo ≤ q
theorem GivC.ok {lo q : Nat} {t : Tr} (h : cntT t + lo ≤ q) : GivC lo (some (.ok t q)) := fun _ _ e => by cases e; exact h
theorem GivC.bad {lo w : Nat} : GivC lo (some (.bad w)) := fun _ _ e => by cases e
theorem GivC.next {lo lo' : Nat} {a : Option Res} {f : Tr → Nat → Option Res} (h : GivC lo a) (hf : ∀ t q, cntT t + lo ≤ q → GivC lo' (f t q)) : GivC lo' (Res.next a f) := fun t q e => by
  cases a with
  | none => cases e
  | some r =>
    cases r with
    | ok u p => exact hf u p (h u p rfl) t q e
    | bad w => cases e
theorem GivC.must {lo : Nat} {L : List Tok} {E p : Nat} {s : List UInt8} {f : Nat → Option Res} (hf : GivC lo (f (p + 1))) : GivC lo (mustF L E p s f) := by
  unfold mustF
  split
  · exact hf
  · exact .bad
theorem cnt_leaf (k n c r d s : Int) (w : List UInt8) : cntT (.mk k n c r d s w []) = 1 := by rw [cntT, cntL]
theorem cntL_snoc : ∀ (ks : List Tr) (u : Tr), cntL (ks ++ [u]) = cntL ks + cntT u
  | [], u => by simp only [List.nil_append, cntL]; omega
  | t :: ts, u => by simp only [List.cons_append]; rw [cntL, cntL, cntL_snoc ts u]; omega
structure CAll (L : List Tok) (E k : Nat) : Prop where
  line : ∀ lev p, GivC p (lineF L E k lev p)
  rest : ∀ lev out p lo, cntT out + lo ≤ p → GivC lo (restF L E k lev out p)
  pref : ∀ p, GivC p (prefF L E k p)
  oper : ∀ p, GivC p (operF L E k p)
  items : ∀ w acc p lo, cntL acc + lo + 1 ≤ p → GivC lo (itemsF L E k w acc p)
  item : ∀ c p, GivC p (itemF L E k c p)
theorem c_all (L : List Tok) (E : Nat) : ∀ k, CAll L E k
  | 0 => by
    constructor <;> intros <;> first | (rw [lineF]; intro _ _ h; cases h) | (rw [restF]; intro _ _ h; cases h) | (rw [prefF]; intro _ _ h; cases h) | (rw [operF]; intro _ _ h; cases h) | (rw [itemsF]; intro _ _ h; cases h) | (rw [itemF]; intro _ _ h; cases h)
  | k + 1 => by
    have I := c_all L E k
    have leaf : ∀ (a n c r d s : Int) (p q : Nat), p + 1 ≤ q → GivC p (some (.ok (.mk a n c r d s [] []) q)) := fun a n c r d s p q h => .ok (by rw [cnt_leaf]; omega)
    constructor
    · intro lev p
      simp only [lineF]
      split
      · exact I.pref p
      · exact (I.line _ _).next fun t q h => I.rest lev t q p h
    · intro lev out p lo h
      simp only [restF]
      split
      · refine (I.line _ _).next fun t q ht => I.rest lev _ q lo ?_
        show cntT (.mk _ _ _ _ _ _ _ [out, t]) + lo ≤ q
        rw [cntT, cntL, cntL, cntL]
        omega
      · exact .ok h
    · intro p
      simp only [prefF]
      split
      · refine (I.pref _).next fun t q h => .ok ?_
        show cntT (.mk _ _ _ _ _ _ _ [t]) + p ≤ q
        rw [cntT, cntL, cntL]
        omega
      · exact I.oper p
    · intro p
      simp only [operF]
      split
      · exact (I.line _ _).next fun t q h => .must (.ok (by omega))
      · split
        · exact .bad
        · rename_i t ht
          split
          · exact .bad
          · split
            · exact leaf _ _ _ _ _ _ _ _ (Nat.le_refl _)
            · split
              · exact leaf _ _ _ _ _ _ _ _ (Nat.le_refl _)
              · split
                · exact leaf _ _ _ _ _ _ _ _ (Nat.le_refl _)
                · refine .must ?_
                  split
                  · refine (I.line _ _).next fun a q ha => .must ((I.line _ _).next fun b q hb => .must ((I.line _ _).next fun c q hc => .must (.ok ?_)))
                    show cntT (.mk _ _ _ _ _ _ _ [a, b, c]) + p ≤ _
                    rw [cntT, cntL, cntL, cntL, cntL]
                    omega
                  · exact I.items t.text [] _ p (by rw [cntL]; omega)
    · intro w acc p lo h
      simp only [itemsF]
      refine (I.item _ _).next fun t q ht => ?_
      have hs := cntL_snoc acc t
      split
      · exact I.items w _ _ lo (by omega)
      · refine .must (.ok ?_)
        show cntT (.mk _ _ _ _ _ _ _ (acc ++ [t])) + lo ≤ _
        rw [cntT]
        omega
    · intro c p
      simp only [itemF]
      split
      · exact I.line 1 p
      · split
        · exact .bad
        · split
          · exact .bad
          · split
            · exact leaf _ _ _ _ _ _ _ _ (Nat.le_refl _)
            · refine .must ?_
              split
              · exact .bad
              · split
                · exact .bad
                · split
                  · exact leaf _ _ _ _ _ _ _ _ (by omega)
                  · exact leaf _ _ _ _ _ _ _ _ (by omega)
theorem parsed_short {l : List UInt8} {t : Tr} (h : parseL l = .good t) : (txT t).length ≤ 250000 := by
  obtain ⟨_, _, ht, _⟩ := parse_inv h
  have hp := parse_parsed h
  have h1 := (c_all (ansL l) l.length _).line 1 0 t _ ht
  have h2 := tx_cnt hp.fit hp.may
  have h3 := ans_len l
  omega
end Go.Proofs.YtahdlijkohmdfaaGreatDoor
namespace Go.Proofs.YtahdlijkohmdfaaGreatDoor
open Go.RowKit

theorem rparse_goodB {s : ByteArray} {t : Tr} (hs : s.size ≤ 9223372036854775807) (h : parseL s.data.toList = .good t) (w : World) :
    Calls Tryz.prog 7 #[.string s] w fun e w' => ∃ A ca, e = .returned (.tuple #[.agg #[.int .i64 t.kind, .int .i64 t.num, .int .i64 t.c1, .int .i64 t.r1, .int .i64 t.c2, .int .i64 t.r2, .string ⟨t.word.toArray⟩, .slice A t.kids.length ca], .int .i64 0, .int .i64 0]) ∧ KV w' (fun _ => True) t A ∧ Below w.heap.size w w' := by
  refine (rparse_any s hs w).mono fun e w' hp => ?_
  rw [h] at hp
  obtain ⟨⟨A, ca, he, hk⟩, hb⟩ := hp
  exact ⟨A, ca, he, hk.imp fun _ _ => trivial, hb⟩
theorem rparse_failB {s : ByteArray} {a c : Int} (hs : s.size ≤ 9223372036854775807) (h : parseL s.data.toList = .fail a c) (w : World) :
    Calls Tryz.prog 7 #[.string s] w fun e w' => e = .returned (.tuple #[.agg #[.int .i64 0, .int .i64 0, .int .i64 0, .int .i64 0, .int .i64 0, .int .i64 0, .string ⟨#[]⟩, .slice none 0 0], .int .i64 a, .int .i64 c]) ∧ Below w.heap.size w w' := by
  refine (rparse_any s hs w).mono fun e w' hp => ?_
  rw [h] at hp
  exact hp
theorem parse_full {l : List UInt8} (h : 200 < l.length) : parseL l = .fail 0 3 := by
  have e2 : ansP l = 0 := if_pos h
  have e3 : ansE l = 3 := if_pos h
  unfold parseL
  rw [e3, e2, if_pos (by decide)]
def tr0 : Tr := .mk 0 0 0 0 0 0 [] []
theorem wid_tr0 : Wid tr0 := .mk (Nat.zero_le _) fun t h => by cases h
theorem rsame_zero (w : World) : Calls Tryz.prog 8 #[.agg #[.int .i64 0, .int .i64 0, .int .i64 0, .int .i64 0, .int .i64 0, .int .i64 0, .string ⟨#[]⟩, .slice none 0 0], .agg #[.int .i64 0, .int .i64 0, .int .i64 0, .int .i64 0, .int .i64 0, .int .i64 0, .string ⟨#[]⟩, .slice none 0 0]] w fun e w' => e = .returned (.bool true) ∧ Below w.heap.size w w' :=
  (rsame_any 1 tr0 tr0 (by unfold tr0; rw [deepT, deepL]; exact Nat.le_refl _) wid_tr0 wid_tr0 w (fun _ => True) (fun _ => True) none none 0 0 (KV.mk (.inl rfl)) (KV.mk (.inl rfl))).mono fun e w' ⟨⟨b, he, hb⟩, h⟩ => ⟨by rw [he, hb.2 rfl], h⟩
theorem rsame_selfP {t : Tr} (h : Parsed t) (w : World) (A B : Option Addr) (ca cb : Nat) (hA : KV w (fun _ => True) t A) (hB : KV w (fun _ => True) t B) :
    Calls Tryz.prog 8 #[.agg #[.int .i64 t.kind, .int .i64 t.num, .int .i64 t.c1, .int .i64 t.r1, .int .i64 t.c2, .int .i64 t.r2, .string ⟨t.word.toArray⟩, .slice A t.kids.length ca], .agg #[.int .i64 t.kind, .int .i64 t.num, .int .i64 t.c1, .int .i64 t.r1, .int .i64 t.c2, .int .i64 t.r2, .string ⟨t.word.toArray⟩, .slice B t.kids.length cb]] w fun e w' => e = .returned (.bool true) ∧ Below w.heap.size w w' :=
  (rsame_any 16 t t h.deep h.wid h.wid w _ _ A B ca cb hA hB).mono fun e w' ⟨⟨b, he, hb⟩, h⟩ => ⟨by rw [he, hb.2 rfl], h⟩
set_option maxHeartbeats 4000000 in
set_option maxRecDepth 10000 in
theorem parses_long (s : ByteArray) (hs : decide ((300 : Int) < (s.size : Int)) = true) (hs2 : s.size ≤ 9223372036854775807) (w : World) (hE : EnvP w) (hI : EnvI w) :
    Calls Tryz.prog 3 #[.string s] w (Yes w) := by
  have H := Lib.hid (salive w hE hI)
  clear hE hI
  go_enter Tryz.func3, Tryz.ntmps3
  go_wp2_with fail
  refine H.out.mono ?_; rintro e w1 ⟨rfl, b1⟩
  go_wp2_with fail
  go_ret
  exact ⟨rfl, b1⟩
set_option maxHeartbeats 4000000 in
set_option maxRecDepth 10000 in
theorem parses_fail (s : ByteArray) (hs : decide ((300 : Int) < (s.size : Int)) = false) (hs2 : s.size ≤ 300) {a c : Int} (h : parseL s.data.toList = .fail a c) (w : World) (hE : EnvP w) (hI : EnvI w) :
    Calls Tryz.prog 3 #[.string s] w (Yes w) := by
  have hc := fail_ne h
  have HE := Lib.hid hE
  have HI := Lib.hid hI
  have P1 := Lib.hid (fun w => parse_failB (s := s) (by omega) h w)
  have P2 := Lib.hid (fun w => rparse_failB (s := s) (by omega) h w)
  have na : (a != a) = false := neq_self' _
  have nc : (c != c) = false := neq_self' _
  clear hE hI h
  go_enter Tryz.func3, Tryz.ntmps3
  go_wp2_with fail
  refine (P1.out _ HE.out).mono ?_; rintro e w1 ⟨rfl, b1⟩
  have H1 := Lib.hid (belowAlloc b1 b1.size (vT 0 0 0 0 0 0 ⟨#[]⟩ none 0 0))
  have c1 : Hid (Here (w1.alloc (vT 0 0 0 0 0 0 ⟨#[]⟩ none 0 0)) w1.heap.size tr0 none 0) := Lib.hid (Here.new w1 tr0 none 0)
  clear b1
  unfold vT at H1 c1
  go_wp2_with fail
  refine (P2.out _).mono ?_; rintro e w2 ⟨rfl, b2⟩
  have H2 := Lib.hid (belowAlloc (H1.out.trans (b2.mono H1.out.size)) (Nat.le_trans H1.out.size b2.size) (vT 0 0 0 0 0 0 ⟨#[]⟩ none 0 0))
  have c2 : Hid (Here (w2.alloc (vT 0 0 0 0 0 0 ⟨#[]⟩ none 0 0)) w1.heap.size tr0 none 0) := Lib.hid ((c1.out.below b2).alloc _)
  have d2 : Hid (Here (w2.alloc (vT 0 0 0 0 0 0 ⟨#[]⟩ none 0 0)) w2.heap.size tr0 none 0) := Lib.hid (Here.new w2 tr0 none 0)
  clear b2 H1 c1
  unfold vT at H2 c2 d2
  obtain ⟨c0, c1, c2, c3, c4, c5, c6, c7⟩ := c2.out
  obtain ⟨d0, d1, d2, d3, d4, d5, d6, d7⟩ := d2.out
  dsimp only [tr0, Tr.kind, Tr.num, Tr.c1, Tr.r1, Tr.c2, Tr.r2, Tr.word, Tr.kids, List.length_nil] at c0 c1 c2 c3 c4 c5 c6 c7 d0 d1 d2 d3 d4 d5 d6 d7
  go_wp2_with fail
  refine (rsame_zero _).mono ?_; rintro e w3 ⟨rfl, b3⟩
  have H3 := Lib.hid (H2.out.trans (b3.mono H2.out.size))
  clear b3 H2 c0 c1 c2 c3 c4 c5 c6 c7 d0 d1 d2 d3 d4 d5 d6 d7
  go_wp2_with fail
  refine (salive _ (HE.out.below H3.out) (HI.out.below H3.out)).mono ?_; rintro e w4 ⟨rfl, b4⟩
  have H4 := Lib.hid (H3.out.trans (b4.mono H3.out.size))
  clear b4 H3
  go_wp2_with fail
  go_ret
  exact ⟨rfl, H4.out⟩
set_option maxHeartbeats 4000000 in
set_option maxRecDepth 10000 in
theorem parses_big (s : ByteArray) (hs : decide ((300 : Int) < (s.size : Int)) = false) (hs2 : s.size ≤ 300) {t : Tr} (h : parseL s.data.toList = .good t) (hZ : decide ((200 : Int) < ((⟨(printP t).toArray⟩ : ByteArray).size : Int)) = true) (w : World) (hE : EnvP w) (hI : EnvI w) :
    Calls Tryz.prog 3 #[.string s] w (Yes w) := by
  have pt := parse_parsed h
  have lt := pt.wid.len
  have hr := pt.right
  have hpl := parsed_short h
  have HE := Lib.hid hE
  have HI := Lib.hid hI
  have P1 := Lib.hid (fun w => parse_goodB (s := s) (by omega) h w)
  have P2 := Lib.hid (fun w => rparse_goodB (s := s) (by omega) h w)
  have hZ2 : (⟨(printP t).toArray⟩ : ByteArray).size ≤ 250000 := by rw [← len_of]; unfold printP; rw [if_pos hr]; simpa using hpl
  have PA := Lib.hid (fun w A ca hA hI hS => sprint_any t pt.wid pt.fit (Nat.le_trans hpl (by decide)) w A ca hA hI hS)
  have SR := Lib.hid (fun w A B ca cb hA hB => rsame_selfP pt w A B ca cb hA hB)
  unfold tv at PA
  have P3 := Lib.hid (fun w => parse_failB (s := ⟨(printP t).toArray⟩) (a := 0) (c := 3) (by omega) (parse_full (by have := of_decide_eq_true hZ; rw [len_of]; omega)) w)
  generalize (⟨(printP t).toArray⟩ : ByteArray) = Z at *
  clear hE hI h pt hr hpl
  unfold maxLen at lt
  go_enter Tryz.func3, Tryz.ntmps3
  go_wp2_with fail
  refine (P1.out _ HE.out).mono ?_; rintro e w1 ⟨A, ca, rfl, ka, b1⟩
  have H1 := Lib.hid (belowAlloc b1 b1.size (valT t A ca))
  have S1 := ((stays_here w1.heap.size t A ca).and (stays_kv t A))
  have Q1 : Hid (Here (w1.alloc (valT t A ca)) w1.heap.size t A ca ∧ KV (w1.alloc (valT t A ca)) (fun _ => True) t A) := Lib.hid ⟨Here.new w1 t A ca, (stays_kv t A).al ka _⟩
  clear b1 ka
  unfold valT vT at H1 Q1
  go_wp2_with fail
  refine (P2.out _).mono ?_; rintro e w2 ⟨B, cb, rfl, kb, b2⟩
  have H2 := Lib.hid (belowAlloc (H1.out.trans (b2.mono H1.out.size)) (Nat.le_trans H1.out.size b2.size) (valT t B cb))
  have Q2 := Lib.hid (And.intro (S1.al (S1 _ _ Q1.out b2) (valT t B cb)) (And.intro (show Here (w2.alloc (valT t B cb)) w2.heap.size t B cb from Here.new w2 t B cb) ((stays_kv t B).al kb (valT t B cb))))
  clear b2 kb H1 Q1
  unfold valT vT at H2 Q2
  obtain ⟨c0, c1, c2, c3, c4, c5, c6, c7⟩ := Q2.out.1.1
  obtain ⟨d0, d1, d2, d3, d4, d5, d6, d7⟩ := Q2.out.2.1
  go_wp2_with fail
  refine (SR.out _ A B ca cb Q2.out.1.2 Q2.out.2.2).mono ?_; rintro e w3 ⟨rfl, b3⟩
  have H3 := Lib.hid (H2.out.trans (b3.mono H2.out.size))
  have Q3 := Lib.hid (S1 _ _ Q2.out.1 b3)
  clear b3 H2 Q2 c0 c1 c2 c3 c4 c5 c6 c7 d0 d1 d2 d3 d4 d5 d6 d7
  obtain ⟨c0, c1, c2, c3, c4, c5, c6, c7⟩ := Q3.out.1
  go_wp2_with fail
  refine (PA.out _ A ca Q3.out.2 (HI.out.below H3.out) ((HE.out.below H3.out).s)).mono ?_; rintro e w4 ⟨rfl, b4⟩
  have H4 := Lib.hid (H3.out.trans (b4.mono H3.out.size))
  have Q4 := Lib.hid (S1 _ _ Q3.out b4)
  clear b4 H3 Q3 c0 c1 c2 c3 c4 c5 c6 c7
  go_wp2_with fail
  refine (P3.out _ (HE.out.below H4.out)).mono ?_; rintro e w5 ⟨rfl, b5⟩
  have H5 := Lib.hid (belowAlloc (H4.out.trans (b5.mono H4.out.size)) (Nat.le_trans H4.out.size b5.size) zeroT)
  clear b5 H4 Q4
  unfold zeroT at H5
  go_wp2_with fail
  refine (salive _ (HE.out.below H5.out) (HI.out.below H5.out)).mono ?_; rintro e w6 ⟨rfl, b6⟩
  have H6 := Lib.hid (H5.out.trans (b6.mono H5.out.size))
  clear b6 H5
  go_wp2_with fail
  go_ret
  exact ⟨rfl, H6.out⟩
set_option maxHeartbeats 4000000 in
set_option maxRecDepth 10000 in
theorem parses_back (s : ByteArray) (hs : decide ((300 : Int) < (s.size : Int)) = false) (hs2 : s.size ≤ 300) {t : Tr} (h : parseL s.data.toList = .good t) (hZ : decide ((200 : Int) < ((⟨(printP t).toArray⟩ : ByteArray).size : Int)) = false) (w : World) (hE : EnvP w) (hI : EnvI w) :
    Calls Tryz.prog 3 #[.string s] w (Yes w) := by
  have pt := parse_parsed h
  have lt := pt.wid.len
  have hr := pt.right
  have hpl := parsed_short h
  have HE := Lib.hid hE
  have HI := Lib.hid hI
  have P1 := Lib.hid (fun w => parse_goodB (s := s) (by omega) h w)
  have P2 := Lib.hid (fun w => rparse_goodB (s := s) (by omega) h w)
  have hZ2 : (⟨(printP t).toArray⟩ : ByteArray).size ≤ 250000 := by rw [← len_of]; unfold printP; rw [if_pos hr]; simpa using hpl
  have PA := Lib.hid (fun w A ca hA hI hS => sprint_any t pt.wid pt.fit (Nat.le_trans hpl (by decide)) w A ca hA hI hS)
  have SR := Lib.hid (fun w A B ca cb hA hB => rsame_selfP pt w A B ca cb hA hB)
  unfold tv at PA
  have P3 := Lib.hid (fun w => parse_goodB (s := ⟨(printP t).toArray⟩) (t := t) (by omega) (print_back pt.fit hr (of_decide_eq_false hZ)) w)
  have RI := Lib.hid (fun w A ca hA hS => sright_any t pt.wid w (fun _ => True) A ca hA w.heap.size (Nat.le_refl _) hS)
  rw [hr] at RI
  generalize (⟨(printP t).toArray⟩ : ByteArray) = Z at *
  clear hE hI h pt hr hpl
  unfold maxLen at lt
  go_enter Tryz.func3, Tryz.ntmps3
  go_wp2_with fail
  refine (P1.out _ HE.out).mono ?_; rintro e w1 ⟨A, ca, rfl, ka, b1⟩
  have H1 := Lib.hid (belowAlloc b1 b1.size (valT t A ca))
  have S1 := ((stays_here w1.heap.size t A ca).and (stays_kv t A))
  have Q1 : Hid (Here (w1.alloc (valT t A ca)) w1.heap.size t A ca ∧ KV (w1.alloc (valT t A ca)) (fun _ => True) t A) := Lib.hid ⟨Here.new w1 t A ca, (stays_kv t A).al ka _⟩
  clear b1 ka
  unfold valT vT at H1 Q1
  go_wp2_with fail
  refine (P2.out _).mono ?_; rintro e w2 ⟨B, cb, rfl, kb, b2⟩
  have H2 := Lib.hid (belowAlloc (H1.out.trans (b2.mono H1.out.size)) (Nat.le_trans H1.out.size b2.size) (valT t B cb))
  have Q2 := Lib.hid (And.intro (S1.al (S1 _ _ Q1.out b2) (valT t B cb)) (And.intro (show Here (w2.alloc (valT t B cb)) w2.heap.size t B cb from Here.new w2 t B cb) ((stays_kv t B).al kb (valT t B cb))))
  clear b2 kb H1 Q1
  unfold valT vT at H2 Q2
  obtain ⟨c0, c1, c2, c3, c4, c5, c6, c7⟩ := Q2.out.1.1
  obtain ⟨d0, d1, d2, d3, d4, d5, d6, d7⟩ := Q2.out.2.1
  go_wp2_with fail
  refine (SR.out _ A B ca cb Q2.out.1.2 Q2.out.2.2).mono ?_; rintro e w3 ⟨rfl, b3⟩
  have H3 := Lib.hid (H2.out.trans (b3.mono H2.out.size))
  have Q3 := Lib.hid (S1 _ _ Q2.out.1 b3)
  clear b3 H2 Q2 c0 c1 c2 c3 c4 c5 c6 c7 d0 d1 d2 d3 d4 d5 d6 d7
  obtain ⟨c0, c1, c2, c3, c4, c5, c6, c7⟩ := Q3.out.1
  go_wp2_with fail
  refine (PA.out _ A ca Q3.out.2 (HI.out.below H3.out) ((HE.out.below H3.out).s)).mono ?_; rintro e w4 ⟨rfl, b4⟩
  have H4 := Lib.hid (H3.out.trans (b4.mono H3.out.size))
  have Q4 := Lib.hid (S1 _ _ Q3.out b4)
  clear b4 H3 Q3 c0 c1 c2 c3 c4 c5 c6 c7
  go_wp2_with fail
  refine (P3.out _ (HE.out.below H4.out)).mono ?_; rintro e w5 ⟨C, cc, rfl, kc, b5⟩
  have H5 := Lib.hid (belowAlloc (H4.out.trans (b5.mono H4.out.size)) (Nat.le_trans H4.out.size b5.size) (valT t C cc))
  have S5 := S1.and ((stays_here w5.heap.size t C cc).and (stays_kv t C))
  have Q5 := Lib.hid (And.intro (S1.al (S1 _ _ Q4.out b5) (valT t C cc)) (And.intro (show Here (w5.alloc (valT t C cc)) w5.heap.size t C cc from Here.new w5 t C cc) ((stays_kv t C).al kc (valT t C cc))))
  clear b5 kc H4 Q4
  unfold valT vT at H5 Q5
  obtain ⟨c0, c1, c2, c3, c4, c5, c6, c7⟩ := Q5.out.1.1
  obtain ⟨d0, d1, d2, d3, d4, d5, d6, d7⟩ := Q5.out.2.1
  go_wp2_with fail
  refine (SR.out _ A C ca cc Q5.out.1.2 Q5.out.2.2).mono ?_; rintro e w6 ⟨rfl, b6⟩
  have H6 := Lib.hid (H5.out.trans (b6.mono H5.out.size))
  have Q6 := Lib.hid (S5 _ _ Q5.out b6)
  clear b6 H5 Q5 c0 c1 c2 c3 c4 c5 c6 c7 d0 d1 d2 d3 d4 d5 d6 d7
  go_wp2_with fail
  refine (salive _ (HE.out.below H6.out) (HI.out.below H6.out)).mono ?_; rintro e w7 ⟨rfl, b7⟩
  have H7 := Lib.hid (H6.out.trans (b7.mono H6.out.size))
  have Q7 := Lib.hid (S5 _ _ Q6.out b7)
  clear b7 Q6 H6
  obtain ⟨d0, d1, d2, d3, d4, d5, d6, d7⟩ := Q7.out.2.1
  go_wp2_with fail
  refine (PA.out _ C cc Q7.out.2.2 (HI.out.below H7.out) ((HE.out.below H7.out).s)).mono ?_; rintro e w8 ⟨rfl, b8⟩
  have H8 := Lib.hid (H7.out.trans (b8.mono H7.out.size))
  have Q8 := Lib.hid (S5 _ _ Q7.out b8)
  clear b8 Q7 H7 d0 d1 d2 d3 d4 d5 d6 d7
  obtain ⟨c0, c1, c2, c3, c4, c5, c6, c7⟩ := Q8.out.1.1
  go_wp2_with fail
  refine (RI.out _ A ca Q8.out.1.2 ((HE.out.below H8.out).s)).mono ?_; rintro e w9 ⟨rfl, b9⟩
  have H9 := Lib.hid (H8.out.trans (b9.mono H8.out.size))
  clear b9 Q8 H8 c0 c1 c2 c3 c4 c5 c6 c7
  go_wp2_with fail
  go_ret
  exact ⟨rfl, H9.out⟩
theorem parses_any (s : ByteArray) (hs2 : s.size ≤ 9223372036854775807) (w : World) (hE : EnvP w) (hI : EnvI w) :
    Calls Tryz.prog 3 #[.string s] w (Yes w) := by
  cases hs : decide ((300 : Int) < (s.size : Int)) with
  | true => exact parses_long s hs hs2 w hE hI
  | false =>
    have s3 : s.size ≤ 300 := by have := of_decide_eq_false hs; omega
    cases h : parseL s.data.toList with
    | fail a c => exact parses_fail s hs s3 h w hE hI
    | good t =>
      cases hZ : decide ((200 : Int) < ((⟨(printP t).toArray⟩ : ByteArray).size : Int)) with
      | true => exact parses_big s hs s3 h hZ w hE hI
      | false => exact parses_back s hs s3 h hZ w hE hI
end Go.Proofs.YtahdlijkohmdfaaGreatDoor
