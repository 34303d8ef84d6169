/- Texts joined: StA, RdA, RdB, RdC. -/
import Derived.Test.YtahdlijkohmdfaaGreatDoorMp01
import Derived.OwnWalk
import Derived.Lib.AtoiErrMem
import Derived.Test.YtahdlijkohmdfaaGreatDoorMp07
import Derived.Test.YtahdlijkohmdfaaGreatDoorMp08
set_option linter.all false
set_option linter.unusedVariables false
set_option linter.unusedSimpArgs false
namespace Go.Proofs.YtahdlijkohmdfaaGreatDoor
open Go.RowKit

def SAt (w : World) (g o : Nat) (l : List ByteArray) : Prop := ∀ (i : Nat) (s : ByteArray), l[i]? = some s → w.cell? ⟨g, o + i, none⟩ = some (.string s)
def findS (s : ByteArray) : List ByteArray → Option Nat
  | [] => none
  | t :: r => if s = t then some 0 else (findS s r).map (· + 1)
def idxS (s : ByteArray) (l : List ByteArray) : Int := match findS s l with | some i => (i : Int) | none => -1
theorem find_hit {s : ByteArray} : ∀ {l : List ByteArray} {i : Nat}, (∀ (j : Nat) (t : ByteArray), j < i → l[j]? = some t → s ≠ t) → l[i]? = some s → findS s l = some i
  | [], i, _, h => by simp at h
  | t :: r, 0, _, h => by simp at h; subst h; simp [findS]
  | t :: r, i + 1, hn, h => by
    have h0 := hn 0 t (by omega) rfl
    have := find_hit (l := r) (i := i) (fun j u hj hu => hn (j + 1) u (by omega) (by simpa using hu)) (by simpa using h)
    simp [findS, h0, this]
theorem find_miss {s : ByteArray} : ∀ {l : List ByteArray}, (∀ (j : Nat) (t : ByteArray), j < l.length → l[j]? = some t → s ≠ t) → findS s l = none
  | [], _ => rfl
  | t :: r, hn => by
    have h0 := hn 0 t (by simp) rfl
    have := find_miss (l := r) (fun j u hj hu => hn (j + 1) u (by simp; omega) (by simpa using hu))
    simp [findS, h0, this]
theorem idx_hit {s : ByteArray} {l : List ByteArray} {i : Nat} (hn : ∀ (j : Nat) (t : ByteArray), j < i → l[j]? = some t → s ≠ t) (h : l[i]? = some s) : idxS s l = (i : Int) := by
  unfold idxS; rw [find_hit hn h]
theorem idx_miss {s : ByteArray} {l : List ByteArray} (hn : ∀ (j : Nat) (t : ByteArray), j < l.length → l[j]? = some t → s ≠ t) : idxS s l = -1 := by
  unfold idxS; rw [find_miss hn]
set_option maxHeartbeats 1000000 in
set_option maxRecDepth 10000 in
theorem sindex_any (w : World) (g o cap : Nat) (l : List ByteArray) (s : ByteArray) (hl : l.length ≤ 1000) (h : SAt w g o l) :
    Calls Tryz.prog 92 #[.slice (some ⟨g, o, none⟩) l.length cap, .string s] w fun e w' => e = .returned (.int .i64 (idxS s l)) ∧ w = w' := by
  have H := Lib.hid h
  clear h
  go_enter Tryz.func92, Tryz.ntmps92
  go_wp2_with fail
  go_loopw [8] (fun vi wr => ∃ i : Nat, i ≤ l.length ∧ vi = .int .i64 (i : Int) ∧ wr = w ∧ Hid (∀ (j : Nat) (t : ByteArray), j < i → l[j]? = some t → s ≠ t)) (fun vi _ => l.length - (intOf vi).toNat)
  case atStart => exact ⟨0, Nat.zero_le _, rfl, rfl, Lib.hid fun j t hj => by omega⟩
  case round =>
    obtain ⟨i, hi, rfl, rfl, HN⟩ := hrel
    by_cases hlt : i < l.length
    · have ht : l[i]? = some (l[i]'hlt) := List.getElem?_eq_getElem hlt
      have q := H.out i _ ht
      have HT := Lib.hid ht
      generalize l[i]'hlt = t at *
      clear ht
      by_cases he : s = t
      · subst he
        have he2 : (s.toList == s.toList) = true := by simp
        go_wp2_with fail
        go_ret
        exact ⟨ret_int (idx_hit HN.out HT.out).symm, by first | rfl | trivial⟩
      · have he2 : (s.toList == t.toList) = false := by
          rw [beq_eq_false_iff_ne, ByteArray.toList_eq, ByteArray.toList_eq]
          intro h
          apply he
          obtain ⟨⟨a⟩⟩ := s
          obtain ⟨⟨b⟩⟩ := t
          simp at h
          rw [h]
        go_wp2_with fail
        go_roundw
        case rel => exact ⟨i + 1, by omega, by go_num, by first | rfl | trivial, Lib.hid fun j u hj hu => by
          by_cases hji : j < i
          · exact HN.out j u hji hu
          · obtain rfl : j = i := by omega
            rw [HT.out] at hu; obtain rfl := Option.some.inj hu; exact he⟩
        case measure => simp [intOf]; omega
    · obtain rfl : i = l.length := by omega
      go_wp2_with fail
      go_ret
      exact ⟨ret_int (idx_miss HN.out).symm, by first | rfl | trivial⟩
set_option maxHeartbeats 1000000 in
set_option maxRecDepth 10000 in
theorem scontains_any (w : World) (g o cap : Nat) (l : List ByteArray) (s : ByteArray) (hl : l.length ≤ 1000) (h : SAt w g o l) :
    Calls Tryz.prog 73 #[.slice (some ⟨g, o, none⟩) l.length cap, .string s] w fun e w' => e = .returned (.bool (findS s l).isSome) ∧ w = w' := by
  have H := Lib.hid h
  clear h
  have hB : ∀ b, decide (0 ≤ idxS s l) = b → (findS s l).isSome = b := by
    intro b hb
    subst hb
    unfold idxS
    cases findS s l with
    | none => rfl
    | some i => simp
  have HB := Lib.hid (hB _ rfl)
  clear hB
  go_enter Tryz.func73, Tryz.ntmps73
  go_wp2_with fail
  refine (sindex_any w g o cap l s hl H.out).mono ?_; rintro e w1 ⟨rfl, rfl⟩
  go_wp2_with fail
  go_ret
  exact ⟨ret_bool HB.out.symm, by first | rfl | trivial⟩
def strL : Nat → List ByteArray
  | 0 => [⟨#[60]⟩, ⟨#[60, 61]⟩, ⟨#[61]⟩, ⟨#[60, 62]⟩, ⟨#[62, 61]⟩, ⟨#[62]⟩]
  | 1 => [⟨#[43]⟩, ⟨#[45]⟩]
  | 2 => [⟨#[42]⟩, ⟨#[47]⟩]
  | _ => []
def Strs (R B : Nat) (w : World) : Prop := (R ≠ 0 ∧ 0 < B) ∧ ∀ i : Nat, i < 3 → ∃ g o cap, (g ≠ R ∧ g < B) ∧ w.cell? ⟨0, i, none⟩ = some (.slice (some ⟨g, o, none⟩) (strL i).length cap) ∧ SAt w g o (strL i)
theorem Strs.keep {R B : Nat} {w w' : World} (h : Strs R B w) (hk : ∀ (p : Addr) (v : Value), p.block ≠ R → p.block < B → w.cell? p = some v → w'.cell? p = some v) : Strs R B w' := by
  refine ⟨h.1, fun i hi => ?_⟩
  obtain ⟨g, o, cap, hg, hc, hs⟩ := h.2 i hi
  exact ⟨g, o, cap, hg, hk _ _ (Ne.symm h.1.1) h.1.2 hc, fun j s hj => hk _ _ hg.1 hg.2 (hs j s hj)⟩
def strV (s : ByteArray) : Int := if (findS s (strL 0)).isSome = true then 0 else if (findS s (strL 1)).isSome = true then 1 else if (findS s (strL 2)).isSome = true then 2 else -1
set_option maxHeartbeats 1000000 in
set_option maxRecDepth 10000 in
theorem strength_any (R B : Nat) (w : World) (s : ByteArray) (h : Strs R B w) :
    Calls Tryz.prog 41 #[.string s] w fun e w' => e = .returned (.int .i64 (strV s)) ∧ w = w' := by
  obtain ⟨_, h⟩ := h
  have H := Lib.hid h
  clear h
  go_enter Tryz.func41, Tryz.ntmps41
  go_wp2_with fail
  go_loopw [4] (fun vi wr => ∃ i : Nat, i ≤ 3 ∧ vi = .int .i64 (i : Int) ∧ wr = w ∧ Hid (∀ j : Nat, j < i → (findS s (strL j)).isSome = false)) (fun vi _ => 3 - (intOf vi).toNat)
  case atStart => exact ⟨0, by omega, rfl, rfl, Lib.hid fun j hj => by omega⟩
  case round =>
    obtain ⟨i, hi, rfl, rfl, HN⟩ := hrel
    by_cases hlt : i < 3
    · obtain ⟨g, o, cap, _, hc, hs⟩ := H.out i hlt
      have hll : (strL i).length ≤ 1000 := by
        match i, hlt with
        | 0, _ => decide
        | 1, _ => decide
        | 2, _ => decide
      have HC := Lib.hid (scontains_any wr g o cap (strL i) s hll hs)
      have hV : Hid ((findS s (strL i)).isSome = true → strV s = (i : Int)) := Lib.hid fun h => by
        unfold strV
        match i, hlt, h with
        | 0, _, h => rw [if_pos h]; rfl
        | 1, _, h => rw [if_neg (by rw [HN.out 0 (by omega)]; decide), if_pos h]; rfl
        | 2, _, h => rw [if_neg (by rw [HN.out 0 (by omega)]; decide), if_neg (by rw [HN.out 1 (by omega)]; decide), if_pos h]; rfl
      generalize hb : (findS s (strL i)).isSome = b at *
      have HB := Lib.hid hb
      clear hb hll hs
      cases b with
      | true =>
        go_wp2_with fail
        refine HC.out.mono ?_; rintro e w1 ⟨rfl, rfl⟩
        go_wp2_with fail
        go_ret
        exact ⟨ret_int (hV.out (by first | rfl | trivial)).symm, by first | rfl | trivial⟩
      | false =>
        go_wp2_with fail
        refine HC.out.mono ?_; rintro e w1 ⟨rfl, rfl⟩
        go_wp2_with fail
        go_roundw
        case rel => exact ⟨i + 1, by omega, by go_num, by first | rfl | trivial, Lib.hid fun j hj => by
          by_cases hji : j < i
          · exact HN.out j hji
          · obtain rfl : j = i := by omega
            exact HB.out⟩
        case measure => simp [intOf]; omega
    · obtain rfl : i = 3 := by omega
      have hV : strV s = -1 := by
        unfold strV
        rw [HN.out 0 (by omega), HN.out 1 (by omega), HN.out 2 (by omega)]; rfl
      go_wp2_with fail
      go_ret
      exact ⟨ret_int hV.symm, by first | rfl | trivial⟩
end Go.Proofs.YtahdlijkohmdfaaGreatDoor
namespace Go.Proofs.YtahdlijkohmdfaaGreatDoor
open Go.RowKit

def endTok (E : Nat) : Tok := ⟨0, 0, 0, 0, [], E⟩
def withEnd (L : List Tok) (E : Nat) : List Tok := L ++ [endTok E]
theorem withEnd_len (L : List Tok) (E : Nat) : (withEnd L E).length = L.length + 1 := by simp [withEnd]
structure RL (w : World) (R g cap B : Nat) (L : List Tok) (E p : Nat) : Prop where
  c : w.cell? ⟨R, 0, none⟩ = some (.slice (some ⟨g, p * 6, none⟩) (L.length + 1 - p) (cap - p))
  f : w.frozen? ⟨R, 0, none⟩ = false
  ne : g ≠ R
  lt : g < w.heap.size
  le : p ≤ L.length
  cp : L.length + 1 ≤ cap
  toks : AtT w g (withEnd L E)
  st : Strs R B w
  lo : R < B ∧ g < B ∧ B ≤ w.heap.size
theorem RL.rlt {w : World} {R g cap B : Nat} {L : List Tok} {E p : Nat} (h : RL w R g cap B L E p) : R < w.heap.size := Lib.lt_of_cell h.c
def tokAt (L : List Tok) (E p : Nat) : Tok := (withEnd L E).getD p (endTok E)
theorem tokAt_some {L : List Tok} {E p : Nat} (h : p ≤ L.length) : (withEnd L E)[p]? = some (tokAt L E p) := by
  have hl : p < (withEnd L E).length := by rw [withEnd_len]; omega
  unfold tokAt
  rw [List.getD_eq_getElem?_getD, List.getElem?_eq_getElem hl]; rfl
def tokV (t : Tok) : Value := .agg #[.int .i64 t.kind, .int .i64 t.num, .int .i64 t.col, .int .i64 t.row, .string ⟨t.text.toArray⟩, .int .i64 (t.frm : Int)]
theorem RL.keep {w w' : World} {R g cap B : Nat} {L : List Tok} {E p : Nat} (h : RL w R g cap B L E p) (hR : w'.heap[R]? = w.heap[R]?) (hg : w'.heap[g]? = w.heap[g]?) (hs : w.heap.size ≤ w'.heap.size) (hst : Strs R B w') : RL w' R g cap B L E p :=
  ⟨by rw [World.cell?_of_block (w := w) (a := ⟨R, 0, none⟩) hR]; exact h.c, by rw [World.frozen?_of_block (w := w) (a := ⟨R, 0, none⟩) hR]; exact h.f, h.ne, Nat.lt_of_lt_of_le h.lt hs, h.le, h.cp,
    fun i t hi => by
      obtain ⟨a, b, c, d, e, f⟩ := h.toks i t hi
      have k : ∀ o v, w.cell? ⟨g, o, none⟩ = some v → w'.cell? ⟨g, o, none⟩ = some v := fun o v hv => by rw [World.cell?_of_block (w := w) (a := ⟨g, o, none⟩) hg]; exact hv
      exact ⟨k _ _ a, k _ _ b, k _ _ c, k _ _ d, k _ _ e, k _ _ f⟩, hst, h.lo.1, h.lo.2.1, Nat.le_trans h.lo.2.2 hs⟩
theorem RL.below {w w' : World} {R g cap B : Nat} {L : List Tok} {E p : Nat} (h : RL w R g cap B L E p) (hb : Below w.heap.size w w') : RL w' R g cap B L E p :=
  h.keep (hb.block R h.rlt) (hb.block g h.lt) hb.size (h.st.keep fun _ _ _ _ hc => keep_cell hb hc)
theorem RL.go {w w' : World} {R g cap B : Nat} {L : List Tok} {E p q : Nat} (h : RL w R g cap B L E p) (hb : But R w w') (hq : q ≤ L.length) (hc : w'.cell? ⟨R, 0, none⟩ = some (.slice (some ⟨g, q * 6, none⟩) (L.length + 1 - q) (cap - q))) (hf : w'.frozen? ⟨R, 0, none⟩ = false) : RL w' R g cap B L E q :=
  ⟨hc, hf, h.ne, Nat.lt_of_lt_of_le h.lt hb.size, hq, h.cp, h.toks.but hb h.ne, h.st.keep fun _ _ hn _ hv => hb.cell hn hv, h.lo.1, h.lo.2.1, Nat.le_trans h.lo.2.2 hb.size⟩
theorem RL.far {w : World} {R g cap B : Nat} {L : List Tok} {E p : Nat} (h : RL w R g cap B L E p) {b : Nat} (hb : B ≤ b) (o : Nat) (u : Value) : RL (w.setCell ⟨b, o, none⟩ u) R g cap B L E p :=
  h.keep (Below.heap_setCell w ⟨b, o, none⟩ u R fun e => by have e2 : R = b := e; have := h.lo.1; omega) (Below.heap_setCell w ⟨b, o, none⟩ u g fun e => by have e2 : g = b := e; have := h.lo.2.1; omega) (by simp)
    (h.st.keep fun p v _ hl hv => by rw [World.cell?_setCell_far w ⟨b, o, none⟩ p u (by show b ≠ p.block; omega)]; exact hv)
theorem RL.alloc {w : World} {R g cap B : Nat} {L : List Tok} {E p : Nat} (h : RL w R g cap B L E p) (ob : Obj) : RL (w.alloc ob) R g cap B L E p := h.below ((Below.refl _ _).alloc (Nat.le_refl _) ob)
theorem RL.drewN {w : World} {R g cap B : Nat} {L : List Tok} {E p : Nat} (h : RL w R g cap B L E p) (n : Nat) : RL (w.drewN n) R g cap B L E p := h.below (below_drewN (Below.refl _ _) n)
theorem RL.drew {w : World} {R g cap B : Nat} {L : List Tok} {E p : Nat} (h : RL w R g cap B L E p) : RL w.drew R g cap B L E p := h.keep rfl rfl (Nat.le_refl _) (h.st.keep fun _ _ _ _ hv => hv)
set_option maxHeartbeats 1000000 in
set_option maxRecDepth 10000 in
theorem pnext_on {w : World} {R g cap B : Nat} {L : List Tok} {E p : Nat} (hL : L.length ≤ 1000) (hc : cap ≤ maxLen) (h : RL w R g cap B L E p) (hlt : p < L.length) :
    Calls Tryz.prog 33 #[.pointer (some ⟨R, 0, none⟩)] w fun e w' => e = .returned (tokV (tokAt L E p)) ∧ RL w' R g cap B L E (p + 1) ∧ But R w w' := by
  have HX := Lib.hid h
  have hx := h.c
  have hf := h.f
  have hp := h.le
  have hcp := h.cp
  have hne := h.ne
  have hgl := h.lt
  have hrl := h.rlt
  have hn : ¬ (cap - p = 1) := by omega
  obtain ⟨t0, t1, t2, t3, t4, t5⟩ := h.toks p _ (tokAt_some h.le)
  generalize tokAt L E p = t at *
  clear h
  go_enter Tryz.func33, Tryz.ntmps33
  go_wp2_with fail
  all_goals
    refine bodyPost_ret (v := tokV t) (by simp [results, Tryz.results33, go_sem, tokV]) rfl ⟨rfl, ?_, ?_⟩
    · have e1 : (p + 1) * 6 = p * 6 + 6 := by omega
      have e2 : L.length + 1 - (p + 1) = L.length + 1 - p - 1 := by omega
      have e3 : cap - (p + 1) = cap - p - 1 := by omega
      refine HX.out.go ?_ (by omega) ?_ ?_
      · repeat' (first | (with_reducible exact But.refl _ _) | (with_reducible refine But.setR ?_ _ _) | (with_reducible refine But.alloc ?_ _))
      · rw [e1, e2, e3]
        exact kc_alloc (kc_alloc (World.cell?_setCell_same' _ _ _ (by rw [hx]; rfl)) _) _
      · exact kf_alloc (kf_alloc (by rw [World.frozen?_setCell]; exact hf) (by simp; omega) _) (by simp; omega) _
    · repeat' (first | (with_reducible exact But.refl _ _) | (with_reducible refine But.setR ?_ _ _) | (with_reducible refine But.alloc ?_ _))
set_option maxHeartbeats 1000000 in
set_option maxRecDepth 10000 in
theorem pnext_end {w : World} {R g cap B : Nat} {L : List Tok} {E : Nat} (hL : L.length ≤ 1000) (hc : cap ≤ maxLen) (h : RL w R g cap B L E L.length) :
    Calls Tryz.prog 33 #[.pointer (some ⟨R, 0, none⟩)] w fun e w' => e = .returned (tokV (endTok E)) ∧ But R w w' := by
  have hx := h.c
  have hf := h.f
  have hcp := h.cp
  have hne := h.ne
  have hgl := h.lt
  have hrl := h.rlt
  have ht : tokAt L E L.length = endTok E := by simp [tokAt, withEnd, List.getD_eq_getElem?_getD]
  rw [show L.length + 1 - L.length = 1 from by omega] at hx
  obtain ⟨t0, t1, t2, t3, t4, t5⟩ := h.toks _ _ (tokAt_some h.le)
  rw [ht] at t0 t1 t2 t3 t4 t5
  clear ht
  generalize endTok E = t at *
  clear h
  go_enter Tryz.func33, Tryz.ntmps33
  go_wp2_with fail
  all_goals
    refine bodyPost_ret (v := tokV t) (by simp [results, Tryz.results33, go_sem, tokV]) rfl ⟨rfl, ?_⟩
    repeat' (first | (with_reducible exact But.refl _ _) | (with_reducible refine But.setR ?_ _ _) | (with_reducible refine But.alloc ?_ _))
theorem pnext_any {w : World} {R g cap B : Nat} {L : List Tok} {E p : Nat} (hL : L.length ≤ 1000) (hc : cap ≤ maxLen) (h : RL w R g cap B L E p) :
    Calls Tryz.prog 33 #[.pointer (some ⟨R, 0, none⟩)] w fun e w' => e = .returned (tokV (tokAt L E p)) ∧ (p < L.length → RL w' R g cap B L E (p + 1)) ∧ But R w w' := by
  by_cases hp : p < L.length
  · exact (pnext_on hL hc h hp).mono fun e w' ⟨a, b, c⟩ => ⟨a, fun _ => b, c⟩
  · have := h.le
    obtain rfl : p = L.length := by omega
    have ht : tokAt L E L.length = endTok E := by simp [tokAt, withEnd, List.getD_eq_getElem?_getD]
    exact (pnext_end hL hc h).mono fun e w' ⟨a, c⟩ => ⟨by rw [ht]; exact a, fun h => absurd h hp, c⟩
end Go.Proofs.YtahdlijkohmdfaaGreatDoor
namespace Go.Proofs.YtahdlijkohmdfaaGreatDoor
open Go.RowKit

structure GoodX (t : Tok) : Prop where
  good : GoodT t
  bare : t.kind ≤ 3 → t.text = []
def GoodXL (L : List Tok) : Prop := ∀ (p : Nat) (t : Tok), L[p]? = some t → GoodX t
theorem goodX_one {l : List UInt8} {p n : Nat} {t : Tok} (h : oneT l p = some (t, n)) : GoodX t := by
  refine ⟨good_one h, ?_⟩
  unfold oneT at h
  split at h
  · split at h
    · have h := (Prod.mk.inj (Option.some.inj h)).1; subst h; intro _; rfl
    · cases h
  · split at h
    · split at h
      · have h := (Prod.mk.inj (Option.some.inj h)).1; subst h; intro e; simp at e
      · split at h
        · have h := (Prod.mk.inj (Option.some.inj h)).1; subst h; intro _; rfl
        · split at h
          · have h := (Prod.mk.inj (Option.some.inj h)).1; subst h; intro _; rfl
          · cases h
    · split at h
      · have h := (Prod.mk.inj (Option.some.inj h)).1; subst h; intro _; rfl
      · split at h
        · cases h
        · have h := (Prod.mk.inj (Option.some.inj h)).1; subst h; intro e; simp at e
theorem goodX_lex {r : List UInt8} {o : Nat} {ts : List Tok} (h : Lex r o ts) : ∀ t ∈ ts, GoodX t := by
  induction h with
  | nil => intro t ht; cases ht
  | blank _ ih => exact ih
  | tok _ _ ho _ ih =>
    intro t ht
    rcases List.mem_cons.1 ht with rfl | ht
    · have G := goodX_one ho
      exact ⟨⟨G.good.num, G.good.place, G.good.word, G.good.kind⟩, G.bare⟩
    · exact ih t ht
theorem goodX_ans {l : List UInt8} (h : ansE l = 0) (hl : l.length ≤ 200) : GoodXL (ansL l) := fun _ t ht => goodX_lex (ans_ok h hl) t (List.mem_of_getElem? ht)
theorem GoodXL.good {L : List Tok} (h : GoodXL L) : GoodL L := fun p t ht => (h p t ht).good
theorem tokAt_in {L : List Tok} {E p : Nat} {t : Tok} (h : L[p]? = some t) : tokAt L E p = t := by
  have hl := (List.getElem?_eq_some_iff.1 h).1
  unfold tokAt withEnd
  rw [List.getD_eq_getElem?_getD, List.getElem?_append_left hl, h]; rfl
theorem tokAt_out {L : List Tok} {E p : Nat} (h : L[p]? = none) : tokAt L E p = endTok E := by
  have hl := List.getElem?_eq_none_iff.1 h
  unfold tokAt withEnd
  rw [List.getD_eq_getElem?_getD, List.getElem?_append_right hl]
  by_cases e : p - L.length = 0
  · rw [e]; rfl
  · rw [List.getElem?_eq_none (by simp; omega)]; rfl
theorem word_lvl {w : List UInt8} (h : wordB w = true) : lvl w = 0 := by
  rcases word_cases h with rfl | rfl | rfl | rfl | rfl <;> decide
theorem mark_text {L : List Tok} (hG : GoodXL L) (E p : Nat) {s : List UInt8} (hs : s ≠ []) (hw : wordB s = false) : ((tokAt L E p).text == s) = isMark L p s := by
  unfold isMark
  cases ht : L[p]? with
  | none => rw [tokAt_out ht]; simp [endTok]; exact fun e => hs e
  | some t =>
    rw [tokAt_in ht]
    show _ = (t.kind == 5 && t.text == s)
    by_cases h5 : t.kind = 5
    · simp [h5]
    · have hk := (hG p t ht).good.kind
      have e5 : (t.kind == 5) = false := by rw [beq_eq_false_iff_ne]; exact h5
      rw [e5, Bool.false_and, beq_eq_false_iff_ne]
      intro e
      by_cases h4 : t.kind = 4
      · have := (hG p t ht).good.word h4; rw [e, hw] at this; cases this
      · exact hs (by rw [← e]; exact (hG p t ht).bare (by omega))
theorem lvl_text {L : List Tok} (hG : GoodXL L) (E p : Nat) : lvl (tokAt L E p).text = levelAt L p := by
  unfold levelAt
  cases ht : L[p]? with
  | none => rw [tokAt_out ht]; rfl
  | some t =>
    rw [tokAt_in ht]
    show _ = if t.kind = 5 then lvl t.text else 0
    by_cases h5 : t.kind = 5
    · rw [if_pos h5]
    · rw [if_neg h5]
      have hk := (hG p t ht).good.kind
      by_cases h4 : t.kind = 4
      · exact word_lvl ((hG p t ht).good.word h4)
      · rw [(hG p t ht).bare (by omega)]; rfl
theorem end_kind (L : List Tok) (E p : Nat) : isEnd L p = ((tokAt L E p).kind == 2 || (tokAt L E p).kind == 3) := by
  unfold isEnd
  cases ht : L[p]? with
  | none => rw [tokAt_out ht]; rfl
  | some t => rw [tokAt_in ht]
theorem whr_tok (L : List Tok) (E p : Nat) : whr L E p = (tokAt L E p).frm := by
  unfold whr
  cases ht : L[p]? with
  | none => rw [tokAt_out ht]; rfl
  | some t => rw [tokAt_in ht]
def wrongE (z : Nat) : List PanicEntry := [{ v := .iface 64 (.int .i64 (z : Int)), recovered := false }]
theorem RL.tok {w : World} {R g cap B : Nat} {L : List Tok} {E p : Nat} (h : RL w R g cap B L E p) : w.cell? ⟨g, p * 6, none⟩ = some (.int .i64 (tokAt L E p).kind) ∧ w.cell? ⟨g, p * 6 + 4, none⟩ = some (.string ⟨(tokAt L E p).text.toArray⟩) ∧ w.cell? ⟨g, p * 6 + 5, none⟩ = some (.int .i64 ((tokAt L E p).frm : Int)) := by
  obtain ⟨a, _, _, _, e, f⟩ := h.toks p _ (tokAt_some h.le)
  exact ⟨a, e, f⟩
theorem RL.tok' {w : World} {R g cap B : Nat} {L : List Tok} {E p q : Nat} (h : RL w R g cap B L E p) (hq : q ≤ L.length) : w.cell? ⟨g, q * 6, none⟩ = some (.int .i64 (tokAt L E q).kind) ∧ w.cell? ⟨g, q * 6 + 4, none⟩ = some (.string ⟨(tokAt L E q).text.toArray⟩) ∧ w.cell? ⟨g, q * 6 + 5, none⟩ = some (.int .i64 ((tokAt L E q).frm : Int)) := by
  obtain ⟨a, _, _, _, e, f⟩ := h.toks q _ (tokAt_some hq)
  exact ⟨a, e, f⟩
set_option maxHeartbeats 1000000 in
set_option maxRecDepth 10000 in
theorem ptakes_any {w : World} {R g cap B : Nat} {L : List Tok} {E p : Nat} (hL : L.length ≤ 1000) (hc : cap ≤ maxLen) (hG : GoodXL L) (m : ByteArray) (hs : m.data.toList ≠ []) (hw : wordB m.data.toList = false) (h : RL w R g cap B L E p) :
    Calls Tryz.prog 84 #[.pointer (some ⟨R, 0, none⟩), .string m] w fun e w' => e = .returned (.bool (isMark L p m.data.toList)) ∧ RL w' R g cap B L E (if isMark L p m.data.toList = true then p + 1 else p) ∧ But R w w' := by
  have HX := Lib.hid h
  have hx := h.c
  have hp := h.le
  have hgl := h.lt
  have hrl := h.rlt
  obtain ⟨t0, t4, t5⟩ := h.tok
  have hM := mark_text hG E p hs hw
  have HT : ((tokAt L E p).text == m.toList) = isMark L p m.data.toList := by rw [ByteArray.toList_eq]; exact hM
  have HN := Lib.hid (pnext_any hL hc h)
  have HI := Lib.hid (fun h => mark_lt (L := L) (p := p) (s := m.data.toList) h)
  clear h hM
  generalize tokAt L E p = t at *
  cases hb : isMark L p m.data.toList with
  | false =>
    rw [hb] at HT
    clear HN HI hb
    go_enter Tryz.func84, Tryz.ntmps84
    go_wp2_with fail
    go_ret
    exact ⟨rfl, HX.out, But.refl _ _⟩
  | true =>
    rw [hb] at HT HI
    clear hb
    go_enter Tryz.func84, Tryz.ntmps84
    go_wp2_with fail
    refine HN.out.mono ?_; rintro e w1 ⟨rfl, r1, b1⟩
    go_wp2_with fail
    go_ret
    exact ⟨rfl, r1 (HI.out (by first | rfl | trivial)), b1⟩
set_option maxHeartbeats 1000000 in
set_option maxRecDepth 10000 in
theorem pmust_on {w : World} {R g cap B : Nat} {L : List Tok} {E p : Nat} (hL : L.length ≤ 1000) (hc : cap ≤ maxLen) (hG : GoodXL L) (m : ByteArray) (hs : m.data.toList ≠ []) (hw : wordB m.data.toList = false) (h : RL w R g cap B L E p) (hm : isMark L p m.data.toList = true) :
    Calls Tryz.prog 104 #[.pointer (some ⟨R, 0, none⟩), .string m] w fun e w' => e = .returned (.tuple #[]) ∧ RL w' R g cap B L E (p + 1) ∧ But R w w' := by
  have HN := Lib.hid (ptakes_any hL hc hG m hs hw h)
  rw [hm] at HN
  clear h hm
  go_enter Tryz.func104, Tryz.ntmps104
  go_wp2_with fail
  refine HN.out.mono ?_; rintro e w1 ⟨rfl, r1, b1⟩
  go_wp2_with fail
  first | go_end0 | go_ret | (refine bodyPost_ret (results_none rfl _ _ _) rfl ?_)
  exact ⟨rfl, r1, b1⟩
set_option maxHeartbeats 1000000 in
set_option maxRecDepth 10000 in
theorem pmust_off {w : World} {R g cap B : Nat} {L : List Tok} {E p : Nat} (hL : L.length ≤ 1000) (hc : cap ≤ maxLen) (hG : GoodXL L) (m : ByteArray) (hs : m.data.toList ≠ []) (hw : wordB m.data.toList = false) (h : RL w R g cap B L E p) (hm : isMark L p m.data.toList = false) :
    Calls Tryz.prog 104 #[.pointer (some ⟨R, 0, none⟩), .string m] w fun e w' => e = .panicked (wrongE (whr L E p)) ∧ But R w w' := by
  have HN := Lib.hid (ptakes_any hL hc hG m hs hw h)
  rw [hm] at HN
  have hp := h.le
  rw [whr_tok]
  clear h hm
  go_enter Tryz.func104, Tryz.ntmps104
  go_wp2_with fail
  refine HN.out.mono ?_; rintro e w1 ⟨rfl, r1, b1⟩
  have r2 : RL w1 R g cap B L E p := r1
  have hx := r2.c
  have hgl := r2.lt
  have hrl := r2.rlt
  obtain ⟨t0, t4, t5⟩ := r2.tok
  clear r1 r2
  go_wp2_with fail
  exact ⟨rfl, rfl, b1⟩
end Go.Proofs.YtahdlijkohmdfaaGreatDoor
namespace Go.Proofs.YtahdlijkohmdfaaGreatDoor
open Go.RowKit

def PostP (w : World) (R g cap B : Nat) (L : List Tok) (E : Nat) : Res → Ending → World → Prop
  | .ok t q, e, w' => ∃ x : V8, e = .returned x.val ∧ TV w' (fun b => w.heap.size ≤ b) x (some t) ∧ RL w' R g cap B L E q ∧ But R w w'
  | .bad z, e, w' => e = .panicked (wrongE z) ∧ But R w w'
def TreeP (R g cap B : Nat) (L : List Tok) (E : Nat) (F : Nat) (args : Array Value) (f : Nat → Option Res) : Prop :=
  ∀ (w : World) (p : Nat) (res : Res), RL w R g cap B L E p → f p = some res → Calls Tryz.prog F args w (PostP w R g cap B L E res)
theorem PostP.later {w0 w : World} {R g cap B : Nat} {L : List Tok} {E : Nat} {res : Res} {e : Ending} {w' : World} (h : PostP w R g cap B L E res e w') (hb : But R w0 w) : PostP w0 R g cap B L E res e w' := by
  cases res with
  | ok t q => obtain ⟨x, he, ht, hr, hb'⟩ := h; exact ⟨x, he, ht.imp fun b hb0 => Nat.le_trans hb.size hb0, hr, hb.trans hb'⟩
  | bad z => exact ⟨h.1, hb.trans h.2⟩
def leaf8 (k n a b c d : Int) : V8 := ⟨k, n, a, b, c, d, ⟨#[]⟩, none, 0, 0⟩
theorem tv_leaf {w : World} {P : Nat → Prop} (k n a b c d : Int) : TV w P (leaf8 k n a b c d) (some (.mk k n a b c d [] [])) :=
  ⟨none, 0, rfl, KV.mk (.inl rfl)⟩
set_option maxHeartbeats 1000000 in
set_option maxRecDepth 10000 in
theorem pcornerF_any (t : Tok) (w : World) : Calls Tryz.prog 129 #[tokV t] w fun e w' => e = .returned (.bool (t.kind == 2 || t.kind == 3)) ∧ Below w.heap.size w w' := by
  unfold tokV
  cases h2 : (t.kind == 2) with
  | true =>
    go_enter Tryz.func129, Tryz.ntmps129
    go_wp2_with fail
    go_ret
    exact ⟨by first | rfl | trivial, by first | exact Below.refl _ _ | exact (Below.refl _ _).alloc (Nat.le_refl _) _⟩
  | false =>
    go_enter Tryz.func129, Tryz.ntmps129
    go_wp2_with fail
    go_ret
    exact ⟨by first | rfl | trivial, by first | exact Below.refl _ _ | exact (Below.refl _ _).alloc (Nat.le_refl _) _⟩
theorem end_lt {L : List Tok} {p : Nat} (h : isEnd L p = true) : p < L.length := by
  unfold isEnd at h
  split at h
  · rename_i t ht; exact (List.getElem?_eq_some_iff.1 ht).1
  · cases h
set_option maxHeartbeats 2000000 in
set_option maxRecDepth 10000 in
theorem pcorner_on {w : World} {R g cap B : Nat} {L : List Tok} {E p : Nat} (hL : L.length ≤ 1000) (hc : cap ≤ maxLen) (hr : RL w R g cap B L E p) (hm : isEnd L p = true) :
    Calls Tryz.prog 127 #[.pointer (some ⟨R, 0, none⟩)] w fun e w' => e = .returned (tokV (tokAt L E p)) ∧ RL w' R g cap B L E (p + 1) ∧ But R w w' := by
  have hN := Lib.hid (fun w hr => pnext_any (w := w) (R := R) (g := g) (cap := cap) (B := B) (L := L) (E := E) (p := p) hL hc hr)
  have HC := Lib.hid (pcornerF_any (tokAt L E p))
  have hl := Lib.hid (end_lt hm)
  rw [end_kind L E p] at hm
  rw [hm] at HC
  clear hm
  generalize tokAt L E p = t at *
  unfold tokV at *
  have HR := Lib.hid hr
  have lR := hr.lo.1
  have lB := hr.lo.2.2
  clear hr
  go_enter Tryz.func127, Tryz.ntmps127
  go_wp2_with fail
  refine (hN.out _ (by with_reducible repeat' (first | exact HR.out | refine RL.far ?_ (by omega) _ _ | refine RL.alloc ?_ _ | refine RL.drewN ?_ _ | refine RL.drew ?_))).mono ?_; rintro e w1 ⟨rfl, r1, b1⟩
  have HR1 : Hid (RL w1 R g cap B L E (p + 1)) := Lib.hid (r1 hl.out)
  clear r1
  have h1 : But R w w1 := But.trans (by (with_reducible repeat' (first | exact But.refl _ _ | refine zBr ?_ _ _ | refine zBs ?_ (by omega) _ _ | refine zBa ?_ _ | refine zBn ?_ _ | refine zBd ?_))) b1
  have y1 : w.heap.size ≤ w1.heap.size := h1.size
  have zk1 : w.heap.size < w1.heap.size := by have := b1.size; first | omega | (simp at this; omega)
  have k10 : w1.cell? ⟨w.heap.size, 0, none⟩ = some (.int .i64 0) := b1.cell (show w.heap.size ≠ R by omega) (by simp [go_sem])
  have k11 : w1.cell? ⟨w.heap.size, 1, none⟩ = some (.int .i64 0) := b1.cell (show w.heap.size ≠ R by omega) (by simp [go_sem])
  have k12 : w1.cell? ⟨w.heap.size, 2, none⟩ = some (.int .i64 0) := b1.cell (show w.heap.size ≠ R by omega) (by simp [go_sem])
  have k13 : w1.cell? ⟨w.heap.size, 3, none⟩ = some (.int .i64 0) := b1.cell (show w.heap.size ≠ R by omega) (by simp [go_sem])
  have k14 : w1.cell? ⟨w.heap.size, 4, none⟩ = some (.string ⟨#[]⟩) := b1.cell (show w.heap.size ≠ R by omega) (by simp [go_sem])
  have k15 : w1.cell? ⟨w.heap.size, 5, none⟩ = some (.int .i64 0) := b1.cell (show w.heap.size ≠ R by omega) (by simp [go_sem])
  have kf10 : w1.frozen? ⟨w.heap.size, 0, none⟩ = false := b1.frozen (show w.heap.size ≠ R by omega) (by first | omega | (simp; done) | (simp; omega)) (by simp [go_sem])
  have kf11 : w1.frozen? ⟨w.heap.size, 1, none⟩ = false := b1.frozen (show w.heap.size ≠ R by omega) (by first | omega | (simp; done) | (simp; omega)) (by simp [go_sem])
  have kf12 : w1.frozen? ⟨w.heap.size, 2, none⟩ = false := b1.frozen (show w.heap.size ≠ R by omega) (by first | omega | (simp; done) | (simp; omega)) (by simp [go_sem])
  have kf13 : w1.frozen? ⟨w.heap.size, 3, none⟩ = false := b1.frozen (show w.heap.size ≠ R by omega) (by first | omega | (simp; done) | (simp; omega)) (by simp [go_sem])
  have kf14 : w1.frozen? ⟨w.heap.size, 4, none⟩ = false := b1.frozen (show w.heap.size ≠ R by omega) (by first | omega | (simp; done) | (simp; omega)) (by simp [go_sem])
  have kf15 : w1.frozen? ⟨w.heap.size, 5, none⟩ = false := b1.frozen (show w.heap.size ≠ R by omega) (by first | omega | (simp; done) | (simp; omega)) (by simp [go_sem])
  clear b1
  go_wp2_with fail
  refine ((HC.out _)).mono ?_; rintro e w2 ⟨rfl, b2⟩
  have h2 : But R w w2 := But.trans (by (with_reducible repeat' (first | exact h1 | refine zBr ?_ _ _ | refine zBs ?_ (by omega) _ _ | refine zBa ?_ _ | refine zBn ?_ _ | refine zBd ?_))) (But.of_below b2)
  have y2 : w.heap.size ≤ w2.heap.size := h2.size
  have zk2 : w.heap.size < w2.heap.size := by have := b2.size; first | omega | (simp at this; omega)
  have k20 : w2.cell? ⟨w.heap.size, 0, none⟩ = some (.int .i64 0) := (But.of_below b2).cell (show w.heap.size ≠ R by omega) (by with_reducible repeat' (first | exact k10 | refine zCs ?_ (by omega) _ _ | refine zCa ?_ _ | refine zCn ?_ _ | refine zCd ?_))
  have k21 : w2.cell? ⟨w.heap.size, 1, none⟩ = some (.int .i64 0) := (But.of_below b2).cell (show w.heap.size ≠ R by omega) (by with_reducible repeat' (first | exact k11 | refine zCs ?_ (by omega) _ _ | refine zCa ?_ _ | refine zCn ?_ _ | refine zCd ?_))
  have k22 : w2.cell? ⟨w.heap.size, 2, none⟩ = some (.int .i64 0) := (But.of_below b2).cell (show w.heap.size ≠ R by omega) (by with_reducible repeat' (first | exact k12 | refine zCs ?_ (by omega) _ _ | refine zCa ?_ _ | refine zCn ?_ _ | refine zCd ?_))
  have k23 : w2.cell? ⟨w.heap.size, 3, none⟩ = some (.int .i64 0) := (But.of_below b2).cell (show w.heap.size ≠ R by omega) (by with_reducible repeat' (first | exact k13 | refine zCs ?_ (by omega) _ _ | refine zCa ?_ _ | refine zCn ?_ _ | refine zCd ?_))
  have k24 : w2.cell? ⟨w.heap.size, 4, none⟩ = some (.string ⟨#[]⟩) := (But.of_below b2).cell (show w.heap.size ≠ R by omega) (by with_reducible repeat' (first | exact k14 | refine zCs ?_ (by omega) _ _ | refine zCa ?_ _ | refine zCn ?_ _ | refine zCd ?_))
  have k25 : w2.cell? ⟨w.heap.size, 5, none⟩ = some (.int .i64 0) := (But.of_below b2).cell (show w.heap.size ≠ R by omega) (by with_reducible repeat' (first | exact k15 | refine zCs ?_ (by omega) _ _ | refine zCa ?_ _ | refine zCn ?_ _ | refine zCd ?_))
  have kf20 : w2.frozen? ⟨w.heap.size, 0, none⟩ = false := (But.of_below b2).frozen (show w.heap.size ≠ R by omega) (by first | omega | (simp; done) | (simp; omega)) (by with_reducible repeat' (first | exact kf10 | refine zFs ?_ (by omega) _ _ | refine zFa ?_ (by first | omega | (simp; omega)) _ | refine zFn ?_ _ | refine zFd ?_))
  have kf21 : w2.frozen? ⟨w.heap.size, 1, none⟩ = false := (But.of_below b2).frozen (show w.heap.size ≠ R by omega) (by first | omega | (simp; done) | (simp; omega)) (by with_reducible repeat' (first | exact kf11 | refine zFs ?_ (by omega) _ _ | refine zFa ?_ (by first | omega | (simp; omega)) _ | refine zFn ?_ _ | refine zFd ?_))
  have kf22 : w2.frozen? ⟨w.heap.size, 2, none⟩ = false := (But.of_below b2).frozen (show w.heap.size ≠ R by omega) (by first | omega | (simp; done) | (simp; omega)) (by with_reducible repeat' (first | exact kf12 | refine zFs ?_ (by omega) _ _ | refine zFa ?_ (by first | omega | (simp; omega)) _ | refine zFn ?_ _ | refine zFd ?_))
  have kf23 : w2.frozen? ⟨w.heap.size, 3, none⟩ = false := (But.of_below b2).frozen (show w.heap.size ≠ R by omega) (by first | omega | (simp; done) | (simp; omega)) (by with_reducible repeat' (first | exact kf13 | refine zFs ?_ (by omega) _ _ | refine zFa ?_ (by first | omega | (simp; omega)) _ | refine zFn ?_ _ | refine zFd ?_))
  have kf24 : w2.frozen? ⟨w.heap.size, 4, none⟩ = false := (But.of_below b2).frozen (show w.heap.size ≠ R by omega) (by first | omega | (simp; done) | (simp; omega)) (by with_reducible repeat' (first | exact kf14 | refine zFs ?_ (by omega) _ _ | refine zFa ?_ (by first | omega | (simp; omega)) _ | refine zFn ?_ _ | refine zFd ?_))
  have kf25 : w2.frozen? ⟨w.heap.size, 5, none⟩ = false := (But.of_below b2).frozen (show w.heap.size ≠ R by omega) (by first | omega | (simp; done) | (simp; omega)) (by with_reducible repeat' (first | exact kf15 | refine zFs ?_ (by omega) _ _ | refine zFa ?_ (by first | omega | (simp; omega)) _ | refine zFn ?_ _ | refine zFd ?_))
  have za2 : w1.heap.size < w2.heap.size := by have := b2.size; first | omega | (simp at this; omega)
  have a20 : w2.cell? ⟨w1.heap.size, 0, none⟩ = some (.int .i64 t.kind) := (But.of_below b2).cell (show w1.heap.size ≠ R by omega) (by simp [go_sem])
  have a21 : w2.cell? ⟨w1.heap.size, 1, none⟩ = some (.int .i64 t.num) := (But.of_below b2).cell (show w1.heap.size ≠ R by omega) (by simp [go_sem])
  have a22 : w2.cell? ⟨w1.heap.size, 2, none⟩ = some (.int .i64 t.col) := (But.of_below b2).cell (show w1.heap.size ≠ R by omega) (by simp [go_sem])
  have a23 : w2.cell? ⟨w1.heap.size, 3, none⟩ = some (.int .i64 t.row) := (But.of_below b2).cell (show w1.heap.size ≠ R by omega) (by simp [go_sem])
  have a24 : w2.cell? ⟨w1.heap.size, 4, none⟩ = some (.string ⟨t.text.toArray⟩) := (But.of_below b2).cell (show w1.heap.size ≠ R by omega) (by simp [go_sem])
  have a25 : w2.cell? ⟨w1.heap.size, 5, none⟩ = some (.int .i64 (t.frm : Int)) := (But.of_below b2).cell (show w1.heap.size ≠ R by omega) (by simp [go_sem])
  have af20 : w2.frozen? ⟨w1.heap.size, 0, none⟩ = false := (But.of_below b2).frozen (show w1.heap.size ≠ R by omega) (by first | omega | (simp; done) | (simp; omega)) (by simp [go_sem])
  have af21 : w2.frozen? ⟨w1.heap.size, 1, none⟩ = false := (But.of_below b2).frozen (show w1.heap.size ≠ R by omega) (by first | omega | (simp; done) | (simp; omega)) (by simp [go_sem])
  have af22 : w2.frozen? ⟨w1.heap.size, 2, none⟩ = false := (But.of_below b2).frozen (show w1.heap.size ≠ R by omega) (by first | omega | (simp; done) | (simp; omega)) (by simp [go_sem])
  have af23 : w2.frozen? ⟨w1.heap.size, 3, none⟩ = false := (But.of_below b2).frozen (show w1.heap.size ≠ R by omega) (by first | omega | (simp; done) | (simp; omega)) (by simp [go_sem])
  have af24 : w2.frozen? ⟨w1.heap.size, 4, none⟩ = false := (But.of_below b2).frozen (show w1.heap.size ≠ R by omega) (by first | omega | (simp; done) | (simp; omega)) (by simp [go_sem])
  have af25 : w2.frozen? ⟨w1.heap.size, 5, none⟩ = false := (But.of_below b2).frozen (show w1.heap.size ≠ R by omega) (by first | omega | (simp; done) | (simp; omega)) (by simp [go_sem])
  have HR2 : Hid (RL w2 R g cap B L E (p + 1)) := Lib.hid (RL.below (by with_reducible repeat' (first | exact HR1.out | refine RL.far ?_ (by omega) _ _ | refine RL.alloc ?_ _ | refine RL.drewN ?_ _ | refine RL.drew ?_)) b2)
  clear b2 k10 k11 k12 k13 k14 k15 kf10 kf11 kf12 kf13 kf14 kf15 zk1
  go_wp2_with fail
  exact bodyPost_ret (v := .agg #[.int .i64 t.kind, .int .i64 t.num, .int .i64 t.col, .int .i64 t.row, .string ⟨t.text.toArray⟩, .int .i64 (t.frm : Int)]) (by simp [results, Tryz.results127, go_sem, k20, a20, k21, a21, k22, a22, k23, a23, k24, a24, k25, a25]) rfl ⟨rfl, by with_reducible repeat' (first | exact HR2.out | refine RL.far ?_ (by omega) _ _ | refine RL.alloc ?_ _), by (with_reducible repeat' (first | exact h2 | refine zBr ?_ _ _ | refine zBs ?_ (by omega) _ _ | refine zBa ?_ _ | refine zBn ?_ _ | refine zBd ?_))⟩
set_option maxHeartbeats 2000000 in
set_option maxRecDepth 10000 in
theorem pcorner_off {w : World} {R g cap B : Nat} {L : List Tok} {E p : Nat} (hL : L.length ≤ 1000) (hc : cap ≤ maxLen) (hr : RL w R g cap B L E p) (hm : isEnd L p = false) :
    Calls Tryz.prog 127 #[.pointer (some ⟨R, 0, none⟩)] w fun e w' => e = .panicked (wrongE (whr L E p)) ∧ But R w w' := by
  have hN := Lib.hid (fun w hr => pnext_any (w := w) (R := R) (g := g) (cap := cap) (B := B) (L := L) (E := E) (p := p) hL hc hr)
  have HC := Lib.hid (pcornerF_any (tokAt L E p))
  rw [whr_tok]
  rw [end_kind L E p] at hm
  rw [hm] at HC
  clear hm
  generalize tokAt L E p = t at *
  unfold tokV at *
  have HR := Lib.hid hr
  have lR := hr.lo.1
  have lB := hr.lo.2.2
  clear hr
  go_enter Tryz.func127, Tryz.ntmps127
  go_wp2_with fail
  refine (hN.out _ (by with_reducible repeat' (first | exact HR.out | refine RL.far ?_ (by omega) _ _ | refine RL.alloc ?_ _ | refine RL.drewN ?_ _ | refine RL.drew ?_))).mono ?_; rintro e w1 ⟨rfl, r1, b1⟩
  have h1 : But R w w1 := But.trans (by (with_reducible repeat' (first | exact But.refl _ _ | refine zBr ?_ _ _ | refine zBs ?_ (by omega) _ _ | refine zBa ?_ _ | refine zBn ?_ _ | refine zBd ?_))) b1
  have y1 : w.heap.size ≤ w1.heap.size := h1.size
  have zk1 : w.heap.size < w1.heap.size := by have := b1.size; first | omega | (simp at this; omega)
  have k10 : w1.cell? ⟨w.heap.size, 0, none⟩ = some (.int .i64 0) := b1.cell (show w.heap.size ≠ R by omega) (by simp [go_sem])
  have k11 : w1.cell? ⟨w.heap.size, 1, none⟩ = some (.int .i64 0) := b1.cell (show w.heap.size ≠ R by omega) (by simp [go_sem])
  have k12 : w1.cell? ⟨w.heap.size, 2, none⟩ = some (.int .i64 0) := b1.cell (show w.heap.size ≠ R by omega) (by simp [go_sem])
  have k13 : w1.cell? ⟨w.heap.size, 3, none⟩ = some (.int .i64 0) := b1.cell (show w.heap.size ≠ R by omega) (by simp [go_sem])
  have k14 : w1.cell? ⟨w.heap.size, 4, none⟩ = some (.string ⟨#[]⟩) := b1.cell (show w.heap.size ≠ R by omega) (by simp [go_sem])
  have k15 : w1.cell? ⟨w.heap.size, 5, none⟩ = some (.int .i64 0) := b1.cell (show w.heap.size ≠ R by omega) (by simp [go_sem])
  have kf10 : w1.frozen? ⟨w.heap.size, 0, none⟩ = false := b1.frozen (show w.heap.size ≠ R by omega) (by first | omega | (simp; done) | (simp; omega)) (by simp [go_sem])
  have kf11 : w1.frozen? ⟨w.heap.size, 1, none⟩ = false := b1.frozen (show w.heap.size ≠ R by omega) (by first | omega | (simp; done) | (simp; omega)) (by simp [go_sem])
  have kf12 : w1.frozen? ⟨w.heap.size, 2, none⟩ = false := b1.frozen (show w.heap.size ≠ R by omega) (by first | omega | (simp; done) | (simp; omega)) (by simp [go_sem])
  have kf13 : w1.frozen? ⟨w.heap.size, 3, none⟩ = false := b1.frozen (show w.heap.size ≠ R by omega) (by first | omega | (simp; done) | (simp; omega)) (by simp [go_sem])
  have kf14 : w1.frozen? ⟨w.heap.size, 4, none⟩ = false := b1.frozen (show w.heap.size ≠ R by omega) (by first | omega | (simp; done) | (simp; omega)) (by simp [go_sem])
  have kf15 : w1.frozen? ⟨w.heap.size, 5, none⟩ = false := b1.frozen (show w.heap.size ≠ R by omega) (by first | omega | (simp; done) | (simp; omega)) (by simp [go_sem])
  clear b1
  go_wp2_with fail
  refine (HC.out _).mono ?_; rintro e w2 ⟨rfl, b2⟩
  have a20 : w2.cell? ⟨w1.heap.size, 0, none⟩ = some (.int .i64 t.kind) := keep_cell b2 (by simp [go_sem])
  have a21 : w2.cell? ⟨w1.heap.size, 1, none⟩ = some (.int .i64 t.num) := keep_cell b2 (by simp [go_sem])
  have a22 : w2.cell? ⟨w1.heap.size, 2, none⟩ = some (.int .i64 t.col) := keep_cell b2 (by simp [go_sem])
  have a23 : w2.cell? ⟨w1.heap.size, 3, none⟩ = some (.int .i64 t.row) := keep_cell b2 (by simp [go_sem])
  have a24 : w2.cell? ⟨w1.heap.size, 4, none⟩ = some (.string ⟨t.text.toArray⟩) := keep_cell b2 (by simp [go_sem])
  have a25 : w2.cell? ⟨w1.heap.size, 5, none⟩ = some (.int .i64 (t.frm : Int)) := keep_cell b2 (by simp [go_sem])
  have h2 : But R w w2 := But.trans (by (with_reducible repeat' (first | exact h1 | refine zBr ?_ _ _ | refine zBs ?_ (by omega) _ _ | refine zBa ?_ _ | refine zBn ?_ _ | refine zBd ?_))) (But.of_below b2)
  go_wp2_with fail
  exact ⟨rfl, rfl, by with_reducible repeat' (first | exact h2 | refine zBs ?_ (by omega) _ _ | refine zBa ?_ _)⟩
end Go.Proofs.YtahdlijkohmdfaaGreatDoor
