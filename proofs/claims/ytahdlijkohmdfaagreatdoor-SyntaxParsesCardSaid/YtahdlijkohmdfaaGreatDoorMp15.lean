/- Texts joined: RdG, RdH. -/
import Derived.Test.YtahdlijkohmdfaaGreatDoorMp14
import Derived.Maps.AppendAt
import Derived.Deep.LoopGhost
set_option linter.all false
set_option linter.unusedVariables false
set_option linter.unusedSimpArgs false
namespace Go.Proofs.YtahdlijkohmdfaaGreatDoor
open Go.RowKit

def cells8 (x : V8) : List Value := [.int .i64 x.n0, .int .i64 x.n1, .int .i64 x.n2, .int .i64 x.n3, .int .i64 x.n4, .int .i64 x.n5, .string x.s, .slice x.A x.len x.cap]
def rowC : List (V8 × Tr) → List Value
  | [] => []
  | p :: r => cells8 p.1 ++ rowC r
theorem rowC_snoc : ∀ (l : List (V8 × Tr)) (p : V8 × Tr), rowC (l ++ [p]) = rowC l ++ cells8 p.1
  | [], p => by simp [rowC]
  | q :: r, p => by simp only [List.cons_append, rowC, rowC_snoc r p, List.append_assoc]
theorem rowC_at : ∀ (l : List (V8 × Tr)) (i k : Nat) (p : V8 × Tr), l[i]? = some p → k < 8 → (rowC l)[i * 8 + k]? = (cells8 p.1)[k]?
  | [], i, k, p, h, _ => by simp at h
  | q :: r, 0, k, p, h, hk => by
    simp at h; subst h
    show (cells8 q.1 ++ rowC r)[0 * 8 + k]? = _
    rw [Nat.zero_mul, Nat.zero_add, List.getElem?_append_left (by simpa [cells8] using hk)]
  | q :: r, i + 1, k, p, h, hk => by
    have := rowC_at r i k p (by simpa using h) hk
    show (cells8 q.1 ++ rowC r)[(i + 1) * 8 + k]? = _
    rw [List.getElem?_append_right (by simp [cells8]; omega), show (i + 1) * 8 + k - (cells8 q.1).length = i * 8 + k from by simp [cells8]; omega]
    exact this
structure Row (base : Nat) (wr : World) (v : Value) (xs : List (V8 × Tr)) : Prop where
  own : wr.ownsRow base 30 8 v xs.length (rowC xs)
  kid : ∀ (i : Nat) (x : V8) (t : Tr), xs[i]? = some (x, t) → TV wr (fun b => base ≤ b ∧ some b ≠ v.ownBlock) x (some t)
theorem But.grownBy {R : Nat} {w w' : World} (h : But R w w') : w.grownBy w' (some R) := ⟨h.os, h.tape, h.output, h.size, fun k hk hn => h.block k hk fun e => hn (by rw [e])⟩
theorem Row.but {base R : Nat} {w w' : World} {v : Value} {xs : List (V8 × Tr)} (h : Row base w v xs) (hb : But R w w') (hR : R < base) : Row base w' v xs := by
  refine ⟨h.own.kept hb.grownBy ?_, fun i x t hi => (h.kid i x t hi).kept ⟨hb.size, fun g hg hl => hb.block g hl fun e => by have := hg.1; omega⟩⟩
  cases hv : v.ownBlock with
  | none => exact .inl rfl
  | some k => exact .inr fun e => by have := (h.own.lt k hv).1; have := Option.some.inj e; omega
theorem TV.lowT {w : World} {P : Nat → Prop} {x : V8} {ot : Option Tr} (h : TV w P x ot) : TV w (fun b => P b ∧ b < w.heap.size) x ot := by
  cases ot with
  | none => trivial
  | some t => obtain ⟨A, cap, hx, hk⟩ := h; exact ⟨A, cap, hx, hk.low⟩
theorem Row.one {base : Nat} {w : World} {x : V8} {t : Tr} (hb : base ≤ w.heap.size) (hx : TV w (fun b => base ≤ b) x (some t)) :
    Row base (w.alloc (.cells (cells8 x).toArray 30)) (.slice (some ⟨w.heap.size, 0, none⟩) 1 1) [(x, t)] := by
  refine ⟨⟨rfl, .inr ⟨w.heap.size, 1, _, rfl, hb, heap_alloc_new w _, Nat.le_refl _, by decide, rfl, by simp [rowC, cells8]⟩⟩, fun i y u hi => ?_⟩
  match i, hi with
  | 0, hi =>
    simp at hi
    obtain ⟨rfl, rfl⟩ := hi
    refine (hx.lowT.kept (Kept.of_below ((Below.refl _ _).alloc (Nat.le_refl _) _))).imp fun b hb => ⟨hb.1, fun e => ?_⟩
    have e2 : b = w.heap.size := Option.some.inj e
    have := hb.2
    omega
theorem Row.push {base : Nat} {w w' : World} {v v' : Value} {xs : List (V8 × Tr)} (h : Row base w v xs) {x : V8} {t : Tr} (hx : TV w (fun b => base ≤ b ∧ some b ≠ v.ownBlock) x (some t))
    (ho : w'.ownsRow base 30 8 v' (xs.length + 1) (rowC xs ++ cells8 x)) (hg : w.grownBy w' v.ownBlock) (ha : v'.ownBlock = v.ownBlock ∨ v'.ownBlock = some w.heap.size) : Row base w' v' (xs ++ [(x, t)]) := by
  have keep : ∀ {x : V8} {t : Tr}, TV w (fun b => base ≤ b ∧ some b ≠ v.ownBlock) x (some t) → TV w' (fun b => base ≤ b ∧ some b ≠ v'.ownBlock) x (some t) := fun hx => by
    refine (hx.lowT.kept ⟨hg.size, fun g hp hl => hg.block g hl hp.1.2⟩).imp fun b hb => ⟨hb.1.1, ?_⟩
    rcases ha with ha | ha
    · rw [ha]; exact hb.1.2
    · rw [ha]; intro e; have := Option.some.inj e; omega
  refine ⟨?_, fun i y u hi => ?_⟩
  · rw [rowC_snoc]; simpa using ho
  · by_cases hl : i < xs.length
    · rw [List.getElem?_append_left hl] at hi
      exact keep (h.kid i y u hi)
    · rw [List.getElem?_append_right (by omega)] at hi
      have e : i - xs.length = 0 := by
        cases hh : i - xs.length with
        | zero => rfl
        | succ n => rw [hh] at hi; simp at hi
      rw [e] at hi
      simp at hi
      obtain ⟨rfl, rfl⟩ := hi
      exact keep hx
theorem Row.kids {base : Nat} {w : World} {v : Value} {xs : List (V8 × Tr)} (h : Row base w v xs) (hne : xs ≠ []) :
    ∃ g0 cp, v = .slice (some ⟨g0, 0, none⟩) xs.length cp ∧ base ≤ g0 ∧ g0 < w.heap.size ∧ KL w (fun b => base ≤ b) (xs.map Prod.snd) g0 0 := by
  have h' := h.own
  rcases h'.2 with ⟨_, hl⟩ | ⟨g0, cp, cur, rfl, _⟩
  · exact absurd (List.eq_nil_of_length_eq_zero hl) hne
  · refine ⟨g0, cp, rfl, (h'.lt g0 rfl).1, (h'.lt g0 rfl).2, KL.of fun i t hi => ?_⟩
    rw [List.getElem?_map] at hi
    cases hx : xs[i]? with
    | none => rw [hx] at hi; cases hi
    | some xt =>
      obtain ⟨x, t'⟩ := xt
      rw [hx] at hi
      obtain rfl : t' = t := Option.some.inj hi
      have hlt : i < xs.length := (List.getElem?_eq_some_iff.1 hx).1
      have c := fun k (hk : k < 8) => (h'.cellAt (i * 8 + k) (by omega)).trans (rowC_at xs i k (x, t') hx hk)
      obtain ⟨A, cap', hxv, hk⟩ := h.kid i x t' hx
      rw [Nat.zero_add, Nat.mul_comm]
      subst hxv
      exact ⟨A, cap', ⟨c 0 (by omega), c 1 (by omega), c 2 (by omega), c 3 (by omega), c 4 (by omega), c 5 (by omega), c 6 (by omega), c 7 (by omega)⟩, hk.imp fun b hb => hb.1⟩
inductive LRes where
  | ok (ks : List Tr) (q : Nat)
  | bad (z : Nat)
def PostL (w : World) (R g cap B : Nat) (L : List Tok) (E : Nat) : LRes → Ending → World → Prop
  | .ok ks q, e, w' => ∃ g0 cp, e = .returned (.slice (some ⟨g0, 0, none⟩) ks.length cp) ∧ (w.heap.size ≤ g0 ∧ g0 < w'.heap.size ∧ KL w' (fun b => w.heap.size ≤ b) ks g0 0) ∧ RL w' R g cap B L E q ∧ But R w w'
  | .bad z, e, w' => e = .panicked (wrongE z) ∧ But R w w'
theorem tv_row {w : World} {P : Nat → Prop} {g0 cp : Nat} {ks : List Tr} (k : Int) (wd : List UInt8) (hP : P g0) (hl : g0 < w.heap.size) (h : KL w P ks g0 0) :
    TV w P ⟨k, 0, 0, 0, 0, 0, ⟨wd.toArray⟩, some ⟨g0, 0, none⟩, ks.length, cp⟩ (some (.mk k 0 0 0 0 0 wd ks)) :=
  ⟨some ⟨g0, 0, none⟩, cp, by simp [tv8, Tr.kind, Tr.num, Tr.c1, Tr.r1, Tr.c2, Tr.r2, Tr.word, Tr.kids], KV.mk (.inr ⟨g0, 0, rfl, hP, hl, h⟩)⟩
def listF (L : List Tok) (E : Nat) : Nat → Bool → List Tr → Nat → Option LRes
  | 0, _, _, _ => none
  | k + 1, c, acc, p => match itemF L E k c p with
    | none => none
    | some (.bad z) => some (.bad z)
    | some (.ok t q) => if isMark L q [44] = true then listF L E k c (acc ++ [t]) (q + 1) else some (.ok (acc ++ [t]) q)
theorem items_list {L : List Tok} {E : Nat} {w : List UInt8} : ∀ {k : Nat} {acc : List Tr} {p : Nat} {res : Res}, itemsF L E k w acc p = some res →
    ∃ lr, listF L E k (w == [67, 79, 85, 78, 84]) acc p = some lr ∧ (match lr with | .bad z => res = .bad z | .ok ks q => mustF L E q [41] (fun q => some (.ok (callT w ks) q)) = some res)
  | 0, acc, p, res, h => by rw [itemsF] at h; cases h
  | k + 1, acc, p, res, h => by
    rw [itemsF] at h
    rw [listF]
    cases hi : itemF L E k (w == [67, 79, 85, 78, 84]) p with
    | none => rw [hi] at h; cases h
    | some r =>
      rw [hi] at h
      cases r with
      | bad z => exact ⟨_, rfl, (Option.some.inj h).symm⟩
      | ok t q =>
        have h2 : (if isMark L q [44] = true then itemsF L E k w (acc ++ [t]) (q + 1) else mustF L E q [41] fun q => some (.ok (callT w (acc ++ [t])) q)) = some res := h
        by_cases hm : isMark L q [44] = true
        · rw [if_pos hm] at h2
          obtain ⟨lr, h3, h4⟩ := items_list h2
          exact ⟨lr, by show (if isMark L q [44] = true then _ else _) = _; rw [if_pos hm]; exact h3, h4⟩
        · rw [if_neg hm] at h2
          exact ⟨_, by show (if isMark L q [44] = true then _ else _) = _; rw [if_neg hm], h2⟩
def ListR (L : List Tok) (E n : Nat) (c : Bool) (ks : List Tr) (q : Nat) (lr : LRes) : Prop := (if isMark L q [44] = true then listF L E n c ks (q + 1) else some (.ok ks q)) = some lr
theorem list_step {L : List Tok} {E k : Nat} {c : Bool} {acc : List Tr} {p : Nat} {lr : LRes} (h : listF L E k c acc p = some lr) :
    ∃ k' r1, k = k' + 1 ∧ itemF L E k' c p = some r1 ∧ (match r1 with | .bad z => lr = .bad z | .ok t q => ListR L E k' c (acc ++ [t]) q lr) := by
  cases k with
  | zero => rw [listF] at h; cases h
  | succ k' =>
    rw [listF] at h
    cases hi : itemF L E k' c p with
    | none => rw [hi] at h; cases h
    | some r =>
      rw [hi] at h
      cases r with
      | bad z => exact ⟨k', _, rfl, hi, (Option.some.inj h).symm⟩
      | ok t q => exact ⟨k', _, rfl, hi, h⟩
theorem tree_info : (Tryz.prog.info? 30).map (fun i => (i.zero, i.size, i.bytes)) = some (some (.agg #[.int .i64 0, .int .i64 0, .int .i64 0, .int .i64 0, .int .i64 0, .int .i64 0, .string ⟨#[]⟩, .slice none 0 0]), 8, 88) := by kernel_rfl
set_option maxHeartbeats 2000000 in
set_option maxRecDepth 10000 in
theorem plist_any {R g cap B : Nat} {L : List Tok} {E k : Nat} (hL : L.length ≤ 1000) (hc : cap ≤ maxLen) (hG : GoodXL L) {F : Nat} {c : Bool} (hE : ∀ (args : Array Value) (w : World), (callFunc F args).run Tryz.prog w = .ok (.enter F args) w)
    (hP : ∀ j, j ≤ k → TreeP R g cap B L E F #[.pointer (some ⟨R, 0, none⟩)] (itemF L E j c)) (w : World) (p : Nat) (lr : LRes) (hr : RL w R g cap B L E p) (hf : listF L E k c [] p = some lr) (hk : k ≤ 100000) :
    Calls Tryz.prog 116 #[.pointer (some ⟨R, 0, none⟩), .func (.func F) #[.pointer (some ⟨R, 0, none⟩)] #[]] w (PostL w R g cap B L E lr) := by
  obtain ⟨i0, hi0, hz0, hz1, hz2⟩ := info_parts tree_info
  have HI := Lib.hid hi0
  have HZ0 := Lib.hid hz0
  have HZ1 := Lib.hid hz1
  have HZ2 := Lib.hid hz2
  clear hi0 hz0 hz1 hz2
  obtain ⟨k1, r1, rfl, hf1, hf2⟩ := list_step hf
  have HP := Lib.hid hP
  have HP1 := Lib.hid (hP k1 (by omega))
  have HF := Lib.hid hf1
  have HK := Lib.hid hf2
  clear hP hf hf1 hf2
  have HR := Lib.hid hr
  have lR := hr.lo.1
  have lB := hr.lo.2.2
  clear hr
  go_enter Tryz.func116, Tryz.ntmps116
  go_wp2_with fail
  refine (HP1.out _ p r1 (by with_reducible repeat' (first | exact HR.out | refine RL.far ?_ (by omega) _ _ | refine RL.alloc ?_ _ | refine RL.drewN ?_ _ | refine RL.drew ?_)) HF.out).mono ?_; rintro e w1 H1
  cases r1 with
  | bad z =>
    obtain ⟨rfl, b1⟩ := H1
    have hk2 : lr = .bad z := HK.out
    subst hk2
    exact ⟨rfl, rfl, But.trans (by (with_reducible repeat' (first | exact But.refl _ _ | refine zBr ?_ _ _ | refine zBs ?_ (by omega) _ _ | refine zBa ?_ _ | refine zBn ?_ _ | refine zBd ?_))) b1⟩
  | ok t q =>
    obtain ⟨⟨x0, x1, x2, x3, x4, x5, xw, xA, xl, xc⟩, rfl, v1, r1, b1⟩ := H1
    have HR1 : Hid (RL w1 R g cap B L E q) := Lib.hid r1
    clear r1
    have HVx1 : Hid (TV w1 (fun b => w.heap.size ≤ b) ⟨x0, x1, x2, x3, x4, x5, xw, xA, xl, xc⟩ (some t)) := Lib.hid (v1.imp fun b hb => by have hb2 : _ ≤ b := hb; first | omega | (simp at hb2; omega))
    clear v1
    have b1' := b1
    have h1 : But R w w1 := But.trans (by (with_reducible repeat' (first | exact But.refl _ _ | refine zBr ?_ _ _ | refine zBs ?_ (by omega) _ _ | refine zBa ?_ _ | refine zBn ?_ _ | refine zBd ?_))) b1
    have y1 : w.heap.size ≤ w1.heap.size := h1.size
    clear b1
    dsimp only [V8.val]
    go_wp2_with fail
    have HRow := Lib.hid (Row.one y1 HVx1.out)
    have HKK : Hid (ListR L E k1 c [t] q lr) := Lib.hid HK.out
    clear HVx1 HK
    go_loopg [5] k1 (fun n v wr => ∃ (xs : List (V8 × Tr)) (q : Nat), n ≤ k1 ∧ xs ≠ [] ∧ xs.length + n ≤ k1 + 1 ∧ Hid (Row w.heap.size wr v xs) ∧ Hid (RL wr R g cap B L E q) ∧ Hid (But R w wr) ∧ Hid (ListR L E n c (xs.map Prod.snd) q lr))
    case atStart =>
      exact ⟨[(⟨x0, x1, x2, x3, x4, x5, xw, xA, xl, xc⟩, t)], q, Nat.le_refl _, by simp, by simp; omega, HRow, Lib.hid (HR1.out.alloc _), Lib.hid (h1.alloc _), HKK⟩
    case round =>
      clear HRow HKK HR1 h1 y1 HF HP1
      obtain ⟨xs, q2, hn, hne, hlen, HW2, HR2, H2, HL2⟩ := hrel
      have h2 := H2.out
      have y2 := h2.size
      clear H2
      have hT := Lib.hid (fun w hr => ptakes_any (w := w) (R := R) (g := g) (cap := cap) (B := B) (L := L) (E := E) (p := q2) hL hc hG ⟨#[44]⟩ (by decide) (by decide) hr)
      cases hm : isMark L q2 [44] with
      | false =>
        have HM := Lib.hid hm
        have hlr : lr = .ok (xs.map Prod.snd) q2 := by have h := HL2.out; unfold ListR at h; rw [if_neg (by rw [hm]; decide)] at h; exact (Option.some.inj h).symm
        subst hlr
        obtain ⟨g0, cp, rfl, hg0, hg1, hkl⟩ := HW2.out.kids hne
        have HKL := Lib.hid hkl
        clear hm HL2 HW2 hkl
        go_wp2_with fail
        refine (hT.out _ HR2.out).mono ?_; rintro e w3 ⟨rfl, r3, b3⟩
        have HR3 : RL w3 R g cap B L E q2 := by have h := r3; rw [show isMark L q2 [44] = false from HM.out] at h; exact h
        have h3 := h2.trans b3
        have e1 : isMark L q2 [44] = false := HM.out
        have HKL3 := KL.kept (w' := w3) (b3.kept' (B := w.heap.size) (by omega)) hg0 HKL.out
        have hs3 := b3.size
        clear r3 b3
        go_wp2_with fail
        exact bodyPost_ret (v := .slice (some ⟨g0, 0, none⟩) (xs.map Prod.snd).length cp) (by simp [results, Tryz.results116, go_sem]) rfl ⟨g0, cp, rfl, ⟨hg0, by omega, HKL3⟩, HR3, h3⟩
      | true =>
        have HM := Lib.hid hm
        have hstep : listF L E gk c (xs.map Prod.snd) (q2 + 1) = some lr := by have h := HL2.out; unfold ListR at h; rw [if_pos hm] at h; exact h
        obtain ⟨n', r1, hgk, hf1, hf2⟩ := list_step hstep
        have HF := Lib.hid hf1
        have HK := Lib.hid hf2
        have HP1 := Lib.hid (HP.out n' (by omega))
        clear hm HL2 hstep hf1 hf2
        go_wp2_with fail
        refine (hT.out _ HR2.out).mono ?_; rintro e w3 ⟨rfl, r3, b3⟩
        have HR3 : Hid (RL w3 R g cap B L E (q2 + 1)) := Lib.hid (by have h := r3; rw [show isMark L q2 [44] = true from HM.out] at h; exact h)
        have h3 := h2.trans b3
        have HW3 := Lib.hid (HW2.out.but b3 (by omega))
        have y3 := h3.size
        have e1 : isMark L q2 [44] = true := HM.out
        clear r3 b3 HW2 HR2 h2 y2
        go_wp2_with fail
        refine (HP1.out _ (q2 + 1) r1 (by with_reducible repeat' (first | exact HR3.out | refine RL.far ?_ (by omega) _ _ | refine RL.alloc ?_ _ | refine RL.drewN ?_ _ | refine RL.drew ?_)) HF.out).mono ?_; rintro e w4 H4
        cases r1 with
        | bad z =>
          obtain ⟨rfl, b4⟩ := H4
          have hk2 : lr = .bad z := HK.out
          subst hk2
          exact ⟨rfl, rfl, But.trans (by (with_reducible repeat' (first | exact h3 | refine zBr ?_ _ _ | refine zBs ?_ (by omega) _ _ | refine zBa ?_ _ | refine zBn ?_ _ | refine zBd ?_))) b4⟩
        | ok u q4 =>
          obtain ⟨⟨d0, d1, d2, d3, d4, d5, dw, dA, dl, dc⟩, rfl, v4, r4, b4⟩ := H4
          have HR4 : Hid (RL w4 R g cap B L E q4) := Lib.hid r4
          clear r4
          have HVd4 : Hid (TV w4 (fun b => w3.heap.size ≤ b) ⟨d0, d1, d2, d3, d4, d5, dw, dA, dl, dc⟩ (some u)) := Lib.hid (v4.imp fun b hb => by have hb2 : _ ≤ b := hb; first | omega | (simp at hb2; omega))
          clear v4
          have b4' := b4
          have h4 : But R w w4 := But.trans (by (with_reducible repeat' (first | exact h3 | refine zBr ?_ _ _ | refine zBs ?_ (by omega) _ _ | refine zBa ?_ _ | refine zBn ?_ _ | refine zBd ?_))) b4
          have y4 : w.heap.size ≤ w4.heap.size := h4.size
          clear b4
          dsimp only [V8.val]
          have HW4 := Lib.hid (HW3.out.but b4' (by omega))
          have hlt5 : ∀ k, u5.ownBlock = some k → k < w3.heap.size := fun k hk => (HW3.out.own.lt k hk).2
          have HVV := Lib.hid (HVd4.out.imp (Q := fun b => w.heap.size ≤ b ∧ some b ≠ u5.ownBlock) fun b hb => ⟨Nat.le_trans y3 hb, fun e => by have := hlt5 b e.symm; have hb2 : w3.heap.size ≤ b := hb; omega⟩)
          clear HVd4 HW3 hlt5 b4'
          have HWA : ∀ ob, Hid (Row w.heap.size (w4.alloc ob) u5 xs) := fun ob => Lib.hid (HW4.out.but (But.of_below ((Below.refl _ _).alloc (Nat.le_refl _) ob)) (show R < w.heap.size by omega))
          go_wp2_with (at_builtin
                       refine wpList_append_own_at _ rfl _ _ 28 rfl w.heap.size 30 i0 (.agg #[.int .i64 0, .int .i64 0, .int .i64 0, .int .i64 0, .int .i64 0, .int .i64 0, .string ⟨#[]⟩, .slice none 0 0]) 8 88 Tryz.underlying28 HI.out HZ0.out HZ1.out HZ2.out rfl (by decide) _ _ _ rfl (HWA _).out.own
                         ⟨w4.heap.size, 0, none⟩ 1 1 (cells8 ⟨d0, d1, d2, d3, d4, d5, dw, dA, dl, dc⟩) rfl rfl ?c1 ?c2 ?c3 ?c4 ?c5 ?_)
          case c1 =>
            intro j u hj
            match j, hj with
            | 0, hj => simp [cells8] at hj; subst hj; simp [Addr.add, go_sem]
            | 1, hj => simp [cells8] at hj; subst hj; simp [Addr.add, go_sem]
            | 2, hj => simp [cells8] at hj; subst hj; simp [Addr.add, go_sem]
            | 3, hj => simp [cells8] at hj; subst hj; simp [Addr.add, go_sem]
            | 4, hj => simp [cells8] at hj; subst hj; simp [Addr.add, go_sem]
            | 5, hj => simp [cells8] at hj; subst hj; simp [Addr.add, go_sem]
            | 6, hj => simp [cells8] at hj; subst hj; simp [Addr.add, go_sem]
            | 7, hj => simp [cells8] at hj; subst hj; simp [Addr.add, go_sem]
          case c2 => intro u hu; simp [cells8] at hu; rcases hu with rfl | rfl | rfl | rfl | rfl | rfl | rfl | rfl <;> rfl
          case c3 => unfold maxLen; omega
          case c4 => omega
          case c5 => first | omega | (simp; omega)
          intro v' w5 hown5 hg5 _ hat5
          have HW5 := Lib.hid ((HWA _).out.push (HVV.out.kept (Kept.of_below ((Below.refl _ _).alloc (Nat.le_refl _) _))) hown5 hg5 (by simpa using hat5))
          have hob : ∀ k, u5.ownBlock = some k → w.heap.size ≤ k := fun k hk => (HW4.out.own.lt k hk).1
          have g5 : ∀ k, k < w4.heap.size → k < w.heap.size → w5.heap[k]? = w4.heap[k]? := fun k hk hk2 => by
            rw [hg5.block k (by simp; omega) (fun e => by have := hob k e.symm; omega), Below.heap_alloc w4 _ k hk]
          have hs5 : w4.heap.size ≤ w5.heap.size := by have := hg5.size; simp at this; omega
          have H5 : Hid (But R w w5) := Lib.hid ⟨hg5.os.trans h4.os, hg5.tape.trans h4.tape, hg5.output.trans h4.output, by omega, fun k hk hn => by rw [g5 k (by omega) hk]; exact h4.block k hk hn⟩
          have HR5 : Hid (RL w5 R g cap B L E q4) := Lib.hid (HR4.out.keep (g5 R HR4.out.rlt (by omega)) (g5 g HR4.out.lt (by have := HR4.out.lo.2.1; omega)) hs5 (HR4.out.st.keep fun p v _ hl hv => by
            rw [World.cell?_of_block (w := w4) (g5 p.block (Lib.lt_of_cell hv) (by omega))]; exact hv))
          have HN : Hid (ListR L E n' c ((xs ++ [((⟨d0, d1, d2, d3, d4, d5, dw, dA, dl, dc⟩ : V8), u)]).map Prod.snd) q4 lr) := Lib.hid (by have h := HK.out; rw [List.map_append]; exact h)
          clear hown5 hg5 hat5 HVV HW4 hob g5 HK HR4 HR3 h4 h3
          go_wp2_with fail
          go_roundg n'
          case measure => omega
          case rel => exact ⟨_, q4, by omega, by simp, by simp; omega, HW5, HR5, H5, HN⟩
end Go.Proofs.YtahdlijkohmdfaaGreatDoor
namespace Go.Proofs.YtahdlijkohmdfaaGreatDoor
open Go.RowKit

def threeF (L : List Tok) (E k : Nat) : Nat → List Tr → Nat → Option LRes
  | 0, ks, q => some (.ok ks q)
  | m + 1, ks, q => if isMark L q [44] = true then match lineF L E k 1 (q + 1) with
    | none => none
    | some (.bad z) => some (.bad z)
    | some (.ok t q) => threeF L E k m (ks ++ [t]) q
    else some (.bad (whr L E q))
def threeA (L : List Tok) (E k : Nat) (p : Nat) : Option LRes := match lineF L E k 1 p with
  | none => none
  | some (.bad z) => some (.bad z)
  | some (.ok t q) => threeF L E k 2 [t] q
theorem three_step {L : List Tok} {E k m : Nat} {ks : List Tr} {q : Nat} {lr : LRes} (h : threeF L E k (m + 1) ks q = some lr) :
    (isMark L q [44] = false ∧ lr = .bad (whr L E q)) ∨ (isMark L q [44] = true ∧ ∃ r1, lineF L E k 1 (q + 1) = some r1 ∧ (match r1 with | .bad z => lr = .bad z | .ok t q => threeF L E k m (ks ++ [t]) q = some lr)) := by
  rw [threeF] at h
  cases hm : isMark L q [44] with
  | false =>
    rw [if_neg (by rw [hm]; decide)] at h
    exact .inl ⟨rfl, (Option.some.inj h).symm⟩
  | true =>
    rw [if_pos hm] at h
    refine .inr ⟨rfl, ?_⟩
    cases hl : lineF L E k 1 (q + 1) with
    | none => rw [hl] at h; cases h
    | some r =>
      rw [hl] at h
      cases r with
      | bad z => exact ⟨_, rfl, (Option.some.inj h).symm⟩
      | ok t q => exact ⟨_, rfl, h⟩
theorem threeA_step {L : List Tok} {E k p : Nat} {lr : LRes} (h : threeA L E k p = some lr) :
    ∃ r1, lineF L E k 1 p = some r1 ∧ (match r1 with | .bad z => lr = .bad z | .ok t q => threeF L E k 2 [t] q = some lr) := by
  unfold threeA at h
  cases hl : lineF L E k 1 p with
  | none => rw [hl] at h; cases h
  | some r =>
    rw [hl] at h
    cases r with
    | bad z => exact ⟨_, rfl, (Option.some.inj h).symm⟩
    | ok t q => exact ⟨_, rfl, h⟩
set_option maxHeartbeats 2000000 in
set_option maxRecDepth 10000 in
theorem pthree_any {R g cap B : Nat} {L : List Tok} {E k : Nat} (hL : L.length ≤ 1000) (hc : cap ≤ maxLen) (hG : GoodXL L)
    (hP : TreeP R g cap B L E 32 #[.pointer (some ⟨R, 0, none⟩), .int .i64 0] (lineF L E k 1)) (w : World) (p : Nat) (lr : LRes) (hr : RL w R g cap B L E p) (hf : threeA L E k p = some lr) :
    Calls Tryz.prog 115 #[.pointer (some ⟨R, 0, none⟩)] w (PostL w R g cap B L E lr) := by
  obtain ⟨i0, hi0, hz0, hz1, hz2⟩ := info_parts tree_info
  have HI := Lib.hid hi0
  have HZ0 := Lib.hid hz0
  have HZ1 := Lib.hid hz1
  have HZ2 := Lib.hid hz2
  clear hi0 hz0 hz1 hz2
  obtain ⟨r1, hf1, hf2⟩ := threeA_step hf
  have HP := Lib.hid hP
  have HF := Lib.hid hf1
  have HK := Lib.hid hf2
  clear hP hf hf1 hf2
  have HR := Lib.hid hr
  have lR := hr.lo.1
  have lB := hr.lo.2.2
  clear hr
  go_enter Tryz.func115, Tryz.ntmps115
  go_wp2_with fail
  refine (HP.out _ p r1 (by with_reducible repeat' (first | exact HR.out | refine RL.far ?_ (by omega) _ _ | refine RL.alloc ?_ _ | refine RL.drewN ?_ _ | refine RL.drew ?_)) HF.out).mono ?_; rintro e w1 H1
  cases r1 with
  | bad z =>
    obtain ⟨rfl, b1⟩ := H1
    have hk2 : lr = .bad z := HK.out
    subst hk2
    exact ⟨rfl, rfl, But.trans (by (with_reducible repeat' (first | exact But.refl _ _ | refine zBr ?_ _ _ | refine zBs ?_ (by omega) _ _ | refine zBa ?_ _ | refine zBn ?_ _ | refine zBd ?_))) b1⟩
  | ok t q =>
    obtain ⟨⟨x0, x1, x2, x3, x4, x5, xw, xA, xl, xc⟩, rfl, v1, r1, b1⟩ := H1
    have HR1 : Hid (RL w1 R g cap B L E q) := Lib.hid r1
    clear r1
    have HVx1 : Hid (TV w1 (fun b => w.heap.size ≤ b) ⟨x0, x1, x2, x3, x4, x5, xw, xA, xl, xc⟩ (some t)) := Lib.hid (v1.imp fun b hb => by have hb2 : _ ≤ b := hb; first | omega | (simp at hb2; omega))
    clear v1
    have b1' := b1
    have h1 : But R w w1 := But.trans (by (with_reducible repeat' (first | exact But.refl _ _ | refine zBr ?_ _ _ | refine zBs ?_ (by omega) _ _ | refine zBa ?_ _ | refine zBn ?_ _ | refine zBd ?_))) b1
    have y1 : w.heap.size ≤ w1.heap.size := h1.size
    clear b1
    dsimp only [V8.val]
    go_wp2_with fail
    have HRow := Lib.hid (Row.one y1 HVx1.out)
    have HKK : Hid (threeF L E k 2 [t] q = some lr) := Lib.hid HK.out
    clear HVx1 HK
    go_loopg [3] 2 (fun n v wr => ∃ (xs : List (V8 × Tr)) (q : Nat), xs.length + n = 3 ∧ n ≤ 2 ∧ Hid (Row w.heap.size wr v xs) ∧ Hid (RL wr R g cap B L E q) ∧ Hid (But R w wr) ∧ Hid (threeF L E k n (xs.map Prod.snd) q = some lr))
    case atStart =>
      exact ⟨[(⟨x0, x1, x2, x3, x4, x5, xw, xA, xl, xc⟩, t)], q, rfl, Nat.le_refl _, HRow, Lib.hid (HR1.out.alloc _), Lib.hid (h1.alloc _), HKK⟩
    case round =>
      clear HRow HKK HR1 h1 y1 HF
      obtain ⟨xs, q2, hlen, hn, HW2, HR2, H2, HL2⟩ := hrel
      have h2 := H2.out
      have y2 := h2.size
      clear H2
      have hne : xs ≠ [] := by rintro rfl; simp at hlen; omega
      obtain ⟨g0, cp, hv, hg0, hg1, hkl⟩ := HW2.out.kids hne
      subst hv
      have HKL := Lib.hid hkl
      clear hkl
      cases gk with
      | zero =>
        have hl3 : xs.length = 3 := by omega
        have hlr : lr = .ok (xs.map Prod.snd) q2 := (Option.some.inj HL2.out).symm
        subst hlr
        have e3 : (xs.map Prod.snd).length = 3 := by simp [hl3]
        have HEE := Lib.hid e3
        have HR3 := HR2.out
        rw [hl3]
        clear e3 HW2 HL2
        go_wp2_with fail
        exact bodyPost_ret (v := .slice (some ⟨g0, 0, none⟩) 3 cp) (by simp [results, Tryz.results115, go_sem]) rfl ⟨g0, cp, by rw [HEE.out], ⟨hg0, hg1, HKL.out⟩, HR3, h2⟩
      | succ n' =>
        have hl3 : (xs.length : Int) < 3 := by omega
        clear HKL
        rcases three_step HL2.out with ⟨hm, hlr⟩ | ⟨hm, r1, hf1, hf2⟩
        · subst hlr
          have HN := Lib.hid (pmust_off hL hc hG ⟨#[44]⟩ (by decide) (by decide) HR2.out hm)
          clear hm HL2 HW2
          go_wp2_with fail
          refine HN.out.mono ?_; rintro e w9 ⟨rfl, b9⟩
          exact ⟨rfl, rfl, h2.trans b9⟩
        · have HN := Lib.hid (pmust_on hL hc hG ⟨#[44]⟩ (by decide) (by decide) HR2.out hm)
          have HF := Lib.hid hf1
          have HK := Lib.hid hf2
          clear hm HL2 hf1 hf2
          go_wp2_with fail
          refine HN.out.mono ?_; rintro e w3 ⟨rfl, r3, b3⟩
          have HR3 : Hid (RL w3 R g cap B L E (q2 + 1)) := Lib.hid r3
          have h3 := h2.trans b3
          have HW3 := Lib.hid (HW2.out.but b3 (by omega))
          have y3 := h3.size
          clear r3 b3 HW2 HR2 h2 y2
          go_wp2_with fail
          refine (HP.out _ (q2 + 1) r1 (by with_reducible repeat' (first | exact HR3.out | refine RL.far ?_ (by omega) _ _ | refine RL.alloc ?_ _ | refine RL.drewN ?_ _ | refine RL.drew ?_)) HF.out).mono ?_; rintro e w4 H4
          cases r1 with
          | bad z =>
            obtain ⟨rfl, b4⟩ := H4
            have hk2 : lr = .bad z := HK.out
            subst hk2
            exact ⟨rfl, rfl, But.trans (by (with_reducible repeat' (first | exact h3 | refine zBr ?_ _ _ | refine zBs ?_ (by omega) _ _ | refine zBa ?_ _ | refine zBn ?_ _ | refine zBd ?_))) b4⟩
          | ok u q4 =>
            obtain ⟨⟨d0, d1, d2, d3, d4, d5, dw, dA, dl, dc⟩, rfl, v4, r4, b4⟩ := H4
            have HR4 : Hid (RL w4 R g cap B L E q4) := Lib.hid r4
            clear r4
            have HVd4 : Hid (TV w4 (fun b => w3.heap.size ≤ b) ⟨d0, d1, d2, d3, d4, d5, dw, dA, dl, dc⟩ (some u)) := Lib.hid (v4.imp fun b hb => by have hb2 : _ ≤ b := hb; first | omega | (simp at hb2; omega))
            clear v4
            have b4' := b4
            have h4 : But R w w4 := But.trans (by (with_reducible repeat' (first | exact h3 | refine zBr ?_ _ _ | refine zBs ?_ (by omega) _ _ | refine zBa ?_ _ | refine zBn ?_ _ | refine zBd ?_))) b4
            have y4 : w.heap.size ≤ w4.heap.size := h4.size
            clear b4
            dsimp only [V8.val]
            have HW4 := Lib.hid (HW3.out.but b4' (by omega))
            have hlt5 : ∀ k, (Value.slice (some ⟨g0, 0, none⟩) xs.length cp).ownBlock = some k → k < w3.heap.size := fun k hk => (HW3.out.own.lt k hk).2
            have HVV := Lib.hid (HVd4.out.imp (Q := fun b => w.heap.size ≤ b ∧ some b ≠ (Value.slice (some ⟨g0, 0, none⟩) xs.length cp).ownBlock) fun b hb => ⟨Nat.le_trans y3 hb, fun e => by have := hlt5 b e.symm; have hb2 : w3.heap.size ≤ b := hb; omega⟩)
            clear HVd4 HW3 hlt5 b4'
            have HWA : ∀ ob, Hid (Row w.heap.size (w4.alloc ob) (Value.slice (some ⟨g0, 0, none⟩) xs.length cp) xs) := fun ob => Lib.hid (HW4.out.but (But.of_below ((Below.refl _ _).alloc (Nat.le_refl _) ob)) (show R < w.heap.size by omega))
            go_wp2_with (at_builtin
                         refine wpList_append_own_at _ rfl _ _ 28 rfl w.heap.size 30 i0 (.agg #[.int .i64 0, .int .i64 0, .int .i64 0, .int .i64 0, .int .i64 0, .int .i64 0, .string ⟨#[]⟩, .slice none 0 0]) 8 88 Tryz.underlying28 HI.out HZ0.out HZ1.out HZ2.out rfl (by decide) _ _ _ rfl (HWA _).out.own
                           ⟨w4.heap.size, 0, none⟩ 1 1 (cells8 ⟨d0, d1, d2, d3, d4, d5, dw, dA, dl, dc⟩) rfl rfl ?c1 ?c2 ?c3 ?c4 ?c5 ?_)
            case c1 =>
              intro j u hj
              match j, hj with
              | 0, hj => simp [cells8] at hj; subst hj; simp [Addr.add, go_sem]
              | 1, hj => simp [cells8] at hj; subst hj; simp [Addr.add, go_sem]
              | 2, hj => simp [cells8] at hj; subst hj; simp [Addr.add, go_sem]
              | 3, hj => simp [cells8] at hj; subst hj; simp [Addr.add, go_sem]
              | 4, hj => simp [cells8] at hj; subst hj; simp [Addr.add, go_sem]
              | 5, hj => simp [cells8] at hj; subst hj; simp [Addr.add, go_sem]
              | 6, hj => simp [cells8] at hj; subst hj; simp [Addr.add, go_sem]
              | 7, hj => simp [cells8] at hj; subst hj; simp [Addr.add, go_sem]
            case c2 => intro u hu; simp [cells8] at hu; rcases hu with rfl | rfl | rfl | rfl | rfl | rfl | rfl | rfl <;> rfl
            case c3 => unfold maxLen; omega
            case c4 => omega
            case c5 => first | omega | (simp; omega)
            intro v' w5 hown5 hg5 _ hat5
            have HW5 := Lib.hid ((HWA _).out.push (HVV.out.kept (Kept.of_below ((Below.refl _ _).alloc (Nat.le_refl _) _))) hown5 hg5 (by simpa using hat5))
            have hob : ∀ k, (Value.slice (some ⟨g0, 0, none⟩) xs.length cp).ownBlock = some k → w.heap.size ≤ k := fun k hk => (HW4.out.own.lt k hk).1
            have g5 : ∀ k, k < w4.heap.size → k < w.heap.size → w5.heap[k]? = w4.heap[k]? := fun k hk hk2 => by
              rw [hg5.block k (by simp; omega) (fun e => by have := hob k e.symm; omega), Below.heap_alloc w4 _ k hk]
            have hs5 : w4.heap.size ≤ w5.heap.size := by have := hg5.size; simp at this; omega
            have H5 : Hid (But R w w5) := Lib.hid ⟨hg5.os.trans h4.os, hg5.tape.trans h4.tape, hg5.output.trans h4.output, by omega, fun k hk hn => by rw [g5 k (by omega) hk]; exact h4.block k hk hn⟩
            have HR5 : Hid (RL w5 R g cap B L E q4) := Lib.hid (HR4.out.keep (g5 R HR4.out.rlt (by omega)) (g5 g HR4.out.lt (by have := HR4.out.lo.2.1; omega)) hs5 (HR4.out.st.keep fun p v _ hl hv => by
              rw [World.cell?_of_block (w := w4) (g5 p.block (Lib.lt_of_cell hv) (by omega))]; exact hv))
            have HN2 : Hid (threeF L E k n' ((xs ++ [((⟨d0, d1, d2, d3, d4, d5, dw, dA, dl, dc⟩ : V8), u)]).map Prod.snd) q4 = some lr) := Lib.hid (by have h := HK.out; rw [List.map_append]; exact h)
            clear hown5 hg5 hat5 HVV HW4 hob g5 HK HR4 HR3 h4 h3 HN
            go_wp2_with fail
            go_roundg n'
            case measure => omega
            case rel => exact ⟨_, q4, by simp; omega, by omega, HW5, HR5, H5, HN2⟩
end Go.Proofs.YtahdlijkohmdfaaGreatDoor
