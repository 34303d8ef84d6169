/- Texts joined: NdK, NdE, NdJk, NdJm. -/
import Derived.Test.YtjgadggehpmdkaaGreatDoorTj03
import Derived.Test.YtjgadggehpmdkaaGreatDoorTj02
import Derived.Test.YtjgadggehpmdkaaGreatDoorTj01
set_option linter.all false
namespace Go.Proofs.YtjgadggehpmdkaaGreatDoor
open Go.RowKit
section
variable {w w' : World} {P Q : Nat → Prop} {m gN cN gB cB room : Nat} {nds : List Nd} {bs : List Bool}
theorem RM.mono (h : RM w P m gN cN gB cB room nds bs) (hpq : ∀ g, P g → Q g) : RM w Q m gN cN gB cB room nds bs :=
  { h with
    pM := hpq _ h.pM
    pN := hpq _ h.pN
    pB := hpq _ h.pB
    rows := fun i n hi => by
      obtain ⟨B, cb, C, cc, h4, hr, hn⟩ := h.rows i n hi
      exact ⟨B, cb, C, cc, h4, hr.mono fun g hg _ => ⟨hpq g hg.1, hg.2⟩, hn.mono fun g hg _ => ⟨hpq g hg.1, hg.2⟩⟩ }
theorem RM.put (h : RM w P m gN cN gB cB room nds bs) {i : Nat} (hi : i < bs.length) {x : Nd} {A B : Option Addr} {ca cb : Nat} (hA : RowI w (fun g => P g ∧ g ≠ m ∧ g ≠ gN ∧ g ≠ gB) A x.refs) (hB : RowI w (fun g => P g ∧ g ≠ m ∧ g ≠ gN ∧ g ≠ gB) B x.nums)
    (hw : x.refs.length ≤ 1000000 ∧ x.nums.length ≤ 1000000) :
    RM ((set4 w gN (i * 4) (.int .i64 x.kind) (.slice A x.refs.length ca) (.slice B x.nums.length cb) (.string ⟨x.text.toArray⟩)).setCell ⟨gB, i, none⟩ (.bool true)) P m gN cN gB cB room (nds.set i x) (bs.set i true) := by
  have hbut : ButS (fun g => g = gN ∨ g = gB) w ((set4 w gN (i * 4) (.int .i64 x.kind) (.slice A x.refs.length ca) (.slice B x.nums.length cb) (.string ⟨x.text.toArray⟩)).setCell ⟨gB, i, none⟩ (.bool true)) :=
    ((ButS.refl _ w).set4 (.inl (.inl rfl))).setCell (p := ⟨gB, i, none⟩) (.inl (.inr rfl)) _
  have hfr : ∀ p, ((set4 w gN (i * 4) (.int .i64 x.kind) (.slice A x.refs.length ca) (.slice B x.nums.length cb) (.string ⟨x.text.toArray⟩)).setCell ⟨gB, i, none⟩ (.bool true)).frozen? p = w.frozen? p := fun p => by rw [World.frozen?_setCell, set4_frozen]
  have hkeep : Kept w ((set4 w gN (i * 4) (.int .i64 x.kind) (.slice A x.refs.length ca) (.slice B x.nums.length cb) (.string ⟨x.text.toArray⟩)).setCell ⟨gB, i, none⟩ (.bool true)) (fun g => P g ∧ g ≠ m ∧ g ≠ gN ∧ g ≠ gB) := hbut.keptQ fun g hg e => by rcases e with e | e; exact hg.2.2.1 e; exact hg.2.2.2 e
  have hsz := hbut.size
  have hlen := h.len
  have hcN : ∀ p : Addr, p.block = gN → ((set4 w gN (i * 4) (.int .i64 x.kind) (.slice A x.refs.length ca) (.slice B x.nums.length cb) (.string ⟨x.text.toArray⟩)).setCell ⟨gB, i, none⟩ (.bool true)).cell? p = (set4 w gN (i * 4) (.int .i64 x.kind) (.slice A x.refs.length ca) (.slice B x.nums.length cb) (.string ⟨x.text.toArray⟩)).cell? p := fun p hp => World.cell?_setCell_other _ _ _ _ fun e => h.nNB (by rw [← hp, ← e])
  have hmm : ¬ (m = gN ∨ m = gB) := fun e => by rcases e with e | e; exact h.nMN e; exact h.nMB e
  refine ⟨hbut.cell hmm h.c0, by rw [List.length_set]; exact hbut.cell hmm h.c1, by rw [List.length_set]; exact hbut.cell hmm h.c2, fun j => by rw [hfr]; exact h.fM j, fun j => by rw [hfr]; exact h.fN j, fun j => by rw [hfr]; exact h.fB j, h.pM, h.pN, h.pB, h.nMN, h.nMB, h.nNB, Nat.lt_of_lt_of_le h.lN hsz, Nat.lt_of_lt_of_le h.lB hsz, ?_, ?_, by rw [List.length_set, List.length_set]; exact hlen, by rw [List.length_set]; exact h.one, by rw [List.length_set]; exact h.cap, h.small, ?_, by rw [List.length_set]; exact h.room'⟩
  · intro j n hj
    by_cases e : i = j
    · subst e
      rw [List.getElem?_set_self (by omega)] at hj
      obtain rfl := Option.some.inj hj
      obtain ⟨B', cb', C', cc', ⟨q0, q1, q2, q3⟩, _⟩ := h.rows i _ (List.getElem?_eq_getElem (by omega))
      obtain ⟨r0, r1, r2, r3⟩ := set4_near (a := .int .i64 x.kind) (b := .slice A x.refs.length ca) (c := .slice B x.nums.length cb) (d := .string ⟨x.text.toArray⟩) q0 q1 q2 q3
      exact ⟨A, ca, B, cb, ⟨(hcN _ rfl).trans r0, (hcN _ rfl).trans r1, (hcN _ rfl).trans r2, (hcN _ rfl).trans r3⟩, hA.kept hkeep, hB.kept hkeep⟩
    · rw [List.getElem?_set_ne e] at hj
      obtain ⟨B', cb', C', cc', ⟨q0, q1, q2, q3⟩, hr, hn⟩ := h.rows j n hj
      have far : ∀ k, k < 4 → (set4 w gN (i * 4) (.int .i64 x.kind) (.slice A x.refs.length ca) (.slice B x.nums.length cb) (.string ⟨x.text.toArray⟩)).cell? ⟨gN, j * 4 + k, none⟩ = w.cell? ⟨gN, j * 4 + k, none⟩ := fun k hk => set4_far fun l hl e' => by
        have := congrArg Addr.off e'
        simp at this
        omega
      exact ⟨B', cb', C', cc', ⟨((hcN _ rfl).trans (far 0 (by decide))).trans q0, ((hcN _ rfl).trans (far 1 (by decide))).trans q1, ((hcN _ rfl).trans (far 2 (by decide))).trans q2, ((hcN _ rfl).trans (far 3 (by decide))).trans q3⟩, hr.kept hkeep, hn.kept hkeep⟩
  · intro j b hj
    by_cases e : i = j
    · subst e
      rw [List.getElem?_set_self hi] at hj
      obtain rfl := Option.some.inj hj
      have q := h.bits i _ (List.getElem?_eq_getElem hi)
      exact World.cell?_setCell_same _ _ _ ((set4_far fun l hl e' => h.nNB (by have := congrArg Addr.block e'; exact this.symm)).trans q)
    · rw [List.getElem?_set_ne e] at hj
      have q := h.bits j _ hj
      rw [World.cell?_setCell_other _ _ _ _ (fun e' => e (by have := congrArg Addr.off e'; exact this))]
      exact (set4_far fun l hl e' => h.nNB (by have := congrArg Addr.block e'; exact this.symm)).trans q
  · intro n hn
    obtain ⟨j, hj⟩ := List.getElem?_of_mem hn
    by_cases e : i = j
    · subst e
      rw [List.getElem?_set_self (by omega)] at hj
      obtain rfl := Option.some.inj hj
      exact hw
    · rw [List.getElem?_set_ne e] at hj
      exact h.wide n (List.mem_of_getElem? hj)
end
end Go.Proofs.YtjgadggehpmdkaaGreatDoor
namespace Go.Proofs.YtjgadggehpmdkaaGreatDoor
def Eqv (s t : Sh) : Prop := ∀ h, ndAt s h = ndAt t h
theorem Eqv.refl (s : Sh) : Eqv s s := fun _ => rfl
theorem Eqv.symm {s t : Sh} (h : Eqv s t) : Eqv t s := fun x => (h x).symm
theorem Eqv.trans {s t u : Sh} (h : Eqv s t) (k : Eqv t u) : Eqv s u := fun x => (h x).trans (k x)
theorem Eqv.liveE {s t : Sh} (h : Eqv s t) (x : Int) : live s x = live t x := by
  show (ndAt s x).isSome = (ndAt t x).isSome
  rw [h x]
theorem at_some {s : Sh} {i : Nat} {n : Nd} : s[i]? = some (some n) ↔ ndAt s ((i : Int) + 1) = some n := by
  rw [ndAt_succ]
  cases s[i]? with
  | none => simp
  | some o => simp
theorem Eqv.fndE {s t : Sh} (h : Eqv s t) (x : Nd) : fnd s x = fnd t x := by
  by_cases e : fnd s x = 0
  · rw [e]
    exact (fnd_none fun j hj => fnd_zero e j (at_some.2 ((h _).trans (at_some.1 hj)))).symm
  · unfold fnd at e
    cases q : s.findIdx? (fun o => o == some x) with
    | none => rw [q] at e; exact absurd rfl e
    | some i =>
      rw [List.findIdx?_eq_some_iff_getElem] at q
      obtain ⟨hl, hx, hj⟩ := q
      have h1 : s[i]? = some (some x) := by rw [List.getElem?_eq_getElem hl]; simpa using hx
      have h2 : ∀ j : Nat, j < i → s[j]? ≠ some (some x) := fun j hji hq => by
        have := hj j hji
        obtain ⟨hjl, hjv⟩ := List.getElem?_eq_some_iff.1 hq
        rw [hjv] at this
        simp at this
      rw [fnd_at h1 h2]
      exact (fnd_at (at_some.2 ((h _).symm.trans (at_some.1 h1))) fun j hji hq => h2 j hji (at_some.2 ((h _).trans (at_some.1 hq)))).symm
theorem freeH_least {s : Sh} {h : Nat} (h1 : 1 ≤ h) (hd : live s (h : Int) = false) (hb : ∀ k : Nat, 1 ≤ k → k < h → live s (k : Int) = true) : freeH s = h := by
  have hp := freeH_pos s
  have hf : live s (freeH s : Int) = false := by unfold live; rw [freeH_dead]; rfl
  rcases Nat.lt_trichotomy (freeH s) h with e | e | e
  · rw [hb _ hp.1 e] at hf; cases hf
  · exact e
  · exfalso
    obtain ⟨j, rfl⟩ : ∃ j, h = j + 1 := ⟨h - 1, by omega⟩
    have hjl : j < s.length := by omega
    have hn : s[j]? = some none := by
      rw [show ((j + 1 : Nat) : Int) = (j : Int) + 1 by omega] at hd
      unfold live at hd
      rw [ndAt_succ, List.getElem?_eq_getElem hjl] at hd
      rw [List.getElem?_eq_getElem hjl]
      cases q : s[j] with
      | none => rfl
      | some n => rw [q] at hd; cases hd
    rcases freeH_cases s with ⟨i, hi, e'⟩ | ⟨_, hn'⟩
    · have hk := hb
      unfold freeH at e e'
      cases q : s.findIdx? (fun o => o.isNone) with
      | none => rw [List.findIdx?_eq_none_iff] at q; have := q _ (List.mem_of_getElem? hn); simp at this
      | some i' =>
        rw [q] at e
        rw [List.findIdx?_eq_some_iff_getElem] at q
        have := q.2.2 j (by simp at e; omega)
        obtain ⟨hjl', hjv⟩ := List.getElem?_eq_some_iff.1 hn
        rw [hjv] at this
        simp at this
    · exact hn' j hn
theorem freeH_below {s : Sh} {k : Nat} (h1 : 1 ≤ k) (hk : k < freeH s) : live s (k : Int) = true := by
  obtain ⟨j, rfl⟩ : ∃ j, k = j + 1 := ⟨k - 1, by omega⟩
  cases e : live s ((j + 1 : Nat) : Int) with
  | true => rfl
  | false =>
    exfalso
    have hp := freeH_pos s
    have hjl : j < s.length := by omega
    have hn : s[j]? = some none := by
      rw [show ((j + 1 : Nat) : Int) = (j : Int) + 1 by omega] at e
      unfold live at e
      rw [ndAt_succ, List.getElem?_eq_getElem hjl] at e
      rw [List.getElem?_eq_getElem hjl]
      cases q : s[j] with
      | none => rfl
      | some n => rw [q] at e; cases e
    unfold freeH at hk
    cases q : s.findIdx? (fun o => o.isNone) with
    | none => rw [List.findIdx?_eq_none_iff] at q; have := q _ (List.mem_of_getElem? hn); simp at this
    | some i' =>
      rw [q] at hk
      rw [List.findIdx?_eq_some_iff_getElem] at q
      have := q.2.2 j (by simp at hk; omega)
      obtain ⟨hjl', hjv⟩ := List.getElem?_eq_some_iff.1 hn
      rw [hjv] at this
      simp at this
theorem Eqv.free {s t : Sh} (h : Eqv s t) : freeH s = freeH t :=
  freeH_least (freeH_pos t).1 (by rw [h.liveE]; unfold live; rw [freeH_dead]; rfl) fun k h1 hk => by rw [h.liveE]; exact freeH_below h1 hk
theorem Eqv.setHE {s t : Sh} (h : Eqv s t) (x : Nd) : Eqv (setH s (freeH s) x) (setH t (freeH t) x) := fun k => by
  rw [setH_at, setH_at, h.free, h k]
theorem Eqv.one {room : Nat} {s t : Sh} (h : Eqv s t) (x : Nd) : (oneA room s x = none ∧ oneA room t x = none) ∨ ∃ s' t' k, oneA room s x = some (s', k) ∧ oneA room t x = some (t', k) ∧ Eqv s' t' := by
  unfold oneA
  rw [h.fndE, h.free]
  by_cases e : fnd t x ≠ 0
  · rw [if_pos e, if_pos e]; exact .inr ⟨_, _, _, rfl, rfl, h⟩
  · rw [if_neg e, if_neg e]
    by_cases e' : room < freeH t
    · rw [if_pos e', if_pos e']; exact .inl ⟨rfl, rfl⟩
    · rw [if_neg e', if_neg e']
      have := h.setHE x
      rw [h.free] at this
      exact .inr ⟨_, _, _, rfl, rfl, this⟩
theorem Eqv.putLE {room : Nat} : ∀ {l : List Nd} {s t : Sh} {out : List Int}, Eqv s t → (putL room s out l = none ∧ putL room t out l = none) ∨ ∃ s' t' o, putL room s out l = some (s', o) ∧ putL room t out l = some (t', o) ∧ Eqv s' t'
  | [], s, t, out, h => .inr ⟨s, t, out, rfl, rfl, h⟩
  | n :: l, s, t, out, h => by
    rw [putL, putL]
    rcases h.one (room := room) (asPut out n) with ⟨e1, e2⟩ | ⟨s', t', k, e1, e2, h'⟩
    · rw [e1, e2]; exact .inl ⟨rfl, rfl⟩
    · rw [e1, e2]; exact Eqv.putLE h'
theorem Eqv.wrong {s t : Sh} (h : Eqv s t) : ∀ (l : List Nd) (i : Nat), wrongF s i l = wrongF t i l
  | [], _ => rfl
  | n :: l, i => by
    rw [wrongF, wrongF, h.wrong l (i + 1)]
    congr 2
    have : okRef s i = okRef t i := funext fun r => by unfold okRef; rw [h.liveE]
    rw [this]
theorem Eqv.put {room : Nat} {s t : Sh} (h : Eqv s t) (l : List Nd) : Eqv (putA room s l).1 (putA room t l).1 ∧ (putA room s l).2 = (putA room t l).2 := by
  unfold putA
  rw [h.wrong]
  split
  · exact ⟨h, rfl⟩
  · rcases h.putLE (room := room) (l := l) (out := []) with ⟨e1, e2⟩ | ⟨s', t', o, e1, e2, h'⟩
    · rw [e1, e2]; exact ⟨h, rfl⟩
    · rw [e1, e2]; exact ⟨h', rfl⟩
theorem tru_pad : ∀ (l : List Bool) (k : Int) (m : Nat), tru k (l ++ List.replicate m false) = tru k l
  | [], k, 0 => rfl
  | [], k, m + 1 => by rw [List.nil_append, List.replicate_succ, tru]; exact tru_pad [] (k + 1) m
  | true :: l, k, m => by rw [List.cons_append, tru, tru, tru_pad l]
  | false :: l, k, m => by rw [List.cons_append, tru, tru, tru_pad l]
theorem liveA_range (s : Sh) (n : Nat) (hn : s.length ≤ n) : liveA s = tru 1 ((List.range n).map fun i : Nat => live s ((i : Int) + 1)) := by
  unfold liveA
  rw [liveF_tru, ← tru_pad (s.map Option.isSome) 1 (n - s.length)]
  congr 1
  apply List.ext_getElem?
  intro i
  by_cases hi : i < n
  · rw [List.getElem?_map, List.getElem?_range hi]
    show _ = some (live s ((i : Int) + 1))
    unfold live
    rw [ndAt_succ]
    by_cases hs : i < s.length
    · rw [List.getElem?_append_left (by simpa using hs), List.getElem?_map, List.getElem?_eq_getElem hs]; rfl
    · rw [List.getElem?_append_right (by simpa using hs), List.getElem?_replicate, if_pos (by simp; omega), List.getElem?_eq_none_iff.2 (by omega)]; rfl
  · rw [List.getElem?_eq_none_iff.2 (by simp; omega), List.getElem?_eq_none_iff.2 (by simp; omega)]
theorem Eqv.liveAE {s t : Sh} (h : Eqv s t) : liveA s = liveA t := by
  rw [liveA_range s (max s.length t.length) (by omega), liveA_range t (max s.length t.length) (by omega)]
  congr 2
  exact funext fun i => h.liveE _
theorem Eqv.rch {s t : Sh} (h : Eqv s t) {roots : List Int} {x : Int} (e : Rch s roots x) : Rch t roots x := by
  induction e with
  | root r hm hl => exact .root r hm (by rw [← h.liveE]; exact hl)
  | ref k r n _ hn hm hp ih => exact .ref k r n ih (by rw [← h k]; exact hn) hm hp
theorem Eqv.left {s t : Sh} (h : Eqv s t) (roots : List Int) : Eqv (leftA s roots) (leftA t roots) := fun x => by
  rw [left_at, left_at]
  by_cases e : Rch s roots x
  · rw [if_pos e, if_pos (h.rch e), h x]
  · rw [if_neg e, if_neg fun e' => e (h.symm.rch e')]
theorem Eqv.reach {s t : Sh} (h : Eqv s t) (roots : List Int) : reachA s roots = reachA t roots := (h.left roots).liveAE
theorem Eqv.sweep {s t : Sh} (h : Eqv s t) (roots : List Int) : Eqv (sweepA s roots).1 (sweepA t roots).1 ∧ (sweepA s roots).2 = (sweepA t roots).2 := by
  unfold sweepA
  have e : (fun r => decide (r = 0) || live s r) = (fun r => decide (r = 0) || live t r) := funext fun r => by rw [h.liveE]
  rw [e, h.liveAE, h.reach]
  split
  · exact ⟨h.left roots, rfl⟩
  · exact ⟨h, rfl⟩
end Go.Proofs.YtjgadggehpmdkaaGreatDoor
namespace Go.Proofs.YtjgadggehpmdkaaGreatDoor
open Go.RowKit
theorem int_info : (Tryz.prog.info? 3).map (fun i => (i.zero, i.size, i.bytes)) = some (some (.int .i64 0), 1, 8) := by kernel_rfl
theorem inW_one : ∀ q : Int, ∀ u ∈ inW q, u.oneCell' = true := by
  intro q u hu
  simp only [inW, List.mem_cons, List.not_mem_nil, or_false] at hu
  subst hu; rfl
end Go.Proofs.YtjgadggehpmdkaaGreatDoor
namespace Go.Proofs.YtjgadggehpmdkaaGreatDoor
open Go.RowKit
theorem atR_row {w : World} {g o : Nat} {l : List Int} (h : AtR inW 1 w g o l) : ∀ (i : Nat) (x : Int), l[i]? = some x → w.cell? ⟨g, o + i, none⟩ = some (.int .i64 x) := fun i b hi => by
  have := h i b hi 0 _ rfl
  rwa [Nat.mul_one, Nat.add_zero] at this
theorem own_rowI {w : World} {base : Nat} {v : Value} {L : List Int} (h : OwnR 3 1 inW base w v L) : ∃ (A : Option Addr) (cap : Nat), v = .slice A L.length cap ∧ RowI w (fun g => base ≤ g) A L := by
  rcases Nat.eq_zero_or_pos L.length with e | e
  · have hn : L = [] := List.length_eq_zero_iff.1 e
    obtain ⟨A, cap, rfl, _, _⟩ := OwnR.shape (f := inW) (fun _ => rfl) h
    exact ⟨A, cap, rfl, .inl hn⟩
  · obtain ⟨g, cap, rfl, hb, hg⟩ := World.ownsRow.form h e
    have ha := OwnR.at (f := inW) (fun _ => rfl) h rfl
    exact ⟨_, cap, rfl, .inr ⟨g, 0, rfl, hb, hg, atR_row ha⟩⟩
end Go.Proofs.YtjgadggehpmdkaaGreatDoor
