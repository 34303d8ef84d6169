/- Texts joined: RdJ. -/
import Derived.Test.YtahdlijkohmdfaaGreatDoorMp16
import Derived.Deep.RegionWith
import Derived.RegionDies
set_option linter.all false
set_option linter.unusedVariables false
set_option linter.unusedSimpArgs false
namespace Go.Proofs.YtahdlijkohmdfaaGreatDoor
open Go.RowKit

theorem ba_eq (l : List UInt8) (m : List UInt8) : ((⟨l.toArray⟩ : ByteArray) = ⟨m.toArray⟩) ↔ l = m := by
  constructor
  · intro h; have := congrArg ByteArray.data h; simpa using this
  · rintro rfl; rfl
theorem strV_lvl (l : List UInt8) : strV ⟨l.toArray⟩ = (lvl l : Int) - 1 := by
  have h0 : ∀ (m : List UInt8) (r : List ByteArray), (findS ⟨l.toArray⟩ ((⟨m.toArray⟩ : ByteArray) :: r)).isSome = (decide (l = m) || (findS ⟨l.toArray⟩ r).isSome) := fun m r => by
    rw [findS]
    by_cases h : l = m
    · rw [if_pos ((ba_eq l m).2 h)]; simp [h]
    · rw [if_neg (fun e => h ((ba_eq l m).1 e))]; simp [h]
  have hn : (findS ⟨l.toArray⟩ []).isSome = false := rfl
  have e0 : (findS ⟨l.toArray⟩ (strL 0)).isSome = (decide (l = [60]) || (decide (l = [60, 61]) || (decide (l = [61]) || (decide (l = [60, 62]) || (decide (l = [62, 61]) || (decide (l = [62]) || false)))))) := by
    show (findS ⟨l.toArray⟩ [⟨[60].toArray⟩, ⟨[60, 61].toArray⟩, ⟨[61].toArray⟩, ⟨[60, 62].toArray⟩, ⟨[62, 61].toArray⟩, ⟨[62].toArray⟩]).isSome = _
    rw [h0, h0, h0, h0, h0, h0, hn]
  have e1 : (findS ⟨l.toArray⟩ (strL 1)).isSome = (decide (l = [43]) || (decide (l = [45]) || false)) := by
    show (findS ⟨l.toArray⟩ [⟨[43].toArray⟩, ⟨[45].toArray⟩]).isSome = _
    rw [h0, h0, hn]
  have e2 : (findS ⟨l.toArray⟩ (strL 2)).isSome = (decide (l = [42]) || (decide (l = [47]) || false)) := by
    show (findS ⟨l.toArray⟩ [⟨[42].toArray⟩, ⟨[47].toArray⟩]).isSome = _
    rw [h0, h0, hn]
  unfold strV lvl
  rw [e0, e1, e2]
  by_cases c0 : l = [60] ∨ l = [60, 61] ∨ l = [61] ∨ l = [60, 62] ∨ l = [62, 61] ∨ l = [62]
  · rw [if_pos c0, if_pos (by simpa [or_assoc] using c0)]; rfl
  · rw [if_neg c0, if_neg (by simpa [or_assoc] using c0)]
    by_cases c1 : l = [43] ∨ l = [45]
    · rw [if_pos c1, if_pos (by simpa using c1)]; rfl
    · rw [if_neg c1, if_neg (by simpa using c1)]
      by_cases c2 : l = [42] ∨ l = [47]
      · rw [if_pos c2, if_pos (by simpa using c2)]; rfl
      · rw [if_neg c2, if_neg (by simpa using c2)]; rfl
set_option maxHeartbeats 2000000 in
set_option maxRecDepth 10000 in
theorem pexpr_top {R g cap B : Nat} {L : List Tok} {E k : Nat} (hL : L.length ≤ 1000) (hc : cap ≤ maxLen) (hG : GoodXL L) (hP : TreeP R g cap B L E 61 #[.pointer (some ⟨R, 0, none⟩)] (prefF L E k)) :
    TreeP R g cap B L E 32 #[.pointer (some ⟨R, 0, none⟩), .int .i64 3] (lineF L E (k + 1) 4) := by
  intro w p res hr hf
  rw [lineF, if_pos (by decide)] at hf
  have HP := Lib.hid hP
  have HF := Lib.hid hf
  clear hP hf
  have HR := Lib.hid hr
  have lR := hr.lo.1
  have lB := hr.lo.2.2
  clear hr
  go_enter Tryz.func32, Tryz.ntmps32
  go_wp2_with fail
  refine (HP.out _ p res (by with_reducible repeat' (first | exact HR.out | refine RL.far ?_ (by omega) _ _ | refine RL.alloc ?_ _ | refine RL.drewN ?_ _ | refine RL.drew ?_)) HF.out).mono ?_; rintro e w1 H1
  cases res with
  | bad z =>
    obtain ⟨rfl, b1⟩ := H1
    exact ⟨rfl, rfl, But.trans (by (with_reducible repeat' (first | exact But.refl _ _ | refine zBr ?_ _ _ | refine zBs ?_ (by omega) _ _ | refine zBa ?_ _ | refine zBn ?_ _ | refine zBd ?_))) b1⟩
  | ok t q =>
    obtain ⟨⟨x0, x1, x2, x3, x4, x5, xw, xA, xl, xc⟩, rfl, v1, r1, b1⟩ := H1
    have HR1 : Hid (RL w1 R g cap B L E q) := Lib.hid r1
    clear r1
    have HVx1 : Hid (TV w1 (fun b => w.heap.size < b) ⟨x0, x1, x2, x3, x4, x5, xw, xA, xl, xc⟩ (some t)) := Lib.hid (v1.imp fun b hb => by have hb2 : _ ≤ b := hb; first | omega | (simp at hb2; omega))
    clear v1
    have h1 : But R w w1 := But.trans (by (with_reducible repeat' (first | exact But.refl _ _ | refine zBr ?_ _ _ | refine zBs ?_ (by omega) _ _ | refine zBa ?_ _ | refine zBn ?_ _ | refine zBd ?_))) b1
    have y1 : w.heap.size ≤ w1.heap.size := h1.size
    have zk1 : w.heap.size < w1.heap.size := by have := b1.size; first | omega | (simp at this; omega)
    have Hk1 : C8 w1 (w.heap.size) (.int .i64 0) (.int .i64 0) (.int .i64 0) (.int .i64 0) (.int .i64 0) (.int .i64 0) (.string ⟨#[]⟩) (.slice none 0 0) := by refine ⟨?_, ?_, ?_, ?_, ?_, ?_, ?_, ?_⟩ <;> exact b1.cell (show w.heap.size ≠ R by omega) (by simp [go_sem])
    obtain ⟨k10, k11, k12, k13, k14, k15, k16, k17⟩ := Hk1
    have Hkf1 : F8 w1 (w.heap.size) := by refine ⟨?_, ?_, ?_, ?_, ?_, ?_, ?_, ?_⟩ <;> exact b1.frozen (show w.heap.size ≠ R by omega) (by first | omega | (simp; done) | (simp; omega)) (by simp [go_sem])
    obtain ⟨kf10, kf11, kf12, kf13, kf14, kf15, kf16, kf17⟩ := Hkf1
    clear b1
    dsimp only [V8.val]
    go_wp2_with fail
    exact bodyPost_ret (v := .agg #[.int .i64 x0, .int .i64 x1, .int .i64 x2, .int .i64 x3, .int .i64 x4, .int .i64 x5, .string xw, .slice xA xl xc]) (by simp [results, Tryz.results32, go_sem, k10, k11, k12, k13, k14, k15, k16, k17, zk1]) rfl ⟨⟨x0, x1, x2, x3, x4, x5, xw, xA, xl, xc⟩, rfl, ((HVx1.out.kept (by (with_reducible repeat' (first | exact Kept.refl _ _ | refine Kept.set1 ?_ (by omega) _ _ | refine Kept.setNew ?_ (by omega) _ _ | refine Kept.alloc ?_ _ | refine Kept.drewN ?_ _ | refine Kept.drew ?_)))).imp fun b (hb : w.heap.size < b) => Nat.le_of_lt hb), (by with_reducible repeat' (first | exact HR1.out | refine RL.far ?_ (by omega) _ _ | refine RL.alloc ?_ _ | refine RL.drewN ?_ _ | refine RL.drew ?_)), by (with_reducible repeat' (first | exact h1 | refine zBr ?_ _ _ | refine zBs ?_ (by omega) _ _ | refine zBa ?_ _ | refine zBn ?_ _ | refine zBd ?_))⟩
def LineR (L : List Tok) (E n lev : Nat) (t : Tr) (q : Nat) (res : Res) : Prop := restF L E n lev t q = some res
theorem line_stop {L : List Tok} {E n lev : Nat} {t : Tr} {q : Nat} {res : Res} (h : LineR L E n lev t q res) (hl : levelAt L q ≠ lev) : res = .ok t q := by
  unfold LineR at h
  cases n with
  | zero => rw [restF] at h; cases h
  | succ n => rw [restF, if_neg hl] at h; exact (Option.some.inj h).symm
theorem line_more {L : List Tok} {E n lev : Nat} {t : Tr} {q : Nat} {res : Res} (h : LineR L E n lev t q res) (hl : levelAt L q = lev) (h1 : 1 ≤ lev) :
    ∃ n' r1, n = n' + 1 ∧ q < L.length ∧ lineF L E n' (lev + 1) (q + 1) = some r1 ∧ (match r1 with | .bad z => res = .bad z | .ok t2 q2 => LineR L E n' lev (opT (tokAt L E q).text t t2) q2 res) := by
  unfold LineR at h
  cases n with
  | zero => rw [restF] at h; cases h
  | succ n =>
    have hp := level_lt hl h1
    have hu : L[q]? = some (L[q]'hp) := List.getElem?_eq_getElem hp
    have ht : (L.map Tok.text).getD q [] = (tokAt L E q).text := by rw [tokAt_in hu]; simp [List.getD_eq_getElem?_getD, hu]
    rw [restF, if_pos hl, ht] at h
    obtain ⟨r1, e1, e2⟩ := next_some h
    refine ⟨n, r1, rfl, hp, e1, ?_⟩
    cases r1 with
    | bad z => exact e2
    | ok t2 q2 => exact e2
structure LP (w wr : World) (R g cap B : Nat) (L : List Tok) (E O : Nat) (x : V8) (t : Tr) (q : Nat) : Prop where
  rl : RL wr R g cap B L E q
  but : But R w wr
  ho : O < wr.heap.size
  hk : w.heap.size < wr.heap.size
  tv : TV wr (fun b => w.heap.size < b ∧ b ≠ O) x (some t)
  k0 : wr.cell? ⟨w.heap.size, 0, none⟩ = some (.int .i64 0)
  k1 : wr.cell? ⟨w.heap.size, 1, none⟩ = some (.int .i64 0)
  k2 : wr.cell? ⟨w.heap.size, 2, none⟩ = some (.int .i64 0)
  k3 : wr.cell? ⟨w.heap.size, 3, none⟩ = some (.int .i64 0)
  k4 : wr.cell? ⟨w.heap.size, 4, none⟩ = some (.int .i64 0)
  k5 : wr.cell? ⟨w.heap.size, 5, none⟩ = some (.int .i64 0)
  k6 : wr.cell? ⟨w.heap.size, 6, none⟩ = some (.string ⟨#[]⟩)
  k7 : wr.cell? ⟨w.heap.size, 7, none⟩ = some (.slice none 0 0)
  kf0 : wr.frozen? ⟨w.heap.size, 0, none⟩ = false
  kf1 : wr.frozen? ⟨w.heap.size, 1, none⟩ = false
  kf2 : wr.frozen? ⟨w.heap.size, 2, none⟩ = false
  kf3 : wr.frozen? ⟨w.heap.size, 3, none⟩ = false
  kf4 : wr.frozen? ⟨w.heap.size, 4, none⟩ = false
  kf5 : wr.frozen? ⟨w.heap.size, 5, none⟩ = false
  kf6 : wr.frozen? ⟨w.heap.size, 6, none⟩ = false
  kf7 : wr.frozen? ⟨w.heap.size, 7, none⟩ = false
  o0 : wr.cell? ⟨O, 0, none⟩ = some (.int .i64 x.n0)
  o1 : wr.cell? ⟨O, 1, none⟩ = some (.int .i64 x.n1)
  o2 : wr.cell? ⟨O, 2, none⟩ = some (.int .i64 x.n2)
  o3 : wr.cell? ⟨O, 3, none⟩ = some (.int .i64 x.n3)
  o4 : wr.cell? ⟨O, 4, none⟩ = some (.int .i64 x.n4)
  o5 : wr.cell? ⟨O, 5, none⟩ = some (.int .i64 x.n5)
  o6 : wr.cell? ⟨O, 6, none⟩ = some (.string x.s)
  o7 : wr.cell? ⟨O, 7, none⟩ = some (.slice x.A x.len x.cap)
  of0 : wr.frozen? ⟨O, 0, none⟩ = false
  of1 : wr.frozen? ⟨O, 1, none⟩ = false
  of2 : wr.frozen? ⟨O, 2, none⟩ = false
  of3 : wr.frozen? ⟨O, 3, none⟩ = false
  of4 : wr.frozen? ⟨O, 4, none⟩ = false
  of5 : wr.frozen? ⟨O, 5, none⟩ = false
  of6 : wr.frozen? ⟨O, 6, none⟩ = false
  of7 : wr.frozen? ⟨O, 7, none⟩ = false
set_option maxHeartbeats 2000000 in
set_option maxRecDepth 10000 in
theorem pexpr_1 {R g cap B : Nat} {L : List Tok} {E k : Nat} (hL : L.length ≤ 1000) (hc : cap ≤ maxLen) (hG : GoodXL L) (hP : ∀ j, j ≤ k → TreeP R g cap B L E 32 #[.pointer (some ⟨R, 0, none⟩), .int .i64 1] (lineF L E j 2)) :
    TreeP R g cap B L E 32 #[.pointer (some ⟨R, 0, none⟩), .int .i64 0] (lineF L E (k + 1) 1) := by
  intro w p res hr hf
  rw [lineF, if_neg (by decide)] at hf
  obtain ⟨r1, hf1, hf2⟩ := next_some hf
  have HP := Lib.hid hP
  have HP1 := Lib.hid (hP k (Nat.le_refl _))
  have HF := Lib.hid hf1
  have HK := Lib.hid hf2
  clear hP hf hf1 hf2
  have HR := Lib.hid hr
  have lR := hr.lo.1
  have lB := hr.lo.2.2
  clear hr
  go_enter Tryz.func32, Tryz.ntmps32
  go_wp2_with fail
  refine (HP1.out _ p r1 (by with_reducible repeat' (first | exact HR.out | refine RL.far ?_ (by omega) _ _ | refine RL.alloc ?_ _ | refine RL.drewN ?_ _ | refine RL.drew ?_)) HF.out).mono ?_; rintro e w1 H1
  cases r1 with
  | bad z =>
    obtain ⟨rfl, b1⟩ := H1
    have hk : res = .bad z := HK.out
    subst hk
    exact ⟨rfl, rfl, But.trans (by (with_reducible repeat' (first | exact But.refl _ _ | refine zBr ?_ _ _ | refine zBs ?_ (by omega) _ _ | refine zBa ?_ _ | refine zBn ?_ _ | refine zBd ?_))) b1⟩
  | ok t q =>
    obtain ⟨⟨x0, x1, x2, x3, x4, x5, xw, xA, xl, xc⟩, rfl, v1, r1, b1⟩ := H1
    have HR1 : Hid (RL w1 R g cap B L E q) := Lib.hid r1
    clear r1
    have HVx1 : Hid (TV w1 (fun b => w.heap.size < b) ⟨x0, x1, x2, x3, x4, x5, xw, xA, xl, xc⟩ (some t)) := Lib.hid (v1.imp fun b hb => by have hb2 : _ ≤ b := hb; first | omega | (simp at hb2; omega))
    clear v1
    have h1 : But R w w1 := But.trans (by (with_reducible repeat' (first | exact But.refl _ _ | refine zBr ?_ _ _ | refine zBs ?_ (by omega) _ _ | refine zBa ?_ _ | refine zBn ?_ _ | refine zBd ?_))) b1
    have y1 : w.heap.size ≤ w1.heap.size := h1.size
    have zk1 : w.heap.size < w1.heap.size := by have := b1.size; first | omega | (simp at this; omega)
    have Hk1 : C8 w1 (w.heap.size) (.int .i64 0) (.int .i64 0) (.int .i64 0) (.int .i64 0) (.int .i64 0) (.int .i64 0) (.string ⟨#[]⟩) (.slice none 0 0) := by refine ⟨?_, ?_, ?_, ?_, ?_, ?_, ?_, ?_⟩ <;> exact b1.cell (show w.heap.size ≠ R by omega) (by simp [go_sem])
    obtain ⟨k10, k11, k12, k13, k14, k15, k16, k17⟩ := Hk1
    have Hkf1 : F8 w1 (w.heap.size) := by refine ⟨?_, ?_, ?_, ?_, ?_, ?_, ?_, ?_⟩ <;> exact b1.frozen (show w.heap.size ≠ R by omega) (by first | omega | (simp; done) | (simp; omega)) (by simp [go_sem])
    obtain ⟨kf10, kf11, kf12, kf13, kf14, kf15, kf16, kf17⟩ := Hkf1
    clear b1
    dsimp only [V8.val]
    go_wp2_with fail
    have HKK : Hid (LineR L E k 1 t q res) := Lib.hid HK.out
    go_loopg [6] k (fun n _ wr => ∃ (x : V8) (t : Tr) (q : Nat), n ≤ k ∧ Hid (LP w wr R g cap B L E w1.heap.size x t q) ∧ Hid (LineR L E n 1 t q res))
    case atStart =>
      refine ⟨⟨x0, x1, x2, x3, x4, x5, xw, xA, xl, xc⟩, t, q, Nat.le_refl _, Lib.hid ?_, HKK⟩
      exact ⟨HR1.out.alloc _, h1.alloc _, by simp, by simp; omega, by
        refine TV.imp (P := (fun b => w.heap.size < b ∧ b ≠ w1.heap.size)) ?_ fun b hb => hb
        exact (TV.fresh HVx1.out).kept ((Kept.refl _ _).alloc _), kc_alloc k10 _, kc_alloc k11 _, kc_alloc k12 _, kc_alloc k13 _, kc_alloc k14 _, kc_alloc k15 _, kc_alloc k16 _, kc_alloc k17 _, kf_alloc kf10 zk1 _, kf_alloc kf11 zk1 _, kf_alloc kf12 zk1 _, kf_alloc kf13 zk1 _, kf_alloc kf14 zk1 _, kf_alloc kf15 zk1 _, kf_alloc kf16 zk1 _, kf_alloc kf17 zk1 _, by simp [go_sem], by simp [go_sem], by simp [go_sem], by simp [go_sem], by simp [go_sem], by simp [go_sem], by simp [go_sem], by simp [go_sem], by simp [go_sem], by simp [go_sem], by simp [go_sem], by simp [go_sem], by simp [go_sem], by simp [go_sem], by simp [go_sem], by simp [go_sem]⟩
    case round =>
      clear k10 kf10 k11 kf11 k12 kf12 k13 kf13 k14 kf14 k15 kf15 k16 kf16 k17 kf17 HR1 HVx1 HK HKK h1 HF HP1
      obtain ⟨x, t, q, hn, HL, HN⟩ := hrel
      obtain ⟨c0, c1, c2, c3, c4, c5, cw, cA, cl, cc⟩ := x
      have lr := HL.out
      have h2 := lr.but
      have HR2 := Lib.hid lr.rl
      have y2 := h2.size
      have zo2 := lr.ho
      have zk2 := lr.hk
      have HO2 := Lib.hid lr.tv
      have k20 := lr.k0
      have k21 := lr.k1
      have k22 := lr.k2
      have k23 := lr.k3
      have k24 := lr.k4
      have k25 := lr.k5
      have k26 := lr.k6
      have k27 := lr.k7
      have kf20 := lr.kf0
      have kf21 := lr.kf1
      have kf22 := lr.kf2
      have kf23 := lr.kf3
      have kf24 := lr.kf4
      have kf25 := lr.kf5
      have kf26 := lr.kf6
      have kf27 := lr.kf7
      have o20 := lr.o0
      have o21 := lr.o1
      have o22 := lr.o2
      have o23 := lr.o3
      have o24 := lr.o4
      have o25 := lr.o5
      have o26 := lr.o6
      have o27 := lr.o7
      have of20 := lr.of0
      have of21 := lr.of1
      have of22 := lr.of2
      have of23 := lr.of3
      have of24 := lr.of4
      have of25 := lr.of5
      have of26 := lr.of6
      have of27 := lr.of7
      have no : w1.heap.size ≠ R := by omega
      have nko : w1.heap.size ≠ w.heap.size := by omega
      clear lr HL
      have hV := strV_lvl (tokAt L E q).text
      rw [lvl_text hG] at hV
      have HS := Lib.hid (strength_any R B wr ⟨(tokAt L E q).text.toArray⟩ HR2.out.st)
      rw [hV] at HS
      clear hV
      obtain ⟨t0, t4, t5⟩ := HR2.out.tok
      have hx := HR2.out.c
      have hle := HR2.out.le
      have hgl := HR2.out.lt
      have hrl := HR2.out.rlt
      have hNx := Lib.hid (pnext_any hL hc HR2.out)
      by_cases hv : levelAt L q = 1
      · skip
        obtain ⟨n', r1, hgk, hql, hf1, hf2⟩ := line_more HN.out hv (by decide)
        have HF := Lib.hid hf1
        have HK := Lib.hid hf2
        have HPn := Lib.hid (HP.out n' (by omega))
        generalize tokAt L E q = d at *
        have hv2 : (levelAt L q : Int) - 1 = 0 := by omega
        rw [hv2] at HS
        clear hv2 hv hf1 hf2 HN
        unfold tokV at hNx
        have xF : ∀ w : World, (Instr.field 61 (.agg #[.int .i64 d.kind, .int .i64 d.num, .int .i64 d.col, .int .i64 d.row, .string ⟨d.text.toArray⟩, .int .i64 (d.frm : Int)]) 3).run Tryz.prog w = .ok (.string ⟨d.text.toArray⟩) w := fun _ => by kernel_rfl
        go_wp2_with fail
        refine HS.out.mono ?_; rintro e w9 ⟨rfl, rfl⟩
        go_wp2_with fail
        clear t0 t4 t5 hx hle hgl hrl
        refine hNx.out.mono ?_; rintro e w3 ⟨rfl, r3, b3⟩
        have HR3 : Hid (RL w3 R g cap B L E (q + 1)) := Lib.hid (r3 hql)
        clear r3 HR2
        have HO3 : Hid (TV w3 (fun b => w.heap.size < b ∧ b ≠ w1.heap.size) ⟨c0, c1, c2, c3, c4, c5, cw, cA, cl, cc⟩ (some t)) := Lib.hid (HO2.out.kept (Kept.but (Kept.refl _ _) b3 fun h => by have := h.1; omega))
        clear HO2
        have h3 : But R w w3 := But.trans (by (with_reducible repeat' (first | exact h2 | refine zBr ?_ _ _ | refine zBs ?_ (by omega) _ _ | refine zBa ?_ _ | refine zBn ?_ _ | refine zBd ?_))) b3
        have y3 : w.heap.size ≤ w3.heap.size := h3.size
        have zk3 : w.heap.size < w3.heap.size := by have := b3.size; first | omega | (simp at this; omega)
        have Hk3 := c8_lift (B := w.heap.size) (fun j v hv => b3.cell (show w.heap.size ≠ R by omega) (by with_reducible repeat' (first | exact hv | refine zCs ?_ (by omega) _ _ | refine zCa ?_ _ | refine zCn ?_ _ | refine zCd ?_))) k20 k21 k22 k23 k24 k25 k26 k27
        obtain ⟨k30, k31, k32, k33, k34, k35, k36, k37⟩ := Hk3
        have Hkf3 := f8_lift (B := w.heap.size) (fun j hv => b3.frozen (show w.heap.size ≠ R by omega) (by first | omega | (simp; done) | (simp; omega)) (by with_reducible repeat' (first | exact hv | refine zFs ?_ (by omega) _ _ | refine zFa ?_ (by first | omega | (simp; omega)) _ | refine zFn ?_ _ | refine zFd ?_))) kf20 kf21 kf22 kf23 kf24 kf25 kf26 kf27
        obtain ⟨kf30, kf31, kf32, kf33, kf34, kf35, kf36, kf37⟩ := Hkf3
        have zo3 : w1.heap.size < w3.heap.size := by have := b3.size; first | omega | (simp at this; omega)
        have Ho3 := c8_lift (B := w1.heap.size) (fun j v hv => b3.cell (show w1.heap.size ≠ R by omega) (by with_reducible repeat' (first | exact hv | refine zCs ?_ (by omega) _ _ | refine zCa ?_ _ | refine zCn ?_ _ | refine zCd ?_))) o20 o21 o22 o23 o24 o25 o26 o27
        obtain ⟨o30, o31, o32, o33, o34, o35, o36, o37⟩ := Ho3
        have Hof3 := f8_lift (B := w1.heap.size) (fun j hv => b3.frozen (show w1.heap.size ≠ R by omega) (by first | omega | (simp; done) | (simp; omega)) (by with_reducible repeat' (first | exact hv | refine zFs ?_ (by omega) _ _ | refine zFa ?_ (by first | omega | (simp; omega)) _ | refine zFn ?_ _ | refine zFd ?_))) of20 of21 of22 of23 of24 of25 of26 of27
        obtain ⟨of30, of31, of32, of33, of34, of35, of36, of37⟩ := Hof3
        clear b3 k20 k21 k22 k23 k24 k25 k26 k27 kf20 kf21 kf22 kf23 kf24 kf25 kf26 kf27 zk2 o20 o21 o22 o23 o24 o25 o26 o27 of20 of21 of22 of23 of24 of25 of26 of27 zo2
        go_wp2_with fail
        have h3d : But R w w3.drew := h3.drew
        cases r1 with
        | bad z =>
          have hk : res = .bad z := HK.out
          subst hk
          go_region_dies
          all_goals (rw [show IntKind.i64.wrap 1 = 1 from by decide]; refine (HPn.out _ (q + 1) (.bad z) HR3.out.drew HF.out).mono ?_; rintro e w4 ⟨rfl, b4⟩; exact ⟨rfl, rfl, h3d.trans b4⟩)
        | ok t2 q2 =>
          have HNN : Hid (LineR L E n' 1 (opT d.text t t2) q2 res) := Lib.hid HK.out
          clear HK
          go_region_with
            (first
            | (go_at_call 32; refine (HPn.out _ (q + 1) (.ok t2 q2) HR3.out.drew HF.out).mono ?_; rintro e w4 H4
               obtain ⟨⟨f0, f1, f2, f3, f4, f5, fw, fA, fl, fc⟩, rfl, v4, r4, b4⟩ := H4
               have HR4 : Hid (RL w4 R g cap B L E q2) := Lib.hid r4
               have h4 : But R w w4 := h3d.trans b4
               have s4 := b4.size
               change w3.heap.size ≤ w4.heap.size at s4
               have zk4 : w.heap.size < w4.heap.size := by omega
               have zo4 : w1.heap.size < w4.heap.size := by omega
               have Hk4 := c8_lift (B := w.heap.size) (fun j v hv => b4.cell (show w.heap.size ≠ R by omega) (kc_drew hv)) k30 k31 k32 k33 k34 k35 k36 k37
               obtain ⟨k40, k41, k42, k43, k44, k45, k46, k47⟩ := Hk4
               have Hkf4 := f8_lift (B := w.heap.size) (fun j hv => b4.frozen (show w.heap.size ≠ R by omega) zk3 (kf_drew hv)) kf30 kf31 kf32 kf33 kf34 kf35 kf36 kf37
               obtain ⟨kf40, kf41, kf42, kf43, kf44, kf45, kf46, kf47⟩ := Hkf4
               have Ho4 := c8_lift (B := w1.heap.size) (fun j v hv => b4.cell (show w1.heap.size ≠ R by omega) (kc_drew hv)) o30 o31 o32 o33 o34 o35 o36 o37
               obtain ⟨o40, o41, o42, o43, o44, o45, o46, o47⟩ := Ho4
               have Hof4 := f8_lift (B := w1.heap.size) (fun j hv => b4.frozen (show w1.heap.size ≠ R by omega) zo3 (kf_drew hv)) of30 of31 of32 of33 of34 of35 of36 of37
               obtain ⟨of40, of41, of42, of43, of44, of45, of46, of47⟩ := Hof4
               have HO4 : Hid (TV w4 (fun b => w.heap.size < b ∧ b ≠ w1.heap.size) ⟨c0, c1, c2, c3, c4, c5, cw, cA, cl, cc⟩ (some t)) := Lib.hid (HO3.out.kept (Kept.but ((Kept.refl _ _).drew) b4 fun h => by have := h.1; omega))
               have HV4 : Hid (TV w4 (fun b => w.heap.size < b ∧ b ≠ w1.heap.size) ⟨f0, f1, f2, f3, f4, f5, fw, fA, fl, fc⟩ (some t2)) := Lib.hid (v4.imp fun b hb => by have hb2 : w3.heap.size ≤ b := hb; exact ⟨by omega, by omega⟩)
               clear v4 r4 b4 s4
               dsimp only [V8.val]))
          all_goals
            go_wp2_with fail
            go_roundg n'
            case measure => omega
            case rel =>
              refine ⟨⟨4, 0, 0, 0, 0, 0, ⟨d.text.toArray⟩, some ⟨w4.heap.size, 0, none⟩, 2, 2⟩, opT d.text t t2, q2, by omega, Lib.hid ?_, HNN⟩
              refine ⟨(by with_reducible repeat' (first | exact HR4.out | refine RL.far ?_ (by omega) _ _ | refine RL.alloc ?_ _ | refine RL.drewN ?_ _ | refine RL.drew ?_)), by (with_reducible repeat' (first | exact h4 | refine zBr ?_ _ _ | refine zBs ?_ (by omega) _ _ | refine zBa ?_ _ | refine zBn ?_ _ | refine zBd ?_)), by first | omega | (simp; omega), by first | omega | (simp; omega), ?_, ?_, ?_, ?_, ?_, ?_, ?_, ?_, ?_, ?_, ?_, ?_, ?_, ?_, ?_, ?_, ?_, ?_, ?_, ?_, ?_, ?_, ?_, ?_, ?_, ?_, ?_, ?_, ?_, ?_, ?_, ?_, ?_⟩
              · exact TV.node2 4 d.text ⟨c0, c1, c2, c3, c4, c5, cw, cA, cl, cc⟩ ⟨f0, f1, f2, f3, f4, f5, fw, fA, fl, fc⟩ t (some t2) (by exact ⟨by omega, by omega⟩) (by first | (simp; done) | (simp; omega)) ⟨by simp [go_sem], by simp [go_sem], by simp [go_sem], by simp [go_sem], by simp [go_sem], by simp [go_sem], by simp [go_sem], by simp [go_sem]⟩ ⟨by simp [go_sem], by simp [go_sem], by simp [go_sem], by simp [go_sem], by simp [go_sem], by simp [go_sem], by simp [go_sem], by simp [go_sem]⟩ (HO4.out.kept (by (with_reducible repeat' (first | exact Kept.refl _ _ | refine Kept.set1 ?_ (by omega) _ _ | refine Kept.set2 ?_ (by omega) _ _ | refine Kept.set2o ?_ _ _ | refine Kept.setNew ?_ (by omega) _ _ | refine Kept.alloc ?_ _ | refine Kept.drewN ?_ _ | refine Kept.drew ?_)))) (HV4.out.kept (by (with_reducible repeat' (first | exact Kept.refl _ _ | refine Kept.set1 ?_ (by omega) _ _ | refine Kept.set2 ?_ (by omega) _ _ | refine Kept.set2o ?_ _ _ | refine Kept.setNew ?_ (by omega) _ _ | refine Kept.alloc ?_ _ | refine Kept.drewN ?_ _ | refine Kept.drew ?_))))
              · (with_reducible repeat' (first | exact k40 | refine zCs ?_ (by omega) _ _ | refine zCa ?_ _ | refine zCn ?_ _ | refine zCd ?_))
              · (with_reducible repeat' (first | exact k41 | refine zCs ?_ (by omega) _ _ | refine zCa ?_ _ | refine zCn ?_ _ | refine zCd ?_))
              · (with_reducible repeat' (first | exact k42 | refine zCs ?_ (by omega) _ _ | refine zCa ?_ _ | refine zCn ?_ _ | refine zCd ?_))
              · (with_reducible repeat' (first | exact k43 | refine zCs ?_ (by omega) _ _ | refine zCa ?_ _ | refine zCn ?_ _ | refine zCd ?_))
              · (with_reducible repeat' (first | exact k44 | refine zCs ?_ (by omega) _ _ | refine zCa ?_ _ | refine zCn ?_ _ | refine zCd ?_))
              · (with_reducible repeat' (first | exact k45 | refine zCs ?_ (by omega) _ _ | refine zCa ?_ _ | refine zCn ?_ _ | refine zCd ?_))
              · (with_reducible repeat' (first | exact k46 | refine zCs ?_ (by omega) _ _ | refine zCa ?_ _ | refine zCn ?_ _ | refine zCd ?_))
              · (with_reducible repeat' (first | exact k47 | refine zCs ?_ (by omega) _ _ | refine zCa ?_ _ | refine zCn ?_ _ | refine zCd ?_))
              · (with_reducible repeat' (first | exact kf40 | refine zFs ?_ (by omega) _ _ | refine zFa ?_ (by first | omega | (simp; omega)) _ | refine zFn ?_ _ | refine zFd ?_))
              · (with_reducible repeat' (first | exact kf41 | refine zFs ?_ (by omega) _ _ | refine zFa ?_ (by first | omega | (simp; omega)) _ | refine zFn ?_ _ | refine zFd ?_))
              · (with_reducible repeat' (first | exact kf42 | refine zFs ?_ (by omega) _ _ | refine zFa ?_ (by first | omega | (simp; omega)) _ | refine zFn ?_ _ | refine zFd ?_))
              · (with_reducible repeat' (first | exact kf43 | refine zFs ?_ (by omega) _ _ | refine zFa ?_ (by first | omega | (simp; omega)) _ | refine zFn ?_ _ | refine zFd ?_))
              · (with_reducible repeat' (first | exact kf44 | refine zFs ?_ (by omega) _ _ | refine zFa ?_ (by first | omega | (simp; omega)) _ | refine zFn ?_ _ | refine zFd ?_))
              · (with_reducible repeat' (first | exact kf45 | refine zFs ?_ (by omega) _ _ | refine zFa ?_ (by first | omega | (simp; omega)) _ | refine zFn ?_ _ | refine zFd ?_))
              · (with_reducible repeat' (first | exact kf46 | refine zFs ?_ (by omega) _ _ | refine zFa ?_ (by first | omega | (simp; omega)) _ | refine zFn ?_ _ | refine zFd ?_))
              · (with_reducible repeat' (first | exact kf47 | refine zFs ?_ (by omega) _ _ | refine zFa ?_ (by first | omega | (simp; omega)) _ | refine zFn ?_ _ | refine zFd ?_))
              · simp [go_sem, o40, zo4]
              · simp [go_sem, o41, zo4]
              · simp [go_sem, o42, zo4]
              · simp [go_sem, o43, zo4]
              · simp [go_sem, o44, zo4]
              · simp [go_sem, o45, zo4]
              · simp [go_sem, o46, zo4]
              · simp [go_sem, o47, zo4]
              · simp [go_sem, of40, zo4]
              · simp [go_sem, of41, zo4]
              · simp [go_sem, of42, zo4]
              · simp [go_sem, of43, zo4]
              · simp [go_sem, of44, zo4]
              · simp [go_sem, of45, zo4]
              · simp [go_sem, of46, zo4]
              · simp [go_sem, of47, zo4]
      · skip
        have hres : res = .ok t q := line_stop HN.out hv
        subst hres
        have d0 : (((levelAt L q : Int) - 1) == 0) = false := by rw [beq_eq_false_iff_ne]; omega
        generalize tokAt L E q = d at *
        generalize (levelAt L q : Int) - 1 = lv at *
        clear hv HN hNx
        go_wp2_with fail
        refine HS.out.mono ?_; rintro e w9 ⟨rfl, rfl⟩
        go_wp2_with fail
        exact bodyPost_ret (v := .agg #[.int .i64 c0, .int .i64 c1, .int .i64 c2, .int .i64 c3, .int .i64 c4, .int .i64 c5, .string cw, .slice cA cl cc]) (by simp [results, Tryz.results32, go_sem, k20, o20, k21, o21, k22, o22, k23, o23, k24, o24, k25, o25, k26, o26, k27, o27, zk2, zo2]) rfl ⟨⟨c0, c1, c2, c3, c4, c5, cw, cA, cl, cc⟩, rfl, ((HO2.out.kept (by (with_reducible repeat' (first | exact Kept.refl _ _ | refine Kept.set1 ?_ (by omega) _ _ | refine Kept.set2 ?_ (by omega) _ _ | refine Kept.set2o ?_ _ _ | refine Kept.setNew ?_ (by omega) _ _ | refine Kept.alloc ?_ _ | refine Kept.drewN ?_ _ | refine Kept.drew ?_)))).imp fun b (hb : w.heap.size < b ∧ _) => Nat.le_of_lt hb.1), (by with_reducible repeat' (first | exact HR2.out | refine RL.far ?_ (by omega) _ _ | refine RL.alloc ?_ _ | refine RL.drewN ?_ _ | refine RL.drew ?_)), by (with_reducible repeat' (first | exact h2 | refine zBr ?_ _ _ | refine zBs ?_ (by omega) _ _ | refine zBa ?_ _ | refine zBn ?_ _ | refine zBd ?_))⟩
set_option maxHeartbeats 2000000 in
set_option maxRecDepth 10000 in
theorem pexpr_2 {R g cap B : Nat} {L : List Tok} {E k : Nat} (hL : L.length ≤ 1000) (hc : cap ≤ maxLen) (hG : GoodXL L) (hP : ∀ j, j ≤ k → TreeP R g cap B L E 32 #[.pointer (some ⟨R, 0, none⟩), .int .i64 2] (lineF L E j 3)) :
    TreeP R g cap B L E 32 #[.pointer (some ⟨R, 0, none⟩), .int .i64 1] (lineF L E (k + 1) 2) := by
  intro w p res hr hf
  rw [lineF, if_neg (by decide)] at hf
  obtain ⟨r1, hf1, hf2⟩ := next_some hf
  have HP := Lib.hid hP
  have HP1 := Lib.hid (hP k (Nat.le_refl _))
  have HF := Lib.hid hf1
  have HK := Lib.hid hf2
  clear hP hf hf1 hf2
  have HR := Lib.hid hr
  have lR := hr.lo.1
  have lB := hr.lo.2.2
  clear hr
  go_enter Tryz.func32, Tryz.ntmps32
  go_wp2_with fail
  refine (HP1.out _ p r1 (by with_reducible repeat' (first | exact HR.out | refine RL.far ?_ (by omega) _ _ | refine RL.alloc ?_ _ | refine RL.drewN ?_ _ | refine RL.drew ?_)) HF.out).mono ?_; rintro e w1 H1
  cases r1 with
  | bad z =>
    obtain ⟨rfl, b1⟩ := H1
    have hk : res = .bad z := HK.out
    subst hk
    exact ⟨rfl, rfl, But.trans (by (with_reducible repeat' (first | exact But.refl _ _ | refine zBr ?_ _ _ | refine zBs ?_ (by omega) _ _ | refine zBa ?_ _ | refine zBn ?_ _ | refine zBd ?_))) b1⟩
  | ok t q =>
    obtain ⟨⟨x0, x1, x2, x3, x4, x5, xw, xA, xl, xc⟩, rfl, v1, r1, b1⟩ := H1
    have HR1 : Hid (RL w1 R g cap B L E q) := Lib.hid r1
    clear r1
    have HVx1 : Hid (TV w1 (fun b => w.heap.size < b) ⟨x0, x1, x2, x3, x4, x5, xw, xA, xl, xc⟩ (some t)) := Lib.hid (v1.imp fun b hb => by have hb2 : _ ≤ b := hb; first | omega | (simp at hb2; omega))
    clear v1
    have h1 : But R w w1 := But.trans (by (with_reducible repeat' (first | exact But.refl _ _ | refine zBr ?_ _ _ | refine zBs ?_ (by omega) _ _ | refine zBa ?_ _ | refine zBn ?_ _ | refine zBd ?_))) b1
    have y1 : w.heap.size ≤ w1.heap.size := h1.size
    have zk1 : w.heap.size < w1.heap.size := by have := b1.size; first | omega | (simp at this; omega)
    have Hk1 : C8 w1 (w.heap.size) (.int .i64 0) (.int .i64 0) (.int .i64 0) (.int .i64 0) (.int .i64 0) (.int .i64 0) (.string ⟨#[]⟩) (.slice none 0 0) := by refine ⟨?_, ?_, ?_, ?_, ?_, ?_, ?_, ?_⟩ <;> exact b1.cell (show w.heap.size ≠ R by omega) (by simp [go_sem])
    obtain ⟨k10, k11, k12, k13, k14, k15, k16, k17⟩ := Hk1
    have Hkf1 : F8 w1 (w.heap.size) := by refine ⟨?_, ?_, ?_, ?_, ?_, ?_, ?_, ?_⟩ <;> exact b1.frozen (show w.heap.size ≠ R by omega) (by first | omega | (simp; done) | (simp; omega)) (by simp [go_sem])
    obtain ⟨kf10, kf11, kf12, kf13, kf14, kf15, kf16, kf17⟩ := Hkf1
    clear b1
    dsimp only [V8.val]
    go_wp2_with fail
    have HKK : Hid (LineR L E k 2 t q res) := Lib.hid HK.out
    go_loopg [6] k (fun n _ wr => ∃ (x : V8) (t : Tr) (q : Nat), n ≤ k ∧ Hid (LP w wr R g cap B L E w1.heap.size x t q) ∧ Hid (LineR L E n 2 t q res))
    case atStart =>
      refine ⟨⟨x0, x1, x2, x3, x4, x5, xw, xA, xl, xc⟩, t, q, Nat.le_refl _, Lib.hid ?_, HKK⟩
      exact ⟨HR1.out.alloc _, h1.alloc _, by simp, by simp; omega, by
        refine TV.imp (P := (fun b => w.heap.size < b ∧ b ≠ w1.heap.size)) ?_ fun b hb => hb
        exact (TV.fresh HVx1.out).kept ((Kept.refl _ _).alloc _), kc_alloc k10 _, kc_alloc k11 _, kc_alloc k12 _, kc_alloc k13 _, kc_alloc k14 _, kc_alloc k15 _, kc_alloc k16 _, kc_alloc k17 _, kf_alloc kf10 zk1 _, kf_alloc kf11 zk1 _, kf_alloc kf12 zk1 _, kf_alloc kf13 zk1 _, kf_alloc kf14 zk1 _, kf_alloc kf15 zk1 _, kf_alloc kf16 zk1 _, kf_alloc kf17 zk1 _, by simp [go_sem], by simp [go_sem], by simp [go_sem], by simp [go_sem], by simp [go_sem], by simp [go_sem], by simp [go_sem], by simp [go_sem], by simp [go_sem], by simp [go_sem], by simp [go_sem], by simp [go_sem], by simp [go_sem], by simp [go_sem], by simp [go_sem], by simp [go_sem]⟩
    case round =>
      clear k10 kf10 k11 kf11 k12 kf12 k13 kf13 k14 kf14 k15 kf15 k16 kf16 k17 kf17 HR1 HVx1 HK HKK h1 HF HP1
      obtain ⟨x, t, q, hn, HL, HN⟩ := hrel
      obtain ⟨c0, c1, c2, c3, c4, c5, cw, cA, cl, cc⟩ := x
      have lr := HL.out
      have h2 := lr.but
      have HR2 := Lib.hid lr.rl
      have y2 := h2.size
      have zo2 := lr.ho
      have zk2 := lr.hk
      have HO2 := Lib.hid lr.tv
      have k20 := lr.k0
      have k21 := lr.k1
      have k22 := lr.k2
      have k23 := lr.k3
      have k24 := lr.k4
      have k25 := lr.k5
      have k26 := lr.k6
      have k27 := lr.k7
      have kf20 := lr.kf0
      have kf21 := lr.kf1
      have kf22 := lr.kf2
      have kf23 := lr.kf3
      have kf24 := lr.kf4
      have kf25 := lr.kf5
      have kf26 := lr.kf6
      have kf27 := lr.kf7
      have o20 := lr.o0
      have o21 := lr.o1
      have o22 := lr.o2
      have o23 := lr.o3
      have o24 := lr.o4
      have o25 := lr.o5
      have o26 := lr.o6
      have o27 := lr.o7
      have of20 := lr.of0
      have of21 := lr.of1
      have of22 := lr.of2
      have of23 := lr.of3
      have of24 := lr.of4
      have of25 := lr.of5
      have of26 := lr.of6
      have of27 := lr.of7
      have no : w1.heap.size ≠ R := by omega
      have nko : w1.heap.size ≠ w.heap.size := by omega
      clear lr HL
      have hV := strV_lvl (tokAt L E q).text
      rw [lvl_text hG] at hV
      have HS := Lib.hid (strength_any R B wr ⟨(tokAt L E q).text.toArray⟩ HR2.out.st)
      rw [hV] at HS
      clear hV
      obtain ⟨t0, t4, t5⟩ := HR2.out.tok
      have hx := HR2.out.c
      have hle := HR2.out.le
      have hgl := HR2.out.lt
      have hrl := HR2.out.rlt
      have hNx := Lib.hid (pnext_any hL hc HR2.out)
      by_cases hv : levelAt L q = 2
      · skip
        obtain ⟨n', r1, hgk, hql, hf1, hf2⟩ := line_more HN.out hv (by decide)
        have HF := Lib.hid hf1
        have HK := Lib.hid hf2
        have HPn := Lib.hid (HP.out n' (by omega))
        generalize tokAt L E q = d at *
        have hv2 : (levelAt L q : Int) - 1 = 1 := by omega
        rw [hv2] at HS
        clear hv2 hv hf1 hf2 HN
        unfold tokV at hNx
        have xF : ∀ w : World, (Instr.field 61 (.agg #[.int .i64 d.kind, .int .i64 d.num, .int .i64 d.col, .int .i64 d.row, .string ⟨d.text.toArray⟩, .int .i64 (d.frm : Int)]) 3).run Tryz.prog w = .ok (.string ⟨d.text.toArray⟩) w := fun _ => by kernel_rfl
        go_wp2_with fail
        refine HS.out.mono ?_; rintro e w9 ⟨rfl, rfl⟩
        go_wp2_with fail
        clear t0 t4 t5 hx hle hgl hrl
        refine hNx.out.mono ?_; rintro e w3 ⟨rfl, r3, b3⟩
        have HR3 : Hid (RL w3 R g cap B L E (q + 1)) := Lib.hid (r3 hql)
        clear r3 HR2
        have HO3 : Hid (TV w3 (fun b => w.heap.size < b ∧ b ≠ w1.heap.size) ⟨c0, c1, c2, c3, c4, c5, cw, cA, cl, cc⟩ (some t)) := Lib.hid (HO2.out.kept (Kept.but (Kept.refl _ _) b3 fun h => by have := h.1; omega))
        clear HO2
        have h3 : But R w w3 := But.trans (by (with_reducible repeat' (first | exact h2 | refine zBr ?_ _ _ | refine zBs ?_ (by omega) _ _ | refine zBa ?_ _ | refine zBn ?_ _ | refine zBd ?_))) b3
        have y3 : w.heap.size ≤ w3.heap.size := h3.size
        have zk3 : w.heap.size < w3.heap.size := by have := b3.size; first | omega | (simp at this; omega)
        have Hk3 := c8_lift (B := w.heap.size) (fun j v hv => b3.cell (show w.heap.size ≠ R by omega) (by with_reducible repeat' (first | exact hv | refine zCs ?_ (by omega) _ _ | refine zCa ?_ _ | refine zCn ?_ _ | refine zCd ?_))) k20 k21 k22 k23 k24 k25 k26 k27
        obtain ⟨k30, k31, k32, k33, k34, k35, k36, k37⟩ := Hk3
        have Hkf3 := f8_lift (B := w.heap.size) (fun j hv => b3.frozen (show w.heap.size ≠ R by omega) (by first | omega | (simp; done) | (simp; omega)) (by with_reducible repeat' (first | exact hv | refine zFs ?_ (by omega) _ _ | refine zFa ?_ (by first | omega | (simp; omega)) _ | refine zFn ?_ _ | refine zFd ?_))) kf20 kf21 kf22 kf23 kf24 kf25 kf26 kf27
        obtain ⟨kf30, kf31, kf32, kf33, kf34, kf35, kf36, kf37⟩ := Hkf3
        have zo3 : w1.heap.size < w3.heap.size := by have := b3.size; first | omega | (simp at this; omega)
        have Ho3 := c8_lift (B := w1.heap.size) (fun j v hv => b3.cell (show w1.heap.size ≠ R by omega) (by with_reducible repeat' (first | exact hv | refine zCs ?_ (by omega) _ _ | refine zCa ?_ _ | refine zCn ?_ _ | refine zCd ?_))) o20 o21 o22 o23 o24 o25 o26 o27
        obtain ⟨o30, o31, o32, o33, o34, o35, o36, o37⟩ := Ho3
        have Hof3 := f8_lift (B := w1.heap.size) (fun j hv => b3.frozen (show w1.heap.size ≠ R by omega) (by first | omega | (simp; done) | (simp; omega)) (by with_reducible repeat' (first | exact hv | refine zFs ?_ (by omega) _ _ | refine zFa ?_ (by first | omega | (simp; omega)) _ | refine zFn ?_ _ | refine zFd ?_))) of20 of21 of22 of23 of24 of25 of26 of27
        obtain ⟨of30, of31, of32, of33, of34, of35, of36, of37⟩ := Hof3
        clear b3 k20 k21 k22 k23 k24 k25 k26 k27 kf20 kf21 kf22 kf23 kf24 kf25 kf26 kf27 zk2 o20 o21 o22 o23 o24 o25 o26 o27 of20 of21 of22 of23 of24 of25 of26 of27 zo2
        go_wp2_with fail
        have h3d : But R w w3.drew := h3.drew
        cases r1 with
        | bad z =>
          have hk : res = .bad z := HK.out
          subst hk
          go_region_dies
          all_goals (rw [show IntKind.i64.wrap 2 = 2 from by decide]; refine (HPn.out _ (q + 1) (.bad z) HR3.out.drew HF.out).mono ?_; rintro e w4 ⟨rfl, b4⟩; exact ⟨rfl, rfl, h3d.trans b4⟩)
        | ok t2 q2 =>
          have HNN : Hid (LineR L E n' 2 (opT d.text t t2) q2 res) := Lib.hid HK.out
          clear HK
          go_region_with
            (first
            | (go_at_call 32; refine (HPn.out _ (q + 1) (.ok t2 q2) HR3.out.drew HF.out).mono ?_; rintro e w4 H4
               obtain ⟨⟨f0, f1, f2, f3, f4, f5, fw, fA, fl, fc⟩, rfl, v4, r4, b4⟩ := H4
               have HR4 : Hid (RL w4 R g cap B L E q2) := Lib.hid r4
               have h4 : But R w w4 := h3d.trans b4
               have s4 := b4.size
               change w3.heap.size ≤ w4.heap.size at s4
               have zk4 : w.heap.size < w4.heap.size := by omega
               have zo4 : w1.heap.size < w4.heap.size := by omega
               have Hk4 := c8_lift (B := w.heap.size) (fun j v hv => b4.cell (show w.heap.size ≠ R by omega) (kc_drew hv)) k30 k31 k32 k33 k34 k35 k36 k37
               obtain ⟨k40, k41, k42, k43, k44, k45, k46, k47⟩ := Hk4
               have Hkf4 := f8_lift (B := w.heap.size) (fun j hv => b4.frozen (show w.heap.size ≠ R by omega) zk3 (kf_drew hv)) kf30 kf31 kf32 kf33 kf34 kf35 kf36 kf37
               obtain ⟨kf40, kf41, kf42, kf43, kf44, kf45, kf46, kf47⟩ := Hkf4
               have Ho4 := c8_lift (B := w1.heap.size) (fun j v hv => b4.cell (show w1.heap.size ≠ R by omega) (kc_drew hv)) o30 o31 o32 o33 o34 o35 o36 o37
               obtain ⟨o40, o41, o42, o43, o44, o45, o46, o47⟩ := Ho4
               have Hof4 := f8_lift (B := w1.heap.size) (fun j hv => b4.frozen (show w1.heap.size ≠ R by omega) zo3 (kf_drew hv)) of30 of31 of32 of33 of34 of35 of36 of37
               obtain ⟨of40, of41, of42, of43, of44, of45, of46, of47⟩ := Hof4
               have HO4 : Hid (TV w4 (fun b => w.heap.size < b ∧ b ≠ w1.heap.size) ⟨c0, c1, c2, c3, c4, c5, cw, cA, cl, cc⟩ (some t)) := Lib.hid (HO3.out.kept (Kept.but ((Kept.refl _ _).drew) b4 fun h => by have := h.1; omega))
               have HV4 : Hid (TV w4 (fun b => w.heap.size < b ∧ b ≠ w1.heap.size) ⟨f0, f1, f2, f3, f4, f5, fw, fA, fl, fc⟩ (some t2)) := Lib.hid (v4.imp fun b hb => by have hb2 : w3.heap.size ≤ b := hb; exact ⟨by omega, by omega⟩)
               clear v4 r4 b4 s4
               dsimp only [V8.val]))
          all_goals
            go_wp2_with fail
            go_roundg n'
            case measure => omega
            case rel =>
              refine ⟨⟨4, 0, 0, 0, 0, 0, ⟨d.text.toArray⟩, some ⟨w4.heap.size, 0, none⟩, 2, 2⟩, opT d.text t t2, q2, by omega, Lib.hid ?_, HNN⟩
              refine ⟨(by with_reducible repeat' (first | exact HR4.out | refine RL.far ?_ (by omega) _ _ | refine RL.alloc ?_ _ | refine RL.drewN ?_ _ | refine RL.drew ?_)), by (with_reducible repeat' (first | exact h4 | refine zBr ?_ _ _ | refine zBs ?_ (by omega) _ _ | refine zBa ?_ _ | refine zBn ?_ _ | refine zBd ?_)), by first | omega | (simp; omega), by first | omega | (simp; omega), ?_, ?_, ?_, ?_, ?_, ?_, ?_, ?_, ?_, ?_, ?_, ?_, ?_, ?_, ?_, ?_, ?_, ?_, ?_, ?_, ?_, ?_, ?_, ?_, ?_, ?_, ?_, ?_, ?_, ?_, ?_, ?_, ?_⟩
              · exact TV.node2 4 d.text ⟨c0, c1, c2, c3, c4, c5, cw, cA, cl, cc⟩ ⟨f0, f1, f2, f3, f4, f5, fw, fA, fl, fc⟩ t (some t2) (by exact ⟨by omega, by omega⟩) (by first | (simp; done) | (simp; omega)) ⟨by simp [go_sem], by simp [go_sem], by simp [go_sem], by simp [go_sem], by simp [go_sem], by simp [go_sem], by simp [go_sem], by simp [go_sem]⟩ ⟨by simp [go_sem], by simp [go_sem], by simp [go_sem], by simp [go_sem], by simp [go_sem], by simp [go_sem], by simp [go_sem], by simp [go_sem]⟩ (HO4.out.kept (by (with_reducible repeat' (first | exact Kept.refl _ _ | refine Kept.set1 ?_ (by omega) _ _ | refine Kept.set2 ?_ (by omega) _ _ | refine Kept.set2o ?_ _ _ | refine Kept.setNew ?_ (by omega) _ _ | refine Kept.alloc ?_ _ | refine Kept.drewN ?_ _ | refine Kept.drew ?_)))) (HV4.out.kept (by (with_reducible repeat' (first | exact Kept.refl _ _ | refine Kept.set1 ?_ (by omega) _ _ | refine Kept.set2 ?_ (by omega) _ _ | refine Kept.set2o ?_ _ _ | refine Kept.setNew ?_ (by omega) _ _ | refine Kept.alloc ?_ _ | refine Kept.drewN ?_ _ | refine Kept.drew ?_))))
              · (with_reducible repeat' (first | exact k40 | refine zCs ?_ (by omega) _ _ | refine zCa ?_ _ | refine zCn ?_ _ | refine zCd ?_))
              · (with_reducible repeat' (first | exact k41 | refine zCs ?_ (by omega) _ _ | refine zCa ?_ _ | refine zCn ?_ _ | refine zCd ?_))
              · (with_reducible repeat' (first | exact k42 | refine zCs ?_ (by omega) _ _ | refine zCa ?_ _ | refine zCn ?_ _ | refine zCd ?_))
              · (with_reducible repeat' (first | exact k43 | refine zCs ?_ (by omega) _ _ | refine zCa ?_ _ | refine zCn ?_ _ | refine zCd ?_))
              · (with_reducible repeat' (first | exact k44 | refine zCs ?_ (by omega) _ _ | refine zCa ?_ _ | refine zCn ?_ _ | refine zCd ?_))
              · (with_reducible repeat' (first | exact k45 | refine zCs ?_ (by omega) _ _ | refine zCa ?_ _ | refine zCn ?_ _ | refine zCd ?_))
              · (with_reducible repeat' (first | exact k46 | refine zCs ?_ (by omega) _ _ | refine zCa ?_ _ | refine zCn ?_ _ | refine zCd ?_))
              · (with_reducible repeat' (first | exact k47 | refine zCs ?_ (by omega) _ _ | refine zCa ?_ _ | refine zCn ?_ _ | refine zCd ?_))
              · (with_reducible repeat' (first | exact kf40 | refine zFs ?_ (by omega) _ _ | refine zFa ?_ (by first | omega | (simp; omega)) _ | refine zFn ?_ _ | refine zFd ?_))
              · (with_reducible repeat' (first | exact kf41 | refine zFs ?_ (by omega) _ _ | refine zFa ?_ (by first | omega | (simp; omega)) _ | refine zFn ?_ _ | refine zFd ?_))
              · (with_reducible repeat' (first | exact kf42 | refine zFs ?_ (by omega) _ _ | refine zFa ?_ (by first | omega | (simp; omega)) _ | refine zFn ?_ _ | refine zFd ?_))
              · (with_reducible repeat' (first | exact kf43 | refine zFs ?_ (by omega) _ _ | refine zFa ?_ (by first | omega | (simp; omega)) _ | refine zFn ?_ _ | refine zFd ?_))
              · (with_reducible repeat' (first | exact kf44 | refine zFs ?_ (by omega) _ _ | refine zFa ?_ (by first | omega | (simp; omega)) _ | refine zFn ?_ _ | refine zFd ?_))
              · (with_reducible repeat' (first | exact kf45 | refine zFs ?_ (by omega) _ _ | refine zFa ?_ (by first | omega | (simp; omega)) _ | refine zFn ?_ _ | refine zFd ?_))
              · (with_reducible repeat' (first | exact kf46 | refine zFs ?_ (by omega) _ _ | refine zFa ?_ (by first | omega | (simp; omega)) _ | refine zFn ?_ _ | refine zFd ?_))
              · (with_reducible repeat' (first | exact kf47 | refine zFs ?_ (by omega) _ _ | refine zFa ?_ (by first | omega | (simp; omega)) _ | refine zFn ?_ _ | refine zFd ?_))
              · simp [go_sem, o40, zo4]
              · simp [go_sem, o41, zo4]
              · simp [go_sem, o42, zo4]
              · simp [go_sem, o43, zo4]
              · simp [go_sem, o44, zo4]
              · simp [go_sem, o45, zo4]
              · simp [go_sem, o46, zo4]
              · simp [go_sem, o47, zo4]
              · simp [go_sem, of40, zo4]
              · simp [go_sem, of41, zo4]
              · simp [go_sem, of42, zo4]
              · simp [go_sem, of43, zo4]
              · simp [go_sem, of44, zo4]
              · simp [go_sem, of45, zo4]
              · simp [go_sem, of46, zo4]
              · simp [go_sem, of47, zo4]
      · skip
        have hres : res = .ok t q := line_stop HN.out hv
        subst hres
        have d0 : (((levelAt L q : Int) - 1) == 1) = false := by rw [beq_eq_false_iff_ne]; omega
        generalize tokAt L E q = d at *
        generalize (levelAt L q : Int) - 1 = lv at *
        clear hv HN hNx
        go_wp2_with fail
        refine HS.out.mono ?_; rintro e w9 ⟨rfl, rfl⟩
        go_wp2_with fail
        exact bodyPost_ret (v := .agg #[.int .i64 c0, .int .i64 c1, .int .i64 c2, .int .i64 c3, .int .i64 c4, .int .i64 c5, .string cw, .slice cA cl cc]) (by simp [results, Tryz.results32, go_sem, k20, o20, k21, o21, k22, o22, k23, o23, k24, o24, k25, o25, k26, o26, k27, o27, zk2, zo2]) rfl ⟨⟨c0, c1, c2, c3, c4, c5, cw, cA, cl, cc⟩, rfl, ((HO2.out.kept (by (with_reducible repeat' (first | exact Kept.refl _ _ | refine Kept.set1 ?_ (by omega) _ _ | refine Kept.set2 ?_ (by omega) _ _ | refine Kept.set2o ?_ _ _ | refine Kept.setNew ?_ (by omega) _ _ | refine Kept.alloc ?_ _ | refine Kept.drewN ?_ _ | refine Kept.drew ?_)))).imp fun b (hb : w.heap.size < b ∧ _) => Nat.le_of_lt hb.1), (by with_reducible repeat' (first | exact HR2.out | refine RL.far ?_ (by omega) _ _ | refine RL.alloc ?_ _ | refine RL.drewN ?_ _ | refine RL.drew ?_)), by (with_reducible repeat' (first | exact h2 | refine zBr ?_ _ _ | refine zBs ?_ (by omega) _ _ | refine zBa ?_ _ | refine zBn ?_ _ | refine zBd ?_))⟩
set_option maxHeartbeats 2000000 in
set_option maxRecDepth 10000 in
theorem pexpr_3 {R g cap B : Nat} {L : List Tok} {E k : Nat} (hL : L.length ≤ 1000) (hc : cap ≤ maxLen) (hG : GoodXL L) (hP : ∀ j, j ≤ k → TreeP R g cap B L E 32 #[.pointer (some ⟨R, 0, none⟩), .int .i64 3] (lineF L E j 4)) :
    TreeP R g cap B L E 32 #[.pointer (some ⟨R, 0, none⟩), .int .i64 2] (lineF L E (k + 1) 3) := by
  intro w p res hr hf
  rw [lineF, if_neg (by decide)] at hf
  obtain ⟨r1, hf1, hf2⟩ := next_some hf
  have HP := Lib.hid hP
  have HP1 := Lib.hid (hP k (Nat.le_refl _))
  have HF := Lib.hid hf1
  have HK := Lib.hid hf2
  clear hP hf hf1 hf2
  have HR := Lib.hid hr
  have lR := hr.lo.1
  have lB := hr.lo.2.2
  clear hr
  go_enter Tryz.func32, Tryz.ntmps32
  go_wp2_with fail
  refine (HP1.out _ p r1 (by with_reducible repeat' (first | exact HR.out | refine RL.far ?_ (by omega) _ _ | refine RL.alloc ?_ _ | refine RL.drewN ?_ _ | refine RL.drew ?_)) HF.out).mono ?_; rintro e w1 H1
  cases r1 with
  | bad z =>
    obtain ⟨rfl, b1⟩ := H1
    have hk : res = .bad z := HK.out
    subst hk
    exact ⟨rfl, rfl, But.trans (by (with_reducible repeat' (first | exact But.refl _ _ | refine zBr ?_ _ _ | refine zBs ?_ (by omega) _ _ | refine zBa ?_ _ | refine zBn ?_ _ | refine zBd ?_))) b1⟩
  | ok t q =>
    obtain ⟨⟨x0, x1, x2, x3, x4, x5, xw, xA, xl, xc⟩, rfl, v1, r1, b1⟩ := H1
    have HR1 : Hid (RL w1 R g cap B L E q) := Lib.hid r1
    clear r1
    have HVx1 : Hid (TV w1 (fun b => w.heap.size < b) ⟨x0, x1, x2, x3, x4, x5, xw, xA, xl, xc⟩ (some t)) := Lib.hid (v1.imp fun b hb => by have hb2 : _ ≤ b := hb; first | omega | (simp at hb2; omega))
    clear v1
    have h1 : But R w w1 := But.trans (by (with_reducible repeat' (first | exact But.refl _ _ | refine zBr ?_ _ _ | refine zBs ?_ (by omega) _ _ | refine zBa ?_ _ | refine zBn ?_ _ | refine zBd ?_))) b1
    have y1 : w.heap.size ≤ w1.heap.size := h1.size
    have zk1 : w.heap.size < w1.heap.size := by have := b1.size; first | omega | (simp at this; omega)
    have Hk1 : C8 w1 (w.heap.size) (.int .i64 0) (.int .i64 0) (.int .i64 0) (.int .i64 0) (.int .i64 0) (.int .i64 0) (.string ⟨#[]⟩) (.slice none 0 0) := by refine ⟨?_, ?_, ?_, ?_, ?_, ?_, ?_, ?_⟩ <;> exact b1.cell (show w.heap.size ≠ R by omega) (by simp [go_sem])
    obtain ⟨k10, k11, k12, k13, k14, k15, k16, k17⟩ := Hk1
    have Hkf1 : F8 w1 (w.heap.size) := by refine ⟨?_, ?_, ?_, ?_, ?_, ?_, ?_, ?_⟩ <;> exact b1.frozen (show w.heap.size ≠ R by omega) (by first | omega | (simp; done) | (simp; omega)) (by simp [go_sem])
    obtain ⟨kf10, kf11, kf12, kf13, kf14, kf15, kf16, kf17⟩ := Hkf1
    clear b1
    dsimp only [V8.val]
    go_wp2_with fail
    have HKK : Hid (LineR L E k 3 t q res) := Lib.hid HK.out
    go_loopg [6] k (fun n _ wr => ∃ (x : V8) (t : Tr) (q : Nat), n ≤ k ∧ Hid (LP w wr R g cap B L E w1.heap.size x t q) ∧ Hid (LineR L E n 3 t q res))
    case atStart =>
      refine ⟨⟨x0, x1, x2, x3, x4, x5, xw, xA, xl, xc⟩, t, q, Nat.le_refl _, Lib.hid ?_, HKK⟩
      exact ⟨HR1.out.alloc _, h1.alloc _, by simp, by simp; omega, by
        refine TV.imp (P := (fun b => w.heap.size < b ∧ b ≠ w1.heap.size)) ?_ fun b hb => hb
        exact (TV.fresh HVx1.out).kept ((Kept.refl _ _).alloc _), kc_alloc k10 _, kc_alloc k11 _, kc_alloc k12 _, kc_alloc k13 _, kc_alloc k14 _, kc_alloc k15 _, kc_alloc k16 _, kc_alloc k17 _, kf_alloc kf10 zk1 _, kf_alloc kf11 zk1 _, kf_alloc kf12 zk1 _, kf_alloc kf13 zk1 _, kf_alloc kf14 zk1 _, kf_alloc kf15 zk1 _, kf_alloc kf16 zk1 _, kf_alloc kf17 zk1 _, by simp [go_sem], by simp [go_sem], by simp [go_sem], by simp [go_sem], by simp [go_sem], by simp [go_sem], by simp [go_sem], by simp [go_sem], by simp [go_sem], by simp [go_sem], by simp [go_sem], by simp [go_sem], by simp [go_sem], by simp [go_sem], by simp [go_sem], by simp [go_sem]⟩
    case round =>
      clear k10 kf10 k11 kf11 k12 kf12 k13 kf13 k14 kf14 k15 kf15 k16 kf16 k17 kf17 HR1 HVx1 HK HKK h1 HF HP1
      obtain ⟨x, t, q, hn, HL, HN⟩ := hrel
      obtain ⟨c0, c1, c2, c3, c4, c5, cw, cA, cl, cc⟩ := x
      have lr := HL.out
      have h2 := lr.but
      have HR2 := Lib.hid lr.rl
      have y2 := h2.size
      have zo2 := lr.ho
      have zk2 := lr.hk
      have HO2 := Lib.hid lr.tv
      have k20 := lr.k0
      have k21 := lr.k1
      have k22 := lr.k2
      have k23 := lr.k3
      have k24 := lr.k4
      have k25 := lr.k5
      have k26 := lr.k6
      have k27 := lr.k7
      have kf20 := lr.kf0
      have kf21 := lr.kf1
      have kf22 := lr.kf2
      have kf23 := lr.kf3
      have kf24 := lr.kf4
      have kf25 := lr.kf5
      have kf26 := lr.kf6
      have kf27 := lr.kf7
      have o20 := lr.o0
      have o21 := lr.o1
      have o22 := lr.o2
      have o23 := lr.o3
      have o24 := lr.o4
      have o25 := lr.o5
      have o26 := lr.o6
      have o27 := lr.o7
      have of20 := lr.of0
      have of21 := lr.of1
      have of22 := lr.of2
      have of23 := lr.of3
      have of24 := lr.of4
      have of25 := lr.of5
      have of26 := lr.of6
      have of27 := lr.of7
      have no : w1.heap.size ≠ R := by omega
      have nko : w1.heap.size ≠ w.heap.size := by omega
      clear lr HL
      have hV := strV_lvl (tokAt L E q).text
      rw [lvl_text hG] at hV
      have HS := Lib.hid (strength_any R B wr ⟨(tokAt L E q).text.toArray⟩ HR2.out.st)
      rw [hV] at HS
      clear hV
      obtain ⟨t0, t4, t5⟩ := HR2.out.tok
      have hx := HR2.out.c
      have hle := HR2.out.le
      have hgl := HR2.out.lt
      have hrl := HR2.out.rlt
      have hNx := Lib.hid (pnext_any hL hc HR2.out)
      by_cases hv : levelAt L q = 3
      · skip
        obtain ⟨n', r1, hgk, hql, hf1, hf2⟩ := line_more HN.out hv (by decide)
        have HF := Lib.hid hf1
        have HK := Lib.hid hf2
        have HPn := Lib.hid (HP.out n' (by omega))
        generalize tokAt L E q = d at *
        have hv2 : (levelAt L q : Int) - 1 = 2 := by omega
        rw [hv2] at HS
        clear hv2 hv hf1 hf2 HN
        unfold tokV at hNx
        have xF : ∀ w : World, (Instr.field 61 (.agg #[.int .i64 d.kind, .int .i64 d.num, .int .i64 d.col, .int .i64 d.row, .string ⟨d.text.toArray⟩, .int .i64 (d.frm : Int)]) 3).run Tryz.prog w = .ok (.string ⟨d.text.toArray⟩) w := fun _ => by kernel_rfl
        go_wp2_with fail
        refine HS.out.mono ?_; rintro e w9 ⟨rfl, rfl⟩
        go_wp2_with fail
        clear t0 t4 t5 hx hle hgl hrl
        refine hNx.out.mono ?_; rintro e w3 ⟨rfl, r3, b3⟩
        have HR3 : Hid (RL w3 R g cap B L E (q + 1)) := Lib.hid (r3 hql)
        clear r3 HR2
        have HO3 : Hid (TV w3 (fun b => w.heap.size < b ∧ b ≠ w1.heap.size) ⟨c0, c1, c2, c3, c4, c5, cw, cA, cl, cc⟩ (some t)) := Lib.hid (HO2.out.kept (Kept.but (Kept.refl _ _) b3 fun h => by have := h.1; omega))
        clear HO2
        have h3 : But R w w3 := But.trans (by (with_reducible repeat' (first | exact h2 | refine zBr ?_ _ _ | refine zBs ?_ (by omega) _ _ | refine zBa ?_ _ | refine zBn ?_ _ | refine zBd ?_))) b3
        have y3 : w.heap.size ≤ w3.heap.size := h3.size
        have zk3 : w.heap.size < w3.heap.size := by have := b3.size; first | omega | (simp at this; omega)
        have Hk3 := c8_lift (B := w.heap.size) (fun j v hv => b3.cell (show w.heap.size ≠ R by omega) (by with_reducible repeat' (first | exact hv | refine zCs ?_ (by omega) _ _ | refine zCa ?_ _ | refine zCn ?_ _ | refine zCd ?_))) k20 k21 k22 k23 k24 k25 k26 k27
        obtain ⟨k30, k31, k32, k33, k34, k35, k36, k37⟩ := Hk3
        have Hkf3 := f8_lift (B := w.heap.size) (fun j hv => b3.frozen (show w.heap.size ≠ R by omega) (by first | omega | (simp; done) | (simp; omega)) (by with_reducible repeat' (first | exact hv | refine zFs ?_ (by omega) _ _ | refine zFa ?_ (by first | omega | (simp; omega)) _ | refine zFn ?_ _ | refine zFd ?_))) kf20 kf21 kf22 kf23 kf24 kf25 kf26 kf27
        obtain ⟨kf30, kf31, kf32, kf33, kf34, kf35, kf36, kf37⟩ := Hkf3
        have zo3 : w1.heap.size < w3.heap.size := by have := b3.size; first | omega | (simp at this; omega)
        have Ho3 := c8_lift (B := w1.heap.size) (fun j v hv => b3.cell (show w1.heap.size ≠ R by omega) (by with_reducible repeat' (first | exact hv | refine zCs ?_ (by omega) _ _ | refine zCa ?_ _ | refine zCn ?_ _ | refine zCd ?_))) o20 o21 o22 o23 o24 o25 o26 o27
        obtain ⟨o30, o31, o32, o33, o34, o35, o36, o37⟩ := Ho3
        have Hof3 := f8_lift (B := w1.heap.size) (fun j hv => b3.frozen (show w1.heap.size ≠ R by omega) (by first | omega | (simp; done) | (simp; omega)) (by with_reducible repeat' (first | exact hv | refine zFs ?_ (by omega) _ _ | refine zFa ?_ (by first | omega | (simp; omega)) _ | refine zFn ?_ _ | refine zFd ?_))) of20 of21 of22 of23 of24 of25 of26 of27
        obtain ⟨of30, of31, of32, of33, of34, of35, of36, of37⟩ := Hof3
        clear b3 k20 k21 k22 k23 k24 k25 k26 k27 kf20 kf21 kf22 kf23 kf24 kf25 kf26 kf27 zk2 o20 o21 o22 o23 o24 o25 o26 o27 of20 of21 of22 of23 of24 of25 of26 of27 zo2
        go_wp2_with fail
        have h3d : But R w w3.drew := h3.drew
        cases r1 with
        | bad z =>
          have hk : res = .bad z := HK.out
          subst hk
          go_region_dies
          all_goals (rw [show IntKind.i64.wrap 3 = 3 from by decide]; refine (HPn.out _ (q + 1) (.bad z) HR3.out.drew HF.out).mono ?_; rintro e w4 ⟨rfl, b4⟩; exact ⟨rfl, rfl, h3d.trans b4⟩)
        | ok t2 q2 =>
          have HNN : Hid (LineR L E n' 3 (opT d.text t t2) q2 res) := Lib.hid HK.out
          clear HK
          go_region_with
            (first
            | (go_at_call 32; refine (HPn.out _ (q + 1) (.ok t2 q2) HR3.out.drew HF.out).mono ?_; rintro e w4 H4
               obtain ⟨⟨f0, f1, f2, f3, f4, f5, fw, fA, fl, fc⟩, rfl, v4, r4, b4⟩ := H4
               have HR4 : Hid (RL w4 R g cap B L E q2) := Lib.hid r4
               have h4 : But R w w4 := h3d.trans b4
               have s4 := b4.size
               change w3.heap.size ≤ w4.heap.size at s4
               have zk4 : w.heap.size < w4.heap.size := by omega
               have zo4 : w1.heap.size < w4.heap.size := by omega
               have Hk4 := c8_lift (B := w.heap.size) (fun j v hv => b4.cell (show w.heap.size ≠ R by omega) (kc_drew hv)) k30 k31 k32 k33 k34 k35 k36 k37
               obtain ⟨k40, k41, k42, k43, k44, k45, k46, k47⟩ := Hk4
               have Hkf4 := f8_lift (B := w.heap.size) (fun j hv => b4.frozen (show w.heap.size ≠ R by omega) zk3 (kf_drew hv)) kf30 kf31 kf32 kf33 kf34 kf35 kf36 kf37
               obtain ⟨kf40, kf41, kf42, kf43, kf44, kf45, kf46, kf47⟩ := Hkf4
               have Ho4 := c8_lift (B := w1.heap.size) (fun j v hv => b4.cell (show w1.heap.size ≠ R by omega) (kc_drew hv)) o30 o31 o32 o33 o34 o35 o36 o37
               obtain ⟨o40, o41, o42, o43, o44, o45, o46, o47⟩ := Ho4
               have Hof4 := f8_lift (B := w1.heap.size) (fun j hv => b4.frozen (show w1.heap.size ≠ R by omega) zo3 (kf_drew hv)) of30 of31 of32 of33 of34 of35 of36 of37
               obtain ⟨of40, of41, of42, of43, of44, of45, of46, of47⟩ := Hof4
               have HO4 : Hid (TV w4 (fun b => w.heap.size < b ∧ b ≠ w1.heap.size) ⟨c0, c1, c2, c3, c4, c5, cw, cA, cl, cc⟩ (some t)) := Lib.hid (HO3.out.kept (Kept.but ((Kept.refl _ _).drew) b4 fun h => by have := h.1; omega))
               have HV4 : Hid (TV w4 (fun b => w.heap.size < b ∧ b ≠ w1.heap.size) ⟨f0, f1, f2, f3, f4, f5, fw, fA, fl, fc⟩ (some t2)) := Lib.hid (v4.imp fun b hb => by have hb2 : w3.heap.size ≤ b := hb; exact ⟨by omega, by omega⟩)
               clear v4 r4 b4 s4
               dsimp only [V8.val]))
          all_goals
            go_wp2_with fail
            go_roundg n'
            case measure => omega
            case rel =>
              refine ⟨⟨4, 0, 0, 0, 0, 0, ⟨d.text.toArray⟩, some ⟨w4.heap.size, 0, none⟩, 2, 2⟩, opT d.text t t2, q2, by omega, Lib.hid ?_, HNN⟩
              refine ⟨(by with_reducible repeat' (first | exact HR4.out | refine RL.far ?_ (by omega) _ _ | refine RL.alloc ?_ _ | refine RL.drewN ?_ _ | refine RL.drew ?_)), by (with_reducible repeat' (first | exact h4 | refine zBr ?_ _ _ | refine zBs ?_ (by omega) _ _ | refine zBa ?_ _ | refine zBn ?_ _ | refine zBd ?_)), by first | omega | (simp; omega), by first | omega | (simp; omega), ?_, ?_, ?_, ?_, ?_, ?_, ?_, ?_, ?_, ?_, ?_, ?_, ?_, ?_, ?_, ?_, ?_, ?_, ?_, ?_, ?_, ?_, ?_, ?_, ?_, ?_, ?_, ?_, ?_, ?_, ?_, ?_, ?_⟩
              · exact TV.node2 4 d.text ⟨c0, c1, c2, c3, c4, c5, cw, cA, cl, cc⟩ ⟨f0, f1, f2, f3, f4, f5, fw, fA, fl, fc⟩ t (some t2) (by exact ⟨by omega, by omega⟩) (by first | (simp; done) | (simp; omega)) ⟨by simp [go_sem], by simp [go_sem], by simp [go_sem], by simp [go_sem], by simp [go_sem], by simp [go_sem], by simp [go_sem], by simp [go_sem]⟩ ⟨by simp [go_sem], by simp [go_sem], by simp [go_sem], by simp [go_sem], by simp [go_sem], by simp [go_sem], by simp [go_sem], by simp [go_sem]⟩ (HO4.out.kept (by (with_reducible repeat' (first | exact Kept.refl _ _ | refine Kept.set1 ?_ (by omega) _ _ | refine Kept.set2 ?_ (by omega) _ _ | refine Kept.set2o ?_ _ _ | refine Kept.setNew ?_ (by omega) _ _ | refine Kept.alloc ?_ _ | refine Kept.drewN ?_ _ | refine Kept.drew ?_)))) (HV4.out.kept (by (with_reducible repeat' (first | exact Kept.refl _ _ | refine Kept.set1 ?_ (by omega) _ _ | refine Kept.set2 ?_ (by omega) _ _ | refine Kept.set2o ?_ _ _ | refine Kept.setNew ?_ (by omega) _ _ | refine Kept.alloc ?_ _ | refine Kept.drewN ?_ _ | refine Kept.drew ?_))))
              · (with_reducible repeat' (first | exact k40 | refine zCs ?_ (by omega) _ _ | refine zCa ?_ _ | refine zCn ?_ _ | refine zCd ?_))
              · (with_reducible repeat' (first | exact k41 | refine zCs ?_ (by omega) _ _ | refine zCa ?_ _ | refine zCn ?_ _ | refine zCd ?_))
              · (with_reducible repeat' (first | exact k42 | refine zCs ?_ (by omega) _ _ | refine zCa ?_ _ | refine zCn ?_ _ | refine zCd ?_))
              · (with_reducible repeat' (first | exact k43 | refine zCs ?_ (by omega) _ _ | refine zCa ?_ _ | refine zCn ?_ _ | refine zCd ?_))
              · (with_reducible repeat' (first | exact k44 | refine zCs ?_ (by omega) _ _ | refine zCa ?_ _ | refine zCn ?_ _ | refine zCd ?_))
              · (with_reducible repeat' (first | exact k45 | refine zCs ?_ (by omega) _ _ | refine zCa ?_ _ | refine zCn ?_ _ | refine zCd ?_))
              · (with_reducible repeat' (first | exact k46 | refine zCs ?_ (by omega) _ _ | refine zCa ?_ _ | refine zCn ?_ _ | refine zCd ?_))
              · (with_reducible repeat' (first | exact k47 | refine zCs ?_ (by omega) _ _ | refine zCa ?_ _ | refine zCn ?_ _ | refine zCd ?_))
              · (with_reducible repeat' (first | exact kf40 | refine zFs ?_ (by omega) _ _ | refine zFa ?_ (by first | omega | (simp; omega)) _ | refine zFn ?_ _ | refine zFd ?_))
              · (with_reducible repeat' (first | exact kf41 | refine zFs ?_ (by omega) _ _ | refine zFa ?_ (by first | omega | (simp; omega)) _ | refine zFn ?_ _ | refine zFd ?_))
              · (with_reducible repeat' (first | exact kf42 | refine zFs ?_ (by omega) _ _ | refine zFa ?_ (by first | omega | (simp; omega)) _ | refine zFn ?_ _ | refine zFd ?_))
              · (with_reducible repeat' (first | exact kf43 | refine zFs ?_ (by omega) _ _ | refine zFa ?_ (by first | omega | (simp; omega)) _ | refine zFn ?_ _ | refine zFd ?_))
              · (with_reducible repeat' (first | exact kf44 | refine zFs ?_ (by omega) _ _ | refine zFa ?_ (by first | omega | (simp; omega)) _ | refine zFn ?_ _ | refine zFd ?_))
              · (with_reducible repeat' (first | exact kf45 | refine zFs ?_ (by omega) _ _ | refine zFa ?_ (by first | omega | (simp; omega)) _ | refine zFn ?_ _ | refine zFd ?_))
              · (with_reducible repeat' (first | exact kf46 | refine zFs ?_ (by omega) _ _ | refine zFa ?_ (by first | omega | (simp; omega)) _ | refine zFn ?_ _ | refine zFd ?_))
              · (with_reducible repeat' (first | exact kf47 | refine zFs ?_ (by omega) _ _ | refine zFa ?_ (by first | omega | (simp; omega)) _ | refine zFn ?_ _ | refine zFd ?_))
              · simp [go_sem, o40, zo4]
              · simp [go_sem, o41, zo4]
              · simp [go_sem, o42, zo4]
              · simp [go_sem, o43, zo4]
              · simp [go_sem, o44, zo4]
              · simp [go_sem, o45, zo4]
              · simp [go_sem, o46, zo4]
              · simp [go_sem, o47, zo4]
              · simp [go_sem, of40, zo4]
              · simp [go_sem, of41, zo4]
              · simp [go_sem, of42, zo4]
              · simp [go_sem, of43, zo4]
              · simp [go_sem, of44, zo4]
              · simp [go_sem, of45, zo4]
              · simp [go_sem, of46, zo4]
              · simp [go_sem, of47, zo4]
      · skip
        have hres : res = .ok t q := line_stop HN.out hv
        subst hres
        have d0 : (((levelAt L q : Int) - 1) == 2) = false := by rw [beq_eq_false_iff_ne]; omega
        generalize tokAt L E q = d at *
        generalize (levelAt L q : Int) - 1 = lv at *
        clear hv HN hNx
        go_wp2_with fail
        refine HS.out.mono ?_; rintro e w9 ⟨rfl, rfl⟩
        go_wp2_with fail
        exact bodyPost_ret (v := .agg #[.int .i64 c0, .int .i64 c1, .int .i64 c2, .int .i64 c3, .int .i64 c4, .int .i64 c5, .string cw, .slice cA cl cc]) (by simp [results, Tryz.results32, go_sem, k20, o20, k21, o21, k22, o22, k23, o23, k24, o24, k25, o25, k26, o26, k27, o27, zk2, zo2]) rfl ⟨⟨c0, c1, c2, c3, c4, c5, cw, cA, cl, cc⟩, rfl, ((HO2.out.kept (by (with_reducible repeat' (first | exact Kept.refl _ _ | refine Kept.set1 ?_ (by omega) _ _ | refine Kept.set2 ?_ (by omega) _ _ | refine Kept.set2o ?_ _ _ | refine Kept.setNew ?_ (by omega) _ _ | refine Kept.alloc ?_ _ | refine Kept.drewN ?_ _ | refine Kept.drew ?_)))).imp fun b (hb : w.heap.size < b ∧ _) => Nat.le_of_lt hb.1), (by with_reducible repeat' (first | exact HR2.out | refine RL.far ?_ (by omega) _ _ | refine RL.alloc ?_ _ | refine RL.drewN ?_ _ | refine RL.drew ?_)), by (with_reducible repeat' (first | exact h2 | refine zBr ?_ _ _ | refine zBs ?_ (by omega) _ _ | refine zBa ?_ _ | refine zBn ?_ _ | refine zBd ?_))⟩
end Go.Proofs.YtahdlijkohmdfaaGreatDoor
