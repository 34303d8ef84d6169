/- Texts joined: RdE. -/
import Derived.Test.YtahdlijkohmdfaaGreatDoorMp12
set_option linter.all false
set_option linter.unusedVariables false
set_option linter.unusedSimpArgs false
namespace Go.Proofs.YtahdlijkohmdfaaGreatDoor
open Go.RowKit

theorem pcorners_any {R g cap B : Nat} {L : List Tok} {E k : Nat} (hL : L.length ≤ 1000) (hc : cap ≤ maxLen) (hG : GoodXL L) :
    TreeP R g cap B L E 117 #[.pointer (some ⟨R, 0, none⟩)] (itemF L E (k + 1) true) := by
  intro w p res hr hf
  rw [itemF, if_neg (fun x => by cases x.1)] at hf
  cases ht : L[p]? with
  | none =>
    rw [ht] at hf
    obtain rfl : .bad E = res := Option.some.inj hf
    have := pcorners_none hL hc hG hr (end_none ht)
    rwa [whr_none ht] at this
  | some t =>
    rw [ht] at hf
    have hf2 : (if isEnd L p = false then some (.bad t.frm) else if isMark L (p + 1) [58] = false ∧ t.kind = 3 then some (.ok badT (p + 1)) else mustF L E (p + 1) [58] (cornerF L E t)) = some res := hf
    clear hf
    have hta : tokAt L E p = t := tokAt_in ht
    cases he : isEnd L p with
    | false =>
      rw [if_pos he] at hf2
      obtain rfl := Option.some.inj hf2
      have := pcorners_none hL hc hG hr he
      rwa [whr_some ht] at this
    | true =>
      rw [if_neg (by rw [he]; decide)] at hf2
      cases hm : isMark L (p + 1) [58] with
      | false =>
        by_cases h3 : t.kind = 3
        · rw [if_pos ⟨hm, h3⟩] at hf2
          obtain rfl := Option.some.inj hf2
          exact pcorners_bad hL hc hG hr he (by rw [hta, beq_iff_eq]; exact h3) hm
        · rw [if_neg (fun x => h3 x.2)] at hf2
          unfold mustF at hf2
          rw [if_neg (by rw [hm]; decide)] at hf2
          obtain rfl := Option.some.inj hf2
          exact pcorners_miss hL hc hG hr he (by rw [hta, beq_eq_false_iff_ne]; exact h3) hm
      | true =>
        rw [if_neg (by rw [hm]; rintro ⟨h, _⟩; cases h)] at hf2
        unfold mustF at hf2
        rw [if_pos hm] at hf2
        unfold cornerF at hf2
        have OFF : isEnd L (p + 2) = false → res = .bad (whr L E (p + 2)) → Calls Tryz.prog 117 #[.pointer (some ⟨R, 0, none⟩)] w (PostP w R g cap B L E res) := by
          rintro h rfl
          cases h3 : (tokAt L E p).kind == 3 with
          | true => exact pcorners_offt hL hc hG hr he h3 hm h
          | false => exact pcorners_offf hL hc hG hr he h3 hm h
        cases hu : L[p + 1 + 1]? with
        | none =>
          rw [hu] at hf2
          exact OFF (end_none hu) (by rw [whr_none hu]; exact (Option.some.inj hf2).symm)
        | some u =>
          rw [hu] at hf2
          have hf3 : (if isEnd L (p + 2) = false then some (.bad u.frm) else if t.kind = 3 ∨ u.kind = 3 then some (.ok badT (p + 2 + 1)) else some (.ok (spanT (min t.col u.col) (min t.row u.row) (max t.col u.col) (max t.row u.row)) (p + 2 + 1))) = some res := hf2
          clear hf2
          have hua : tokAt L E (p + 2) = u := tokAt_in hu
          cases he2 : isEnd L (p + 2) with
          | false =>
            rw [if_pos he2] at hf3
            exact OFF he2 (by rw [whr_some hu]; exact (Option.some.inj hf3).symm)
          | true =>
            rw [if_neg (by rw [he2]; decide)] at hf3
            by_cases h3 : t.kind = 3
            · rw [if_pos (.inl h3)] at hf3
              obtain rfl := Option.some.inj hf3
              exact pcorners_bada hL hc hG hr he (by rw [hta, beq_iff_eq]; exact h3) hm he2
            · have k3 : ((tokAt L E p).kind == 3) = false := by rw [hta, beq_eq_false_iff_ne]; exact h3
              by_cases u3 : u.kind = 3
              · rw [if_pos (.inr u3)] at hf3
                obtain rfl := Option.some.inj hf3
                exact pcorners_badb hL hc hG hr he k3 hm he2 (by rw [hua, beq_iff_eq]; exact u3)
              · have l3 : ((tokAt L E (p + 2)).kind == 3) = false := by rw [hua, beq_eq_false_iff_ne]; exact u3
                rw [if_neg (by rintro (h | h); exact h3 h; exact u3 h)] at hf3
                obtain rfl := Option.some.inj hf3
                have r1 : rightB t.col t.row = true := by
                  obtain ⟨t', e, h⟩ := end_some he
                  rw [ht] at e; obtain rfl := Option.some.inj e
                  rcases h with h | h
                  · exact (hG p t ht).good.place h
                  · exact absurd h h3
                have r2 : rightB u.col u.row = true := by
                  obtain ⟨u', e, h⟩ := end_some he2
                  rw [hu] at e; obtain rfl := Option.some.inj e
                  rcases h with h | h
                  · exact (hG (p + 2) u hu).good.place h
                  · exact absurd h u3
                have := pcorners_span hL hc hG hr he k3 hm he2 l3 (by rw [hta]; exact r1) (by rw [hua]; exact r2)
                rw [hta, hua] at this
                exact this
set_option maxHeartbeats 2000000 in
set_option maxRecDepth 10000 in
theorem pitem_none {w : World} {R g cap B : Nat} {L : List Tok} {E p : Nat} (hL : L.length ≤ 1000) (hc : cap ≤ maxLen) (hG : GoodXL L) (hr : RL w R g cap B L E p) (he : isEnd L p = false) {f : Nat → Option Res} {res : Res} (hP : TreeP R g cap B L E 32 #[.pointer (some ⟨R, 0, none⟩), .int .i64 0] f) (hf : f p = some res) :
    Calls Tryz.prog 118 #[.pointer (some ⟨R, 0, none⟩)] w (PostP w R g cap B L E res) := by
  have HP := Lib.hid hP
  have HF := Lib.hid hf
  clear hP hf
  have HC := Lib.hid (pcornerF_any (tokAt L E p))
  have hT := Lib.hid (mark_text hG E (p + 1) (s := [58]) (by decide) (by decide))
  rw [end_kind L E p] at he
  rw [he] at HC
  clear he
  obtain ⟨t0, t1, t2, t3, t4, t5⟩ := hr.toks p _ (tokAt_some hr.le)
  have hx := hr.c
  have hle := hr.le
  have hgl := hr.lt
  have hrl := hr.rlt
  generalize tokAt L E p = a at *
  unfold tokV at *
  have HR := Lib.hid hr
  have lR := hr.lo.1
  have lB := hr.lo.2.2
  clear hr
  go_enter Tryz.func118, Tryz.ntmps118
  go_wp2_with fail
  clear t0 t1 t2 t3 t4 t5 hx hle hgl hrl
  refine ((HC.out _)).mono ?_; rintro e w1 ⟨rfl, b1⟩
  have h1 : But R w w1 := But.trans (by (with_reducible repeat' (first | exact But.refl _ _ | refine zBr ?_ _ _ | refine zBs ?_ (by omega) _ _ | refine zBa ?_ _ | refine zBn ?_ _ | refine zBd ?_))) (But.of_below b1)
  have y1 : w.heap.size ≤ w1.heap.size := h1.size
  have zk1 : w.heap.size < w1.heap.size := by have := b1.size; first | omega | (simp at this; omega)
  have Hk1 : C8 w1 (w.heap.size) (.int .i64 0) (.int .i64 0) (.int .i64 0) (.int .i64 0) (.int .i64 0) (.int .i64 0) (.string ⟨#[]⟩) (.slice none 0 0) := by refine ⟨?_, ?_, ?_, ?_, ?_, ?_, ?_, ?_⟩ <;> exact (But.of_below b1).cell (show w.heap.size ≠ R by omega) (by simp [go_sem])
  obtain ⟨k10, k11, k12, k13, k14, k15, k16, k17⟩ := Hk1
  have Hkf1 : F8 w1 (w.heap.size) := by refine ⟨?_, ?_, ?_, ?_, ?_, ?_, ?_, ?_⟩ <;> exact (But.of_below b1).frozen (show w.heap.size ≠ R by omega) (by first | omega | (simp; done) | (simp; omega)) (by simp [go_sem])
  obtain ⟨kf10, kf11, kf12, kf13, kf14, kf15, kf16, kf17⟩ := Hkf1
  have HR1 : Hid (RL w1 R g cap B L E p) := Lib.hid (RL.below (by with_reducible repeat' (first | exact HR.out | refine RL.far ?_ (by omega) _ _ | refine RL.alloc ?_ _ | refine RL.drewN ?_ _ | refine RL.drew ?_)) b1)
  clear b1
  go_wp2_with fail
  refine (HP.out _ p res (by with_reducible repeat' (first | exact HR1.out | refine RL.far ?_ (by omega) _ _ | refine RL.alloc ?_ _ | refine RL.drewN ?_ _ | refine RL.drew ?_)) HF.out).mono ?_; rintro e w2 H2
  cases res with
  | bad z =>
    obtain ⟨rfl, b2⟩ := H2
    exact ⟨rfl, rfl, But.trans (by (with_reducible repeat' (first | exact h1 | refine zBr ?_ _ _ | refine zBs ?_ (by omega) _ _ | refine zBa ?_ _ | refine zBn ?_ _ | refine zBd ?_))) b2⟩
  | ok t q =>
    obtain ⟨⟨x0, x1, x2, x3, x4, x5, xw, xA, xl, xc⟩, rfl, v2, r2, b2⟩ := H2
    have HR2 : Hid (RL w2 R g cap B L E q) := Lib.hid r2
    clear r2
    have HVx2 : Hid (TV w2 (fun b => w.heap.size < b) ⟨x0, x1, x2, x3, x4, x5, xw, xA, xl, xc⟩ (some t)) := Lib.hid (v2.imp fun b hb => by have hb2 : _ ≤ b := hb; first | omega | (simp at hb2; omega))
    clear v2
    have h2 : But R w w2 := But.trans (by (with_reducible repeat' (first | exact h1 | refine zBr ?_ _ _ | refine zBs ?_ (by omega) _ _ | refine zBa ?_ _ | refine zBn ?_ _ | refine zBd ?_))) b2
    have y2 : w.heap.size ≤ w2.heap.size := h2.size
    have zk2 : w.heap.size < w2.heap.size := by have := b2.size; first | omega | (simp at this; omega)
    have Hk2 := c8_lift (B := w.heap.size) (fun j v hv => b2.cell (show w.heap.size ≠ R by omega) (by with_reducible repeat' (first | exact hv | refine zCs ?_ (by omega) _ _ | refine zCa ?_ _ | refine zCn ?_ _ | refine zCd ?_))) k10 k11 k12 k13 k14 k15 k16 k17
    obtain ⟨k20, k21, k22, k23, k24, k25, k26, k27⟩ := Hk2
    have Hkf2 := f8_lift (B := w.heap.size) (fun j hv => b2.frozen (show w.heap.size ≠ R by omega) (by first | omega | (simp; done) | (simp; omega)) (by with_reducible repeat' (first | exact hv | refine zFs ?_ (by omega) _ _ | refine zFa ?_ (by first | omega | (simp; omega)) _ | refine zFn ?_ _ | refine zFd ?_))) kf10 kf11 kf12 kf13 kf14 kf15 kf16 kf17
    obtain ⟨kf20, kf21, kf22, kf23, kf24, kf25, kf26, kf27⟩ := Hkf2
    clear b2 k10 k11 k12 k13 k14 k15 k16 k17 kf10 kf11 kf12 kf13 kf14 kf15 kf16 kf17 zk1
    dsimp only [V8.val]
    go_wp2_with fail
    exact bodyPost_ret (v := .agg #[.int .i64 x0, .int .i64 x1, .int .i64 x2, .int .i64 x3, .int .i64 x4, .int .i64 x5, .string xw, .slice xA xl xc]) (by simp [results, Tryz.results118, go_sem, k20, k21, k22, k23, k24, k25, k26, k27, zk2]) rfl ⟨⟨x0, x1, x2, x3, x4, x5, xw, xA, xl, xc⟩, rfl, ((HVx2.out.kept (by (with_reducible repeat' (first | exact Kept.refl _ _ | refine Kept.set1 ?_ (by omega) _ _ | refine Kept.setNew ?_ (by omega) _ _ | refine Kept.alloc ?_ _ | refine Kept.drewN ?_ _ | refine Kept.drew ?_)))).imp fun b (hb : w.heap.size < b) => Nat.le_of_lt hb), (by with_reducible repeat' (first | exact HR2.out | refine RL.far ?_ (by omega) _ _ | refine RL.alloc ?_ _ | refine RL.drewN ?_ _ | refine RL.drew ?_)), by (with_reducible repeat' (first | exact h2 | refine zBr ?_ _ _ | refine zBs ?_ (by omega) _ _ | refine zBa ?_ _ | refine zBn ?_ _ | refine zBd ?_))⟩
set_option maxHeartbeats 2000000 in
set_option maxRecDepth 10000 in
theorem pitem_nocolon {w : World} {R g cap B : Nat} {L : List Tok} {E p : Nat} (hL : L.length ≤ 1000) (hc : cap ≤ maxLen) (hG : GoodXL L) (hr : RL w R g cap B L E p) (he : isEnd L p = true) (hm : isMark L (p + 1) [58] = false) {f : Nat → Option Res} {res : Res} (hP : TreeP R g cap B L E 32 #[.pointer (some ⟨R, 0, none⟩), .int .i64 0] f) (hf : f p = some res) :
    Calls Tryz.prog 118 #[.pointer (some ⟨R, 0, none⟩)] w (PostP w R g cap B L E res) := by
  have HP := Lib.hid hP
  have HF := Lib.hid hf
  clear hP hf
  have HC := Lib.hid (pcornerF_any (tokAt L E p))
  have hT := Lib.hid (mark_text hG E (p + 1) (s := [58]) (by decide) (by decide))
  have hl := end_lt he
  rw [hm] at hT
  clear hm
  rw [end_kind L E p] at he
  rw [he] at HC
  clear he
  obtain ⟨t0, t1, t2, t3, t4, t5⟩ := hr.toks p _ (tokAt_some hr.le)
  have hx := hr.c
  have hle := hr.le
  have hgl := hr.lt
  have hrl := hr.rlt
  generalize tokAt L E p = a at *
  unfold tokV at *
  have HR := Lib.hid hr
  have lR := hr.lo.1
  have lB := hr.lo.2.2
  clear hr
  go_enter Tryz.func118, Tryz.ntmps118
  go_wp2_with fail
  clear t0 t1 t2 t3 t4 t5 hx hle hgl hrl
  refine ((HC.out _)).mono ?_; rintro e w1 ⟨rfl, b1⟩
  have h1 : But R w w1 := But.trans (by (with_reducible repeat' (first | exact But.refl _ _ | refine zBr ?_ _ _ | refine zBs ?_ (by omega) _ _ | refine zBa ?_ _ | refine zBn ?_ _ | refine zBd ?_))) (But.of_below b1)
  have y1 : w.heap.size ≤ w1.heap.size := h1.size
  have zk1 : w.heap.size < w1.heap.size := by have := b1.size; first | omega | (simp at this; omega)
  have Hk1 : C8 w1 (w.heap.size) (.int .i64 0) (.int .i64 0) (.int .i64 0) (.int .i64 0) (.int .i64 0) (.int .i64 0) (.string ⟨#[]⟩) (.slice none 0 0) := by refine ⟨?_, ?_, ?_, ?_, ?_, ?_, ?_, ?_⟩ <;> exact (But.of_below b1).cell (show w.heap.size ≠ R by omega) (by simp [go_sem])
  obtain ⟨k10, k11, k12, k13, k14, k15, k16, k17⟩ := Hk1
  have Hkf1 : F8 w1 (w.heap.size) := by refine ⟨?_, ?_, ?_, ?_, ?_, ?_, ?_, ?_⟩ <;> exact (But.of_below b1).frozen (show w.heap.size ≠ R by omega) (by first | omega | (simp; done) | (simp; omega)) (by simp [go_sem])
  obtain ⟨kf10, kf11, kf12, kf13, kf14, kf15, kf16, kf17⟩ := Hkf1
  have HR1 : Hid (RL w1 R g cap B L E p) := Lib.hid (RL.below (by with_reducible repeat' (first | exact HR.out | refine RL.far ?_ (by omega) _ _ | refine RL.alloc ?_ _ | refine RL.drewN ?_ _ | refine RL.drew ?_)) b1)
  clear b1
  obtain ⟨t0, t4, t5⟩ := HR1.out.tok' (q := p + 1) (by omega)
  rw [show (p + 1) * 6 = p * 6 + 6 from by omega] at t0 t4 t5
  have hx := HR1.out.c
  have hle := HR1.out.le
  have hgl := HR1.out.lt
  have hrl := HR1.out.rlt
  have HT := hT.out
  generalize tokAt L E (p + 1) = c at *
  go_wp2_with fail
  clear t0 t4 t5 hx hle hgl hrl
  refine (HP.out _ p res (by with_reducible repeat' (first | exact HR1.out | refine RL.far ?_ (by omega) _ _ | refine RL.alloc ?_ _ | refine RL.drewN ?_ _ | refine RL.drew ?_)) HF.out).mono ?_; rintro e w2 H2
  cases res with
  | bad z =>
    obtain ⟨rfl, b2⟩ := H2
    exact ⟨rfl, rfl, But.trans (by (with_reducible repeat' (first | exact h1 | refine zBr ?_ _ _ | refine zBs ?_ (by omega) _ _ | refine zBa ?_ _ | refine zBn ?_ _ | refine zBd ?_))) b2⟩
  | ok t q =>
    obtain ⟨⟨x0, x1, x2, x3, x4, x5, xw, xA, xl, xc⟩, rfl, v2, r2, b2⟩ := H2
    have HR2 : Hid (RL w2 R g cap B L E q) := Lib.hid r2
    clear r2
    have HVx2 : Hid (TV w2 (fun b => w.heap.size < b) ⟨x0, x1, x2, x3, x4, x5, xw, xA, xl, xc⟩ (some t)) := Lib.hid (v2.imp fun b hb => by have hb2 : _ ≤ b := hb; first | omega | (simp at hb2; omega))
    clear v2
    have h2 : But R w w2 := But.trans (by (with_reducible repeat' (first | exact h1 | refine zBr ?_ _ _ | refine zBs ?_ (by omega) _ _ | refine zBa ?_ _ | refine zBn ?_ _ | refine zBd ?_))) b2
    have y2 : w.heap.size ≤ w2.heap.size := h2.size
    have zk2 : w.heap.size < w2.heap.size := by have := b2.size; first | omega | (simp at this; omega)
    have Hk2 := c8_lift (B := w.heap.size) (fun j v hv => b2.cell (show w.heap.size ≠ R by omega) (by with_reducible repeat' (first | exact hv | refine zCs ?_ (by omega) _ _ | refine zCa ?_ _ | refine zCn ?_ _ | refine zCd ?_))) k10 k11 k12 k13 k14 k15 k16 k17
    obtain ⟨k20, k21, k22, k23, k24, k25, k26, k27⟩ := Hk2
    have Hkf2 := f8_lift (B := w.heap.size) (fun j hv => b2.frozen (show w.heap.size ≠ R by omega) (by first | omega | (simp; done) | (simp; omega)) (by with_reducible repeat' (first | exact hv | refine zFs ?_ (by omega) _ _ | refine zFa ?_ (by first | omega | (simp; omega)) _ | refine zFn ?_ _ | refine zFd ?_))) kf10 kf11 kf12 kf13 kf14 kf15 kf16 kf17
    obtain ⟨kf20, kf21, kf22, kf23, kf24, kf25, kf26, kf27⟩ := Hkf2
    clear b2 k10 k11 k12 k13 k14 k15 k16 k17 kf10 kf11 kf12 kf13 kf14 kf15 kf16 kf17 zk1
    dsimp only [V8.val]
    go_wp2_with fail
    exact bodyPost_ret (v := .agg #[.int .i64 x0, .int .i64 x1, .int .i64 x2, .int .i64 x3, .int .i64 x4, .int .i64 x5, .string xw, .slice xA xl xc]) (by simp [results, Tryz.results118, go_sem, k20, k21, k22, k23, k24, k25, k26, k27, zk2]) rfl ⟨⟨x0, x1, x2, x3, x4, x5, xw, xA, xl, xc⟩, rfl, ((HVx2.out.kept (by (with_reducible repeat' (first | exact Kept.refl _ _ | refine Kept.set1 ?_ (by omega) _ _ | refine Kept.setNew ?_ (by omega) _ _ | refine Kept.alloc ?_ _ | refine Kept.drewN ?_ _ | refine Kept.drew ?_)))).imp fun b (hb : w.heap.size < b) => Nat.le_of_lt hb), (by with_reducible repeat' (first | exact HR2.out | refine RL.far ?_ (by omega) _ _ | refine RL.alloc ?_ _ | refine RL.drewN ?_ _ | refine RL.drew ?_)), by (with_reducible repeat' (first | exact h2 | refine zBr ?_ _ _ | refine zBs ?_ (by omega) _ _ | refine zBa ?_ _ | refine zBn ?_ _ | refine zBd ?_))⟩
set_option maxHeartbeats 2000000 in
set_option maxRecDepth 10000 in
theorem pitem_corners {w : World} {R g cap B : Nat} {L : List Tok} {E p : Nat} (hL : L.length ≤ 1000) (hc : cap ≤ maxLen) (hG : GoodXL L) (hr : RL w R g cap B L E p) (he : isEnd L p = true) (hm : isMark L (p + 1) [58] = true) {f : Nat → Option Res} {res : Res} (hP : TreeP R g cap B L E 117 #[.pointer (some ⟨R, 0, none⟩)] f) (hf : f p = some res) :
    Calls Tryz.prog 118 #[.pointer (some ⟨R, 0, none⟩)] w (PostP w R g cap B L E res) := by
  have HP := Lib.hid hP
  have HF := Lib.hid hf
  clear hP hf
  have HC := Lib.hid (pcornerF_any (tokAt L E p))
  have hT := Lib.hid (mark_text hG E (p + 1) (s := [58]) (by decide) (by decide))
  have hl := end_lt he
  rw [hm] at hT
  clear hm
  rw [end_kind L E p] at he
  rw [he] at HC
  clear he
  obtain ⟨t0, t1, t2, t3, t4, t5⟩ := hr.toks p _ (tokAt_some hr.le)
  have hx := hr.c
  have hle := hr.le
  have hgl := hr.lt
  have hrl := hr.rlt
  generalize tokAt L E p = a at *
  unfold tokV at *
  have HR := Lib.hid hr
  have lR := hr.lo.1
  have lB := hr.lo.2.2
  clear hr
  go_enter Tryz.func118, Tryz.ntmps118
  go_wp2_with fail
  clear t0 t1 t2 t3 t4 t5 hx hle hgl hrl
  refine ((HC.out _)).mono ?_; rintro e w1 ⟨rfl, b1⟩
  have h1 : But R w w1 := But.trans (by (with_reducible repeat' (first | exact But.refl _ _ | refine zBr ?_ _ _ | refine zBs ?_ (by omega) _ _ | refine zBa ?_ _ | refine zBn ?_ _ | refine zBd ?_))) (But.of_below b1)
  have y1 : w.heap.size ≤ w1.heap.size := h1.size
  have zk1 : w.heap.size < w1.heap.size := by have := b1.size; first | omega | (simp at this; omega)
  have Hk1 : C8 w1 (w.heap.size) (.int .i64 0) (.int .i64 0) (.int .i64 0) (.int .i64 0) (.int .i64 0) (.int .i64 0) (.string ⟨#[]⟩) (.slice none 0 0) := by refine ⟨?_, ?_, ?_, ?_, ?_, ?_, ?_, ?_⟩ <;> exact (But.of_below b1).cell (show w.heap.size ≠ R by omega) (by simp [go_sem])
  obtain ⟨k10, k11, k12, k13, k14, k15, k16, k17⟩ := Hk1
  have Hkf1 : F8 w1 (w.heap.size) := by refine ⟨?_, ?_, ?_, ?_, ?_, ?_, ?_, ?_⟩ <;> exact (But.of_below b1).frozen (show w.heap.size ≠ R by omega) (by first | omega | (simp; done) | (simp; omega)) (by simp [go_sem])
  obtain ⟨kf10, kf11, kf12, kf13, kf14, kf15, kf16, kf17⟩ := Hkf1
  have HR1 : Hid (RL w1 R g cap B L E p) := Lib.hid (RL.below (by with_reducible repeat' (first | exact HR.out | refine RL.far ?_ (by omega) _ _ | refine RL.alloc ?_ _ | refine RL.drewN ?_ _ | refine RL.drew ?_)) b1)
  clear b1
  obtain ⟨t0, t4, t5⟩ := HR1.out.tok' (q := p + 1) (by omega)
  rw [show (p + 1) * 6 = p * 6 + 6 from by omega] at t0 t4 t5
  have hx := HR1.out.c
  have hle := HR1.out.le
  have hgl := HR1.out.lt
  have hrl := HR1.out.rlt
  have HT := hT.out
  generalize tokAt L E (p + 1) = c at *
  go_wp2_with fail
  clear t0 t4 t5 hx hle hgl hrl
  refine (HP.out _ p res (by with_reducible repeat' (first | exact HR1.out | refine RL.far ?_ (by omega) _ _ | refine RL.alloc ?_ _ | refine RL.drewN ?_ _ | refine RL.drew ?_)) HF.out).mono ?_; rintro e w2 H2
  cases res with
  | bad z =>
    obtain ⟨rfl, b2⟩ := H2
    exact ⟨rfl, rfl, But.trans (by (with_reducible repeat' (first | exact h1 | refine zBr ?_ _ _ | refine zBs ?_ (by omega) _ _ | refine zBa ?_ _ | refine zBn ?_ _ | refine zBd ?_))) b2⟩
  | ok t q =>
    obtain ⟨⟨x0, x1, x2, x3, x4, x5, xw, xA, xl, xc⟩, rfl, v2, r2, b2⟩ := H2
    have HR2 : Hid (RL w2 R g cap B L E q) := Lib.hid r2
    clear r2
    have HVx2 : Hid (TV w2 (fun b => w.heap.size < b) ⟨x0, x1, x2, x3, x4, x5, xw, xA, xl, xc⟩ (some t)) := Lib.hid (v2.imp fun b hb => by have hb2 : _ ≤ b := hb; first | omega | (simp at hb2; omega))
    clear v2
    have h2 : But R w w2 := But.trans (by (with_reducible repeat' (first | exact h1 | refine zBr ?_ _ _ | refine zBs ?_ (by omega) _ _ | refine zBa ?_ _ | refine zBn ?_ _ | refine zBd ?_))) b2
    have y2 : w.heap.size ≤ w2.heap.size := h2.size
    have zk2 : w.heap.size < w2.heap.size := by have := b2.size; first | omega | (simp at this; omega)
    have Hk2 := c8_lift (B := w.heap.size) (fun j v hv => b2.cell (show w.heap.size ≠ R by omega) (by with_reducible repeat' (first | exact hv | refine zCs ?_ (by omega) _ _ | refine zCa ?_ _ | refine zCn ?_ _ | refine zCd ?_))) k10 k11 k12 k13 k14 k15 k16 k17
    obtain ⟨k20, k21, k22, k23, k24, k25, k26, k27⟩ := Hk2
    have Hkf2 := f8_lift (B := w.heap.size) (fun j hv => b2.frozen (show w.heap.size ≠ R by omega) (by first | omega | (simp; done) | (simp; omega)) (by with_reducible repeat' (first | exact hv | refine zFs ?_ (by omega) _ _ | refine zFa ?_ (by first | omega | (simp; omega)) _ | refine zFn ?_ _ | refine zFd ?_))) kf10 kf11 kf12 kf13 kf14 kf15 kf16 kf17
    obtain ⟨kf20, kf21, kf22, kf23, kf24, kf25, kf26, kf27⟩ := Hkf2
    clear b2 k10 k11 k12 k13 k14 k15 k16 k17 kf10 kf11 kf12 kf13 kf14 kf15 kf16 kf17 zk1
    dsimp only [V8.val]
    go_wp2_with fail
    exact bodyPost_ret (v := .agg #[.int .i64 x0, .int .i64 x1, .int .i64 x2, .int .i64 x3, .int .i64 x4, .int .i64 x5, .string xw, .slice xA xl xc]) (by simp [results, Tryz.results118, go_sem, k20, k21, k22, k23, k24, k25, k26, k27, zk2]) rfl ⟨⟨x0, x1, x2, x3, x4, x5, xw, xA, xl, xc⟩, rfl, ((HVx2.out.kept (by (with_reducible repeat' (first | exact Kept.refl _ _ | refine Kept.set1 ?_ (by omega) _ _ | refine Kept.setNew ?_ (by omega) _ _ | refine Kept.alloc ?_ _ | refine Kept.drewN ?_ _ | refine Kept.drew ?_)))).imp fun b (hb : w.heap.size < b) => Nat.le_of_lt hb), (by with_reducible repeat' (first | exact HR2.out | refine RL.far ?_ (by omega) _ _ | refine RL.alloc ?_ _ | refine RL.drewN ?_ _ | refine RL.drew ?_)), by (with_reducible repeat' (first | exact h2 | refine zBr ?_ _ _ | refine zBs ?_ (by omega) _ _ | refine zBa ?_ _ | refine zBn ?_ _ | refine zBd ?_))⟩
theorem pitem_any {R g cap B : Nat} {L : List Tok} {E k : Nat} (hL : L.length ≤ 1000) (hc : cap ≤ maxLen) (hG : GoodXL L) (hP : TreeP R g cap B L E 32 #[.pointer (some ⟨R, 0, none⟩), .int .i64 0] (lineF L E k 1)) :
    TreeP R g cap B L E 118 #[.pointer (some ⟨R, 0, none⟩)] (itemF L E (k + 1) false) := by
  intro w p res hr hf
  have hf0 := hf
  rw [itemF] at hf
  cases he : isEnd L p with
  | false =>
    rw [if_pos ⟨rfl, .inl he⟩] at hf
    exact pitem_none hL hc hG hr he hP hf
  | true =>
    cases hm : isMark L (p + 1) [58] with
    | false =>
      rw [if_pos ⟨rfl, .inr hm⟩] at hf
      exact pitem_nocolon hL hc hG hr he hm hP hf
    | true =>
      refine pitem_corners hL hc hG hr he hm (pcorners_any (k := k) hL hc hG) ?_
      rw [itemF, if_neg (fun x => by cases x.1)]
      rw [if_neg (by rw [he, hm]; rintro ⟨_, h | h⟩ <;> cases h)] at hf
      exact hf
end Go.Proofs.YtahdlijkohmdfaaGreatDoor
