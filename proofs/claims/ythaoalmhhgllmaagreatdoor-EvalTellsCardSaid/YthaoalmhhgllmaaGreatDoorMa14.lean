/- Texts joined: TrE, TrF, TrG. -/
import Derived.Test.YthaoalmhhgllmaaGreatDoorMa13
import Derived.Deep.RegionWith
set_option linter.all false
set_option linter.unusedVariables false
set_option linter.unusedSimpArgs false
namespace Go.Proofs.YthaoalmhhgllmaaGreatDoor
open Go.RowKit

set_option maxHeartbeats 1000000 in
set_option maxRecDepth 10000 in
theorem rfail_bad {w : World} {R : Nat} {A : Option Addr} {cap : Nat} {L : List Tok} {E : Nat} {p x : Int} (h : RC w R A cap L E p true x) :
    Calls Tryz.prog 27 #[.pointer (some ⟨R, 0, none⟩)] w fun e w' => e = .returned (.tuple #[]) ∧ w = w' := by
  have c3 := h.c3
  clear h
  go_enter Tryz.func27, Tryz.ntmps27
  go_wp2_with fail
  refine bodyPost_ret (results_none rfl _ _ _) rfl ?_
  exact ⟨rfl, rfl⟩
set_option maxHeartbeats 1000000 in
set_option maxRecDepth 10000 in
theorem rfail_off {w : World} {R : Nat} {A : Option Addr} {cap : Nat} {L : List Tok} {E : Nat} {p : Nat} {x : Int} (h : RC w R A cap L E p false x) (ho : ¬ p < L.length) :
    Calls Tryz.prog 27 #[.pointer (some ⟨R, 0, none⟩)] w fun e w' => e = .returned (.tuple #[]) ∧ RC w' R A cap L E p true E ∧ But R w w' := by
  have c0 := h.c0
  have c1 := h.c1
  have c2 := h.c2
  have c3 := h.c3
  have c4 := h.c4
  have f1 := h.f1
  have f3 := h.f3
  have f4 := h.f4
  have hR := h.lt
  have d1 : decide (p < L.length) = false := decide_eq_false ho
  clear h ho
  go_enter Tryz.func27, Tryz.ntmps27
  go_wp2_with fail
  go_quiet (fail)
  go_wp2_with fail
  go_end0
  exact ⟨rfl, ⟨by simp [go_sem, c0], by simp [go_sem, c1], by simp [go_sem, c2], by simp [go_sem, c3], by simp [go_sem, c4], by simp [go_sem, f1], by simp [go_sem, f3], by simp [go_sem, f4]⟩, (((But.refl _ _).setR _ _).setR _ _).drewN _⟩
set_option maxHeartbeats 1000000 in
set_option maxRecDepth 10000 in
theorem rfail_on {w : World} {R : Nat} {A : Option Addr} {cap : Nat} {L : List Tok} {E : Nat} {p : Nat} {x : Int} (_hL : L.length ≤ 1000) (h : RC w R A cap L E p false x) (hk : TK w R A L) {t : Tok} (ht : L[p]? = some t) :
    Calls Tryz.prog 27 #[.pointer (some ⟨R, 0, none⟩)] w fun e w' => e = .returned (.tuple #[]) ∧ RC w' R A cap L E p true (t.frm : Int) ∧ But R w w' := by
  have c0 := h.c0
  have c1 := h.c1
  have c2 := h.c2
  have c3 := h.c3
  have c4 := h.c4
  have f1 := h.f1
  have f3 := h.f3
  have f4 := h.f4
  have hR := h.lt
  obtain ⟨g, rfl, hg, _, _, _, _, _, _, k5⟩ := hk.at ht
  have hlt : p < L.length := (List.getElem?_eq_some_iff.1 ht).1
  have d1 : decide (p < L.length) = true := decide_eq_true hlt
  clear h hk ht
  go_enter Tryz.func27, Tryz.ntmps27
  go_wp2_with fail
  go_quiet (fail)
  go_wp2_with fail
  go_region
  all_goals
    go_wp2_with fail
    go_end0
    exact ⟨rfl, ⟨by simp [go_sem, c0], by simp [go_sem, c1], by simp [go_sem, c2], by simp [go_sem, c3], World.cell?_setCell_same _ _ _ (u := .int .i64 (E : Int)) (by rw [World.cell?_drewN]; exact World.cell?_setCell_same _ _ _ (u := .int .i64 x) (by simp [go_sem, c4])), by simp [go_sem, f1], by simp [go_sem, f3], by simp [go_sem, f4]⟩, by
      repeat' (first | (with_reducible exact But.refl _ _) | (with_reducible refine But.drewN ?_ _) | (with_reducible refine But.setR ?_ _ _) | (with_reducible refine But.drew ?_))⟩
theorem rfail_any {w : World} {R : Nat} {A : Option Addr} {cap : Nat} {L : List Tok} {E : Nat} {st : St} (hL : L.length ≤ 1000) (h : RS w R A cap L E st) (hk : TK w R A L) :
    Calls Tryz.prog 27 #[.pointer (some ⟨R, 0, none⟩)] w fun e w' => e = .returned (.tuple #[]) ∧ RS w' R A cap L E (failS L E st) ∧ But R w w' := by
  cases st with
  | out x =>
    obtain ⟨p, h⟩ := h
    exact (rfail_bad h).mono fun e w' ⟨he, hw⟩ => ⟨he, hw ▸ ⟨p, h⟩, hw ▸ But.refl _ _⟩
  | run p =>
    obtain ⟨hp, x, h⟩ := h
    by_cases ho : p < L.length
    · have ht : L[p]? = some (L[p]'ho) := List.getElem?_eq_getElem ho
      refine (rfail_on hL h hk ht).mono fun e w' ⟨he, hr, hb⟩ => ⟨he, ⟨p, ?_⟩, hb⟩
      have e1 : whr L E p = (L[p]'ho).frm := by unfold whr; rw [ht]
      rw [e1]
      exact hr
    · refine (rfail_off h ho).mono fun e w' ⟨he, hr, hb⟩ => ⟨he, ⟨p, ?_⟩, hb⟩
      have e1 : whr L E p = E := by unfold whr; rw [List.getElem?_eq_none (by omega)]
      rw [e1]
      exact hr
end Go.Proofs.YthaoalmhhgllmaaGreatDoor
namespace Go.Proofs.YthaoalmhhgllmaaGreatDoor
open Go.RowKit

theorem RC.step {w : World} {R : Nat} {A : Option Addr} {cap : Nat} {L : List Tok} {E p : Nat} {x : Int} (h : RC w R A cap L E (p : Int) false x) {v : Int} (hv : v = ((p + 1 : Nat) : Int)) : RC (w.setCell ⟨R, 1, none⟩ (.int .i64 v)) R A cap L E ((p + 1 : Nat) : Int) false x := by
  subst hv
  have c0 := h.c0
  have c1 := h.c1
  have c2 := h.c2
  have c3 := h.c3
  have c4 := h.c4
  have f1 := h.f1
  have f3 := h.f3
  have f4 := h.f4
  exact ⟨by simp [go_sem, c0], by simp [go_sem, c1], by simp [go_sem, c2], by simp [go_sem, c3], by simp [go_sem, c4], by simp [go_sem, f1], by simp [go_sem, f3], by simp [go_sem, f4]⟩
set_option maxHeartbeats 1000000 in
set_option maxRecDepth 10000 in
theorem rmust_any {w : World} {R : Nat} {A : Option Addr} {cap : Nat} {L : List Tok} {E : Nat} {st : St} (s : ByteArray) (hL : L.length ≤ 1000) (h : RS w R A cap L E st) (hk : TK w R A L) :
    Calls Tryz.prog 110 #[.pointer (some ⟨R, 0, none⟩), .string s] w fun e w' => e = .returned (.tuple #[]) ∧ RS w' R A cap L E (mustS L E s.data.toList st) ∧ But R w w' := by
  have H1 := rmark_any (m := 0) s hL (by omega) h hk
  cases hm : markR L 0 s.data.toList st with
  | true =>
    rw [hm] at H1
    have HM := Lib.hid H1
    have hst : ∃ p, st = .run p := by
      cases st with
      | run p => exact ⟨p, rfl⟩
      | out x => cases hm
    obtain ⟨p, rfl⟩ := hst
    have hm' : isMark L p s.data.toList = true := hm
    have hlt := mark_lt hm'
    have e1 : mustS L E s.data.toList (.run p) = .run (p + 1) := if_pos hm'
    obtain ⟨hp, x, hc⟩ := h
    have HC := Lib.hid hc
    have HE := Lib.hid e1
    clear H1 hm hm' hk e1 hc
    go_enter Tryz.func110, Tryz.ntmps110
    go_wp2_with fail
    refine HM.out.mono ?_; rintro e w1 ⟨rfl, b1⟩
    have HC1 := Lib.hid (HC.out.below b1)
    have c1 := HC1.out.c1
    have f1 := HC1.out.f1
    go_wp2_with fail
    go_end0
    exact ⟨rfl, by rw [HE.out]; exact ⟨by omega, x, HC1.out.step (by omega)⟩, (But.of_below b1).setR _ _⟩
  | false =>
    rw [hm] at H1
    have HM := Lib.hid H1
    have e1 : mustS L E s.data.toList st = failS L E st := by
      cases st with
      | out x => rfl
      | run p => exact if_neg (by rw [show isMark L p s.data.toList = false from hm]; decide)
    have HE := Lib.hid e1
    have HH := Lib.hid (And.intro h hk)
    clear H1 hm hk h e1
    go_enter Tryz.func110, Tryz.ntmps110
    go_wp2_with fail
    refine HM.out.mono ?_; rintro e w1 ⟨rfl, b1⟩
    have HF := Lib.hid (rfail_any hL (HH.out.1.below b1) (HH.out.2.but (But.of_below b1)))
    go_wp2_with fail
    refine HF.out.mono ?_; rintro e w2 ⟨rfl, r2, b2⟩
    have HR := Lib.hid r2
    clear r2
    go_wp2_with fail
    refine bodyPost_ret (results_none rfl _ _ _) rfl ?_
    exact ⟨rfl, by rw [HE.out]; exact HR.out, (But.of_below b1).trans b2⟩
end Go.Proofs.YthaoalmhhgllmaaGreatDoor
namespace Go.Proofs.YthaoalmhhgllmaaGreatDoor
open Go.RowKit

set_option maxHeartbeats 1000000 in
theorem rLevel_at (s : ByteArray) (w : World) (b : List Bool) (n : Nat) (hb : b.length = 10) (hn : n = if b.getD 0 false || b.getD 1 false || b.getD 2 false || b.getD 3 false || b.getD 4 false || b.getD 5 false then 1 else if b.getD 6 false || b.getD 7 false then 2 else if b.getD 8 false || b.getD 9 false then 3 else 0)
    (h0 : (s.toList == [60]) = b.getD 0 false)
    (h1 : (s.toList == [60, 61]) = b.getD 1 false)
    (h2 : (s.toList == [61]) = b.getD 2 false)
    (h3 : (s.toList == [60, 62]) = b.getD 3 false)
    (h4 : (s.toList == [62, 61]) = b.getD 4 false)
    (h5 : (s.toList == [62]) = b.getD 5 false)
    (h6 : (s.toList == [43]) = b.getD 6 false)
    (h7 : (s.toList == [45]) = b.getD 7 false)
    (h8 : (s.toList == [42]) = b.getD 8 false)
    (h9 : (s.toList == [47]) = b.getD 9 false) :
    Calls Tryz.prog 41 #[.string s] w fun e w' => e = .returned (.int .i64 (n : Int)) ∧ w = w' := by
  match b, hb with
  | [b0, b1, b2, b3, b4, b5, b6, b7, b8, b9], _ =>
    simp only [List.getD_cons_zero, List.getD_cons_succ] at *
    cases b0 with
    | true =>
      simp at hn
      subst hn
      go_enter Tryz.func41, Tryz.ntmps41
      go_wp2_with fail
      go_ret
      exact ⟨rfl, rfl⟩
    | false =>
      cases b1 with
      | true =>
        simp at hn
        subst hn
        go_enter Tryz.func41, Tryz.ntmps41
        go_wp2_with fail
        go_ret
        exact ⟨rfl, rfl⟩
      | false =>
        cases b2 with
        | true =>
          simp at hn
          subst hn
          go_enter Tryz.func41, Tryz.ntmps41
          go_wp2_with fail
          go_ret
          exact ⟨rfl, rfl⟩
        | false =>
          cases b3 with
          | true =>
            simp at hn
            subst hn
            go_enter Tryz.func41, Tryz.ntmps41
            go_wp2_with fail
            go_ret
            exact ⟨rfl, rfl⟩
          | false =>
            cases b4 with
            | true =>
              simp at hn
              subst hn
              go_enter Tryz.func41, Tryz.ntmps41
              go_wp2_with fail
              go_ret
              exact ⟨rfl, rfl⟩
            | false =>
              cases b5 with
              | true =>
                simp at hn
                subst hn
                go_enter Tryz.func41, Tryz.ntmps41
                go_wp2_with fail
                go_ret
                exact ⟨rfl, rfl⟩
              | false =>
                cases b6 with
                | true =>
                  simp at hn
                  subst hn
                  go_enter Tryz.func41, Tryz.ntmps41
                  go_wp2_with fail
                  go_ret
                  exact ⟨rfl, rfl⟩
                | false =>
                  cases b7 with
                  | true =>
                    simp at hn
                    subst hn
                    go_enter Tryz.func41, Tryz.ntmps41
                    go_wp2_with fail
                    go_ret
                    exact ⟨rfl, rfl⟩
                  | false =>
                    cases b8 with
                    | true =>
                      simp at hn
                      subst hn
                      go_enter Tryz.func41, Tryz.ntmps41
                      go_wp2_with fail
                      go_ret
                      exact ⟨rfl, rfl⟩
                    | false =>
                      cases b9 with
                      | true =>
                        simp at hn
                        subst hn
                        go_enter Tryz.func41, Tryz.ntmps41
                        go_wp2_with fail
                        go_ret
                        exact ⟨rfl, rfl⟩
                      | false =>
                        simp at hn
                        subst hn
                        go_enter Tryz.func41, Tryz.ntmps41
                        go_wp2_with fail
                        go_ret
                        exact ⟨rfl, rfl⟩
theorem rLevel_any (s : ByteArray) (w : World) :
    Calls Tryz.prog 41 #[.string s] w fun e w' => e = .returned (.int .i64 (lvl s.data.toList : Int)) ∧ w = w' := by
  refine rLevel_at s w [s.toList == [60], s.toList == [60, 61], s.toList == [61], s.toList == [60, 62], s.toList == [62, 61], s.toList == [62], s.toList == [43], s.toList == [45], s.toList == [42], s.toList == [47]] _ rfl ?_ rfl rfl rfl rfl rfl rfl rfl rfl rfl rfl
  rw [ByteArray.toList_eq]
  unfold lvl
  simp only [List.getD_cons_zero, List.getD_cons_succ, Bool.or_eq_true, beq_iff_eq, or_assoc]

set_option maxHeartbeats 1000000 in
set_option maxRecDepth 10000 in
theorem rlevel_bad {w : World} {R : Nat} {A : Option Addr} {cap : Nat} {L : List Tok} {E : Nat} {p x : Int} (h : RC w R A cap L E p true x) :
    Calls Tryz.prog 45 #[.pointer (some ⟨R, 0, none⟩)] w fun e w' => e = .returned (.int .i64 0) ∧ Below w.heap.size w w' := by
  have c3 := h.c3
  clear h
  go_enter Tryz.func45, Tryz.ntmps45
  go_wp2_with fail
  go_quiet (fail)
  go_wp2_with fail
  go_ret
  exact ⟨rfl, below_drewN (Below.refl _ _) _⟩
set_option maxHeartbeats 1000000 in
set_option maxRecDepth 10000 in
theorem rlevel_off {w : World} {R : Nat} {A : Option Addr} {cap : Nat} {L : List Tok} {E p : Nat} {x : Int} (h : RC w R A cap L E p false x) (ho : ¬ p < L.length) :
    Calls Tryz.prog 45 #[.pointer (some ⟨R, 0, none⟩)] w fun e w' => e = .returned (.int .i64 0) ∧ Below w.heap.size w w' := by
  have c0 := h.c0
  have c1 := h.c1
  have c3 := h.c3
  have d1 : decide (L.length ≤ p) = true := decide_eq_true (by omega)
  clear h ho
  go_enter Tryz.func45, Tryz.ntmps45
  go_wp2_with fail
  go_quiet (fail)
  go_wp2_with fail
  go_ret
  exact ⟨rfl, below_drewN (Below.refl _ _) _⟩
set_option maxHeartbeats 1000000 in
set_option maxRecDepth 10000 in
theorem rlevel_on {w : World} {R : Nat} {A : Option Addr} {cap : Nat} {L : List Tok} {E p : Nat} {x : Int} (_hL : L.length ≤ 1000) (h : RC w R A cap L E p false x) (hk : TK w R A L) {t : Tok} (ht : L[p]? = some t) :
    Calls Tryz.prog 45 #[.pointer (some ⟨R, 0, none⟩)] w fun e w' => e = .returned (.int .i64 ((if t.kind = 5 then lvl t.text else 0 : Nat) : Int)) ∧ Below w.heap.size w w' := by
  have c0 := h.c0
  have c1 := h.c1
  have c3 := h.c3
  obtain ⟨g, rfl, _, _, k0, _, _, _, k4, _⟩ := hk.at ht
  have hlt : p < L.length := (List.getElem?_eq_some_iff.1 ht).1
  have d1 : decide (L.length ≤ p) = false := decide_eq_false (by omega)
  have HL := Lib.hid (rLevel_any ⟨t.text.toArray⟩)
  clear h hk ht
  by_cases h5 : t.kind = 5
  · have d5 : (t.kind != 5) = false := by simpa using h5
    have e1 : (⟨t.text.toArray⟩ : ByteArray).data.toList = t.text := by simp
    rw [e1] at HL
    rw [if_pos h5]
    clear h5 e1
    go_enter Tryz.func45, Tryz.ntmps45
    go_wp2_with fail
    go_quiet (fail)
    go_wp2_with fail
    go_region_with ((go_at_call 41; refine (HL.out _).mono ?_; rintro e w1 ⟨rfl, rfl⟩))
    all_goals
      go_wp2_with fail
      go_ret
      exact ⟨rfl, below_drewN (Below.refl _ _) _⟩
  · have d5 : (t.kind != 5) = true := by simpa using h5
    rw [if_neg h5]
    clear h5 HL
    go_enter Tryz.func45, Tryz.ntmps45
    go_wp2_with fail
    go_quiet (fail)
    go_wp2_with fail
    go_ret
    exact ⟨rfl, below_drewN (Below.refl _ _) _⟩
theorem rlevel_any {w : World} {R : Nat} {A : Option Addr} {cap : Nat} {L : List Tok} {E : Nat} {st : St} (hL : L.length ≤ 1000) (h : RS w R A cap L E st) (hk : TK w R A L) :
    Calls Tryz.prog 45 #[.pointer (some ⟨R, 0, none⟩)] w fun e w' => e = .returned (.int .i64 (levelS L st : Int)) ∧ Below w.heap.size w w' := by
  cases st with
  | out x => obtain ⟨p, h⟩ := h; exact rlevel_bad h
  | run p =>
    obtain ⟨hp, x, h⟩ := h
    by_cases ho : p < L.length
    · have ht : L[p]? = some (L[p]'ho) := List.getElem?_eq_getElem ho
      have e1 : levelS L (.run p) = if (L[p]'ho).kind = 5 then lvl (L[p]'ho).text else 0 := by show levelAt L p = _; unfold levelAt; rw [ht]
      rw [e1]
      exact rlevel_on hL h hk ht
    · have e1 : levelS L (.run p) = 0 := by show levelAt L p = _; unfold levelAt; rw [List.getElem?_eq_none (by omega)]
      rw [e1]
      exact rlevel_off h ho

set_option maxHeartbeats 1000000 in
set_option maxRecDepth 10000 in
theorem rend_bad {w : World} {R : Nat} {A : Option Addr} {cap : Nat} {L : List Tok} {E : Nat} {p x : Int} (h : RC w R A cap L E p true x) :
    Calls Tryz.prog 124 #[.pointer (some ⟨R, 0, none⟩)] w fun e w' => e = .returned (.bool false) ∧ Below w.heap.size w w' := by
  have c3 := h.c3
  clear h
  go_enter Tryz.func124, Tryz.ntmps124
  go_wp2_with fail
  go_quiet (fail)
  go_wp2_with fail
  go_ret
  exact ⟨rfl, below_drewN (Below.refl _ _) _⟩
set_option maxHeartbeats 1000000 in
set_option maxRecDepth 10000 in
theorem rend_off {w : World} {R : Nat} {A : Option Addr} {cap : Nat} {L : List Tok} {E p : Nat} {x : Int} (h : RC w R A cap L E p false x) (ho : ¬ p < L.length) :
    Calls Tryz.prog 124 #[.pointer (some ⟨R, 0, none⟩)] w fun e w' => e = .returned (.bool false) ∧ Below w.heap.size w w' := by
  have c0 := h.c0
  have c1 := h.c1
  have c3 := h.c3
  have d1 : decide (p < L.length) = false := decide_eq_false ho
  clear h ho
  go_enter Tryz.func124, Tryz.ntmps124
  go_wp2_with fail
  go_quiet (fail)
  go_wp2_with fail
  go_ret
  exact ⟨rfl, below_drewN (Below.refl _ _) _⟩
set_option maxHeartbeats 1000000 in
set_option maxRecDepth 10000 in
theorem rend_on {w : World} {R : Nat} {A : Option Addr} {cap : Nat} {L : List Tok} {E p : Nat} {x : Int} (_hL : L.length ≤ 1000) (h : RC w R A cap L E p false x) (hk : TK w R A L) {t : Tok} (ht : L[p]? = some t) :
    Calls Tryz.prog 124 #[.pointer (some ⟨R, 0, none⟩)] w fun e w' => e = .returned (.bool (t.kind == 2 || t.kind == 3)) ∧ Below w.heap.size w w' := by
  have c0 := h.c0
  have c1 := h.c1
  have c3 := h.c3
  obtain ⟨g, rfl, _, _, k0, _, _, _, _, _⟩ := hk.at ht
  have hlt : p < L.length := (List.getElem?_eq_some_iff.1 ht).1
  have d1 : decide (p < L.length) = true := decide_eq_true hlt
  clear h hk ht
  cases h2 : (t.kind == 2) with
  | true =>
    go_enter Tryz.func124, Tryz.ntmps124
    go_wp2_with fail
    go_quiet (fail)
    go_wp2_with fail
    go_ret
    exact ⟨rfl, below_drewN (Below.refl _ _) _⟩
  | false =>
    go_enter Tryz.func124, Tryz.ntmps124
    go_wp2_with fail
    go_quiet (fail)
    go_wp2_with fail
    go_ret
    exact ⟨rfl, below_drewN (Below.refl _ _) _⟩
theorem rend_any {w : World} {R : Nat} {A : Option Addr} {cap : Nat} {L : List Tok} {E : Nat} {st : St} (hL : L.length ≤ 1000) (h : RS w R A cap L E st) (hk : TK w R A L) :
    Calls Tryz.prog 124 #[.pointer (some ⟨R, 0, none⟩)] w fun e w' => e = .returned (.bool (endS L st)) ∧ Below w.heap.size w w' := by
  cases st with
  | out x => obtain ⟨p, h⟩ := h; exact rend_bad h
  | run p =>
    obtain ⟨hp, x, h⟩ := h
    by_cases ho : p < L.length
    · have ht : L[p]? = some (L[p]'ho) := List.getElem?_eq_getElem ho
      have e1 : endS L (.run p) = ((L[p]'ho).kind == 2 || (L[p]'ho).kind == 3) := by show isEnd L p = _; unfold isEnd; rw [ht]
      rw [e1]
      exact rend_on hL h hk ht
    · have e1 : endS L (.run p) = false := by show isEnd L p = _; unfold isEnd; rw [List.getElem?_eq_none (by omega)]
      rw [e1]
      exact rend_off h ho
end Go.Proofs.YthaoalmhhgllmaaGreatDoor
