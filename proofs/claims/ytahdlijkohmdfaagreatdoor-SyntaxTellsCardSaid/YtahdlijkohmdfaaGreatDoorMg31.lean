/- Texts joined: TrU, TrV. -/
import Derived.Test.YtahdlijkohmdfaaGreatDoorMg30
import Derived.Test.YtahdlijkohmdfaaGreatDoorMg09
set_option linter.all false
set_option linter.unusedVariables false
set_option linter.unusedSimpArgs false
/- The document's own test whether a tree has just what its kind has. -/
namespace Go.Proofs.YtahdlijkohmdfaaGreatDoor
open Go.RowKit

set_option maxHeartbeats 4000000 in
set_option maxRecDepth 10000 in
theorem ronly_at (t : Tr) (A : Option Addr) (cap : Nat) (n : Int) (w : World) (B0 N0 B1 B6 AT B4 B5 W0 LN : Bool) (h0 : (t.kind == 0) = B0) (hn : (t.num == 0) = N0) (h1 : (t.kind == 1) = B1) (h6 : (t.kind == 6) = B6)
    (hA : ∀ W, (binOp .eql 27 (.agg #[.int .i64 t.c1, .int .i64 t.r1, .int .i64 t.c2, .int .i64 t.r2]) (.agg #[.int .i64 0, .int .i64 0, .int .i64 0, .int .i64 0])).run Tryz.prog W = .ok (.bool AT) W)
    (h4 : (t.kind == 4) = B4) (h5 : (t.kind == 5) = B5) (hw : (t.word == []) = W0) (hl : ((t.kids.length : Int) == n) = LN) :
    Calls Tryz.prog 45 #[.agg #[.int .i64 t.kind, .int .i64 t.num, .int .i64 t.c1, .int .i64 t.r1, .int .i64 t.c2, .int .i64 t.r2, .string ⟨t.word.toArray⟩, .slice A t.kids.length cap], .int .i64 n] w fun e w' => e = .returned (.bool ((B0 || N0) && ((B1 || (B6 || AT)) && ((B4 || (B5 || W0)) && LN)))) ∧ Below w.heap.size w w' := by
  have hG := fun op X Y W => guard_range op X Y #[.int .i64 t.c1, .int .i64 t.r1, .int .i64 t.c2, .int .i64 t.r2] #[.int .i64 0, .int .i64 0, .int .i64 0, .int .i64 0] W
  cases B0 with
  | true =>
    cases B1 with
    | true =>
      cases B4 with
      | true =>
        cases LN with
        | true =>
          go_enter Tryz.func45, Tryz.ntmps45
          go_wp2_with fail
          go_ret
          exact ⟨rfl, (Below.refl _ _).alloc (Nat.le_refl _) _⟩
        | false =>
          go_enter Tryz.func45, Tryz.ntmps45
          go_wp2_with fail
          go_ret
          exact ⟨rfl, (Below.refl _ _).alloc (Nat.le_refl _) _⟩
      | false =>
        cases B5 with
        | true =>
          cases LN with
          | true =>
            go_enter Tryz.func45, Tryz.ntmps45
            go_wp2_with fail
            go_ret
            exact ⟨rfl, (Below.refl _ _).alloc (Nat.le_refl _) _⟩
          | false =>
            go_enter Tryz.func45, Tryz.ntmps45
            go_wp2_with fail
            go_ret
            exact ⟨rfl, (Below.refl _ _).alloc (Nat.le_refl _) _⟩
        | false =>
          cases W0 with
          | true =>
            cases LN with
            | true =>
              go_enter Tryz.func45, Tryz.ntmps45
              go_wp2_with fail
              go_ret
              exact ⟨rfl, (Below.refl _ _).alloc (Nat.le_refl _) _⟩
            | false =>
              go_enter Tryz.func45, Tryz.ntmps45
              go_wp2_with fail
              go_ret
              exact ⟨rfl, (Below.refl _ _).alloc (Nat.le_refl _) _⟩
          | false =>
            go_enter Tryz.func45, Tryz.ntmps45
            go_wp2_with fail
            go_ret
            exact ⟨rfl, (Below.refl _ _).alloc (Nat.le_refl _) _⟩
    | false =>
      cases B6 with
      | true =>
        cases B4 with
        | true =>
          cases LN with
          | true =>
            go_enter Tryz.func45, Tryz.ntmps45
            go_wp2_with fail
            go_ret
            exact ⟨rfl, (Below.refl _ _).alloc (Nat.le_refl _) _⟩
          | false =>
            go_enter Tryz.func45, Tryz.ntmps45
            go_wp2_with fail
            go_ret
            exact ⟨rfl, (Below.refl _ _).alloc (Nat.le_refl _) _⟩
        | false =>
          cases B5 with
          | true =>
            cases LN with
            | true =>
              go_enter Tryz.func45, Tryz.ntmps45
              go_wp2_with fail
              go_ret
              exact ⟨rfl, (Below.refl _ _).alloc (Nat.le_refl _) _⟩
            | false =>
              go_enter Tryz.func45, Tryz.ntmps45
              go_wp2_with fail
              go_ret
              exact ⟨rfl, (Below.refl _ _).alloc (Nat.le_refl _) _⟩
          | false =>
            cases W0 with
            | true =>
              cases LN with
              | true =>
                go_enter Tryz.func45, Tryz.ntmps45
                go_wp2_with fail
                go_ret
                exact ⟨rfl, (Below.refl _ _).alloc (Nat.le_refl _) _⟩
              | false =>
                go_enter Tryz.func45, Tryz.ntmps45
                go_wp2_with fail
                go_ret
                exact ⟨rfl, (Below.refl _ _).alloc (Nat.le_refl _) _⟩
            | false =>
              go_enter Tryz.func45, Tryz.ntmps45
              go_wp2_with fail
              go_ret
              exact ⟨rfl, (Below.refl _ _).alloc (Nat.le_refl _) _⟩
      | false =>
        cases AT with
        | true =>
          cases B4 with
          | true =>
            cases LN with
            | true =>
              go_enter Tryz.func45, Tryz.ntmps45
              go_wp2_with fail
              go_ret
              exact ⟨rfl, (Below.refl _ _).alloc (Nat.le_refl _) _⟩
            | false =>
              go_enter Tryz.func45, Tryz.ntmps45
              go_wp2_with fail
              go_ret
              exact ⟨rfl, (Below.refl _ _).alloc (Nat.le_refl _) _⟩
          | false =>
            cases B5 with
            | true =>
              cases LN with
              | true =>
                go_enter Tryz.func45, Tryz.ntmps45
                go_wp2_with fail
                go_ret
                exact ⟨rfl, (Below.refl _ _).alloc (Nat.le_refl _) _⟩
              | false =>
                go_enter Tryz.func45, Tryz.ntmps45
                go_wp2_with fail
                go_ret
                exact ⟨rfl, (Below.refl _ _).alloc (Nat.le_refl _) _⟩
            | false =>
              cases W0 with
              | true =>
                cases LN with
                | true =>
                  go_enter Tryz.func45, Tryz.ntmps45
                  go_wp2_with fail
                  go_ret
                  exact ⟨rfl, (Below.refl _ _).alloc (Nat.le_refl _) _⟩
                | false =>
                  go_enter Tryz.func45, Tryz.ntmps45
                  go_wp2_with fail
                  go_ret
                  exact ⟨rfl, (Below.refl _ _).alloc (Nat.le_refl _) _⟩
              | false =>
                go_enter Tryz.func45, Tryz.ntmps45
                go_wp2_with fail
                go_ret
                exact ⟨rfl, (Below.refl _ _).alloc (Nat.le_refl _) _⟩
        | false =>
          go_enter Tryz.func45, Tryz.ntmps45
          go_wp2_with fail
          go_ret
          exact ⟨rfl, (Below.refl _ _).alloc (Nat.le_refl _) _⟩
  | false =>
    cases N0 with
    | true =>
      cases B1 with
      | true =>
        cases B4 with
        | true =>
          cases LN with
          | true =>
            go_enter Tryz.func45, Tryz.ntmps45
            go_wp2_with fail
            go_ret
            exact ⟨rfl, (Below.refl _ _).alloc (Nat.le_refl _) _⟩
          | false =>
            go_enter Tryz.func45, Tryz.ntmps45
            go_wp2_with fail
            go_ret
            exact ⟨rfl, (Below.refl _ _).alloc (Nat.le_refl _) _⟩
        | false =>
          cases B5 with
          | true =>
            cases LN with
            | true =>
              go_enter Tryz.func45, Tryz.ntmps45
              go_wp2_with fail
              go_ret
              exact ⟨rfl, (Below.refl _ _).alloc (Nat.le_refl _) _⟩
            | false =>
              go_enter Tryz.func45, Tryz.ntmps45
              go_wp2_with fail
              go_ret
              exact ⟨rfl, (Below.refl _ _).alloc (Nat.le_refl _) _⟩
          | false =>
            cases W0 with
            | true =>
              cases LN with
              | true =>
                go_enter Tryz.func45, Tryz.ntmps45
                go_wp2_with fail
                go_ret
                exact ⟨rfl, (Below.refl _ _).alloc (Nat.le_refl _) _⟩
              | false =>
                go_enter Tryz.func45, Tryz.ntmps45
                go_wp2_with fail
                go_ret
                exact ⟨rfl, (Below.refl _ _).alloc (Nat.le_refl _) _⟩
            | false =>
              go_enter Tryz.func45, Tryz.ntmps45
              go_wp2_with fail
              go_ret
              exact ⟨rfl, (Below.refl _ _).alloc (Nat.le_refl _) _⟩
      | false =>
        cases B6 with
        | true =>
          cases B4 with
          | true =>
            cases LN with
            | true =>
              go_enter Tryz.func45, Tryz.ntmps45
              go_wp2_with fail
              go_ret
              exact ⟨rfl, (Below.refl _ _).alloc (Nat.le_refl _) _⟩
            | false =>
              go_enter Tryz.func45, Tryz.ntmps45
              go_wp2_with fail
              go_ret
              exact ⟨rfl, (Below.refl _ _).alloc (Nat.le_refl _) _⟩
          | false =>
            cases B5 with
            | true =>
              cases LN with
              | true =>
                go_enter Tryz.func45, Tryz.ntmps45
                go_wp2_with fail
                go_ret
                exact ⟨rfl, (Below.refl _ _).alloc (Nat.le_refl _) _⟩
              | false =>
                go_enter Tryz.func45, Tryz.ntmps45
                go_wp2_with fail
                go_ret
                exact ⟨rfl, (Below.refl _ _).alloc (Nat.le_refl _) _⟩
            | false =>
              cases W0 with
              | true =>
                cases LN with
                | true =>
                  go_enter Tryz.func45, Tryz.ntmps45
                  go_wp2_with fail
                  go_ret
                  exact ⟨rfl, (Below.refl _ _).alloc (Nat.le_refl _) _⟩
                | false =>
                  go_enter Tryz.func45, Tryz.ntmps45
                  go_wp2_with fail
                  go_ret
                  exact ⟨rfl, (Below.refl _ _).alloc (Nat.le_refl _) _⟩
              | false =>
                go_enter Tryz.func45, Tryz.ntmps45
                go_wp2_with fail
                go_ret
                exact ⟨rfl, (Below.refl _ _).alloc (Nat.le_refl _) _⟩
        | false =>
          cases AT with
          | true =>
            cases B4 with
            | true =>
              cases LN with
              | true =>
                go_enter Tryz.func45, Tryz.ntmps45
                go_wp2_with fail
                go_ret
                exact ⟨rfl, (Below.refl _ _).alloc (Nat.le_refl _) _⟩
              | false =>
                go_enter Tryz.func45, Tryz.ntmps45
                go_wp2_with fail
                go_ret
                exact ⟨rfl, (Below.refl _ _).alloc (Nat.le_refl _) _⟩
            | false =>
              cases B5 with
              | true =>
                cases LN with
                | true =>
                  go_enter Tryz.func45, Tryz.ntmps45
                  go_wp2_with fail
                  go_ret
                  exact ⟨rfl, (Below.refl _ _).alloc (Nat.le_refl _) _⟩
                | false =>
                  go_enter Tryz.func45, Tryz.ntmps45
                  go_wp2_with fail
                  go_ret
                  exact ⟨rfl, (Below.refl _ _).alloc (Nat.le_refl _) _⟩
              | false =>
                cases W0 with
                | true =>
                  cases LN with
                  | true =>
                    go_enter Tryz.func45, Tryz.ntmps45
                    go_wp2_with fail
                    go_ret
                    exact ⟨rfl, (Below.refl _ _).alloc (Nat.le_refl _) _⟩
                  | false =>
                    go_enter Tryz.func45, Tryz.ntmps45
                    go_wp2_with fail
                    go_ret
                    exact ⟨rfl, (Below.refl _ _).alloc (Nat.le_refl _) _⟩
                | false =>
                  go_enter Tryz.func45, Tryz.ntmps45
                  go_wp2_with fail
                  go_ret
                  exact ⟨rfl, (Below.refl _ _).alloc (Nat.le_refl _) _⟩
          | false =>
            go_enter Tryz.func45, Tryz.ntmps45
            go_wp2_with fail
            go_ret
            exact ⟨rfl, (Below.refl _ _).alloc (Nat.le_refl _) _⟩
    | false =>
      go_enter Tryz.func45, Tryz.ntmps45
      go_wp2_with fail
      go_ret
      exact ⟨rfl, (Below.refl _ _).alloc (Nat.le_refl _) _⟩
theorem ronly_any (t : Tr) (A : Option Addr) (cap n : Nat) (w : World) :
    Calls Tryz.prog 45 #[tv t A cap, .int .i64 (n : Int)] w fun e w' => e = .returned (.bool (onlyB t n)) ∧ Below w.heap.size w w' := by
  refine (ronly_at t A cap (n : Int) w _ _ _ _ _ _ _ _ _ rfl rfl rfl rfl (fun W => eql_range _ _ _ _ _ _ _ _ W) rfl rfl rfl rfl).mono fun e w' ⟨he, hb⟩ => ⟨he.trans (ret_bool ?_), hb⟩
  cases t with
  | mk k num c r d s wd ks =>
    unfold onlyB
    simp only [Tr.kind, Tr.num, Tr.c1, Tr.r1, Tr.c2, Tr.r2, Tr.word, Tr.kids]
    have e : ((ks.length : Int) == (n : Int)) = (ks.length == n) := by rw [Bool.eq_iff_iff, beq_iff_eq, beq_iff_eq]; omega
    rw [e]
    simp only [Bool.or_assoc, Bool.and_assoc]
end Go.Proofs.YtahdlijkohmdfaaGreatDoor
/- The document's own test whether all kids of a tree may be. -/
namespace Go.Proofs.YtahdlijkohmdfaaGreatDoor
open Go.RowKit

/-- may a kid be among such? -/
def kidB (x : Tr) (spans corners : Bool) : Bool := mayB x && ((spans || x.kind != 6) && (!corners || x.kind == 6 || x.kind == 2))
theorem all_cons (t : Tr) (ts : List Tr) (a b : Bool) : allB (t :: ts) a b = (kidB t a b && allB ts a b) := by rw [allB]; rfl
theorem all_nil (a b : Bool) : allB [] a b = true := by rw [allB]
theorem all_snoc : ∀ (ks : List Tr) (u : Tr) (a b : Bool), allB (ks ++ [u]) a b = (allB ks a b && kidB u a b)
  | [], u, a, b => by simp only [List.nil_append]; rw [all_cons, all_nil, Bool.and_true, Bool.true_and]
  | t :: ts, u, a, b => by simp only [List.cons_append]; rw [all_cons, all_cons, all_snoc ts u a b, Bool.and_assoc]
theorem all_take {ks : List Tr} {i : Nat} {u : Tr} {a b : Bool} (h : ks[i]? = some u) (ha : allB (ks.take i) a b = true) (hu : kidB u a b = true) : allB (ks.take (i + 1)) a b = true := by
  rw [List.take_add_one, h]
  exact (all_snoc _ _ _ _).trans (by rw [ha, hu]; rfl)
theorem all_bad : ∀ {ks : List Tr} {i : Nat} {u : Tr} {a b : Bool}, ks[i]? = some u → kidB u a b = false → allB ks a b = false
  | [], i, u, a, b, h, _ => by simp at h
  | t :: ts, 0, u, a, b, h, hu => by simp at h; subst h; rw [all_cons, hu, Bool.false_and]
  | t :: ts, i + 1, u, a, b, h, hu => by rw [all_cons, all_bad (ks := ts) (i := i) (by simpa using h) hu, Bool.and_false]
theorem kids_deep {t : Tr} {d : Nat} (h : deepT t ≤ d + 1) : deepL t.kids ≤ d := by rw [deep_eq] at h; omega
/-- what may is to do with trees that are not deeper than so much -/
def MayC (d : Nat) : Prop := ∀ (t : Tr), deepT t ≤ d → Wid t → ∀ (w : World) (P : Nat → Prop) (A : Option Addr) (cap : Nat), KV w P t A →
    Calls Tryz.prog 27 #[tv t A cap] w fun e w' => e = .returned (.bool (mayB t)) ∧ Below w.heap.size w w'
set_option maxHeartbeats 4000000 in
set_option maxRecDepth 10000 in
theorem rall_any {d : Nat} (ih : MayC d) (t : Tr) (hd : deepL t.kids ≤ d) (hw : Wid t) (a b : Bool) (w : World) (P : Nat → Prop) (A : Option Addr) (cap : Nat) (hk : KV w P t A) :
    Calls Tryz.prog 48 #[tv t A cap, .bool a, .bool b] w fun e w' => e = .returned (.bool (allB t.kids a b)) ∧ Below w.heap.size w w' := by
  unfold tv
  have hlen := hw.len
  unfold maxLen at hlen
  have HW := Lib.hid hw
  have HK := Lib.hid hk
  have HI := Lib.hid ih
  clear hk ih hw
  go_enter Tryz.func48, Tryz.ntmps48
  go_wp2_with fail
  go_loopw [7] (fun vi wr => ∃ i : Nat, i ≤ t.kids.length ∧ vi = .int .i64 (i : Int) ∧ Hid (allB (t.kids.take i) a b = true) ∧ Below w.heap.size w wr ∧ w.heap.size < wr.heap.size ∧ wr.cell? ⟨w.heap.size, 7, none⟩ = some (.slice A t.kids.length cap)) (fun vi _ => t.kids.length - (intOf vi).toNat)
  case atStart => exact ⟨0, Nat.zero_le _, rfl, Lib.hid (by rw [List.take_zero]; exact all_nil _ _), (Below.refl _ _).alloc (Nat.le_refl _) _, by simp, by simp [go_sem]⟩
  case round =>
    obtain ⟨i, hi, rfl, HTK, hbel, hsz, c7⟩ := hrel
    by_cases hlt : i < t.kids.length
    · have hu : t.kids[i]? = some (t.kids[i]'hlt) := List.getElem?_eq_getElem hlt
      obtain ⟨g, o, rfl⟩ := HK.out.addr hu
      obtain ⟨hg, A', cap', h8, hkv⟩ := HK.out.kidAt hbel hu
      have HTE := Lib.hid fun e => all_take (a := a) (b := b) hu HTK.out e
      have HTB := Lib.hid fun e => all_bad (a := a) (b := b) hu e
      have hdu := Nat.le_trans (deep_kid hu) hd
      have hwu := HW.out.kid hu
      generalize t.kids[i]'hlt = x at *
      have HC := Lib.hid (HI.out x hdu hwu (wr.alloc (.cells #[.int .i64 x.kind, .int .i64 x.num, .int .i64 x.c1, .int .i64 x.r1, .int .i64 x.c2, .int .i64 x.r2, .string ⟨x.word.toArray⟩, .slice A' x.kids.length cap'] 30)) _ A' cap' (hkv.kept (Kept.alloc (Kept.refl _ _) _)))
      unfold At8 at h8
      unfold tv at HC
      obtain ⟨q0, q1, q2, q3, q4, q5, q6, q7⟩ := h8
      clear hkv hu hdu hwu
      have HKB : Hid (kidB x a b = (mayB x && ((a || x.kind != 6) && (!b || x.kind == 6 || x.kind == 2)))) := Lib.hid rfl
      go_wp2_with fail
      refine HC.out.mono ?_; rintro e w1 ⟨rfl, b1⟩
      have e7 := keep_cell b1 (p := ⟨w.heap.size, 7, none⟩) (kc_alloc c7 _)
      have e0 := keep_fresh b1 0 (v := .int .i64 x.kind) rfl
      have s7 : w.heap.size < w1.heap.size := by have := b1.size; simp at this; omega
      have hb1 : Below w.heap.size w w1 := (hbel.alloc hbel.size _).trans (b1.mono (by have := hbel.size; simp; omega))
      clear b1 c7 q0 q1 q2 q3 q4 q5 q6 q7
      generalize mayB x = M at *
      cases M with
      | false =>
        have HF := Lib.hid (HTB.out (by rw [HKB.out]; rfl))
        clear HTE HTB HKB
        go_wp2_with fail
        go_ret
        exact ⟨by rw [HF.out]; rfl, hb1⟩
      | true =>
        have m6 : (x.kind != 6) = !(x.kind == 6) := rfl
        have m2 : (x.kind != 2) = !(x.kind == 2) := rfl
        cases h6 : (x.kind == 6) with
        | true =>
          rw [h6] at m6
          cases a with
          | false =>
            have HF := Lib.hid (HTB.out (by rw [HKB.out, m6]; rfl))
            clear HTE HTB HKB
            go_wp2_with fail
            go_ret
            exact ⟨by rw [HF.out]; rfl, hb1⟩
          | true =>
            cases b with
            | false =>
              have HG := Lib.hid (HTE.out (by rw [HKB.out, m6]; rfl))
              clear HTE HTB HKB
              go_wp2_with fail
              go_roundw
              case rel => exact ⟨i + 1, by omega, by go_num, HG, hb1, s7, e7⟩
              case measure => simp [intOf]; omega
            | true =>
              have HG := Lib.hid (HTE.out (by rw [HKB.out, m6, h6]; rfl))
              clear HTE HTB HKB
              go_wp2_with fail
              go_roundw
              case rel => exact ⟨i + 1, by omega, by go_num, HG, hb1, s7, e7⟩
              case measure => simp [intOf]; omega
        | false =>
          rw [h6] at m6
          cases b with
          | false =>
            cases a with
            | false =>
              have HG := Lib.hid (HTE.out (by rw [HKB.out, m6]; rfl))
              clear HTE HTB HKB
              go_wp2_with fail
              go_roundw
              case rel => exact ⟨i + 1, by omega, by go_num, HG, hb1, s7, e7⟩
              case measure => simp [intOf]; omega
            | true =>
              have HG := Lib.hid (HTE.out (by rw [HKB.out, m6]; rfl))
              clear HTE HTB HKB
              go_wp2_with fail
              go_roundw
              case rel => exact ⟨i + 1, by omega, by go_num, HG, hb1, s7, e7⟩
              case measure => simp [intOf]; omega
          | true =>
            cases h2 : (x.kind == 2) with
            | true =>
              rw [h2] at m2
              cases a with
              | false =>
                have HG := Lib.hid (HTE.out (by rw [HKB.out, m6, h6, h2]; rfl))
                clear HTE HTB HKB
                go_wp2_with fail
                go_roundw
                case rel => exact ⟨i + 1, by omega, by go_num, HG, hb1, s7, e7⟩
                case measure => simp [intOf]; omega
              | true =>
                have HG := Lib.hid (HTE.out (by rw [HKB.out, m6, h6, h2]; rfl))
                clear HTE HTB HKB
                go_wp2_with fail
                go_roundw
                case rel => exact ⟨i + 1, by omega, by go_num, HG, hb1, s7, e7⟩
                case measure => simp [intOf]; omega
            | false =>
              rw [h2] at m2
              cases a with
              | false =>
                have HF := Lib.hid (HTB.out (by rw [HKB.out, m6, h6, h2]; rfl))
                clear HTE HTB HKB
                go_wp2_with fail
                go_ret
                exact ⟨by rw [HF.out]; rfl, hb1⟩
              | true =>
                have HF := Lib.hid (HTB.out (by rw [HKB.out, m6, h6, h2]; rfl))
                clear HTE HTB HKB
                go_wp2_with fail
                go_ret
                exact ⟨by rw [HF.out]; rfl, hb1⟩
    · have hii : i = t.kids.length := by omega
      subst hii
      have hz : allB t.kids a b = true := by have := HTK.out; rwa [List.take_length] at this
      have HZ := Lib.hid hz
      clear hz
      go_wp2_with fail
      go_ret
      exact ⟨by rw [HZ.out]; rfl, hbel⟩
end Go.Proofs.YtahdlijkohmdfaaGreatDoor
