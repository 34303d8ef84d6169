/- Texts joined: TrS, TrU, TrV, TrC, TrD, TrE, TrF, TrG. -/
import Derived.Test.YthaoalmhhgllmaaDoorMb06
import Derived.Deep.RegionWith
import Derived.Deep.QuietTactic
import Derived.BigQuiet
import Derived.Deep.RegionHeld3
import Derived.Test.YthaoalmhhgllmaaDoorMb05
set_option linter.all false
namespace Go.Proofs.YthaoalmhhgllmaaDoor
open Go.RowKit
set_option maxHeartbeats 2000000 in
set_option maxRecDepth 10000 in
theorem rdeep_any : ∀ (d : Nat) (t : Tr), deepT t ≤ d → d ≤ 1000000000 → Wid t → ∀ (w : World) (P : Nat → Prop) (A : Option Addr) (cap : Nat), KV w P t A →
    Calls Tryd.prog 32 #[tv t A cap] w fun e w' => e = .returned (.int .i64 (deepT t : Int)) ∧ Below w.heap.size w w' := by
  intro d
  induction d with
  | zero => intro t h; rw [deep_eq] at h; omega
  | succ d ih =>
    intro t hd hb hw w P A cap hk
    unfold tv
    have hlen := hw.len
    unfold maxLen at hlen
    have HW := Lib.hid hw
    have HK := Lib.hid hk
    have HI := Lib.hid ih
    have HE := Lib.hid (deep_eq t)
    have hdl : deepL t.kids ≤ d := by rw [deep_eq] at hd; omega
    clear hk hd ih hw
    go_enter Tryd.func32, Tryd.ntmps32
    go_wp2_with fail
    go_loopw [3, 4] (fun vn vi wr => ∃ i : Nat, i ≤ t.kids.length ∧ vn = .int .i64 (deepL (t.kids.take i) : Int) ∧ vi = .int .i64 (i : Int) ∧ Below w.heap.size w wr ∧ w.heap.size < wr.heap.size ∧ wr.cell? ⟨w.heap.size, 7, none⟩ = some (.slice A t.kids.length cap)) (fun _ vi _ => t.kids.length - (intOf vi).toNat)
    case atStart => exact ⟨0, Nat.zero_le _, by rw [List.take_zero, deepL]; rfl, rfl, (Below.refl _ _).alloc (Nat.le_refl _) _, by simp, by simp [go_sem]⟩
    case round =>
      obtain ⟨i, hi, rfl, rfl, hbel, hsz, c7⟩ := hrel
      have htl := deep_take_le t.kids i
      by_cases hlt : i < t.kids.length
      · have hu : t.kids[i]? = some (t.kids[i]'hlt) := List.getElem?_eq_getElem hlt
        obtain ⟨g, o, rfl⟩ := HK.out.addr hu
        obtain ⟨hg, A', cap', h8, hkv⟩ := HK.out.kidAt hbel hu
        have htk := Lib.hid (deep_take hu)
        have hdu := deep_kid hu
        have HC := Lib.hid (HI.out _ (Nat.le_trans hdu hdl) (by omega) (HW.out.kid hu) wr _ A' cap' hkv)
        generalize t.kids[i]'hlt = u at *
        unfold At8 at h8
        unfold tv at HC
        obtain ⟨q0, q1, q2, q3, q4, q5, q6, q7⟩ := h8
        clear hkv hu
        go_wp2_with fail
        refine HC.out.mono ?_; rintro e w1 ⟨rfl, b1⟩
        have e7 := keep_cell b1 c7
        have s7 : w.heap.size < w1.heap.size := Nat.lt_of_lt_of_le hsz b1.size
        have hb1 := hbel.trans (b1.mono hbel.size)
        clear b1 c7 q0 q1 q2 q3 q4 q5 q6 q7
        go_wp2_with fail
        go_roundw
        case rel => exact ⟨i + 1, by omega, by rw [htk.out]; congr 1; omega, by go_num, hb1, s7, e7⟩
        case measure => simp [intOf]; omega
      · have hii : i = t.kids.length := by omega
        subst hii
        rw [List.take_length] at *
        have hw : wrap64 ((deepL t.kids : Int) + 1) = (deepL t.kids : Int) + 1 := IntWalk.wrap64_in _ (by omega)
        go_wp2_with fail
        go_ret
        exact ⟨ret_int (by have := HE.out; omega), hbel⟩
end Go.Proofs.YthaoalmhhgllmaaDoor
namespace Go.Proofs.YthaoalmhhgllmaaDoor
open Go.RowKit
set_option maxHeartbeats 4000000 in
set_option maxRecDepth 10000 in
theorem ronly_at (t : Tr) (A : Option Addr) (cap : Nat) (n : Int) (w : World) (B0 N0 B1 B6 AT B4 B5 W0 LN : Bool) (h0 : (t.kind == 0) = B0) (hn : (t.num == 0) = N0) (h1 : (t.kind == 1) = B1) (h6 : (t.kind == 6) = B6)
    (hA : ∀ W, (binOp .eql 26 (.agg #[.int .i64 t.c1, .int .i64 t.r1, .int .i64 t.c2, .int .i64 t.r2]) (.agg #[.int .i64 0, .int .i64 0, .int .i64 0, .int .i64 0])).run Tryd.prog W = .ok (.bool AT) W)
    (h4 : (t.kind == 4) = B4) (h5 : (t.kind == 5) = B5) (hw : (t.word == []) = W0) (hl : ((t.kids.length : Int) == n) = LN) :
    Calls Tryd.prog 55 #[.agg #[.int .i64 t.kind, .int .i64 t.num, .int .i64 t.c1, .int .i64 t.r1, .int .i64 t.c2, .int .i64 t.r2, .string ⟨t.word.toArray⟩, .slice A t.kids.length cap], .int .i64 n] w fun e w' => e = .returned (.bool ((B0 || N0) && ((B1 || (B6 || AT)) && ((B4 || (B5 || W0)) && LN)))) ∧ Below w.heap.size w w' := by
  have hG := fun op X Y W => guard_range op X Y #[.int .i64 t.c1, .int .i64 t.r1, .int .i64 t.c2, .int .i64 t.r2] #[.int .i64 0, .int .i64 0, .int .i64 0, .int .i64 0] W
  cases B0 with
  | true =>
    cases B1 with
    | true =>
      cases B4 with
      | true =>
        cases LN with
        | true =>
          go_enter Tryd.func55, Tryd.ntmps55
          go_wp2_with fail
          go_ret
          exact ⟨rfl, (Below.refl _ _).alloc (Nat.le_refl _) _⟩
        | false =>
          go_enter Tryd.func55, Tryd.ntmps55
          go_wp2_with fail
          go_ret
          exact ⟨rfl, (Below.refl _ _).alloc (Nat.le_refl _) _⟩
      | false =>
        cases B5 with
        | true =>
          cases LN with
          | true =>
            go_enter Tryd.func55, Tryd.ntmps55
            go_wp2_with fail
            go_ret
            exact ⟨rfl, (Below.refl _ _).alloc (Nat.le_refl _) _⟩
          | false =>
            go_enter Tryd.func55, Tryd.ntmps55
            go_wp2_with fail
            go_ret
            exact ⟨rfl, (Below.refl _ _).alloc (Nat.le_refl _) _⟩
        | false =>
          cases W0 with
          | true =>
            cases LN with
            | true =>
              go_enter Tryd.func55, Tryd.ntmps55
              go_wp2_with fail
              go_ret
              exact ⟨rfl, (Below.refl _ _).alloc (Nat.le_refl _) _⟩
            | false =>
              go_enter Tryd.func55, Tryd.ntmps55
              go_wp2_with fail
              go_ret
              exact ⟨rfl, (Below.refl _ _).alloc (Nat.le_refl _) _⟩
          | false =>
            go_enter Tryd.func55, Tryd.ntmps55
            go_wp2_with fail
            go_ret
            exact ⟨rfl, (Below.refl _ _).alloc (Nat.le_refl _) _⟩
    | false =>
      cases B6 with
      | true =>
        cases B4 with
        | true =>
          cases LN with
          | true =>
            go_enter Tryd.func55, Tryd.ntmps55
            go_wp2_with fail
            go_ret
            exact ⟨rfl, (Below.refl _ _).alloc (Nat.le_refl _) _⟩
          | false =>
            go_enter Tryd.func55, Tryd.ntmps55
            go_wp2_with fail
            go_ret
            exact ⟨rfl, (Below.refl _ _).alloc (Nat.le_refl _) _⟩
        | false =>
          cases B5 with
          | true =>
            cases LN with
            | true =>
              go_enter Tryd.func55, Tryd.ntmps55
              go_wp2_with fail
              go_ret
              exact ⟨rfl, (Below.refl _ _).alloc (Nat.le_refl _) _⟩
            | false =>
              go_enter Tryd.func55, Tryd.ntmps55
              go_wp2_with fail
              go_ret
              exact ⟨rfl, (Below.refl _ _).alloc (Nat.le_refl _) _⟩
          | false =>
            cases W0 with
            | true =>
              cases LN with
              | true =>
                go_enter Tryd.func55, Tryd.ntmps55
                go_wp2_with fail
                go_ret
                exact ⟨rfl, (Below.refl _ _).alloc (Nat.le_refl _) _⟩
              | false =>
                go_enter Tryd.func55, Tryd.ntmps55
                go_wp2_with fail
                go_ret
                exact ⟨rfl, (Below.refl _ _).alloc (Nat.le_refl _) _⟩
            | false =>
              go_enter Tryd.func55, Tryd.ntmps55
              go_wp2_with fail
              go_ret
              exact ⟨rfl, (Below.refl _ _).alloc (Nat.le_refl _) _⟩
      | false =>
        cases AT with
        | true =>
          cases B4 with
          | true =>
            cases LN with
            | true =>
              go_enter Tryd.func55, Tryd.ntmps55
              go_wp2_with fail
              go_ret
              exact ⟨rfl, (Below.refl _ _).alloc (Nat.le_refl _) _⟩
            | false =>
              go_enter Tryd.func55, Tryd.ntmps55
              go_wp2_with fail
              go_ret
              exact ⟨rfl, (Below.refl _ _).alloc (Nat.le_refl _) _⟩
          | false =>
            cases B5 with
            | true =>
              cases LN with
              | true =>
                go_enter Tryd.func55, Tryd.ntmps55
                go_wp2_with fail
                go_ret
                exact ⟨rfl, (Below.refl _ _).alloc (Nat.le_refl _) _⟩
              | false =>
                go_enter Tryd.func55, Tryd.ntmps55
                go_wp2_with fail
                go_ret
                exact ⟨rfl, (Below.refl _ _).alloc (Nat.le_refl _) _⟩
            | false =>
              cases W0 with
              | true =>
                cases LN with
                | true =>
                  go_enter Tryd.func55, Tryd.ntmps55
                  go_wp2_with fail
                  go_ret
                  exact ⟨rfl, (Below.refl _ _).alloc (Nat.le_refl _) _⟩
                | false =>
                  go_enter Tryd.func55, Tryd.ntmps55
                  go_wp2_with fail
                  go_ret
                  exact ⟨rfl, (Below.refl _ _).alloc (Nat.le_refl _) _⟩
              | false =>
                go_enter Tryd.func55, Tryd.ntmps55
                go_wp2_with fail
                go_ret
                exact ⟨rfl, (Below.refl _ _).alloc (Nat.le_refl _) _⟩
        | false =>
          go_enter Tryd.func55, Tryd.ntmps55
          go_wp2_with fail
          go_ret
          exact ⟨rfl, (Below.refl _ _).alloc (Nat.le_refl _) _⟩
  | false =>
    cases N0 with
    | true =>
      cases B1 with
      | true =>
        cases B4 with
        | true =>
          cases LN with
          | true =>
            go_enter Tryd.func55, Tryd.ntmps55
            go_wp2_with fail
            go_ret
            exact ⟨rfl, (Below.refl _ _).alloc (Nat.le_refl _) _⟩
          | false =>
            go_enter Tryd.func55, Tryd.ntmps55
            go_wp2_with fail
            go_ret
            exact ⟨rfl, (Below.refl _ _).alloc (Nat.le_refl _) _⟩
        | false =>
          cases B5 with
          | true =>
            cases LN with
            | true =>
              go_enter Tryd.func55, Tryd.ntmps55
              go_wp2_with fail
              go_ret
              exact ⟨rfl, (Below.refl _ _).alloc (Nat.le_refl _) _⟩
            | false =>
              go_enter Tryd.func55, Tryd.ntmps55
              go_wp2_with fail
              go_ret
              exact ⟨rfl, (Below.refl _ _).alloc (Nat.le_refl _) _⟩
          | false =>
            cases W0 with
            | true =>
              cases LN with
              | true =>
                go_enter Tryd.func55, Tryd.ntmps55
                go_wp2_with fail
                go_ret
                exact ⟨rfl, (Below.refl _ _).alloc (Nat.le_refl _) _⟩
              | false =>
                go_enter Tryd.func55, Tryd.ntmps55
                go_wp2_with fail
                go_ret
                exact ⟨rfl, (Below.refl _ _).alloc (Nat.le_refl _) _⟩
            | false =>
              go_enter Tryd.func55, Tryd.ntmps55
              go_wp2_with fail
              go_ret
              exact ⟨rfl, (Below.refl _ _).alloc (Nat.le_refl _) _⟩
      | false =>
        cases B6 with
        | true =>
          cases B4 with
          | true =>
            cases LN with
            | true =>
              go_enter Tryd.func55, Tryd.ntmps55
              go_wp2_with fail
              go_ret
              exact ⟨rfl, (Below.refl _ _).alloc (Nat.le_refl _) _⟩
            | false =>
              go_enter Tryd.func55, Tryd.ntmps55
              go_wp2_with fail
              go_ret
              exact ⟨rfl, (Below.refl _ _).alloc (Nat.le_refl _) _⟩
          | false =>
            cases B5 with
            | true =>
              cases LN with
              | true =>
                go_enter Tryd.func55, Tryd.ntmps55
                go_wp2_with fail
                go_ret
                exact ⟨rfl, (Below.refl _ _).alloc (Nat.le_refl _) _⟩
              | false =>
                go_enter Tryd.func55, Tryd.ntmps55
                go_wp2_with fail
                go_ret
                exact ⟨rfl, (Below.refl _ _).alloc (Nat.le_refl _) _⟩
            | false =>
              cases W0 with
              | true =>
                cases LN with
                | true =>
                  go_enter Tryd.func55, Tryd.ntmps55
                  go_wp2_with fail
                  go_ret
                  exact ⟨rfl, (Below.refl _ _).alloc (Nat.le_refl _) _⟩
                | false =>
                  go_enter Tryd.func55, Tryd.ntmps55
                  go_wp2_with fail
                  go_ret
                  exact ⟨rfl, (Below.refl _ _).alloc (Nat.le_refl _) _⟩
              | false =>
                go_enter Tryd.func55, Tryd.ntmps55
                go_wp2_with fail
                go_ret
                exact ⟨rfl, (Below.refl _ _).alloc (Nat.le_refl _) _⟩
        | false =>
          cases AT with
          | true =>
            cases B4 with
            | true =>
              cases LN with
              | true =>
                go_enter Tryd.func55, Tryd.ntmps55
                go_wp2_with fail
                go_ret
                exact ⟨rfl, (Below.refl _ _).alloc (Nat.le_refl _) _⟩
              | false =>
                go_enter Tryd.func55, Tryd.ntmps55
                go_wp2_with fail
                go_ret
                exact ⟨rfl, (Below.refl _ _).alloc (Nat.le_refl _) _⟩
            | false =>
              cases B5 with
              | true =>
                cases LN with
                | true =>
                  go_enter Tryd.func55, Tryd.ntmps55
                  go_wp2_with fail
                  go_ret
                  exact ⟨rfl, (Below.refl _ _).alloc (Nat.le_refl _) _⟩
                | false =>
                  go_enter Tryd.func55, Tryd.ntmps55
                  go_wp2_with fail
                  go_ret
                  exact ⟨rfl, (Below.refl _ _).alloc (Nat.le_refl _) _⟩
              | false =>
                cases W0 with
                | true =>
                  cases LN with
                  | true =>
                    go_enter Tryd.func55, Tryd.ntmps55
                    go_wp2_with fail
                    go_ret
                    exact ⟨rfl, (Below.refl _ _).alloc (Nat.le_refl _) _⟩
                  | false =>
                    go_enter Tryd.func55, Tryd.ntmps55
                    go_wp2_with fail
                    go_ret
                    exact ⟨rfl, (Below.refl _ _).alloc (Nat.le_refl _) _⟩
                | false =>
                  go_enter Tryd.func55, Tryd.ntmps55
                  go_wp2_with fail
                  go_ret
                  exact ⟨rfl, (Below.refl _ _).alloc (Nat.le_refl _) _⟩
          | false =>
            go_enter Tryd.func55, Tryd.ntmps55
            go_wp2_with fail
            go_ret
            exact ⟨rfl, (Below.refl _ _).alloc (Nat.le_refl _) _⟩
    | false =>
      go_enter Tryd.func55, Tryd.ntmps55
      go_wp2_with fail
      go_ret
      exact ⟨rfl, (Below.refl _ _).alloc (Nat.le_refl _) _⟩
theorem ronly_any (t : Tr) (A : Option Addr) (cap n : Nat) (w : World) :
    Calls Tryd.prog 55 #[tv t A cap, .int .i64 (n : Int)] w fun e w' => e = .returned (.bool (onlyB t n)) ∧ Below w.heap.size w w' := by
  refine (ronly_at t A cap (n : Int) w _ _ _ _ _ _ _ _ _ rfl rfl rfl rfl (fun W => eql_range _ _ _ _ _ _ _ _ W) rfl rfl rfl rfl).mono fun e w' ⟨he, hb⟩ => ⟨he.trans (ret_bool ?_), hb⟩
  cases t with
  | mk k num c r d s wd ks =>
    unfold onlyB
    simp only [Tr.kind, Tr.num, Tr.c1, Tr.r1, Tr.c2, Tr.r2, Tr.word, Tr.kids]
    have e : ((ks.length : Int) == (n : Int)) = (ks.length == n) := by rw [Bool.eq_iff_iff, beq_iff_eq, beq_iff_eq]; omega
    rw [e]
    simp only [Bool.or_assoc, Bool.and_assoc]
end Go.Proofs.YthaoalmhhgllmaaDoor
namespace Go.Proofs.YthaoalmhhgllmaaDoor
open Go.RowKit
def kidB (x : Tr) (spans corners : Bool) : Bool := mayB x && ((spans || x.kind != 6) && (!corners || x.kind == 6 || x.kind == 2))
theorem all_cons (t : Tr) (ts : List Tr) (a b : Bool) : allB (t :: ts) a b = (kidB t a b && allB ts a b) := by rw [allB]; rfl
theorem all_nil (a b : Bool) : allB [] a b = true := by rw [allB]
theorem all_snoc : ∀ (ks : List Tr) (u : Tr) (a b : Bool), allB (ks ++ [u]) a b = (allB ks a b && kidB u a b)
  | [], u, a, b => by simp only [List.nil_append]; rw [all_cons, all_nil, Bool.and_true, Bool.true_and]
  | t :: ts, u, a, b => by simp only [List.cons_append]; rw [all_cons, all_cons, all_snoc ts u a b, Bool.and_assoc]
theorem all_take {ks : List Tr} {i : Nat} {u : Tr} {a b : Bool} (h : ks[i]? = some u) (ha : allB (ks.take i) a b = true) (hu : kidB u a b = true) : allB (ks.take (i + 1)) a b = true := by
  rw [List.take_add_one, h]
  exact (all_snoc _ _ _ _).trans (by rw [ha, hu]; rfl)
theorem all_bad : ∀ {ks : List Tr} {i : Nat} {u : Tr} {a b : Bool}, ks[i]? = some u → kidB u a b = false → allB ks a b = false
  | [], i, u, a, b, h, _ => by simp at h
  | t :: ts, 0, u, a, b, h, hu => by simp at h; subst h; rw [all_cons, hu, Bool.false_and]
  | t :: ts, i + 1, u, a, b, h, hu => by rw [all_cons, all_bad (ks := ts) (i := i) (by simpa using h) hu, Bool.and_false]
theorem kids_deep {t : Tr} {d : Nat} (h : deepT t ≤ d + 1) : deepL t.kids ≤ d := by rw [deep_eq] at h; omega
def MayC (d : Nat) : Prop := ∀ (t : Tr), deepT t ≤ d → Wid t → ∀ (w : World) (P : Nat → Prop) (A : Option Addr) (cap : Nat), KV w P t A →
    Calls Tryd.prog 38 #[tv t A cap] w fun e w' => e = .returned (.bool (mayB t)) ∧ Below w.heap.size w w'
set_option maxHeartbeats 4000000 in
set_option maxRecDepth 10000 in
theorem rall_any {d : Nat} (ih : MayC d) (t : Tr) (hd : deepL t.kids ≤ d) (hw : Wid t) (a b : Bool) (w : World) (P : Nat → Prop) (A : Option Addr) (cap : Nat) (hk : KV w P t A) :
    Calls Tryd.prog 58 #[tv t A cap, .bool a, .bool b] w fun e w' => e = .returned (.bool (allB t.kids a b)) ∧ Below w.heap.size w w' := by
  unfold tv
  have hlen := hw.len
  unfold maxLen at hlen
  have HW := Lib.hid hw
  have HK := Lib.hid hk
  have HI := Lib.hid ih
  clear hk ih hw
  go_enter Tryd.func58, Tryd.ntmps58
  go_wp2_with fail
  go_loopw [7] (fun vi wr => ∃ i : Nat, i ≤ t.kids.length ∧ vi = .int .i64 (i : Int) ∧ Hid (allB (t.kids.take i) a b = true) ∧ Below w.heap.size w wr ∧ w.heap.size < wr.heap.size ∧ wr.cell? ⟨w.heap.size, 7, none⟩ = some (.slice A t.kids.length cap)) (fun vi _ => t.kids.length - (intOf vi).toNat)
  case atStart => exact ⟨0, Nat.zero_le _, rfl, Lib.hid (by rw [List.take_zero]; exact all_nil _ _), (Below.refl _ _).alloc (Nat.le_refl _) _, by simp, by simp [go_sem]⟩
  case round =>
    obtain ⟨i, hi, rfl, HTK, hbel, hsz, c7⟩ := hrel
    by_cases hlt : i < t.kids.length
    · have hu : t.kids[i]? = some (t.kids[i]'hlt) := List.getElem?_eq_getElem hlt
      obtain ⟨g, o, rfl⟩ := HK.out.addr hu
      obtain ⟨hg, A', cap', h8, hkv⟩ := HK.out.kidAt hbel hu
      have HTE := Lib.hid fun e => all_take (a := a) (b := b) hu HTK.out e
      have HTB := Lib.hid fun e => all_bad (a := a) (b := b) hu e
      have hdu := Nat.le_trans (deep_kid hu) hd
      have hwu := HW.out.kid hu
      generalize t.kids[i]'hlt = x at *
      have HC := Lib.hid (HI.out x hdu hwu (wr.alloc (.cells #[.int .i64 x.kind, .int .i64 x.num, .int .i64 x.c1, .int .i64 x.r1, .int .i64 x.c2, .int .i64 x.r2, .string ⟨x.word.toArray⟩, .slice A' x.kids.length cap'] 29)) _ A' cap' (hkv.kept (Kept.alloc (Kept.refl _ _) _)))
      unfold At8 at h8
      unfold tv at HC
      obtain ⟨q0, q1, q2, q3, q4, q5, q6, q7⟩ := h8
      clear hkv hu hdu hwu
      have HKB : Hid (kidB x a b = (mayB x && ((a || x.kind != 6) && (!b || x.kind == 6 || x.kind == 2)))) := Lib.hid rfl
      go_wp2_with fail
      refine HC.out.mono ?_; rintro e w1 ⟨rfl, b1⟩
      have e7 := keep_cell b1 (p := ⟨w.heap.size, 7, none⟩) (kc_alloc c7 _)
      have e0 := keep_fresh b1 0 (v := .int .i64 x.kind) rfl
      have s7 : w.heap.size < w1.heap.size := by have := b1.size; simp at this; omega
      have hb1 : Below w.heap.size w w1 := (hbel.alloc hbel.size _).trans (b1.mono (by have := hbel.size; simp; omega))
      clear b1 c7 q0 q1 q2 q3 q4 q5 q6 q7
      generalize mayB x = M at *
      cases M with
      | false =>
        have HF := Lib.hid (HTB.out (by rw [HKB.out]; rfl))
        clear HTE HTB HKB
        go_wp2_with fail
        go_ret
        exact ⟨by rw [HF.out]; rfl, hb1⟩
      | true =>
        have m6 : (x.kind != 6) = !(x.kind == 6) := rfl
        have m2 : (x.kind != 2) = !(x.kind == 2) := rfl
        cases h6 : (x.kind == 6) with
        | true =>
          rw [h6] at m6
          cases a with
          | false =>
            have HF := Lib.hid (HTB.out (by rw [HKB.out, m6]; rfl))
            clear HTE HTB HKB
            go_wp2_with fail
            go_ret
            exact ⟨by rw [HF.out]; rfl, hb1⟩
          | true =>
            cases b with
            | false =>
              have HG := Lib.hid (HTE.out (by rw [HKB.out, m6]; rfl))
              clear HTE HTB HKB
              go_wp2_with fail
              go_roundw
              case rel => exact ⟨i + 1, by omega, by go_num, HG, hb1, s7, e7⟩
              case measure => simp [intOf]; omega
            | true =>
              have HG := Lib.hid (HTE.out (by rw [HKB.out, m6, h6]; rfl))
              clear HTE HTB HKB
              go_wp2_with fail
              go_roundw
              case rel => exact ⟨i + 1, by omega, by go_num, HG, hb1, s7, e7⟩
              case measure => simp [intOf]; omega
        | false =>
          rw [h6] at m6
          cases b with
          | false =>
            cases a with
            | false =>
              have HG := Lib.hid (HTE.out (by rw [HKB.out, m6]; rfl))
              clear HTE HTB HKB
              go_wp2_with fail
              go_roundw
              case rel => exact ⟨i + 1, by omega, by go_num, HG, hb1, s7, e7⟩
              case measure => simp [intOf]; omega
            | true =>
              have HG := Lib.hid (HTE.out (by rw [HKB.out, m6]; rfl))
              clear HTE HTB HKB
              go_wp2_with fail
              go_roundw
              case rel => exact ⟨i + 1, by omega, by go_num, HG, hb1, s7, e7⟩
              case measure => simp [intOf]; omega
          | true =>
            cases h2 : (x.kind == 2) with
            | true =>
              rw [h2] at m2
              cases a with
              | false =>
                have HG := Lib.hid (HTE.out (by rw [HKB.out, m6, h6, h2]; rfl))
                clear HTE HTB HKB
                go_wp2_with fail
                go_roundw
                case rel => exact ⟨i + 1, by omega, by go_num, HG, hb1, s7, e7⟩
                case measure => simp [intOf]; omega
              | true =>
                have HG := Lib.hid (HTE.out (by rw [HKB.out, m6, h6, h2]; rfl))
                clear HTE HTB HKB
                go_wp2_with fail
                go_roundw
                case rel => exact ⟨i + 1, by omega, by go_num, HG, hb1, s7, e7⟩
                case measure => simp [intOf]; omega
            | false =>
              rw [h2] at m2
              cases a with
              | false =>
                have HF := Lib.hid (HTB.out (by rw [HKB.out, m6, h6, h2]; rfl))
                clear HTE HTB HKB
                go_wp2_with fail
                go_ret
                exact ⟨by rw [HF.out]; rfl, hb1⟩
              | true =>
                have HF := Lib.hid (HTB.out (by rw [HKB.out, m6, h6, h2]; rfl))
                clear HTE HTB HKB
                go_wp2_with fail
                go_ret
                exact ⟨by rw [HF.out]; rfl, hb1⟩
    · have hii : i = t.kids.length := by omega
      subst hii
      have hz : allB t.kids a b = true := by have := HTK.out; rwa [List.take_length] at this
      have HZ := Lib.hid hz
      clear hz
      go_wp2_with fail
      go_ret
      exact ⟨by rw [HZ.out]; rfl, hbel⟩
end Go.Proofs.YthaoalmhhgllmaaDoor
namespace Go.Proofs.YthaoalmhhgllmaaDoor
inductive St where
  | run (p : Nat)
  | out (x : Nat)
abbrev Got := St × Option Tr
def toS : Option Res → Option Got
  | none => none
  | some (.ok t q) => some (.run q, some t)
  | some (.bad x) => some (.out x, none)
def goS (f : Nat → Option Res) : St → Option Got
  | .out x => some (.out x, none)
  | .run p => toS (f p)
def mustS (L : List Tok) (E : Nat) (s : List UInt8) : St → St
  | .out x => .out x
  | .run p => if isMark L p s = true then .run (p + 1) else .out (whr L E p)
def markR (L : List Tok) (m : Nat) (s : List UInt8) : St → Bool
  | .out _ => false
  | .run p => isMark L (p + m) s
def levelS (L : List Tok) : St → Nat
  | .out _ => 0
  | .run p => levelAt L p
def endS (L : List Tok) : St → Bool
  | .out _ => false
  | .run p => isEnd L p
def failS (L : List Tok) (E : Nat) : St → St
  | .out x => .out x
  | .run p => .out (whr L E p)
theorem toS_next {a : Option Res} {f : Tr → Nat → Option Res} {g : Got} (h : toS (Res.next a f) = some g) :
    (∃ t q, toS a = some (.run q, some t) ∧ toS (f t q) = some g) ∨ (∃ x, toS a = some (.out x, none) ∧ g = (.out x, none)) := by
  cases a with
  | none => cases h
  | some r =>
    cases r with
    | ok t q => exact .inl ⟨t, q, rfl, h⟩
    | bad x => exact .inr ⟨x, rfl, (Option.some.inj h).symm⟩
theorem toS_must {L : List Tok} {E p : Nat} {s : List UInt8} {f : Nat → Option Res} {g : Got} (h : toS (mustF L E p s f) = some g) :
    (∃ q, mustS L E s (.run p) = .run q ∧ toS (f q) = some g) ∨ (∃ x, mustS L E s (.run p) = .out x ∧ g = (.out x, none)) := by
  unfold mustF at h
  by_cases hm : isMark L p s = true
  · rw [if_pos hm] at h
    exact .inl ⟨p + 1, if_pos hm, h⟩
  · rw [if_neg hm] at h
    exact .inr ⟨whr L E p, if_neg hm, (Option.some.inj h).symm⟩
end Go.Proofs.YthaoalmhhgllmaaDoor
namespace Go.Proofs.YthaoalmhhgllmaaDoor
open Go.RowKit
def RS (w : World) (R : Nat) (A : Option Addr) (cap : Nat) (L : List Tok) (E : Nat) : St → Prop
  | .run p => p ≤ L.length ∧ ∃ x : Int, RC w R A cap L E (p : Int) false x
  | .out x => ∃ p : Int, RC w R A cap L E p true (x : Int)
theorem RS.below {w w' : World} {R : Nat} {A : Option Addr} {cap : Nat} {L : List Tok} {E : Nat} {st : St} (h : RS w R A cap L E st) (hb : Below w.heap.size w w') : RS w' R A cap L E st := by
  cases st with
  | run p => obtain ⟨hp, x, h⟩ := h; exact ⟨hp, x, h.below hb⟩
  | out x => obtain ⟨p, h⟩ := h; exact ⟨p, h.below hb⟩

set_option maxHeartbeats 1000000 in
set_option maxRecDepth 10000 in
theorem rmark_bad {w : World} {R : Nat} {A : Option Addr} {cap : Nat} {L : List Tok} {E : Nat} {p x : Int} (m : Int) (s : ByteArray) (h : RC w R A cap L E p true x) :
    Calls Tryd.prog 74 #[.pointer (some ⟨R, 0, none⟩), .int .i64 m, .string s] w fun e w' => e = .returned (.bool false) ∧ Below w.heap.size w w' := by
  have c3 := h.c3
  clear h
  go_enter Tryd.func74, Tryd.ntmps74
  go_wp2_with fail
  go_quiet (fail)
  go_wp2_with fail
  go_ret
  exact ⟨rfl, below_drewN (Below.refl _ _) _⟩
set_option maxHeartbeats 1000000 in
set_option maxRecDepth 10000 in
theorem rmark_off {w : World} {R : Nat} {A : Option Addr} {cap : Nat} {L : List Tok} {E : Nat} {p m : Nat} {x : Int} (s : ByteArray) (_hL : L.length ≤ 1000) (hp : p ≤ 1000) (hm : m ≤ 1) (h : RC w R A cap L E p false x) (ho : ¬ p + m < L.length) :
    Calls Tryd.prog 74 #[.pointer (some ⟨R, 0, none⟩), .int .i64 (m : Int), .string s] w fun e w' => e = .returned (.bool false) ∧ Below w.heap.size w w' := by
  have c0 := h.c0
  have c1 := h.c1
  have c3 := h.c3
  have d1 : decide ((p : Int) + (m : Int) < (L.length : Int)) = false := decide_eq_false (by omega)
  clear h ho
  go_enter Tryd.func74, Tryd.ntmps74
  go_wp2_with fail
  go_quiet (fail)
  go_wp2_with fail
  go_ret
  exact ⟨rfl, below_drewN (Below.refl _ _) _⟩
set_option maxHeartbeats 1000000 in
set_option maxRecDepth 10000 in
theorem rmark_on {w : World} {R : Nat} {A : Option Addr} {cap : Nat} {L : List Tok} {E : Nat} {p m : Nat} {x : Int} (s : ByteArray) (hL : L.length ≤ 1000) (hp : p ≤ 1000) (hm : m ≤ 1) (h : RC w R A cap L E p false x) (hk : TK w R A L) {t : Tok} (ht : L[p + m]? = some t) :
    Calls Tryd.prog 74 #[.pointer (some ⟨R, 0, none⟩), .int .i64 (m : Int), .string s] w fun e w' => e = .returned (.bool (t.kind == 5 && t.text == s.data.toList)) ∧ Below w.heap.size w w' := by
  have c0 := h.c0
  have c1 := h.c1
  have c3 := h.c3
  obtain ⟨g, rfl, _, _, k0, _, _, _, k4, _⟩ := hk.at ht
  have hlt : p + m < L.length := (List.getElem?_eq_some_iff.1 ht).1
  have d1 : decide ((p : Int) + (m : Int) < (L.length : Int)) = true := decide_eq_true (by omega)
  have hT : (t.text == s.toList) = (t.text == s.data.toList) := by rw [ByteArray.toList_eq]
  clear h hk ht
  cases h5 : (t.kind == 5) with
  | false =>
    go_enter Tryd.func74, Tryd.ntmps74
    go_wp2_with fail
    go_quiet (fail)
    go_wp2_with fail
    go_ret
    exact ⟨rfl, below_drewN (Below.refl _ _) _⟩
  | true =>
    go_enter Tryd.func74, Tryd.ntmps74
    go_wp2_with fail
    go_quiet (fail)
    go_wp2_with fail
    go_ret
    exact ⟨ret_bool (Bool.true_and _).symm, below_drewN (Below.refl _ _) _⟩
theorem rmark_any {w : World} {R : Nat} {A : Option Addr} {cap : Nat} {L : List Tok} {E m : Nat} {st : St} (s : ByteArray) (hL : L.length ≤ 1000) (hm : m ≤ 1) (h : RS w R A cap L E st) (hk : TK w R A L) :
    Calls Tryd.prog 74 #[.pointer (some ⟨R, 0, none⟩), .int .i64 (m : Int), .string s] w fun e w' => e = .returned (.bool (markR L m s.data.toList st)) ∧ Below w.heap.size w w' := by
  cases st with
  | out x => obtain ⟨p, h⟩ := h; exact rmark_bad _ s h
  | run p =>
    obtain ⟨hp, x, h⟩ := h
    by_cases ho : p + m < L.length
    · have ht : L[p + m]? = some (L[p + m]'ho) := List.getElem?_eq_getElem ho
      refine (rmark_on s hL (by omega) hm h hk ht).mono fun e w' ⟨he, hb⟩ => ⟨he.trans (ret_bool ?_), hb⟩
      show _ = isMark L (p + m) s.data.toList
      unfold isMark
      rw [ht]
    · refine (rmark_off s hL (by omega) hm h ho).mono fun e w' ⟨he, hb⟩ => ⟨he.trans (ret_bool ?_), hb⟩
      show _ = isMark L (p + m) s.data.toList
      unfold isMark
      rw [List.getElem?_eq_none (by omega)]
end Go.Proofs.YthaoalmhhgllmaaDoor
namespace Go.Proofs.YthaoalmhhgllmaaDoor
open Go.RowKit
set_option maxHeartbeats 1000000 in
set_option maxRecDepth 10000 in
theorem rfail_bad {w : World} {R : Nat} {A : Option Addr} {cap : Nat} {L : List Tok} {E : Nat} {p x : Int} (h : RC w R A cap L E p true x) :
    Calls Tryd.prog 31 #[.pointer (some ⟨R, 0, none⟩)] w fun e w' => e = .returned (.tuple #[]) ∧ w = w' := by
  have c3 := h.c3
  clear h
  go_enter Tryd.func31, Tryd.ntmps31
  go_wp2_with fail
  refine bodyPost_ret (results_none rfl _ _ _) rfl ?_
  exact ⟨rfl, rfl⟩
set_option maxHeartbeats 1000000 in
set_option maxRecDepth 10000 in
theorem rfail_off {w : World} {R : Nat} {A : Option Addr} {cap : Nat} {L : List Tok} {E : Nat} {p : Nat} {x : Int} (h : RC w R A cap L E p false x) (ho : ¬ p < L.length) :
    Calls Tryd.prog 31 #[.pointer (some ⟨R, 0, none⟩)] w fun e w' => e = .returned (.tuple #[]) ∧ RC w' R A cap L E p true E ∧ But R w w' := by
  have c0 := h.c0
  have c1 := h.c1
  have c2 := h.c2
  have c3 := h.c3
  have c4 := h.c4
  have f1 := h.f1
  have f3 := h.f3
  have f4 := h.f4
  have hR := h.lt
  have d1 : decide (p < L.length) = false := decide_eq_false ho
  clear h ho
  go_enter Tryd.func31, Tryd.ntmps31
  go_wp2_with fail
  go_quiet (fail)
  go_wp2_with fail
  go_end0
  exact ⟨rfl, ⟨by simp [go_sem, c0], by simp [go_sem, c1], by simp [go_sem, c2], by simp [go_sem, c3], by simp [go_sem, c4], by simp [go_sem, f1], by simp [go_sem, f3], by simp [go_sem, f4]⟩, (((But.refl _ _).setR _ _).setR _ _).drewN _⟩
set_option maxHeartbeats 1000000 in
set_option maxRecDepth 10000 in
theorem rfail_on {w : World} {R : Nat} {A : Option Addr} {cap : Nat} {L : List Tok} {E : Nat} {p : Nat} {x : Int} (_hL : L.length ≤ 1000) (h : RC w R A cap L E p false x) (hk : TK w R A L) {t : Tok} (ht : L[p]? = some t) :
    Calls Tryd.prog 31 #[.pointer (some ⟨R, 0, none⟩)] w fun e w' => e = .returned (.tuple #[]) ∧ RC w' R A cap L E p true (t.frm : Int) ∧ But R w w' := by
  have c0 := h.c0
  have c1 := h.c1
  have c2 := h.c2
  have c3 := h.c3
  have c4 := h.c4
  have f1 := h.f1
  have f3 := h.f3
  have f4 := h.f4
  have hR := h.lt
  obtain ⟨g, rfl, hg, _, _, _, _, _, _, k5⟩ := hk.at ht
  have hlt : p < L.length := (List.getElem?_eq_some_iff.1 ht).1
  have d1 : decide (p < L.length) = true := decide_eq_true hlt
  clear h hk ht
  go_enter Tryd.func31, Tryd.ntmps31
  go_wp2_with fail
  go_quiet (fail)
  go_wp2_with fail
  go_region
  all_goals
    go_wp2_with fail
    go_end0
    exact ⟨rfl, ⟨by simp [go_sem, c0], by simp [go_sem, c1], by simp [go_sem, c2], by simp [go_sem, c3], World.cell?_setCell_same _ _ _ (u := .int .i64 (E : Int)) (by rw [World.cell?_drewN]; exact World.cell?_setCell_same _ _ _ (u := .int .i64 x) (by simp [go_sem, c4])), by simp [go_sem, f1], by simp [go_sem, f3], by simp [go_sem, f4]⟩, by
      repeat' (first | (with_reducible exact But.refl _ _) | (with_reducible refine But.drewN ?_ _) | (with_reducible refine But.setR ?_ _ _) | (with_reducible refine But.drew ?_))⟩
theorem rfail_any {w : World} {R : Nat} {A : Option Addr} {cap : Nat} {L : List Tok} {E : Nat} {st : St} (hL : L.length ≤ 1000) (h : RS w R A cap L E st) (hk : TK w R A L) :
    Calls Tryd.prog 31 #[.pointer (some ⟨R, 0, none⟩)] w fun e w' => e = .returned (.tuple #[]) ∧ RS w' R A cap L E (failS L E st) ∧ But R w w' := by
  cases st with
  | out x =>
    obtain ⟨p, h⟩ := h
    exact (rfail_bad h).mono fun e w' ⟨he, hw⟩ => ⟨he, hw ▸ ⟨p, h⟩, hw ▸ But.refl _ _⟩
  | run p =>
    obtain ⟨hp, x, h⟩ := h
    by_cases ho : p < L.length
    · have ht : L[p]? = some (L[p]'ho) := List.getElem?_eq_getElem ho
      refine (rfail_on hL h hk ht).mono fun e w' ⟨he, hr, hb⟩ => ⟨he, ⟨p, ?_⟩, hb⟩
      have e1 : whr L E p = (L[p]'ho).frm := by unfold whr; rw [ht]
      rw [e1]
      exact hr
    · refine (rfail_off h ho).mono fun e w' ⟨he, hr, hb⟩ => ⟨he, ⟨p, ?_⟩, hb⟩
      have e1 : whr L E p = E := by unfold whr; rw [List.getElem?_eq_none (by omega)]
      rw [e1]
      exact hr
end Go.Proofs.YthaoalmhhgllmaaDoor
namespace Go.Proofs.YthaoalmhhgllmaaDoor
open Go.RowKit
theorem RC.step {w : World} {R : Nat} {A : Option Addr} {cap : Nat} {L : List Tok} {E p : Nat} {x : Int} (h : RC w R A cap L E (p : Int) false x) {v : Int} (hv : v = ((p + 1 : Nat) : Int)) : RC (w.setCell ⟨R, 1, none⟩ (.int .i64 v)) R A cap L E ((p + 1 : Nat) : Int) false x := by
  subst hv
  have c0 := h.c0
  have c1 := h.c1
  have c2 := h.c2
  have c3 := h.c3
  have c4 := h.c4
  have f1 := h.f1
  have f3 := h.f3
  have f4 := h.f4
  exact ⟨by simp [go_sem, c0], by simp [go_sem, c1], by simp [go_sem, c2], by simp [go_sem, c3], by simp [go_sem, c4], by simp [go_sem, f1], by simp [go_sem, f3], by simp [go_sem, f4]⟩
set_option maxHeartbeats 1000000 in
set_option maxRecDepth 10000 in
theorem rmust_any {w : World} {R : Nat} {A : Option Addr} {cap : Nat} {L : List Tok} {E : Nat} {st : St} (s : ByteArray) (hL : L.length ≤ 1000) (h : RS w R A cap L E st) (hk : TK w R A L) :
    Calls Tryd.prog 89 #[.pointer (some ⟨R, 0, none⟩), .string s] w fun e w' => e = .returned (.tuple #[]) ∧ RS w' R A cap L E (mustS L E s.data.toList st) ∧ But R w w' := by
  have H1 := rmark_any (m := 0) s hL (by omega) h hk
  cases hm : markR L 0 s.data.toList st with
  | true =>
    rw [hm] at H1
    have HM := Lib.hid H1
    have hst : ∃ p, st = .run p := by
      cases st with
      | run p => exact ⟨p, rfl⟩
      | out x => cases hm
    obtain ⟨p, rfl⟩ := hst
    have hm' : isMark L p s.data.toList = true := hm
    have hlt := mark_lt hm'
    have e1 : mustS L E s.data.toList (.run p) = .run (p + 1) := if_pos hm'
    obtain ⟨hp, x, hc⟩ := h
    have HC := Lib.hid hc
    have HE := Lib.hid e1
    clear H1 hm hm' hk e1 hc
    go_enter Tryd.func89, Tryd.ntmps89
    go_wp2_with fail
    refine HM.out.mono ?_; rintro e w1 ⟨rfl, b1⟩
    have HC1 := Lib.hid (HC.out.below b1)
    have c1 := HC1.out.c1
    have f1 := HC1.out.f1
    go_wp2_with fail
    go_end0
    exact ⟨rfl, by rw [HE.out]; exact ⟨by omega, x, HC1.out.step (by omega)⟩, (But.of_below b1).setR _ _⟩
  | false =>
    rw [hm] at H1
    have HM := Lib.hid H1
    have e1 : mustS L E s.data.toList st = failS L E st := by
      cases st with
      | out x => rfl
      | run p => exact if_neg (by rw [show isMark L p s.data.toList = false from hm]; decide)
    have HE := Lib.hid e1
    have HH := Lib.hid (And.intro h hk)
    clear H1 hm hk h e1
    go_enter Tryd.func89, Tryd.ntmps89
    go_wp2_with fail
    refine HM.out.mono ?_; rintro e w1 ⟨rfl, b1⟩
    have HF := Lib.hid (rfail_any hL (HH.out.1.below b1) (HH.out.2.but (But.of_below b1)))
    go_wp2_with fail
    refine HF.out.mono ?_; rintro e w2 ⟨rfl, r2, b2⟩
    have HR := Lib.hid r2
    clear r2
    go_wp2_with fail
    refine bodyPost_ret (results_none rfl _ _ _) rfl ?_
    exact ⟨rfl, by rw [HE.out]; exact HR.out, (But.of_below b1).trans b2⟩
end Go.Proofs.YthaoalmhhgllmaaDoor
namespace Go.Proofs.YthaoalmhhgllmaaDoor
open Go.RowKit
set_option maxHeartbeats 1000000 in
theorem rLevel_at (s : ByteArray) (w : World) (b : List Bool) (n : Nat) (hb : b.length = 10) (hn : n = if b.getD 0 false || b.getD 1 false || b.getD 2 false || b.getD 3 false || b.getD 4 false || b.getD 5 false then 1 else if b.getD 6 false || b.getD 7 false then 2 else if b.getD 8 false || b.getD 9 false then 3 else 0)
    (h0 : (s.toList == [60]) = b.getD 0 false)
    (h1 : (s.toList == [60, 61]) = b.getD 1 false)
    (h2 : (s.toList == [61]) = b.getD 2 false)
    (h3 : (s.toList == [60, 62]) = b.getD 3 false)
    (h4 : (s.toList == [62, 61]) = b.getD 4 false)
    (h5 : (s.toList == [62]) = b.getD 5 false)
    (h6 : (s.toList == [43]) = b.getD 6 false)
    (h7 : (s.toList == [45]) = b.getD 7 false)
    (h8 : (s.toList == [42]) = b.getD 8 false)
    (h9 : (s.toList == [47]) = b.getD 9 false) :
    Calls Tryd.prog 59 #[.string s] w fun e w' => e = .returned (.int .i64 (n : Int)) ∧ w = w' := by
  match b, hb with
  | [b0, b1, b2, b3, b4, b5, b6, b7, b8, b9], _ =>
    simp only [List.getD_cons_zero, List.getD_cons_succ] at *
    cases b0 with
    | true =>
      simp at hn
      subst hn
      go_enter Tryd.func59, Tryd.ntmps59
      go_wp2_with fail
      go_ret
      exact ⟨rfl, rfl⟩
    | false =>
      cases b1 with
      | true =>
        simp at hn
        subst hn
        go_enter Tryd.func59, Tryd.ntmps59
        go_wp2_with fail
        go_ret
        exact ⟨rfl, rfl⟩
      | false =>
        cases b2 with
        | true =>
          simp at hn
          subst hn
          go_enter Tryd.func59, Tryd.ntmps59
          go_wp2_with fail
          go_ret
          exact ⟨rfl, rfl⟩
        | false =>
          cases b3 with
          | true =>
            simp at hn
            subst hn
            go_enter Tryd.func59, Tryd.ntmps59
            go_wp2_with fail
            go_ret
            exact ⟨rfl, rfl⟩
          | false =>
            cases b4 with
            | true =>
              simp at hn
              subst hn
              go_enter Tryd.func59, Tryd.ntmps59
              go_wp2_with fail
              go_ret
              exact ⟨rfl, rfl⟩
            | false =>
              cases b5 with
              | true =>
                simp at hn
                subst hn
                go_enter Tryd.func59, Tryd.ntmps59
                go_wp2_with fail
                go_ret
                exact ⟨rfl, rfl⟩
              | false =>
                cases b6 with
                | true =>
                  simp at hn
                  subst hn
                  go_enter Tryd.func59, Tryd.ntmps59
                  go_wp2_with fail
                  go_ret
                  exact ⟨rfl, rfl⟩
                | false =>
                  cases b7 with
                  | true =>
                    simp at hn
                    subst hn
                    go_enter Tryd.func59, Tryd.ntmps59
                    go_wp2_with fail
                    go_ret
                    exact ⟨rfl, rfl⟩
                  | false =>
                    cases b8 with
                    | true =>
                      simp at hn
                      subst hn
                      go_enter Tryd.func59, Tryd.ntmps59
                      go_wp2_with fail
                      go_ret
                      exact ⟨rfl, rfl⟩
                    | false =>
                      cases b9 with
                      | true =>
                        simp at hn
                        subst hn
                        go_enter Tryd.func59, Tryd.ntmps59
                        go_wp2_with fail
                        go_ret
                        exact ⟨rfl, rfl⟩
                      | false =>
                        simp at hn
                        subst hn
                        go_enter Tryd.func59, Tryd.ntmps59
                        go_wp2_with fail
                        go_ret
                        exact ⟨rfl, rfl⟩
theorem rLevel_any (s : ByteArray) (w : World) :
    Calls Tryd.prog 59 #[.string s] w fun e w' => e = .returned (.int .i64 (lvl s.data.toList : Int)) ∧ w = w' := by
  refine rLevel_at s w [s.toList == [60], s.toList == [60, 61], s.toList == [61], s.toList == [60, 62], s.toList == [62, 61], s.toList == [62], s.toList == [43], s.toList == [45], s.toList == [42], s.toList == [47]] _ rfl ?_ rfl rfl rfl rfl rfl rfl rfl rfl rfl rfl
  rw [ByteArray.toList_eq]
  unfold lvl
  simp only [List.getD_cons_zero, List.getD_cons_succ, Bool.or_eq_true, beq_iff_eq, or_assoc]

set_option maxHeartbeats 1000000 in
set_option maxRecDepth 10000 in
theorem rlevel_bad {w : World} {R : Nat} {A : Option Addr} {cap : Nat} {L : List Tok} {E : Nat} {p x : Int} (h : RC w R A cap L E p true x) :
    Calls Tryd.prog 47 #[.pointer (some ⟨R, 0, none⟩)] w fun e w' => e = .returned (.int .i64 0) ∧ Below w.heap.size w w' := by
  have c3 := h.c3
  clear h
  go_enter Tryd.func47, Tryd.ntmps47
  go_wp2_with fail
  go_quiet (fail)
  go_wp2_with fail
  go_ret
  exact ⟨rfl, below_drewN (Below.refl _ _) _⟩
set_option maxHeartbeats 1000000 in
set_option maxRecDepth 10000 in
theorem rlevel_off {w : World} {R : Nat} {A : Option Addr} {cap : Nat} {L : List Tok} {E p : Nat} {x : Int} (h : RC w R A cap L E p false x) (ho : ¬ p < L.length) :
    Calls Tryd.prog 47 #[.pointer (some ⟨R, 0, none⟩)] w fun e w' => e = .returned (.int .i64 0) ∧ Below w.heap.size w w' := by
  have c0 := h.c0
  have c1 := h.c1
  have c3 := h.c3
  have d1 : decide (L.length ≤ p) = true := decide_eq_true (by omega)
  clear h ho
  go_enter Tryd.func47, Tryd.ntmps47
  go_wp2_with fail
  go_quiet (fail)
  go_wp2_with fail
  go_ret
  exact ⟨rfl, below_drewN (Below.refl _ _) _⟩
set_option maxHeartbeats 1000000 in
set_option maxRecDepth 10000 in
theorem rlevel_on {w : World} {R : Nat} {A : Option Addr} {cap : Nat} {L : List Tok} {E p : Nat} {x : Int} (_hL : L.length ≤ 1000) (h : RC w R A cap L E p false x) (hk : TK w R A L) {t : Tok} (ht : L[p]? = some t) :
    Calls Tryd.prog 47 #[.pointer (some ⟨R, 0, none⟩)] w fun e w' => e = .returned (.int .i64 ((if t.kind = 5 then lvl t.text else 0 : Nat) : Int)) ∧ Below w.heap.size w w' := by
  have c0 := h.c0
  have c1 := h.c1
  have c3 := h.c3
  obtain ⟨g, rfl, _, _, k0, _, _, _, k4, _⟩ := hk.at ht
  have hlt : p < L.length := (List.getElem?_eq_some_iff.1 ht).1
  have d1 : decide (L.length ≤ p) = false := decide_eq_false (by omega)
  have HL := Lib.hid (rLevel_any ⟨t.text.toArray⟩)
  clear h hk ht
  by_cases h5 : t.kind = 5
  · have d5 : (t.kind != 5) = false := by simpa using h5
    have e1 : (⟨t.text.toArray⟩ : ByteArray).data.toList = t.text := by simp
    rw [e1] at HL
    rw [if_pos h5]
    clear h5 e1
    go_enter Tryd.func47, Tryd.ntmps47
    go_wp2_with fail
    go_quiet (fail)
    go_wp2_with fail
    go_region_with ((go_at_call 59; refine (HL.out _).mono ?_; rintro e w1 ⟨rfl, rfl⟩))
    all_goals
      go_wp2_with fail
      go_ret
      exact ⟨rfl, below_drewN (Below.refl _ _) _⟩
  · have d5 : (t.kind != 5) = true := by simpa using h5
    rw [if_neg h5]
    clear h5 HL
    go_enter Tryd.func47, Tryd.ntmps47
    go_wp2_with fail
    go_quiet (fail)
    go_wp2_with fail
    go_ret
    exact ⟨rfl, below_drewN (Below.refl _ _) _⟩
theorem rlevel_any {w : World} {R : Nat} {A : Option Addr} {cap : Nat} {L : List Tok} {E : Nat} {st : St} (hL : L.length ≤ 1000) (h : RS w R A cap L E st) (hk : TK w R A L) :
    Calls Tryd.prog 47 #[.pointer (some ⟨R, 0, none⟩)] w fun e w' => e = .returned (.int .i64 (levelS L st : Int)) ∧ Below w.heap.size w w' := by
  cases st with
  | out x => obtain ⟨p, h⟩ := h; exact rlevel_bad h
  | run p =>
    obtain ⟨hp, x, h⟩ := h
    by_cases ho : p < L.length
    · have ht : L[p]? = some (L[p]'ho) := List.getElem?_eq_getElem ho
      have e1 : levelS L (.run p) = if (L[p]'ho).kind = 5 then lvl (L[p]'ho).text else 0 := by show levelAt L p = _; unfold levelAt; rw [ht]
      rw [e1]
      exact rlevel_on hL h hk ht
    · have e1 : levelS L (.run p) = 0 := by show levelAt L p = _; unfold levelAt; rw [List.getElem?_eq_none (by omega)]
      rw [e1]
      exact rlevel_off h ho

set_option maxHeartbeats 1000000 in
set_option maxRecDepth 10000 in
theorem rend_bad {w : World} {R : Nat} {A : Option Addr} {cap : Nat} {L : List Tok} {E : Nat} {p x : Int} (h : RC w R A cap L E p true x) :
    Calls Tryd.prog 99 #[.pointer (some ⟨R, 0, none⟩)] w fun e w' => e = .returned (.bool false) ∧ Below w.heap.size w w' := by
  have c3 := h.c3
  clear h
  go_enter Tryd.func99, Tryd.ntmps99
  go_wp2_with fail
  go_quiet (fail)
  go_wp2_with fail
  go_ret
  exact ⟨rfl, below_drewN (Below.refl _ _) _⟩
set_option maxHeartbeats 1000000 in
set_option maxRecDepth 10000 in
theorem rend_off {w : World} {R : Nat} {A : Option Addr} {cap : Nat} {L : List Tok} {E p : Nat} {x : Int} (h : RC w R A cap L E p false x) (ho : ¬ p < L.length) :
    Calls Tryd.prog 99 #[.pointer (some ⟨R, 0, none⟩)] w fun e w' => e = .returned (.bool false) ∧ Below w.heap.size w w' := by
  have c0 := h.c0
  have c1 := h.c1
  have c3 := h.c3
  have d1 : decide (p < L.length) = false := decide_eq_false ho
  clear h ho
  go_enter Tryd.func99, Tryd.ntmps99
  go_wp2_with fail
  go_quiet (fail)
  go_wp2_with fail
  go_ret
  exact ⟨rfl, below_drewN (Below.refl _ _) _⟩
set_option maxHeartbeats 1000000 in
set_option maxRecDepth 10000 in
theorem rend_on {w : World} {R : Nat} {A : Option Addr} {cap : Nat} {L : List Tok} {E p : Nat} {x : Int} (_hL : L.length ≤ 1000) (h : RC w R A cap L E p false x) (hk : TK w R A L) {t : Tok} (ht : L[p]? = some t) :
    Calls Tryd.prog 99 #[.pointer (some ⟨R, 0, none⟩)] w fun e w' => e = .returned (.bool (t.kind == 2 || t.kind == 3)) ∧ Below w.heap.size w w' := by
  have c0 := h.c0
  have c1 := h.c1
  have c3 := h.c3
  obtain ⟨g, rfl, _, _, k0, _, _, _, _, _⟩ := hk.at ht
  have hlt : p < L.length := (List.getElem?_eq_some_iff.1 ht).1
  have d1 : decide (p < L.length) = true := decide_eq_true hlt
  clear h hk ht
  cases h2 : (t.kind == 2) with
  | true =>
    go_enter Tryd.func99, Tryd.ntmps99
    go_wp2_with fail
    go_quiet (fail)
    go_wp2_with fail
    go_ret
    exact ⟨rfl, below_drewN (Below.refl _ _) _⟩
  | false =>
    go_enter Tryd.func99, Tryd.ntmps99
    go_wp2_with fail
    go_quiet (fail)
    go_wp2_with fail
    go_ret
    exact ⟨rfl, below_drewN (Below.refl _ _) _⟩
theorem rend_any {w : World} {R : Nat} {A : Option Addr} {cap : Nat} {L : List Tok} {E : Nat} {st : St} (hL : L.length ≤ 1000) (h : RS w R A cap L E st) (hk : TK w R A L) :
    Calls Tryd.prog 99 #[.pointer (some ⟨R, 0, none⟩)] w fun e w' => e = .returned (.bool (endS L st)) ∧ Below w.heap.size w w' := by
  cases st with
  | out x => obtain ⟨p, h⟩ := h; exact rend_bad h
  | run p =>
    obtain ⟨hp, x, h⟩ := h
    by_cases ho : p < L.length
    · have ht : L[p]? = some (L[p]'ho) := List.getElem?_eq_getElem ho
      have e1 : endS L (.run p) = ((L[p]'ho).kind == 2 || (L[p]'ho).kind == 3) := by show isEnd L p = _; unfold isEnd; rw [ht]
      rw [e1]
      exact rend_on hL h hk ht
    · have e1 : endS L (.run p) = false := by show isEnd L p = _; unfold isEnd; rw [List.getElem?_eq_none (by omega)]
      rw [e1]
      exact rend_off h ho
end Go.Proofs.YthaoalmhhgllmaaDoor
