/- Texts joined: RfE, ShD, RfF, ShE, TrS. -/
import Derived.Test.YteflmfifhmlpiaaDoorMa15
import Derived.Test.YteflmfifhmlpiaaDoorMa16
import Derived.Test.YteflmfifhmlpiaaDoorMa09
import Derived.Test.YteflmfifhmlpiaaDoorMa10
import Derived.Deep.RegionWith
import Derived.Deep.RegionHeld3
set_option linter.all false
set_option linter.unusedVariables false
set_option linter.unusedSimpArgs false
namespace Go.Proofs.YteflmfifhmlpiaaDoor
open Go.RowKit Go.Shelf

attribute [local go_sem] Oper.semAt_some

theorem pts_len_le (t : Tr) : (pts t).length ≤ cntT t := by unfold pts; split; rw [pt_cnt]; exact Nat.le_refl _; exact Nat.zero_le _
def nP (p : Tr → Bool) (xs : List Tr) (i : Nat) : Nat := ((xs.take i).filter p).length
theorem nP_no {p : Tr → Bool} {xs : List Tr} {i : Nat} {u : Tr} (h : xs[i]? = some u) (hr : p u = false) : nP p xs (i + 1) = nP p xs i := by
  unfold nP; rw [List.take_add_one, h, List.filter_append]; simp [hr]
theorem nP_yes {p : Tr → Bool} {xs : List Tr} {i : Nat} {u : Tr} (h : xs[i]? = some u) (hr : p u = true) : nP p xs (i + 1) = nP p xs i + 1 := by
  unfold nP; rw [List.take_add_one, h, List.filter_append]; simp [hr]
theorem nP_len (p : Tr → Bool) (xs : List Tr) : nP p xs xs.length = (xs.filter p).length := by unfold nP; rw [List.take_length]
theorem nP_le (p : Tr → Bool) (xs : List Tr) (i : Nat) : nP p xs i ≤ xs.length := by
  unfold nP
  exact Nat.le_trans (List.length_filter_le _ _) (by rw [List.length_take]; omega)
set_option maxHeartbeats 8000000 in
set_option maxRecDepth 100000 in
theorem pSize_any {t : Tr} (hW : Wid t) (hc : cntT t ≤ 1000000) (w : World) (A : Option Addr) (ca : Nat) (hA : KV w (fun _ => True) t A) {B : Nat} (hSB : B ≤ w.heap.size) (hSt : Strs B B w) :
    Calls Tryd.prog 17 #[tv t A ca] w fun e w' => e = .returned (.int .i64 (((pts t).filter (fun _ => true)).length : Int)) ∧ Below w.heap.size w w' := by
  have hA0 : KV w (fun b => b < w.heap.size) t A := hA.low.imp fun _ h => h.2
  have HPa := Lib.hid (fun w => pparts_any t w A ca)
  have hpl := pts_len_le t
  unfold tv at *
  refine (callsIn_wide (n := 9)).1 (callsIn_of_wp_marks Tryd.func17 rfl trivial ?_ rfl)
  simp only [Tryd.ntmps17, List.size_toArray, List.length_cons, List.length_nil, Nat.reduceAdd, Nat.reduceSub, Array.replicate_succ, Array.replicate_zero, List.push_toArray, List.append_toArray, List.nil_append, List.cons_append]
  gi_wp2
  refine ⟨trivial, ?_⟩
  refine (callsIn_wide.2 (HPa.out _)).mono ?_
  rintro e w1 ⟨rfl, rfl⟩
  clear HPa
  gi_wp2
  obtain ⟨W1, hW1⟩ : ∃ W1, (((w.alloc (.cells #[.int .i64 t.kind, .int .i64 t.num, .int .i64 t.c1, .int .i64 t.r1, .int .i64 t.c2, .int .i64 t.r2, .string ⟨t.word.toArray⟩, .slice A t.kids.length ca] 29)).alloc (.cells #[.int .i64 0] 3)).alloc (.cells (V8L t A ca) 29)) = W1 := ⟨_, rfl⟩
  have hbW : Below w.heap.size w W1 := by rw [← hW1]; exact (((Below.refl _ _).alloc (Nat.le_refl _) _).alloc (by simp) _).alloc (by simp; omega) _
  have hz1 : W1.heap.size = w.heap.size + 3 := by rw [← hW1]; simp
  have hCT : CT W1 (w.heap.size + 1 + 1) t A ca := by
    rw [← hW1]
    unfold V8L
    refine ⟨?_, ?_, ?_, ?_, ?_, ?_, ?_, ?_⟩ <;> simp [go_sem]
  have hn0 : W1.cell? ⟨w.heap.size + 1, 0, none⟩ = some (.int .i64 0) ∧ W1.frozen? ⟨w.heap.size + 1, 0, none⟩ = false := by rw [← hW1]; constructor <;> simp [go_sem]
  rw [hW1]
  clear hW1
  have hA1 : KV W1 (fun b => b < w.heap.size) t A := hA0.kept (Kept.of_below hbW)
  refine wp_range (gf := 54) (lb := #[.pointer (some ⟨w.heap.size + 1 + 1, 0, none⟩)]) rfl (enters_of Tryd.func54 (by kernel_rfl) rfl)
    (parts_yields hW hc hCT hA1 (Nat.le_trans hSB hbW.size) (hSt.later hSB hbW)) (Below.refl _ _) (fun x args h => by obtain ⟨A, ca, rfl⟩ := h; rfl)
    (fun k => k = w.heap.size + 1) (by rintro k rfl; exact ⟨by omega, by rintro (h | h); omega; have h2 : w.heap.size + 1 < w.heap.size := h; omega⟩) (by rintro k (rfl | h); omega; have h2 : k < w.heap.size := h; omega)
    (fun i V => V.cell? ⟨w.heap.size + 1, 0, none⟩ = some (.int .i64 (nP (fun _ => true) (pts t) i : Int)) ∧ V.frozen? ⟨w.heap.size + 1, 0, none⟩ = false) (fun _ _ => False)
    (fun i A B hab ⟨h1, h2⟩ => ⟨(hab.cell (p := ⟨w.heap.size + 1, 0, none⟩) (by show w.heap.size + 1 < _; omega)).trans h1, (hab.frozen (p := ⟨w.heap.size + 1, 0, none⟩) (by show w.heap.size + 1 < _; omega)).trans h2⟩)
    (fun _ _ _ _ h => h) hn0
    (fun u a' V => ∃ A' ca', a' = { tmps := #[.agg #[.int .i64 t.kind, .int .i64 t.num, .int .i64 t.c1, .int .i64 t.r1, .int .i64 t.c2, .int .i64 t.r2, .string ⟨t.word.toArray⟩, .slice A t.kids.length ca], .pointer (some ⟨w.heap.size, 0, none⟩), .int .i64 0, .pointer (some ⟨w.heap.size + 1, 0, none⟩), .agg #[.int .i64 t.kind, .int .i64 t.num, .int .i64 t.c1, .int .i64 t.r1, .int .i64 t.c2, .int .i64 t.r2, .string ⟨t.word.toArray⟩, .slice A t.kids.length ca], .func (.func 54) #[] #[.pointer (some ⟨w.heap.size + 1 + 1, 0, none⟩)], .agg #[.int .i64 u.kind, .int .i64 u.num, .int .i64 u.c1, .int .i64 u.r1, .int .i64 u.c2, .int .i64 u.r2, .string ⟨u.word.toArray⟩, .slice A' u.kids.length ca'], undef, undef, undef], defers := [] })
    (fun x a' V l' r o hl h => h)
    ?assign ?body ?done ?stop
  case assign =>
    rintro l' i x args V K hx ⟨A', ca', rfl⟩ hz hK
    unfold tv
    gi_wp2
    exact hK _ _ (Below.refl _ _) ⟨A', ca', by simp⟩
  case body =>
    rintro l' i x a' V hx hsV ⟨hc1, hf1⟩ ⟨A', ca', rfl⟩
    have hle := nP_le (fun _ => true) (pts t) i
    have HN := Lib.hid (nP_yes (p := (fun _ => true)) hx rfl)
    gi_wp2
    exact ⟨Sav.setCell (C := fun k => k = w.heap.size + 1) (Sav.refl _ V) (.inl rfl) 0 _, by rw [HN.out]; simp [go_sem, hc1], by rw [World.frozen?_setCell]; exact hf1⟩
  case done =>
    rintro D V hD hsV ⟨hj, _⟩ hK
    rw [nP_len] at hj
    gi_wp2
    refine ⟨by simp, .inl ⟨_, _, rfl, run_takeDeferred hK, ?_⟩⟩
    exact ⟨_, results_tmp rfl _ _ _, rfl, hbW.trans ((hsV.putObj (.inr (by omega)) _).below (fun k hk h => by have h2 : k = w.heap.size + 1 := h; omega) (by omega))⟩
  case stop =>
    rintro D c V hD hsV h hK
    exact h.elim
set_option maxHeartbeats 8000000 in
set_option maxRecDepth 100000 in
theorem pBads_any {t : Tr} (hW : Wid t) (hc : cntT t ≤ 1000000) (w : World) (A : Option Addr) (ca : Nat) (hA : KV w (fun _ => True) t A) {B : Nat} (hSB : B ≤ w.heap.size) (hSt : Strs B B w) :
    Calls Tryd.prog 15 #[tv t A ca] w fun e w' => e = .returned (.int .i64 (((pts t).filter (fun u => u.kind == 2)).length : Int)) ∧ Below w.heap.size w w' := by
  have hA0 : KV w (fun b => b < w.heap.size) t A := hA.low.imp fun _ h => h.2
  have HPa := Lib.hid (fun w => pparts_any t w A ca)
  have hpl := pts_len_le t
  unfold tv at *
  refine (callsIn_wide (n := 9)).1 (callsIn_of_wp_marks Tryd.func15 rfl trivial ?_ rfl)
  simp only [Tryd.ntmps15, List.size_toArray, List.length_cons, List.length_nil, Nat.reduceAdd, Nat.reduceSub, Array.replicate_succ, Array.replicate_zero, List.push_toArray, List.append_toArray, List.nil_append, List.cons_append]
  gi_wp2
  refine ⟨trivial, ?_⟩
  refine (callsIn_wide.2 (HPa.out _)).mono ?_
  rintro e w1 ⟨rfl, rfl⟩
  clear HPa
  gi_wp2
  obtain ⟨W1, hW1⟩ : ∃ W1, (((w.alloc (.cells #[.int .i64 t.kind, .int .i64 t.num, .int .i64 t.c1, .int .i64 t.r1, .int .i64 t.c2, .int .i64 t.r2, .string ⟨t.word.toArray⟩, .slice A t.kids.length ca] 29)).alloc (.cells #[.int .i64 0] 3)).alloc (.cells (V8L t A ca) 29)) = W1 := ⟨_, rfl⟩
  have hbW : Below w.heap.size w W1 := by rw [← hW1]; exact (((Below.refl _ _).alloc (Nat.le_refl _) _).alloc (by simp) _).alloc (by simp; omega) _
  have hz1 : W1.heap.size = w.heap.size + 3 := by rw [← hW1]; simp
  have hCT : CT W1 (w.heap.size + 1 + 1) t A ca := by
    rw [← hW1]
    unfold V8L
    refine ⟨?_, ?_, ?_, ?_, ?_, ?_, ?_, ?_⟩ <;> simp [go_sem]
  have hn0 : W1.cell? ⟨w.heap.size + 1, 0, none⟩ = some (.int .i64 0) ∧ W1.frozen? ⟨w.heap.size + 1, 0, none⟩ = false := by rw [← hW1]; constructor <;> simp [go_sem]
  rw [hW1]
  clear hW1
  have hA1 : KV W1 (fun b => b < w.heap.size) t A := hA0.kept (Kept.of_below hbW)
  refine wp_range (gf := 54) (lb := #[.pointer (some ⟨w.heap.size + 1 + 1, 0, none⟩)]) rfl (enters_of Tryd.func54 (by kernel_rfl) rfl)
    (parts_yields hW hc hCT hA1 (Nat.le_trans hSB hbW.size) (hSt.later hSB hbW)) (Below.refl _ _) (fun x args h => by obtain ⟨A, ca, rfl⟩ := h; rfl)
    (fun k => k = w.heap.size + 1) (by rintro k rfl; exact ⟨by omega, by rintro (h | h); omega; have h2 : w.heap.size + 1 < w.heap.size := h; omega⟩) (by rintro k (rfl | h); omega; have h2 : k < w.heap.size := h; omega)
    (fun i V => V.cell? ⟨w.heap.size + 1, 0, none⟩ = some (.int .i64 (nP (fun u => u.kind == 2) (pts t) i : Int)) ∧ V.frozen? ⟨w.heap.size + 1, 0, none⟩ = false) (fun _ _ => False)
    (fun i A B hab ⟨h1, h2⟩ => ⟨(hab.cell (p := ⟨w.heap.size + 1, 0, none⟩) (by show w.heap.size + 1 < _; omega)).trans h1, (hab.frozen (p := ⟨w.heap.size + 1, 0, none⟩) (by show w.heap.size + 1 < _; omega)).trans h2⟩)
    (fun _ _ _ _ h => h) hn0
    (fun u a' V => ∃ Bx A' ca', W1.heap.size ≤ Bx ∧ CT V Bx u A' ca' ∧ a' = { tmps := #[.agg #[.int .i64 t.kind, .int .i64 t.num, .int .i64 t.c1, .int .i64 t.r1, .int .i64 t.c2, .int .i64 t.r2, .string ⟨t.word.toArray⟩, .slice A t.kids.length ca], .pointer (some ⟨w.heap.size, 0, none⟩), .int .i64 0, .pointer (some ⟨w.heap.size + 1, 0, none⟩), .pointer (some ⟨Bx, 0, none⟩), .agg #[.int .i64 t.kind, .int .i64 t.num, .int .i64 t.c1, .int .i64 t.r1, .int .i64 t.c2, .int .i64 t.r2, .string ⟨t.word.toArray⟩, .slice A t.kids.length ca], .func (.func 54) #[] #[.pointer (some ⟨w.heap.size + 1 + 1, 0, none⟩)], .agg #[.int .i64 u.kind, .int .i64 u.num, .int .i64 u.c1, .int .i64 u.r1, .int .i64 u.c2, .int .i64 u.r2, .string ⟨u.word.toArray⟩, .slice A' u.kids.length ca'], undef, undef, undef, undef, undef, undef], defers := [] })
    (fun x a' V l' r o hl ⟨Bx, A', ca', h1, h2, h3⟩ => ⟨Bx, A', ca', h1, h2.world (putObj_other o (by rintro rfl; have := h2.1; simp [World.cell?, hl] at this)), h3⟩)
    ?assign ?body ?done ?stop
  case assign =>
    rintro l' i x args V K hx ⟨A', ca', rfl⟩ hz hK
    unfold tv
    gi_wp2
    exact hK _ _ ((Below.refl _ _).alloc (Nat.le_refl _) _) ⟨V.heap.size, A', ca', hz, by refine ⟨?_, ?_, ?_, ?_, ?_, ?_, ?_, ?_⟩ <;> simp [go_sem], rfl⟩
  case body =>
    rintro l' i x a' V hx hsV ⟨hc1, hf1⟩ ⟨Bx, A', ca', hBx, hct, rfl⟩
    have v0 := hct.1
    have hle := nP_le (fun u => u.kind == 2) (pts t) i
    cases hp : (fun u => u.kind == 2) x with
    | false =>
      have HN := Lib.hid (nP_no (p := (fun u => u.kind == 2)) hx hp)
      simp only at hp
      gi_wp2
      exact ⟨Sav.refl _ _, by rw [HN.out]; exact hc1, hf1⟩
    | true =>
      have HN := Lib.hid (nP_yes (p := (fun u => u.kind == 2)) hx hp)
      simp only at hp
      gi_wp2
      exact ⟨Sav.setCell (C := fun k => k = w.heap.size + 1) (Sav.refl _ V) (.inl rfl) 0 _, by rw [HN.out]; simp [go_sem, hc1], by rw [World.frozen?_setCell]; exact hf1⟩
  case done =>
    rintro D V hD hsV ⟨hj, _⟩ hK
    rw [nP_len] at hj
    gi_wp2
    refine ⟨by simp, .inl ⟨_, _, rfl, run_takeDeferred hK, ?_⟩⟩
    exact ⟨_, results_tmp rfl _ _ _, rfl, hbW.trans ((hsV.putObj (.inr (by omega)) _).below (fun k hk h => by have h2 : k = w.heap.size + 1 := h; omega) (by omega))⟩
  case stop =>
    rintro D c V hD hsV h hK
    exact h.elim
end Go.Proofs.YteflmfifhmlpiaaDoor
namespace Go.Proofs.YteflmfifhmlpiaaDoor
open Go.RowKit

theorem hasP_eq (a b c d x y : Int) : hasP a b c d x y = hasB a b c d x y := rfl
theorem usT_rd {x y : Int} {t : Tr} (h : t.kind = 1 ∨ t.kind = 6) : usT x y t = hasP t.c1 t.r1 t.c2 t.r2 x y := by
  cases t; rw [usT]; exact if_pos h
theorem usT_no {x y : Int} {t : Tr} (h : ¬ (t.kind = 1 ∨ t.kind = 6)) : usT x y t = usL x y t.kids := by
  cases t; rw [usT]; exact if_neg h
theorem usL_take_yes {x y : Int} : ∀ {ks : List Tr} {i : Nat} {u : Tr}, ks[i]? = some u → usT x y u = true → usL x y ks = true
  | [], i, u, h, _ => by simp at h
  | t :: ts, 0, u, h, k => by simp at h; subst h; rw [usL, k]; rfl
  | t :: ts, i + 1, u, h, k => by rw [usL, usL_take_yes (ks := ts) (i := i) (by simpa using h) k, Bool.or_true]
theorem usL_app {x y : Int} : ∀ (a b : List Tr), usL x y (a ++ b) = (usL x y a || usL x y b)
  | [], b => by rw [List.nil_append, usL, Bool.false_or]
  | t :: ts, b => by rw [List.cons_append, usL, usL, usL_app ts b, Bool.or_assoc]
theorem usL_take_no {x y : Int} {ks : List Tr} {i : Nat} {u : Tr} (h : ks[i]? = some u) (hp : usL x y (ks.take i) = false) (hu : usT x y u = false) : usL x y (ks.take (i + 1)) = false := by
  rw [List.take_add_one, h, usL_app, hp]
  show (false || usL x y [u]) = false
  rw [usL, usL, hu]; rfl
def UsC (x y : Int) (t : Tr) : Prop := ∀ (w : World) (P : Nat → Prop) (A : Option Addr) (cap : Nat), KV w P t A →
  Calls Tryd.prog 33 #[.agg #[.int .i64 t.kind, .int .i64 t.num, .int .i64 t.c1, .int .i64 t.r1, .int .i64 t.c2, .int .i64 t.r2, .string ⟨t.word.toArray⟩, .slice A t.kids.length cap], .agg #[.int .i64 x, .int .i64 y]] w fun e w' => e = .returned (.bool (usT x y t)) ∧ Below w.heap.size w w'
set_option maxHeartbeats 1000000 in
set_option maxRecDepth 10000 in
theorem uses_rd (x y : Int) (t : Tr) (hlen : t.kids.length ≤ maxLen) (b1 : Bool) (e1 : (t.kind == 1) = b1) (e6 : b1 = false → (t.kind == 6) = true) (h : t.kind = 1 ∨ t.kind = 6) : UsC x y t := by
  intro w P A cap _
  have HH := Lib.hid (fun w => rhas_any t.c1 t.r1 t.c2 t.r2 x y w)
  have HE := Lib.hid (usT_rd (x := x) (y := y) h)
  unfold maxLen at hlen
  clear h
  cases b1
  all_goals
    first | have k6 := e6 rfl | have k6 := e1
    clear e6
    go_enter Tryd.func33, Tryd.ntmps33
    go_wp2_with fail
    refine (HH.out _).mono ?_; rintro e w1 ⟨rfl, q1⟩
    have h1 : Below w.heap.size w w1 := (((Below.refl _ _).alloc (Nat.le_refl _) _).alloc (by simp) _).trans (q1.mono (by simp; omega))
    clear q1
    go_wp2_with fail
    go_ret
    exact ⟨by rw [HE.out, hasP_eq]; rfl, h1⟩
set_option maxHeartbeats 1000000 in
set_option maxRecDepth 10000 in
theorem uses_no (x y : Int) (t : Tr) (hlen : t.kids.length ≤ maxLen) (e1 : (t.kind == 1) = false) (e6 : (t.kind == 6) = false) (ih : ∀ u ∈ t.kids, UsC x y u) : UsC x y t := by
  intro w P A cap hk
  have HK := Lib.hid hk
  have HI := Lib.hid ih
  have HE := Lib.hid (usT_no (x := x) (y := y) (t := t) (by rw [beq_eq_false_iff_ne] at e1 e6; rintro (h | h); exact e1 h; exact e6 h))
  unfold maxLen at hlen
  generalize usT x y t = Z at *
  clear hk ih
  go_enter Tryd.func33, Tryd.ntmps33
  go_wp2_with fail
  go_loopw [5] (fun vi wr => ∃ i : Nat, i ≤ t.kids.length ∧ vi = .int .i64 (i : Int) ∧ Hid (usL x y (t.kids.take i) = false) ∧ Below w.heap.size w wr ∧ w.heap.size + 1 < wr.heap.size ∧ wr.cell? ⟨w.heap.size, 7, none⟩ = some (.slice A t.kids.length cap) ∧ wr.cell? ⟨w.heap.size + 1, 0, none⟩ = some (.int .i64 x) ∧ wr.cell? ⟨w.heap.size + 1, 1, none⟩ = some (.int .i64 y)) (fun vi _ => t.kids.length - (intOf vi).toNat)
  case atStart => exact ⟨0, Nat.zero_le _, rfl, Lib.hid (by rw [List.take_zero, usL]), (((Below.refl _ _).alloc (Nat.le_refl _) _).alloc (by simp) _), by simp, by simp [go_sem], by simp [go_sem], by simp [go_sem]⟩
  case round =>
    obtain ⟨i, hi, rfl, HTK, hbel, hsz, c7, p0, p1⟩ := hrel
    by_cases hlt : i < t.kids.length
    · have hu : t.kids[i]? = some (t.kids[i]'hlt) := List.getElem?_eq_getElem hlt
      obtain ⟨g, o, rfl⟩ := HK.out.addr hu
      obtain ⟨hg, A', cap', h8, hkv⟩ := HK.out.kidAt hbel hu
      have HTE := Lib.hid fun e => usL_take_no (x := x) (y := y) hu HTK.out e
      have HTB := Lib.hid fun e => usL_take_yes (x := x) (y := y) hu e
      have HC := Lib.hid (HI.out _ (List.getElem_mem hlt) wr.drew _ A' cap' (hkv.kept (Kept.of_below (Below.refl _ wr).drew)))
      generalize t.kids[i]'hlt = u at *
      obtain ⟨q0, q1, q2, q3, q4, q5, q6, q7⟩ := h8
      clear hkv hu
      go_wp2_with fail
      go_region_held3 (fun w' => w'.cell? ⟨g, o + i * 8, none⟩ = some (.int .i64 u.kind) ∧ w'.cell? ⟨g, o + i * 8 + 1, none⟩ = some (.int .i64 u.num) ∧ w'.cell? ⟨g, o + i * 8 + 2, none⟩ = some (.int .i64 u.c1) ∧ w'.cell? ⟨g, o + i * 8 + 3, none⟩ = some (.int .i64 u.r1) ∧ w'.cell? ⟨g, o + i * 8 + 4, none⟩ = some (.int .i64 u.c2) ∧ w'.cell? ⟨g, o + i * 8 + 5, none⟩ = some (.int .i64 u.r2) ∧ w'.cell? ⟨g, o + i * 8 + 6, none⟩ = some (.string ⟨u.word.toArray⟩) ∧ w'.cell? ⟨g, o + i * 8 + 7, none⟩ = some (.slice A' u.kids.length cap') ∧ w'.cell? ⟨w.heap.size, 7, none⟩ = some (.slice (some ⟨g, o, none⟩) t.kids.length cap) ∧ w'.cell? ⟨w.heap.size + 1, 0, none⟩ = some (.int .i64 x) ∧ w'.cell? ⟨w.heap.size + 1, 1, none⟩ = some (.int .i64 y))
        (first | (simp only [World.cell?_drew]; with_reducible exact ⟨q0, q1, q2, q3, q4, q5, q6, q7, c7, p0, p1⟩) | (with_reducible exact ⟨m0, m1, m2, m3, m4, m5, m6, m7, e7, r0, r1⟩) | fail)
        (first
        | (go_at_call 33; refine Calls.mono HC.out ?_; rintro e w1 ⟨rfl, b1⟩
           have B1 : Below wr.heap.size wr w1 := (Below.refl _ wr).drew.trans b1
           have m0 := keep_cell B1 q0
           have m1 := keep_cell B1 q1
           have m2 := keep_cell B1 q2
           have m3 := keep_cell B1 q3
           have m4 := keep_cell B1 q4
           have m5 := keep_cell B1 q5
           have m6 := keep_cell B1 q6
           have m7 := keep_cell B1 q7
           have e7 := keep_cell B1 c7
           have r0 := keep_cell B1 p0
           have r1 := keep_cell B1 p1
           have s7 : w.heap.size + 1 < w1.heap.size := Nat.lt_of_lt_of_le hsz B1.size
           have hb1 := hbel.trans (B1.mono hbel.size)
           clear b1 B1 c7 p0 p1 q0 q1 q2 q3 q4 q5 q6 q7)
        | fail)
      clear m0 m1 m2 m3 m4 m5 m6 m7
      generalize hM : usT x y u = M at *
      cases M with
      | false =>
        have HG := Lib.hid (HTE.out rfl)
        clear HTE HTB hM
        go_wp2_with fail
        go_roundw
        case rel => exact ⟨i + 1, by omega, by go_num, HG, hb1, s7, e7, r0, r1⟩
        case measure => simp [intOf]; omega
      | true =>
        have HF := Lib.hid (HTB.out rfl)
        clear HTE HTB hM
        go_wp2_with fail
        go_ret
        exact ⟨by rw [HE.out, HF.out]; rfl, hb1⟩
    · have hii : i = t.kids.length := by omega
      subst hii
      have hz : usL x y t.kids = false := by have := HTK.out; rwa [List.take_length] at this
      have HZ := Lib.hid hz
      clear hz
      go_wp2_with fail
      go_ret
      exact ⟨by rw [HE.out, HZ.out]; rfl, hbel⟩
theorem ruses_any (x y : Int) : ∀ {t : Tr}, Wid t → UsC x y t := by
  intro t hW
  induction hW with
  | @mk k n c r d s w ks hl hk ih =>
    by_cases h1 : k = 1
    · exact uses_rd x y _ hl true (by rw [beq_iff_eq]; exact h1) (fun e => by cases e) (.inl h1)
    · have b1 : (k == 1) = false := by rw [beq_eq_false_iff_ne]; exact h1
      by_cases h6 : k = 6
      · exact uses_rd x y _ hl false b1 (fun _ => by rw [beq_iff_eq]; exact h6) (.inr h6)
      · exact uses_no x y _ hl b1 (by rw [beq_eq_false_iff_ne]; exact h6) ih
end Go.Proofs.YteflmfifhmlpiaaDoor
namespace Go.Proofs.YteflmfifhmlpiaaDoor
open Go.RowKit Go.Shelf

attribute [local go_sem] Oper.semAt_some

def anyH (x y : Int) (xs : List Tr) (i : Nat) : Bool := (xs.take i).any fun u => hasB u.c1 u.r1 u.c2 u.r2 x y
theorem anyH_step {x y : Int} {xs : List Tr} {i : Nat} {u : Tr} (h : xs[i]? = some u) : anyH x y xs (i + 1) = (anyH x y xs i || hasB u.c1 u.r1 u.c2 u.r2 x y) := by
  unfold anyH; rw [List.take_add_one, h, List.any_append]; simp
theorem anyH_yes {x y : Int} {xs : List Tr} {i : Nat} {u : Tr} (h : xs[i]? = some u) (hh : hasB u.c1 u.r1 u.c2 u.r2 x y = true) : anyH x y xs xs.length = true := by
  unfold anyH
  rw [List.take_length, List.any_eq_true]
  exact ⟨u, List.mem_of_getElem? h, hh⟩
def C4 (w : World) (B : Nat) (u : Tr) : Prop := w.cell? ⟨B, 0, none⟩ = some (.int .i64 u.c1) ∧ w.cell? ⟨B, 1, none⟩ = some (.int .i64 u.r1) ∧ w.cell? ⟨B, 2, none⟩ = some (.int .i64 u.c2) ∧ w.cell? ⟨B, 3, none⟩ = some (.int .i64 u.r2)
theorem C4.world {w w' : World} {B : Nat} {u : Tr} (h : C4 w B u) (hb : w'.heap[B]? = w.heap[B]?) : C4 w' B u := by
  have hc : ∀ j v, w.cell? ⟨B, j, none⟩ = some v → w'.cell? ⟨B, j, none⟩ = some v := fun j v hv => by rw [World.cell?_of_block (w := w) (a := ⟨B, j, none⟩) hb]; exact hv
  exact ⟨hc _ _ h.1, hc _ _ h.2.1, hc _ _ h.2.2.1, hc _ _ h.2.2.2⟩
theorem C4.turn {V : World} {l : Nat} {r : Loop} (hl : V.heap[l]? = some (.loop r)) (o : Obj) {B : Nat} {u : Tr} (h : C4 V B u) : C4 (V.putObj l o) B u :=
  h.world (putObj_other o (by rintro rfl; have := h.1; simp [World.cell?, hl] at this))
set_option maxHeartbeats 8000000 in
set_option maxRecDepth 100000 in
theorem pUses_any (x y : Int) {t : Tr} (hW : Wid t) (hc : cntT t ≤ 1000000) (w : World) (A : Option Addr) (ca : Nat) (hA : KV w (fun _ => True) t A) {B : Nat} (hSB : B ≤ w.heap.size) (hSt : Strs B B w) :
    Calls Tryd.prog 13 #[tv t A ca, .agg #[.int .i64 x, .int .i64 y]] w fun e w' => e = .returned (.bool (anyH x y (rgs t) (rgs t).length)) ∧ Below w.heap.size w w' := by
  have hA0 : KV w (fun b => b < w.heap.size) t A := hA.low.imp fun _ h => h.2
  have HPa := Lib.hid (fun w => pranges_any t w A ca)
  unfold tv at *
  refine (callsIn_wide (n := 9)).1 (callsIn_of_wp_marks Tryd.func13 rfl trivial ?_ rfl)
  simp only [Tryd.ntmps13, List.size_toArray, List.length_cons, List.length_nil, Nat.reduceAdd, Nat.reduceSub, Array.replicate_succ, Array.replicate_zero, List.push_toArray, List.append_toArray, List.nil_append, List.cons_append]
  gi_wp2
  refine ⟨trivial, ?_⟩
  refine (callsIn_wide.2 (HPa.out _)).mono ?_
  rintro e w1 ⟨rfl, rfl⟩
  clear HPa
  gi_wp2
  obtain ⟨W1, hW1⟩ : ∃ W1, ((((w.alloc (.cells #[.int .i64 t.kind, .int .i64 t.num, .int .i64 t.c1, .int .i64 t.r1, .int .i64 t.c2, .int .i64 t.r2, .string ⟨t.word.toArray⟩, .slice A t.kids.length ca] 29)).alloc (.cells #[.int .i64 x, .int .i64 y] 24)).alloc (.cells #[.bool false] 4)).alloc (.cells (V8L t A ca) 29)) = W1 := ⟨_, rfl⟩
  have hbW : Below w.heap.size w W1 := by rw [← hW1]; exact ((((Below.refl _ _).alloc (Nat.le_refl _) _).alloc (by simp) _).alloc (by simp; omega) _).alloc (by simp; omega) _
  have hz1 : W1.heap.size = w.heap.size + 4 := by rw [← hW1]; simp
  have hCT : CT W1 (w.heap.size + 1 + 1 + 1) t A ca := by
    rw [← hW1]
    unfold V8L
    refine ⟨?_, ?_, ?_, ?_, ?_, ?_, ?_, ?_⟩ <;> simp [go_sem]
  have hn0 : W1.cell? ⟨w.heap.size + 1 + 1, 0, none⟩ = some (.bool false) ∧ W1.frozen? ⟨w.heap.size + 1 + 1, 0, none⟩ = false ∧ W1.cell? ⟨w.heap.size + 1, 0, none⟩ = some (.int .i64 x) ∧ W1.cell? ⟨w.heap.size + 1, 1, none⟩ = some (.int .i64 y) := by rw [← hW1]; refine ⟨?_, ?_, ?_, ?_⟩ <;> simp [go_sem]
  rw [hW1]
  clear hW1
  have hA1 : KV W1 (fun b => b < w.heap.size) t A := hA0.kept (Kept.of_below hbW)
  refine wp_range (gf := 48) (lb := #[.pointer (some ⟨w.heap.size + 1 + 1 + 1, 0, none⟩)]) rfl (enters_of Tryd.func48 (by kernel_rfl) rfl)
    (ranges_yields hW hc hCT hA1 (fun k hk => by omega) (Nat.le_trans hSB hbW.size) (hSt.later hSB hbW)) (Below.refl _ _) (fun x args h => by rw [h]; rfl)
    (fun k => k = w.heap.size + 1 + 1) (by rintro k rfl; exact ⟨by omega, by rintro (h | h); omega; have h2 : w.heap.size + 1 + 1 < w.heap.size := h; omega⟩) (by rintro k (rfl | h); omega; have h2 : k < w.heap.size := h; omega)
    (fun i V => anyH x y (rgs t) i = false ∧ V.cell? ⟨w.heap.size + 1 + 1, 0, none⟩ = some (.bool false) ∧ V.frozen? ⟨w.heap.size + 1 + 1, 0, none⟩ = false ∧ V.cell? ⟨w.heap.size + 1, 0, none⟩ = some (.int .i64 x) ∧ V.cell? ⟨w.heap.size + 1, 1, none⟩ = some (.int .i64 y))
    (fun c V => c = .ret ∧ anyH x y (rgs t) (rgs t).length = true ∧ V.cell? ⟨w.heap.size + 1 + 1, 0, none⟩ = some (.bool true))
    (fun i A B hab ⟨h0, h1, h2, h3, h4⟩ => ⟨h0, (hab.cell (p := ⟨w.heap.size + 1 + 1, 0, none⟩) (by show w.heap.size + 1 + 1 < _; omega)).trans h1, (hab.frozen (p := ⟨w.heap.size + 1 + 1, 0, none⟩) (by show w.heap.size + 1 + 1 < _; omega)).trans h2, (hab.cell (p := ⟨w.heap.size + 1, 0, none⟩) (by show w.heap.size + 1 < _; omega)).trans h3, (hab.cell (p := ⟨w.heap.size + 1, 1, none⟩) (by show w.heap.size + 1 < _; omega)).trans h4⟩)
    (fun c A B hab ⟨h0, h1, h2⟩ => ⟨h0, h1, (hab.cell (p := ⟨w.heap.size + 1 + 1, 0, none⟩) (by show w.heap.size + 1 + 1 < _; omega)).trans h2⟩)
    ⟨rfl, hn0.1, hn0.2.1, hn0.2.2.1, hn0.2.2.2⟩
    (fun u a' V => ∃ Bx, W1.heap.size ≤ Bx ∧ C4 V Bx u ∧ a' = { tmps := #[.agg #[.int .i64 t.kind, .int .i64 t.num, .int .i64 t.c1, .int .i64 t.r1, .int .i64 t.c2, .int .i64 t.r2, .string ⟨t.word.toArray⟩, .slice A t.kids.length ca], .agg #[.int .i64 x, .int .i64 y], .pointer (some ⟨w.heap.size, 0, none⟩), .pointer (some ⟨w.heap.size + 1, 0, none⟩), .pointer (some ⟨w.heap.size + 1 + 1, 0, none⟩), .pointer (some ⟨Bx, 0, none⟩),
      .agg #[.int .i64 t.kind, .int .i64 t.num, .int .i64 t.c1, .int .i64 t.r1, .int .i64 t.c2, .int .i64 t.r2, .string ⟨t.word.toArray⟩, .slice A t.kids.length ca], .func (.func 48) #[] #[.pointer (some ⟨w.heap.size + 1 + 1 + 1, 0, none⟩)], .agg #[.int .i64 u.c1, .int .i64 u.r1, .int .i64 u.c2, .int .i64 u.r2], undef, undef, undef], defers := [] })
    (fun x a' V l' r o hl ⟨Bx, h1, h2, h3⟩ => ⟨Bx, h1, h2.turn hl o, h3⟩)
    ?assign ?body ?done ?stop
  case assign =>
    rintro l' i u args V K hx he hz hK
    subst he
    gi_wp2
    exact hK _ _ ((Below.refl _ _).alloc (Nat.le_refl _) _) ⟨V.heap.size, hz, by refine ⟨?_, ?_, ?_, ?_⟩ <;> simp [go_sem], rfl⟩
  case body =>
    rintro l' i u a' V hx hsV ⟨ha, hr1, hf1, hp0, hp1⟩ ⟨Bx, hBx, ⟨v0, v1, v2, v3⟩, rfl⟩
    have HH := Lib.hid (fun w => phas_any u.c1 u.r1 u.c2 u.r2 x y w)
    have HST := Lib.hid (anyH_step (x := x) (y := y) hx)
    have HYS := Lib.hid (anyH_yes (x := x) (y := y) hx)
    generalize hasB u.c1 u.r1 u.c2 u.r2 x y = M at *
    gi_wp2
    refine ⟨trivial, ?_⟩
    refine (CallsIn.inRound l' (callsIn_wide.2 (HH.out _))).mono ?_
    rintro e V2 ⟨rfl, b2⟩
    have r2 : V2.cell? ⟨w.heap.size + 1 + 1, 0, none⟩ = some (.bool false) := keep_cell b2 hr1
    have f2 : V2.frozen? ⟨w.heap.size + 1 + 1, 0, none⟩ = false := keep_frozen b2 (Lib.lt_of_cell hr1) hf1
    have p2 := keep_cell b2 hp0
    have p3 := keep_cell b2 hp1
    have HS2 := Lib.hid (Sav.of_below (C := fun k => k = w.heap.size + 1 + 1) b2)
    clear v0 v1 v2 v3 hr1 hf1 hp0 hp1 b2
    cases M with
    | false =>
      gi_wp2
      exact ⟨HS2.out, by rw [HST.out, ha]; rfl, r2, f2, p2, p3⟩
    | true =>
      gi_wp2
      exact ⟨Sav.setCell (C := fun k => k = w.heap.size + 1 + 1) (g := w.heap.size + 1 + 1) HS2.out (.inl rfl) 0 (.bool true), rfl, HYS.out trivial, by simp [go_sem, r2]⟩
  case done =>
    rintro D V hD hsV ⟨ha, hr1, hf1, _, _⟩ hK
    gi_wp2
    have hK' : (V.setCell ⟨w.heap.size + 1 + 1, 0, none⟩ (.bool false)).heap[D]? = some (.deferred (some [])) := by rw [Below.heap_setCell V ⟨w.heap.size + 1 + 1, 0, none⟩ (.bool false) D (by show D ≠ w.heap.size + 1 + 1; omega)]; exact hK
    refine ⟨by simp, .inl ⟨_, _, rfl, run_takeDeferred hK', ?_⟩⟩
    have hc5 : ((V.setCell ⟨w.heap.size + 1 + 1, 0, none⟩ (.bool false)).putObj D (.deferred none)).cell? ⟨w.heap.size + 1 + 1, 0, none⟩ = some (.bool false) := by
      rw [World.cell?_of_block (a := ⟨w.heap.size + 1 + 1, 0, none⟩) (putObj_other (w := V.setCell ⟨w.heap.size + 1 + 1, 0, none⟩ (.bool false)) (.deferred none) (show w.heap.size + 1 + 1 ≠ D by omega))]
      simp [go_sem, hr1]
    refine ⟨.bool false, ?_, by rw [ha], hbW.trans (((Sav.setCell (C := fun k => k = w.heap.size + 1 + 1) (g := w.heap.size + 1 + 1) hsV (.inl rfl) 0 (.bool false)).putObj (.inr (by omega)) _).below (fun k hk h => by have h2 : k = w.heap.size + 1 + 1 := h; omega) (by omega))⟩
    simp [results, Tryd.f13, go_sem, hc5]
  case stop =>
    rintro D c V hD hsV ⟨rfl, ha, hr1⟩ hK
    gi_wp2
    refine ⟨by simp, .inl ⟨_, _, rfl, run_takeDeferred hK, ?_⟩⟩
    have hc5 : (V.putObj D (.deferred none)).cell? ⟨w.heap.size + 1 + 1, 0, none⟩ = some (.bool true) := by
      rw [World.cell?_of_block (a := ⟨w.heap.size + 1 + 1, 0, none⟩) (putObj_other (w := V) (.deferred none) (show w.heap.size + 1 + 1 ≠ D by omega))]
      exact hr1
    refine ⟨.bool true, ?_, by rw [ha], hbW.trans ((hsV.putObj (.inr (by omega)) _).below (fun k hk h => by have h2 : k = w.heap.size + 1 + 1 := h; omega) (by omega))⟩
    simp [results, Tryd.f13, go_sem, hc5]
end Go.Proofs.YteflmfifhmlpiaaDoor
namespace Go.Proofs.YteflmfifhmlpiaaDoor
open Go.RowKit

mutual
def cnA (kd : Int) : Tr → Nat
  | .mk k _ _ _ _ _ _ ks => (if kd < 0 ∨ k = kd then 1 else 0) + cnAL kd ks
def cnAL (kd : Int) : List Tr → Nat
  | [] => 0
  | t :: ts => cnA kd t + cnAL kd ts
end
mutual
theorem cnA_all : ∀ t, cnA (-1) t = cntT t
  | .mk k n c r d s w ks => by rw [cnA, cntT, cnAL_all ks, if_pos (.inl (by decide))]; omega
theorem cnAL_all : ∀ l, cnAL (-1) l = cntL l
  | [] => by rw [cnAL, cntL]
  | t :: ts => by rw [cnAL, cntL, cnA_all t, cnAL_all ts]
end
mutual
theorem cnA_kind {kd : Int} (h : 0 ≤ kd) : ∀ t, cnA kd t = cnK kd t
  | .mk k n c r d s w ks => by
    rw [cnA, cnK, cnAL_kind h ks]
    by_cases e : k = kd
    · rw [if_pos (.inr e), if_pos e]
    · rw [if_neg (by omega), if_neg e]
theorem cnAL_kind {kd : Int} (h : 0 ≤ kd) : ∀ l, cnAL kd l = cnKL kd l
  | [] => by rw [cnAL, cnKL]
  | t :: ts => by rw [cnAL, cnKL, cnA_kind h t, cnAL_kind h ts]
end
theorem cnA_eq (kd : Int) (t : Tr) : cnA kd t = (if kd < 0 ∨ t.kind = kd then 1 else 0) + cnAL kd t.kids := by cases t; rw [cnA]; rfl
theorem cnAL_app (kd : Int) : ∀ (a b : List Tr), cnAL kd (a ++ b) = cnAL kd a + cnAL kd b
  | [], b => by rw [List.nil_append, cnAL, Nat.zero_add]
  | t :: ts, b => by rw [List.cons_append, cnAL, cnAL, cnAL_app kd ts b, Nat.add_assoc]
theorem cnAL_take {kd : Int} {ks : List Tr} {i : Nat} {u : Tr} (h : ks[i]? = some u) : cnAL kd (ks.take (i + 1)) = cnAL kd (ks.take i) + cnA kd u := by
  rw [List.take_add_one, h, cnAL_app]
  show _ + cnAL kd [u] = _
  rw [cnAL, cnAL, Nat.add_zero]
theorem cnAL_le (kd : Int) (ks : List Tr) (i : Nat) : cnAL kd (ks.take i) ≤ cnAL kd ks := by
  have := cnAL_app kd (ks.take i) (ks.drop i)
  rw [List.take_append_drop] at this
  omega
def CnC (kd : Int) (t : Tr) : Prop := ∀ (w : World) (P : Nat → Prop) (A : Option Addr) (cap : Nat), KV w P t A →
  Calls Tryd.prog 36 #[.agg #[.int .i64 t.kind, .int .i64 t.num, .int .i64 t.c1, .int .i64 t.r1, .int .i64 t.c2, .int .i64 t.r2, .string ⟨t.word.toArray⟩, .slice A t.kids.length cap], .int .i64 kd] w fun e w' => e = .returned (.int .i64 (cnA kd t : Int)) ∧ Below w.heap.size w w'
set_option maxHeartbeats 2000000 in
set_option maxRecDepth 10000 in
theorem count_level (kd : Int) (t : Tr) (hlen : t.kids.length ≤ maxLen) (hb : cnA kd t ≤ 1000000000) (b1 b2 : Bool) (e1 : decide (kd < 0) = b1) (e2 : (t.kind == kd) = b2) (ih : ∀ u ∈ t.kids, CnC kd u) : CnC kd t := by
  intro w P A cap hk
  have HK := Lib.hid hk
  have HI := Lib.hid ih
  have hE := cnA_eq kd t
  obtain ⟨n0, hn0⟩ : ∃ n0 : Nat, n0 = (if kd < 0 ∨ t.kind = kd then 1 else 0) := ⟨_, rfl⟩
  have hn1 : (n0 : Int) = (if (b1 || b2) = true then 1 else 0) := by
    rw [hn0]
    cases b1
    · have h1 : ¬ kd < 0 := of_decide_eq_false e1
      cases b2
      · rw [beq_eq_false_iff_ne] at e2
        rw [if_neg (by rintro (h | h); exact h1 h; exact e2 h)]; rfl
      · rw [beq_iff_eq] at e2
        rw [if_pos (.inr e2)]; rfl
    · have h1 : kd < 0 := of_decide_eq_true e1
      rw [if_pos (.inl h1)]; rfl
  rw [← hn0] at hE
  have hn2 : n0 ≤ 1 := by rw [hn0]; split <;> omega
  have HE := Lib.hid hE
  have HB : Hid (n0 + cnAL kd t.kids ≤ 1000000000) := Lib.hid (by omega)
  unfold maxLen at hlen
  clear hk ih hb hn0 hE
  cases b1
  all_goals
    cases b2
    all_goals
      simp only [Bool.or_false, Bool.or_true, Bool.false_or, Bool.true_or, if_true, Bool.false_eq_true, if_false] at hn1
      go_enter Tryd.func36, Tryd.ntmps36
      go_wp2_with fail
      go_loopw [5, 6] (fun vn vi wr => ∃ (i : Nat), i ≤ t.kids.length ∧ vn = .int .i64 ((n0 + cnAL kd (t.kids.take i) : Nat) : Int) ∧ vi = .int .i64 (i : Int) ∧ Below w.heap.size w wr ∧ w.heap.size < wr.heap.size ∧ wr.cell? ⟨w.heap.size, 7, none⟩ = some (.slice A t.kids.length cap)) (fun _ vi _ => t.kids.length - (intOf vi).toNat)
      case atStart => exact ⟨0, Nat.zero_le _, by rw [List.take_zero, cnAL, Nat.add_zero, hn1], rfl, (Below.refl _ _).alloc (Nat.le_refl _) _, by simp, by simp [go_sem]⟩
      case round =>
        obtain ⟨i, hi, rfl, rfl, hbel, hsz, c7⟩ := hrel
        by_cases hlt : i < t.kids.length
        · have hu : t.kids[i]? = some (t.kids[i]'hlt) := List.getElem?_eq_getElem hlt
          obtain ⟨g, o, rfl⟩ := HK.out.addr hu
          obtain ⟨hg, A', cap', h8, hkv⟩ := HK.out.kidAt hbel hu
          have hT := cnAL_take (kd := kd) hu
          have hle := cnAL_le kd t.kids (i + 1)
          have hBB := HB.out
          have HT := Lib.hid hT
          have HC := Lib.hid (HI.out _ (List.getElem_mem hlt) wr _ A' cap' hkv)
          generalize t.kids[i]'hlt = u at *
          generalize hq : cnA kd u = q at *
          have hbd : n0 + cnAL kd (t.kids.take i) + q ≤ 1000000000 := by omega
          obtain ⟨p, hp⟩ : ∃ p, p = n0 + cnAL kd (t.kids.take i) := ⟨_, rfl⟩
          rw [← hp] at hbd ⊢
          have HP := Lib.hid hp
          obtain ⟨q0, q1, q2, q3, q4, q5, q6, q7⟩ := h8
          clear hkv hu hT hle hBB hp hq
          go_wp2_with fail
          refine Calls.mono HC.out ?_; rintro e w2 ⟨rfl, b2⟩
          have h2 := hbel.trans (b2.mono hbel.size)
          have k2 := keep_cell b2 c7
          have z2 : w.heap.size < w2.heap.size := Nat.lt_of_lt_of_le hsz b2.size
          clear b2 q0 q1 q2 q3 q4 q5 q6 q7
          go_wp2_with fail
          go_roundw
          case rel => exact ⟨i + 1, by omega, by rw [HT.out, ← Nat.add_assoc, ← HP.out]; go_num, by go_num, h2, z2, k2⟩
          case measure => simp [intOf]; omega
        · have hii : i = t.kids.length := by omega
          subst hii
          rw [List.take_length]
          rw [← HE.out]
          go_wp2_with fail
          go_ret
          exact ⟨rfl, hbel⟩
theorem cnA_kid {kd : Int} {t u : Tr} (h : u ∈ t.kids) : cnA kd u ≤ cnA kd t := by
  rw [cnA_eq kd t]
  obtain ⟨i, hi, rfl⟩ := List.mem_iff_getElem.1 h
  have := cnAL_take (kd := kd) (ks := t.kids) (i := i) (List.getElem?_eq_getElem hi)
  have := cnAL_le kd t.kids (i + 1)
  omega
theorem rcount_any (kd : Int) : ∀ {t : Tr}, Wid t → cnA kd t ≤ 1000000000 → CnC kd t := by
  intro t hW
  induction hW with
  | @mk k n c r d s w ks hl hk ih =>
    intro hb
    exact count_level kd _ hl hb _ _ rfl rfl fun u hu => ih u hu (Nat.le_trans (cnA_kid (t := .mk k n c r d s w ks) hu) hb)
end Go.Proofs.YteflmfifhmlpiaaDoor
namespace Go.Proofs.YteflmfifhmlpiaaDoor
open Go.RowKit

set_option maxHeartbeats 2000000 in
set_option maxRecDepth 10000 in
theorem rdeep_any : ∀ (d : Nat) (t : Tr), deepT t ≤ d → d ≤ 1000000000 → Wid t → ∀ (w : World) (P : Nat → Prop) (A : Option Addr) (cap : Nat), KV w P t A →
    Calls Tryd.prog 37 #[tv t A cap] w fun e w' => e = .returned (.int .i64 (deepT t : Int)) ∧ Below w.heap.size w w' := by
  intro d
  induction d with
  | zero => intro t h; rw [deep_eq] at h; omega
  | succ d ih =>
    intro t hd hb hw w P A cap hk
    unfold tv
    have hlen := hw.len
    unfold maxLen at hlen
    have HW := Lib.hid hw
    have HK := Lib.hid hk
    have HI := Lib.hid ih
    have HE := Lib.hid (deep_eq t)
    have hdl : deepL t.kids ≤ d := by rw [deep_eq] at hd; omega
    clear hk hd ih hw
    go_enter Tryd.func37, Tryd.ntmps37
    go_wp2_with fail
    go_loopw [3, 4] (fun vn vi wr => ∃ i : Nat, i ≤ t.kids.length ∧ vn = .int .i64 (deepL (t.kids.take i) : Int) ∧ vi = .int .i64 (i : Int) ∧ Below w.heap.size w wr ∧ w.heap.size < wr.heap.size ∧ wr.cell? ⟨w.heap.size, 7, none⟩ = some (.slice A t.kids.length cap)) (fun _ vi _ => t.kids.length - (intOf vi).toNat)
    case atStart => exact ⟨0, Nat.zero_le _, by rw [List.take_zero, deepL]; rfl, rfl, (Below.refl _ _).alloc (Nat.le_refl _) _, by simp, by simp [go_sem]⟩
    case round =>
      obtain ⟨i, hi, rfl, rfl, hbel, hsz, c7⟩ := hrel
      have htl := deep_take_le t.kids i
      by_cases hlt : i < t.kids.length
      · have hu : t.kids[i]? = some (t.kids[i]'hlt) := List.getElem?_eq_getElem hlt
        obtain ⟨g, o, rfl⟩ := HK.out.addr hu
        obtain ⟨hg, A', cap', h8, hkv⟩ := HK.out.kidAt hbel hu
        have htk := Lib.hid (deep_take hu)
        have hdu := deep_kid hu
        have HC := Lib.hid (HI.out _ (Nat.le_trans hdu hdl) (by omega) (HW.out.kid hu) wr _ A' cap' hkv)
        generalize t.kids[i]'hlt = u at *
        unfold At8 at h8
        unfold tv at HC
        obtain ⟨q0, q1, q2, q3, q4, q5, q6, q7⟩ := h8
        clear hkv hu
        go_wp2_with fail
        refine HC.out.mono ?_; rintro e w1 ⟨rfl, b1⟩
        have e7 := keep_cell b1 c7
        have s7 : w.heap.size < w1.heap.size := Nat.lt_of_lt_of_le hsz b1.size
        have hb1 := hbel.trans (b1.mono hbel.size)
        clear b1 c7 q0 q1 q2 q3 q4 q5 q6 q7
        go_wp2_with fail
        go_roundw
        case rel => exact ⟨i + 1, by omega, by rw [htk.out]; congr 1; omega, by go_num, hb1, s7, e7⟩
        case measure => simp [intOf]; omega
      · have hii : i = t.kids.length := by omega
        subst hii
        rw [List.take_length] at *
        have hw : wrap64 ((deepL t.kids : Int) + 1) = (deepL t.kids : Int) + 1 := IntWalk.wrap64_in _ (by omega)
        go_wp2_with fail
        go_ret
        exact ⟨ret_int (by have := HE.out; omega), hbel⟩
end Go.Proofs.YteflmfifhmlpiaaDoor
