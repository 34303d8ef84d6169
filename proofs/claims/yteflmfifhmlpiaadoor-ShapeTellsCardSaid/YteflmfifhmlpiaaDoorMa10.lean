/- Texts joined: ShC, Eig, RdGa, RefAi, RefBw, RefB, PlAr. -/
import Derived.Test.YteflmfifhmlpiaaDoorMa09
import Derived.Test.YteflmfifhmlpiaaDoorMa08
import Derived.Test.YteflmfifhmlpiaaDoorMa01
import Derived.OwnWalk
import Derived.Maps.AppendAt
import Derived.Deep.LoopGhost
import Derived.Test.YteflmfifhmlpiaaDoorMa02
import Derived.WalkLawsBesides
set_option linter.all false
set_option linter.unusedVariables false
set_option linter.unusedSimpArgs false
namespace Go.Proofs.YteflmfifhmlpiaaDoor

mutual
def ptT : Tr → List Tr
  | .mk k n c r d s w ks => .mk k n c r d s w ks :: ptL ks
def ptL : List Tr → List Tr
  | [] => []
  | t :: ts => ptT t ++ ptL ts
end
def rdr (t : Tr) : Bool := t.kind == 1 || t.kind == 6
theorem ptT_eq (t : Tr) : ptT t = t :: ptL t.kids := by cases t; rw [ptT]; rfl
mutual
theorem pt_cnt : ∀ t : Tr, (ptT t).length = cntT t
  | .mk _ _ _ _ _ _ _ ks => by rw [ptT, cntT, List.length_cons, ptL_cnt ks]
theorem ptL_cnt : ∀ l : List Tr, (ptL l).length = cntL l
  | [] => by rw [ptL, cntL]; rfl
  | t :: ts => by rw [ptL, cntL, List.length_append, pt_cnt t, ptL_cnt ts]
end
mutual
theorem pt_bads (kd : Int) : ∀ t : Tr, ((ptT t).filter fun u => u.kind == kd).length = cnK kd t
  | .mk k n c r d s w ks => by
    rw [ptT, cnK, List.filter_cons, ← ptL_bads kd ks]
    by_cases h : k = kd
    · rw [if_pos (by show (k == kd) = true; rw [beq_iff_eq]; exact h), if_pos h, List.length_cons, Nat.add_comm]
    · rw [if_neg (by show ¬ (k == kd) = true; rw [beq_iff_eq]; exact h), if_neg h, Nat.zero_add]
theorem ptL_bads (kd : Int) : ∀ l : List Tr, ((ptL l).filter fun u => u.kind == kd).length = cnKL kd l
  | [] => by rw [ptL, cnKL]; rfl
  | t :: ts => by rw [ptL, cnKL, List.filter_append, List.length_append, pt_bads kd t, ptL_bads kd ts]
end
theorem us_any (x y : Int) {t : Tr} (hf : Fit t) : mayB t = true → usT x y t = (ptT t).any fun u => rdr u && hasP u.c1 u.r1 u.c2 u.r2 x y := by
  induction hf with
  | @mk k n c r d s w ks hn hk ih =>
    intro h
    have hkids := may_kids h
    have key : ∀ l : List Tr, (∀ t ∈ l, usT x y t = (ptT t).any fun u => rdr u && hasP u.c1 u.r1 u.c2 u.r2 x y) → usL x y l = (ptL l).any fun u => rdr u && hasP u.c1 u.r1 u.c2 u.r2 x y := by
      intro l
      induction l with
      | nil => intro _; rw [usL, ptL]; rfl
      | cons a q ihq =>
        intro ha
        rw [usL, ptL, List.any_append, ha a (by simp), ihq fun t ht => ha t (by simp [ht])]
    have K := key ks fun t ht => ih t ht (hkids t ht)
    rw [usT, ptT, List.any_cons]
    by_cases hr : k = 1 ∨ k = 6
    · rw [if_pos hr]
      obtain ⟨rfl, _, _⟩ := kids_none h hr
      have e : rdr (.mk k n c r d s w []) = true := by unfold rdr; simp only [Tr.kind, Bool.or_eq_true, beq_iff_eq]; exact hr
      rw [e, ptL, List.any_nil, Bool.or_false, Bool.true_and]
      rfl
    · rw [if_neg hr]
      have e : rdr (.mk k n c r d s w ks) = false := by
        cases hh : rdr (.mk k n c r d s w ks) with
        | false => rfl
        | true => unfold rdr at hh; simp only [Tr.kind, Bool.or_eq_true, beq_iff_eq] at hh; exact absurd hh hr
      rw [e, Bool.false_and, Bool.false_or]
      exact K
theorem rdr_whole {t : Tr} (h : mayB t = true) (hr : rdr t = true) : (rightB t.c1 t.r1 && rightB t.c2 t.r2 && (decide (t.c1 ≤ t.c2) && decide (t.r1 ≤ t.r2))) = true := by
  cases t with
  | mk k n c r d s w ks =>
    unfold rdr at hr
    simp only [Tr.kind, Bool.or_eq_true, beq_iff_eq] at hr
    rw [mayB] at h
    unfold onlyB at h
    simp only [Tr.c1, Tr.r1, Tr.c2, Tr.r2]
    rcases hr with rfl | rfl
    · simp at h ⊢
      obtain ⟨_, h1, rfl, rfl⟩ := h
      first | exact ⟨⟨h1, h1⟩, Int.le_refl _, Int.le_refl _⟩ | (rw [h1]; simp)
    · simp at h ⊢
      obtain ⟨_, ⟨⟨a, b⟩, e⟩, f⟩ := h
      first | exact ⟨⟨a, b⟩, e, f⟩ | (rw [a, b, decide_eq_true e, decide_eq_true f]; simp) | simp [a, b, e, f]
mutual
theorem pt_may : ∀ {t u : Tr}, mayB t = true → u ∈ ptT t → mayB u = true
  | .mk k n c r d s w ks, u, h, hu => by
    rw [ptT] at hu
    rcases List.mem_cons.1 hu with rfl | hu
    · exact h
    · exact ptL_may (may_kids h) hu
theorem ptL_may : ∀ {l : List Tr} {u : Tr}, (∀ t ∈ l, mayB t = true) → u ∈ ptL l → mayB u = true
  | [], u, _, hu => by rw [ptL] at hu; cases hu
  | t :: ts, u, h, hu => by
    rw [ptL] at hu
    rcases List.mem_append.1 hu with hu | hu
    · exact pt_may (h t (by simp)) hu
    · exact ptL_may (fun x hx => h x (by simp [hx])) hu
end
end Go.Proofs.YteflmfifhmlpiaaDoor
namespace Go.Proofs.YteflmfifhmlpiaaDoor
open Go.RowKit

def C8 (w : World) (B : Nat) (v0 v1 v2 v3 v4 v5 v6 v7 : Value) : Prop :=
  w.cell? ⟨B, 0, none⟩ = some v0 ∧ w.cell? ⟨B, 1, none⟩ = some v1 ∧ w.cell? ⟨B, 2, none⟩ = some v2 ∧ w.cell? ⟨B, 3, none⟩ = some v3 ∧
  w.cell? ⟨B, 4, none⟩ = some v4 ∧ w.cell? ⟨B, 5, none⟩ = some v5 ∧ w.cell? ⟨B, 6, none⟩ = some v6 ∧ w.cell? ⟨B, 7, none⟩ = some v7
def F8 (w : World) (B : Nat) : Prop :=
  w.frozen? ⟨B, 0, none⟩ = false ∧ w.frozen? ⟨B, 1, none⟩ = false ∧ w.frozen? ⟨B, 2, none⟩ = false ∧ w.frozen? ⟨B, 3, none⟩ = false ∧
  w.frozen? ⟨B, 4, none⟩ = false ∧ w.frozen? ⟨B, 5, none⟩ = false ∧ w.frozen? ⟨B, 6, none⟩ = false ∧ w.frozen? ⟨B, 7, none⟩ = false
theorem c8_lift {w w' : World} {B : Nat} {v0 v1 v2 v3 v4 v5 v6 v7 : Value} (h : ∀ (j : Nat) (v : Value), w.cell? ⟨B, j, none⟩ = some v → w'.cell? ⟨B, j, none⟩ = some v)
    (h0 : w.cell? ⟨B, 0, none⟩ = some v0) (h1 : w.cell? ⟨B, 1, none⟩ = some v1) (h2 : w.cell? ⟨B, 2, none⟩ = some v2) (h3 : w.cell? ⟨B, 3, none⟩ = some v3)
    (h4 : w.cell? ⟨B, 4, none⟩ = some v4) (h5 : w.cell? ⟨B, 5, none⟩ = some v5) (h6 : w.cell? ⟨B, 6, none⟩ = some v6) (h7 : w.cell? ⟨B, 7, none⟩ = some v7) :
    w'.cell? ⟨B, 0, none⟩ = some v0 ∧ w'.cell? ⟨B, 1, none⟩ = some v1 ∧ w'.cell? ⟨B, 2, none⟩ = some v2 ∧ w'.cell? ⟨B, 3, none⟩ = some v3 ∧
    w'.cell? ⟨B, 4, none⟩ = some v4 ∧ w'.cell? ⟨B, 5, none⟩ = some v5 ∧ w'.cell? ⟨B, 6, none⟩ = some v6 ∧ w'.cell? ⟨B, 7, none⟩ = some v7 :=
  ⟨h _ _ h0, h _ _ h1, h _ _ h2, h _ _ h3, h _ _ h4, h _ _ h5, h _ _ h6, h _ _ h7⟩
theorem f8_lift {w w' : World} {B : Nat} (h : ∀ j : Nat, w.frozen? ⟨B, j, none⟩ = false → w'.frozen? ⟨B, j, none⟩ = false)
    (h0 : w.frozen? ⟨B, 0, none⟩ = false) (h1 : w.frozen? ⟨B, 1, none⟩ = false) (h2 : w.frozen? ⟨B, 2, none⟩ = false) (h3 : w.frozen? ⟨B, 3, none⟩ = false)
    (h4 : w.frozen? ⟨B, 4, none⟩ = false) (h5 : w.frozen? ⟨B, 5, none⟩ = false) (h6 : w.frozen? ⟨B, 6, none⟩ = false) (h7 : w.frozen? ⟨B, 7, none⟩ = false) :
    w'.frozen? ⟨B, 0, none⟩ = false ∧ w'.frozen? ⟨B, 1, none⟩ = false ∧ w'.frozen? ⟨B, 2, none⟩ = false ∧ w'.frozen? ⟨B, 3, none⟩ = false ∧
    w'.frozen? ⟨B, 4, none⟩ = false ∧ w'.frozen? ⟨B, 5, none⟩ = false ∧ w'.frozen? ⟨B, 6, none⟩ = false ∧ w'.frozen? ⟨B, 7, none⟩ = false :=
  ⟨h _ h0, h _ h1, h _ h2, h _ h3, h _ h4, h _ h5, h _ h6, h _ h7⟩
end Go.Proofs.YteflmfifhmlpiaaDoor
namespace Go.Proofs.YteflmfifhmlpiaaDoor
open Go.RowKit

def cells8 (x : V8) : List Value := [.int .i64 x.n0, .int .i64 x.n1, .int .i64 x.n2, .int .i64 x.n3, .int .i64 x.n4, .int .i64 x.n5, .string x.s, .slice x.A x.len x.cap]
def rowC : List (V8 × Tr) → List Value
  | [] => []
  | p :: r => cells8 p.1 ++ rowC r
theorem rowC_snoc : ∀ (l : List (V8 × Tr)) (p : V8 × Tr), rowC (l ++ [p]) = rowC l ++ cells8 p.1
  | [], p => by simp [rowC]
  | q :: r, p => by simp only [List.cons_append, rowC, rowC_snoc r p, List.append_assoc]
theorem rowC_at : ∀ (l : List (V8 × Tr)) (i k : Nat) (p : V8 × Tr), l[i]? = some p → k < 8 → (rowC l)[i * 8 + k]? = (cells8 p.1)[k]?
  | [], i, k, p, h, _ => by simp at h
  | q :: r, 0, k, p, h, hk => by
    simp at h; subst h
    show (cells8 q.1 ++ rowC r)[0 * 8 + k]? = _
    rw [Nat.zero_mul, Nat.zero_add, List.getElem?_append_left (by simpa [cells8] using hk)]
  | q :: r, i + 1, k, p, h, hk => by
    have := rowC_at r i k p (by simpa using h) hk
    show (cells8 q.1 ++ rowC r)[(i + 1) * 8 + k]? = _
    rw [List.getElem?_append_right (by simp [cells8]; omega), show (i + 1) * 8 + k - (cells8 q.1).length = i * 8 + k from by simp [cells8]; omega]
    exact this
structure Row (base : Nat) (wr : World) (v : Value) (xs : List (V8 × Tr)) : Prop where
  own : wr.ownsRow base 29 8 v xs.length (rowC xs)
  kid : ∀ (i : Nat) (x : V8) (t : Tr), xs[i]? = some (x, t) → TV wr (fun b => base ≤ b ∧ some b ≠ v.ownBlock) x (some t)
theorem But.grownBy {R : Nat} {w w' : World} (h : But R w w') : w.grownBy w' (some R) := ⟨h.os, h.tape, h.output, h.size, fun k hk hn => h.block k hk fun e => hn (by rw [e])⟩
theorem Row.but {base R : Nat} {w w' : World} {v : Value} {xs : List (V8 × Tr)} (h : Row base w v xs) (hb : But R w w') (hR : R < base) : Row base w' v xs := by
  refine ⟨h.own.kept hb.grownBy ?_, fun i x t hi => (h.kid i x t hi).kept ⟨hb.size, fun g hg hl => hb.block g hl fun e => by have := hg.1; omega⟩⟩
  cases hv : v.ownBlock with
  | none => exact .inl rfl
  | some k => exact .inr fun e => by have := (h.own.lt k hv).1; have := Option.some.inj e; omega
theorem TV.lowT {w : World} {P : Nat → Prop} {x : V8} {ot : Option Tr} (h : TV w P x ot) : TV w (fun b => P b ∧ b < w.heap.size) x ot := by
  cases ot with
  | none => trivial
  | some t => obtain ⟨A, cap, hx, hk⟩ := h; exact ⟨A, cap, hx, hk.low⟩
theorem Row.one {base : Nat} {w : World} {x : V8} {t : Tr} (hb : base ≤ w.heap.size) (hx : TV w (fun b => base ≤ b) x (some t)) :
    Row base (w.alloc (.cells (cells8 x).toArray 29)) (.slice (some ⟨w.heap.size, 0, none⟩) 1 1) [(x, t)] := by
  refine ⟨⟨rfl, .inr ⟨w.heap.size, 1, _, rfl, hb, heap_alloc_new w _, Nat.le_refl _, by decide, rfl, by simp [rowC, cells8]⟩⟩, fun i y u hi => ?_⟩
  match i, hi with
  | 0, hi =>
    simp at hi
    obtain ⟨rfl, rfl⟩ := hi
    refine (hx.lowT.kept (Kept.of_below ((Below.refl _ _).alloc (Nat.le_refl _) _))).imp fun b hb => ⟨hb.1, fun e => ?_⟩
    have e2 : b = w.heap.size := Option.some.inj e
    have := hb.2
    omega
theorem Row.push {base : Nat} {w w' : World} {v v' : Value} {xs : List (V8 × Tr)} (h : Row base w v xs) {x : V8} {t : Tr} (hx : TV w (fun b => base ≤ b ∧ some b ≠ v.ownBlock) x (some t))
    (ho : w'.ownsRow base 29 8 v' (xs.length + 1) (rowC xs ++ cells8 x)) (hg : w.grownBy w' v.ownBlock) (ha : v'.ownBlock = v.ownBlock ∨ v'.ownBlock = some w.heap.size) : Row base w' v' (xs ++ [(x, t)]) := by
  have keep : ∀ {x : V8} {t : Tr}, TV w (fun b => base ≤ b ∧ some b ≠ v.ownBlock) x (some t) → TV w' (fun b => base ≤ b ∧ some b ≠ v'.ownBlock) x (some t) := fun hx => by
    refine (hx.lowT.kept ⟨hg.size, fun g hp hl => hg.block g hl hp.1.2⟩).imp fun b hb => ⟨hb.1.1, ?_⟩
    rcases ha with ha | ha
    · rw [ha]; exact hb.1.2
    · rw [ha]; intro e; have := Option.some.inj e; omega
  refine ⟨?_, fun i y u hi => ?_⟩
  · rw [rowC_snoc]; simpa using ho
  · by_cases hl : i < xs.length
    · rw [List.getElem?_append_left hl] at hi
      exact keep (h.kid i y u hi)
    · rw [List.getElem?_append_right (by omega)] at hi
      have e : i - xs.length = 0 := by
        cases hh : i - xs.length with
        | zero => rfl
        | succ n => rw [hh] at hi; simp at hi
      rw [e] at hi
      simp at hi
      obtain ⟨rfl, rfl⟩ := hi
      exact keep hx
theorem Row.kids {base : Nat} {w : World} {v : Value} {xs : List (V8 × Tr)} (h : Row base w v xs) (hne : xs ≠ []) :
    ∃ g0 cp, v = .slice (some ⟨g0, 0, none⟩) xs.length cp ∧ base ≤ g0 ∧ g0 < w.heap.size ∧ KL w (fun b => base ≤ b) (xs.map Prod.snd) g0 0 := by
  have h' := h.own
  rcases h'.2 with ⟨_, hl⟩ | ⟨g0, cp, cur, rfl, _⟩
  · exact absurd (List.eq_nil_of_length_eq_zero hl) hne
  · refine ⟨g0, cp, rfl, (h'.lt g0 rfl).1, (h'.lt g0 rfl).2, KL.of fun i t hi => ?_⟩
    rw [List.getElem?_map] at hi
    cases hx : xs[i]? with
    | none => rw [hx] at hi; cases hi
    | some xt =>
      obtain ⟨x, t'⟩ := xt
      rw [hx] at hi
      obtain rfl : t' = t := Option.some.inj hi
      have hlt : i < xs.length := (List.getElem?_eq_some_iff.1 hx).1
      have c := fun k (hk : k < 8) => (h'.cellAt (i * 8 + k) (by omega)).trans (rowC_at xs i k (x, t') hx hk)
      obtain ⟨A, cap', hxv, hk⟩ := h.kid i x t' hx
      rw [Nat.zero_add, Nat.mul_comm]
      subst hxv
      exact ⟨A, cap', ⟨c 0 (by omega), c 1 (by omega), c 2 (by omega), c 3 (by omega), c 4 (by omega), c 5 (by omega), c 6 (by omega), c 7 (by omega)⟩, hk.imp fun b hb => hb.1⟩
theorem tv_row {w : World} {P : Nat → Prop} {g0 cp : Nat} {ks : List Tr} (k : Int) (wd : List UInt8) (hP : P g0) (hl : g0 < w.heap.size) (h : KL w P ks g0 0) :
    TV w P ⟨k, 0, 0, 0, 0, 0, ⟨wd.toArray⟩, some ⟨g0, 0, none⟩, ks.length, cp⟩ (some (.mk k 0 0 0 0 0 wd ks)) :=
  ⟨some ⟨g0, 0, none⟩, cp, by simp [tv8, Tr.kind, Tr.num, Tr.c1, Tr.r1, Tr.c2, Tr.r2, Tr.word, Tr.kids], KV.mk (.inr ⟨g0, 0, rfl, hP, hl, h⟩)⟩
theorem tree_info : (Tryd.prog.info? 29).map (fun i => (i.zero, i.size, i.bytes)) = some (some (.agg #[.int .i64 0, .int .i64 0, .int .i64 0, .int .i64 0, .int .i64 0, .int .i64 0, .string ⟨#[]⟩, .slice none 0 0]), 8, 88) := by kernel_rfl
end Go.Proofs.YteflmfifhmlpiaaDoor
namespace Go.Proofs.YteflmfifhmlpiaaDoor
open Go.RowKit

def idxN (c r : Int) : Int := if rightB c r = true then 16 * r + c else -1
set_option maxHeartbeats 400000 in
theorem rindex_any (c r : Int) (w : World) :
    Calls Tryd.prog 20 #[.agg #[.int .i64 c, .int .i64 r]] w fun e w' => e = .returned (.int .i64 (idxN c r)) ∧ Below w.heap.size w w' := by
  have HR := Lib.hid (rright_any c r)
  cases hr : rightB c r with
  | true =>
    obtain ⟨h1, h2, h3, h4⟩ := (rightB_iff c r).1 hr
    have e1 := Lib.hid (show idxN c r = 16 * r + c from if_pos hr)
    rw [hr] at HR
    clear hr
    go_enter Tryd.func20, Tryd.ntmps20
    go_wp2_with fail
    refine (HR.out _).mono ?_; rintro e w1 ⟨rfl, b1⟩
    have k0 := keep_cell b1 (p := ⟨w.heap.size, 0, none⟩) (v := .int .i64 c) (by simp)
    have k1 := keep_cell b1 (p := ⟨w.heap.size, 1, none⟩) (v := .int .i64 r) (by simp)
    go_wp2_with fail
    go_ret
    exact ⟨ret_int e1.out.symm, ((Below.refl _ _).alloc (Nat.le_refl _) _).trans (b1.mono (by simp))⟩
  | false =>
    have e1 := Lib.hid (show idxN c r = -1 from if_neg (by rw [hr]; decide))
    rw [hr] at HR
    clear hr
    go_enter Tryd.func20, Tryd.ntmps20
    go_wp2_with fail
    refine (HR.out _).mono ?_; rintro e w1 ⟨rfl, b1⟩
    go_wp2_with fail
    go_ret
    exact ⟨ret_int e1.out.symm, ((Below.refl _ _).alloc (Nat.le_refl _) _).trans (b1.mono (by simp))⟩

set_option maxHeartbeats 400000 in
theorem rfar_any (n : Int) (w : World) :
    Calls Tryd.prog 69 #[.int .i64 n] w fun e w' => e = .returned (.bool (decide (n < -64 ∨ 64 < n))) ∧ w = w' := by
  by_cases h1 : n < -64
  · have e1 := Lib.hid (show decide (n < -64 ∨ 64 < n) = true from decide_eq_true (.inl h1))
    go_enter Tryd.func69, Tryd.ntmps69
    go_wp2_with fail
    go_ret
    exact ⟨ret_bool e1.out.symm, rfl⟩
  · have e1 := Lib.hid (show decide (n < -64 ∨ 64 < n) = decide (64 < n) from decide_eq_decide.2 ⟨fun h => h.resolve_left h1, .inr⟩)
    go_enter Tryd.func69, Tryd.ntmps69
    go_wp2_with fail
    go_ret
    exact ⟨ret_bool (by simpa using e1.out.symm), rfl⟩

def mvB (c r x y : Int) : Bool := rightB c r && rightB (c + x) (r + y)
def mvC (c r x y : Int) : Int := if mvB c r x y = true then c + x else 0
def mvR (c r x y : Int) : Int := if mvB c r x y = true then r + y else 0
set_option maxHeartbeats 1000000 in
theorem rmove_any (c r x y : Int) (w : World) :
    Calls Tryd.prog 47 #[.agg #[.int .i64 c, .int .i64 r], .agg #[.int .i64 x, .int .i64 y]] w fun e w' => e = .returned (.tuple #[.agg #[.int .i64 (mvC c r x y), .int .i64 (mvR c r x y)], .bool (mvB c r x y)]) ∧ Below w.heap.size w w' := by
  have HR := Lib.hid (rright_any c r)
  have HQ := Lib.hid (rright_any (c + x) (r + y))
  have HX := Lib.hid (rfar_any x)
  have HY := Lib.hid (rfar_any y)
  cases hr : rightB c r with
  | false =>
    have e0 : mvB c r x y = false := by unfold mvB; rw [hr]; rfl
    have e1 := Lib.hid (show mvC c r x y = 0 from if_neg (by rw [e0]; decide))
    have e2 := Lib.hid (show mvR c r x y = 0 from if_neg (by rw [e0]; decide))
    have e3 := Lib.hid e0
    rw [hr] at HR
    clear hr e0
    go_enter Tryd.func47, Tryd.ntmps47
    go_wp2_with fail
    refine (HR.out _).mono ?_; rintro e w1 ⟨rfl, b1⟩
    have k0 := keep_cell b1 (p := ⟨w.heap.size + 1 + 1, 0, none⟩) (v := .int .i64 0) (by simp [go_sem])
    have k1 := keep_cell b1 (p := ⟨w.heap.size + 1 + 1, 1, none⟩) (v := .int .i64 0) (by simp [go_sem])
    have f0 := keep_frozen b1 (p := ⟨w.heap.size + 1 + 1, 0, none⟩) (by simp) (by simp [go_sem])
    have f1 := keep_frozen b1 (p := ⟨w.heap.size + 1 + 1, 1, none⟩) (by simp) (by simp [go_sem])
    go_wp2_with fail
    have b2 : Below w.heap.size w w1 := ((((Below.refl _ _).alloc (Nat.le_refl _) _).alloc (by simp) _).alloc (by simp; omega) _).trans (b1.mono (by simp; omega))
    exact bodyPost_ret (v := .tuple #[.agg #[.int .i64 0, .int .i64 0], .bool false]) (by simp [results, Tryd.results47, go_sem, k0, k1]) rfl
      ⟨by rw [e1.out, e2.out, e3.out], (b2.setCell (by simp; omega) _).setCell (by simp; omega) _⟩
  | true =>
    obtain ⟨c0, c1, r0, r1⟩ := (rightB_iff c r).1 hr
    rw [hr] at HR
    by_cases hf : (x < -64 ∨ 64 < x) ∨ (y < -64 ∨ 64 < y)
    · have e0 : mvB c r x y = false := by
        unfold mvB
        rw [hr, Bool.true_and, rightB_not]
        omega
      have e1 := Lib.hid (show mvC c r x y = 0 from if_neg (by rw [e0]; decide))
      have e2 := Lib.hid (show mvR c r x y = 0 from if_neg (by rw [e0]; decide))
      have e3 := Lib.hid e0
      clear hr e0
      by_cases hx : x < -64 ∨ 64 < x
      · have d1 : decide (x < -64 ∨ 64 < x) = true := decide_eq_true hx
        rw [d1] at HX
        clear hf hx d1
        go_enter Tryd.func47, Tryd.ntmps47
        go_wp2_with fail
        refine (HR.out _).mono ?_; rintro e w1 ⟨rfl, b1⟩
        have k0 := keep_cell b1 (p := ⟨w.heap.size + 1 + 1, 0, none⟩) (v := .int .i64 0) (by simp [go_sem])
        have k1 := keep_cell b1 (p := ⟨w.heap.size + 1 + 1, 1, none⟩) (v := .int .i64 0) (by simp [go_sem])
        have k2 := keep_cell b1 (p := ⟨w.heap.size + 1, 0, none⟩) (v := .int .i64 x) (by simp [go_sem])
        have f0 := keep_frozen b1 (p := ⟨w.heap.size + 1 + 1, 0, none⟩) (by simp) (by simp [go_sem])
        have f1 := keep_frozen b1 (p := ⟨w.heap.size + 1 + 1, 1, none⟩) (by simp) (by simp [go_sem])
        go_wp2_with fail
        refine (HX.out _).mono ?_; rintro e w2 ⟨rfl, rfl⟩
        go_wp2_with fail
        have b2 : Below w.heap.size w w1 := ((((Below.refl _ _).alloc (Nat.le_refl _) _).alloc (by simp) _).alloc (by simp; omega) _).trans (b1.mono (by simp; omega))
        exact bodyPost_ret (v := .tuple #[.agg #[.int .i64 0, .int .i64 0], .bool false]) (by simp [results, Tryd.results47, go_sem, k0, k1]) rfl
          ⟨by rw [e1.out, e2.out, e3.out], (b2.setCell (by simp; omega) _).setCell (by simp; omega) _⟩
      · have d1 : decide (x < -64 ∨ 64 < x) = false := decide_eq_false hx
        have d2 : decide (y < -64 ∨ 64 < y) = true := decide_eq_true (hf.resolve_left hx)
        rw [d1] at HX
        rw [d2] at HY
        clear hf hx d1 d2
        go_enter Tryd.func47, Tryd.ntmps47
        go_wp2_with fail
        refine (HR.out _).mono ?_; rintro e w1 ⟨rfl, b1⟩
        have k0 := keep_cell b1 (p := ⟨w.heap.size + 1 + 1, 0, none⟩) (v := .int .i64 0) (by simp [go_sem])
        have k1 := keep_cell b1 (p := ⟨w.heap.size + 1 + 1, 1, none⟩) (v := .int .i64 0) (by simp [go_sem])
        have k2 := keep_cell b1 (p := ⟨w.heap.size + 1, 0, none⟩) (v := .int .i64 x) (by simp [go_sem])
        have k3 := keep_cell b1 (p := ⟨w.heap.size + 1, 1, none⟩) (v := .int .i64 y) (by simp [go_sem])
        have f0 := keep_frozen b1 (p := ⟨w.heap.size + 1 + 1, 0, none⟩) (by simp) (by simp [go_sem])
        have f1 := keep_frozen b1 (p := ⟨w.heap.size + 1 + 1, 1, none⟩) (by simp) (by simp [go_sem])
        go_wp2_with fail
        refine (HX.out _).mono ?_; rintro e w2 ⟨rfl, rfl⟩
        go_wp2_with fail
        refine (HY.out _).mono ?_; rintro e w2 ⟨rfl, rfl⟩
        go_wp2_with fail
        have b2 : Below w.heap.size w w1 := ((((Below.refl _ _).alloc (Nat.le_refl _) _).alloc (by simp) _).alloc (by simp; omega) _).trans (b1.mono (by simp; omega))
        exact bodyPost_ret (v := .tuple #[.agg #[.int .i64 0, .int .i64 0], .bool false]) (by simp [results, Tryd.results47, go_sem, k0, k1]) rfl
          ⟨by rw [e1.out, e2.out, e3.out], (b2.setCell (by simp; omega) _).setCell (by simp; omega) _⟩
    · have d1 : decide (x < -64 ∨ 64 < x) = false := decide_eq_false fun h => hf (.inl h)
      have d2 : decide (y < -64 ∨ 64 < y) = false := decide_eq_false fun h => hf (.inr h)
      have x0 : -64 ≤ x := by omega
      have x1 : x ≤ 64 := by omega
      have y0 : -64 ≤ y := by omega
      have y1 : y ≤ 64 := by omega
      have e0 : mvB c r x y = rightB (c + x) (r + y) := by unfold mvB; rw [hr, Bool.true_and]
      rw [d1] at HX
      rw [d2] at HY
      clear hf d1 d2 hr
      cases hq : rightB (c + x) (r + y) with
      | true =>
        have e1 := Lib.hid (show mvC c r x y = c + x from if_pos (by rw [e0, hq]))
        have e2 := Lib.hid (show mvR c r x y = r + y from if_pos (by rw [e0, hq]))
        have e3 := Lib.hid (e0.trans hq)
        rw [hq] at HQ
        clear e0 hq
        go_enter Tryd.func47, Tryd.ntmps47
        go_wp2_with fail
        refine (HR.out _).mono ?_; rintro e w1 ⟨rfl, b1⟩
        have k0 := keep_cell b1 (p := ⟨w.heap.size + 1 + 1, 0, none⟩) (v := .int .i64 0) (by simp [go_sem])
        have k1 := keep_cell b1 (p := ⟨w.heap.size + 1 + 1, 1, none⟩) (v := .int .i64 0) (by simp [go_sem])
        have k2 := keep_cell b1 (p := ⟨w.heap.size + 1, 0, none⟩) (v := .int .i64 x) (by simp [go_sem])
        have k3 := keep_cell b1 (p := ⟨w.heap.size + 1, 1, none⟩) (v := .int .i64 y) (by simp [go_sem])
        have k4 := keep_cell b1 (p := ⟨w.heap.size, 0, none⟩) (v := .int .i64 c) (by simp [go_sem])
        have k5 := keep_cell b1 (p := ⟨w.heap.size, 1, none⟩) (v := .int .i64 r) (by simp [go_sem])
        have f0 := keep_frozen b1 (p := ⟨w.heap.size + 1 + 1, 0, none⟩) (by simp) (by simp [go_sem])
        have f1 := keep_frozen b1 (p := ⟨w.heap.size + 1 + 1, 1, none⟩) (by simp) (by simp [go_sem])
        have z1 : w.heap.size + 1 + 1 < w1.heap.size := by have := b1.size; simp at this; omega
        go_wp2_with fail
        refine (HX.out _).mono ?_; rintro e w2 ⟨rfl, rfl⟩
        go_wp2_with fail
        refine (HY.out _).mono ?_; rintro e w2 ⟨rfl, rfl⟩
        go_wp2_with fail
        refine (HQ.out _).mono ?_; rintro e w2 ⟨rfl, b2⟩
        have m0 := keep_cell b2 (p := ⟨w.heap.size + 1 + 1, 0, none⟩) (v := .int .i64 0) (by simp [go_sem, z1, k0])
        have m1 := keep_cell b2 (p := ⟨w.heap.size + 1 + 1, 1, none⟩) (v := .int .i64 0) (by simp [go_sem, z1, k1])
        have m2 := keep_cell b2 (p := ⟨w1.heap.size, 0, none⟩) (v := .int .i64 (c + x)) (by simp [go_sem])
        have m3 := keep_cell b2 (p := ⟨w1.heap.size, 1, none⟩) (v := .int .i64 (r + y)) (by simp [go_sem])
        have g0 := keep_frozen b2 (p := ⟨w.heap.size + 1 + 1, 0, none⟩) (by simp; omega) (by simp [go_sem, z1, f0])
        have g1 := keep_frozen b2 (p := ⟨w.heap.size + 1 + 1, 1, none⟩) (by simp; omega) (by simp [go_sem, z1, f1])
        have h2 : Below w.heap.size w w1 := ((((Below.refl _ _).alloc (Nat.le_refl _) _).alloc (by simp) _).alloc (by simp; omega) _).trans (b1.mono (by simp; omega))
        have h3 : Below w.heap.size w w2 := (h2.alloc (by omega) _).trans (b2.mono (by simp; omega))
        clear k0 k1 k2 k3 k4 k5 f0 f1
        go_wp2_with fail
        exact bodyPost_ret (v := .tuple #[.agg #[.int .i64 (c + x), .int .i64 (r + y)], .bool true]) (by simp [results, Tryd.results47, go_sem, m0, m1]) rfl
          ⟨by rw [e1.out, e2.out, e3.out], (h3.setCell (by simp; omega) _).setCell (by simp; omega) _⟩
      | false =>
        have e1 := Lib.hid (show mvC c r x y = 0 from if_neg (by rw [e0, hq]; decide))
        have e2 := Lib.hid (show mvR c r x y = 0 from if_neg (by rw [e0, hq]; decide))
        have e3 := Lib.hid (e0.trans hq)
        rw [hq] at HQ
        clear e0 hq
        go_enter Tryd.func47, Tryd.ntmps47
        go_wp2_with fail
        refine (HR.out _).mono ?_; rintro e w1 ⟨rfl, b1⟩
        have k0 := keep_cell b1 (p := ⟨w.heap.size + 1 + 1, 0, none⟩) (v := .int .i64 0) (by simp [go_sem])
        have k1 := keep_cell b1 (p := ⟨w.heap.size + 1 + 1, 1, none⟩) (v := .int .i64 0) (by simp [go_sem])
        have k2 := keep_cell b1 (p := ⟨w.heap.size + 1, 0, none⟩) (v := .int .i64 x) (by simp [go_sem])
        have k3 := keep_cell b1 (p := ⟨w.heap.size + 1, 1, none⟩) (v := .int .i64 y) (by simp [go_sem])
        have k4 := keep_cell b1 (p := ⟨w.heap.size, 0, none⟩) (v := .int .i64 c) (by simp [go_sem])
        have k5 := keep_cell b1 (p := ⟨w.heap.size, 1, none⟩) (v := .int .i64 r) (by simp [go_sem])
        have f0 := keep_frozen b1 (p := ⟨w.heap.size + 1 + 1, 0, none⟩) (by simp) (by simp [go_sem])
        have f1 := keep_frozen b1 (p := ⟨w.heap.size + 1 + 1, 1, none⟩) (by simp) (by simp [go_sem])
        have z1 : w.heap.size + 1 + 1 < w1.heap.size := by have := b1.size; simp at this; omega
        go_wp2_with fail
        refine (HX.out _).mono ?_; rintro e w2 ⟨rfl, rfl⟩
        go_wp2_with fail
        refine (HY.out _).mono ?_; rintro e w2 ⟨rfl, rfl⟩
        go_wp2_with fail
        refine (HQ.out _).mono ?_; rintro e w2 ⟨rfl, b2⟩
        have m0 := keep_cell b2 (p := ⟨w.heap.size + 1 + 1, 0, none⟩) (v := .int .i64 0) (by simp [go_sem, z1, k0])
        have m1 := keep_cell b2 (p := ⟨w.heap.size + 1 + 1, 1, none⟩) (v := .int .i64 0) (by simp [go_sem, z1, k1])
        have m2 := keep_cell b2 (p := ⟨w1.heap.size, 0, none⟩) (v := .int .i64 (c + x)) (by simp [go_sem])
        have m3 := keep_cell b2 (p := ⟨w1.heap.size, 1, none⟩) (v := .int .i64 (r + y)) (by simp [go_sem])
        have g0 := keep_frozen b2 (p := ⟨w.heap.size + 1 + 1, 0, none⟩) (by simp; omega) (by simp [go_sem, z1, f0])
        have g1 := keep_frozen b2 (p := ⟨w.heap.size + 1 + 1, 1, none⟩) (by simp; omega) (by simp [go_sem, z1, f1])
        have h2 : Below w.heap.size w w1 := ((((Below.refl _ _).alloc (Nat.le_refl _) _).alloc (by simp) _).alloc (by simp; omega) _).trans (b1.mono (by simp; omega))
        have h3 : Below w.heap.size w w2 := (h2.alloc (by omega) _).trans (b2.mono (by simp; omega))
        clear k0 k1 k2 k3 k4 k5 f0 f1
        go_wp2_with fail
        exact bodyPost_ret (v := .tuple #[.agg #[.int .i64 0, .int .i64 0], .bool false]) (by simp [results, Tryd.results47, go_sem, m0, m1]) rfl
          ⟨by rw [e1.out, e2.out, e3.out], (h3.setCell (by simp; omega) _).setCell (by simp; omega) _⟩
end Go.Proofs.YteflmfifhmlpiaaDoor
namespace Go.Proofs.YteflmfifhmlpiaaDoor
open Go.RowKit

def wholeB (a b c d : Int) : Bool := rightB a b && rightB c d && (decide (a ≤ c) && decide (b ≤ d))
theorem wholeB_iff (a b c d : Int) : wholeB a b c d = true ↔ (0 ≤ a ∧ a ≤ 15 ∧ 0 ≤ b ∧ b ≤ 63) ∧ (0 ≤ c ∧ c ≤ 15 ∧ 0 ≤ d ∧ d ≤ 63) ∧ a ≤ c ∧ b ≤ d := by
  unfold wholeB rightB; simp [and_assoc]
set_option maxHeartbeats 1000000 in
theorem rwhole_any (a b c d : Int) (w : World) :
    Calls Tryd.prog 57 #[.agg #[.int .i64 a, .int .i64 b, .int .i64 c, .int .i64 d]] w fun e w' => e = .returned (.bool (wholeB a b c d)) ∧ Below w.heap.size w w' := by
  have HF := Lib.hid (rright_any a b)
  have HT := Lib.hid (rright_any c d)
  cases hf : rightB a b with
  | false =>
    have e1 := Lib.hid (show wholeB a b c d = false from by unfold wholeB; rw [hf]; rfl)
    rw [hf] at HF
    clear hf
    go_enter Tryd.func57, Tryd.ntmps57
    go_wp2_with fail
    refine (HF.out _).mono ?_; rintro e w1 ⟨rfl, b1⟩
    have k2 := keep_fresh b1 2 (v := .int .i64 c) rfl
    have k3 := keep_fresh b1 3 (v := .int .i64 d) rfl
    go_wp2_with fail
    refine (HT.out _).mono ?_; rintro e w2 ⟨rfl, b2⟩
    have h1 : Below w.heap.size w w1 := ((Below.refl _ _).alloc (Nat.le_refl _) _).trans (b1.mono (by simp))
    have h2 := h1.trans (b2.mono h1.size)
    clear k2 k3 b1 b2
    go_wp2_with fail
    go_ret
    exact ⟨ret_bool e1.out.symm, h2⟩
  | true =>
    rw [hf] at HF
    cases ht : rightB c d with
    | false =>
      have e1 := Lib.hid (show wholeB a b c d = false from by unfold wholeB; rw [hf, ht]; rfl)
      rw [ht] at HT
      clear hf ht
      go_enter Tryd.func57, Tryd.ntmps57
      go_wp2_with fail
      refine (HF.out _).mono ?_; rintro e w1 ⟨rfl, b1⟩
      have k2 := keep_fresh b1 2 (v := .int .i64 c) rfl
      have k3 := keep_fresh b1 3 (v := .int .i64 d) rfl
      go_wp2_with fail
      refine (HT.out _).mono ?_; rintro e w2 ⟨rfl, b2⟩
      have h1 : Below w.heap.size w w1 := ((Below.refl _ _).alloc (Nat.le_refl _) _).trans (b1.mono (by simp))
      have h2 := h1.trans (b2.mono h1.size)
      clear k2 k3 b1 b2
      go_wp2_with fail
      go_ret
      exact ⟨ret_bool e1.out.symm, h2⟩
    | true =>
      have e1 := Lib.hid (show wholeB a b c d = (decide (a ≤ c) && decide (b ≤ d)) from by unfold wholeB; rw [hf, ht]; rfl)
      rw [ht] at HT
      clear hf ht
      go_enter Tryd.func57, Tryd.ntmps57
      go_wp2_with fail
      refine (HF.out _).mono ?_; rintro e w1 ⟨rfl, b1⟩
      have j0 := keep_fresh b1 0 (v := .int .i64 a) rfl
      have j1 := keep_fresh b1 1 (v := .int .i64 b) rfl
      have j2 := keep_fresh b1 2 (v := .int .i64 c) rfl
      have j3 := keep_fresh b1 3 (v := .int .i64 d) rfl
      go_wp2_with fail
      refine (HT.out _).mono ?_; rintro e w2 ⟨rfl, b2⟩
      have k0 := keep_cell b2 j0
      have k1 := keep_cell b2 j1
      have k2 := keep_cell b2 j2
      have k3 := keep_cell b2 j3
      have h1 : Below w.heap.size w w1 := ((Below.refl _ _).alloc (Nat.le_refl _) _).trans (b1.mono (by simp))
      have h2 := h1.trans (b2.mono h1.size)
      clear j0 j1 j2 j3 b1 b2
      by_cases hac : a ≤ c
      · have d1 : decide (a ≤ c) = true := decide_eq_true hac
        rw [d1, Bool.true_and] at e1
        clear hac
        go_wp2_with fail
        go_ret
        exact ⟨ret_bool e1.out.symm, h2⟩
      · have d1 : decide (a ≤ c) = false := decide_eq_false hac
        rw [d1, Bool.false_and] at e1
        clear hac
        go_wp2_with fail
        go_ret
        exact ⟨ret_bool e1.out.symm, h2⟩
end Go.Proofs.YteflmfifhmlpiaaDoor
namespace Go.Proofs.YteflmfifhmlpiaaDoor
open Go.RowKit

def hasB (a b c d x y : Int) : Bool := wholeB a b c d && decide (a ≤ x ∧ x ≤ c ∧ b ≤ y ∧ y ≤ d)
set_option maxHeartbeats 1000000 in
theorem rhas_any (a b c d x y : Int) (w : World) :
    Calls Tryd.prog 51 #[.agg #[.int .i64 a, .int .i64 b, .int .i64 c, .int .i64 d], .agg #[.int .i64 x, .int .i64 y]] w fun e w' => e = .returned (.bool (hasB a b c d x y)) ∧ Below w.heap.size w w' := by
  have HW := Lib.hid (rwhole_any a b c d)
  cases hw : wholeB a b c d with
  | false =>
    have e1 := Lib.hid (show hasB a b c d x y = false from by unfold hasB; rw [hw]; rfl)
    rw [hw] at HW
    clear hw
    go_enter Tryd.func51, Tryd.ntmps51
    go_wp2_with fail
    refine (HW.out _).mono ?_; rintro e w1 ⟨rfl, b1⟩
    have h1 : Below w.heap.size w w1 := (((Below.refl _ _).alloc (Nat.le_refl _) _).alloc (by simp) _).trans (b1.mono (by simp; omega))
    go_wp2_with fail
    go_ret
    exact ⟨ret_bool e1.out.symm, h1⟩
  | true =>
    have e1 := Lib.hid (show hasB a b c d x y = decide (a ≤ x ∧ x ≤ c ∧ b ≤ y ∧ y ≤ d) from by unfold hasB; rw [hw]; rfl)
    rw [hw] at HW
    clear hw
    go_enter Tryd.func51, Tryd.ntmps51
    go_wp2_with fail
    refine (HW.out _).mono ?_; rintro e w1 ⟨rfl, b1⟩
    have k0 := keep_cell b1 (p := ⟨w.heap.size, 0, none⟩) (v := .int .i64 a) (by simp [go_sem])
    have k1 := keep_cell b1 (p := ⟨w.heap.size, 1, none⟩) (v := .int .i64 b) (by simp [go_sem])
    have k2 := keep_cell b1 (p := ⟨w.heap.size, 2, none⟩) (v := .int .i64 c) (by simp [go_sem])
    have k3 := keep_cell b1 (p := ⟨w.heap.size, 3, none⟩) (v := .int .i64 d) (by simp [go_sem])
    have k4 := keep_cell b1 (p := ⟨w.heap.size + 1, 0, none⟩) (v := .int .i64 x) (by simp [go_sem])
    have k5 := keep_cell b1 (p := ⟨w.heap.size + 1, 1, none⟩) (v := .int .i64 y) (by simp [go_sem])
    have h1 : Below w.heap.size w w1 := (((Below.refl _ _).alloc (Nat.le_refl _) _).alloc (by simp) _).trans (b1.mono (by simp; omega))
    clear b1
    go_wp2_with fail
    all_goals go_ret
    · exact ⟨ret_bool (Eq.trans (decide_eq_decide.2 (by omega)) e1.out.symm), h1⟩
    · exact ⟨ret_bool (Eq.trans (decide_eq_false (by omega)).symm e1.out.symm), h1⟩
    · exact ⟨ret_bool (Eq.trans (decide_eq_false (by omega)).symm e1.out.symm), h1⟩
    · exact ⟨ret_bool (Eq.trans (decide_eq_false (by omega)).symm e1.out.symm), h1⟩
end Go.Proofs.YteflmfifhmlpiaaDoor
namespace Go.Proofs.YteflmfifhmlpiaaDoor
open Go.RowKit

set_option maxHeartbeats 400000 in
theorem pright_any (c r : Int) (w : World) :
    Calls Tryd.prog 50 #[.agg #[.int .i64 c, .int .i64 r]] w fun e w' => e = .returned (.bool (rightB c r)) ∧ Below w.heap.size w w' := by
  go_enter Tryd.func50, Tryd.ntmps50
  go_wp2_with fail
  all_goals go_ret
  · exact ⟨ret_bool (bool_iff (by rw [rightB_iff]; simp; omega)), (Below.refl _ _).alloc (Nat.le_refl _) _⟩
  · exact ⟨ret_bool ((rightB_not _ _).2 (by omega)).symm, (Below.refl _ _).alloc (Nat.le_refl _) _⟩
  · exact ⟨ret_bool ((rightB_not _ _).2 (by omega)).symm, (Below.refl _ _).alloc (Nat.le_refl _) _⟩
  · exact ⟨ret_bool ((rightB_not _ _).2 (by omega)).symm, (Below.refl _ _).alloc (Nat.le_refl _) _⟩
end Go.Proofs.YteflmfifhmlpiaaDoor
