/- Texts joined: ShK, TvC. -/
import Derived.Test.YteflmfifhmlpiaaDoorMa11
import Derived.Test.YteflmfifhmlpiaaDoorMa09
import Derived.Deep.QuietTactic
import Derived.BigQuiet
import Derived.Deep.RegionHeld3
import Derived.Deep.RegionWith
set_option linter.all false
set_option linter.unusedVariables false
set_option linter.unusedSimpArgs false
namespace Go.Proofs.YteflmfifhmlpiaaDoor
open Go.RowKit

theorem cntL_len : ∀ l : List Tr, l.length ≤ cntL l
  | [] => Nat.zero_le _
  | t :: ts => by
    have h1 := cntL_len ts
    have h2 : 1 ≤ cntT t := by cases t; rw [cntT]; omega
    rw [List.length_cons, cntL]; omega
theorem cnt_kids (t : Tr) : t.kids.length + 1 ≤ cntT t := by cases t; rw [cntT]; have := cntL_len (Tr.kids (.mk ‹_› ‹_› ‹_› ‹_› ‹_› ‹_› ‹_› ‹_›)); simp only [Tr.kids] at *; omega
theorem cntL_mem : ∀ {l : List Tr} {u : Tr}, u ∈ l → cntT u ≤ cntL l
  | [], u, h => by cases h
  | t :: ts, u, h => by
    rw [cntL]
    rcases List.mem_cons.1 h with rfl | h
    · omega
    · have := cntL_mem h; omega
theorem cnt_mem {t u : Tr} (h : u ∈ t.kids) : cntT u ≤ cntT t := by cases t; rw [cntT]; have := cntL_mem (l := Tr.kids (.mk ‹_› ‹_› ‹_› ‹_› ‹_› ‹_› ‹_› ‹_›)) h; simp only [Tr.kids] at *; omega
theorem mvL_take {x y : Int} {ks : List Tr} {i : Nat} {u : Tr} (h : ks[i]? = some u) : mvL x y (ks.take (i + 1)) = mvL x y (ks.take i) ++ [mvT x y u] := by
  rw [mvL_map, mvL_map, List.take_add_one, h, List.map_append]; rfl
theorem Row.shut {base : Nat} {w : World} {v : Value} {xs : List (V8 × Tr)} (h : Row base w v xs) :
    ∃ A cp, v = .slice A xs.length cp ∧ (xs.map Prod.snd = [] ∨ ∃ g o, A = some ⟨g, o, none⟩ ∧ base ≤ g ∧ g < w.heap.size ∧ KL w (fun b => base ≤ b) (xs.map Prod.snd) g o) := by
  cases xs with
  | nil =>
    rcases h.own.2 with ⟨e, _⟩ | ⟨g, cp, cur, e, _⟩
    · exact ⟨none, 0, e, .inl rfl⟩
    · exact ⟨_, cp, e, .inl rfl⟩
  | cons p r =>
    obtain ⟨g0, cp, e, hb, hl, hk⟩ := h.kids (by simp)
    exact ⟨_, cp, e, .inr ⟨g0, 0, rfl, hb, hl, hk⟩⟩
def mv8 (x y : Int) (t : Tr) : Tr := if rdr t = true then (if (mvB t.c1 t.r1 x y && mvB t.c2 t.r2 x y) = true then .mk t.kind t.num (mvC t.c1 t.r1 x y) (mvR t.c1 t.r1 x y) (mvC t.c2 t.r2 x y) (mvR t.c2 t.r2 x y) t.word (mvL x y t.kids) else badT) else .mk t.kind t.num t.c1 t.r1 t.c2 t.r2 t.word (mvL x y t.kids)
theorem mv8_is (x y : Int) (t : Tr) : mv8 x y t = mvT x y t := by
  cases t with
  | mk k n c r d s w ks =>
    unfold mv8
    rw [mvT]
    show (if rdr (.mk k n c r d s w ks) = true then (if (mvB c r x y && mvB d s x y) = true then Tr.mk k n (mvC c r x y) (mvR c r x y) (mvC d s x y) (mvR d s x y) w (mvL x y ks) else badT) else Tr.mk k n c r d s w (mvL x y ks)) = _
    by_cases hk : k = 1 ∨ k = 6
    · have e : rdr (.mk k n c r d s w ks) = true := by unfold rdr; simp only [Tr.kind, Bool.or_eq_true, beq_iff_eq]; exact hk
      rw [if_pos e, if_pos hk]
      by_cases hm : (mvP c r x y && mvP d s x y) = true
      · have h1 := (Bool.and_eq_true _ _ ▸ hm).1
        have h2 := (Bool.and_eq_true _ _ ▸ hm).2
        rw [if_pos hm, if_pos (show (mvB c r x y && mvB d s x y) = true from hm)]
        have a1 : mvB c r x y = true := h1
        have a2 : mvB d s x y = true := h2
        unfold mvC mvR
        rw [if_pos a1, if_pos a1, if_pos a2, if_pos a2]
      · rw [if_neg hm, if_neg (show ¬ (mvB c r x y && mvB d s x y) = true from hm)]
    · have e : ¬ rdr (.mk k n c r d s w ks) = true := by unfold rdr; simp only [Tr.kind, Bool.or_eq_true, beq_iff_eq]; exact hk
      rw [if_neg e, if_neg hk]
def PMvC (F : Nat) (x y : Int) (t : Tr) : Prop := ∀ (w : World) (P : Nat → Prop) (A : Option Addr) (ca : Nat), KV w P t A →
  Calls Tryd.prog F #[.agg #[.int .i64 t.kind, .int .i64 t.num, .int .i64 t.c1, .int .i64 t.r1, .int .i64 t.c2, .int .i64 t.r2, .string ⟨t.word.toArray⟩, .slice A t.kids.length ca], .agg #[.int .i64 x, .int .i64 y]] w fun e w' => ∃ v : V8, e = .returned v.val ∧ TV w' (fun b => w.heap.size ≤ b) v (some (mvT x y t)) ∧ Below w.heap.size w w'
set_option maxHeartbeats 4000000 in
set_option maxRecDepth 100000 in
theorem pmoved_no (x y : Int) (hx : B63 x) (hy : B63 y) (t : Tr) (hlen : t.kids.length ≤ 1000000) (ih : ∀ u ∈ t.kids, PMvC 26 x y u) (hb : rdr t = false) : PMvC 26 x y t := by
  intro w P A ca hk
  have HK := Lib.hid hk
  have HI := Lib.hid ih
  obtain ⟨i0, hi0, hz0, hz1, hz2⟩ := info_parts tree_info
  have HI0 := Lib.hid hi0
  have HZ0 := Lib.hid hz0
  have HZ1 := Lib.hid hz1
  have HZ2 := Lib.hid hz2
  have HQ := Lib.hid (fun w => preader_any t w A ca)
  unfold tv at HQ
  rw [hb] at HQ
  clear hi0 hz0 hz1 hz2 hk ih
  have hmv : mvT x y t = .mk t.kind t.num t.c1 t.r1 t.c2 t.r2 t.word (mvL x y t.kids) := by rw [← mv8_is]; exact if_neg (by rw [hb]; decide)
  clear hb
  go_enter Tryd.func26, Tryd.ntmps26
  go_wp2_with fail
  refine (HQ.out _).mono ?_; rintro e w1 ⟨rfl, b1⟩
  have c0 : w1.cell? ⟨w.heap.size, 0, none⟩ = some (.int .i64 t.kind) := keep_cell b1 (by simp [go_sem])
  have c1 : w1.cell? ⟨w.heap.size, 1, none⟩ = some (.int .i64 t.num) := keep_cell b1 (by simp [go_sem])
  have c2 : w1.cell? ⟨w.heap.size, 2, none⟩ = some (.int .i64 t.c1) := keep_cell b1 (by simp [go_sem])
  have c3 : w1.cell? ⟨w.heap.size, 3, none⟩ = some (.int .i64 t.r1) := keep_cell b1 (by simp [go_sem])
  have c4 : w1.cell? ⟨w.heap.size, 4, none⟩ = some (.int .i64 t.c2) := keep_cell b1 (by simp [go_sem])
  have c5 : w1.cell? ⟨w.heap.size, 5, none⟩ = some (.int .i64 t.r2) := keep_cell b1 (by simp [go_sem])
  have c6 : w1.cell? ⟨w.heap.size, 6, none⟩ = some (.string ⟨t.word.toArray⟩) := keep_cell b1 (by simp [go_sem])
  have c7 : w1.cell? ⟨w.heap.size, 7, none⟩ = some (.slice A t.kids.length ca) := keep_cell b1 (by simp [go_sem])
  have g2 : w1.frozen? ⟨w.heap.size, 2, none⟩ = false := keep_frozen b1 (by simp <;> omega) (by simp [go_sem])
  have g3 : w1.frozen? ⟨w.heap.size, 3, none⟩ = false := keep_frozen b1 (by simp <;> omega) (by simp [go_sem])
  have g4 : w1.frozen? ⟨w.heap.size, 4, none⟩ = false := keep_frozen b1 (by simp <;> omega) (by simp [go_sem])
  have g5 : w1.frozen? ⟨w.heap.size, 5, none⟩ = false := keep_frozen b1 (by simp <;> omega) (by simp [go_sem])
  have g7 : w1.frozen? ⟨w.heap.size, 7, none⟩ = false := keep_frozen b1 (by simp <;> omega) (by simp [go_sem])
  have p0 : w1.cell? ⟨w.heap.size + 1, 0, none⟩ = some (.int .i64 x) := keep_cell b1 (by simp [go_sem])
  have p1 : w1.cell? ⟨w.heap.size + 1, 1, none⟩ = some (.int .i64 y) := keep_cell b1 (by simp [go_sem])
  have r0 : w1.cell? ⟨w.heap.size + 1 + 1, 0, none⟩ = some (.int .i64 0) := keep_cell b1 (by simp [go_sem])
  have r1 : w1.cell? ⟨w.heap.size + 1 + 1, 1, none⟩ = some (.int .i64 0) := keep_cell b1 (by simp [go_sem])
  have r2 : w1.cell? ⟨w.heap.size + 1 + 1, 2, none⟩ = some (.int .i64 0) := keep_cell b1 (by simp [go_sem])
  have r3 : w1.cell? ⟨w.heap.size + 1 + 1, 3, none⟩ = some (.int .i64 0) := keep_cell b1 (by simp [go_sem])
  have r4 : w1.cell? ⟨w.heap.size + 1 + 1, 4, none⟩ = some (.int .i64 0) := keep_cell b1 (by simp [go_sem])
  have r5 : w1.cell? ⟨w.heap.size + 1 + 1, 5, none⟩ = some (.int .i64 0) := keep_cell b1 (by simp [go_sem])
  have r6 : w1.cell? ⟨w.heap.size + 1 + 1, 6, none⟩ = some (.string ⟨#[]⟩) := keep_cell b1 (by simp [go_sem])
  have r7 : w1.cell? ⟨w.heap.size + 1 + 1, 7, none⟩ = some (.slice none 0 0) := keep_cell b1 (by simp [go_sem])
  have f0 : w1.frozen? ⟨w.heap.size + 1 + 1, 0, none⟩ = false := keep_frozen b1 (by simp) (by simp [go_sem])
  have f1 : w1.frozen? ⟨w.heap.size + 1 + 1, 1, none⟩ = false := keep_frozen b1 (by simp) (by simp [go_sem])
  have f2 : w1.frozen? ⟨w.heap.size + 1 + 1, 2, none⟩ = false := keep_frozen b1 (by simp) (by simp [go_sem])
  have f3 : w1.frozen? ⟨w.heap.size + 1 + 1, 3, none⟩ = false := keep_frozen b1 (by simp) (by simp [go_sem])
  have f4 : w1.frozen? ⟨w.heap.size + 1 + 1, 4, none⟩ = false := keep_frozen b1 (by simp) (by simp [go_sem])
  have f5 : w1.frozen? ⟨w.heap.size + 1 + 1, 5, none⟩ = false := keep_frozen b1 (by simp) (by simp [go_sem])
  have f6 : w1.frozen? ⟨w.heap.size + 1 + 1, 6, none⟩ = false := keep_frozen b1 (by simp) (by simp [go_sem])
  have f7 : w1.frozen? ⟨w.heap.size + 1 + 1, 7, none⟩ = false := keep_frozen b1 (by simp) (by simp [go_sem])
  have h1 : Below w.heap.size w w1 := ((((Below.refl _ _).alloc (Nat.le_refl _) _).alloc (by simp) _).alloc (by simp <;> omega) _).trans (b1.mono (by simp <;> omega))
  have z1 : w.heap.size + 1 + 1 < w1.heap.size := by have := b1.size; simp at this; omega
  have za : w.heap.size < w1.heap.size := by omega
  have zb : w.heap.size + 1 < w1.heap.size := by omega
  clear b1
  have HT := Lib.hid (show C8 w1 w.heap.size (.int .i64 t.kind) (.int .i64 t.num) (.int .i64 t.c1) (.int .i64 t.r1) (.int .i64 t.c2) (.int .i64 t.r2) (.string ⟨t.word.toArray⟩) (.slice A t.kids.length ca) from ⟨c0, c1, c2, c3, c4, c5, c6, c7⟩)
  have HR := Lib.hid (show C8 w1 (w.heap.size + 1 + 1) (.int .i64 0) (.int .i64 0) (.int .i64 0) (.int .i64 0) (.int .i64 0) (.int .i64 0) (.string ⟨#[]⟩) (.slice none 0 0) from ⟨r0, r1, r2, r3, r4, r5, r6, r7⟩)
  have HF := Lib.hid (show F8 w1 (w.heap.size + 1 + 1) from ⟨f0, f1, f2, f3, f4, f5, f6, f7⟩)
  have HG := Lib.hid g7
  have HP := Lib.hid (And.intro p0 p1)
  have HB := Lib.hid h1
  have hzk := z1
  clear z1 za zb h1 p0 p1 r0 r1 r2 r3 r4 r5 r6 r7 f0 f1 f2 f3 f4 f5 f6 f7 g2 g3 g4 g5 g7
  go_wp2_with fail
  clear c0 c1 c2 c3 c4 c5 c6 c7
  generalize w1 = wk at *
  have HTV := Lib.hid hmv
  clear hmv
  have zk : w.heap.size + 1 + 1 < wk.heap.size := hzk
  go_loopw [7, 27] (fun v n wr => ∃ (i : Nat) (xs : List (V8 × Tr)), i ≤ t.kids.length ∧ xs.length = i ∧ n = .int .i64 (i : Int) ∧ Hid (xs.map Prod.snd = mvL x y (t.kids.take i)) ∧ Hid (Row wk.heap.size wr v xs) ∧ Below wk.heap.size wk wr) (fun _ n _ => t.kids.length - (intOf n).toNat)
  case atStart => exact ⟨0, [], Nat.zero_le _, rfl, rfl, Lib.hid (by rw [List.take_zero, mvL]; rfl), Lib.hid ⟨World.ownsRow_nil _ _ _ _, fun i x t h => by simp at h⟩, Below.refl _ _⟩
  case round =>
    obtain ⟨i, xs, hi, hxl, rfl, HX, HW, hbk⟩ := hrel
    have hsz := hbk.size
    by_cases hlt : i < t.kids.length
    · have hu : t.kids[i]? = some (t.kids[i]'hlt) := List.getElem?_eq_getElem hlt
      obtain ⟨g, o, rfl⟩ := HK.out.addr hu
      have hbel : Below w.heap.size w wr := HB.out.trans (hbk.mono (by omega))
      obtain ⟨hg, A', cap', h8, hkv⟩ := HK.out.kidAt hbel hu
      have HM := Lib.hid (mvL_take (x := x) (y := y) hu)
      have HC := Lib.hid (fun ob => HI.out _ (List.getElem_mem hlt) (wr.alloc ob) _ A' cap' (hkv.kept (Kept.of_below ((Below.refl _ _).alloc (Nat.le_refl _) ob))))
      generalize t.kids[i]'hlt = u at *
      have p0 : wr.cell? ⟨w.heap.size + 1, 0, none⟩ = some (.int .i64 x) := (hbk.cell (p := ⟨w.heap.size + 1, 0, none⟩) (by show w.heap.size + 1 < _; omega)).trans HP.out.1
      have p1 : wr.cell? ⟨w.heap.size + 1, 1, none⟩ = some (.int .i64 y) := (hbk.cell (p := ⟨w.heap.size + 1, 1, none⟩) (by show w.heap.size + 1 < _; omega)).trans HP.out.2
      obtain ⟨q0, q1, q2, q3, q4, q5, q6, q7⟩ := h8
      have hgw : g < wr.heap.size := by have := hbel.size; omega
      have zz : w.heap.size + 1 < wr.heap.size := by omega
      clear hkv hu
      go_wp2_with fail
      refine Calls.mono (HC.out _) ?_; rintro e w4 ⟨⟨d0, d1, d2, d3, d4, d5, dw, dA, dl, dc⟩, rfl, v4, b4⟩
      have hs4 : wr.heap.size < w4.heap.size := by have := b4.size; simp at this; omega
      have b4' : Below wr.heap.size wr w4 := ((Below.refl _ _).alloc (Nat.le_refl _) _).trans (b4.mono (by simp))
      have HW4 := Lib.hid (HW.out.but (But.of_below (R := 0) b4') (by omega))
      have hlt5 : ∀ k, u7.ownBlock = some k → k < wr.heap.size := fun k hk => (HW.out.own.lt k hk).2
      have HVV : Hid (TV w4 (fun b => wk.heap.size ≤ b ∧ some b ≠ u7.ownBlock) ⟨d0, d1, d2, d3, d4, d5, dw, dA, dl, dc⟩ (some (mvT x y u))) := Lib.hid (v4.imp fun b hb => ⟨by have hb2 : (wr.alloc _).heap.size ≤ b := hb; simp at hb2; omega, fun e => by have := hlt5 b e.symm; have hb2 : (wr.alloc _).heap.size ≤ b := hb; simp at hb2; omega⟩)
      have h4 : Below wk.heap.size wk w4 := hbk.trans (b4'.mono hsz)
      clear v4 b4 b4' HW hlt5 q0 q1 q2 q3 q4 q5 q6 q7 p0 p1
      dsimp only [V8.val]
      have HWA : ∀ ob, Hid (Row wk.heap.size (w4.alloc ob) u7 xs) := fun ob => Lib.hid (HW4.out.but (But.of_below (R := 0) ((Below.refl _ _).alloc (Nat.le_refl _) ob)) (by omega))
      go_wp2_with (at_builtin
                   refine wpList_append_own_at _ rfl _ _ 27 rfl wk.heap.size 29 i0 (.agg #[.int .i64 0, .int .i64 0, .int .i64 0, .int .i64 0, .int .i64 0, .int .i64 0, .string ⟨#[]⟩, .slice none 0 0]) 8 88 Tryd.underlying27 HI0.out HZ0.out HZ1.out HZ2.out rfl (by decide) _ _ _ rfl (HWA _).out.own
                     ⟨w4.heap.size, 0, none⟩ 1 1 (cells8 ⟨d0, d1, d2, d3, d4, d5, dw, dA, dl, dc⟩) rfl rfl ?c1 ?c2 ?c3 ?c4 ?c5 ?_)
      case c1 =>
        intro j u hj
        match j, hj with
        | 0, hj => simp [cells8] at hj; subst hj; simp [Addr.add, go_sem]
        | 1, hj => simp [cells8] at hj; subst hj; simp [Addr.add, go_sem]
        | 2, hj => simp [cells8] at hj; subst hj; simp [Addr.add, go_sem]
        | 3, hj => simp [cells8] at hj; subst hj; simp [Addr.add, go_sem]
        | 4, hj => simp [cells8] at hj; subst hj; simp [Addr.add, go_sem]
        | 5, hj => simp [cells8] at hj; subst hj; simp [Addr.add, go_sem]
        | 6, hj => simp [cells8] at hj; subst hj; simp [Addr.add, go_sem]
        | 7, hj => simp [cells8] at hj; subst hj; simp [Addr.add, go_sem]
      case c2 => intro u hu; simp [cells8] at hu; rcases hu with rfl | rfl | rfl | rfl | rfl | rfl | rfl | rfl <;> rfl
      case c3 => unfold maxLen; omega
      case c4 => omega
      case c5 => first | omega | (simp <;> omega)
      intro v' w5 hown5 hg5 _ hat5
      have HW5 := Lib.hid ((HWA _).out.push (HVV.out.kept (Kept.of_below ((Below.refl _ _).alloc (Nat.le_refl _) _))) (by rw [hxl]; exact hown5) hg5 (by simpa using hat5))
      have hb5 : Below wk.heap.size wk w5 := (h4.alloc (by omega) _).grown hg5 (by simp <;> omega) (fun k hk => (HW4.out.own.lt k hk).1)
      have HX5 : Hid ((xs ++ [((⟨d0, d1, d2, d3, d4, d5, dw, dA, dl, dc⟩ : V8), mvT x y u)]).map Prod.snd = mvL x y (t.kids.take (i + 1))) := Lib.hid (by rw [HM.out, List.map_append, HX.out]; rfl)
      clear hown5 hg5 hat5 HVV HW4 h4 HX HM HWA
      go_wp2_with fail
      go_roundw
      case rel => exact ⟨i + 1, _, by omega, by simp; omega, by go_num, HX5, HW5, hb5⟩
      case measure => simp [intOf]; omega
    · have hii : i = t.kids.length := by omega
      have HX2 : Hid (xs.map Prod.snd = mvL x y t.kids) := Lib.hid (by have h := HX.out; rwa [hii, List.take_length] at h)
      obtain ⟨Ax, cp, rfl, hkl⟩ := HW.out.shut
      have HKL := Lib.hid hkl
      obtain ⟨c0, c1, c2, c3, c4, c5, c6, c7⟩ := c8_lift (w' := wr) (fun j v (hv : wk.cell? ⟨w.heap.size, j, none⟩ = some v) => (hbk.cell (p := ⟨w.heap.size, j, none⟩) (by show w.heap.size < _; omega)).trans hv) HT.out.1 HT.out.2.1 HT.out.2.2.1 HT.out.2.2.2.1 HT.out.2.2.2.2.1 HT.out.2.2.2.2.2.1 HT.out.2.2.2.2.2.2.1 HT.out.2.2.2.2.2.2.2
      obtain ⟨r0, r1, r2, r3, r4, r5, r6, r7⟩ := c8_lift (w' := wr) (fun j v (hv : wk.cell? ⟨w.heap.size + 1 + 1, j, none⟩ = some v) => (hbk.cell (p := ⟨w.heap.size + 1 + 1, j, none⟩) (by show w.heap.size + 1 + 1 < _; omega)).trans hv) HR.out.1 HR.out.2.1 HR.out.2.2.1 HR.out.2.2.2.1 HR.out.2.2.2.2.1 HR.out.2.2.2.2.2.1 HR.out.2.2.2.2.2.2.1 HR.out.2.2.2.2.2.2.2
      obtain ⟨f0, f1, f2, f3, f4, f5, f6, f7⟩ := f8_lift (w' := wr) (fun j (hv : wk.frozen? ⟨w.heap.size + 1 + 1, j, none⟩ = false) => (hbk.frozen (p := ⟨w.heap.size + 1 + 1, j, none⟩) (by show w.heap.size + 1 + 1 < _; omega)).trans hv) HF.out.1 HF.out.2.1 HF.out.2.2.1 HF.out.2.2.2.1 HF.out.2.2.2.2.1 HF.out.2.2.2.2.2.1 HF.out.2.2.2.2.2.2.1 HF.out.2.2.2.2.2.2.2
      have g7 : wr.frozen? ⟨w.heap.size, 7, none⟩ = false := (hbk.frozen (p := ⟨w.heap.size, 7, none⟩) (by show w.heap.size < _; omega)).trans HG.out
      have hfin : Below w.heap.size w wr := HB.out.trans (hbk.mono (by omega))
      have hsw : w.heap.size ≤ wr.heap.size := hfin.size
      clear hbk HW HX hkl
      go_wp2_with fail
      refine bodyPost_ret (v := .agg #[.int .i64 (t.kind), .int .i64 (t.num), .int .i64 (t.c1), .int .i64 (t.r1), .int .i64 (t.c2), .int .i64 (t.r2), .string ⟨t.word.toArray⟩, .slice Ax t.kids.length cp]) (by simp [results, Tryd.results26, go_sem, r0, r1, r2, r3, r4, r5, r6, r7]) rfl ⟨⟨t.kind, t.num, t.c1, t.r1, t.c2, t.r2, ⟨t.word.toArray⟩, Ax, t.kids.length, cp⟩, rfl, ?_, by
        repeat' (first | with_reducible exact hfin | with_reducible refine Below.alloc ?_ (by first | omega | (simp <;> omega)) _ | with_reducible refine Below.setCell ?_ (by first | omega | (simp <;> omega)) _)⟩
      rw [HTV.out]
      refine ⟨Ax, cp, by simp [tv8, Tr.kind, Tr.num, Tr.c1, Tr.r1, Tr.c2, Tr.r2, Tr.word, Tr.kids, len_mv], KV.mk ?_⟩
      show mvL x y t.kids = [] ∨ _
      rw [← HX2.out]
      rcases HKL.out with h | ⟨g, o, e, hb, hl, hk⟩
      · exact .inl h
      · refine .inr ⟨g, o, e, by omega, Nat.lt_of_lt_of_le hl (Kept.size (P := fun b => wk.heap.size ≤ b) ?_), KL.imp (P := fun b => wk.heap.size ≤ b) (fun b hb => by have hb2 : wk.heap.size ≤ b := hb; omega) (KL.kept ?_ hb hk)⟩
        all_goals
          repeat' (first | with_reducible exact Kept.refl _ _ | with_reducible refine Kept.alloc ?_ _ | with_reducible refine Kept.set ?_ (.inl (by show ¬ wk.heap.size ≤ _; omega)) _ _)
set_option maxHeartbeats 4000000 in
set_option maxRecDepth 100000 in
theorem pmoved_out (x y : Int) (hx : B63 x) (hy : B63 y) (t : Tr) (hlen : t.kids.length ≤ 1000000) (ih : ∀ u ∈ t.kids, PMvC 26 x y u) (hb : rdr t = true) (hm : (mvB t.c1 t.r1 x y && mvB t.c2 t.r2 x y) = false) : PMvC 26 x y t := by
  intro w P A ca hk
  have HK := Lib.hid hk
  have HI := Lib.hid ih
  obtain ⟨i0, hi0, hz0, hz1, hz2⟩ := info_parts tree_info
  have HI0 := Lib.hid hi0
  have HZ0 := Lib.hid hz0
  have HZ1 := Lib.hid hz1
  have HZ2 := Lib.hid hz2
  have HQ := Lib.hid (fun w => preader_any t w A ca)
  unfold tv at HQ
  rw [hb] at HQ
  clear hi0 hz0 hz1 hz2 hk ih
  have HTV : Hid (mvT x y t = badT) := Lib.hid (by rw [← mv8_is]; unfold mv8; rw [if_pos hb, if_neg (by rw [hm]; decide)])
  have HO := Lib.hid (fun w => pon_any t.c1 t.r1 t.c2 t.r2 x y hx hy w)
  rw [hm] at HO
  clear hm
  generalize mvC t.c1 t.r1 x y = u1 at *
  generalize mvR t.c1 t.r1 x y = u2 at *
  generalize mvC t.c2 t.r2 x y = u3 at *
  generalize mvR t.c2 t.r2 x y = u4 at *
  clear hb
  go_enter Tryd.func26, Tryd.ntmps26
  go_wp2_with fail
  refine (HQ.out _).mono ?_; rintro e w1 ⟨rfl, b1⟩
  have c0 : w1.cell? ⟨w.heap.size, 0, none⟩ = some (.int .i64 t.kind) := keep_cell b1 (by simp [go_sem])
  have c1 : w1.cell? ⟨w.heap.size, 1, none⟩ = some (.int .i64 t.num) := keep_cell b1 (by simp [go_sem])
  have c2 : w1.cell? ⟨w.heap.size, 2, none⟩ = some (.int .i64 t.c1) := keep_cell b1 (by simp [go_sem])
  have c3 : w1.cell? ⟨w.heap.size, 3, none⟩ = some (.int .i64 t.r1) := keep_cell b1 (by simp [go_sem])
  have c4 : w1.cell? ⟨w.heap.size, 4, none⟩ = some (.int .i64 t.c2) := keep_cell b1 (by simp [go_sem])
  have c5 : w1.cell? ⟨w.heap.size, 5, none⟩ = some (.int .i64 t.r2) := keep_cell b1 (by simp [go_sem])
  have c6 : w1.cell? ⟨w.heap.size, 6, none⟩ = some (.string ⟨t.word.toArray⟩) := keep_cell b1 (by simp [go_sem])
  have c7 : w1.cell? ⟨w.heap.size, 7, none⟩ = some (.slice A t.kids.length ca) := keep_cell b1 (by simp [go_sem])
  have g2 : w1.frozen? ⟨w.heap.size, 2, none⟩ = false := keep_frozen b1 (by simp <;> omega) (by simp [go_sem])
  have g3 : w1.frozen? ⟨w.heap.size, 3, none⟩ = false := keep_frozen b1 (by simp <;> omega) (by simp [go_sem])
  have g4 : w1.frozen? ⟨w.heap.size, 4, none⟩ = false := keep_frozen b1 (by simp <;> omega) (by simp [go_sem])
  have g5 : w1.frozen? ⟨w.heap.size, 5, none⟩ = false := keep_frozen b1 (by simp <;> omega) (by simp [go_sem])
  have g7 : w1.frozen? ⟨w.heap.size, 7, none⟩ = false := keep_frozen b1 (by simp <;> omega) (by simp [go_sem])
  have p0 : w1.cell? ⟨w.heap.size + 1, 0, none⟩ = some (.int .i64 x) := keep_cell b1 (by simp [go_sem])
  have p1 : w1.cell? ⟨w.heap.size + 1, 1, none⟩ = some (.int .i64 y) := keep_cell b1 (by simp [go_sem])
  have r0 : w1.cell? ⟨w.heap.size + 1 + 1, 0, none⟩ = some (.int .i64 0) := keep_cell b1 (by simp [go_sem])
  have r1 : w1.cell? ⟨w.heap.size + 1 + 1, 1, none⟩ = some (.int .i64 0) := keep_cell b1 (by simp [go_sem])
  have r2 : w1.cell? ⟨w.heap.size + 1 + 1, 2, none⟩ = some (.int .i64 0) := keep_cell b1 (by simp [go_sem])
  have r3 : w1.cell? ⟨w.heap.size + 1 + 1, 3, none⟩ = some (.int .i64 0) := keep_cell b1 (by simp [go_sem])
  have r4 : w1.cell? ⟨w.heap.size + 1 + 1, 4, none⟩ = some (.int .i64 0) := keep_cell b1 (by simp [go_sem])
  have r5 : w1.cell? ⟨w.heap.size + 1 + 1, 5, none⟩ = some (.int .i64 0) := keep_cell b1 (by simp [go_sem])
  have r6 : w1.cell? ⟨w.heap.size + 1 + 1, 6, none⟩ = some (.string ⟨#[]⟩) := keep_cell b1 (by simp [go_sem])
  have r7 : w1.cell? ⟨w.heap.size + 1 + 1, 7, none⟩ = some (.slice none 0 0) := keep_cell b1 (by simp [go_sem])
  have f0 : w1.frozen? ⟨w.heap.size + 1 + 1, 0, none⟩ = false := keep_frozen b1 (by simp) (by simp [go_sem])
  have f1 : w1.frozen? ⟨w.heap.size + 1 + 1, 1, none⟩ = false := keep_frozen b1 (by simp) (by simp [go_sem])
  have f2 : w1.frozen? ⟨w.heap.size + 1 + 1, 2, none⟩ = false := keep_frozen b1 (by simp) (by simp [go_sem])
  have f3 : w1.frozen? ⟨w.heap.size + 1 + 1, 3, none⟩ = false := keep_frozen b1 (by simp) (by simp [go_sem])
  have f4 : w1.frozen? ⟨w.heap.size + 1 + 1, 4, none⟩ = false := keep_frozen b1 (by simp) (by simp [go_sem])
  have f5 : w1.frozen? ⟨w.heap.size + 1 + 1, 5, none⟩ = false := keep_frozen b1 (by simp) (by simp [go_sem])
  have f6 : w1.frozen? ⟨w.heap.size + 1 + 1, 6, none⟩ = false := keep_frozen b1 (by simp) (by simp [go_sem])
  have f7 : w1.frozen? ⟨w.heap.size + 1 + 1, 7, none⟩ = false := keep_frozen b1 (by simp) (by simp [go_sem])
  have h1 : Below w.heap.size w w1 := ((((Below.refl _ _).alloc (Nat.le_refl _) _).alloc (by simp) _).alloc (by simp <;> omega) _).trans (b1.mono (by simp <;> omega))
  have z1 : w.heap.size + 1 + 1 < w1.heap.size := by have := b1.size; simp at this; omega
  have za : w.heap.size < w1.heap.size := by omega
  have zb : w.heap.size + 1 < w1.heap.size := by omega
  clear b1
  go_wp2_with fail
  refine (HO.out _).mono ?_; rintro e w2 ⟨rfl, b2⟩
  have n2 := b2.size
  have n3 : w.heap.size < w2.heap.size := by omega
  have n4 : w.heap.size + 1 + 1 < w2.heap.size := by omega
  replace r0 := keep_cell b2 r0
  replace r1 := keep_cell b2 r1
  replace r2 := keep_cell b2 r2
  replace r3 := keep_cell b2 r3
  replace r4 := keep_cell b2 r4
  replace r5 := keep_cell b2 r5
  replace r6 := keep_cell b2 r6
  replace r7 := keep_cell b2 r7
  replace f0 := keep_frozen b2 z1 f0
  replace f1 := keep_frozen b2 z1 f1
  replace f2 := keep_frozen b2 z1 f2
  replace f3 := keep_frozen b2 z1 f3
  replace f4 := keep_frozen b2 z1 f4
  replace f5 := keep_frozen b2 z1 f5
  replace f6 := keep_frozen b2 z1 f6
  replace f7 := keep_frozen b2 z1 f7
  have h2 : Below w.heap.size w w2 := h1.trans (b2.mono h1.size)
  clear b2 h1 p0 p1 c0 c1 c2 c3 c4 c5 c6 c7 g2 g3 g4 g5 g7
  go_wp2_with fail
  refine bodyPost_ret (v := .agg #[.int .i64 2, .int .i64 0, .int .i64 0, .int .i64 0, .int .i64 0, .int .i64 0, .string ⟨#[]⟩, .slice none 0 0]) (by simp [results, Tryd.results26, go_sem, n4, r0, r1, r2, r3, r4, r5, r6, r7]) rfl ⟨⟨2, 0, 0, 0, 0, 0, ⟨#[]⟩, none, 0, 0⟩, rfl, ?_, by
    repeat' (first | with_reducible exact h2 | with_reducible refine Below.alloc ?_ (by first | omega | (simp <;> omega)) _ | with_reducible refine Below.setCell ?_ (by first | omega | (simp <;> omega)) _)⟩
  rw [HTV.out]
  exact ⟨none, 0, rfl, KV.mk (.inl rfl)⟩
set_option maxHeartbeats 4000000 in
set_option maxRecDepth 100000 in
theorem pmoved_in (x y : Int) (hx : B63 x) (hy : B63 y) (t : Tr) (hlen : t.kids.length ≤ 1000000) (ih : ∀ u ∈ t.kids, PMvC 26 x y u) (hb : rdr t = true) (hm : (mvB t.c1 t.r1 x y && mvB t.c2 t.r2 x y) = true) : PMvC 26 x y t := by
  intro w P A ca hk
  have HK := Lib.hid hk
  have HI := Lib.hid ih
  obtain ⟨i0, hi0, hz0, hz1, hz2⟩ := info_parts tree_info
  have HI0 := Lib.hid hi0
  have HZ0 := Lib.hid hz0
  have HZ1 := Lib.hid hz1
  have HZ2 := Lib.hid hz2
  have HQ := Lib.hid (fun w => preader_any t w A ca)
  unfold tv at HQ
  rw [hb] at HQ
  clear hi0 hz0 hz1 hz2 hk ih
  have hmv : mvT x y t = .mk t.kind t.num (mvC t.c1 t.r1 x y) (mvR t.c1 t.r1 x y) (mvC t.c2 t.r2 x y) (mvR t.c2 t.r2 x y) t.word (mvL x y t.kids) := by rw [← mv8_is]; unfold mv8; rw [if_pos hb, if_pos hm]
  have HO := Lib.hid (fun w => pon_any t.c1 t.r1 t.c2 t.r2 x y hx hy w)
  rw [hm] at HO
  clear hm
  generalize mvC t.c1 t.r1 x y = u1 at *
  generalize mvR t.c1 t.r1 x y = u2 at *
  generalize mvC t.c2 t.r2 x y = u3 at *
  generalize mvR t.c2 t.r2 x y = u4 at *
  clear hb
  go_enter Tryd.func26, Tryd.ntmps26
  go_wp2_with fail
  refine (HQ.out _).mono ?_; rintro e w1 ⟨rfl, b1⟩
  have c0 : w1.cell? ⟨w.heap.size, 0, none⟩ = some (.int .i64 t.kind) := keep_cell b1 (by simp [go_sem])
  have c1 : w1.cell? ⟨w.heap.size, 1, none⟩ = some (.int .i64 t.num) := keep_cell b1 (by simp [go_sem])
  have c2 : w1.cell? ⟨w.heap.size, 2, none⟩ = some (.int .i64 t.c1) := keep_cell b1 (by simp [go_sem])
  have c3 : w1.cell? ⟨w.heap.size, 3, none⟩ = some (.int .i64 t.r1) := keep_cell b1 (by simp [go_sem])
  have c4 : w1.cell? ⟨w.heap.size, 4, none⟩ = some (.int .i64 t.c2) := keep_cell b1 (by simp [go_sem])
  have c5 : w1.cell? ⟨w.heap.size, 5, none⟩ = some (.int .i64 t.r2) := keep_cell b1 (by simp [go_sem])
  have c6 : w1.cell? ⟨w.heap.size, 6, none⟩ = some (.string ⟨t.word.toArray⟩) := keep_cell b1 (by simp [go_sem])
  have c7 : w1.cell? ⟨w.heap.size, 7, none⟩ = some (.slice A t.kids.length ca) := keep_cell b1 (by simp [go_sem])
  have g2 : w1.frozen? ⟨w.heap.size, 2, none⟩ = false := keep_frozen b1 (by simp <;> omega) (by simp [go_sem])
  have g3 : w1.frozen? ⟨w.heap.size, 3, none⟩ = false := keep_frozen b1 (by simp <;> omega) (by simp [go_sem])
  have g4 : w1.frozen? ⟨w.heap.size, 4, none⟩ = false := keep_frozen b1 (by simp <;> omega) (by simp [go_sem])
  have g5 : w1.frozen? ⟨w.heap.size, 5, none⟩ = false := keep_frozen b1 (by simp <;> omega) (by simp [go_sem])
  have g7 : w1.frozen? ⟨w.heap.size, 7, none⟩ = false := keep_frozen b1 (by simp <;> omega) (by simp [go_sem])
  have p0 : w1.cell? ⟨w.heap.size + 1, 0, none⟩ = some (.int .i64 x) := keep_cell b1 (by simp [go_sem])
  have p1 : w1.cell? ⟨w.heap.size + 1, 1, none⟩ = some (.int .i64 y) := keep_cell b1 (by simp [go_sem])
  have r0 : w1.cell? ⟨w.heap.size + 1 + 1, 0, none⟩ = some (.int .i64 0) := keep_cell b1 (by simp [go_sem])
  have r1 : w1.cell? ⟨w.heap.size + 1 + 1, 1, none⟩ = some (.int .i64 0) := keep_cell b1 (by simp [go_sem])
  have r2 : w1.cell? ⟨w.heap.size + 1 + 1, 2, none⟩ = some (.int .i64 0) := keep_cell b1 (by simp [go_sem])
  have r3 : w1.cell? ⟨w.heap.size + 1 + 1, 3, none⟩ = some (.int .i64 0) := keep_cell b1 (by simp [go_sem])
  have r4 : w1.cell? ⟨w.heap.size + 1 + 1, 4, none⟩ = some (.int .i64 0) := keep_cell b1 (by simp [go_sem])
  have r5 : w1.cell? ⟨w.heap.size + 1 + 1, 5, none⟩ = some (.int .i64 0) := keep_cell b1 (by simp [go_sem])
  have r6 : w1.cell? ⟨w.heap.size + 1 + 1, 6, none⟩ = some (.string ⟨#[]⟩) := keep_cell b1 (by simp [go_sem])
  have r7 : w1.cell? ⟨w.heap.size + 1 + 1, 7, none⟩ = some (.slice none 0 0) := keep_cell b1 (by simp [go_sem])
  have f0 : w1.frozen? ⟨w.heap.size + 1 + 1, 0, none⟩ = false := keep_frozen b1 (by simp) (by simp [go_sem])
  have f1 : w1.frozen? ⟨w.heap.size + 1 + 1, 1, none⟩ = false := keep_frozen b1 (by simp) (by simp [go_sem])
  have f2 : w1.frozen? ⟨w.heap.size + 1 + 1, 2, none⟩ = false := keep_frozen b1 (by simp) (by simp [go_sem])
  have f3 : w1.frozen? ⟨w.heap.size + 1 + 1, 3, none⟩ = false := keep_frozen b1 (by simp) (by simp [go_sem])
  have f4 : w1.frozen? ⟨w.heap.size + 1 + 1, 4, none⟩ = false := keep_frozen b1 (by simp) (by simp [go_sem])
  have f5 : w1.frozen? ⟨w.heap.size + 1 + 1, 5, none⟩ = false := keep_frozen b1 (by simp) (by simp [go_sem])
  have f6 : w1.frozen? ⟨w.heap.size + 1 + 1, 6, none⟩ = false := keep_frozen b1 (by simp) (by simp [go_sem])
  have f7 : w1.frozen? ⟨w.heap.size + 1 + 1, 7, none⟩ = false := keep_frozen b1 (by simp) (by simp [go_sem])
  have h1 : Below w.heap.size w w1 := ((((Below.refl _ _).alloc (Nat.le_refl _) _).alloc (by simp) _).alloc (by simp <;> omega) _).trans (b1.mono (by simp <;> omega))
  have z1 : w.heap.size + 1 + 1 < w1.heap.size := by have := b1.size; simp at this; omega
  have za : w.heap.size < w1.heap.size := by omega
  have zb : w.heap.size + 1 < w1.heap.size := by omega
  clear b1
  go_wp2_with fail
  refine (HO.out _).mono ?_; rintro e w2 ⟨rfl, b2⟩
  have n2 := b2.size
  have n3 : w.heap.size < w2.heap.size := by omega
  have n4 : w.heap.size + 1 + 1 < w2.heap.size := by omega
  replace c0 := keep_cell b2 c0
  replace c1 := keep_cell b2 c1
  replace c2 := keep_cell b2 c2
  replace c3 := keep_cell b2 c3
  replace c4 := keep_cell b2 c4
  replace c5 := keep_cell b2 c5
  replace c6 := keep_cell b2 c6
  replace c7 := keep_cell b2 c7
  replace g2 := keep_frozen b2 za g2
  replace g3 := keep_frozen b2 za g3
  replace g4 := keep_frozen b2 za g4
  replace g5 := keep_frozen b2 za g5
  replace g7 := keep_frozen b2 za g7
  replace p0 := keep_cell b2 p0
  replace p1 := keep_cell b2 p1
  replace r0 := keep_cell b2 r0
  replace r1 := keep_cell b2 r1
  replace r2 := keep_cell b2 r2
  replace r3 := keep_cell b2 r3
  replace r4 := keep_cell b2 r4
  replace r5 := keep_cell b2 r5
  replace r6 := keep_cell b2 r6
  replace r7 := keep_cell b2 r7
  replace f0 := keep_frozen b2 z1 f0
  replace f1 := keep_frozen b2 z1 f1
  replace f2 := keep_frozen b2 z1 f2
  replace f3 := keep_frozen b2 z1 f3
  replace f4 := keep_frozen b2 z1 f4
  replace f5 := keep_frozen b2 z1 f5
  replace f6 := keep_frozen b2 z1 f6
  replace f7 := keep_frozen b2 z1 f7
  have h2 : Below w.heap.size w w2 := h1.trans (b2.mono h1.size)
  clear b2 h1
  go_wp2_with fail
  obtain ⟨wk, hwk⟩ : ∃ wk, (((((w2.setCell ⟨w.heap.size, 2, none⟩ (.int .i64 u1)).setCell ⟨w.heap.size, 3, none⟩ (.int .i64 u2)).setCell ⟨w.heap.size, 4, none⟩ (.int .i64 u3)).setCell ⟨w.heap.size, 5, none⟩ (.int .i64 u4)).alloc (.cells #[.int .i64 u1, .int .i64 u2, .int .i64 u3, .int .i64 u4] 26)) = wk := ⟨_, rfl⟩
  have nR : w.heap.size ≠ w.heap.size + 1 + 1 := by omega
  have nB : w.heap.size ≠ w.heap.size + 1 := by omega
  have hT : C8 wk w.heap.size (.int .i64 t.kind) (.int .i64 t.num) (.int .i64 u1) (.int .i64 u2) (.int .i64 u3) (.int .i64 u4) (.string ⟨t.word.toArray⟩) (.slice A t.kids.length ca) := by
    rw [← hwk]
    refine ⟨?_, ?_, ?_, ?_, ?_, ?_, ?_, ?_⟩ <;> refine kc_alloc ?_ _ <;> simp [go_sem, c0, c1, c2, c3, c4, c5, c6, c7]
  have hR : C8 wk (w.heap.size + 1 + 1) (.int .i64 0) (.int .i64 0) (.int .i64 0) (.int .i64 0) (.int .i64 0) (.int .i64 0) (.string ⟨#[]⟩) (.slice none 0 0) := by
    rw [← hwk]
    refine ⟨?_, ?_, ?_, ?_, ?_, ?_, ?_, ?_⟩ <;> refine kc_alloc (kc_set (kc_set (kc_set (kc_set ?_ nR _ _) nR _ _) nR _ _) nR _ _) _ <;> assumption
  have hF : F8 wk (w.heap.size + 1 + 1) := by
    rw [← hwk]
    refine ⟨?_, ?_, ?_, ?_, ?_, ?_, ?_, ?_⟩ <;> refine kf_alloc (kf_set (kf_set (kf_set (kf_set ?_ nR _ _) nR _ _) nR _ _) nR _ _) (by simp <;> omega) _ <;> assumption
  have hG : wk.frozen? ⟨w.heap.size, 7, none⟩ = false := by
    rw [← hwk]
    refine kf_alloc ?_ (by simp <;> omega) _
    simp [go_sem, g7]
  have hP : wk.cell? ⟨w.heap.size + 1, 0, none⟩ = some (.int .i64 x) ∧ wk.cell? ⟨w.heap.size + 1, 1, none⟩ = some (.int .i64 y) := by
    rw [← hwk]
    refine ⟨?_, ?_⟩ <;> refine kc_alloc (kc_set (kc_set (kc_set (kc_set ?_ nB _ _) nB _ _) nB _ _) nB _ _) _ <;> assumption
  have hB : Below w.heap.size w wk := by
    rw [← hwk]
    repeat' (first | with_reducible exact h2 | with_reducible refine Below.alloc ?_ (by first | omega | (simp <;> omega)) _ | with_reducible refine Below.setCell ?_ (by first | omega | (simp <;> omega)) _)
  have hzk : w.heap.size + 1 + 1 < wk.heap.size := by rw [← hwk]; simp; omega
  rw [hwk]
  have HT := Lib.hid hT
  have HR := Lib.hid hR
  have HF := Lib.hid hF
  have HG := Lib.hid hG
  have HP := Lib.hid hP
  have HB := Lib.hid hB
  clear hT hR hF hG hP hB hwk nR nB n2 n3 n4 h2 p0 p1 r0 r1 r2 r3 r4 r5 r6 r7 f0 f1 f2 f3 f4 f5 f6 f7 g2 g3 g4 g5 g7 c0 c1 c2 c3 c4 c5 c6 c7 z1 za zb
  have HTV := Lib.hid hmv
  clear hmv
  have zk : w.heap.size + 1 + 1 < wk.heap.size := hzk
  go_loopw [7, 27] (fun v n wr => ∃ (i : Nat) (xs : List (V8 × Tr)), i ≤ t.kids.length ∧ xs.length = i ∧ n = .int .i64 (i : Int) ∧ Hid (xs.map Prod.snd = mvL x y (t.kids.take i)) ∧ Hid (Row wk.heap.size wr v xs) ∧ Below wk.heap.size wk wr) (fun _ n _ => t.kids.length - (intOf n).toNat)
  case atStart => exact ⟨0, [], Nat.zero_le _, rfl, rfl, Lib.hid (by rw [List.take_zero, mvL]; rfl), Lib.hid ⟨World.ownsRow_nil _ _ _ _, fun i x t h => by simp at h⟩, Below.refl _ _⟩
  case round =>
    obtain ⟨i, xs, hi, hxl, rfl, HX, HW, hbk⟩ := hrel
    have hsz := hbk.size
    by_cases hlt : i < t.kids.length
    · have hu : t.kids[i]? = some (t.kids[i]'hlt) := List.getElem?_eq_getElem hlt
      obtain ⟨g, o, rfl⟩ := HK.out.addr hu
      have hbel : Below w.heap.size w wr := HB.out.trans (hbk.mono (by omega))
      obtain ⟨hg, A', cap', h8, hkv⟩ := HK.out.kidAt hbel hu
      have HM := Lib.hid (mvL_take (x := x) (y := y) hu)
      have HC := Lib.hid (fun ob => HI.out _ (List.getElem_mem hlt) (wr.alloc ob) _ A' cap' (hkv.kept (Kept.of_below ((Below.refl _ _).alloc (Nat.le_refl _) ob))))
      generalize t.kids[i]'hlt = u at *
      have p0 : wr.cell? ⟨w.heap.size + 1, 0, none⟩ = some (.int .i64 x) := (hbk.cell (p := ⟨w.heap.size + 1, 0, none⟩) (by show w.heap.size + 1 < _; omega)).trans HP.out.1
      have p1 : wr.cell? ⟨w.heap.size + 1, 1, none⟩ = some (.int .i64 y) := (hbk.cell (p := ⟨w.heap.size + 1, 1, none⟩) (by show w.heap.size + 1 < _; omega)).trans HP.out.2
      obtain ⟨q0, q1, q2, q3, q4, q5, q6, q7⟩ := h8
      have hgw : g < wr.heap.size := by have := hbel.size; omega
      have zz : w.heap.size + 1 < wr.heap.size := by omega
      clear hkv hu
      go_wp2_with fail
      refine Calls.mono (HC.out _) ?_; rintro e w4 ⟨⟨d0, d1, d2, d3, d4, d5, dw, dA, dl, dc⟩, rfl, v4, b4⟩
      have hs4 : wr.heap.size < w4.heap.size := by have := b4.size; simp at this; omega
      have b4' : Below wr.heap.size wr w4 := ((Below.refl _ _).alloc (Nat.le_refl _) _).trans (b4.mono (by simp))
      have HW4 := Lib.hid (HW.out.but (But.of_below (R := 0) b4') (by omega))
      have hlt5 : ∀ k, u7.ownBlock = some k → k < wr.heap.size := fun k hk => (HW.out.own.lt k hk).2
      have HVV : Hid (TV w4 (fun b => wk.heap.size ≤ b ∧ some b ≠ u7.ownBlock) ⟨d0, d1, d2, d3, d4, d5, dw, dA, dl, dc⟩ (some (mvT x y u))) := Lib.hid (v4.imp fun b hb => ⟨by have hb2 : (wr.alloc _).heap.size ≤ b := hb; simp at hb2; omega, fun e => by have := hlt5 b e.symm; have hb2 : (wr.alloc _).heap.size ≤ b := hb; simp at hb2; omega⟩)
      have h4 : Below wk.heap.size wk w4 := hbk.trans (b4'.mono hsz)
      clear v4 b4 b4' HW hlt5 q0 q1 q2 q3 q4 q5 q6 q7 p0 p1
      dsimp only [V8.val]
      have HWA : ∀ ob, Hid (Row wk.heap.size (w4.alloc ob) u7 xs) := fun ob => Lib.hid (HW4.out.but (But.of_below (R := 0) ((Below.refl _ _).alloc (Nat.le_refl _) ob)) (by omega))
      go_wp2_with (at_builtin
                   refine wpList_append_own_at _ rfl _ _ 27 rfl wk.heap.size 29 i0 (.agg #[.int .i64 0, .int .i64 0, .int .i64 0, .int .i64 0, .int .i64 0, .int .i64 0, .string ⟨#[]⟩, .slice none 0 0]) 8 88 Tryd.underlying27 HI0.out HZ0.out HZ1.out HZ2.out rfl (by decide) _ _ _ rfl (HWA _).out.own
                     ⟨w4.heap.size, 0, none⟩ 1 1 (cells8 ⟨d0, d1, d2, d3, d4, d5, dw, dA, dl, dc⟩) rfl rfl ?c1 ?c2 ?c3 ?c4 ?c5 ?_)
      case c1 =>
        intro j u hj
        match j, hj with
        | 0, hj => simp [cells8] at hj; subst hj; simp [Addr.add, go_sem]
        | 1, hj => simp [cells8] at hj; subst hj; simp [Addr.add, go_sem]
        | 2, hj => simp [cells8] at hj; subst hj; simp [Addr.add, go_sem]
        | 3, hj => simp [cells8] at hj; subst hj; simp [Addr.add, go_sem]
        | 4, hj => simp [cells8] at hj; subst hj; simp [Addr.add, go_sem]
        | 5, hj => simp [cells8] at hj; subst hj; simp [Addr.add, go_sem]
        | 6, hj => simp [cells8] at hj; subst hj; simp [Addr.add, go_sem]
        | 7, hj => simp [cells8] at hj; subst hj; simp [Addr.add, go_sem]
      case c2 => intro u hu; simp [cells8] at hu; rcases hu with rfl | rfl | rfl | rfl | rfl | rfl | rfl | rfl <;> rfl
      case c3 => unfold maxLen; omega
      case c4 => omega
      case c5 => first | omega | (simp <;> omega)
      intro v' w5 hown5 hg5 _ hat5
      have HW5 := Lib.hid ((HWA _).out.push (HVV.out.kept (Kept.of_below ((Below.refl _ _).alloc (Nat.le_refl _) _))) (by rw [hxl]; exact hown5) hg5 (by simpa using hat5))
      have hb5 : Below wk.heap.size wk w5 := (h4.alloc (by omega) _).grown hg5 (by simp <;> omega) (fun k hk => (HW4.out.own.lt k hk).1)
      have HX5 : Hid ((xs ++ [((⟨d0, d1, d2, d3, d4, d5, dw, dA, dl, dc⟩ : V8), mvT x y u)]).map Prod.snd = mvL x y (t.kids.take (i + 1))) := Lib.hid (by rw [HM.out, List.map_append, HX.out]; rfl)
      clear hown5 hg5 hat5 HVV HW4 h4 HX HM HWA
      go_wp2_with fail
      go_roundw
      case rel => exact ⟨i + 1, _, by omega, by simp; omega, by go_num, HX5, HW5, hb5⟩
      case measure => simp [intOf]; omega
    · have hii : i = t.kids.length := by omega
      have HX2 : Hid (xs.map Prod.snd = mvL x y t.kids) := Lib.hid (by have h := HX.out; rwa [hii, List.take_length] at h)
      obtain ⟨Ax, cp, rfl, hkl⟩ := HW.out.shut
      have HKL := Lib.hid hkl
      obtain ⟨c0, c1, c2, c3, c4, c5, c6, c7⟩ := c8_lift (w' := wr) (fun j v (hv : wk.cell? ⟨w.heap.size, j, none⟩ = some v) => (hbk.cell (p := ⟨w.heap.size, j, none⟩) (by show w.heap.size < _; omega)).trans hv) HT.out.1 HT.out.2.1 HT.out.2.2.1 HT.out.2.2.2.1 HT.out.2.2.2.2.1 HT.out.2.2.2.2.2.1 HT.out.2.2.2.2.2.2.1 HT.out.2.2.2.2.2.2.2
      obtain ⟨r0, r1, r2, r3, r4, r5, r6, r7⟩ := c8_lift (w' := wr) (fun j v (hv : wk.cell? ⟨w.heap.size + 1 + 1, j, none⟩ = some v) => (hbk.cell (p := ⟨w.heap.size + 1 + 1, j, none⟩) (by show w.heap.size + 1 + 1 < _; omega)).trans hv) HR.out.1 HR.out.2.1 HR.out.2.2.1 HR.out.2.2.2.1 HR.out.2.2.2.2.1 HR.out.2.2.2.2.2.1 HR.out.2.2.2.2.2.2.1 HR.out.2.2.2.2.2.2.2
      obtain ⟨f0, f1, f2, f3, f4, f5, f6, f7⟩ := f8_lift (w' := wr) (fun j (hv : wk.frozen? ⟨w.heap.size + 1 + 1, j, none⟩ = false) => (hbk.frozen (p := ⟨w.heap.size + 1 + 1, j, none⟩) (by show w.heap.size + 1 + 1 < _; omega)).trans hv) HF.out.1 HF.out.2.1 HF.out.2.2.1 HF.out.2.2.2.1 HF.out.2.2.2.2.1 HF.out.2.2.2.2.2.1 HF.out.2.2.2.2.2.2.1 HF.out.2.2.2.2.2.2.2
      have g7 : wr.frozen? ⟨w.heap.size, 7, none⟩ = false := (hbk.frozen (p := ⟨w.heap.size, 7, none⟩) (by show w.heap.size < _; omega)).trans HG.out
      have hfin : Below w.heap.size w wr := HB.out.trans (hbk.mono (by omega))
      have hsw : w.heap.size ≤ wr.heap.size := hfin.size
      clear hbk HW HX hkl
      go_wp2_with fail
      refine bodyPost_ret (v := .agg #[.int .i64 (t.kind), .int .i64 (t.num), .int .i64 (u1), .int .i64 (u2), .int .i64 (u3), .int .i64 (u4), .string ⟨t.word.toArray⟩, .slice Ax t.kids.length cp]) (by simp [results, Tryd.results26, go_sem, r0, r1, r2, r3, r4, r5, r6, r7]) rfl ⟨⟨t.kind, t.num, u1, u2, u3, u4, ⟨t.word.toArray⟩, Ax, t.kids.length, cp⟩, rfl, ?_, by
        repeat' (first | with_reducible exact hfin | with_reducible refine Below.alloc ?_ (by first | omega | (simp <;> omega)) _ | with_reducible refine Below.setCell ?_ (by first | omega | (simp <;> omega)) _)⟩
      rw [HTV.out]
      refine ⟨Ax, cp, by simp [tv8, Tr.kind, Tr.num, Tr.c1, Tr.r1, Tr.c2, Tr.r2, Tr.word, Tr.kids, len_mv], KV.mk ?_⟩
      show mvL x y t.kids = [] ∨ _
      rw [← HX2.out]
      rcases HKL.out with h | ⟨g, o, e, hb, hl, hk⟩
      · exact .inl h
      · refine .inr ⟨g, o, e, by omega, Nat.lt_of_lt_of_le hl (Kept.size (P := fun b => wk.heap.size ≤ b) ?_), KL.imp (P := fun b => wk.heap.size ≤ b) (fun b hb => by have hb2 : wk.heap.size ≤ b := hb; omega) (KL.kept ?_ hb hk)⟩
        all_goals
          repeat' (first | with_reducible exact Kept.refl _ _ | with_reducible refine Kept.alloc ?_ _ | with_reducible refine Kept.set ?_ (.inl (by show ¬ wk.heap.size ≤ _; omega)) _ _)
theorem pmoved_any (x y : Int) (hx : B63 x) (hy : B63 y) : ∀ {t : Tr}, Wid t → cntT t ≤ 1000000 → PMvC 26 x y t := by
  intro t hW
  induction hW with
  | @mk k n c r d s w ks hl hk ih =>
    intro hc
    have hlen := cnt_kids (.mk k n c r d s w ks)
    have hi : ∀ u ∈ ks, PMvC 26 x y u := fun u hu => ih u hu (Nat.le_trans (cnt_mem (t := .mk k n c r d s w ks) hu) hc)
    cases hb : rdr (.mk k n c r d s w ks) with
    | false => exact pmoved_no x y hx hy _ (by omega) hi hb
    | true =>
      cases hm : (mvB (Tr.mk k n c r d s w ks).c1 (Tr.mk k n c r d s w ks).r1 x y && mvB (Tr.mk k n c r d s w ks).c2 (Tr.mk k n c r d s w ks).r2 x y) with
      | false => exact pmoved_out x y hx hy _ (by omega) hi hb hm
      | true => exact pmoved_in x y hx hy _ (by omega) hi hb hm
end Go.Proofs.YteflmfifhmlpiaaDoor
namespace Go.Proofs.YteflmfifhmlpiaaDoor
open Go.RowKit

theorem rangeGuard : Tryd.prog.eqGuardType Tryd.prog.depth 26 = false := by kernel_rfl
theorem rangeStood : Tryd.prog.stoodInHeld 26 = false := by kernel_rfl
theorem rangeStruct : Tryd.prog.underlying 26 = some (.struct (Tryd.prog.fieldsOf 26)) := by kernel_rfl
theorem guard_range (op : BinOp) (X Y : Operand) (xs ys : Array Value) (W : World) : (eqGuard op 26 X Y (.agg xs) (.agg ys)).run Tryd.prog W = .ok () W := run_eqGuard_agg W op 26 X Y xs ys rangeGuard
set_option maxHeartbeats 2000000 in
theorem eql_range (a b c d a' b' c' d' : Int) (W : World) : (binOp .eql 26 (.agg #[.int .i64 a, .int .i64 b, .int .i64 c, .int .i64 d]) (.agg #[.int .i64 a', .int .i64 b', .int .i64 c', .int .i64 d'])).run Tryd.prog W
    = .ok (.bool (a == a' && b == b' && (c == c' && d == d'))) W := by
  rw [run_eql_struct, run_equalIn_agg W 9999 26 _ _ rangeStruct rangeStood]
  by_cases h1 : a = a' <;> by_cases h2 : b = b' <;> by_cases h3 : c = c' <;> by_cases h4 : d = d' <;> simp [go_sem, h1, h2, h3, h4]
theorem tr_ext {t u : Tr} (h0 : t.kind = u.kind) (h1 : t.num = u.num) (h2 : t.c1 = u.c1) (h3 : t.r1 = u.r1) (h4 : t.c2 = u.c2) (h5 : t.r2 = u.r2) (h6 : t.word = u.word) (h7 : t.kids = u.kids) : t = u := by
  cases t; cases u
  simp only [Tr.kind, Tr.num, Tr.c1, Tr.r1, Tr.c2, Tr.r2, Tr.word, Tr.kids] at *
  subst h0 h1 h2 h3 h4 h5 h6 h7
  rfl
theorem take_eq {l m : List Tr} {i : Nat} {a b : Tr} (ha : l[i]? = some a) (hb : m[i]? = some b) (h : l.take i = m.take i) (e : a = b) : l.take (i + 1) = m.take (i + 1) := by
  rw [List.take_add_one, List.take_add_one, ha, hb, h, e]
set_option maxHeartbeats 2000000 in
theorem neq_range (a b c d a' b' c' d' : Int) (W : World) : (binOp .neq 26 (.agg #[.int .i64 a, .int .i64 b, .int .i64 c, .int .i64 d]) (.agg #[.int .i64 a', .int .i64 b', .int .i64 c', .int .i64 d'])).run Tryd.prog W
    = .ok (.bool (!(a == a' && b == b' && (c == c' && d == d')))) W := by
  rw [run_neq_struct, run_equalIn_agg W 9999 26 _ _ rangeStruct rangeStood]
  by_cases h1 : a = a' <;> by_cases h2 : b = b' <;> by_cases h3 : c = c' <;> by_cases h4 : d = d' <;> simp [go_sem, h1, h2, h3, h4]
end Go.Proofs.YteflmfifhmlpiaaDoor
