/- Texts joined: EwF, EwG. -/
import Derived.Test.YthaoalmhhgllmaaGreatDoorMb22
import Derived.Test.YthaoalmhhgllmaaGreatDoorMb07
import Derived.Test.YthaoalmhhgllmaaGreatDoorMb10
set_option linter.all false
namespace Go.Proofs.YthaoalmhhgllmaaGreatDoor
open Go.RowKit Go.Maps
def ClC (l : List Cel) (t : Tr) (f : FuncId) : Prop := ∀ (w : World) (P : Nat → Prop) (A : Option Addr) (cap b Bc Bk : Nat), KV w P t A → MapC w b l → w.cell? ⟨Bc, 0, none⟩ = some (.map (some b)) → w.cell? ⟨Bk, 0, none⟩ = some (.slice A t.kids.length cap) →
  Calls Tryz.prog f #[.pointer (some ⟨Bc, 0, none⟩), .pointer (some ⟨Bk, 0, none⟩)] w fun e w' => e = .returned (.agg #[.int .i64 (cmT l t).1, .int .i64 (cmT l t).2]) ∧ Below w.heap.size w w'
set_option maxHeartbeats 4000000 in
set_option maxRecDepth 100000 in
theorem cl_IF {l : List Cel} (t : Tr) (ge : GE t) (hc : ChC l t 55) : ClC l t 54 := by
  intro w P A cap b Bc Bk hk hm c0 c1
  have zc : Bc < w.heap.size := Lib.lt_of_cell c0
  have zk : Bk < w.heap.size := Lib.lt_of_cell c1
  have hlt := ge.len
  have hb0 : Below (w.heap.size + 1) (w.alloc (.cells #[.int .i64 0, .int .i64 0] 35)) (w.alloc (.cells #[.int .i64 0, .int .i64 0] 35)) := Below.refl _ _
  obtain ⟨⟨kr0, kr1, kf0, kf1⟩, kz0, kb⟩ := par2 hb0
  have HC := Lib.hid (hc _ P A cap b (hk.kept (Kept.of_below kb)) (hm.below kb))
  generalize cmT l t = X at *
  clear hk hm kr0 kr1 kf0 kf1
  go_enter Tryz.func54, Tryz.ntmps54
  go_wp2_with fail
  refine Calls.mono HC.out ?_; rintro e w1 ⟨rfl, b1⟩
  have hb1 := hb0.trans (b1.mono (by simp))
  obtain ⟨⟨mr0, mr1, mf0, mf1⟩, mz0, mb⟩ := par2 hb1
  clear b1 hb1 kb kz0 c0 c1
  go_wp2_with fail
  exact bodyPost_ret (v := .agg #[.int .i64 X.1, .int .i64 X.2]) (by simp [results, Tryz.results54, go_sem, mr0, mr1, mz0, mf0, mf1]) rfl ⟨rfl, (by repeat' (first | with_reducible assumption | exact Nat.le_succ _ | with_reducible exact Nat.le_refl _ | with_reducible refine Below.setCell ?_ ?_ _ | with_reducible refine Below.alloc ?_ ?_ _ | (simp; omega)))⟩
set_option maxHeartbeats 4000000 in
set_option maxRecDepth 100000 in
theorem cl_COUNT {l : List Cel} (t : Tr) (ge : GE t) (hc : ChC l t 64) : ClC l t 63 := by
  intro w P A cap b Bc Bk hk hm c0 c1
  have zc : Bc < w.heap.size := Lib.lt_of_cell c0
  have zk : Bk < w.heap.size := Lib.lt_of_cell c1
  have hlt := ge.len
  have hb0 : Below (w.heap.size + 1) (w.alloc (.cells #[.int .i64 0, .int .i64 0] 35)) (w.alloc (.cells #[.int .i64 0, .int .i64 0] 35)) := Below.refl _ _
  obtain ⟨⟨kr0, kr1, kf0, kf1⟩, kz0, kb⟩ := par2 hb0
  have HC := Lib.hid (hc _ P A cap b (hk.kept (Kept.of_below kb)) (hm.below kb))
  generalize cmT l t = X at *
  clear hk hm kr0 kr1 kf0 kf1
  go_enter Tryz.func63, Tryz.ntmps63
  go_wp2_with fail
  refine Calls.mono HC.out ?_; rintro e w1 ⟨rfl, b1⟩
  have hb1 := hb0.trans (b1.mono (by simp))
  obtain ⟨⟨mr0, mr1, mf0, mf1⟩, mz0, mb⟩ := par2 hb1
  clear b1 hb1 kb kz0 c0 c1
  go_wp2_with fail
  exact bodyPost_ret (v := .agg #[.int .i64 X.1, .int .i64 X.2]) (by simp [results, Tryz.results63, go_sem, mr0, mr1, mz0, mf0, mf1]) rfl ⟨rfl, (by repeat' (first | with_reducible assumption | exact Nat.le_succ _ | with_reducible exact Nat.le_refl _ | with_reducible refine Below.setCell ?_ ?_ _ | with_reducible refine Below.alloc ?_ ?_ _ | (simp; omega)))⟩
set_option maxHeartbeats 4000000 in
set_option maxRecDepth 100000 in
theorem cl_SUM {l : List Cel} (t : Tr) (ge : GE t) (hcb : ∀ q ∈ l, B64 q.n) (h5 : t.kind = 5) (hwd : t.word = [83, 85, 77]) (hi : EItC l t) : ClC l t 56 := by
  intro w P A cap b Bc Bk hk hm c0 c1
  have zc : Bc < w.heap.size := Lib.lt_of_cell c0
  have zk : Bk < w.heap.size := Lib.lt_of_cell c1
  have hlt := ge.len
  have hb0 : Below (w.heap.size + 1) (w.alloc (.cells #[.int .i64 0, .int .i64 0] 35)) (w.alloc (.cells #[.int .i64 0, .int .i64 0] 35)) := Below.refl _ _
  obtain ⟨⟨kr0, kr1, kf0, kf1⟩, kz0, kb⟩ := par2 hb0
  have HI := Lib.hid (hi _ P A cap b (hk.kept (Kept.of_below kb)) (hm.below kb))
  have HE : Hid (cmT l t = allV gAdd (0, 0) (itL l t.kids)) := Lib.hid (cm_sum h5 hwd)
  have hLb := Lib.hid (ge.itB hcb)
  have hLl := Lib.hid (ge.itLen l)
  clear h5 hwd hi hcb ge
  generalize itL l t.kids = L at *
  clear hk hm kr0 kr1 kf0 kf1
  go_enter Tryz.func56, Tryz.ntmps56
  go_wp2_with fail
  refine Calls.mono HI.out ?_; rintro e w1 ⟨v, rfl, hown, b1⟩
  obtain ⟨A2, cap2, rfl, hL⟩ := hown.shape
  have hb1 := hb0.trans (b1.mono (by simp))
  have HS := Lib.hid (usum_any L hLl.out hLb.out A2 cap2 w1 hL)
  have hll := hLl.out
  unfold maxLen at hll
  clear hown hL b1 kb kz0 HI c0 c1
  go_wp2_with fail
  refine Calls.mono HS.out ?_; rintro e w2 ⟨rfl, b2⟩
  have hb2 := hb1.trans (b2.mono (by have := hb1.size; simpa using this))
  obtain ⟨⟨nr0, nr1, nf0, nf1⟩, nz0, nb⟩ := par2 hb2
  clear b2 hb1 hb2
  go_wp2_with fail
  exact bodyPost_ret (v := .agg #[.int .i64 (allV gAdd (0, 0) L).1, .int .i64 (allV gAdd (0, 0) L).2]) (by simp [results, Tryz.results56, go_sem, nr0, nr1, nz0, nf0, nf1]) rfl ⟨by rw [HE.out], (by repeat' (first | with_reducible assumption | exact Nat.le_succ _ | with_reducible exact Nat.le_refl _ | with_reducible refine Below.setCell ?_ ?_ _ | with_reducible refine Below.alloc ?_ ?_ _ | (simp; omega)))⟩
set_option maxHeartbeats 4000000 in
set_option maxRecDepth 100000 in
theorem cl_MIN {l : List Cel} (t : Tr) (ge : GE t) (hcb : ∀ q ∈ l, B64 q.n) (h5 : t.kind = 5) (hwd : t.word = [77, 73, 78]) (hi : EItC l t) : ClC l t 59 := by
  intro w P A cap b Bc Bk hk hm c0 c1
  have zc : Bc < w.heap.size := Lib.lt_of_cell c0
  have zk : Bk < w.heap.size := Lib.lt_of_cell c1
  have hlt := ge.len
  have hb0 : Below (w.heap.size + 1) (w.alloc (.cells #[.int .i64 0, .int .i64 0] 35)) (w.alloc (.cells #[.int .i64 0, .int .i64 0] 35)) := Below.refl _ _
  obtain ⟨⟨kr0, kr1, kf0, kf1⟩, kz0, kb⟩ := par2 hb0
  have HI := Lib.hid (hi _ P A cap b (hk.kept (Kept.of_below kb)) (hm.below kb))
  have HE : Hid (cmT l t = mostV gLow (itL l t.kids)) := Lib.hid (cm_min h5 hwd)
  have hLb := Lib.hid (ge.itB hcb)
  have hLl := Lib.hid (ge.itLen l)
  clear h5 hwd hi hcb ge
  generalize itL l t.kids = L at *
  clear hk hm kr0 kr1 kf0 kf1
  go_enter Tryz.func59, Tryz.ntmps59
  go_wp2_with fail
  refine Calls.mono HI.out ?_; rintro e w1 ⟨v, rfl, hown, b1⟩
  obtain ⟨A2, cap2, rfl, hL⟩ := hown.shape
  have hb1 := hb0.trans (b1.mono (by simp))
  have HS := Lib.hid (uleast_any L hLl.out hLb.out A2 cap2 w1 hL)
  have hll := hLl.out
  unfold maxLen at hll
  clear hown hL b1 kb kz0 HI c0 c1
  go_wp2_with fail
  refine Calls.mono HS.out ?_; rintro e w2 ⟨rfl, b2⟩
  have hb2 := hb1.trans (b2.mono (by have := hb1.size; simpa using this))
  obtain ⟨⟨nr0, nr1, nf0, nf1⟩, nz0, nb⟩ := par2 hb2
  clear b2 hb1 hb2
  go_wp2_with fail
  exact bodyPost_ret (v := .agg #[.int .i64 (mostV gLow L).1, .int .i64 (mostV gLow L).2]) (by simp [results, Tryz.results59, go_sem, nr0, nr1, nz0, nf0, nf1]) rfl ⟨by rw [HE.out], (by repeat' (first | with_reducible assumption | exact Nat.le_succ _ | with_reducible exact Nat.le_refl _ | with_reducible refine Below.setCell ?_ ?_ _ | with_reducible refine Below.alloc ?_ ?_ _ | (simp; omega)))⟩
set_option maxHeartbeats 4000000 in
set_option maxRecDepth 100000 in
theorem cl_MAX {l : List Cel} (t : Tr) (ge : GE t) (hcb : ∀ q ∈ l, B64 q.n) (h5 : t.kind = 5) (hwd : t.word = [77, 65, 88]) (hi : EItC l t) : ClC l t 61 := by
  intro w P A cap b Bc Bk hk hm c0 c1
  have zc : Bc < w.heap.size := Lib.lt_of_cell c0
  have zk : Bk < w.heap.size := Lib.lt_of_cell c1
  have hlt := ge.len
  have hb0 : Below (w.heap.size + 1) (w.alloc (.cells #[.int .i64 0, .int .i64 0] 35)) (w.alloc (.cells #[.int .i64 0, .int .i64 0] 35)) := Below.refl _ _
  obtain ⟨⟨kr0, kr1, kf0, kf1⟩, kz0, kb⟩ := par2 hb0
  have HI := Lib.hid (hi _ P A cap b (hk.kept (Kept.of_below kb)) (hm.below kb))
  have HE : Hid (cmT l t = mostV gTop (itL l t.kids)) := Lib.hid (cm_max h5 hwd)
  have hLb := Lib.hid (ge.itB hcb)
  have hLl := Lib.hid (ge.itLen l)
  clear h5 hwd hi hcb ge
  generalize itL l t.kids = L at *
  clear hk hm kr0 kr1 kf0 kf1
  go_enter Tryz.func61, Tryz.ntmps61
  go_wp2_with fail
  refine Calls.mono HI.out ?_; rintro e w1 ⟨v, rfl, hown, b1⟩
  obtain ⟨A2, cap2, rfl, hL⟩ := hown.shape
  have hb1 := hb0.trans (b1.mono (by simp))
  have HS := Lib.hid (ugreatest_any L hLl.out hLb.out A2 cap2 w1 hL)
  have hll := hLl.out
  unfold maxLen at hll
  clear hown hL b1 kb kz0 HI c0 c1
  go_wp2_with fail
  refine Calls.mono HS.out ?_; rintro e w2 ⟨rfl, b2⟩
  have hb2 := hb1.trans (b2.mono (by have := hb1.size; simpa using this))
  obtain ⟨⟨nr0, nr1, nf0, nf1⟩, nz0, nb⟩ := par2 hb2
  clear b2 hb1 hb2
  go_wp2_with fail
  exact bodyPost_ret (v := .agg #[.int .i64 (mostV gTop L).1, .int .i64 (mostV gTop L).2]) (by simp [results, Tryz.results61, go_sem, nr0, nr1, nz0, nf0, nf1]) rfl ⟨by rw [HE.out], (by repeat' (first | with_reducible assumption | exact Nat.le_succ _ | with_reducible exact Nat.le_refl _ | with_reducible refine Below.setCell ?_ ?_ _ | with_reducible refine Below.alloc ?_ ?_ _ | (simp; omega)))⟩

noncomputable def capElem (cp : Array Value) (v : Value) : Option (DataW Unit × List MemPlace) := by
  classical
  exact match v with
  | .func (.func n) a b => if a = #[] ∧ b = cp then some (.lit (.int .i64 n), []) else none
  | .nilFunc => some (.nil, [])
  | _ => none
theorem capElem_mk (cp : Array Value) (n : Nat) : capElem cp (.func (.func n) #[] cp) = some (.lit (.int .i64 (n : Int)), []) := by
  unfold capElem; simp
theorem capElem_func {cp : Array Value} {v : Value} {n : Nat} {ps : List MemPlace} (h : capElem cp v = some (.lit (.int .i64 (n : Int)), ps)) : v = .func (.func n) #[] cp := by
  unfold capElem at h
  split at h
  · split at h
    · rename_i m a b hs
      have h1 := congrArg Prod.fst (Option.some.inj h)
      injection h1 with h2
      injection h2 with h3 h4
      have hm : m = n := Int.ofNat_inj.1 h4
      subst hm
      rw [hs.1, hs.2]
    · cases h
  · simp at h
  · cases h
theorem closZero (w : World) : (zeroValue 90).run Tryz.prog w = .ok .nilFunc w := by kernel_rfl
def ECallC (l : List Cel) (t : Tr) : Prop := ∀ (w : World) (P : Nat → Prop) (A : Option Addr) (cap b : Nat), KV w P t A → MapC w b l →
  Calls Tryz.prog 32 #[.map (some b), .string ⟨t.word.toArray⟩, .slice A t.kids.length cap] w fun e w' => e = .returned (.agg #[.int .i64 (cmT l t).1, .int .i64 (cmT l t).2]) ∧ Below w.heap.size w w'
set_option maxHeartbeats 4000000 in
set_option maxRecDepth 100000 in
theorem ecall_IF {l : List Cel} (t : Tr) (hlen : t.kids.length ≤ 1000000) (hwd : t.word = [73, 70]) (hc : ClC l t 54) : ECallC l t := by
  intro w P A cap b hk hm
  rw [hwd]
  have HC := Lib.hid hc
  have HK := Lib.hid hk
  have HM := Lib.hid hm
  have hmm := @run_makeMap Tryz.prog
  have hmf : ∀ (fn : Fn) (first cap : Array Value) (w : World), (Instr.makeFunc fn first cap).run Tryz.prog w = .ok (.func fn first cap) w := fun _ _ _ _ => rfl
  have hk0 : keyOf Tryz.prog 9 (.string ⟨#[73, 70]⟩) = some (.string [73, 70]) := WideMaps.keyOf_string_mk (P := Tryz.prog) Tryz.underlying9 (by show [73, 70].length ≤ maxLen; unfold maxLen; decide)
  have hk1 : keyOf Tryz.prog 9 (.string ⟨#[83, 85, 77]⟩) = some (.string [83, 85, 77]) := WideMaps.keyOf_string_mk (P := Tryz.prog) Tryz.underlying9 (by show [83, 85, 77].length ≤ maxLen; unfold maxLen; decide)
  have hk2 : keyOf Tryz.prog 9 (.string ⟨#[77, 73, 78]⟩) = some (.string [77, 73, 78]) := WideMaps.keyOf_string_mk (P := Tryz.prog) Tryz.underlying9 (by show [77, 73, 78].length ≤ maxLen; unfold maxLen; decide)
  have hk3 : keyOf Tryz.prog 9 (.string ⟨#[77, 65, 88]⟩) = some (.string [77, 65, 88]) := WideMaps.keyOf_string_mk (P := Tryz.prog) Tryz.underlying9 (by show [77, 65, 88].length ≤ maxLen; unfold maxLen; decide)
  have hk4 : keyOf Tryz.prog 9 (.string ⟨#[67, 79, 85, 78, 84]⟩) = some (.string [67, 79, 85, 78, 84]) := WideMaps.keyOf_string_mk (P := Tryz.prog) Tryz.underlying9 (by show [67, 79, 85, 78, 84].length ≤ maxLen; unfold maxLen; decide)
  obtain ⟨W3, hW3⟩ : ∃ W3, W3 = ((w.alloc (.cells #[.map (some b)] 52)).alloc (.cells #[.slice A t.kids.length cap] 27)).alloc (.cells #[.int .i64 0, .int .i64 0] 35) := ⟨_, rfl⟩
  have hs3 : W3.heap.size = w.heap.size + 1 + 1 + 1 := by rw [hW3]; simp
  have hown0 : (W3.alloc (.map #[] 0)).ownsMap Tryz.prog 9 (capElem #[.pointer (some ⟨w.heap.size, 0, none⟩), .pointer (some ⟨w.heap.size + 1, 0, none⟩)]) (w.heap.size + 1 + 1 + 1) 0 (.map []) := by rw [← hs3]; exact World.ownsMap_made W3 Tryz.prog 9 _
  have hb0 : Below (w.heap.size + 1 + 1 + 1) W3 (W3.alloc (.map #[] 0)) := by rw [← hs3]; exact (Below.refl _ _).alloc (Nat.le_refl _) _
  subst hW3
  obtain ⟨w1, hr1, hown1, hg1⟩ := hown0.update actLaw Tryz.underlying95 (by unfold maxLen; decide) hk0 (capElem_mk #[.pointer (some ⟨w.heap.size, 0, none⟩), .pointer (some ⟨w.heap.size + 1, 0, none⟩)] 54)
  have hb1 := hb0.grown hg1 (Nat.le_trans (by omega) hb0.size) (fun j hj => by cases hj; omega)
  obtain ⟨w2, hr2, hown2, hg2⟩ := hown1.update actLaw Tryz.underlying95 (by unfold maxLen; decide) hk1 (capElem_mk #[.pointer (some ⟨w.heap.size, 0, none⟩), .pointer (some ⟨w.heap.size + 1, 0, none⟩)] 56)
  have hb2 := hb1.grown hg2 (Nat.le_trans (by omega) hb1.size) (fun j hj => by cases hj; omega)
  obtain ⟨w3, hr3, hown3, hg3⟩ := hown2.update actLaw Tryz.underlying95 (by unfold maxLen; decide) hk2 (capElem_mk #[.pointer (some ⟨w.heap.size, 0, none⟩), .pointer (some ⟨w.heap.size + 1, 0, none⟩)] 59)
  have hb3 := hb2.grown hg3 (Nat.le_trans (by omega) hb2.size) (fun j hj => by cases hj; omega)
  obtain ⟨w4, hr4, hown4, hg4⟩ := hown3.update actLaw Tryz.underlying95 (by unfold maxLen; decide) hk3 (capElem_mk #[.pointer (some ⟨w.heap.size, 0, none⟩), .pointer (some ⟨w.heap.size + 1, 0, none⟩)] 61)
  have hb4 := hb3.grown hg4 (Nat.le_trans (by omega) hb3.size) (fun j hj => by cases hj; omega)
  obtain ⟨w5, hr5, hown5, hg5⟩ := hown4.update actLaw Tryz.underlying95 (by unfold maxLen; decide) hk4 (capElem_mk #[.pointer (some ⟨w.heap.size, 0, none⟩), .pointer (some ⟨w.heap.size + 1, 0, none⟩)] 63)
  have hb5 := hb4.grown hg5 (Nat.le_trans (by omega) hb4.size) (fun j hj => by cases hj; omega)
  obtain ⟨cv, cps, hr6, hcv⟩ := hown5.lookup actLaw Tryz.underlying95 (closZero w5) (zd := .nil) (zp := []) (by unfold capElem; rfl) hk0
  have hcv2 := capElem_func (n := 54) (ps := cps) hcv
  subst hcv2
  have hB5 := Lib.hid hb5
  clear hk hm hc hcv hown0 hown1 hown2 hown3 hown4 hown5 hg1 hg2 hg3 hg4 hg5 hb0 hb1 hb2 hb3 hb4 hb5
  go_enter Tryz.func32, Tryz.ntmps32
  go_wp2_with fail
  have hs5 := hB5.out.size
  simp at hs5
  have c0 : w5.cell? ⟨w.heap.size, 0, none⟩ = some (.map (some b)) := by rw [hB5.out.cell (by first | (simp; done) | (simp; omega))]; simp [go_sem]
  have c1 : w5.cell? ⟨w.heap.size + 1, 0, none⟩ = some (.slice A t.kids.length cap) := by rw [hB5.out.cell (by first | (simp; done) | (simp; omega))]; simp [go_sem]
  have hbw : Below w.heap.size w w5 := ((((Below.refl _ _).alloc (Nat.le_refl _) _).alloc (by simp) _).alloc (by simp; omega) _).trans (hB5.out.mono (by omega))
  refine Calls.mono (HC.out w5 P A cap b _ _ (HK.out.kept (Kept.of_below hbw)) (HM.out.below hbw) c0 c1) ?_; rintro e w6 ⟨rfl, b6⟩
  have hB6 := hB5.out.trans (b6.mono (by omega))
  have r0 : w6.cell? ⟨w.heap.size + 1 + 1, 0, none⟩ = some (.int .i64 0) := by rw [hB6.cell (by simp)]; simp [go_sem]
  have r1 : w6.cell? ⟨w.heap.size + 1 + 1, 1, none⟩ = some (.int .i64 0) := by rw [hB6.cell (by simp)]; simp [go_sem]
  have f0 : w6.frozen? ⟨w.heap.size + 1 + 1, 0, none⟩ = false := by rw [hB6.frozen (by simp)]; simp [go_sem]
  have f1 : w6.frozen? ⟨w.heap.size + 1 + 1, 1, none⟩ = false := by rw [hB6.frozen (by simp)]; simp [go_sem]
  have z2 : w.heap.size + 1 + 1 < w6.heap.size := by have := hB6.size; simp at this; omega
  have hb6 : Below w.heap.size w w6 := hbw.trans (b6.mono hbw.size)
  clear b6 hB6 hB5 hbw c0 c1 hr1 hr2 hr3 hr4 hr5 hr6 HC HK HM
  go_wp2_with fail
  exact bodyPost_ret (v := .agg #[.int .i64 (cmT l t).1, .int .i64 (cmT l t).2]) (by simp [results, Tryz.results32, go_sem, r0, r1, z2, f0, f1]) rfl ⟨rfl, (by repeat' (first | with_reducible exact hb6 | with_reducible refine Below.setCell ?_ ?_ _ | (show w.heap.size ≤ w.heap.size + 1 + 1; omega)))⟩
set_option maxHeartbeats 4000000 in
set_option maxRecDepth 100000 in
theorem ecall_SUM {l : List Cel} (t : Tr) (hlen : t.kids.length ≤ 1000000) (hwd : t.word = [83, 85, 77]) (hc : ClC l t 56) : ECallC l t := by
  intro w P A cap b hk hm
  rw [hwd]
  have HC := Lib.hid hc
  have HK := Lib.hid hk
  have HM := Lib.hid hm
  have hmm := @run_makeMap Tryz.prog
  have hmf : ∀ (fn : Fn) (first cap : Array Value) (w : World), (Instr.makeFunc fn first cap).run Tryz.prog w = .ok (.func fn first cap) w := fun _ _ _ _ => rfl
  have hk0 : keyOf Tryz.prog 9 (.string ⟨#[73, 70]⟩) = some (.string [73, 70]) := WideMaps.keyOf_string_mk (P := Tryz.prog) Tryz.underlying9 (by show [73, 70].length ≤ maxLen; unfold maxLen; decide)
  have hk1 : keyOf Tryz.prog 9 (.string ⟨#[83, 85, 77]⟩) = some (.string [83, 85, 77]) := WideMaps.keyOf_string_mk (P := Tryz.prog) Tryz.underlying9 (by show [83, 85, 77].length ≤ maxLen; unfold maxLen; decide)
  have hk2 : keyOf Tryz.prog 9 (.string ⟨#[77, 73, 78]⟩) = some (.string [77, 73, 78]) := WideMaps.keyOf_string_mk (P := Tryz.prog) Tryz.underlying9 (by show [77, 73, 78].length ≤ maxLen; unfold maxLen; decide)
  have hk3 : keyOf Tryz.prog 9 (.string ⟨#[77, 65, 88]⟩) = some (.string [77, 65, 88]) := WideMaps.keyOf_string_mk (P := Tryz.prog) Tryz.underlying9 (by show [77, 65, 88].length ≤ maxLen; unfold maxLen; decide)
  have hk4 : keyOf Tryz.prog 9 (.string ⟨#[67, 79, 85, 78, 84]⟩) = some (.string [67, 79, 85, 78, 84]) := WideMaps.keyOf_string_mk (P := Tryz.prog) Tryz.underlying9 (by show [67, 79, 85, 78, 84].length ≤ maxLen; unfold maxLen; decide)
  obtain ⟨W3, hW3⟩ : ∃ W3, W3 = ((w.alloc (.cells #[.map (some b)] 52)).alloc (.cells #[.slice A t.kids.length cap] 27)).alloc (.cells #[.int .i64 0, .int .i64 0] 35) := ⟨_, rfl⟩
  have hs3 : W3.heap.size = w.heap.size + 1 + 1 + 1 := by rw [hW3]; simp
  have hown0 : (W3.alloc (.map #[] 0)).ownsMap Tryz.prog 9 (capElem #[.pointer (some ⟨w.heap.size, 0, none⟩), .pointer (some ⟨w.heap.size + 1, 0, none⟩)]) (w.heap.size + 1 + 1 + 1) 0 (.map []) := by rw [← hs3]; exact World.ownsMap_made W3 Tryz.prog 9 _
  have hb0 : Below (w.heap.size + 1 + 1 + 1) W3 (W3.alloc (.map #[] 0)) := by rw [← hs3]; exact (Below.refl _ _).alloc (Nat.le_refl _) _
  subst hW3
  obtain ⟨w1, hr1, hown1, hg1⟩ := hown0.update actLaw Tryz.underlying95 (by unfold maxLen; decide) hk0 (capElem_mk #[.pointer (some ⟨w.heap.size, 0, none⟩), .pointer (some ⟨w.heap.size + 1, 0, none⟩)] 54)
  have hb1 := hb0.grown hg1 (Nat.le_trans (by omega) hb0.size) (fun j hj => by cases hj; omega)
  obtain ⟨w2, hr2, hown2, hg2⟩ := hown1.update actLaw Tryz.underlying95 (by unfold maxLen; decide) hk1 (capElem_mk #[.pointer (some ⟨w.heap.size, 0, none⟩), .pointer (some ⟨w.heap.size + 1, 0, none⟩)] 56)
  have hb2 := hb1.grown hg2 (Nat.le_trans (by omega) hb1.size) (fun j hj => by cases hj; omega)
  obtain ⟨w3, hr3, hown3, hg3⟩ := hown2.update actLaw Tryz.underlying95 (by unfold maxLen; decide) hk2 (capElem_mk #[.pointer (some ⟨w.heap.size, 0, none⟩), .pointer (some ⟨w.heap.size + 1, 0, none⟩)] 59)
  have hb3 := hb2.grown hg3 (Nat.le_trans (by omega) hb2.size) (fun j hj => by cases hj; omega)
  obtain ⟨w4, hr4, hown4, hg4⟩ := hown3.update actLaw Tryz.underlying95 (by unfold maxLen; decide) hk3 (capElem_mk #[.pointer (some ⟨w.heap.size, 0, none⟩), .pointer (some ⟨w.heap.size + 1, 0, none⟩)] 61)
  have hb4 := hb3.grown hg4 (Nat.le_trans (by omega) hb3.size) (fun j hj => by cases hj; omega)
  obtain ⟨w5, hr5, hown5, hg5⟩ := hown4.update actLaw Tryz.underlying95 (by unfold maxLen; decide) hk4 (capElem_mk #[.pointer (some ⟨w.heap.size, 0, none⟩), .pointer (some ⟨w.heap.size + 1, 0, none⟩)] 63)
  have hb5 := hb4.grown hg5 (Nat.le_trans (by omega) hb4.size) (fun j hj => by cases hj; omega)
  obtain ⟨cv, cps, hr6, hcv⟩ := hown5.lookup actLaw Tryz.underlying95 (closZero w5) (zd := .nil) (zp := []) (by unfold capElem; rfl) hk1
  have hcv2 := capElem_func (n := 56) (ps := cps) hcv
  subst hcv2
  have hB5 := Lib.hid hb5
  clear hk hm hc hcv hown0 hown1 hown2 hown3 hown4 hown5 hg1 hg2 hg3 hg4 hg5 hb0 hb1 hb2 hb3 hb4 hb5
  go_enter Tryz.func32, Tryz.ntmps32
  go_wp2_with fail
  have hs5 := hB5.out.size
  simp at hs5
  have c0 : w5.cell? ⟨w.heap.size, 0, none⟩ = some (.map (some b)) := by rw [hB5.out.cell (by first | (simp; done) | (simp; omega))]; simp [go_sem]
  have c1 : w5.cell? ⟨w.heap.size + 1, 0, none⟩ = some (.slice A t.kids.length cap) := by rw [hB5.out.cell (by first | (simp; done) | (simp; omega))]; simp [go_sem]
  have hbw : Below w.heap.size w w5 := ((((Below.refl _ _).alloc (Nat.le_refl _) _).alloc (by simp) _).alloc (by simp; omega) _).trans (hB5.out.mono (by omega))
  refine Calls.mono (HC.out w5 P A cap b _ _ (HK.out.kept (Kept.of_below hbw)) (HM.out.below hbw) c0 c1) ?_; rintro e w6 ⟨rfl, b6⟩
  have hB6 := hB5.out.trans (b6.mono (by omega))
  have r0 : w6.cell? ⟨w.heap.size + 1 + 1, 0, none⟩ = some (.int .i64 0) := by rw [hB6.cell (by simp)]; simp [go_sem]
  have r1 : w6.cell? ⟨w.heap.size + 1 + 1, 1, none⟩ = some (.int .i64 0) := by rw [hB6.cell (by simp)]; simp [go_sem]
  have f0 : w6.frozen? ⟨w.heap.size + 1 + 1, 0, none⟩ = false := by rw [hB6.frozen (by simp)]; simp [go_sem]
  have f1 : w6.frozen? ⟨w.heap.size + 1 + 1, 1, none⟩ = false := by rw [hB6.frozen (by simp)]; simp [go_sem]
  have z2 : w.heap.size + 1 + 1 < w6.heap.size := by have := hB6.size; simp at this; omega
  have hb6 : Below w.heap.size w w6 := hbw.trans (b6.mono hbw.size)
  clear b6 hB6 hB5 hbw c0 c1 hr1 hr2 hr3 hr4 hr5 hr6 HC HK HM
  go_wp2_with fail
  exact bodyPost_ret (v := .agg #[.int .i64 (cmT l t).1, .int .i64 (cmT l t).2]) (by simp [results, Tryz.results32, go_sem, r0, r1, z2, f0, f1]) rfl ⟨rfl, (by repeat' (first | with_reducible exact hb6 | with_reducible refine Below.setCell ?_ ?_ _ | (show w.heap.size ≤ w.heap.size + 1 + 1; omega)))⟩
set_option maxHeartbeats 4000000 in
set_option maxRecDepth 100000 in
theorem ecall_MIN {l : List Cel} (t : Tr) (hlen : t.kids.length ≤ 1000000) (hwd : t.word = [77, 73, 78]) (hc : ClC l t 59) : ECallC l t := by
  intro w P A cap b hk hm
  rw [hwd]
  have HC := Lib.hid hc
  have HK := Lib.hid hk
  have HM := Lib.hid hm
  have hmm := @run_makeMap Tryz.prog
  have hmf : ∀ (fn : Fn) (first cap : Array Value) (w : World), (Instr.makeFunc fn first cap).run Tryz.prog w = .ok (.func fn first cap) w := fun _ _ _ _ => rfl
  have hk0 : keyOf Tryz.prog 9 (.string ⟨#[73, 70]⟩) = some (.string [73, 70]) := WideMaps.keyOf_string_mk (P := Tryz.prog) Tryz.underlying9 (by show [73, 70].length ≤ maxLen; unfold maxLen; decide)
  have hk1 : keyOf Tryz.prog 9 (.string ⟨#[83, 85, 77]⟩) = some (.string [83, 85, 77]) := WideMaps.keyOf_string_mk (P := Tryz.prog) Tryz.underlying9 (by show [83, 85, 77].length ≤ maxLen; unfold maxLen; decide)
  have hk2 : keyOf Tryz.prog 9 (.string ⟨#[77, 73, 78]⟩) = some (.string [77, 73, 78]) := WideMaps.keyOf_string_mk (P := Tryz.prog) Tryz.underlying9 (by show [77, 73, 78].length ≤ maxLen; unfold maxLen; decide)
  have hk3 : keyOf Tryz.prog 9 (.string ⟨#[77, 65, 88]⟩) = some (.string [77, 65, 88]) := WideMaps.keyOf_string_mk (P := Tryz.prog) Tryz.underlying9 (by show [77, 65, 88].length ≤ maxLen; unfold maxLen; decide)
  have hk4 : keyOf Tryz.prog 9 (.string ⟨#[67, 79, 85, 78, 84]⟩) = some (.string [67, 79, 85, 78, 84]) := WideMaps.keyOf_string_mk (P := Tryz.prog) Tryz.underlying9 (by show [67, 79, 85, 78, 84].length ≤ maxLen; unfold maxLen; decide)
  obtain ⟨W3, hW3⟩ : ∃ W3, W3 = ((w.alloc (.cells #[.map (some b)] 52)).alloc (.cells #[.slice A t.kids.length cap] 27)).alloc (.cells #[.int .i64 0, .int .i64 0] 35) := ⟨_, rfl⟩
  have hs3 : W3.heap.size = w.heap.size + 1 + 1 + 1 := by rw [hW3]; simp
  have hown0 : (W3.alloc (.map #[] 0)).ownsMap Tryz.prog 9 (capElem #[.pointer (some ⟨w.heap.size, 0, none⟩), .pointer (some ⟨w.heap.size + 1, 0, none⟩)]) (w.heap.size + 1 + 1 + 1) 0 (.map []) := by rw [← hs3]; exact World.ownsMap_made W3 Tryz.prog 9 _
  have hb0 : Below (w.heap.size + 1 + 1 + 1) W3 (W3.alloc (.map #[] 0)) := by rw [← hs3]; exact (Below.refl _ _).alloc (Nat.le_refl _) _
  subst hW3
  obtain ⟨w1, hr1, hown1, hg1⟩ := hown0.update actLaw Tryz.underlying95 (by unfold maxLen; decide) hk0 (capElem_mk #[.pointer (some ⟨w.heap.size, 0, none⟩), .pointer (some ⟨w.heap.size + 1, 0, none⟩)] 54)
  have hb1 := hb0.grown hg1 (Nat.le_trans (by omega) hb0.size) (fun j hj => by cases hj; omega)
  obtain ⟨w2, hr2, hown2, hg2⟩ := hown1.update actLaw Tryz.underlying95 (by unfold maxLen; decide) hk1 (capElem_mk #[.pointer (some ⟨w.heap.size, 0, none⟩), .pointer (some ⟨w.heap.size + 1, 0, none⟩)] 56)
  have hb2 := hb1.grown hg2 (Nat.le_trans (by omega) hb1.size) (fun j hj => by cases hj; omega)
  obtain ⟨w3, hr3, hown3, hg3⟩ := hown2.update actLaw Tryz.underlying95 (by unfold maxLen; decide) hk2 (capElem_mk #[.pointer (some ⟨w.heap.size, 0, none⟩), .pointer (some ⟨w.heap.size + 1, 0, none⟩)] 59)
  have hb3 := hb2.grown hg3 (Nat.le_trans (by omega) hb2.size) (fun j hj => by cases hj; omega)
  obtain ⟨w4, hr4, hown4, hg4⟩ := hown3.update actLaw Tryz.underlying95 (by unfold maxLen; decide) hk3 (capElem_mk #[.pointer (some ⟨w.heap.size, 0, none⟩), .pointer (some ⟨w.heap.size + 1, 0, none⟩)] 61)
  have hb4 := hb3.grown hg4 (Nat.le_trans (by omega) hb3.size) (fun j hj => by cases hj; omega)
  obtain ⟨w5, hr5, hown5, hg5⟩ := hown4.update actLaw Tryz.underlying95 (by unfold maxLen; decide) hk4 (capElem_mk #[.pointer (some ⟨w.heap.size, 0, none⟩), .pointer (some ⟨w.heap.size + 1, 0, none⟩)] 63)
  have hb5 := hb4.grown hg5 (Nat.le_trans (by omega) hb4.size) (fun j hj => by cases hj; omega)
  obtain ⟨cv, cps, hr6, hcv⟩ := hown5.lookup actLaw Tryz.underlying95 (closZero w5) (zd := .nil) (zp := []) (by unfold capElem; rfl) hk2
  have hcv2 := capElem_func (n := 59) (ps := cps) hcv
  subst hcv2
  have hB5 := Lib.hid hb5
  clear hk hm hc hcv hown0 hown1 hown2 hown3 hown4 hown5 hg1 hg2 hg3 hg4 hg5 hb0 hb1 hb2 hb3 hb4 hb5
  go_enter Tryz.func32, Tryz.ntmps32
  go_wp2_with fail
  have hs5 := hB5.out.size
  simp at hs5
  have c0 : w5.cell? ⟨w.heap.size, 0, none⟩ = some (.map (some b)) := by rw [hB5.out.cell (by first | (simp; done) | (simp; omega))]; simp [go_sem]
  have c1 : w5.cell? ⟨w.heap.size + 1, 0, none⟩ = some (.slice A t.kids.length cap) := by rw [hB5.out.cell (by first | (simp; done) | (simp; omega))]; simp [go_sem]
  have hbw : Below w.heap.size w w5 := ((((Below.refl _ _).alloc (Nat.le_refl _) _).alloc (by simp) _).alloc (by simp; omega) _).trans (hB5.out.mono (by omega))
  refine Calls.mono (HC.out w5 P A cap b _ _ (HK.out.kept (Kept.of_below hbw)) (HM.out.below hbw) c0 c1) ?_; rintro e w6 ⟨rfl, b6⟩
  have hB6 := hB5.out.trans (b6.mono (by omega))
  have r0 : w6.cell? ⟨w.heap.size + 1 + 1, 0, none⟩ = some (.int .i64 0) := by rw [hB6.cell (by simp)]; simp [go_sem]
  have r1 : w6.cell? ⟨w.heap.size + 1 + 1, 1, none⟩ = some (.int .i64 0) := by rw [hB6.cell (by simp)]; simp [go_sem]
  have f0 : w6.frozen? ⟨w.heap.size + 1 + 1, 0, none⟩ = false := by rw [hB6.frozen (by simp)]; simp [go_sem]
  have f1 : w6.frozen? ⟨w.heap.size + 1 + 1, 1, none⟩ = false := by rw [hB6.frozen (by simp)]; simp [go_sem]
  have z2 : w.heap.size + 1 + 1 < w6.heap.size := by have := hB6.size; simp at this; omega
  have hb6 : Below w.heap.size w w6 := hbw.trans (b6.mono hbw.size)
  clear b6 hB6 hB5 hbw c0 c1 hr1 hr2 hr3 hr4 hr5 hr6 HC HK HM
  go_wp2_with fail
  exact bodyPost_ret (v := .agg #[.int .i64 (cmT l t).1, .int .i64 (cmT l t).2]) (by simp [results, Tryz.results32, go_sem, r0, r1, z2, f0, f1]) rfl ⟨rfl, (by repeat' (first | with_reducible exact hb6 | with_reducible refine Below.setCell ?_ ?_ _ | (show w.heap.size ≤ w.heap.size + 1 + 1; omega)))⟩
set_option maxHeartbeats 4000000 in
set_option maxRecDepth 100000 in
theorem ecall_MAX {l : List Cel} (t : Tr) (hlen : t.kids.length ≤ 1000000) (hwd : t.word = [77, 65, 88]) (hc : ClC l t 61) : ECallC l t := by
  intro w P A cap b hk hm
  rw [hwd]
  have HC := Lib.hid hc
  have HK := Lib.hid hk
  have HM := Lib.hid hm
  have hmm := @run_makeMap Tryz.prog
  have hmf : ∀ (fn : Fn) (first cap : Array Value) (w : World), (Instr.makeFunc fn first cap).run Tryz.prog w = .ok (.func fn first cap) w := fun _ _ _ _ => rfl
  have hk0 : keyOf Tryz.prog 9 (.string ⟨#[73, 70]⟩) = some (.string [73, 70]) := WideMaps.keyOf_string_mk (P := Tryz.prog) Tryz.underlying9 (by show [73, 70].length ≤ maxLen; unfold maxLen; decide)
  have hk1 : keyOf Tryz.prog 9 (.string ⟨#[83, 85, 77]⟩) = some (.string [83, 85, 77]) := WideMaps.keyOf_string_mk (P := Tryz.prog) Tryz.underlying9 (by show [83, 85, 77].length ≤ maxLen; unfold maxLen; decide)
  have hk2 : keyOf Tryz.prog 9 (.string ⟨#[77, 73, 78]⟩) = some (.string [77, 73, 78]) := WideMaps.keyOf_string_mk (P := Tryz.prog) Tryz.underlying9 (by show [77, 73, 78].length ≤ maxLen; unfold maxLen; decide)
  have hk3 : keyOf Tryz.prog 9 (.string ⟨#[77, 65, 88]⟩) = some (.string [77, 65, 88]) := WideMaps.keyOf_string_mk (P := Tryz.prog) Tryz.underlying9 (by show [77, 65, 88].length ≤ maxLen; unfold maxLen; decide)
  have hk4 : keyOf Tryz.prog 9 (.string ⟨#[67, 79, 85, 78, 84]⟩) = some (.string [67, 79, 85, 78, 84]) := WideMaps.keyOf_string_mk (P := Tryz.prog) Tryz.underlying9 (by show [67, 79, 85, 78, 84].length ≤ maxLen; unfold maxLen; decide)
  obtain ⟨W3, hW3⟩ : ∃ W3, W3 = ((w.alloc (.cells #[.map (some b)] 52)).alloc (.cells #[.slice A t.kids.length cap] 27)).alloc (.cells #[.int .i64 0, .int .i64 0] 35) := ⟨_, rfl⟩
  have hs3 : W3.heap.size = w.heap.size + 1 + 1 + 1 := by rw [hW3]; simp
  have hown0 : (W3.alloc (.map #[] 0)).ownsMap Tryz.prog 9 (capElem #[.pointer (some ⟨w.heap.size, 0, none⟩), .pointer (some ⟨w.heap.size + 1, 0, none⟩)]) (w.heap.size + 1 + 1 + 1) 0 (.map []) := by rw [← hs3]; exact World.ownsMap_made W3 Tryz.prog 9 _
  have hb0 : Below (w.heap.size + 1 + 1 + 1) W3 (W3.alloc (.map #[] 0)) := by rw [← hs3]; exact (Below.refl _ _).alloc (Nat.le_refl _) _
  subst hW3
  obtain ⟨w1, hr1, hown1, hg1⟩ := hown0.update actLaw Tryz.underlying95 (by unfold maxLen; decide) hk0 (capElem_mk #[.pointer (some ⟨w.heap.size, 0, none⟩), .pointer (some ⟨w.heap.size + 1, 0, none⟩)] 54)
  have hb1 := hb0.grown hg1 (Nat.le_trans (by omega) hb0.size) (fun j hj => by cases hj; omega)
  obtain ⟨w2, hr2, hown2, hg2⟩ := hown1.update actLaw Tryz.underlying95 (by unfold maxLen; decide) hk1 (capElem_mk #[.pointer (some ⟨w.heap.size, 0, none⟩), .pointer (some ⟨w.heap.size + 1, 0, none⟩)] 56)
  have hb2 := hb1.grown hg2 (Nat.le_trans (by omega) hb1.size) (fun j hj => by cases hj; omega)
  obtain ⟨w3, hr3, hown3, hg3⟩ := hown2.update actLaw Tryz.underlying95 (by unfold maxLen; decide) hk2 (capElem_mk #[.pointer (some ⟨w.heap.size, 0, none⟩), .pointer (some ⟨w.heap.size + 1, 0, none⟩)] 59)
  have hb3 := hb2.grown hg3 (Nat.le_trans (by omega) hb2.size) (fun j hj => by cases hj; omega)
  obtain ⟨w4, hr4, hown4, hg4⟩ := hown3.update actLaw Tryz.underlying95 (by unfold maxLen; decide) hk3 (capElem_mk #[.pointer (some ⟨w.heap.size, 0, none⟩), .pointer (some ⟨w.heap.size + 1, 0, none⟩)] 61)
  have hb4 := hb3.grown hg4 (Nat.le_trans (by omega) hb3.size) (fun j hj => by cases hj; omega)
  obtain ⟨w5, hr5, hown5, hg5⟩ := hown4.update actLaw Tryz.underlying95 (by unfold maxLen; decide) hk4 (capElem_mk #[.pointer (some ⟨w.heap.size, 0, none⟩), .pointer (some ⟨w.heap.size + 1, 0, none⟩)] 63)
  have hb5 := hb4.grown hg5 (Nat.le_trans (by omega) hb4.size) (fun j hj => by cases hj; omega)
  obtain ⟨cv, cps, hr6, hcv⟩ := hown5.lookup actLaw Tryz.underlying95 (closZero w5) (zd := .nil) (zp := []) (by unfold capElem; rfl) hk3
  have hcv2 := capElem_func (n := 61) (ps := cps) hcv
  subst hcv2
  have hB5 := Lib.hid hb5
  clear hk hm hc hcv hown0 hown1 hown2 hown3 hown4 hown5 hg1 hg2 hg3 hg4 hg5 hb0 hb1 hb2 hb3 hb4 hb5
  go_enter Tryz.func32, Tryz.ntmps32
  go_wp2_with fail
  have hs5 := hB5.out.size
  simp at hs5
  have c0 : w5.cell? ⟨w.heap.size, 0, none⟩ = some (.map (some b)) := by rw [hB5.out.cell (by first | (simp; done) | (simp; omega))]; simp [go_sem]
  have c1 : w5.cell? ⟨w.heap.size + 1, 0, none⟩ = some (.slice A t.kids.length cap) := by rw [hB5.out.cell (by first | (simp; done) | (simp; omega))]; simp [go_sem]
  have hbw : Below w.heap.size w w5 := ((((Below.refl _ _).alloc (Nat.le_refl _) _).alloc (by simp) _).alloc (by simp; omega) _).trans (hB5.out.mono (by omega))
  refine Calls.mono (HC.out w5 P A cap b _ _ (HK.out.kept (Kept.of_below hbw)) (HM.out.below hbw) c0 c1) ?_; rintro e w6 ⟨rfl, b6⟩
  have hB6 := hB5.out.trans (b6.mono (by omega))
  have r0 : w6.cell? ⟨w.heap.size + 1 + 1, 0, none⟩ = some (.int .i64 0) := by rw [hB6.cell (by simp)]; simp [go_sem]
  have r1 : w6.cell? ⟨w.heap.size + 1 + 1, 1, none⟩ = some (.int .i64 0) := by rw [hB6.cell (by simp)]; simp [go_sem]
  have f0 : w6.frozen? ⟨w.heap.size + 1 + 1, 0, none⟩ = false := by rw [hB6.frozen (by simp)]; simp [go_sem]
  have f1 : w6.frozen? ⟨w.heap.size + 1 + 1, 1, none⟩ = false := by rw [hB6.frozen (by simp)]; simp [go_sem]
  have z2 : w.heap.size + 1 + 1 < w6.heap.size := by have := hB6.size; simp at this; omega
  have hb6 : Below w.heap.size w w6 := hbw.trans (b6.mono hbw.size)
  clear b6 hB6 hB5 hbw c0 c1 hr1 hr2 hr3 hr4 hr5 hr6 HC HK HM
  go_wp2_with fail
  exact bodyPost_ret (v := .agg #[.int .i64 (cmT l t).1, .int .i64 (cmT l t).2]) (by simp [results, Tryz.results32, go_sem, r0, r1, z2, f0, f1]) rfl ⟨rfl, (by repeat' (first | with_reducible exact hb6 | with_reducible refine Below.setCell ?_ ?_ _ | (show w.heap.size ≤ w.heap.size + 1 + 1; omega)))⟩
set_option maxHeartbeats 4000000 in
set_option maxRecDepth 100000 in
theorem ecall_COUNT {l : List Cel} (t : Tr) (hlen : t.kids.length ≤ 1000000) (hwd : t.word = [67, 79, 85, 78, 84]) (hc : ClC l t 63) : ECallC l t := by
  intro w P A cap b hk hm
  rw [hwd]
  have HC := Lib.hid hc
  have HK := Lib.hid hk
  have HM := Lib.hid hm
  have hmm := @run_makeMap Tryz.prog
  have hmf : ∀ (fn : Fn) (first cap : Array Value) (w : World), (Instr.makeFunc fn first cap).run Tryz.prog w = .ok (.func fn first cap) w := fun _ _ _ _ => rfl
  have hk0 : keyOf Tryz.prog 9 (.string ⟨#[73, 70]⟩) = some (.string [73, 70]) := WideMaps.keyOf_string_mk (P := Tryz.prog) Tryz.underlying9 (by show [73, 70].length ≤ maxLen; unfold maxLen; decide)
  have hk1 : keyOf Tryz.prog 9 (.string ⟨#[83, 85, 77]⟩) = some (.string [83, 85, 77]) := WideMaps.keyOf_string_mk (P := Tryz.prog) Tryz.underlying9 (by show [83, 85, 77].length ≤ maxLen; unfold maxLen; decide)
  have hk2 : keyOf Tryz.prog 9 (.string ⟨#[77, 73, 78]⟩) = some (.string [77, 73, 78]) := WideMaps.keyOf_string_mk (P := Tryz.prog) Tryz.underlying9 (by show [77, 73, 78].length ≤ maxLen; unfold maxLen; decide)
  have hk3 : keyOf Tryz.prog 9 (.string ⟨#[77, 65, 88]⟩) = some (.string [77, 65, 88]) := WideMaps.keyOf_string_mk (P := Tryz.prog) Tryz.underlying9 (by show [77, 65, 88].length ≤ maxLen; unfold maxLen; decide)
  have hk4 : keyOf Tryz.prog 9 (.string ⟨#[67, 79, 85, 78, 84]⟩) = some (.string [67, 79, 85, 78, 84]) := WideMaps.keyOf_string_mk (P := Tryz.prog) Tryz.underlying9 (by show [67, 79, 85, 78, 84].length ≤ maxLen; unfold maxLen; decide)
  obtain ⟨W3, hW3⟩ : ∃ W3, W3 = ((w.alloc (.cells #[.map (some b)] 52)).alloc (.cells #[.slice A t.kids.length cap] 27)).alloc (.cells #[.int .i64 0, .int .i64 0] 35) := ⟨_, rfl⟩
  have hs3 : W3.heap.size = w.heap.size + 1 + 1 + 1 := by rw [hW3]; simp
  have hown0 : (W3.alloc (.map #[] 0)).ownsMap Tryz.prog 9 (capElem #[.pointer (some ⟨w.heap.size, 0, none⟩), .pointer (some ⟨w.heap.size + 1, 0, none⟩)]) (w.heap.size + 1 + 1 + 1) 0 (.map []) := by rw [← hs3]; exact World.ownsMap_made W3 Tryz.prog 9 _
  have hb0 : Below (w.heap.size + 1 + 1 + 1) W3 (W3.alloc (.map #[] 0)) := by rw [← hs3]; exact (Below.refl _ _).alloc (Nat.le_refl _) _
  subst hW3
  obtain ⟨w1, hr1, hown1, hg1⟩ := hown0.update actLaw Tryz.underlying95 (by unfold maxLen; decide) hk0 (capElem_mk #[.pointer (some ⟨w.heap.size, 0, none⟩), .pointer (some ⟨w.heap.size + 1, 0, none⟩)] 54)
  have hb1 := hb0.grown hg1 (Nat.le_trans (by omega) hb0.size) (fun j hj => by cases hj; omega)
  obtain ⟨w2, hr2, hown2, hg2⟩ := hown1.update actLaw Tryz.underlying95 (by unfold maxLen; decide) hk1 (capElem_mk #[.pointer (some ⟨w.heap.size, 0, none⟩), .pointer (some ⟨w.heap.size + 1, 0, none⟩)] 56)
  have hb2 := hb1.grown hg2 (Nat.le_trans (by omega) hb1.size) (fun j hj => by cases hj; omega)
  obtain ⟨w3, hr3, hown3, hg3⟩ := hown2.update actLaw Tryz.underlying95 (by unfold maxLen; decide) hk2 (capElem_mk #[.pointer (some ⟨w.heap.size, 0, none⟩), .pointer (some ⟨w.heap.size + 1, 0, none⟩)] 59)
  have hb3 := hb2.grown hg3 (Nat.le_trans (by omega) hb2.size) (fun j hj => by cases hj; omega)
  obtain ⟨w4, hr4, hown4, hg4⟩ := hown3.update actLaw Tryz.underlying95 (by unfold maxLen; decide) hk3 (capElem_mk #[.pointer (some ⟨w.heap.size, 0, none⟩), .pointer (some ⟨w.heap.size + 1, 0, none⟩)] 61)
  have hb4 := hb3.grown hg4 (Nat.le_trans (by omega) hb3.size) (fun j hj => by cases hj; omega)
  obtain ⟨w5, hr5, hown5, hg5⟩ := hown4.update actLaw Tryz.underlying95 (by unfold maxLen; decide) hk4 (capElem_mk #[.pointer (some ⟨w.heap.size, 0, none⟩), .pointer (some ⟨w.heap.size + 1, 0, none⟩)] 63)
  have hb5 := hb4.grown hg5 (Nat.le_trans (by omega) hb4.size) (fun j hj => by cases hj; omega)
  obtain ⟨cv, cps, hr6, hcv⟩ := hown5.lookup actLaw Tryz.underlying95 (closZero w5) (zd := .nil) (zp := []) (by unfold capElem; rfl) hk4
  have hcv2 := capElem_func (n := 63) (ps := cps) hcv
  subst hcv2
  have hB5 := Lib.hid hb5
  clear hk hm hc hcv hown0 hown1 hown2 hown3 hown4 hown5 hg1 hg2 hg3 hg4 hg5 hb0 hb1 hb2 hb3 hb4 hb5
  go_enter Tryz.func32, Tryz.ntmps32
  go_wp2_with fail
  have hs5 := hB5.out.size
  simp at hs5
  have c0 : w5.cell? ⟨w.heap.size, 0, none⟩ = some (.map (some b)) := by rw [hB5.out.cell (by first | (simp; done) | (simp; omega))]; simp [go_sem]
  have c1 : w5.cell? ⟨w.heap.size + 1, 0, none⟩ = some (.slice A t.kids.length cap) := by rw [hB5.out.cell (by first | (simp; done) | (simp; omega))]; simp [go_sem]
  have hbw : Below w.heap.size w w5 := ((((Below.refl _ _).alloc (Nat.le_refl _) _).alloc (by simp) _).alloc (by simp; omega) _).trans (hB5.out.mono (by omega))
  refine Calls.mono (HC.out w5 P A cap b _ _ (HK.out.kept (Kept.of_below hbw)) (HM.out.below hbw) c0 c1) ?_; rintro e w6 ⟨rfl, b6⟩
  have hB6 := hB5.out.trans (b6.mono (by omega))
  have r0 : w6.cell? ⟨w.heap.size + 1 + 1, 0, none⟩ = some (.int .i64 0) := by rw [hB6.cell (by simp)]; simp [go_sem]
  have r1 : w6.cell? ⟨w.heap.size + 1 + 1, 1, none⟩ = some (.int .i64 0) := by rw [hB6.cell (by simp)]; simp [go_sem]
  have f0 : w6.frozen? ⟨w.heap.size + 1 + 1, 0, none⟩ = false := by rw [hB6.frozen (by simp)]; simp [go_sem]
  have f1 : w6.frozen? ⟨w.heap.size + 1 + 1, 1, none⟩ = false := by rw [hB6.frozen (by simp)]; simp [go_sem]
  have z2 : w.heap.size + 1 + 1 < w6.heap.size := by have := hB6.size; simp at this; omega
  have hb6 : Below w.heap.size w w6 := hbw.trans (b6.mono hbw.size)
  clear b6 hB6 hB5 hbw c0 c1 hr1 hr2 hr3 hr4 hr5 hr6 HC HK HM
  go_wp2_with fail
  exact bodyPost_ret (v := .agg #[.int .i64 (cmT l t).1, .int .i64 (cmT l t).2]) (by simp [results, Tryz.results32, go_sem, r0, r1, z2, f0, f1]) rfl ⟨rfl, (by repeat' (first | with_reducible exact hb6 | with_reducible refine Below.setCell ?_ ?_ _ | (show w.heap.size ≤ w.heap.size + 1 + 1; omega)))⟩
end Go.Proofs.YthaoalmhhgllmaaGreatDoor
namespace Go.Proofs.YthaoalmhhgllmaaGreatDoor
open Go.RowKit
theorem fresh_drew {W w1 : World} {ob : Obj} (b : Below (W.alloc ob).drew.heap.size (W.alloc ob).drew w1) : Below (W.alloc ob).heap.size (W.alloc ob) w1 := ((Below.refl _ _).drew).trans b
set_option maxHeartbeats 4000000 in
set_option maxRecDepth 10000 in
theorem rk_0 {l : List Cel} (t : Tr) (hlen : t.kids.length ≤ 1000000) (h : t.kind = 0) : RecC l t := by
  intro w P A cap B hk hm
  have HE : Hid (cmT l t = (t.num, 0)) := Lib.hid (cm_num h)
  have s0 : (t.kind == 0) = true := by rw [h]; rfl
  have s1 : (t.kind == 1) = false := by rw [h]; rfl
  have s3 : (t.kind == 3) = false := by rw [h]; rfl
  have s4 : (t.kind == 4) = false := by rw [h]; rfl
  have s5 : (t.kind == 5) = false := by rw [h]; rfl
  have hb0 : Below (w.heap.size + 1 + 1) ((w.alloc (.cells #[.int .i64 t.kind, .int .i64 t.num, .int .i64 t.c1, .int .i64 t.r1, .int .i64 t.c2, .int .i64 t.r2, .string ⟨t.word.toArray⟩, .slice A t.kids.length cap] 29)).alloc (.cells #[.int .i64 0, .int .i64 0] 35)) ((w.alloc (.cells #[.int .i64 t.kind, .int .i64 t.num, .int .i64 t.c1, .int .i64 t.r1, .int .i64 t.c2, .int .i64 t.r2, .string ⟨t.word.toArray⟩, .slice A t.kids.length cap] 29)).alloc (.cells #[.int .i64 0, .int .i64 0] 35)) := Below.refl _ _
  obtain ⟨⟨k0, k1, k2, k3, k4, k5, k6, k7⟩, ⟨kr0, kr1, kf0, kf1⟩, kz0, kz1, kb⟩ := par8 hb0
  clear h
  clear k0 k1 k2 k3 k4 k5 k6 k7 kr0 kr1 kf0 kf1 kb kz0 kz1 hb0 hk hm
  go_enter Tryz.func18, Tryz.ntmps18
  go_wp2_with fail
  exact bodyPost_ret (v := .agg #[.int .i64 t.num, .int .i64 0]) (by simp [results, Tryz.results18, go_sem]) rfl ⟨by rw [HE.out], (((Below.refl _ _).alloc (Nat.le_refl _) _).alloc (by simp) _)⟩
set_option maxHeartbeats 4000000 in
set_option maxRecDepth 10000 in
theorem rk_no {l : List Cel} (t : Tr) (hlen : t.kids.length ≤ 1000000) (n0 : t.kind ≠ 0) (n1 : t.kind ≠ 1) (n3 : t.kind ≠ 3) (n4 : t.kind ≠ 4) (n5 : t.kind ≠ 5) (h : t.kind = 2 ∨ t.kind = 6) : RecC l t := by
  intro w P A cap B hk hm
  have HE : Hid (cmT l t = (0, 3)) := Lib.hid (cm_bad h)
  have s0 : (t.kind == 0) = false := by rw [beq_eq_false_iff_ne]; exact n0
  have s1 : (t.kind == 1) = false := by rw [beq_eq_false_iff_ne]; exact n1
  have s3 : (t.kind == 3) = false := by rw [beq_eq_false_iff_ne]; exact n3
  have s4 : (t.kind == 4) = false := by rw [beq_eq_false_iff_ne]; exact n4
  have s5 : (t.kind == 5) = false := by rw [beq_eq_false_iff_ne]; exact n5
  have hb0 : Below (w.heap.size + 1 + 1) ((w.alloc (.cells #[.int .i64 t.kind, .int .i64 t.num, .int .i64 t.c1, .int .i64 t.r1, .int .i64 t.c2, .int .i64 t.r2, .string ⟨t.word.toArray⟩, .slice A t.kids.length cap] 29)).alloc (.cells #[.int .i64 0, .int .i64 0] 35)) ((w.alloc (.cells #[.int .i64 t.kind, .int .i64 t.num, .int .i64 t.c1, .int .i64 t.r1, .int .i64 t.c2, .int .i64 t.r2, .string ⟨t.word.toArray⟩, .slice A t.kids.length cap] 29)).alloc (.cells #[.int .i64 0, .int .i64 0] 35)) := Below.refl _ _
  obtain ⟨⟨k0, k1, k2, k3, k4, k5, k6, k7⟩, ⟨kr0, kr1, kf0, kf1⟩, kz0, kz1, kb⟩ := par8 hb0
  clear h n0 n1 n3 n4 n5
  clear k0 k1 k2 k3 k4 k5 k6 k7 kr0 kr1 kf0 kf1 kb kz0 kz1 hb0 hk hm
  go_enter Tryz.func18, Tryz.ntmps18
  go_wp2_with fail
  exact bodyPost_ret (v := .agg #[.int .i64 0, .int .i64 3]) (by simp [results, Tryz.results18, go_sem]) rfl ⟨by rw [HE.out], (((Below.refl _ _).alloc (Nat.le_refl _) _).alloc (by simp) _)⟩
set_option maxHeartbeats 4000000 in
set_option maxRecDepth 10000 in
theorem rk_1 {l : List Cel} (t : Tr) (hlen : t.kids.length ≤ 1000000) (h : t.kind = 1) (hp : B64 t.c1 ∧ B64 t.r1) : RecC l t := by
  intro w P A cap B hk hm
  have HE : Hid (cmT l t = (oN (cAt t.c1 t.r1 l), oF (cAt t.c1 t.r1 l))) := Lib.hid (cm_read h)
  have s0 : (t.kind == 0) = false := by rw [h]; rfl
  have s1 : (t.kind == 1) = true := by rw [h]; rfl
  have s3 : (t.kind == 3) = false := by rw [h]; rfl
  have s4 : (t.kind == 4) = false := by rw [h]; rfl
  have s5 : (t.kind == 5) = false := by rw [h]; rfl
  have hb0 : Below (w.heap.size + 1 + 1) ((w.alloc (.cells #[.int .i64 t.kind, .int .i64 t.num, .int .i64 t.c1, .int .i64 t.r1, .int .i64 t.c2, .int .i64 t.r2, .string ⟨t.word.toArray⟩, .slice A t.kids.length cap] 29)).alloc (.cells #[.int .i64 0, .int .i64 0] 35)) ((w.alloc (.cells #[.int .i64 t.kind, .int .i64 t.num, .int .i64 t.c1, .int .i64 t.r1, .int .i64 t.c2, .int .i64 t.r2, .string ⟨t.word.toArray⟩, .slice A t.kids.length cap] 29)).alloc (.cells #[.int .i64 0, .int .i64 0] 35)) := Below.refl _ _
  obtain ⟨⟨k0, k1, k2, k3, k4, k5, k6, k7⟩, ⟨kr0, kr1, kf0, kf1⟩, kz0, kz1, kb⟩ := par8 hb0
  have HM := Lib.hid (hm.below kb)
  have HP := Lib.hid hp
  obtain ⟨X, hX⟩ : ∃ X, oN (cAt t.c1 t.r1 l) = X := ⟨_, rfl⟩
  obtain ⟨Y, hY⟩ : ∃ Y, oF (cAt t.c1 t.r1 l) = Y := ⟨_, rfl⟩
  have HXY := Lib.hid (And.intro hX hY)
  rw [hX, hY] at HE
  clear h hp hX hY
  clear k0 k1 k2 k3 k4 k5 k6 k7 kr0 kr1 kf0 kf1 kb kz0 kz1 hb0 hk hm
  go_enter Tryz.func18, Tryz.ntmps18
  go_wp2_with (at_lookup; refine wpList_cells _ rfl _ _ rfl rfl HM.out HP.out.1 HP.out.2 rfl HXY.out.1 HXY.out.2 ?_)
  exact bodyPost_ret (v := .agg #[.int .i64 X, .int .i64 Y]) (by simp [results, Tryz.results18, go_sem]) rfl ⟨by rw [HE.out], (((Below.refl _ _).alloc (Nat.le_refl _) _).alloc (by simp) _)⟩
set_option maxHeartbeats 4000000 in
set_option maxRecDepth 10000 in
theorem rk_3 {l : List Cel} (t a : Tr) (hlen : t.kids.length ≤ 1000000) (h : t.kind = 3) (h0 : t.kids[0]? = some a) (ih : RecC l a) (hb : B64 (cmT l a).1) : RecC l t := by
  intro w P A cap B hk hm
  have HE : Hid (cmT l t = (doNum [45] 0 0 (cmT l a).1 (cmT l a).2, doFault [45] 0 0 (cmT l a).1 (cmT l a).2)) := Lib.hid (cm_neg h h0)
  have s0 : (t.kind == 0) = false := by rw [h]; rfl
  have s1 : (t.kind == 1) = false := by rw [h]; rfl
  have s3 : (t.kind == 3) = true := by rw [h]; rfl
  have s4 : (t.kind == 4) = false := by rw [h]; rfl
  have s5 : (t.kind == 5) = false := by rw [h]; rfl
  obtain ⟨g, o, rfl⟩ := hk.addr h0
  have HK := Lib.hid hk
  have Ha := Lib.hid h0
  have l0 : 0 < t.kids.length := (List.getElem?_eq_some_iff.1 h0).1
  have HN := Lib.hid (fun w => uneg_any (cmT l a).1 (cmT l a).2 hb w)
  have hb0 : Below (w.heap.size + 1 + 1) ((w.alloc (.cells #[.int .i64 t.kind, .int .i64 t.num, .int .i64 t.c1, .int .i64 t.r1, .int .i64 t.c2, .int .i64 t.r2, .string ⟨t.word.toArray⟩, .slice (some ⟨g, o, none⟩) t.kids.length cap] 29)).alloc (.cells #[.int .i64 0, .int .i64 0] 35)) ((w.alloc (.cells #[.int .i64 t.kind, .int .i64 t.num, .int .i64 t.c1, .int .i64 t.r1, .int .i64 t.c2, .int .i64 t.r2, .string ⟨t.word.toArray⟩, .slice (some ⟨g, o, none⟩) t.kids.length cap] 29)).alloc (.cells #[.int .i64 0, .int .i64 0] 35)) := Below.refl _ _
  obtain ⟨⟨k0, k1, k2, k3, k4, k5, k6, k7⟩, ⟨kr0, kr1, kf0, kf1⟩, kz0, kz1, kb⟩ := par8 hb0
  obtain ⟨hga, Aa, ca, ⟨q0, q1, q2, q3, q4, q5, q6, q7⟩, hka⟩ := HK.out.kidAt kb Ha.out
  simp only [Nat.zero_mul, Nat.add_zero] at q0 q1 q2 q3 q4 q5 q6 q7
  have HC0 := Lib.hid (ih _ _ Aa ca B hka (hm.below kb))
  clear hk hm h h0 ih hb hka hga kb kz0 kz1 k0 k1 k2 k3 k4 k5 k6 k7 kr0 kr1 kf0 kf1
  generalize doNum [45] 0 0 (cmT l a).1 (cmT l a).2 = X at *
  generalize doFault [45] 0 0 (cmT l a).1 (cmT l a).2 = Y at *
  go_enter Tryz.func18, Tryz.ntmps18
  go_wp2_with fail
  refine Calls.mono HC0.out ?_; rintro e w1 ⟨rfl, b1⟩
  have hb1 := hb0.trans (b1.mono (by simp))
  clear b1 q0 q1 q2 q3 q4 q5 q6 q7
  go_wp2_with fail
  refine Calls.mono (HN.out _) ?_; rintro e w2 ⟨rfl, b2⟩
  have hb2 := hb1.trans (b2.mono (by have := hb1.size; simpa using this))
  obtain ⟨⟨n0, n1, n2, n3, n4, n5, n6, n7⟩, ⟨nr0, nr1, nf0, nf1⟩, nz0, nz1, nb⟩ := par8 hb2
  clear b2 hb1 hb2 n0 n1 n2 n3 n4 n5 n6 n7 nz0
  go_wp2_with fail
  exact bodyPost_ret (v := .agg #[.int .i64 X, .int .i64 Y]) (by simp [results, Tryz.results18, go_sem, nr0, nr1, nz1, nf0, nf1]) rfl ⟨by rw [HE.out], (by repeat' (first | with_reducible assumption | exact Nat.le_succ _ | with_reducible exact Nat.le_refl _ | with_reducible refine Below.setCell ?_ ?_ _ | with_reducible refine Below.alloc ?_ ?_ _ | (simp; omega)))⟩
set_option maxHeartbeats 4000000 in
set_option maxRecDepth 10000 in
theorem rk_5 {l : List Cel} (t : Tr) (hlen : t.kids.length ≤ 1000000) (h : t.kind = 5) (ih : ECallC l t) : RecC l t := by
  intro w P A cap B hk hm
  have s0 : (t.kind == 0) = false := by rw [h]; rfl
  have s1 : (t.kind == 1) = false := by rw [h]; rfl
  have s3 : (t.kind == 3) = false := by rw [h]; rfl
  have s4 : (t.kind == 4) = false := by rw [h]; rfl
  have s5 : (t.kind == 5) = true := by rw [h]; rfl
  have hb0 : Below (w.heap.size + 1 + 1) ((w.alloc (.cells #[.int .i64 t.kind, .int .i64 t.num, .int .i64 t.c1, .int .i64 t.r1, .int .i64 t.c2, .int .i64 t.r2, .string ⟨t.word.toArray⟩, .slice A t.kids.length cap] 29)).alloc (.cells #[.int .i64 0, .int .i64 0] 35)) ((w.alloc (.cells #[.int .i64 t.kind, .int .i64 t.num, .int .i64 t.c1, .int .i64 t.r1, .int .i64 t.c2, .int .i64 t.r2, .string ⟨t.word.toArray⟩, .slice A t.kids.length cap] 29)).alloc (.cells #[.int .i64 0, .int .i64 0] 35)) := Below.refl _ _
  obtain ⟨⟨k0, k1, k2, k3, k4, k5, k6, k7⟩, ⟨kr0, kr1, kf0, kf1⟩, kz0, kz1, kb⟩ := par8 hb0
  have HC0 := Lib.hid (ih _ P A cap B (hk.kept (Kept.of_below kb)) (hm.below kb))
  clear hk hm h ih kb kz0 kz1 k0 k1 k2 k3 k4 k5 k6 k7 kr0 kr1 kf0 kf1
  generalize cmT l t = X at *
  go_enter Tryz.func18, Tryz.ntmps18
  go_wp2_with fail
  refine Calls.mono HC0.out ?_; rintro e w1 ⟨rfl, b1⟩
  have hb1 := hb0.trans (b1.mono (by simp))
  obtain ⟨⟨m0, m1, m2, m3, m4, m5, m6, m7⟩, ⟨mr0, mr1, mf0, mf1⟩, mz0, mz1, mb⟩ := par8 hb1
  clear b1 hb1 m0 m1 m2 m3 m4 m5 m6 m7 mz0
  go_wp2_with fail
  exact bodyPost_ret (v := .agg #[.int .i64 X.1, .int .i64 X.2]) (by simp [results, Tryz.results18, go_sem, mr0, mr1, mz1, mf0, mf1]) rfl ⟨rfl, (by repeat' (first | with_reducible assumption | exact Nat.le_succ _ | with_reducible exact Nat.le_refl _ | with_reducible refine Below.setCell ?_ ?_ _ | with_reducible refine Below.alloc ?_ ?_ _ | (simp; omega)))⟩
end Go.Proofs.YthaoalmhhgllmaaGreatDoor
