/- Texts joined: RdN, AvA, SmA, SmB. -/
import Derived.Test.YtahdlijkohmdfaaGreatDoorMp21
import Derived.Test.YtahdlijkohmdfaaGreatDoorMp22
import Derived.Test.YtahdlijkohmdfaaGreatDoorMp25
import Derived.Test.YtahdlijkohmdfaaGreatDoorMp08
import Derived.Shelf.Abstract
set_option linter.all false
set_option linter.unusedVariables false
set_option linter.unusedSimpArgs false
namespace Go.Proofs.YtahdlijkohmdfaaGreatDoor
open Go.RowKit

structure EnvP (w : World) : Prop where
  l : EnvL w
  s : Strs w.heap.size w.heap.size w
theorem EnvP.below {w w' : World} (h : EnvP w) (hb : Below w.heap.size w w') : EnvP w' :=
  ⟨h.l.below hb, (h.s.keep fun _ _ _ hl hv => by rw [hb.cell hl]; exact hv).up hb.size hb.size⟩
theorem EnvP.strs {w w' : World} (h : EnvP w) (hb : Below w.heap.size w w') {base : Nat} (h1 : w.heap.size ≤ base) : Strs base base w' :=
  (h.s.keep fun _ _ _ hl hv => by rw [hb.cell hl]; exact hv).up h1 h1
theorem scan_any (s : ByteArray) (hs : s.size ≤ 9223372036854775807) (w : World) (hE : EnvL w) : Calls Tryz.prog 17 #[.string s] w fun e w' => ∃ v, e = .returned (.tuple #[v, .int .i64 (ansP s.data.toList), .int .i64 (ansE s.data.toList)]) ∧
    w'.ownsRow w.heap.size 61 6 v (ansL s.data.toList).length (toksC (ansL s.data.toList)) ∧ Below w.heap.size w w' := by
  by_cases h : s.size ≤ 300
  · exact scanC s h w hE
  · have hl : 200 < s.data.toList.length := by rw [len_of]; omega
    have e1 : ansL s.data.toList = [] := if_pos hl
    have e2 : ansP s.data.toList = 0 := if_pos hl
    have e3 : ansE s.data.toList = 3 := if_pos hl
    exact (uscan_long s (by omega) (by omega) w).mono fun e w' ⟨he, hw⟩ => ⟨.slice none 0 0, by rw [he, e2, e3], by rw [e1]; exact World.ownsRow_nil _ _ _ _, hw ▸ Below.refl _ _⟩
def PostS (w : World) : PRes → Ending → World → Prop
  | .good t, e, w' => (∃ x : V8, e = .returned (.tuple #[x.val, .int .i64 0, .int .i64 0]) ∧ TV w' (fun b => w.heap.size ≤ b) x (some t)) ∧ Below w.heap.size w w'
  | .fail a c, e, w' => e = .returned (.tuple #[.agg #[.int .i64 0, .int .i64 0, .int .i64 0, .int .i64 0, .int .i64 0, .int .i64 0, .string ⟨#[]⟩, .slice none 0 0], .int .i64 a, .int .i64 c]) ∧ Below w.heap.size w w'
set_option maxHeartbeats 2000000 in
set_option maxRecDepth 10000 in
theorem sparse_err (s : ByteArray) (hs : s.size ≤ 9223372036854775807) (w : World) (hE : EnvP w) {a c : Int} (h0 : (c != 0) = true) (h1 : ansP s.data.toList = a) (h2 : ansE s.data.toList = c) :
    Calls Tryz.prog 6 #[.string s] w (PostS w (.fail a c)) := by
  have HE := Lib.hid hE
  have HSc := Lib.hid (fun w hE => scan_any s hs w hE)
  clear hE
  rw [h1, h2] at HSc
  clear h1 h2
  go_enter Tryz.func6, Tryz.ntmps6
  go_wp2_with fail
  refine (HSc.out _ (HE.out.l.below ((Below.refl _ _).alloc (Nat.le_refl _) _))).mono ?_; rintro e w1 ⟨v, rfl, hrow, b1⟩
  have k10 := keep_fresh b1 0 (v := .int .i64 0) rfl
  have f10 := fresh_frozen b1 0
  have k11 := keep_fresh b1 1 (v := .int .i64 0) rfl
  have f11 := fresh_frozen b1 1
  have k12 := keep_fresh b1 2 (v := .int .i64 0) rfl
  have f12 := fresh_frozen b1 2
  have k13 := keep_fresh b1 3 (v := .int .i64 0) rfl
  have f13 := fresh_frozen b1 3
  have k14 := keep_fresh b1 4 (v := .int .i64 0) rfl
  have f14 := fresh_frozen b1 4
  have k15 := keep_fresh b1 5 (v := .int .i64 0) rfl
  have f15 := fresh_frozen b1 5
  have k16 := keep_fresh b1 6 (v := .string ⟨#[]⟩) rfl
  have f16 := fresh_frozen b1 6
  have k17 := keep_fresh b1 7 (v := .slice none 0 0) rfl
  have f17 := fresh_frozen b1 7
  have h1 : Below w.heap.size w w1 := ((Below.refl _ _).alloc (Nat.le_refl _) _).trans (b1.mono (by simp))
  have z1 : w.heap.size < w1.heap.size := by have := b1.size; simp at this; omega
  have HRow : Hid (w1.ownsRow (w.heap.size + 1) 61 6 v (ansL s.data.toList).length (toksC (ansL s.data.toList))) := Lib.hid (by simpa using hrow)
  have HS1 := Lib.hid (HE.out.strs h1 (base := w.heap.size + 1) (by omega))
  clear hrow b1
  go_wp2_with fail
  exact bodyPost_ret (v := .tuple #[.agg #[.int .i64 0, .int .i64 0, .int .i64 0, .int .i64 0, .int .i64 0, .int .i64 0, .string ⟨#[]⟩, .slice none 0 0], .int .i64 a, .int .i64 c]) (by simp [results, Tryz.results6, go_sem, k10, k11, k12, k13, k14, k15, k16, k17]) rfl ⟨rfl, by
    with_reducible repeat' (first | exact h1 | refine Below.setCell ?_ (by exact Nat.le_refl w.heap.size) _)⟩
set_option maxHeartbeats 2000000 in
set_option maxRecDepth 10000 in
theorem sparse_form (s : ByteArray) (hs : s.size ≤ 9223372036854775807) (w : World) (hE : EnvP w) {a c : Int} (h0 : (c != 0) = true) (h2 : ansE s.data.toList = 0) (HF : ∀ (w1 : World) (v : Value), w.heap.size + 1 ≤ w1.heap.size → Strs (w.heap.size + 1) (w.heap.size + 1) w1 → w1.ownsRow (w.heap.size + 1) 61 6 v (ansL s.data.toList).length (toksC (ansL s.data.toList)) → Calls Tryz.prog 18 #[v, .int .i64 (s.size : Int)] w1 fun e w' => e = .returned (.tuple #[.agg #[.int .i64 0, .int .i64 0, .int .i64 0, .int .i64 0, .int .i64 0, .int .i64 0, .string ⟨#[]⟩, .slice none 0 0], .int .i64 a, .int .i64 c]) ∧ Below (w.heap.size + 1) w1 w') :
    Calls Tryz.prog 6 #[.string s] w (PostS w (.fail a c)) := by
  have HE := Lib.hid hE
  have HSc := Lib.hid (fun w hE => scan_any s hs w hE)
  clear hE
  rw [h2] at HSc
  have HFF := Lib.hid HF
  clear h2 HF
  go_enter Tryz.func6, Tryz.ntmps6
  go_wp2_with fail
  refine (HSc.out _ (HE.out.l.below ((Below.refl _ _).alloc (Nat.le_refl _) _))).mono ?_; rintro e w1 ⟨v, rfl, hrow, b1⟩
  have k10 := keep_fresh b1 0 (v := .int .i64 0) rfl
  have f10 := fresh_frozen b1 0
  have k11 := keep_fresh b1 1 (v := .int .i64 0) rfl
  have f11 := fresh_frozen b1 1
  have k12 := keep_fresh b1 2 (v := .int .i64 0) rfl
  have f12 := fresh_frozen b1 2
  have k13 := keep_fresh b1 3 (v := .int .i64 0) rfl
  have f13 := fresh_frozen b1 3
  have k14 := keep_fresh b1 4 (v := .int .i64 0) rfl
  have f14 := fresh_frozen b1 4
  have k15 := keep_fresh b1 5 (v := .int .i64 0) rfl
  have f15 := fresh_frozen b1 5
  have k16 := keep_fresh b1 6 (v := .string ⟨#[]⟩) rfl
  have f16 := fresh_frozen b1 6
  have k17 := keep_fresh b1 7 (v := .slice none 0 0) rfl
  have f17 := fresh_frozen b1 7
  have h1 : Below w.heap.size w w1 := ((Below.refl _ _).alloc (Nat.le_refl _) _).trans (b1.mono (by simp))
  have z1 : w.heap.size < w1.heap.size := by have := b1.size; simp at this; omega
  have HRow : Hid (w1.ownsRow (w.heap.size + 1) 61 6 v (ansL s.data.toList).length (toksC (ansL s.data.toList))) := Lib.hid (by simpa using hrow)
  have HS1 := Lib.hid (HE.out.strs h1 (base := w.heap.size + 1) (by omega))
  clear hrow b1
  go_wp2_with fail
  refine (HFF.out _ _ (by omega) HS1.out HRow.out).mono ?_; rintro e w2 ⟨rfl, b2⟩
  have k20 := (b2.cell (p := ⟨w.heap.size, 0, none⟩) (by show w.heap.size < w.heap.size + 1; omega)).trans k10
  have f20 := (b2.frozen (p := ⟨w.heap.size, 0, none⟩) (by show w.heap.size < w.heap.size + 1; omega)).trans f10
  have k21 := (b2.cell (p := ⟨w.heap.size, 1, none⟩) (by show w.heap.size < w.heap.size + 1; omega)).trans k11
  have f21 := (b2.frozen (p := ⟨w.heap.size, 1, none⟩) (by show w.heap.size < w.heap.size + 1; omega)).trans f11
  have k22 := (b2.cell (p := ⟨w.heap.size, 2, none⟩) (by show w.heap.size < w.heap.size + 1; omega)).trans k12
  have f22 := (b2.frozen (p := ⟨w.heap.size, 2, none⟩) (by show w.heap.size < w.heap.size + 1; omega)).trans f12
  have k23 := (b2.cell (p := ⟨w.heap.size, 3, none⟩) (by show w.heap.size < w.heap.size + 1; omega)).trans k13
  have f23 := (b2.frozen (p := ⟨w.heap.size, 3, none⟩) (by show w.heap.size < w.heap.size + 1; omega)).trans f13
  have k24 := (b2.cell (p := ⟨w.heap.size, 4, none⟩) (by show w.heap.size < w.heap.size + 1; omega)).trans k14
  have f24 := (b2.frozen (p := ⟨w.heap.size, 4, none⟩) (by show w.heap.size < w.heap.size + 1; omega)).trans f14
  have k25 := (b2.cell (p := ⟨w.heap.size, 5, none⟩) (by show w.heap.size < w.heap.size + 1; omega)).trans k15
  have f25 := (b2.frozen (p := ⟨w.heap.size, 5, none⟩) (by show w.heap.size < w.heap.size + 1; omega)).trans f15
  have k26 := (b2.cell (p := ⟨w.heap.size, 6, none⟩) (by show w.heap.size < w.heap.size + 1; omega)).trans k16
  have f26 := (b2.frozen (p := ⟨w.heap.size, 6, none⟩) (by show w.heap.size < w.heap.size + 1; omega)).trans f16
  have k27 := (b2.cell (p := ⟨w.heap.size, 7, none⟩) (by show w.heap.size < w.heap.size + 1; omega)).trans k17
  have f27 := (b2.frozen (p := ⟨w.heap.size, 7, none⟩) (by show w.heap.size < w.heap.size + 1; omega)).trans f17
  have h2 : Below w.heap.size w w2 := h1.trans (b2.mono (by omega))
  have z2 : w.heap.size < w2.heap.size := Nat.lt_of_lt_of_le z1 b2.size
  clear b2 HS1 HRow k10 f10 k11 f11 k12 f12 k13 f13 k14 f14 k15 f15 k16 f16 k17 f17
  go_wp2_with fail
  exact bodyPost_ret (v := .tuple #[.agg #[.int .i64 0, .int .i64 0, .int .i64 0, .int .i64 0, .int .i64 0, .int .i64 0, .string ⟨#[]⟩, .slice none 0 0], .int .i64 a, .int .i64 c]) (by simp [results, Tryz.results6, go_sem, k20, k21, k22, k23, k24, k25, k26, k27, z2]) rfl ⟨rfl, by
    with_reducible repeat' (first | exact h2 | refine Below.setCell ?_ (by exact Nat.le_refl w.heap.size) _ | refine Below.alloc ?_ (by first | omega | (simp; omega)) _)⟩
set_option maxHeartbeats 2000000 in
set_option maxRecDepth 10000 in
theorem sparse_deep (s : ByteArray) (hs : s.size ≤ 9223372036854775807) (w : World) (hE : EnvP w) (h2 : ansE s.data.toList = 0) {t : Tr} (hw : Wid t) (hd : deepT t ≤ 1000000000) (h16 : decide ((16 : Int) < (deepT t : Int)) = true) (HF : ∀ (w1 : World) (v : Value), w.heap.size + 1 ≤ w1.heap.size → Strs (w.heap.size + 1) (w.heap.size + 1) w1 → w1.ownsRow (w.heap.size + 1) 61 6 v (ansL s.data.toList).length (toksC (ansL s.data.toList)) → Calls Tryz.prog 18 #[v, .int .i64 (s.size : Int)] w1 fun e w' => (∃ x : V8, e = .returned (.tuple #[x.val, .int .i64 0, .int .i64 0]) ∧ TV w' (fun b => w.heap.size + 1 ≤ b) x (some t)) ∧ Below (w.heap.size + 1) w1 w') :
    Calls Tryz.prog 6 #[.string s] w (PostS w (.fail 0 6)) := by
  have HE := Lib.hid hE
  have HSc := Lib.hid (fun w hE => scan_any s hs w hE)
  clear hE
  rw [h2] at HSc
  have HFF := Lib.hid HF
  clear h2 HF
  go_enter Tryz.func6, Tryz.ntmps6
  go_wp2_with fail
  refine (HSc.out _ (HE.out.l.below ((Below.refl _ _).alloc (Nat.le_refl _) _))).mono ?_; rintro e w1 ⟨v, rfl, hrow, b1⟩
  have k10 := keep_fresh b1 0 (v := .int .i64 0) rfl
  have f10 := fresh_frozen b1 0
  have k11 := keep_fresh b1 1 (v := .int .i64 0) rfl
  have f11 := fresh_frozen b1 1
  have k12 := keep_fresh b1 2 (v := .int .i64 0) rfl
  have f12 := fresh_frozen b1 2
  have k13 := keep_fresh b1 3 (v := .int .i64 0) rfl
  have f13 := fresh_frozen b1 3
  have k14 := keep_fresh b1 4 (v := .int .i64 0) rfl
  have f14 := fresh_frozen b1 4
  have k15 := keep_fresh b1 5 (v := .int .i64 0) rfl
  have f15 := fresh_frozen b1 5
  have k16 := keep_fresh b1 6 (v := .string ⟨#[]⟩) rfl
  have f16 := fresh_frozen b1 6
  have k17 := keep_fresh b1 7 (v := .slice none 0 0) rfl
  have f17 := fresh_frozen b1 7
  have h1 : Below w.heap.size w w1 := ((Below.refl _ _).alloc (Nat.le_refl _) _).trans (b1.mono (by simp))
  have z1 : w.heap.size < w1.heap.size := by have := b1.size; simp at this; omega
  have HRow : Hid (w1.ownsRow (w.heap.size + 1) 61 6 v (ansL s.data.toList).length (toksC (ansL s.data.toList))) := Lib.hid (by simpa using hrow)
  have HS1 := Lib.hid (HE.out.strs h1 (base := w.heap.size + 1) (by omega))
  clear hrow b1
  go_wp2_with fail
  refine (HFF.out _ _ (by omega) HS1.out HRow.out).mono ?_; rintro e w2 ⟨⟨x, rfl, htv⟩, b2⟩
  obtain ⟨A, cp, rfl, hkv⟩ := htv
  have k20 := (b2.cell (p := ⟨w.heap.size, 0, none⟩) (by show w.heap.size < w.heap.size + 1; omega)).trans k10
  have f20 := (b2.frozen (p := ⟨w.heap.size, 0, none⟩) (by show w.heap.size < w.heap.size + 1; omega)).trans f10
  have k21 := (b2.cell (p := ⟨w.heap.size, 1, none⟩) (by show w.heap.size < w.heap.size + 1; omega)).trans k11
  have f21 := (b2.frozen (p := ⟨w.heap.size, 1, none⟩) (by show w.heap.size < w.heap.size + 1; omega)).trans f11
  have k22 := (b2.cell (p := ⟨w.heap.size, 2, none⟩) (by show w.heap.size < w.heap.size + 1; omega)).trans k12
  have f22 := (b2.frozen (p := ⟨w.heap.size, 2, none⟩) (by show w.heap.size < w.heap.size + 1; omega)).trans f12
  have k23 := (b2.cell (p := ⟨w.heap.size, 3, none⟩) (by show w.heap.size < w.heap.size + 1; omega)).trans k13
  have f23 := (b2.frozen (p := ⟨w.heap.size, 3, none⟩) (by show w.heap.size < w.heap.size + 1; omega)).trans f13
  have k24 := (b2.cell (p := ⟨w.heap.size, 4, none⟩) (by show w.heap.size < w.heap.size + 1; omega)).trans k14
  have f24 := (b2.frozen (p := ⟨w.heap.size, 4, none⟩) (by show w.heap.size < w.heap.size + 1; omega)).trans f14
  have k25 := (b2.cell (p := ⟨w.heap.size, 5, none⟩) (by show w.heap.size < w.heap.size + 1; omega)).trans k15
  have f25 := (b2.frozen (p := ⟨w.heap.size, 5, none⟩) (by show w.heap.size < w.heap.size + 1; omega)).trans f15
  have k26 := (b2.cell (p := ⟨w.heap.size, 6, none⟩) (by show w.heap.size < w.heap.size + 1; omega)).trans k16
  have f26 := (b2.frozen (p := ⟨w.heap.size, 6, none⟩) (by show w.heap.size < w.heap.size + 1; omega)).trans f16
  have k27 := (b2.cell (p := ⟨w.heap.size, 7, none⟩) (by show w.heap.size < w.heap.size + 1; omega)).trans k17
  have f27 := (b2.frozen (p := ⟨w.heap.size, 7, none⟩) (by show w.heap.size < w.heap.size + 1; omega)).trans f17
  have h2 : Below w.heap.size w w2 := h1.trans (b2.mono (by omega))
  have z2 : w.heap.size < w2.heap.size := Nat.lt_of_lt_of_le z1 b2.size
  clear b2 HS1 HRow k10 f10 k11 f11 k12 f12 k13 f13 k14 f14 k15 f15 k16 f16 k17 f17
  have HD := Lib.hid (fun ob => pdeep_any _ t (Nat.le_refl _) hd hw (w2.alloc ob) (fun b => w.heap.size + 1 ≤ b) A cp (hkv.kept (Kept.of_below ((Below.refl _ _).alloc (Nat.le_refl _) ob))))
  have HK := Lib.hid hkv
  clear hkv
  unfold tv at HD
  dsimp only [V8.val, tv8]
  go_wp2_with fail
  refine (HD.out _).mono ?_; rintro e w3 ⟨rfl, b3⟩
  have k30 := keep_cell b3 (kc_alloc k20 _)
  have f30 := keep_frozen b3 (by simp; omega) (kf_alloc f20 z2 _)
  have k31 := keep_cell b3 (kc_alloc k21 _)
  have f31 := keep_frozen b3 (by simp; omega) (kf_alloc f21 z2 _)
  have k32 := keep_cell b3 (kc_alloc k22 _)
  have f32 := keep_frozen b3 (by simp; omega) (kf_alloc f22 z2 _)
  have k33 := keep_cell b3 (kc_alloc k23 _)
  have f33 := keep_frozen b3 (by simp; omega) (kf_alloc f23 z2 _)
  have k34 := keep_cell b3 (kc_alloc k24 _)
  have f34 := keep_frozen b3 (by simp; omega) (kf_alloc f24 z2 _)
  have k35 := keep_cell b3 (kc_alloc k25 _)
  have f35 := keep_frozen b3 (by simp; omega) (kf_alloc f25 z2 _)
  have k36 := keep_cell b3 (kc_alloc k26 _)
  have f36 := keep_frozen b3 (by simp; omega) (kf_alloc f26 z2 _)
  have k37 := keep_cell b3 (kc_alloc k27 _)
  have f37 := keep_frozen b3 (by simp; omega) (kf_alloc f27 z2 _)
  have q30 := keep_fresh b3 0 (v := .int .i64 t.kind) rfl
  have q31 := keep_fresh b3 1 (v := .int .i64 t.num) rfl
  have q32 := keep_fresh b3 2 (v := .int .i64 t.c1) rfl
  have q33 := keep_fresh b3 3 (v := .int .i64 t.r1) rfl
  have q34 := keep_fresh b3 4 (v := .int .i64 t.c2) rfl
  have q35 := keep_fresh b3 5 (v := .int .i64 t.r2) rfl
  have q36 := keep_fresh b3 6 (v := .string ⟨t.word.toArray⟩) rfl
  have q37 := keep_fresh b3 7 (v := .slice A t.kids.length cp) rfl
  have h3 : Below w.heap.size w w3 := (h2.alloc (by omega) _).trans (b3.mono (by simp; omega))
  have z3 : w.heap.size < w3.heap.size := by have := b3.size; simp at this; omega
  have y3 : w2.heap.size < w3.heap.size := by have := b3.size; simp at this; omega
  have HK3 := Lib.hid (HK.out.kept (w' := w3) (Kept.of_below (((Below.refl _ _).alloc (Nat.le_refl _) _).trans (b3.mono (by simp)))))
  clear b3 k20 f20 k21 f21 k22 f22 k23 f23 k24 f24 k25 f25 k26 f26 k27 f27
  go_wp2_with fail
  exact bodyPost_ret (v := .tuple #[.agg #[.int .i64 0, .int .i64 0, .int .i64 0, .int .i64 0, .int .i64 0, .int .i64 0, .string ⟨#[]⟩, .slice none 0 0], .int .i64 0, .int .i64 6]) (by simp [results, Tryz.results6, go_sem, k30, q30, k31, q31, k32, q32, k33, q33, k34, q34, k35, q35, k36, q36, k37, q37, z3, y3]) rfl ⟨rfl, by
    with_reducible repeat' (first | exact h3 | refine Below.setCell ?_ (by exact Nat.le_refl w.heap.size) _ | refine Below.alloc ?_ (by first | omega | (simp; omega)) _)⟩
set_option maxHeartbeats 2000000 in
set_option maxRecDepth 10000 in
theorem sparse_good (s : ByteArray) (hs : s.size ≤ 9223372036854775807) (w : World) (hE : EnvP w) (h2 : ansE s.data.toList = 0) {t : Tr} (hw : Wid t) (hd : deepT t ≤ 1000000000) (h16 : decide ((16 : Int) < (deepT t : Int)) = false) (HF : ∀ (w1 : World) (v : Value), w.heap.size + 1 ≤ w1.heap.size → Strs (w.heap.size + 1) (w.heap.size + 1) w1 → w1.ownsRow (w.heap.size + 1) 61 6 v (ansL s.data.toList).length (toksC (ansL s.data.toList)) → Calls Tryz.prog 18 #[v, .int .i64 (s.size : Int)] w1 fun e w' => (∃ x : V8, e = .returned (.tuple #[x.val, .int .i64 0, .int .i64 0]) ∧ TV w' (fun b => w.heap.size + 1 ≤ b) x (some t)) ∧ Below (w.heap.size + 1) w1 w') :
    Calls Tryz.prog 6 #[.string s] w (PostS w (.good t)) := by
  have HE := Lib.hid hE
  have HSc := Lib.hid (fun w hE => scan_any s hs w hE)
  clear hE
  rw [h2] at HSc
  have HFF := Lib.hid HF
  clear h2 HF
  go_enter Tryz.func6, Tryz.ntmps6
  go_wp2_with fail
  refine (HSc.out _ (HE.out.l.below ((Below.refl _ _).alloc (Nat.le_refl _) _))).mono ?_; rintro e w1 ⟨v, rfl, hrow, b1⟩
  have k10 := keep_fresh b1 0 (v := .int .i64 0) rfl
  have f10 := fresh_frozen b1 0
  have k11 := keep_fresh b1 1 (v := .int .i64 0) rfl
  have f11 := fresh_frozen b1 1
  have k12 := keep_fresh b1 2 (v := .int .i64 0) rfl
  have f12 := fresh_frozen b1 2
  have k13 := keep_fresh b1 3 (v := .int .i64 0) rfl
  have f13 := fresh_frozen b1 3
  have k14 := keep_fresh b1 4 (v := .int .i64 0) rfl
  have f14 := fresh_frozen b1 4
  have k15 := keep_fresh b1 5 (v := .int .i64 0) rfl
  have f15 := fresh_frozen b1 5
  have k16 := keep_fresh b1 6 (v := .string ⟨#[]⟩) rfl
  have f16 := fresh_frozen b1 6
  have k17 := keep_fresh b1 7 (v := .slice none 0 0) rfl
  have f17 := fresh_frozen b1 7
  have h1 : Below w.heap.size w w1 := ((Below.refl _ _).alloc (Nat.le_refl _) _).trans (b1.mono (by simp))
  have z1 : w.heap.size < w1.heap.size := by have := b1.size; simp at this; omega
  have HRow : Hid (w1.ownsRow (w.heap.size + 1) 61 6 v (ansL s.data.toList).length (toksC (ansL s.data.toList))) := Lib.hid (by simpa using hrow)
  have HS1 := Lib.hid (HE.out.strs h1 (base := w.heap.size + 1) (by omega))
  clear hrow b1
  go_wp2_with fail
  refine (HFF.out _ _ (by omega) HS1.out HRow.out).mono ?_; rintro e w2 ⟨⟨x, rfl, htv⟩, b2⟩
  obtain ⟨A, cp, rfl, hkv⟩ := htv
  have k20 := (b2.cell (p := ⟨w.heap.size, 0, none⟩) (by show w.heap.size < w.heap.size + 1; omega)).trans k10
  have f20 := (b2.frozen (p := ⟨w.heap.size, 0, none⟩) (by show w.heap.size < w.heap.size + 1; omega)).trans f10
  have k21 := (b2.cell (p := ⟨w.heap.size, 1, none⟩) (by show w.heap.size < w.heap.size + 1; omega)).trans k11
  have f21 := (b2.frozen (p := ⟨w.heap.size, 1, none⟩) (by show w.heap.size < w.heap.size + 1; omega)).trans f11
  have k22 := (b2.cell (p := ⟨w.heap.size, 2, none⟩) (by show w.heap.size < w.heap.size + 1; omega)).trans k12
  have f22 := (b2.frozen (p := ⟨w.heap.size, 2, none⟩) (by show w.heap.size < w.heap.size + 1; omega)).trans f12
  have k23 := (b2.cell (p := ⟨w.heap.size, 3, none⟩) (by show w.heap.size < w.heap.size + 1; omega)).trans k13
  have f23 := (b2.frozen (p := ⟨w.heap.size, 3, none⟩) (by show w.heap.size < w.heap.size + 1; omega)).trans f13
  have k24 := (b2.cell (p := ⟨w.heap.size, 4, none⟩) (by show w.heap.size < w.heap.size + 1; omega)).trans k14
  have f24 := (b2.frozen (p := ⟨w.heap.size, 4, none⟩) (by show w.heap.size < w.heap.size + 1; omega)).trans f14
  have k25 := (b2.cell (p := ⟨w.heap.size, 5, none⟩) (by show w.heap.size < w.heap.size + 1; omega)).trans k15
  have f25 := (b2.frozen (p := ⟨w.heap.size, 5, none⟩) (by show w.heap.size < w.heap.size + 1; omega)).trans f15
  have k26 := (b2.cell (p := ⟨w.heap.size, 6, none⟩) (by show w.heap.size < w.heap.size + 1; omega)).trans k16
  have f26 := (b2.frozen (p := ⟨w.heap.size, 6, none⟩) (by show w.heap.size < w.heap.size + 1; omega)).trans f16
  have k27 := (b2.cell (p := ⟨w.heap.size, 7, none⟩) (by show w.heap.size < w.heap.size + 1; omega)).trans k17
  have f27 := (b2.frozen (p := ⟨w.heap.size, 7, none⟩) (by show w.heap.size < w.heap.size + 1; omega)).trans f17
  have h2 : Below w.heap.size w w2 := h1.trans (b2.mono (by omega))
  have z2 : w.heap.size < w2.heap.size := Nat.lt_of_lt_of_le z1 b2.size
  clear b2 HS1 HRow k10 f10 k11 f11 k12 f12 k13 f13 k14 f14 k15 f15 k16 f16 k17 f17
  have HD := Lib.hid (fun ob => pdeep_any _ t (Nat.le_refl _) hd hw (w2.alloc ob) (fun b => w.heap.size + 1 ≤ b) A cp (hkv.kept (Kept.of_below ((Below.refl _ _).alloc (Nat.le_refl _) ob))))
  have HK := Lib.hid hkv
  clear hkv
  unfold tv at HD
  dsimp only [V8.val, tv8]
  go_wp2_with fail
  refine (HD.out _).mono ?_; rintro e w3 ⟨rfl, b3⟩
  have k30 := keep_cell b3 (kc_alloc k20 _)
  have f30 := keep_frozen b3 (by simp; omega) (kf_alloc f20 z2 _)
  have k31 := keep_cell b3 (kc_alloc k21 _)
  have f31 := keep_frozen b3 (by simp; omega) (kf_alloc f21 z2 _)
  have k32 := keep_cell b3 (kc_alloc k22 _)
  have f32 := keep_frozen b3 (by simp; omega) (kf_alloc f22 z2 _)
  have k33 := keep_cell b3 (kc_alloc k23 _)
  have f33 := keep_frozen b3 (by simp; omega) (kf_alloc f23 z2 _)
  have k34 := keep_cell b3 (kc_alloc k24 _)
  have f34 := keep_frozen b3 (by simp; omega) (kf_alloc f24 z2 _)
  have k35 := keep_cell b3 (kc_alloc k25 _)
  have f35 := keep_frozen b3 (by simp; omega) (kf_alloc f25 z2 _)
  have k36 := keep_cell b3 (kc_alloc k26 _)
  have f36 := keep_frozen b3 (by simp; omega) (kf_alloc f26 z2 _)
  have k37 := keep_cell b3 (kc_alloc k27 _)
  have f37 := keep_frozen b3 (by simp; omega) (kf_alloc f27 z2 _)
  have q30 := keep_fresh b3 0 (v := .int .i64 t.kind) rfl
  have q31 := keep_fresh b3 1 (v := .int .i64 t.num) rfl
  have q32 := keep_fresh b3 2 (v := .int .i64 t.c1) rfl
  have q33 := keep_fresh b3 3 (v := .int .i64 t.r1) rfl
  have q34 := keep_fresh b3 4 (v := .int .i64 t.c2) rfl
  have q35 := keep_fresh b3 5 (v := .int .i64 t.r2) rfl
  have q36 := keep_fresh b3 6 (v := .string ⟨t.word.toArray⟩) rfl
  have q37 := keep_fresh b3 7 (v := .slice A t.kids.length cp) rfl
  have h3 : Below w.heap.size w w3 := (h2.alloc (by omega) _).trans (b3.mono (by simp; omega))
  have z3 : w.heap.size < w3.heap.size := by have := b3.size; simp at this; omega
  have y3 : w2.heap.size < w3.heap.size := by have := b3.size; simp at this; omega
  have HK3 := Lib.hid (HK.out.kept (w' := w3) (Kept.of_below (((Below.refl _ _).alloc (Nat.le_refl _) _).trans (b3.mono (by simp)))))
  clear b3 k20 f20 k21 f21 k22 f22 k23 f23 k24 f24 k25 f25 k26 f26 k27 f27
  go_wp2_with fail
  exact bodyPost_ret (v := .tuple #[.agg #[.int .i64 t.kind, .int .i64 t.num, .int .i64 t.c1, .int .i64 t.r1, .int .i64 t.c2, .int .i64 t.r2, .string ⟨t.word.toArray⟩, .slice A t.kids.length cp], .int .i64 0, .int .i64 0]) (by simp [results, Tryz.results6, go_sem, k30, q30, k31, q31, k32, q32, k33, q33, k34, q34, k35, q35, k36, q36, k37, q37, z3, y3]) rfl ⟨⟨tv8 t A cp, rfl, A, cp, rfl, by
    refine (KV.imp (fun b (hb : w.heap.size + 1 ≤ b) => by show w.heap.size ≤ b; omega) (HK3.out.kept ?_))
    with_reducible repeat' (first | exact Kept.refl _ _ | refine Kept.alloc ?_ _ | refine Kept.set ?_ (.inl (by show ¬ (w.heap.size + 1 ≤ w.heap.size); omega)) _ _)⟩, by
    with_reducible repeat' (first | exact h3 | refine Below.setCell ?_ (by exact Nat.le_refl w.heap.size) _ | refine Below.alloc ?_ (by first | omega | (simp; omega)) _)⟩
theorem sparse_any (s : ByteArray) (hs : s.size ≤ 9223372036854775807) (w : World) (hE : EnvP w) :
    Calls Tryz.prog 6 #[.string s] w (PostS w (parseL s.data.toList)) := by
  have hlen : s.data.toList.length = s.size := len_of s
  unfold parseL
  rw [hlen]
  by_cases h0 : ansE s.data.toList = 0
  · rw [if_neg (fun h => h h0)]
    have hl : s.data.toList.length ≤ 200 := by
      rcases Nat.lt_or_ge 200 s.data.toList.length with h | h
      · have e3 : ansE s.data.toList = 3 := if_pos h
        rw [e3] at h0; cases h0
      · exact h
    have hG := goodX_ans h0 hl
    have hL := ans_len s.data.toList
    have hL3 : (ansL s.data.toList).length ≤ 300 := by
      have hsz := hl
      have hne : ¬ 200 < s.data.toList.length := by omega
      unfold ansL
      rw [if_neg hne]
      cases hs2 : scanT s.data.toList with
      | mk o q =>
        cases o with
        | none => simp
        | some a =>
          have := scan_len (s.data.toList.length + 1) 0 [] a q (Nat.zero_le _) hs2
          simp at this ⊢
          omega
    obtain ⟨res, ht, hq⟩ := tree_some (ansL s.data.toList) s.size
    rw [ht]
    cases res with
    | bad z => exact sparse_form s hs w hE (by decide) h0 fun w1 v hb hst hrow => pformula_bad hb hst hL3 hG hrow ht
    | ok t q =>
      have hq' := hq t q rfl
      obtain ⟨hw, hd⟩ := tree_wid hL ht
      show Calls _ _ _ _ (PostS w (if q < (ansL s.data.toList).length then .fail (whr (ansL s.data.toList) s.size q : Int) 2 else if 16 < deepT t then .fail 0 6 else .good t))
      by_cases hlt : q < (ansL s.data.toList).length
      · rw [if_pos hlt, whr_tok]
        refine sparse_form s hs w hE (by decide) h0 fun w1 v hb hst hrow => pformula_left hb hst hL3 hG hrow ht rfl ?_
        have h1 := (hG q _ (List.getElem?_eq_getElem hlt)).good.kind
        rw [tokAt_in (E := s.size) (List.getElem?_eq_getElem hlt), bne_iff_ne]
        omega
      · rw [if_neg hlt]
        have hk : ((tokAt (ansL s.data.toList) s.size q).kind != 0) = false := by
          rw [tokAt_out (List.getElem?_eq_none (by omega))]; rfl
        by_cases h16 : 16 < deepT t
        · rw [if_pos h16]
          exact sparse_deep s hs w hE h0 hw hd (decide_eq_true (by omega)) fun w1 v hb hst hrow => pformula_whole hb hst hL3 hG hrow ht rfl hk
        · rw [if_neg h16]
          exact sparse_good s hs w hE h0 hw hd (decide_eq_false (by omega)) fun w1 v hb hst hrow => pformula_whole hb hst hL3 hG hrow ht rfl hk
  · rw [if_pos h0]
    exact sparse_err s hs w hE (by rw [bne_iff_ne]; exact h0) rfl rfl
end Go.Proofs.YtahdlijkohmdfaaGreatDoor
namespace Go.Proofs.YtahdlijkohmdfaaGreatDoor
open Go.RowKit

def tx1 : List UInt8 := [49, 32, 45, 32, 50, 45, 40, 51, 45, 65, 49, 41, 42, 83, 85, 77, 40, 67, 51, 58, 66, 49, 44, 32, 45, 40, 52, 60, 53, 41, 44, 32, 81, 49, 58, 65, 49, 41]
def tr1 : Tr := opT [45] (opT [45] (numT 1) (numT 2)) (opT [42] (opT [45] (numT 3) (readT 0 0)) (callT [83, 85, 77] [spanT 1 0 2 2, negT (opT [60] (numT 4) (numT 5)), badT]))
theorem parse_1 : parseL tx1 = .good tr1 := by kernel_rfl
theorem parse_2 : parseL [73, 70, 40, 49, 44, 50, 41] = .fail 6 2 := by kernel_rfl
theorem parse_3 : parseL [67, 79, 85, 78, 84, 40, 65, 49, 58] = .fail 9 2 := by kernel_rfl
theorem parse_4 : parseL [49, 43, 35, 82, 69, 70, 58, 65, 50] = .fail 6 2 := by kernel_rfl
theorem deep_1 : deepT tr1 = 6 := by kernel_rfl
theorem text_1 : txT tr1 = [49, 45, 50, 45, 40, 51, 45, 65, 49, 41, 42, 83, 85, 77, 40, 66, 49, 58, 67, 51, 44, 45, 40, 52, 60, 53, 41, 44, 35, 82, 69, 70, 41] := by kernel_rfl
theorem right_1 : rightP tr1 = true := by kernel_rfl
end Go.Proofs.YtahdlijkohmdfaaGreatDoor
namespace Go.Proofs.YtahdlijkohmdfaaGreatDoor
open Go.RowKit Go.Shelf

def SameC (d : Nat) : Prop := ∀ (t u : Tr), deepT t ≤ d → Wid t → Wid u → ∀ (w : World) (P Q : Nat → Prop) (A B : Option Addr) (ca cb : Nat), KV w P t A → KV w Q u B →
    Calls Tryz.prog 16 #[tv t A ca, tv u B cb] w fun e w' => (∃ b, e = .returned (.bool b) ∧ (b = true ↔ t = u)) ∧ Below w.heap.size w w'
theorem same_enters : ∀ (args : Array Value) (w : World), (callFunc 16 args).run Tryz.prog w = .ok (.enter 16 args) w :=
  fun args w => enters_of Tryz.func16 (by kernel_rfl) rfl args w
set_option maxHeartbeats 2000000 in
set_option maxRecDepth 10000 in
theorem pequal_any {d : Nat} (ih : SameC d) (t u : Tr) (hd : deepL t.kids ≤ d) (ht : Wid t) (hu : Wid u) (w : World) (P Q : Nat → Prop) (A B : Option Addr) (ca cb : Nat) (hA : KV w P t A) (hB : KV w Q u B) :
    Calls Tryz.prog 29 #[.slice A t.kids.length ca, .slice B u.kids.length cb, .func (.func 16) #[] #[]] w fun e w' => (∃ b, e = .returned (.bool b) ∧ (b = true ↔ t.kids = u.kids)) ∧ Below w.heap.size w w' := by
  have hlen := ht.len
  unfold maxLen at hlen
  have hE := same_enters
  by_cases hll : t.kids.length = u.kids.length
  · have d4 : ((t.kids.length : Int) != (u.kids.length : Int)) = false := by rw [bne_eq_false_iff_eq]; omega
    have HT := Lib.hid ht
    have HU := Lib.hid hu
    have HA := Lib.hid hA
    have HB := Lib.hid hB
    have HI := Lib.hid ih
    have HLL := Lib.hid hll
    clear ih ht hu hA hB hll
    go_enter Tryz.func29, Tryz.ntmps29
    go_wp2_with fail
    go_loopw [17] (fun vi wr => ∃ i : Nat, i ≤ t.kids.length ∧ vi = .int .i64 (i : Int) ∧ Hid (t.kids.take i = u.kids.take i) ∧ Below w.heap.size w wr) (fun vi _ => t.kids.length - (intOf vi).toNat)
    case atStart => exact ⟨0, Nat.zero_le _, rfl, Lib.hid rfl, Below.refl _ _⟩
    case round =>
      obtain ⟨i, hi, rfl, HTK, hbel⟩ := hrel
      by_cases hlt : i < t.kids.length
      · have hlt2 : i < u.kids.length := by have := HLL.out; omega
        have ha : t.kids[i]? = some (t.kids[i]'hlt) := List.getElem?_eq_getElem hlt
        have hb : u.kids[i]? = some (u.kids[i]'hlt2) := List.getElem?_eq_getElem hlt2
        obtain ⟨g, o, rfl⟩ := HA.out.addr ha
        obtain ⟨g2, o2, rfl⟩ := HB.out.addr hb
        obtain ⟨hg, A', ca', h8, hkv⟩ := HA.out.kidAt hbel ha
        obtain ⟨hg2, B', cb', k8, hkw⟩ := HB.out.kidAt hbel hb
        have HTE := Lib.hid fun e => take_eq ha hb HTK.out e
        have HNE := Lib.hid (And.intro ha hb)
        have HC := Lib.hid (fun ob oc => HI.out _ _ (Nat.le_trans (deep_kid ha) hd) (HT.out.kid ha) (HU.out.kid hb) ((wr.alloc ob).alloc oc) (fun _ => True) (fun _ => True) A' B' ca' cb' (hkv.kept (((Kept.refl _ _).alloc ob).alloc oc)) (hkw.kept (((Kept.refl _ _).alloc ob).alloc oc)))
        generalize t.kids[i]'hlt = x at *
        generalize u.kids[i]'hlt2 = y at *
        unfold At8 at h8 k8
        unfold tv at HC
        obtain ⟨q0, q1, q2, q3, q4, q5, q6, q7⟩ := h8
        obtain ⟨r0, r1, r2, r3, r4, r5, r6, r7⟩ := k8
        have zg2 : g2 < wr.heap.size := Nat.lt_of_lt_of_le hg2 hbel.size
        have zg : g < wr.heap.size := Nat.lt_of_lt_of_le hg hbel.size
        clear hkv hkw ha hb
        go_wp2_with fail
        refine (HC.out _ _).mono ?_; rintro e w1 ⟨⟨b, rfl, hbb⟩, b1⟩
        have hb1 : Below w.heap.size w w1 := ((hbel.alloc hbel.size _).alloc (by have := hbel.size; simp; omega) _).trans (b1.mono (by have := hbel.size; simp; omega))
        clear b1 q0 q1 q2 q3 q4 q5 q6 q7 r0 r1 r2 r3 r4 r5 r6 r7
        cases b with
        | true =>
          have HXY := Lib.hid (HTE.out (hbb.1 rfl))
          clear hbb
          go_wp2_with fail
          go_roundw
          case rel => exact ⟨i + 1, by omega, by go_num, HXY, hb1⟩
          case measure => simp [intOf]; omega
        | false =>
          have hxy : ¬ x = y := fun e => by have := hbb.2 e; cases this
          have hk : ¬ t.kids = u.kids := fun e => by
            have h1 := HNE.out.1
            rw [e, HNE.out.2] at h1
            exact hxy (Option.some.inj h1).symm
          have HK := Lib.hid hk
          clear hbb hxy hk
          go_wp2_with fail
          go_ret
          exact ⟨⟨false, rfl, ⟨fun h => (by cases h), fun h => absurd h HK.out⟩⟩, hb1⟩
      · have hii : i = t.kids.length := by omega
        subst hii
        have hk : t.kids = u.kids := by
          have := HTK.out
          rw [List.take_length, HLL.out, List.take_length] at this
          exact this
        have HK := Lib.hid hk
        clear hk
        go_wp2_with fail
        go_ret
        exact ⟨⟨true, rfl, ⟨fun _ => HK.out, fun _ => rfl⟩⟩, hbel⟩
  · have d4 : ((t.kids.length : Int) != (u.kids.length : Int)) = true := by rw [bne_iff_ne]; omega
    have HK := Lib.hid hll
    clear ih ht hu hA hB hll
    go_enter Tryz.func29, Tryz.ntmps29
    go_wp2_with fail
    go_ret
    exact ⟨⟨false, rfl, ⟨fun h => (by cases h), fun h => absurd (by rw [h]) HK.out⟩⟩, Below.refl _ _⟩
end Go.Proofs.YtahdlijkohmdfaaGreatDoor
namespace Go.Proofs.YtahdlijkohmdfaaGreatDoor
open Go.RowKit

set_option maxHeartbeats 2000000 in
set_option maxRecDepth 10000 in
theorem psame_no0 (t u : Tr) (A B : Option Addr) (ca cb : Nat) (w : World) (h0 : (t.kind == u.kind) = false) :
    Calls Tryz.prog 16 #[.agg #[.int .i64 t.kind, .int .i64 t.num, .int .i64 t.c1, .int .i64 t.r1, .int .i64 t.c2, .int .i64 t.r2, .string ⟨t.word.toArray⟩, .slice A t.kids.length ca], .agg #[.int .i64 u.kind, .int .i64 u.num, .int .i64 u.c1, .int .i64 u.r1, .int .i64 u.c2, .int .i64 u.r2, .string ⟨u.word.toArray⟩, .slice B u.kids.length cb]] w fun e w' => e = .returned (.bool false) ∧ Below w.heap.size w w' := by
  have hG := fun op X Y W => guard_range op X Y #[.int .i64 t.c1, .int .i64 t.r1, .int .i64 t.c2, .int .i64 t.r2] #[.int .i64 u.c1, .int .i64 u.r1, .int .i64 u.c2, .int .i64 u.r2] W
  have hN := eql_range t.c1 t.r1 t.c2 t.r2 u.c1 u.r1 u.c2 u.r2
  go_enter Tryz.func16, Tryz.ntmps16
  go_wp2_with fail
  go_ret
  exact ⟨rfl, ((Below.refl _ _).alloc (Nat.le_refl _) _).alloc (by simp) _⟩
set_option maxHeartbeats 2000000 in
set_option maxRecDepth 10000 in
theorem psame_no1 (t u : Tr) (A B : Option Addr) (ca cb : Nat) (w : World) (h0 : (t.kind == u.kind) = true) (h1 : (t.num == u.num) = false) :
    Calls Tryz.prog 16 #[.agg #[.int .i64 t.kind, .int .i64 t.num, .int .i64 t.c1, .int .i64 t.r1, .int .i64 t.c2, .int .i64 t.r2, .string ⟨t.word.toArray⟩, .slice A t.kids.length ca], .agg #[.int .i64 u.kind, .int .i64 u.num, .int .i64 u.c1, .int .i64 u.r1, .int .i64 u.c2, .int .i64 u.r2, .string ⟨u.word.toArray⟩, .slice B u.kids.length cb]] w fun e w' => e = .returned (.bool false) ∧ Below w.heap.size w w' := by
  have hG := fun op X Y W => guard_range op X Y #[.int .i64 t.c1, .int .i64 t.r1, .int .i64 t.c2, .int .i64 t.r2] #[.int .i64 u.c1, .int .i64 u.r1, .int .i64 u.c2, .int .i64 u.r2] W
  have hN := eql_range t.c1 t.r1 t.c2 t.r2 u.c1 u.r1 u.c2 u.r2
  go_enter Tryz.func16, Tryz.ntmps16
  go_wp2_with fail
  go_ret
  exact ⟨rfl, ((Below.refl _ _).alloc (Nat.le_refl _) _).alloc (by simp) _⟩
set_option maxHeartbeats 2000000 in
set_option maxRecDepth 10000 in
theorem psame_no2 (t u : Tr) (A B : Option Addr) (ca cb : Nat) (w : World) (h0 : (t.kind == u.kind) = true) (h1 : (t.num == u.num) = true) (h2 : (t.c1 == u.c1 && t.r1 == u.r1 && (t.c2 == u.c2 && t.r2 == u.r2)) = false) :
    Calls Tryz.prog 16 #[.agg #[.int .i64 t.kind, .int .i64 t.num, .int .i64 t.c1, .int .i64 t.r1, .int .i64 t.c2, .int .i64 t.r2, .string ⟨t.word.toArray⟩, .slice A t.kids.length ca], .agg #[.int .i64 u.kind, .int .i64 u.num, .int .i64 u.c1, .int .i64 u.r1, .int .i64 u.c2, .int .i64 u.r2, .string ⟨u.word.toArray⟩, .slice B u.kids.length cb]] w fun e w' => e = .returned (.bool false) ∧ Below w.heap.size w w' := by
  have hG := fun op X Y W => guard_range op X Y #[.int .i64 t.c1, .int .i64 t.r1, .int .i64 t.c2, .int .i64 t.r2] #[.int .i64 u.c1, .int .i64 u.r1, .int .i64 u.c2, .int .i64 u.r2] W
  have hN := eql_range t.c1 t.r1 t.c2 t.r2 u.c1 u.r1 u.c2 u.r2
  rw [h2] at hN
  go_enter Tryz.func16, Tryz.ntmps16
  go_wp2_with fail
  go_ret
  exact ⟨rfl, ((Below.refl _ _).alloc (Nat.le_refl _) _).alloc (by simp) _⟩
set_option maxHeartbeats 2000000 in
set_option maxRecDepth 10000 in
theorem psame_no3 (t u : Tr) (A B : Option Addr) (ca cb : Nat) (w : World) (h0 : (t.kind == u.kind) = true) (h1 : (t.num == u.num) = true) (h2 : (t.c1 == u.c1 && t.r1 == u.r1 && (t.c2 == u.c2 && t.r2 == u.r2)) = true) (h3 : (t.word == u.word) = false) :
    Calls Tryz.prog 16 #[.agg #[.int .i64 t.kind, .int .i64 t.num, .int .i64 t.c1, .int .i64 t.r1, .int .i64 t.c2, .int .i64 t.r2, .string ⟨t.word.toArray⟩, .slice A t.kids.length ca], .agg #[.int .i64 u.kind, .int .i64 u.num, .int .i64 u.c1, .int .i64 u.r1, .int .i64 u.c2, .int .i64 u.r2, .string ⟨u.word.toArray⟩, .slice B u.kids.length cb]] w fun e w' => e = .returned (.bool false) ∧ Below w.heap.size w w' := by
  have hG := fun op X Y W => guard_range op X Y #[.int .i64 t.c1, .int .i64 t.r1, .int .i64 t.c2, .int .i64 t.r2] #[.int .i64 u.c1, .int .i64 u.r1, .int .i64 u.c2, .int .i64 u.r2] W
  have hN := eql_range t.c1 t.r1 t.c2 t.r2 u.c1 u.r1 u.c2 u.r2
  rw [h2] at hN
  go_enter Tryz.func16, Tryz.ntmps16
  go_wp2_with fail
  go_ret
  exact ⟨rfl, ((Below.refl _ _).alloc (Nat.le_refl _) _).alloc (by simp) _⟩
set_option maxHeartbeats 2000000 in
set_option maxRecDepth 10000 in
theorem psame_yes (t u : Tr) (A B : Option Addr) (ca cb : Nat) (w : World) (h0 : (t.kind == u.kind) = true) (h1 : (t.num == u.num) = true) (h2 : (t.c1 == u.c1 && t.r1 == u.r1 && (t.c2 == u.c2 && t.r2 == u.r2)) = true) (h3 : (t.word == u.word) = true) (HQ : ∀ w', Below w.heap.size w w' → Calls Tryz.prog 29 #[.slice A t.kids.length ca, .slice B u.kids.length cb, .func (.func 16) #[] #[]] w' fun e w'' => (∃ b, e = .returned (.bool b) ∧ (b = true ↔ t.kids = u.kids)) ∧ Below w'.heap.size w' w'') :
    Calls Tryz.prog 16 #[.agg #[.int .i64 t.kind, .int .i64 t.num, .int .i64 t.c1, .int .i64 t.r1, .int .i64 t.c2, .int .i64 t.r2, .string ⟨t.word.toArray⟩, .slice A t.kids.length ca], .agg #[.int .i64 u.kind, .int .i64 u.num, .int .i64 u.c1, .int .i64 u.r1, .int .i64 u.c2, .int .i64 u.r2, .string ⟨u.word.toArray⟩, .slice B u.kids.length cb]] w fun e w' => (∃ b, e = .returned (.bool b) ∧ (b = true ↔ t.kids = u.kids)) ∧ Below w.heap.size w w' := by
  have hG := fun op X Y W => guard_range op X Y #[.int .i64 t.c1, .int .i64 t.r1, .int .i64 t.c2, .int .i64 t.r2] #[.int .i64 u.c1, .int .i64 u.r1, .int .i64 u.c2, .int .i64 u.r2] W
  have hN := eql_range t.c1 t.r1 t.c2 t.r2 u.c1 u.r1 u.c2 u.r2
  rw [h2] at hN
  have HQQ := Lib.hid HQ
  clear HQ
  have b0 : ∀ x y, Below w.heap.size w ((w.alloc x).alloc y) := fun x y => ((Below.refl _ _).alloc (Nat.le_refl _) x).alloc (by simp) y
  have HB0 := Lib.hid b0
  clear b0
  go_enter Tryz.func16, Tryz.ntmps16
  go_wp2_with fail
  refine (HQQ.out _ (HB0.out _ _)).mono ?_; rintro e w1 ⟨⟨b, rfl, hb⟩, b1⟩
  have HBB := Lib.hid hb
  have h1' : Below w.heap.size w w1 := (HB0.out _ _).trans (b1.mono (by simp; omega))
  clear b1 hb
  go_wp2_with fail
  go_ret
  exact ⟨⟨b, rfl, HBB.out⟩, h1'⟩
theorem psame_all : ∀ d, SameC d := by
  intro d
  induction d with
  | zero => intro t u h; rw [deep_eq] at h; omega
  | succ d ih =>
    intro t u hd ht hu w P Q A B ca cb hA hB
    have hdl : deepL t.kids ≤ d := by rw [deep_eq] at hd; omega
    have NO : ¬ t = u → ∀ {e : Ending} {w' : World}, e = .returned (.bool false) ∧ Below w.heap.size w w' → (∃ b, e = .returned (.bool b) ∧ (b = true ↔ t = u)) ∧ Below w.heap.size w w' :=
      fun hne _ _ ⟨he, hb⟩ => ⟨⟨false, he, ⟨fun h => (by cases h), fun h => absurd h hne⟩⟩, hb⟩
    by_cases h0 : t.kind = u.kind
    · by_cases h1 : t.num = u.num
      · by_cases h2 : t.c1 = u.c1 ∧ t.r1 = u.r1 ∧ t.c2 = u.c2 ∧ t.r2 = u.r2
        · by_cases h3 : t.word = u.word
          · obtain ⟨e1, e2, e3, e4⟩ := h2
            refine (psame_yes t u A B ca cb w (by simp [h0]) (by simp [h1]) (by simp [e1, e2, e3, e4]) (by simp [h3]) fun w' hb' => pequal_any ih t u hdl ht hu w' P Q A B ca cb (hA.kept (Kept.of_below hb')) (hB.kept (Kept.of_below hb'))).mono fun e w' ⟨⟨b, he, hb⟩, hw⟩ => ⟨⟨b, he, hb.trans ⟨fun h => tr_ext h0 h1 e1 e2 e3 e4 h3 h, fun h => by rw [h]⟩⟩, hw⟩
          · exact (psame_no3 t u A B ca cb w (by simp [h0]) (by simp [h1]) (by simp [h2]) (by simp [h3])).mono fun _ _ h => NO (fun e => h3 (by rw [e])) h
        · exact (psame_no2 t u A B ca cb w (by simp [h0]) (by simp [h1]) (by rw [Bool.eq_false_iff]; intro h; simp at h; exact h2 ⟨h.1.1, h.1.2, h.2.1, h.2.2⟩)).mono fun _ _ h => NO (fun e => h2 (by rw [e]; simp)) h
      · exact (psame_no1 t u A B ca cb w (by simp [h0]) (by simp [h1])).mono fun _ _ h => NO (fun e => h1 (by rw [e])) h
    · exact (psame_no0 t u A B ca cb w (by simp [h0])).mono fun _ _ h => NO (fun e => h0 (by rw [e])) h
theorem psame_any (t u : Tr) (ht : Wid t) (hu : Wid u) (w : World) (P Q : Nat → Prop) (A B : Option Addr) (ca cb : Nat) (hA : KV w P t A) (hB : KV w Q u B) :
    Calls Tryz.prog 16 #[tv t A ca, tv u B cb] w fun e w' => (∃ b, e = .returned (.bool b) ∧ (b = true ↔ t = u)) ∧ Below w.heap.size w w' :=
  psame_all _ t u (Nat.le_refl _) ht hu w P Q A B ca cb hA hB
end Go.Proofs.YtahdlijkohmdfaaGreatDoor
