/- Texts joined: EwI, EwH, AvBp, EwL, TrZ, FtA, EwM. -/
import Derived.Test.YthaoalmhhgllmaaGreatDoorMb23
import Derived.Test.YthaoalmhhgllmaaGreatDoorMb06
import Derived.Test.YthaoalmhhgllmaaGreatDoorMb12
import Derived.Test.YthaoalmhhgllmaaGreatDoorMb05
import Derived.Test.YthaoalmhhgllmaaGreatDoorMb21
import Derived.Deep.RegionWith
set_option linter.all false
namespace Go.Proofs.YthaoalmhhgllmaaGreatDoor
open Go.RowKit
def Fr2 (w : World) (b : Nat) : Prop := w.cell? ⟨b, 0, none⟩ = some (.int .i64 0) ∧ w.cell? ⟨b, 1, none⟩ = some (.int .i64 0) ∧ w.frozen? ⟨b, 0, none⟩ = false ∧ w.frozen? ⟨b, 1, none⟩ = false ∧ b < w.heap.size
theorem Fr2.below {w w' : World} {b : Nat} (h : Fr2 w b) (hb : Below w.heap.size w w') : Fr2 w' b := ⟨keep_cell hb h.1, keep_cell hb h.2.1, keep_frozen hb h.2.2.2.2 h.2.2.1, keep_frozen hb h.2.2.2.2 h.2.2.2.1, Nat.lt_of_lt_of_le h.2.2.2.2 hb.size⟩
theorem fr2 {W w1 : World} (b : Below (W.alloc (.cells #[.int .i64 0, .int .i64 0] 35)).heap.size (W.alloc (.cells #[.int .i64 0, .int .i64 0] 35)) w1) : Fr2 w1 W.heap.size := ⟨keep_fresh b 0 rfl, keep_fresh b 1 rfl, fresh_frozen b 0, fresh_frozen b 1, by have := b.size; simp at this; omega⟩
theorem below_al {W w1 : World} {ob : Obj} (b : Below (W.alloc ob).heap.size (W.alloc ob) w1) : Below W.heap.size W w1 := ((Below.refl _ _).alloc (Nat.le_refl _) ob).trans (b.mono (by simp))
set_option maxHeartbeats 4000000 in
set_option maxRecDepth 10000 in
theorem rk_4 {l : List Cel} (t a b : Tr) (h2 : t.kids.length = 2) (hwl : t.word.length ≤ maxLen) (h : t.kind = 4) (h0 : t.kids[0]? = some a) (h1 : t.kids[1]? = some b) (iha : RecC l a) (ihb : RecC l b) (hba : B64 (cmT l a).1) (hbb : B64 (cmT l b).1) : RecC l t := by
  intro w P A cap B hk hm
  have HE : Hid (cmT l t = (doNum t.word (cmT l a).1 (cmT l a).2 (cmT l b).1 (cmT l b).2, doFault t.word (cmT l a).1 (cmT l a).2 (cmT l b).1 (cmT l b).2)) := Lib.hid (cm_op h h0 h1)
  have s0 : (t.kind == 0) = false := by rw [h]; rfl
  have s1 : (t.kind == 1) = false := by rw [h]; rfl
  have s3 : (t.kind == 3) = false := by rw [h]; rfl
  have s4 : (t.kind == 4) = true := by rw [h]; rfl
  have s5 : (t.kind == 5) = false := by rw [h]; rfl
  obtain ⟨g, o, rfl⟩ := hk.addr h0
  have HK := Lib.hid hk
  have Ha := Lib.hid h0
  have Hb := Lib.hid h1
  have HD := Lib.hid (fun w => udo_any ⟨t.word.toArray⟩ hwl (cmT l a).1 (cmT l a).2 (cmT l b).1 (cmT l b).2 hba hbb w)
  rw [show (⟨t.word.toArray⟩ : ByteArray).data.toList = t.word from rfl] at HD
  rw [h2]
  have hb0 : Below (w.heap.size + 1 + 1) ((w.alloc (.cells #[.int .i64 t.kind, .int .i64 t.num, .int .i64 t.c1, .int .i64 t.r1, .int .i64 t.c2, .int .i64 t.r2, .string ⟨t.word.toArray⟩, .slice (some ⟨g, o, none⟩) 2 cap] 29)).alloc (.cells #[.int .i64 0, .int .i64 0] 35)) ((w.alloc (.cells #[.int .i64 t.kind, .int .i64 t.num, .int .i64 t.c1, .int .i64 t.r1, .int .i64 t.c2, .int .i64 t.r2, .string ⟨t.word.toArray⟩, .slice (some ⟨g, o, none⟩) 2 cap] 29)).alloc (.cells #[.int .i64 0, .int .i64 0] 35)) := Below.refl _ _
  have HP := Lib.hid (fun w' (hb : Below ((w.alloc (.cells #[.int .i64 t.kind, .int .i64 t.num, .int .i64 t.c1, .int .i64 t.r1, .int .i64 t.c2, .int .i64 t.r2, .string ⟨t.word.toArray⟩, .slice (some ⟨g, o, none⟩) 2 cap] 29)).alloc (.cells #[.int .i64 0, .int .i64 0] 35)).heap.size ((w.alloc (.cells #[.int .i64 t.kind, .int .i64 t.num, .int .i64 t.c1, .int .i64 t.r1, .int .i64 t.c2, .int .i64 t.r2, .string ⟨t.word.toArray⟩, .slice (some ⟨g, o, none⟩) 2 cap] 29)).alloc (.cells #[.int .i64 0, .int .i64 0] 35)) w') => par8 (w1 := w') (hb.mono (by simp)))
  have kb := (par8 hb0).2.2.2.2
  obtain ⟨hga, Aa, ca, ⟨q0, q1, q2, q3, q4, q5, q6, q7⟩, hka⟩ := HK.out.kidAt kb Ha.out
  simp only [Nat.zero_mul, Nat.add_zero] at q0 q1 q2 q3 q4 q5 q6 q7
  obtain ⟨hgb, Ab, cb, ⟨p0, p1, p2, p3, p4, p5, p6, p7⟩, hkb⟩ := HK.out.kidAt kb Hb.out
  simp only [Nat.one_mul, Nat.add_assoc, Nat.reduceAdd] at p0 p1 p2 p3 p4 p5 p6 p7
  have HQ := Lib.hid (And.intro (And.intro q0 (And.intro q1 (And.intro q2 (And.intro q3 (And.intro q4 (And.intro q5 (And.intro q6 q7))))))) (And.intro p0 (And.intro p1 (And.intro p2 (And.intro p3 (And.intro p4 (And.intro p5 (And.intro p6 p7))))))))
  have HC0 := Lib.hid (fun w1 (hb2 : Below ((w.alloc (.cells #[.int .i64 t.kind, .int .i64 t.num, .int .i64 t.c1, .int .i64 t.r1, .int .i64 t.c2, .int .i64 t.r2, .string ⟨t.word.toArray⟩, .slice (some ⟨g, o, none⟩) 2 cap] 29)).alloc (.cells #[.int .i64 0, .int .i64 0] 35)).heap.size ((w.alloc (.cells #[.int .i64 t.kind, .int .i64 t.num, .int .i64 t.c1, .int .i64 t.r1, .int .i64 t.c2, .int .i64 t.r2, .string ⟨t.word.toArray⟩, .slice (some ⟨g, o, none⟩) 2 cap] 29)).alloc (.cells #[.int .i64 0, .int .i64 0] 35)) w1) => iha w1 _ Aa ca B (hka.kept (Kept.of_below hb2)) (hm.below (kb.trans (hb2.mono (by simp; omega)))))
  have HC1 := Lib.hid (fun w1 (hb2 : Below ((w.alloc (.cells #[.int .i64 t.kind, .int .i64 t.num, .int .i64 t.c1, .int .i64 t.r1, .int .i64 t.c2, .int .i64 t.r2, .string ⟨t.word.toArray⟩, .slice (some ⟨g, o, none⟩) 2 cap] 29)).alloc (.cells #[.int .i64 0, .int .i64 0] 35)).heap.size ((w.alloc (.cells #[.int .i64 t.kind, .int .i64 t.num, .int .i64 t.c1, .int .i64 t.r1, .int .i64 t.c2, .int .i64 t.r2, .string ⟨t.word.toArray⟩, .slice (some ⟨g, o, none⟩) 2 cap] 29)).alloc (.cells #[.int .i64 0, .int .i64 0] 35)) w1) => ihb w1 _ Ab cb B (hkb.kept (Kept.of_below hb2)) (hm.below (kb.trans (hb2.mono (by simp; omega)))))
  have HL : Hid (∀ w', Below ((w.alloc (.cells #[.int .i64 t.kind, .int .i64 t.num, .int .i64 t.c1, .int .i64 t.r1, .int .i64 t.c2, .int .i64 t.r2, .string ⟨t.word.toArray⟩, .slice (some ⟨g, o, none⟩) 2 cap] 29)).alloc (.cells #[.int .i64 0, .int .i64 0] 35)).heap.size ((w.alloc (.cells #[.int .i64 t.kind, .int .i64 t.num, .int .i64 t.c1, .int .i64 t.r1, .int .i64 t.c2, .int .i64 t.r2, .string ⟨t.word.toArray⟩, .slice (some ⟨g, o, none⟩) 2 cap] 29)).alloc (.cells #[.int .i64 0, .int .i64 0] 35)) w' → w'.cell? ⟨g, o, none⟩ = some (.int .i64 a.kind) ∧ w'.cell? ⟨g, o + 1, none⟩ = some (.int .i64 a.num) ∧ w'.cell? ⟨g, o + 2, none⟩ = some (.int .i64 a.c1) ∧ w'.cell? ⟨g, o + 3, none⟩ = some (.int .i64 a.r1) ∧ w'.cell? ⟨g, o + 4, none⟩ = some (.int .i64 a.c2) ∧ w'.cell? ⟨g, o + 5, none⟩ = some (.int .i64 a.r2) ∧ w'.cell? ⟨g, o + 6, none⟩ = some (.string ⟨a.word.toArray⟩) ∧ w'.cell? ⟨g, o + 7, none⟩ = some (.slice Aa a.kids.length ca) ∧ w'.cell? ⟨g, o + 8, none⟩ = some (.int .i64 b.kind) ∧ w'.cell? ⟨g, o + 9, none⟩ = some (.int .i64 b.num) ∧ w'.cell? ⟨g, o + 10, none⟩ = some (.int .i64 b.c1) ∧ w'.cell? ⟨g, o + 11, none⟩ = some (.int .i64 b.r1) ∧ w'.cell? ⟨g, o + 12, none⟩ = some (.int .i64 b.c2) ∧ w'.cell? ⟨g, o + 13, none⟩ = some (.int .i64 b.r2) ∧ w'.cell? ⟨g, o + 14, none⟩ = some (.string ⟨b.word.toArray⟩) ∧ w'.cell? ⟨g, o + 15, none⟩ = some (.slice Ab b.kids.length cb) ∧ w'.cell? ⟨w.heap.size, 0, none⟩ = some (.int .i64 t.kind) ∧ w'.cell? ⟨w.heap.size, 1, none⟩ = some (.int .i64 t.num) ∧ w'.cell? ⟨w.heap.size, 2, none⟩ = some (.int .i64 t.c1) ∧ w'.cell? ⟨w.heap.size, 3, none⟩ = some (.int .i64 t.r1) ∧ w'.cell? ⟨w.heap.size, 4, none⟩ = some (.int .i64 t.c2) ∧ w'.cell? ⟨w.heap.size, 5, none⟩ = some (.int .i64 t.r2) ∧ w'.cell? ⟨w.heap.size, 6, none⟩ = some (.string ⟨t.word.toArray⟩) ∧ w'.cell? ⟨w.heap.size, 7, none⟩ = some (.slice (some ⟨g, o, none⟩) 2 cap)) := Lib.hid fun w' hb => by
    obtain ⟨⟨k0, k1, k2, k3, k4, k5, k6, k7⟩, _⟩ := HP.out w' hb
    obtain ⟨⟨x0, x1, x2, x3, x4, x5, x6, x7⟩, y0, y1, y2, y3, y4, y5, y6, y7⟩ := HQ.out
    exact ⟨keep_cell hb x0, keep_cell hb x1, keep_cell hb x2, keep_cell hb x3, keep_cell hb x4, keep_cell hb x5, keep_cell hb x6, keep_cell hb x7, keep_cell hb y0, keep_cell hb y1, keep_cell hb y2, keep_cell hb y3, keep_cell hb y4, keep_cell hb y5, keep_cell hb y6, keep_cell hb y7, k0, k1, k2, k3, k4, k5, k6, k7⟩
  have HR : Hid (∀ w', Below ((w.alloc (.cells #[.int .i64 t.kind, .int .i64 t.num, .int .i64 t.c1, .int .i64 t.r1, .int .i64 t.c2, .int .i64 t.r2, .string ⟨t.word.toArray⟩, .slice (some ⟨g, o, none⟩) 2 cap] 29)).alloc (.cells #[.int .i64 0, .int .i64 0] 35)).heap.size ((w.alloc (.cells #[.int .i64 t.kind, .int .i64 t.num, .int .i64 t.c1, .int .i64 t.r1, .int .i64 t.c2, .int .i64 t.r2, .string ⟨t.word.toArray⟩, .slice (some ⟨g, o, none⟩) 2 cap] 29)).alloc (.cells #[.int .i64 0, .int .i64 0] 35)) w' → w'.cell? ⟨w.heap.size + 1, 0, none⟩ = some (.int .i64 0) ∧ w'.cell? ⟨w.heap.size + 1, 1, none⟩ = some (.int .i64 0) ∧ w'.frozen? ⟨w.heap.size + 1, 0, none⟩ = false ∧ w'.frozen? ⟨w.heap.size + 1, 1, none⟩ = false ∧ w.heap.size + 1 < w'.heap.size ∧ Below w.heap.size w w') := Lib.hid fun w' hb => by
    obtain ⟨_, ⟨r0, r1, f0, f1⟩, _, z1, bb⟩ := HP.out w' hb
    exact ⟨r0, r1, f0, f1, z1, bb⟩
  have hz2 : ((w.alloc (.cells #[.int .i64 t.kind, .int .i64 t.num, .int .i64 t.c1, .int .i64 t.r1, .int .i64 t.c2, .int .i64 t.r2, .string ⟨t.word.toArray⟩, .slice (some ⟨g, o, none⟩) 2 cap] 29)).alloc (.cells #[.int .i64 0, .int .i64 0] 35)).heap.size = w.heap.size + 1 + 1 := by simp
  clear hk hm h h0 h1 iha ihb hba hbb hka hkb hga hgb kb hb0 HP HQ HK Ha Hb q0 q1 q2 q3 q4 q5 q6 q7 p0 p1 p2 p3 p4 p5 p6 p7
  generalize doNum t.word (cmT l a).1 (cmT l a).2 (cmT l b).1 (cmT l b).2 = X at *
  generalize doFault t.word (cmT l a).1 (cmT l a).2 (cmT l b).1 (cmT l b).2 = Y at *
  generalize (vOp t.word (cmT l a).1 (cmT l b).1).isSome = Z at *
  go_enter Tryz.func18, Tryz.ntmps18
  go_wp2_with fail
  generalize ((w.alloc (.cells #[.int .i64 t.kind, .int .i64 t.num, .int .i64 t.c1, .int .i64 t.r1, .int .i64 t.c2, .int .i64 t.r2, .string ⟨t.word.toArray⟩, .slice (some ⟨g, o, none⟩) 2 cap] 29)).alloc (.cells #[.int .i64 0, .int .i64 0] 35)) = W2 at *
  have HZ := Lib.hid hz2
  clear hz2
  go_region_held3 (fun w' => w'.cell? ⟨g, o, none⟩ = some (.int .i64 a.kind) ∧ w'.cell? ⟨g, o + 1, none⟩ = some (.int .i64 a.num) ∧ w'.cell? ⟨g, o + 2, none⟩ = some (.int .i64 a.c1) ∧ w'.cell? ⟨g, o + 3, none⟩ = some (.int .i64 a.r1) ∧ w'.cell? ⟨g, o + 4, none⟩ = some (.int .i64 a.c2) ∧ w'.cell? ⟨g, o + 5, none⟩ = some (.int .i64 a.r2) ∧ w'.cell? ⟨g, o + 6, none⟩ = some (.string ⟨a.word.toArray⟩) ∧ w'.cell? ⟨g, o + 7, none⟩ = some (.slice Aa a.kids.length ca) ∧ w'.cell? ⟨g, o + 8, none⟩ = some (.int .i64 b.kind) ∧ w'.cell? ⟨g, o + 9, none⟩ = some (.int .i64 b.num) ∧ w'.cell? ⟨g, o + 10, none⟩ = some (.int .i64 b.c1) ∧ w'.cell? ⟨g, o + 11, none⟩ = some (.int .i64 b.r1) ∧ w'.cell? ⟨g, o + 12, none⟩ = some (.int .i64 b.c2) ∧ w'.cell? ⟨g, o + 13, none⟩ = some (.int .i64 b.r2) ∧ w'.cell? ⟨g, o + 14, none⟩ = some (.string ⟨b.word.toArray⟩) ∧ w'.cell? ⟨g, o + 15, none⟩ = some (.slice Ab b.kids.length cb) ∧ w'.cell? ⟨w.heap.size, 0, none⟩ = some (.int .i64 t.kind) ∧ w'.cell? ⟨w.heap.size, 1, none⟩ = some (.int .i64 t.num) ∧ w'.cell? ⟨w.heap.size, 2, none⟩ = some (.int .i64 t.c1) ∧ w'.cell? ⟨w.heap.size, 3, none⟩ = some (.int .i64 t.r1) ∧ w'.cell? ⟨w.heap.size, 4, none⟩ = some (.int .i64 t.c2) ∧ w'.cell? ⟨w.heap.size, 5, none⟩ = some (.int .i64 t.r2) ∧ w'.cell? ⟨w.heap.size, 6, none⟩ = some (.string ⟨t.word.toArray⟩) ∧ w'.cell? ⟨w.heap.size, 7, none⟩ = some (.slice (some ⟨g, o, none⟩) 2 cap))
    (with_reducible exact HL.out _ (by with_reducible repeat' (first | exact Below.refl _ _ | exact B3 | exact B2 | exact B1 | exact Nat.le_refl _ | exact B3.size | exact B2.size | exact B1.size | refine Below.drew ?_ | refine Below.alloc ?_ ?_ _ | refine Below.setCell ?_ ?_ _)))
    (first
    | (have hB := B2; clear hB; go_at_call 31
       refine Calls.mono (HD.out _) ?_; rintro e w3 ⟨rfl, b3⟩
       have B3 : Below W2.heap.size W2 w3 := below_up (by with_reducible repeat' (first | exact Below.refl _ _ | exact B3 | exact B2 | exact B1 | exact Nat.le_refl _ | exact B3.size | exact B2.size | exact B1.size | refine Below.drew ?_ | refine Below.alloc ?_ ?_ _ | refine Below.setCell ?_ ?_ _)) b3
       try (have y3 := y2.below b3)
       try (have y3 := y2.below (below_al b3))
       try (have y3 := fr2 (W := w2) b3)
       try (obtain ⟨y30, y31, y3f, y3g, y3z⟩ := y3)
       clear b3)
    | (have hB := B1; clear hB; go_at_call 18
       refine Calls.mono (HC1.out _ (by with_reducible repeat' (first | exact Below.refl _ _ | exact B3 | exact B2 | exact B1 | exact Nat.le_refl _ | exact B3.size | exact B2.size | exact B1.size | refine Below.drew ?_ | refine Below.alloc ?_ ?_ _ | refine Below.setCell ?_ ?_ _))) ?_; rintro e w2 ⟨rfl, b2⟩
       have B2 : Below W2.heap.size W2 w2 := below_up (by with_reducible repeat' (first | exact Below.refl _ _ | exact B3 | exact B2 | exact B1 | exact Nat.le_refl _ | exact B3.size | exact B2.size | exact B1.size | refine Below.drew ?_ | refine Below.alloc ?_ ?_ _ | refine Below.setCell ?_ ?_ _)) b2
       try (have y2 := y1.below b2)
       try (have y2 := y1.below (below_al b2))
       try (have y2 := fr2 (W := w1) b2)
       clear b2)
    | (go_at_call 18
       refine Calls.mono (HC0.out _ (by with_reducible repeat' (first | exact Below.refl _ _ | exact B3 | exact B2 | exact B1 | exact Nat.le_refl _ | exact B3.size | exact B2.size | exact B1.size | refine Below.drew ?_ | refine Below.alloc ?_ ?_ _ | refine Below.setCell ?_ ?_ _))) ?_; rintro e w1 ⟨rfl, b1⟩
       have B1 : Below W2.heap.size W2 w1 := below_up (by with_reducible repeat' (first | exact Below.refl _ _ | exact B3 | exact B2 | exact B1 | exact Nat.le_refl _ | exact B3.size | exact B2.size | exact B1.size | refine Below.drew ?_ | refine Below.alloc ?_ ?_ _ | refine Below.setCell ?_ ?_ _)) b1
       try (have b1a := fresh_drew (W := W2) b1; have y1 := fr2 b1a; clear b1a)
       clear b1)
    | fail)
  all_goals
    obtain ⟨rr0, rr1, rf0, rf1, rz1, hb3⟩ := HR.out _ B3
    have zb1 := B1.size
    have zb2 := B2.size
    have zb3 := B3.size
    have zW := HZ.out
    have nW : W2.heap.size ≠ w.heap.size + 1 := by omega
    have n1 : w1.heap.size ≠ w.heap.size + 1 := by omega
    have n2 : w2.heap.size ≠ w.heap.size + 1 := by omega
    have n3 : w3.heap.size ≠ w.heap.size + 1 := by omega
    have zW2 : w.heap.size + 1 ≤ W2.heap.size := by omega
    clear zW
    clear HC0 HC1 HD HL HR B1 B2 B3
    go_wp2_with fail
    exact bodyPost_ret (v := .agg #[.int .i64 X, .int .i64 Y]) (by simp [results, Tryz.results18, go_sem, rr0, rr1, rz1, rf0, rf1]) rfl ⟨by rw [HE.out], (by repeat' (first | with_reducible exact hb3 | with_reducible refine Below.setCell ?_ (Nat.le_succ _) _ | with_reducible refine Below.setCell ?_ ?_ _ | with_reducible refine Below.alloc ?_ ?_ _ | exact Nat.le_succ _ | (show w.heap.size ≤ W2.heap.size; omega) | (show w.heap.size ≤ w1.heap.size; omega) | (show w.heap.size ≤ w2.heap.size; omega) | (show w.heap.size ≤ w3.heap.size; omega) | (simp; omega)))⟩
end Go.Proofs.YthaoalmhhgllmaaGreatDoor
namespace Go.Proofs.YthaoalmhhgllmaaGreatDoor
open Go.RowKit
theorem lvl_len {w : List UInt8} (h : 1 ≤ lvl w) : w.length ≤ maxLen := by
  unfold maxLen
  unfold lvl at h
  split at h
  · rename_i e; rcases e with rfl | rfl | rfl | rfl | rfl | rfl <;> decide
  · split at h
    · rename_i e; rcases e with rfl | rfl <;> decide
    · split at h
      · rename_i e; rcases e with rfl | rfl <;> decide
      · omega
theorem read_b64 {t : Tr} (hm : mayB t = true) (h : t.kind = 1) : B64 t.c1 ∧ B64 t.r1 := by
  rw [may_1 h] at hm
  simp only [Bool.and_eq_true] at hm
  have := (rightB_iff _ _).1 hm.2.1
  unfold B64; omega
theorem reckon_any {l : List Cel} (hcb : ∀ q ∈ l, B64 q.n) : ∀ {t : Tr}, Wid t → GE t → RecC l t := by
  intro t hW
  induction hW with
  | @mk k n c r d s w ks hlw _ ih =>
    intro ge
    have hlen := ge.len
    have ihk : ∀ u ∈ ks, RecC l u := fun u hu => ih u hu (ge.kid hu)
    rcases may_kinds ge.may with h | h | h | h | h | h | h
    · exact rk_0 _ hlen h
    · exact rk_1 _ hlen h (read_b64 ge.may h)
    · exact rk_no _ hlen (by rw [h]; decide) (by rw [h]; decide) (by rw [h]; decide) (by rw [h]; decide) (by rw [h]; decide) (.inl h)
    · exact rk_no _ hlen (by rw [h]; decide) (by rw [h]; decide) (by rw [h]; decide) (by rw [h]; decide) (by rw [h]; decide) (.inr h)
    · obtain ⟨a, ha⟩ := kids_3 ge.may h
      have ha : ks = [a] := ha
      subst ha
      exact rk_3 _ a hlen h rfl (ihk a (by simp)) ((ge.kid (List.mem_cons_self ..)).b64 hcb)
    · obtain ⟨a, b, ha⟩ := kids_4 ge.may h
      have ha : ks = [a, b] := ha
      subst ha
      have hw : w.length ≤ maxLen := by
        have hm := ge.may
        rw [may_4 h] at hm
        simp only [Bool.and_eq_true, decide_eq_true_iff] at hm
        exact lvl_len hm.2.2
      exact rk_4 _ a b rfl hw h rfl rfl (ihk a (by simp)) (ihk b (by simp)) ((ge.kid (u := a) (by show a ∈ [a, b]; simp)).b64 hcb) ((ge.kid (u := b) (by show b ∈ [a, b]; simp)).b64 hcb)
    · refine rk_5 _ hlen h ?_
      have hi := eitems_of (.mk k n c r d s w ks) hlen ihk
      rcases kids_5 ge.may h with ⟨hw, x, y, z, ha⟩ | hw | hw | hw | hw
      · have ha : ks = [x, y, z] := ha
        subst ha
        refine ecall_IF _ hlen hw (cl_IF _ ge ?_)
        by_cases hf : (cmT l x).2 = 0
        · by_cases hn : (cmT l x).1 = 0
          · exact choose_N _ x y z hlen h hw rfl rfl rfl ihk hf hn
          · exact choose_Y _ x y z hlen h hw rfl rfl rfl ihk hf hn
        · exact choose_F _ x y z hlen h hw rfl rfl rfl ihk hf
      · exact ecall_SUM _ hlen hw (cl_SUM _ ge hcb h hw hi)
      · exact ecall_MIN _ hlen hw (cl_MIN _ ge hcb h hw hi)
      · exact ecall_MAX _ hlen hw (cl_MAX _ ge hcb h hw hi)
      · refine ecall_COUNT _ hlen hw (cl_COUNT _ ge (count_any _ hlen h hw (fun u hu => ?_) ihk))
        have hm := ge.may
        rw [may_5 h] at hm
        simp only [Bool.and_eq_true] at hm
        have := (all_mem hm.2.1 u hu).2.2
        rcases this with e | e | e
        · rw [show (Tr.mk k n c r d s w ks).word = w from rfl] at e
          rw [show w = [67, 79, 85, 78, 84] from hw] at e; cases e
        · exact .inl e
        · exact .inr e
set_option maxHeartbeats 4000000 in
set_option maxRecDepth 100000 in
theorem eOf_any {l : List Cel} (hl : l.length < maxLen) (hcb : ∀ q ∈ l, B64 q.n) (hpb : ∀ q ∈ l, B64 q.c ∧ B64 q.r) (t : Tr) (hW : Wid t) (hf : Fit t) (hcn : cntT t ≤ 1000000) (w : World) (A : Option Addr) (ca : Nat) (LA : Option Addr) (lc : Nat) (hA : KV w (fun _ => True) t A) (hc : ListC w LA l) {B : Nat} (hB : B ≤ w.heap.size) (hS : Strs B B w) :
    Calls Tryz.prog 7 #[tv t A ca, .slice LA l.length lc] w fun e w' => e = .returned (.agg #[.int .i64 (ofV l t).1, .int .i64 (ofV l t).2]) ∧ Below w.heap.size w w' := by
  have hlen := hW.len
  unfold maxLen at hlen
  have H1 := Lib.hid (fun w1 (hb : Below w.heap.size w w1) => sright_any t hW w1 (fun _ => True) A ca (hA.kept (Kept.of_below hb)) B (Nat.le_trans hB hb.size) (hS.later hB hb))
  have HF := Lib.hid (fun w1 (hb : Below w.heap.size w w1) => efirst_any l hl hpb LA lc w1 (hc.below hb))
  have H2 : Hid (rightP t = true → ofV l t = cmT l t ∧ ∀ w1 b (hb : Below w.heap.size w w1), MapC w1 b l → Calls Tryz.prog 18 #[.map (some b), .agg #[.int .i64 t.kind, .int .i64 t.num, .int .i64 t.c1, .int .i64 t.r1, .int .i64 t.c2, .int .i64 t.r2, .string ⟨t.word.toArray⟩, .slice A t.kids.length ca]] w1 fun e w' => e = .returned (.agg #[.int .i64 (cmT l t).1, .int .i64 (cmT l t).2]) ∧ Below w1.heap.size w1 w') := Lib.hid fun hr => by
    refine ⟨by unfold ofV; rw [if_pos hr], fun w1 b hb hm => ?_⟩
    exact reckon_any hcb hW ⟨((right_iff t).1 hr).2.2, hf, hcn⟩ w1 (fun _ => True) A ca b (hA.kept (Kept.of_below hb)) hm
  have H3 : Hid (rightP t = false → ofV l t = (0, 3)) := Lib.hid fun hr => by
    unfold ofV; rw [if_neg (by rw [hr]; decide)]
  unfold tv at *
  clear hA hW hf hcn hcb hc hl hpb hB hS
  cases hR : rightP t
  all_goals
    rw [hR] at H1
  · have HE := Lib.hid (H3.out hR)
    clear H2 H3 hR HF
    go_enter Tryz.func7, Tryz.ntmps7
    go_wp2_with fail
    refine (H1.out _ (((Below.refl _ _).alloc (Nat.le_refl _) _).alloc (by simp) _)).mono ?_; rintro e w1 ⟨rfl, b1⟩
    obtain ⟨⟨k0, k1, k2, k3, k4, k5, k6, k7⟩, ⟨r0, r1, f0, f1⟩, z0, z1, b0⟩ := par8 ((Below.refl _ _ : Below (w.heap.size + 1 + 1) _ _).trans (b1.mono (by simp)))
    clear b1 k0 k1 k2 k3 k4 k5 k6 k7
    go_wp2_with fail
    exact bodyPost_ret (v := .agg #[.int .i64 0, .int .i64 3]) (by simp [results, Tryz.results7, go_sem, r0, r1, z1, f0, f1]) rfl
      ⟨by rw [HE.out], (by repeat' (first | with_reducible assumption | exact Nat.le_succ _ | with_reducible exact Nat.le_refl _ | with_reducible refine Below.setCell ?_ ?_ _ | with_reducible refine Below.alloc ?_ ?_ _ | (simp; omega)))⟩
  · obtain ⟨he, hcm⟩ := H2.out hR
    have HE := Lib.hid he
    have HC := Lib.hid hcm
    clear H2 H3 hR he hcm
    generalize cmT l t = X at *
    go_enter Tryz.func7, Tryz.ntmps7
    go_wp2_with fail
    refine (H1.out _ (((Below.refl _ _).alloc (Nat.le_refl _) _).alloc (by simp) _)).mono ?_; rintro e w1 ⟨rfl, b1⟩
    have hb1 := (Below.refl _ _ : Below (w.heap.size + 1 + 1) _ _).trans (b1.mono (by simp))
    obtain ⟨⟨k0, k1, k2, k3, k4, k5, k6, k7⟩, ⟨r0, r1, f0, f1⟩, z0, z1, b0⟩ := par8 hb1
    clear b1 hb1
    go_wp2_with fail
    go_region_held3 (fun w' => w'.cell? ⟨w.heap.size, 0, none⟩ = some (.int .i64 t.kind) ∧ w'.cell? ⟨w.heap.size, 1, none⟩ = some (.int .i64 t.num) ∧ w'.cell? ⟨w.heap.size, 2, none⟩ = some (.int .i64 t.c1) ∧ w'.cell? ⟨w.heap.size, 3, none⟩ = some (.int .i64 t.r1) ∧ w'.cell? ⟨w.heap.size, 4, none⟩ = some (.int .i64 t.c2) ∧ w'.cell? ⟨w.heap.size, 5, none⟩ = some (.int .i64 t.r2) ∧ w'.cell? ⟨w.heap.size, 6, none⟩ = some (.string ⟨t.word.toArray⟩) ∧ w'.cell? ⟨w.heap.size, 7, none⟩ = some (.slice A t.kids.length ca))
      (first | (simp only [World.cell?_drew]; with_reducible exact ⟨k0, k1, k2, k3, k4, k5, k6, k7⟩) | (with_reducible exact ⟨m0, m1, m2, m3, m4, m5, m6, m7⟩) | (with_reducible exact ⟨n0, n1, n2, n3, n4, n5, n6, n7⟩) | go_keep | fail)
      (first
      | (go_at_call 17; refine Calls.mono (HF.out _ (b0.trans ((Below.refl _ _).drew.mono b0.size))) ?_; rintro e w2 ⟨b, rfl, hm2, b2⟩
         have B2 : Below w1.heap.size w1 w2 := (Below.refl _ w1).drew.trans b2
         have m0 := keep_cell B2 k0
         have m1 := keep_cell B2 k1
         have m2 := keep_cell B2 k2
         have m3 := keep_cell B2 k3
         have m4 := keep_cell B2 k4
         have m5 := keep_cell B2 k5
         have m6 := keep_cell B2 k6
         have m7 := keep_cell B2 k7
         have mr0 := keep_cell B2 r0
         have mr1 := keep_cell B2 r1
         have mf0 := keep_frozen B2 z1 f0
         have mf1 := keep_frozen B2 z1 f1
         have mz1 : w.heap.size + 1 < w2.heap.size := Nat.lt_of_lt_of_le z1 B2.size
         have hb2 := b0.trans (B2.mono b0.size)
         clear b2 k0 k1 k2 k3 k4 k5 k6 k7 B2)
      | (go_at_call 18; refine Calls.mono (HC.out w2 b hb2 hm2) ?_; rintro e w3 ⟨rfl, b3⟩
         have n0 := keep_cell b3 m0
         have n1 := keep_cell b3 m1
         have n2 := keep_cell b3 m2
         have n3 := keep_cell b3 m3
         have n4 := keep_cell b3 m4
         have n5 := keep_cell b3 m5
         have n6 := keep_cell b3 m6
         have n7 := keep_cell b3 m7
         have nr0 := keep_cell b3 mr0
         have nr1 := keep_cell b3 mr1
         have nf0 := keep_frozen b3 mz1 mf0
         have nf1 := keep_frozen b3 mz1 mf1
         have nz1 : w.heap.size + 1 < w3.heap.size := Nat.lt_of_lt_of_le mz1 b3.size
         have nne : w.heap.size + 1 ≠ w.heap.size := by omega
         have hb3 := hb2.trans (b3.mono hb2.size)
         clear b3 m0 m1 m2 m3 m4 m5 m6 m7)
      | fail)
    all_goals
      clear hb2 b0
      go_wp2_with fail
      exact bodyPost_ret (v := .agg #[.int .i64 X.1, .int .i64 X.2]) (by simp [results, Tryz.results7, go_sem, nr0, nr1, nz1, nf0, nf1]) rfl
        ⟨by rw [HE.out], (by repeat' (first | with_reducible assumption | exact Nat.le_succ _ | with_reducible exact Nat.le_refl _ | with_reducible refine Below.setCell ?_ ?_ _ | with_reducible refine Below.alloc ?_ ?_ _ | (simp; omega)))⟩
end Go.Proofs.YthaoalmhhgllmaaGreatDoor
namespace Go.Proofs.YthaoalmhhgllmaaGreatDoor
open Go.RowKit
def Here (w : World) (g : Nat) (t : Tr) (A : Option Addr) (ca : Nat) : Prop :=
  w.cell? ⟨g, 0, none⟩ = some (.int .i64 t.kind) ∧ w.cell? ⟨g, 1, none⟩ = some (.int .i64 t.num) ∧ w.cell? ⟨g, 2, none⟩ = some (.int .i64 t.c1) ∧ w.cell? ⟨g, 3, none⟩ = some (.int .i64 t.r1) ∧
  w.cell? ⟨g, 4, none⟩ = some (.int .i64 t.c2) ∧ w.cell? ⟨g, 5, none⟩ = some (.int .i64 t.r2) ∧ w.cell? ⟨g, 6, none⟩ = some (.string ⟨t.word.toArray⟩) ∧ w.cell? ⟨g, 7, none⟩ = some (.slice A t.kids.length ca)
theorem Here.below {w w' : World} {g : Nat} {t : Tr} {A : Option Addr} {ca : Nat} (h : Here w g t A ca) (hb : Below w.heap.size w w') : Here w' g t A ca := by
  obtain ⟨h0, h1, h2, h3, h4, h5, h6, h7⟩ := h
  refine ⟨?_, ?_, ?_, ?_, ?_, ?_, ?_, ?_⟩
  all_goals (rw [hb.cell (Lib.lt_of_cell (by assumption))]; assumption)
theorem Here.new (w : World) (t : Tr) (A : Option Addr) (ca : Nat) : Here (w.alloc (.cells #[.int .i64 t.kind, .int .i64 t.num, .int .i64 t.c1, .int .i64 t.r1, .int .i64 t.c2, .int .i64 t.r2, .string ⟨t.word.toArray⟩, .slice A t.kids.length ca] 29)) w.heap.size t A ca :=
  cells8_of (heap_alloc_new w _)
theorem Here.alloc {w : World} {g : Nat} {t : Tr} {A : Option Addr} {ca : Nat} (h : Here w g t A ca) (ob : Obj) : Here (w.alloc ob) g t A ca := h.below ((Below.refl _ _).alloc (Nat.le_refl _) ob)
end Go.Proofs.YthaoalmhhgllmaaGreatDoor
namespace Go.Proofs.YthaoalmhhgllmaaGreatDoor
open Go.RowKit
theorem cells4_own {w : World} {g : Nat} {q : Cel} (h : w.heap[g]? = some (.cells #[.int .i64 q.c, .int .i64 q.r, .int .i64 q.n, .int .i64 q.f] 44)) {base : Nat} (hb : base ≤ g) : w.ownsRow base 44 4 (.slice (some ⟨g, 0, none⟩) 1 1) 1 (celV q) :=
  ⟨rfl, .inr ⟨g, 1, _, rfl, hb, h, Nat.le_refl _, by unfold maxLen; decide, rfl, rfl⟩⟩
theorem cell_info : (Tryz.prog.info? 44).map (fun i => (i.zero, i.size, i.bytes)) = some (some (.agg #[.int .i64 0, .int .i64 0, .int .i64 0, .int .i64 0]), 4, 32) := by kernel_rfl
theorem at12 {w : World} {g : Nat} (h : w.heap[g]? = some (.cells #[.int .i64 0, .int .i64 0, .int .i64 5, .int .i64 0, .int .i64 2, .int .i64 0, .int .i64 7, .int .i64 0, .int .i64 0, .int .i64 3, .int .i64 3, .int .i64 0] 44)) : AtC w g 0 c71 ∧ AtC w g 4 c72 := by
  have hc : ∀ j v, [Value.int .i64 0, .int .i64 0, .int .i64 5, .int .i64 0, .int .i64 2, .int .i64 0, .int .i64 7, .int .i64 0, .int .i64 0, .int .i64 3, .int .i64 3, .int .i64 0][j]? = some v → w.cell? ⟨g, j, none⟩ = some v := fun j v hv => by
    rw [cell_of_row w g j _ _ _ h]; simpa using hv
  constructor
  · intro i q hi j u hj
    match i, hi with
    | 0, hi => cases hi; match j, hj with
      | 0, hj => cases hj; exact hc 0 _ rfl
      | 1, hj => cases hj; exact hc 1 _ rfl
      | 2, hj => cases hj; exact hc 2 _ rfl
      | 3, hj => cases hj; exact hc 3 _ rfl
    | 1, hi => cases hi; match j, hj with
      | 0, hj => cases hj; exact hc 4 _ rfl
      | 1, hj => cases hj; exact hc 5 _ rfl
      | 2, hj => cases hj; exact hc 6 _ rfl
      | 3, hj => cases hj; exact hc 7 _ rfl
    | 2, hi => cases hi; match j, hj with
      | 0, hj => cases hj; exact hc 8 _ rfl
      | 1, hj => cases hj; exact hc 9 _ rfl
      | 2, hj => cases hj; exact hc 10 _ rfl
      | 3, hj => cases hj; exact hc 11 _ rfl
  · intro i q hi j u hj
    match i, hi with
    | 0, hi => cases hi; match j, hj with
      | 0, hj => cases hj; exact hc 4 _ rfl
      | 1, hj => cases hj; exact hc 5 _ rfl
      | 2, hj => cases hj; exact hc 6 _ rfl
      | 3, hj => cases hj; exact hc 7 _ rfl
    | 1, hi => cases hi; match j, hj with
      | 0, hj => cases hj; exact hc 8 _ rfl
      | 1, hj => cases hj; exact hc 9 _ rfl
      | 2, hj => cases hj; exact hc 10 _ rfl
      | 3, hj => cases hj; exact hc 11 _ rfl
theorem valueGuard : Tryz.prog.eqGuardType Tryz.prog.depth 35 = false := by kernel_rfl
theorem valueStood : Tryz.prog.stoodInHeld 35 = false := by kernel_rfl
theorem valueStruct : Tryz.prog.underlying 35 = some (.struct (Tryz.prog.fieldsOf 35)) := by kernel_rfl
theorem guard_value (op : BinOp) (X Y : Operand) (xs ys : Array Value) (W : World) : (eqGuard op 35 X Y (.agg xs) (.agg ys)).run Tryz.prog W = .ok () W := run_eqGuard_agg W op 35 X Y xs ys valueGuard
theorem eql_value (x y p q : Int) (W : World) : (binOp .eql 35 (.agg #[.int .i64 x, .int .i64 y]) (.agg #[.int .i64 p, .int .i64 q])).run Tryz.prog W = .ok (.bool (x == p && y == q)) W := by
  rw [run_eql_struct, run_equalIn_agg W 9999 35 _ _ valueStruct valueStood]
  by_cases h1 : x = p <;> by_cases h2 : y = q <;> simp [go_sem, h1, h2]
def V2 (w : World) (b : Nat) (n f : Int) : Prop := w.cell? ⟨b, 0, none⟩ = some (.int .i64 n) ∧ w.cell? ⟨b, 1, none⟩ = some (.int .i64 f)
theorem V2.below {w w' : World} {b : Nat} {n f : Int} (h : V2 w b n f) (hb : Below w.heap.size w w') : V2 w' b n f := ⟨keep_cell hb h.1, keep_cell hb h.2⟩
theorem V2.new (w : World) (n f : Int) : V2 (w.alloc (.cells #[.int .i64 n, .int .i64 f] 35)) w.heap.size n f := by constructor <;> simp [go_sem]
def CutV (w wx : World) (n f : Int) (v : Value) : Prop := ∃ b, v = .pointer (some ⟨b, 0, none⟩) ∧ V2 wx b n f ∧ Below w.heap.size w wx
def ls7 : List Value := [.int .i64 0, .int .i64 0, .int .i64 5, .int .i64 0, .int .i64 2, .int .i64 0, .int .i64 7, .int .i64 0, .int .i64 0, .int .i64 3, .int .i64 3, .int .i64 0]
theorem ls7_one : ∀ u ∈ ls7, u.oneCell' = true := by
  intro u hu
  simp only [ls7, List.mem_cons, List.not_mem_nil, or_false] at hu
  rcases hu with rfl | rfl | rfl | rfl | rfl | rfl | rfl | rfl | rfl | rfl | rfl | rfl <;> rfl
theorem news12 {w : World} {g : Nat} (h : AtC w g 0 c71) : ∀ (j : Nat) (u : Value), ls7[j]? = some u → w.cell? ((⟨g, 0, none⟩ : Addr).add j) = some u := by
  intro j u hj
  rw [Go.WideShapes.add_plain, Nat.zero_add]
  have h0 := h.get (i := 0) rfl
  have h1 := h.get (i := 1) rfl
  have h2 := h.get (i := 2) rfl
  simp only [Nat.zero_mul, Nat.one_mul, Nat.zero_add, Nat.reduceMul, Nat.reduceAdd] at h0 h1 h2
  match j, hj with
  | 0, hj => cases hj; exact h0.1
  | 1, hj => cases hj; exact h0.2.1
  | 2, hj => cases hj; exact h0.2.2.1
  | 3, hj => cases hj; exact h0.2.2.2
  | 4, hj => cases hj; exact h1.1
  | 5, hj => cases hj; exact h1.2.1
  | 6, hj => cases hj; exact h1.2.2.1
  | 7, hj => cases hj; exact h1.2.2.2
  | 8, hj => cases hj; exact h2.1
  | 9, hj => cases hj; exact h2.2.1
  | 10, hj => cases hj; exact h2.2.2.1
  | 11, hj => cases hj; exact h2.2.2.2
theorem list73 {w : World} {base g cp : Nat} (h : w.ownsRow base 44 4 (.slice (some ⟨g, 0, none⟩) (1 + 3) cp) (1 + 3) (celV ⟨0, 0, 0, 4⟩ ++ ls7)) : ListC w (some ⟨g, 0, none⟩) c73 := fun _ => ⟨g, 0, rfl, fun i q hi j u hj => by
  have hc : ∀ k v, (celV ⟨0, 0, 0, 4⟩ ++ ls7)[k]? = some v → w.cell? ⟨g, k, none⟩ = some v := fun k v hv => by
    have hl : k < 16 := (List.getElem?_eq_some_iff.1 hv).1
    exact (h.cellAt k (by omega)).trans hv
  match i, hi with
  | 0, hi => cases hi; match j, hj with
    | 0, hj => cases hj; exact hc 0 _ rfl
    | 1, hj => cases hj; exact hc 1 _ rfl
    | 2, hj => cases hj; exact hc 2 _ rfl
    | 3, hj => cases hj; exact hc 3 _ rfl
  | 1, hi => cases hi; match j, hj with
    | 0, hj => cases hj; exact hc 4 _ rfl
    | 1, hj => cases hj; exact hc 5 _ rfl
    | 2, hj => cases hj; exact hc 6 _ rfl
    | 3, hj => cases hj; exact hc 7 _ rfl
  | 2, hi => cases hi; match j, hj with
    | 0, hj => cases hj; exact hc 8 _ rfl
    | 1, hj => cases hj; exact hc 9 _ rfl
    | 2, hj => cases hj; exact hc 10 _ rfl
    | 3, hj => cases hj; exact hc 11 _ rfl
  | 3, hi => cases hi; match j, hj with
    | 0, hj => cases hj; exact hc 12 _ rfl
    | 1, hj => cases hj; exact hc 13 _ rfl
    | 2, hj => cases hj; exact hc 14 _ rfl
    | 3, hj => cases hj; exact hc 15 _ rfl⟩
theorem fr2_grown {w w' : World} {b : Nat} {row : Option Nat} (hg : w.grownBy w' row) (h : Fr2 w b) (hne : some b ≠ row) : Fr2 w' b := by
  have hb := hg.block b h.2.2.2.2 hne
  exact ⟨(World.cell?_of_block (a := ⟨b, 0, none⟩) hb).trans h.1, (World.cell?_of_block (a := ⟨b, 1, none⟩) hb).trans h.2.1, (World.frozen?_of_block (a := ⟨b, 0, none⟩) hb).trans h.2.2.1, (World.frozen?_of_block (a := ⟨b, 1, none⟩) hb).trans h.2.2.2.1, Nat.lt_of_lt_of_le h.2.2.2.2 hg.size⟩
theorem le_s {n m : Nat} (h : n ≤ m) : n ≤ m + 1 := Nat.le_succ_of_le h
theorem le_al {w : World} {n : Nat} {X : Obj} (h : n ≤ w.heap.size) : n ≤ (w.alloc X).heap.size := Nat.le_trans h (by simp)
theorem fr2_a {wc W w6 : World} {X : Obj} {m c : Nat} (hg : W.grownBy w6 (Value.ownBlock (.slice (some ⟨wc.heap.size + 1, 0, none⟩) m c))) (hW : W.heap = ((wc.alloc (.cells #[.int .i64 0, .int .i64 0] 35)).alloc X).heap) : Fr2 w6 wc.heap.size := by
  refine fr2_grown hg ?_ (by simp [Value.ownBlock])
  have h : Fr2 ((wc.alloc (.cells #[.int .i64 0, .int .i64 0] 35)).alloc X) wc.heap.size := by unfold Fr2; simp [go_sem]
  unfold Fr2 World.cell? World.frozen? at *
  rw [hW]; exact h
theorem fr2_b {wc W w6 : World} {X : Obj} {m c : Nat} (hg : W.grownBy w6 (Value.ownBlock (.slice (some ⟨wc.heap.size, 0, none⟩) m c))) (hW : W.heap = ((wc.alloc X).alloc (.cells #[.int .i64 0, .int .i64 0] 35)).heap) : Fr2 w6 (wc.heap.size + 1) := by
  refine fr2_grown hg ?_ (by simp [Value.ownBlock])
  have h : Fr2 ((wc.alloc X).alloc (.cells #[.int .i64 0, .int .i64 0] 35)) (wc.heap.size + 1) := by unfold Fr2; simp [go_sem]
  unfold Fr2 World.cell? World.frozen? at *
  rw [hW]; exact h
set_option maxHeartbeats 8000000 in
set_option maxRecDepth 100000 in
theorem ealive (w : World) {B : Nat} (hSB : B ≤ w.heap.size) (hSt : Strs B B w) :
    Calls Tryz.prog 6 #[] w fun e w' => e = .returned (.bool true) ∧ Below w.heap.size w w' := by
  have HS := Lib.hid (fun w1 (hb : Below w.heap.size w w1) => And.intro (Nat.le_trans hSB hb.size) (hSt.later hSB hb))
  have HP := Lib.hid (fun w => (rparse_any ⟨tx7.toArray⟩ (by decide) w).mono (R' := fun e w' => ∃ A ca, e = .returned (.tuple #[.agg #[.int .i64 tr7.kind, .int .i64 tr7.num, .int .i64 tr7.c1, .int .i64 tr7.r1, .int .i64 tr7.c2, .int .i64 tr7.r2, .string ⟨tr7.word.toArray⟩, .slice A tr7.kids.length ca], .int .i64 0, .int .i64 0]) ∧ KV w' (fun _ => True) tr7 A ∧ Below w.heap.size w w') fun e w' hp => by
    rw [show (⟨tx7.toArray⟩ : ByteArray).data.toList = tx7 from rfl, live_p] at hp
    obtain ⟨⟨A, ca, he, hk⟩, hb⟩ := hp
    exact ⟨A, ca, he, hk.imp fun _ _ => trivial, hb⟩)
  have HO1 := Lib.hid (fun w1 A ca LA lc B hA hc (hB : B ≤ w1.heap.size) hS => eOf_any (l := c71) (by decide) (fun q hq => (live_c c71 (by simp) q hq).1) (fun q hq => (live_c c71 (by simp) q hq).2) tr7 live_w.1 live_w.2 live_n w1 A ca LA lc hA hc hB hS)
  have HO2 := Lib.hid (fun w1 A ca LA lc B hA hc (hB : B ≤ w1.heap.size) hS => eOf_any (l := c72) (by decide) (fun q hq => (live_c c72 (by simp) q hq).1) (fun q hq => (live_c c72 (by simp) q hq).2) tr7 live_w.1 live_w.2 live_n w1 A ca LA lc hA hc hB hS)
  have HO3 := Lib.hid (fun w1 A ca LA lc B hA hc (hB : B ≤ w1.heap.size) hS => eOf_any (l := c73) (by decide) (fun q hq => (live_c c73 (by simp) q hq).1) (fun q hq => (live_c c73 (by simp) q hq).2) tr7 live_w.1 live_w.2 live_n w1 A ca LA lc hA hc hB hS)
  rw [live_1] at HO1
  rw [live_2] at HO2
  rw [live_3] at HO3
  have hl1 := live_w.1.len
  unfold maxLen at hl1
  unfold tx7 at HP
  unfold tv at *
  clear hSB hSt
  generalize tr7 = T at *
  go_enter Tryz.func6, Tryz.ntmps6
  go_wp2_with fail
  refine (HP.out _).mono ?_; rintro e w1 ⟨A, ca, rfl, ht, b1⟩
  have K := Lib.hid (fun w' (hb : Below (w1.heap.size + 1 + 1) ((w1.alloc (.cells #[.int .i64 T.kind, .int .i64 T.num, .int .i64 T.c1, .int .i64 T.r1, .int .i64 T.c2, .int .i64 T.r2, .string ⟨T.word.toArray⟩, .slice A T.kids.length ca] 29)).alloc (.cells #[.int .i64 0, .int .i64 0, .int .i64 5, .int .i64 0, .int .i64 2, .int .i64 0, .int .i64 7, .int .i64 0, .int .i64 0, .int .i64 3, .int .i64 3, .int .i64 0] 44)) w') => show Below w1.heap.size w1 w' ∧ Below w.heap.size w w' from ⟨(((Below.refl _ _).alloc (Nat.le_refl _) _).alloc (by simp) _).trans (hb.mono (by omega)), ((b1.alloc b1.size _).alloc (by have := b1.size; simp; omega) _).trans (hb.mono (by have := b1.size; omega))⟩)
  have HT := Lib.hid (fun w' (hb : Below (w1.heap.size + 1 + 1) ((w1.alloc (.cells #[.int .i64 T.kind, .int .i64 T.num, .int .i64 T.c1, .int .i64 T.r1, .int .i64 T.c2, .int .i64 T.r2, .string ⟨T.word.toArray⟩, .slice A T.kids.length ca] 29)).alloc (.cells #[.int .i64 0, .int .i64 0, .int .i64 5, .int .i64 0, .int .i64 2, .int .i64 0, .int .i64 7, .int .i64 0, .int .i64 0, .int .i64 3, .int .i64 3, .int .i64 0] 44)) w') => ht.kept (Kept.of_below (K.out w' hb).1))
  have HW := Lib.hid (fun w' (hb : Below (w1.heap.size + 1 + 1) ((w1.alloc (.cells #[.int .i64 T.kind, .int .i64 T.num, .int .i64 T.c1, .int .i64 T.r1, .int .i64 T.c2, .int .i64 T.r2, .string ⟨T.word.toArray⟩, .slice A T.kids.length ca] 29)).alloc (.cells #[.int .i64 0, .int .i64 0, .int .i64 5, .int .i64 0, .int .i64 2, .int .i64 0, .int .i64 7, .int .i64 0, .int .i64 0, .int .i64 3, .int .i64 3, .int .i64 0] 44)) w') => HS.out w' (K.out w' hb).2)
  have HL : Hid (∀ w', Below (w1.heap.size + 1 + 1) ((w1.alloc (.cells #[.int .i64 T.kind, .int .i64 T.num, .int .i64 T.c1, .int .i64 T.r1, .int .i64 T.c2, .int .i64 T.r2, .string ⟨T.word.toArray⟩, .slice A T.kids.length ca] 29)).alloc (.cells #[.int .i64 0, .int .i64 0, .int .i64 5, .int .i64 0, .int .i64 2, .int .i64 0, .int .i64 7, .int .i64 0, .int .i64 0, .int .i64 3, .int .i64 3, .int .i64 0] 44)) w' → w'.cell? ⟨w1.heap.size, 0, none⟩ = some (.int .i64 T.kind) ∧ w'.cell? ⟨w1.heap.size, 1, none⟩ = some (.int .i64 T.num) ∧ w'.cell? ⟨w1.heap.size, 2, none⟩ = some (.int .i64 T.c1) ∧ w'.cell? ⟨w1.heap.size, 3, none⟩ = some (.int .i64 T.r1) ∧ w'.cell? ⟨w1.heap.size, 4, none⟩ = some (.int .i64 T.c2) ∧ w'.cell? ⟨w1.heap.size, 5, none⟩ = some (.int .i64 T.r2) ∧ w'.cell? ⟨w1.heap.size, 6, none⟩ = some (.string ⟨T.word.toArray⟩) ∧ w'.cell? ⟨w1.heap.size, 7, none⟩ = some (.slice A T.kids.length ca)) := Lib.hid fun w' hb => by
    have hs := hb.size
    simp at hs
    refine ⟨?_, ?_, ?_, ?_, ?_, ?_, ?_, ?_⟩ <;> (rw [hb.cell (by simp; omega)]; simp [go_sem])
  have HA : Hid (∀ w', Below (w1.heap.size + 1 + 1) ((w1.alloc (.cells #[.int .i64 T.kind, .int .i64 T.num, .int .i64 T.c1, .int .i64 T.r1, .int .i64 T.c2, .int .i64 T.r2, .string ⟨T.word.toArray⟩, .slice A T.kids.length ca] 29)).alloc (.cells #[.int .i64 0, .int .i64 0, .int .i64 5, .int .i64 0, .int .i64 2, .int .i64 0, .int .i64 7, .int .i64 0, .int .i64 0, .int .i64 3, .int .i64 3, .int .i64 0] 44)) w' → ListC w' (some ⟨w1.heap.size + 1, 0, none⟩) c71 ∧ ListC w' (some ⟨w1.heap.size + 1, 4, none⟩) c72 ∧ AtC w' (w1.heap.size + 1) 0 c71) := Lib.hid fun w' hb => by
    have h := at12 (w := w') (g := w1.heap.size + 1) ((hb.block (w1.heap.size + 1) (by omega)).trans (by have := (MapKept.heap_alloc (w1.alloc (.cells #[.int .i64 T.kind, .int .i64 T.num, .int .i64 T.c1, .int .i64 T.r1, .int .i64 T.c2, .int .i64 T.r2, .string ⟨T.word.toArray⟩, .slice A T.kids.length ca] 29)) (.cells #[.int .i64 0, .int .i64 0, .int .i64 5, .int .i64 0, .int .i64 2, .int .i64 0, .int .i64 7, .int .i64 0, .int .i64 0, .int .i64 3, .int .i64 3, .int .i64 0] 44)).1; simpa using this))
    exact ⟨fun _ => ⟨_, _, rfl, h.1⟩, fun _ => ⟨_, _, rfl, h.2⟩, h.1⟩
  have HB0 : Hid (Below (w1.heap.size + 1 + 1) ((w1.alloc (.cells #[.int .i64 T.kind, .int .i64 T.num, .int .i64 T.c1, .int .i64 T.r1, .int .i64 T.c2, .int .i64 T.r2, .string ⟨T.word.toArray⟩, .slice A T.kids.length ca] 29)).alloc (.cells #[.int .i64 0, .int .i64 0, .int .i64 5, .int .i64 0, .int .i64 2, .int .i64 0, .int .i64 7, .int .i64 0, .int .i64 0, .int .i64 3, .int .i64 3, .int .i64 0] 44)) ((w1.alloc (.cells #[.int .i64 T.kind, .int .i64 T.num, .int .i64 T.c1, .int .i64 T.r1, .int .i64 T.c2, .int .i64 T.r2, .string ⟨T.word.toArray⟩, .slice A T.kids.length ca] 29)).alloc (.cells #[.int .i64 0, .int .i64 0, .int .i64 5, .int .i64 0, .int .i64 2, .int .i64 0, .int .i64 7, .int .i64 0, .int .i64 0, .int .i64 3, .int .i64 3, .int .i64 0] 44))) := Lib.hid (Below.refl _ _)
  have HK := Lib.hid (fun w' hb => (K.out w' hb).2)
  clear b1 ht K
  go_wp2_with fail
  refine Calls.mono (HO1.out _ A ca (some ⟨w1.heap.size + 1, 0, none⟩) 3 B (HT.out _ HB0.out) (HA.out _ HB0.out).1 (HW.out _ HB0.out).1 (HW.out _ HB0.out).2) ?_; rintro e w2 ⟨rfl, b2⟩
  have HB2 : Hid (Below (w1.heap.size + 1 + 1) ((w1.alloc (.cells #[.int .i64 T.kind, .int .i64 T.num, .int .i64 T.c1, .int .i64 T.r1, .int .i64 T.c2, .int .i64 T.r2, .string ⟨T.word.toArray⟩, .slice A T.kids.length ca] 29)).alloc (.cells #[.int .i64 0, .int .i64 0, .int .i64 5, .int .i64 0, .int .i64 2, .int .i64 0, .int .i64 7, .int .i64 0, .int .i64 0, .int .i64 3, .int .i64 3, .int .i64 0] 44)) (w2.alloc (.cells #[.int .i64 33, .int .i64 0] 35))) := Lib.hid ((HB0.out.trans (b2.mono (by simp))).alloc (by have := b2.size; simp at this; omega) _)
  have V1 := Lib.hid (V2.new w2 33 0)
  have n12 : w2.heap.size ≠ w1.heap.size := by have := b2.size; simp at this; omega
  clear b2 HB0
  go_wp2_with fail
  generalize w2.alloc (.cells #[.int .i64 33, .int .i64 0] 35) = W3 at *
  have z3 : (w1.heap.size + 1 + 1) ≤ W3.heap.size := by have := HB2.out.size; simpa using this
  have HZ3 := Lib.hid z3
  go_cut [6] from 26 to 29 (fun s6 wx => CutV W3 wx 0 2 s6)
  case first =>
    go_region_held3 (fun w' => w'.cell? ⟨w1.heap.size, 0, none⟩ = some (.int .i64 T.kind) ∧ w'.cell? ⟨w1.heap.size, 1, none⟩ = some (.int .i64 T.num) ∧ w'.cell? ⟨w1.heap.size, 2, none⟩ = some (.int .i64 T.c1) ∧ w'.cell? ⟨w1.heap.size, 3, none⟩ = some (.int .i64 T.r1) ∧ w'.cell? ⟨w1.heap.size, 4, none⟩ = some (.int .i64 T.c2) ∧ w'.cell? ⟨w1.heap.size, 5, none⟩ = some (.int .i64 T.r2) ∧ w'.cell? ⟨w1.heap.size, 6, none⟩ = some (.string ⟨T.word.toArray⟩) ∧ w'.cell? ⟨w1.heap.size, 7, none⟩ = some (.slice A T.kids.length ca))
      (with_reducible exact HL.out _ (by with_reducible repeat' (first | exact HB2.out | exact B4 | exact HZ3.out | exact Z4 | refine Below.drew ?_ | refine Below.alloc ?_ ?_ _ | refine Below.setCell ?_ ?_ _ | refine le_al ?_ | refine le_s ?_)))
      (first
      | (go_at_call 7
         refine Calls.mono (HO2.out _ A ca (some ⟨w1.heap.size + 1, 4, none⟩) 2 B (HT.out _ (by with_reducible repeat' (first | exact HB2.out | exact HZ3.out | refine Below.drew ?_ | refine Below.alloc ?_ ?_ _ | refine Below.setCell ?_ ?_ _ | refine le_al ?_ | refine le_s ?_))) (HA.out _ (by with_reducible repeat' (first | exact HB2.out | exact HZ3.out | refine Below.drew ?_ | refine Below.alloc ?_ ?_ _ | refine Below.setCell ?_ ?_ _ | refine le_al ?_ | refine le_s ?_))).2.1 (HW.out _ (by with_reducible repeat' (first | exact HB2.out | exact HZ3.out | refine Below.drew ?_ | refine Below.alloc ?_ ?_ _ | refine Below.setCell ?_ ?_ _ | refine le_al ?_ | refine le_s ?_))).1 (HW.out _ (by with_reducible repeat' (first | exact HB2.out | exact HZ3.out | refine Below.drew ?_ | refine Below.alloc ?_ ?_ _ | refine Below.setCell ?_ ?_ _ | refine le_al ?_ | refine le_s ?_))).2) ?_; rintro e w4 ⟨rfl, b4⟩
         have C4 : Below W3.heap.size W3 w4 := below_up (by with_reducible repeat' (first | exact Below.refl _ _ | exact Nat.le_refl _ | refine Below.drew ?_ | refine Below.alloc ?_ ?_ _ | refine Below.setCell ?_ ?_ _ | refine le_al ?_ | refine le_s ?_)) b4
         try (have b4a := fresh_drew b4; have yy := fr2 b4a; have y0 := yy.1; have y1 := yy.2.1; have yf := yy.2.2.1; have yg := yy.2.2.2.1; have yz := yy.2.2.2.2; clear b4a yy)
         have B4 := HB2.out.trans (C4.mono z3)
         have Z4 := Nat.le_trans z3 C4.size)
      | fail)
    all_goals
      go_wp2_with fail
      go_meet
      first
      | exact ⟨_, rfl, V2.new w4 0 2, C4.alloc C4.size _⟩
      | exact ⟨_, rfl, ⟨by simp [go_sem, y0, y1, yz], by simp [go_sem, y0, y1, yz]⟩, (C4.setCell (Nat.le_refl _) _).setCell (Nat.le_refl _) _⟩
  case rest =>
    obtain ⟨b5, rfl, v5, B5⟩ := hcut
    have HB5 := Lib.hid (HB2.out.trans (B5.mono z3))
    have HZ5 := Lib.hid (Nat.le_trans z3 B5.size)
    have HV1 := Lib.hid (V1.below B5)
    have HV5 := Lib.hid v5
    clear B5 v5 V1 HB2 HZ3 z3
    obtain ⟨i0, hi0, hz0, hz1, hz2⟩ := info_parts cell_info
    go_wp2_with fail
    go_cut [7] from 30 to 37 (fun s7 wx => CutV wc wx 0 4 s7)
    case first =>
      go_region_held3 (fun w' => w'.cell? ⟨w1.heap.size, 0, none⟩ = some (.int .i64 T.kind) ∧ w'.cell? ⟨w1.heap.size, 1, none⟩ = some (.int .i64 T.num) ∧ w'.cell? ⟨w1.heap.size, 2, none⟩ = some (.int .i64 T.c1) ∧ w'.cell? ⟨w1.heap.size, 3, none⟩ = some (.int .i64 T.r1) ∧ w'.cell? ⟨w1.heap.size, 4, none⟩ = some (.int .i64 T.c2) ∧ w'.cell? ⟨w1.heap.size, 5, none⟩ = some (.int .i64 T.r2) ∧ w'.cell? ⟨w1.heap.size, 6, none⟩ = some (.string ⟨T.word.toArray⟩) ∧ w'.cell? ⟨w1.heap.size, 7, none⟩ = some (.slice A T.kids.length ca))
        (with_reducible exact HL.out _ (by with_reducible repeat' (first | exact HB5.out | exact B7 | exact B6 | exact HZ5.out | exact Z6 | exact Z7 | refine Below.drew ?_ | refine Below.alloc ?_ ?_ _ | refine Below.setCell ?_ ?_ _ | refine le_al ?_ | refine le_s ?_)))
        (first
        | (have hB := B6; clear hB; go_at_call 7
           refine Calls.mono (HO3.out _ A ca (some ⟨g6, 0, none⟩) cp6 B (HT.out _ (by with_reducible repeat' (first | exact B6 | exact Z6 | refine Below.drew ?_ | refine Below.alloc ?_ ?_ _ | refine Below.setCell ?_ ?_ _ | refine le_al ?_ | refine le_s ?_))) (L6.below (by with_reducible repeat' (first | exact Below.refl _ _ | exact Nat.le_refl _ | refine Below.drew ?_ | refine Below.alloc ?_ ?_ _ | refine Below.setCell ?_ ?_ _ | refine le_al ?_ | refine le_s ?_))) (HW.out _ (by with_reducible repeat' (first | exact B6 | exact Z6 | refine Below.drew ?_ | refine Below.alloc ?_ ?_ _ | refine Below.setCell ?_ ?_ _ | refine le_al ?_ | refine le_s ?_))).1 (HW.out _ (by with_reducible repeat' (first | exact B6 | exact Z6 | refine Below.drew ?_ | refine Below.alloc ?_ ?_ _ | refine Below.setCell ?_ ?_ _ | refine le_al ?_ | refine le_s ?_))).2) ?_; rintro e w7 ⟨rfl, b7⟩
           have C7 : Below wc.heap.size wc w7 := below_up (by with_reducible repeat' (first | exact C6 | exact C6.size | refine Below.drew ?_ | refine Below.alloc ?_ ?_ _ | refine Below.setCell ?_ ?_ _ | refine le_al ?_ | refine le_s ?_)) b7
           have B7 := HB5.out.trans (C7.mono HZ5.out)
           have Z7 := Nat.le_trans HZ5.out C7.size
           try (have yy := y6.below b7; have y0 := yy.1; have y1 := yy.2.1; have yf := yy.2.2.1; have yg := yy.2.2.2.1; have yz := yy.2.2.2.2; clear yy)
           try (have yy := fr2 b7; have y0 := yy.1; have y1 := yy.2.1; have yf := yy.2.2.1; have yg := yy.2.2.2.1; have yz := yy.2.2.2.2; clear yy)
           clear b7)
        | (refine step_append_lies _ (by rfl) _ _ _ (by rfl) wc.heap.size 44 i0 (.agg #[.int .i64 0, .int .i64 0, .int .i64 0, .int .i64 0]) 4 32 Tryz.underlying30 hi0 hz0 hz1 hz2 rfl (by omega) _ 1 (celV ⟨0, 0, 0, 4⟩) (by rfl) (cells4_own (q := ⟨0, 0, 0, 4⟩) (by first | exact heap_new1 _ _ | exact heap2_new _ _ _ | exact heap2_old _ _ _) (by omega))
              ⟨w1.heap.size + 1, 0, none⟩ 3 3 ls7 (by rfl) (by rfl) (news12 (HA.out _ (by with_reducible repeat' (first | exact HB5.out | exact HZ5.out | refine Below.drew ?_ | refine Below.alloc ?_ ?_ _ | refine Below.setCell ?_ ?_ _ | refine le_al ?_ | refine le_s ?_))).2.2) ls7_one
              (by omega) (by unfold maxLen; omega) (by omega) (by first | (simp; done) | (simp; omega)) _ rfl ?_; intro g6 cp6 w6 hown6 hgrow6 hat6 hlt6
           have C6 : Below wc.heap.size wc w6 := Below.grown (by with_reducible repeat' (first | exact Below.refl _ _ | exact Nat.le_refl _ | refine Below.drew ?_ | refine Below.alloc ?_ ?_ _ | refine Below.setCell ?_ ?_ _ | refine le_al ?_ | refine le_s ?_)) hgrow6 (by first | (simp; done) | (simp; omega)) (fun k hk => by simp [Value.ownBlock] at hk; omega)
           have B6 := HB5.out.trans (C6.mono HZ5.out)
           have Z6 := Nat.le_trans HZ5.out C6.size
           have L6 := list73 hown6
           try (have y6 := fr2_a hgrow6 rfl)
           try (have y6 := fr2_b hgrow6 rfl)
           clear hown6 hgrow6 hat6 hlt6)
        | fail)
      all_goals
        go_wp2_with fail
        go_meet
        first
        | exact ⟨_, rfl, V2.new w7 0 4, C7.alloc C7.size _⟩
        | exact ⟨_, rfl, ⟨by simp [go_sem, y0, y1, yz], by simp [go_sem, y0, y1, yz]⟩, (C7.setCell (Nat.le_refl _) _).setCell (Nat.le_refl _) _⟩
        | exact ⟨_, rfl, ⟨by simp [go_sem, y0, y1, yz], by simp [go_sem, y0, y1, yz]⟩, (C7.setCell (Nat.le_succ _) _).setCell (Nat.le_succ _) _⟩
        | exact ⟨_, rfl, ⟨by simp [go_sem, y0, y1, yz], by simp [go_sem, y0, y1, yz]⟩, (C7.setCell C6.size _).setCell C6.size _⟩
    case rest =>
      obtain ⟨b7, rfl, v7, B7⟩ := hcut
      obtain ⟨p0, p1⟩ := HV1.out.below B7
      obtain ⟨q0, q1⟩ := HV5.out.below B7
      obtain ⟨r0, r1⟩ := v7
      have hb := (HW.out _ (HB5.out.trans (B7.mono HZ5.out)))
      have HBB := Lib.hid (HK.out _ (HB5.out.trans (B7.mono HZ5.out)))
      have hG := fun X Y W n f m g => guard_value .eql X Y #[.int .i64 n, .int .i64 f] #[.int .i64 m, .int .i64 g] W
      have hE := fun n f m g W => eql_value n f m g W
      clear hb HB5 HZ5 HV1 HV5 B7 HL HA HT HW HO1 HO2 HO3 HP HS
      go_wp2_with fail
      go_ret
      exact ⟨rfl, HBB.out⟩
end Go.Proofs.YthaoalmhhgllmaaGreatDoor
namespace Go.Proofs.YthaoalmhhgllmaaGreatDoor
open Go.RowKit
def witB : Nat → Tr → Bool
  | 0, _ => false
  | m + 1, t => decide (t.kids.length ≤ 400) && t.kids.all (witB m)
theorem wit_deep : ∀ {m : Nat} {t : Tr}, witB m t = true → deepT t ≤ m
  | 0, t, h => by cases h
  | m + 1, t, h => by
    rw [witB, Bool.and_eq_true, List.all_eq_true] at h
    rw [deep_eq]
    have key : ∀ (ks : List Tr), (∀ x ∈ ks, witB m x = true) → deepL ks ≤ m := by
      intro ks
      induction ks with
      | nil => intro _; rw [deepL]; exact Nat.zero_le _
      | cons a r ih =>
        intro hk
        rw [deepL]
        exact Nat.max_le.2 ⟨wit_deep (hk a (by simp)), ih fun x hx => hk x (by simp [hx])⟩
    have := key t.kids h.2
    omega
theorem all_take' {f : Tr → Bool} {ks : List Tr} {i : Nat} {u : Tr} (h : ks[i]? = some u) (ha : (ks.take i).all f = true) (hu : f u = true) : (ks.take (i + 1)).all f = true := by
  rw [List.take_add_one, h, List.all_append, ha]
  simp [hu]
theorem all_bad' {f : Tr → Bool} {ks : List Tr} {i : Nat} {u : Tr} (h : ks[i]? = some u) (hu : f u = false) : ks.all f = false := by
  rw [List.all_eq_false]
  exact ⟨u, List.mem_of_getElem? h, by rw [hu]; decide⟩
set_option maxHeartbeats 2000000 in
set_option maxRecDepth 10000 in
theorem lwithin_any : ∀ (m : Nat) (t : Tr), m ≤ 1000 → Wid t → ∀ (q : Int), q = (m : Int) → ∀ (w : World) (P : Nat → Prop) (A : Option Addr) (cap : Nat), KV w P t A →
    Calls Tryz.prog 14 #[tv t A cap, .int .i64 q] w fun e w' => e = .returned (.bool (witB m t)) ∧ Below w.heap.size w w' := by
  intro m
  induction m with
  | zero =>
    intro t _ _ q hq w P A cap _
    subst hq
    unfold tv
    go_enter Tryz.func14, Tryz.ntmps14
    go_wp2_with fail
    go_ret
    exact ⟨rfl, (Below.refl _ _).alloc (Nat.le_refl _) _⟩
  | succ m ih =>
    intro t hm hw q hq w P A cap hk
    unfold tv
    have hlen := hw.len
    unfold maxLen at hlen
    have HW := Lib.hid hw
    have HK := Lib.hid hk
    have HI := Lib.hid ih
    have HB : Hid (witB (m + 1) t = (decide (t.kids.length ≤ 400) && t.kids.all (witB m))) := Lib.hid rfl
    have dm : (q == 0) = false := by rw [beq_eq_false_iff_ne]; omega
    have hq1 : 1 ≤ q ∧ q ≤ 1000 := by omega
    have HQ := Lib.hid (show q - 1 = (m : Int) from by omega)
    have hm' : m ≤ 1000 := by omega
    clear hk ih hw hq hm
    by_cases h4 : 400 < t.kids.length
    · have d4 : decide ((400 : Int) < (t.kids.length : Int)) = true := decide_eq_true (by omega)
      have HF := Lib.hid (show witB (m + 1) t = false from by rw [HB.out, decide_eq_false (by omega)]; rfl)
      clear h4 HB
      go_enter Tryz.func14, Tryz.ntmps14
      go_wp2_with fail
      go_ret
      exact ⟨by rw [HF.out]; rfl, (Below.refl _ _).alloc (Nat.le_refl _) _⟩
    · have d4 : decide ((400 : Int) < (t.kids.length : Int)) = false := decide_eq_false (by omega)
      have HB2 := Lib.hid (show witB (m + 1) t = t.kids.all (witB m) from by rw [HB.out, decide_eq_true (by omega)]; rfl)
      clear h4 HB
      go_enter Tryz.func14, Tryz.ntmps14
      go_wp2_with fail
      go_loopw [5] (fun vi wr => ∃ i : Nat, i ≤ t.kids.length ∧ vi = .int .i64 (i : Int) ∧ Hid ((t.kids.take i).all (witB m) = true) ∧ Below w.heap.size w wr ∧ w.heap.size < wr.heap.size ∧ wr.cell? ⟨w.heap.size, 7, none⟩ = some (.slice A t.kids.length cap)) (fun vi _ => t.kids.length - (intOf vi).toNat)
      case atStart => exact ⟨0, Nat.zero_le _, rfl, Lib.hid rfl, (Below.refl _ _).alloc (Nat.le_refl _) _, by simp, by simp [go_sem]⟩
      case round =>
        obtain ⟨i, hi, rfl, HTK, hbel, hsz, c7⟩ := hrel
        by_cases hlt : i < t.kids.length
        · have hu : t.kids[i]? = some (t.kids[i]'hlt) := List.getElem?_eq_getElem hlt
          obtain ⟨g, o, rfl⟩ := HK.out.addr hu
          obtain ⟨hg, A', cap', h8, hkv⟩ := HK.out.kidAt hbel hu
          have HTE := Lib.hid fun e => all_take' hu HTK.out e
          have HTB := Lib.hid fun e => all_bad' (f := witB m) hu e
          have HC := Lib.hid (HI.out _ hm' (HW.out.kid hu) (q - 1) HQ.out wr _ A' cap' hkv)
          generalize t.kids[i]'hlt = x at *
          unfold At8 at h8
          unfold tv at HC
          obtain ⟨q0, q1, q2, q3, q4, q5, q6, q7⟩ := h8
          clear hkv hu
          go_wp2_with fail
          refine HC.out.mono ?_; rintro e w1 ⟨rfl, b1⟩
          have e7 := keep_cell b1 c7
          have s7 : w.heap.size < w1.heap.size := Nat.lt_of_lt_of_le hsz b1.size
          have hb1 := hbel.trans (b1.mono hbel.size)
          clear b1 c7 q0 q1 q2 q3 q4 q5 q6 q7
          generalize hM : witB m x = M at *
          cases M with
          | true =>
            have HG := Lib.hid (HTE.out rfl)
            clear HTE HTB hM
            go_wp2_with fail
            go_roundw
            case rel => exact ⟨i + 1, by omega, by go_num, HG, hb1, s7, e7⟩
            case measure => simp [intOf]; omega
          | false =>
            have HF := Lib.hid (HTB.out rfl)
            clear HTE HTB hM
            go_wp2_with fail
            go_ret
            exact ⟨by rw [HB2.out, HF.out]; rfl, hb1⟩
        · have hii : i = t.kids.length := by omega
          subst hii
          have hz : t.kids.all (witB m) = true := by have := HTK.out; rwa [List.take_length] at this
          have HZ := Lib.hid hz
          clear hz
          go_wp2_with fail
          go_ret
          exact ⟨by rw [HB2.out, HZ.out]; rfl, hbel⟩
end Go.Proofs.YthaoalmhhgllmaaGreatDoor
namespace Go.Proofs.YthaoalmhhgllmaaGreatDoor
open Go.RowKit
def fitsB (t : Tr) : Bool := decide (szT t 400 ≤ 400) && witB 40 t
theorem fits_iff {t : Tr} : fitsB t = true ↔ szT t 400 ≤ 400 ∧ witB 40 t = true := by unfold fitsB; simp
theorem fits_deep {t : Tr} (h : fitsB t = true) : deepT t ≤ 40 := wit_deep (fits_iff.1 h).2
set_option maxHeartbeats 1000000 in
set_option maxRecDepth 10000 in
theorem lfits_any (t : Tr) (hW : Wid t) (w : World) (A : Option Addr) (cap : Nat) (hk : KV w (fun _ => True) t A) :
    Calls Tryz.prog 5 #[tv t A cap] w fun e w' => e = .returned (.bool (fitsB t)) ∧ Below w.heap.size w w' := by
  have hlen := hW.len
  unfold maxLen at hlen
  have h0 : ∀ ob, Below w.heap.size w (w.alloc ob) := fun ob => (Below.refl _ _).alloc (Nat.le_refl _) ob
  have H1 := Lib.hid (fun ob => lsize_any hW 400 (by decide) (by decide) (w.alloc ob) (fun _ => True) A cap (hk.kept (Kept.of_below (h0 ob))))
  have H2 := Lib.hid (fun w1 (hb : Below w.heap.size w w1) => lwithin_any 40 t (by decide) hW 40 rfl w1 (fun _ => True) A cap (hk.kept (Kept.of_below hb)))
  have hb := szT_bound t 400 (by decide)
  unfold tv at *
  by_cases hz : szT t 400 ≤ 400
  · have hf : fitsB t = witB 40 t := by unfold fitsB; rw [decide_eq_true hz]; rfl
    have HF := Lib.hid hf
    have dz : decide (400 < szT t 400) = false := decide_eq_false (by omega)
    generalize szT t 400 = z at *
    clear hk hW hz hf
    go_enter Tryz.func5, Tryz.ntmps5
    go_wp2_with fail
    refine (H1.out _).mono ?_; rintro e w1 ⟨rfl, b1⟩
    have k10 := keep_fresh b1 0 (v := .int .i64 t.kind) rfl
    have k11 := keep_fresh b1 1 (v := .int .i64 t.num) rfl
    have k12 := keep_fresh b1 2 (v := .int .i64 t.c1) rfl
    have k13 := keep_fresh b1 3 (v := .int .i64 t.r1) rfl
    have k14 := keep_fresh b1 4 (v := .int .i64 t.c2) rfl
    have k15 := keep_fresh b1 5 (v := .int .i64 t.r2) rfl
    have k16 := keep_fresh b1 6 (v := .string ⟨t.word.toArray⟩) rfl
    have k17 := keep_fresh b1 7 (v := .slice A t.kids.length cap) rfl
    have h1 : Below w.heap.size w w1 := ((Below.refl _ _).alloc (Nat.le_refl _) _).trans (b1.mono (by simp))
    have HH := Lib.hid h1
    clear b1 h1
    go_wp2_with fail
    refine (H2.out w1 HH.out).mono ?_; rintro e w2 ⟨rfl, b2⟩
    have h2 := HH.out.trans (b2.mono HH.out.size)
    clear b2 k10 k11 k12 k13 k14 k15 k16 k17
    go_wp2_with fail
    go_ret
    exact ⟨by rw [HF.out]; rfl, h2⟩
  · have hf : fitsB t = false := by unfold fitsB; rw [decide_eq_false hz]; rfl
    have HF := Lib.hid hf
    have dz : decide (400 < szT t 400) = true := decide_eq_true (by omega)
    generalize szT t 400 = z at *
    clear hk hW hz hf
    go_enter Tryz.func5, Tryz.ntmps5
    go_wp2_with fail
    refine (H1.out _).mono ?_; rintro e w1 ⟨rfl, b1⟩
    have h1 : Below w.heap.size w w1 := ((Below.refl _ _).alloc (Nat.le_refl _) _).trans (b1.mono (by simp))
    clear b1
    go_wp2_with fail
    go_ret
    exact ⟨by rw [HF.out]; rfl, h1⟩
end Go.Proofs.YthaoalmhhgllmaaGreatDoor
namespace Go.Proofs.YthaoalmhhgllmaaGreatDoor
open Go.RowKit
structure GC (t : Tr) (l : List Cel) : Prop where
  wid : Wid t
  fit : Fit t
  len : l.length ≤ maxLen
  num : ∀ q ∈ l, B64 q.n
  plc : ∀ q ∈ l, B64 q.c ∧ B64 q.r
theorem fits_cnt {t : Tr} (h : fitsB t = true) : cntT t ≤ 1000000 := by
  have h1 := (fits_iff.1 h).1
  have h2 := szT_cnt t 400 (by decide) h1
  omega
end Go.Proofs.YthaoalmhhgllmaaGreatDoor
