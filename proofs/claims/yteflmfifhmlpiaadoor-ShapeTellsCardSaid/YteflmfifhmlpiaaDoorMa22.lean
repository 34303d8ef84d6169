/- Texts joined: TrY, ShF, ShG, RefIa, RefJ, PlG. -/
import Derived.Test.YteflmfifhmlpiaaDoorMa21
import Derived.Test.YteflmfifhmlpiaaDoorMa17
import Derived.Test.YteflmfifhmlpiaaDoorMa15
import Derived.Test.YteflmfifhmlpiaaDoorMa02
import Derived.Test.YteflmfifhmlpiaaDoorMa10
import Derived.Deep.RegionWith
import Derived.Deep.CutRange
import Derived.Test.YteflmfifhmlpiaaDoorMa11
import Derived.Test.YteflmfifhmlpiaaDoorMa14
import Derived.OwnWalk
import Derived.Deep.Onto
set_option linter.all false
set_option linter.unusedVariables false
set_option linter.unusedSimpArgs false
namespace Go.Proofs.YteflmfifhmlpiaaDoor
open Go.RowKit

set_option maxHeartbeats 2000000 in
set_option maxRecDepth 10000 in
theorem rmay_none (t : Tr) (w : World) (A : Option Addr) (cap : Nat) (h0 : t.kind ≠ 0) (h1 : t.kind ≠ 1) (h2 : t.kind ≠ 2) (h6 : t.kind ≠ 6) (h3 : t.kind ≠ 3) (h4 : t.kind ≠ 4) (h5 : t.kind ≠ 5) :
    Calls Tryd.prog 38 #[tv t A cap] w fun e w' => e = .returned (.bool (mayB t)) ∧ Below w.heap.size w w' := by
  unfold tv
  have HM := Lib.hid (may_no h0 h1 h2 h6 h3 h4 h5)
  have s0 : (t.kind == 0) = false := by rw [beq_eq_false_iff_ne]; exact h0
  have s1 : (t.kind == 1) = false := by rw [beq_eq_false_iff_ne]; exact h1
  have s2 : (t.kind == 2) = false := by rw [beq_eq_false_iff_ne]; exact h2
  have s6 : (t.kind == 6) = false := by rw [beq_eq_false_iff_ne]; exact h6
  have s3 : (t.kind == 3) = false := by rw [beq_eq_false_iff_ne]; exact h3
  have s4 : (t.kind == 4) = false := by rw [beq_eq_false_iff_ne]; exact h4
  have s5 : (t.kind == 5) = false := by rw [beq_eq_false_iff_ne]; exact h5
  clear h0 h1 h2 h6 h3 h4 h5
  go_enter Tryd.func38, Tryd.ntmps38
  go_wp2_with fail
  go_ret
  exact ⟨by rw [HM.out]; rfl, (Below.refl _ _).alloc (Nat.le_refl _) _⟩
theorem rmay_any : ∀ d, MayC d
  | 0 => fun t h => by rw [deep_eq] at h; omega
  | d + 1 => by
    have ih := rmay_any d
    intro t hd hw w P A cap hk
    have hdl := kids_deep hd
    by_cases h0 : t.kind = 0
    · exact rmay_0 t w A cap h0
    by_cases h1 : t.kind = 1
    · exact rmay_1 t w A cap h1
    by_cases h2 : t.kind = 2
    · exact rmay_2 t w A cap h2
    by_cases h6 : t.kind = 6
    · exact rmay_6 t w A cap h6
    by_cases h3 : t.kind = 3
    · exact rmay_3 t w A cap ih hdl hw P hk h3
    by_cases h4 : t.kind = 4
    · exact rmay_4 t w A cap ih hdl hw P hk h4
    by_cases h5 : t.kind = 5
    · by_cases e1 : t.word = [73, 70]
      · exact rmay_5IF t w A cap ih hdl hw P hk e1 h5
      by_cases e2 : t.word = [83, 85, 77]
      · exact rmay_5SUM t w A cap ih hdl hw P hk e2 h5
      by_cases e3 : t.word = [77, 73, 78]
      · exact rmay_5MIN t w A cap ih hdl hw P hk e3 h5
      by_cases e4 : t.word = [77, 65, 88]
      · exact rmay_5MAX t w A cap ih hdl hw P hk e4 h5
      by_cases e5 : t.word = [67, 79, 85, 78, 84]
      · exact rmay_5COUNT t w A cap ih hdl hw P hk e5 h5
      exact rmay_5no t w A cap ih hdl hw P hk e1 e2 e3 e4 e5 h5
    exact rmay_none t w A cap h0 h1 h2 h6 h3 h4 h5
def rightT (t : Tr) : Bool := decide (deepT t ≤ 16) && (t.kind != 6 && mayB t)
set_option maxHeartbeats 2000000 in
set_option maxRecDepth 10000 in
theorem rRight_any (t : Tr) (hd : deepT t ≤ 1000000000) (hw : Wid t) (w : World) (P : Nat → Prop) (A : Option Addr) (cap : Nat) (hk : KV w P t A) :
    Calls Tryd.prog 19 #[tv t A cap] w fun e w' => e = .returned (.bool (rightT t)) ∧ Below w.heap.size w w' := by
  have HD := Lib.hid fun (w : World) (P : Nat → Prop) hk => rdeep_any _ t hd (Nat.le_refl _) hw w P A cap hk
  have HM := Lib.hid fun (w : World) (P : Nat → Prop) hk => rmay_any _ t hd hw w P A cap hk
  have HK := Lib.hid hk
  unfold tv at HD HM
  unfold tv
  have HR : Hid (rightT t = (decide (deepT t ≤ 16) && (t.kind != 6 && mayB t))) := Lib.hid rfl
  clear hk hw
  have hm6 : (t.kind != 6) = !(t.kind == 6) := rfl
  by_cases hq : deepT t ≤ 16
  · have d0 : decide (16 < deepT t) = false := decide_eq_false (by omega)
    rw [decide_eq_true hq] at HR
    cases h6 : (t.kind == 6) with
    | true =>
      rw [hm6, h6] at HR
      clear hm6
      go_enter Tryd.func19, Tryd.ntmps19
      go_wp2_with fail
      refine (HD.out _ _ (HK.out.kept ((Kept.refl _ _).alloc _))).mono ?_; rintro e w1 ⟨rfl, b1⟩
      have k0 := keep_fresh b1 0 (v := .int .i64 t.kind) rfl
      have h1 : Below w.heap.size w w1 := ((Below.refl _ _).alloc (Nat.le_refl _) _).trans (b1.mono (by simp))
      clear b1
      go_wp2_with fail
      go_ret
      exact ⟨by rw [HR.out]; rfl, h1⟩
    | false =>
      rw [hm6, h6] at HR
      clear hm6
      go_enter Tryd.func19, Tryd.ntmps19
      go_wp2_with fail
      refine (HD.out _ _ (HK.out.kept ((Kept.refl _ _).alloc _))).mono ?_; rintro e w1 ⟨rfl, b1⟩
      have k0 := keep_fresh b1 0 (v := .int .i64 t.kind) rfl
      have k1 := keep_fresh b1 1 (v := .int .i64 t.num) rfl
      have k2 := keep_fresh b1 2 (v := .int .i64 t.c1) rfl
      have k3 := keep_fresh b1 3 (v := .int .i64 t.r1) rfl
      have k4 := keep_fresh b1 4 (v := .int .i64 t.c2) rfl
      have k5 := keep_fresh b1 5 (v := .int .i64 t.r2) rfl
      have k6 := keep_fresh b1 6 (v := .string ⟨t.word.toArray⟩) rfl
      have k7 := keep_fresh b1 7 (v := .slice A t.kids.length cap) rfl
      have h1 : Below w.heap.size w w1 := ((Below.refl _ _).alloc (Nat.le_refl _) _).trans (b1.mono (by simp))
      clear b1
      go_wp2_with fail
      refine (HM.out _ _ (HK.out.kept (Kept.of_below h1))).mono ?_; rintro e w2 ⟨rfl, b2⟩
      go_wp2_with fail
      go_ret
      exact ⟨by rw [HR.out]; rfl, h1.trans (b2.mono h1.size)⟩
  · have d0 : decide (16 < deepT t) = true := decide_eq_true (by omega)
    rw [decide_eq_false hq] at HR
    clear hm6
    go_enter Tryd.func19, Tryd.ntmps19
    go_wp2_with fail
    refine (HD.out _ _ (HK.out.kept ((Kept.refl _ _).alloc _))).mono ?_; rintro e w1 ⟨rfl, b1⟩
    have k0 := keep_fresh b1 0 (v := .int .i64 t.kind) rfl
    have h1 : Below w.heap.size w w1 := ((Below.refl _ _).alloc (Nat.le_refl _) _).trans (b1.mono (by simp))
    clear b1
    go_wp2_with fail
    go_ret
    exact ⟨by rw [HR.out]; rfl, h1⟩
end Go.Proofs.YteflmfifhmlpiaaDoor
namespace Go.Proofs.YteflmfifhmlpiaaDoor
open Go.RowKit

def VT (t : Tr) (A : Option Addr) (ca : Nat) : Value := .agg #[.int .i64 t.kind, .int .i64 t.num, .int .i64 t.c1, .int .i64 t.r1, .int .i64 t.c2, .int .i64 t.r2, .string ⟨t.word.toArray⟩, .slice A t.kids.length ca]
set_option maxHeartbeats 1000000 in
set_option maxRecDepth 10000 in
theorem rUses_any (x y : Int) (t : Tr) (hW : Wid t) (hd : deepT t ≤ 1000000000) (w : World) (A : Option Addr) (ca : Nat) (hA : KV w (fun _ => True) t A) :
    Calls Tryd.prog 14 #[tv t A ca, .agg #[.int .i64 x, .int .i64 y]] w fun e w' => e = .returned (.bool (rightT t && usT x y t)) ∧ Below w.heap.size w w' := by
  have hlen := hW.len
  unfold maxLen at hlen
  have H1 := Lib.hid (fun w1 (hb : Below w.heap.size w w1) => rRight_any t hd hW w1 (fun _ => True) A ca (hA.kept (Kept.of_below hb)))
  have H2 := Lib.hid (fun w1 (hb : Below w.heap.size w w1) => ruses_any x y hW w1 (fun _ => True) A ca (hA.kept (Kept.of_below hb)))
  unfold tv at *
  generalize rightT t = R at *
  generalize usT x y t = U at *
  clear hA hW hd
  go_enter Tryd.func14, Tryd.ntmps14
  go_wp2_with fail
  refine (H1.out _ (((Below.refl _ _).alloc (Nat.le_refl _) _).alloc (by simp) _)).mono ?_; rintro e w1 ⟨rfl, b1⟩
  obtain ⟨k0, k1, k2, k3, k4, k5, k6, k7⟩ : w1.cell? ⟨w.heap.size, 0, none⟩ = some (.int .i64 t.kind) ∧ w1.cell? ⟨w.heap.size, 1, none⟩ = some (.int .i64 t.num) ∧ w1.cell? ⟨w.heap.size, 2, none⟩ = some (.int .i64 t.c1) ∧ w1.cell? ⟨w.heap.size, 3, none⟩ = some (.int .i64 t.r1) ∧ w1.cell? ⟨w.heap.size, 4, none⟩ = some (.int .i64 t.c2) ∧ w1.cell? ⟨w.heap.size, 5, none⟩ = some (.int .i64 t.r2) ∧ w1.cell? ⟨w.heap.size, 6, none⟩ = some (.string ⟨t.word.toArray⟩) ∧ w1.cell? ⟨w.heap.size, 7, none⟩ = some (.slice A t.kids.length ca) := by
    refine ⟨?_, ?_, ?_, ?_, ?_, ?_, ?_, ?_⟩ <;> exact keep_cell b1 (by simp [go_sem])
  have p0 : w1.cell? ⟨w.heap.size + 1, 0, none⟩ = some (.int .i64 x) := keep_cell b1 (by simp [go_sem])
  have p1 : w1.cell? ⟨w.heap.size + 1, 1, none⟩ = some (.int .i64 y) := keep_cell b1 (by simp [go_sem])
  have h1 : Below w.heap.size w w1 := (((Below.refl _ _).alloc (Nat.le_refl _) _).alloc (by simp) _).trans (b1.mono (by simp; omega))
  have HH := Lib.hid h1
  clear b1 h1
  go_wp2_with fail
  refine (H2.out w1 HH.out).mono ?_; rintro e w2 ⟨rfl, b2⟩
  have h2 := HH.out.trans (b2.mono HH.out.size)
  clear b2 k0 k1 k2 k3 k4 k5 k6 k7 p0 p1
  cases R
  all_goals
    go_wp2_with fail
    try go_quiet (fail)
    try go_wp2_with fail
    go_ret
    exact ⟨rfl, h2⟩
set_option maxHeartbeats 1000000 in
set_option maxRecDepth 10000 in
theorem rSize_any (t : Tr) (hW : Wid t) (hd : deepT t ≤ 1000000000) (hc : cntT t ≤ 1000000000) (w : World) (A : Option Addr) (ca : Nat) (hA : KV w (fun _ => True) t A) :
    Calls Tryd.prog 18 #[tv t A ca] w fun e w' => e = .returned (.int .i64 (if rightT t = true then (cntT t : Int) else 0)) ∧ Below w.heap.size w w' := by
  have hlen := hW.len
  unfold maxLen at hlen
  have H1 := Lib.hid (fun w1 (hb : Below w.heap.size w w1) => rRight_any t hd hW w1 (fun _ => True) A ca (hA.kept (Kept.of_below hb)))
  have H2 := Lib.hid (fun w1 (hb : Below w.heap.size w w1) => rcount_any (-1) hW (by rw [cnA_all]; exact hc) w1 (fun _ => True) A ca (hA.kept (Kept.of_below hb)))
  rw [cnA_all] at H2
  unfold tv at *
  generalize cntT t = C at *
  clear hA hW hd
  cases hR : rightT t
  all_goals
    rw [hR] at H1
    go_enter Tryd.func18, Tryd.ntmps18
    go_wp2_with fail
    refine (H1.out _ ((Below.refl _ _).alloc (Nat.le_refl _) _)).mono ?_; rintro e w1 ⟨rfl, b1⟩
    have k0 := keep_fresh b1 0 (v := .int .i64 t.kind) rfl
    have k1 := keep_fresh b1 1 (v := .int .i64 t.num) rfl
    have k2 := keep_fresh b1 2 (v := .int .i64 t.c1) rfl
    have k3 := keep_fresh b1 3 (v := .int .i64 t.r1) rfl
    have k4 := keep_fresh b1 4 (v := .int .i64 t.c2) rfl
    have k5 := keep_fresh b1 5 (v := .int .i64 t.r2) rfl
    have k6 := keep_fresh b1 6 (v := .string ⟨t.word.toArray⟩) rfl
    have k7 := keep_fresh b1 7 (v := .slice A t.kids.length ca) rfl
    have h1 : Below w.heap.size w w1 := ((Below.refl _ _).alloc (Nat.le_refl _) _).trans (b1.mono (by simp))
    have HH := Lib.hid h1
    clear b1 h1
    go_wp2_with fail
  · go_ret
    exact ⟨rfl, HH.out⟩
  · refine (H2.out w1 HH.out).mono ?_; rintro e w2 ⟨rfl, b2⟩
    have h2 := HH.out.trans (b2.mono HH.out.size)
    clear b2 k0 k1 k2 k3 k4 k5 k6 k7
    go_wp2_with fail
    go_ret
    exact ⟨rfl, h2⟩
set_option maxHeartbeats 1000000 in
set_option maxRecDepth 10000 in
theorem rBads_any (t : Tr) (hW : Wid t) (hd : deepT t ≤ 1000000000) (hc : cnK 2 t ≤ 1000000000) (w : World) (A : Option Addr) (ca : Nat) (hA : KV w (fun _ => True) t A) :
    Calls Tryd.prog 16 #[tv t A ca] w fun e w' => e = .returned (.int .i64 (if rightT t = true then (cnK 2 t : Int) else 0)) ∧ Below w.heap.size w w' := by
  have hlen := hW.len
  unfold maxLen at hlen
  have H1 := Lib.hid (fun w1 (hb : Below w.heap.size w w1) => rRight_any t hd hW w1 (fun _ => True) A ca (hA.kept (Kept.of_below hb)))
  have H2 := Lib.hid (fun w1 (hb : Below w.heap.size w w1) => rcount_any 2 hW (by rw [cnA_kind (by decide)]; exact hc) w1 (fun _ => True) A ca (hA.kept (Kept.of_below hb)))
  rw [cnA_kind (by decide)] at H2
  unfold tv at *
  generalize cnK 2 t = C at *
  clear hA hW hd
  cases hR : rightT t
  all_goals
    rw [hR] at H1
    go_enter Tryd.func16, Tryd.ntmps16
    go_wp2_with fail
    refine (H1.out _ ((Below.refl _ _).alloc (Nat.le_refl _) _)).mono ?_; rintro e w1 ⟨rfl, b1⟩
    have k0 := keep_fresh b1 0 (v := .int .i64 t.kind) rfl
    have k1 := keep_fresh b1 1 (v := .int .i64 t.num) rfl
    have k2 := keep_fresh b1 2 (v := .int .i64 t.c1) rfl
    have k3 := keep_fresh b1 3 (v := .int .i64 t.r1) rfl
    have k4 := keep_fresh b1 4 (v := .int .i64 t.c2) rfl
    have k5 := keep_fresh b1 5 (v := .int .i64 t.r2) rfl
    have k6 := keep_fresh b1 6 (v := .string ⟨t.word.toArray⟩) rfl
    have k7 := keep_fresh b1 7 (v := .slice A t.kids.length ca) rfl
    have h1 : Below w.heap.size w w1 := ((Below.refl _ _).alloc (Nat.le_refl _) _).trans (b1.mono (by simp))
    have HH := Lib.hid h1
    clear b1 h1
    go_wp2_with fail
  · go_ret
    exact ⟨rfl, HH.out⟩
  · refine (H2.out w1 HH.out).mono ?_; rintro e w2 ⟨rfl, b2⟩
    have h2 := HH.out.trans (b2.mono HH.out.size)
    clear b2 k0 k1 k2 k3 k4 k5 k6 k7
    go_wp2_with fail
    go_ret
    exact ⟨rfl, h2⟩
end Go.Proofs.YteflmfifhmlpiaaDoor
namespace Go.Proofs.YteflmfifhmlpiaaDoor
open Go.RowKit

def readsTo (t : Tr) (i : Nat) : List (Int × Int) := ((List.range i).filter fun (j : Nat) => usT (atC (j : Int)) (atR (j : Int)) t).map fun (j : Nat) => (atC (j : Int), atR (j : Int))
theorem readsTo_zero (t : Tr) : readsTo t 0 = [] := rfl
theorem readsTo_yes {t : Tr} {i : Nat} (h : usT (atC i) (atR i) t = true) : readsTo t (i + 1) = readsTo t i ++ [(atC i, atR i)] := by
  unfold readsTo; rw [List.range_succ, List.filter_append, List.map_append]; simp [h]
theorem readsTo_no {t : Tr} {i : Nat} (h : usT (atC i) (atR i) t = false) : readsTo t (i + 1) = readsTo t i := by
  unfold readsTo; rw [List.range_succ, List.filter_append, List.map_append]; simp [h]
theorem readsTo_le (t : Tr) (i : Nat) : (readsTo t i).length ≤ i := by
  unfold readsTo; rw [List.length_map]; exact Nat.le_trans (List.length_filter_le _ _) (by simp)
def rdL (t : Tr) : List (Int × Int) := if rightT t = true then readsTo t 1024 else []
set_option maxHeartbeats 2000000 in
set_option maxRecDepth 10000 in
theorem rReads_no (t : Tr) (hR : rightT t = false) (hW : Wid t) (hd : deepT t ≤ 1000000000) (w : World) (A : Option Addr) (ca : Nat) (hA : KV w (fun _ => True) t A) :
    Calls Tryd.prog 12 #[tv t A ca] w fun e w' => ∃ v, e = .returned v ∧ w'.ownsRow w.heap.size 24 2 v (rdL t).length (cells2 (rdL t)) ∧ Below w.heap.size w w' := by
  have hlen := hW.len
  unfold maxLen at hlen
  have H1 := Lib.hid (fun w1 (hb : Below w.heap.size w w1) => rRight_any t hd hW w1 (fun _ => True) A ca (hA.kept (Kept.of_below hb)))
  have HE : Hid (rdL t = []) := Lib.hid (if_neg (by rw [hR]; decide))
  unfold tv at *
  rw [hR] at H1
  clear hA hW hd hR
  go_enter Tryd.func12, Tryd.ntmps12
  go_wp2_with fail
  refine (H1.out _ ((Below.refl _ _).alloc (Nat.le_refl _) _)).mono ?_; rintro e w1 ⟨rfl, b1⟩
  have HB := Lib.hid (((Below.refl _ _).alloc (Nat.le_refl _) _ : Below w.heap.size w (w.alloc _)).trans (b1.mono (by simp)))
  clear b1
  go_wp2_with fail
  go_loopw [3, 5] (fun v n wr => v = .slice none 0 0 ∧ n = .int .i64 0 ∧ wr = w1) (fun _ _ _ => 0)
  case atStart => exact ⟨rfl, rfl, rfl⟩
  case round =>
    obtain ⟨rfl, rfl, rfl⟩ := hrel
    go_wp2_with fail
    go_ret
    exact ⟨_, rfl, by rw [HE.out]; exact World.ownsRow_nil _ _ _ _, HB.out⟩
set_option maxHeartbeats 2000000 in
set_option maxRecDepth 10000 in
theorem rReads_yes (t : Tr) (hR : rightT t = true) (hW : Wid t) (hd : deepT t ≤ 1000000000) (w : World) (A : Option Addr) (ca : Nat) (hA : KV w (fun _ => True) t A) :
    Calls Tryd.prog 12 #[tv t A ca] w fun e w' => ∃ v, e = .returned v ∧ w'.ownsRow w.heap.size 24 2 v (rdL t).length (cells2 (rdL t)) ∧ Below w.heap.size w w' := by
  obtain ⟨i0, hi0, hz0, hz1, hz2⟩ := info_parts place_info
  have HI := Lib.hid hi0
  have HZ0 := Lib.hid hz0
  have HZ1 := Lib.hid hz1
  have HZ2 := Lib.hid hz2
  clear hi0 hz0 hz1 hz2
  have hlen := hW.len
  unfold maxLen at hlen
  have H1 := Lib.hid (fun w1 (hb : Below w.heap.size w w1) => rRight_any t hd hW w1 (fun _ => True) A ca (hA.kept (Kept.of_below hb)))
  have H2 := Lib.hid (fun (x y : Int) w1 (hb : Below w.heap.size w w1) => ruses_any x y hW w1 (fun _ => True) A ca (hA.kept (Kept.of_below hb)))
  have HE : Hid (rdL t = readsTo t 1024) := Lib.hid (if_pos hR)
  unfold tv at *
  rw [hR] at H1
  clear hA hW hd hR
  go_enter Tryd.func12, Tryd.ntmps12
  go_wp2_with fail
  refine (H1.out _ ((Below.refl _ _).alloc (Nat.le_refl _) _)).mono ?_; rintro e w1 ⟨rfl, b1⟩
  have k0 := keep_fresh b1 0 (v := .int .i64 t.kind) rfl
  have k1 := keep_fresh b1 1 (v := .int .i64 t.num) rfl
  have k2 := keep_fresh b1 2 (v := .int .i64 t.c1) rfl
  have k3 := keep_fresh b1 3 (v := .int .i64 t.r1) rfl
  have k4 := keep_fresh b1 4 (v := .int .i64 t.c2) rfl
  have k5 := keep_fresh b1 5 (v := .int .i64 t.r2) rfl
  have k6 := keep_fresh b1 6 (v := .string ⟨t.word.toArray⟩) rfl
  have k7 := keep_fresh b1 7 (v := .slice A t.kids.length ca) rfl
  have HB := Lib.hid (((Below.refl _ _).alloc (Nat.le_refl _) _ : Below w.heap.size w (w.alloc _)).trans (b1.mono (by simp)))
  have z1 : w.heap.size < w1.heap.size := by have := b1.size; simp at this; omega
  clear b1
  have HK := Lib.hid (show C8 w1 w.heap.size (.int .i64 t.kind) (.int .i64 t.num) (.int .i64 t.c1) (.int .i64 t.r1) (.int .i64 t.c2) (.int .i64 t.r2) (.string ⟨t.word.toArray⟩) (.slice A t.kids.length ca) from ⟨k0, k1, k2, k3, k4, k5, k6, k7⟩)
  go_wp2_with fail
  clear k0 k1 k2 k3 k4 k5 k6 k7
  go_loopw [3, 5] (fun v n wr => ∃ i : Nat, i ≤ 1024 ∧ n = .int .i64 i ∧ wr.ownsRow (w.heap.size + 1) 24 2 v (readsTo t i).length (cells2 (readsTo t i)) ∧ Below (w.heap.size + 1) w1 wr) (fun _ n _ => leftG n)
  case atStart => exact ⟨0, by omega, rfl, World.ownsRow_nil _ _ _ _, Below.refl _ _⟩
  case round =>
    obtain ⟨i, hi, rfl, hown, hb⟩ := hrel
    have HO := Lib.hid hown
    have hlen2 := readsTo_le t i
    have z0 : w.heap.size < wr.heap.size := Nat.lt_of_lt_of_le z1 hb.size
    clear hown
    by_cases hlt : i < 1024
    · go_wp2_with fail
      refine (rat_any _ _).mono ?_; rintro e w2 ⟨rfl, b2⟩
      have z2 : w.heap.size < w2.heap.size := by have := b2.size; omega
      have HO2 := Lib.hid (own_below HO.out b2)
      have hb2 := hb.trans (b2.mono (by omega))
      obtain ⟨q0, q1, q2, q3, q4, q5, q6, q7⟩ := c8_lift (w' := w2) (fun j v (hv : w1.cell? ⟨w.heap.size, j, none⟩ = some v) => (hb2.cell (p := ⟨w.heap.size, j, none⟩) (Nat.lt_succ_self _)).trans hv) HK.out.1 HK.out.2.1 HK.out.2.2.1 HK.out.2.2.2.1 HK.out.2.2.2.2.1 HK.out.2.2.2.2.2.1 HK.out.2.2.2.2.2.2.1 HK.out.2.2.2.2.2.2.2
      have HU := Lib.hid (fun ob => H2.out (atC i) (atR i) (w2.alloc ob) (HB.out.trans (((hb2.mono (by omega) : Below w.heap.size w1 w2)).alloc (by omega) ob)))
      clear b2 
      cases hh : usT (atC i) (atR i) t with
      | true =>
        rw [hh] at HU
        have HS := Lib.hid (readsTo_yes hh)
        clear hh
        go_wp2_with fail
        refine Calls.mono (HU.out _) ?_; rintro e w3 ⟨rfl, b3⟩
        have m0 := keep_fresh b3 0 (v := .int .i64 (atC i)) rfl
        have m1 := keep_fresh b3 1 (v := .int .i64 (atR i)) rfl
        have HO3 := Lib.hid (own_below (HO2.out.alloc _) b3)
        have hb3 := (hb2.alloc (by omega) _).trans (b3.mono (by simp; omega))
        have z3 : w.heap.size + 1 ≤ w3.heap.size := by have := b3.size; simp at this; omega
        clear b3 q0 q1 q2 q3 q4 q5 q6 q7
        go_wp2_with (at_builtin
                     refine wpList_append_own _ rfl _ _ 37 rfl (w.heap.size + 1) 24 i0 (.agg #[.int .i64 0, .int .i64 0]) 2 16 Tryd.underlying37 HI.out HZ0.out HZ1.out HZ2.out rfl (by decide) _ _ _ rfl (HO3.out.alloc _)
                       ⟨w3.heap.size, 0, none⟩ 1 1 [.int .i64 (atC i), .int .i64 (atR i)] rfl rfl ?c1 ?c2 ?c3 ?c4 ?c5 ?_)
        case c1 =>
          intro j u hj
          match j, hj with
          | 0, hj => simp at hj; subst hj; simp [Addr.add]
          | 1, hj => simp at hj; subst hj; simp [Addr.add]
        case c2 => intro u hu; simp at hu; rcases hu with rfl | rfl <;> rfl
        case c3 => unfold maxLen; omega
        case c4 => omega
        case c5 => simp; omega
        intro v' w4 hown4 hg4 _
        rw [← cells2_snoc] at hown4
        have e5 : (readsTo t i).length + 1 = (readsTo t (i + 1)).length := by rw [HS.out]; simp
        rw [e5, ← HS.out] at hown4
        have HO4 := Lib.hid hown4
        clear hown4 e5
        have hb4 : Below (w.heap.size + 1) w1 w4 := (hb3.alloc z3 _).grown hg4 (by simp; omega) (fun g hgg => (HO3.out.lt g hgg).1)
        clear hg4
        go_wp2_with fail
        go_roundw
        case rel => exact ⟨i + 1, by omega, by go_num, HO4.out, hb4⟩
        case measure => simp [leftG, intOf]; omega
      | false =>
        rw [hh] at HU
        have HS := Lib.hid (readsTo_no hh)
        clear hh
        go_wp2_with fail
        refine Calls.mono (HU.out _) ?_; rintro e w3 ⟨rfl, b3⟩
        have HO3 := own_below (HO2.out.alloc _) b3
        have hb3 := (hb2.alloc (by omega) _).trans (b3.mono (by simp; omega))
        rw [← HS.out] at HO3
        have HO4 := Lib.hid HO3
        clear HO3 b3 q0 q1 q2 q3 q4 q5 q6 q7
        go_wp2_with fail
        go_roundw
        case rel => exact ⟨i + 1, by omega, by go_num, HO4.out, hb3⟩
        case measure => simp [leftG, intOf]; omega
    · have hi2 : i = 1024 := by omega
      subst hi2
      go_wp2_with fail
      go_ret
      exact ⟨_, rfl, by rw [HE.out]; exact HO.out.mono (by omega), HB.out.trans (hb.mono (by omega))⟩
theorem rReads_any (t : Tr) (hW : Wid t) (hd : deepT t ≤ 1000000000) (w : World) (A : Option Addr) (ca : Nat) (hA : KV w (fun _ => True) t A) :
    Calls Tryd.prog 12 #[tv t A ca] w fun e w' => ∃ v, e = .returned v ∧ w'.ownsRow w.heap.size 24 2 v (rdL t).length (cells2 (rdL t)) ∧ Below w.heap.size w w' := by
  cases hR : rightT t with
  | true => exact rReads_yes t hR hW hd w A ca hA
  | false => exact rReads_no t hR hW hd w A ca hA
end Go.Proofs.YteflmfifhmlpiaaDoor
namespace Go.Proofs.YteflmfifhmlpiaaDoor
open Go.RowKit

def both (a b c d : Int) (l : List (Int × Int)) : List (Int × Int) := l.filter fun p => hasB a b c d p.1 p.2
def fstOr (l : List (Int × Int)) : Int × Int := l.head?.getD (0, 0)
def lstOr (l : List (Int × Int)) : Int × Int := l.getLast?.getD (0, 0)
theorem both_yes {a b c d x y : Int} {l : List (Int × Int)} {i : Nat} (hi : l[i]? = some (x, y)) (h : hasB a b c d x y = true) : both a b c d (l.take (i + 1)) = both a b c d (l.take i) ++ [(x, y)] := by
  unfold both; rw [List.take_add_one, hi, List.filter_append]; simp [h]
theorem both_no {a b c d x y : Int} {l : List (Int × Int)} {i : Nat} (hi : l[i]? = some (x, y)) (h : hasB a b c d x y = false) : both a b c d (l.take (i + 1)) = both a b c d (l.take i) := by
  unfold both; rw [List.take_add_one, hi, List.filter_append]; simp [h]
theorem fst_snoc (l : List (Int × Int)) (p : Int × Int) : fstOr (l ++ [p]) = if l = [] then p else fstOr l := by
  unfold fstOr; cases l <;> simp
theorem lst_snoc (l : List (Int × Int)) (p : Int × Int) : lstOr (l ++ [p]) = p := by
  unfold lstOr; simp
def someB (l : List (Int × Int)) : Bool := !l.isEmpty
structure Out4 (w : World) (g : Nat) (l : List (Int × Int)) : Prop where
  c0 : w.cell? ⟨g, 0, none⟩ = some (.int .i64 (fstOr l).1)
  c1 : w.cell? ⟨g, 1, none⟩ = some (.int .i64 (fstOr l).2)
  c2 : w.cell? ⟨g, 2, none⟩ = some (.int .i64 (lstOr l).1)
  c3 : w.cell? ⟨g, 3, none⟩ = some (.int .i64 (lstOr l).2)
  f0 : w.frozen? ⟨g, 0, none⟩ = false
  f1 : w.frozen? ⟨g, 1, none⟩ = false
  f2 : w.frozen? ⟨g, 2, none⟩ = false
  f3 : w.frozen? ⟨g, 3, none⟩ = false
theorem Out4.to {w : World} {o : Nat} {l : List (Int × Int)} (H : Out4 w o l) (hl : l ≠ []) (x y : Int) :
    Out4 ((w.setCell ⟨o, 2, none⟩ (.int .i64 x)).setCell ⟨o, 3, none⟩ (.int .i64 y)) o (l ++ [(x, y)]) := by
  obtain ⟨c0, c1, c2, c3, f0, f1, f2, f3⟩ := H
  have e1 : fstOr (l ++ [(x, y)]) = fstOr l := by rw [fst_snoc, if_neg hl]
  refine ⟨?_, ?_, ?_, ?_, ?_, ?_, ?_, ?_⟩
  · rw [e1]; simp [go_sem, c0]
  · rw [e1]; simp [go_sem, c1]
  · rw [lst_snoc]; simp [go_sem, c2]
  · rw [lst_snoc]; simp [go_sem, c3]
  · simp [go_sem, f0]
  · simp [go_sem, f1]
  · simp [go_sem, f2]
  · simp [go_sem, f3]
theorem Out4.from_ {w : World} {o : Nat} (H : Out4 w o []) (x y : Int) :
    Out4 ((((w.setCell ⟨o, 0, none⟩ (.int .i64 x)).setCell ⟨o, 1, none⟩ (.int .i64 y)).setCell ⟨o, 2, none⟩ (.int .i64 x)).setCell ⟨o, 3, none⟩ (.int .i64 y)) o [(x, y)] := by
  obtain ⟨c0, c1, c2, c3, f0, f1, f2, f3⟩ := H
  refine ⟨?_, ?_, ?_, ?_, ?_, ?_, ?_, ?_⟩
  · show _ = some (Value.int .i64 x); simp [go_sem, c0]
  · show _ = some (Value.int .i64 y); simp [go_sem, c1]
  · show _ = some (Value.int .i64 x); simp [go_sem, c2]
  · show _ = some (Value.int .i64 y); simp [go_sem, c3]
  · simp [go_sem, f0]
  · simp [go_sem, f1]
  · simp [go_sem, f2]
  · simp [go_sem, f3]
theorem own_shape {w : World} {base : Nat} {v : Value} {l : List (Int × Int)} (h : w.ownsRow base 24 2 v l.length (cells2 l)) :
    ∃ (A : Option Addr) (cap : Nat), v = .slice A l.length cap ∧ (∀ i, i < l.length → ∃ g, A = some ⟨g, 0, none⟩ ∧ g < w.heap.size ∧ At2 w g l) := by
  have h' := h
  rcases h.2 with ⟨rfl, hl⟩ | ⟨g, cap, cur, rfl, _, hh, _⟩
  · exact ⟨none, 0, by rw [hl], fun i hi => by omega⟩
  · refine ⟨_, cap, rfl, fun i hi => ⟨g, rfl, ?_, at2_of_own h'⟩⟩
    exact (h'.lt g rfl).2
theorem at2_below {w w' : World} {B g : Nat} {l : List (Int × Int)} (h : At2 w g l) (hb : Below B w w') (hg : g < B) : At2 w' g l := by
  intro i x y hi
  obtain ⟨h1, h2⟩ := h i x y hi
  exact ⟨by rw [hb.cell (p := ⟨g, i * 2, none⟩) hg]; exact h1, by rw [hb.cell (p := ⟨g, i * 2 + 1, none⟩) hg]; exact h2⟩
def leftI (n : Nat) (v : Value) : Nat := n - (intOf v).toNat

def mtL (a b c d e f g h : Int) : List (Int × Int) := both e f g h (cellsTo a b c d 1024)
end Go.Proofs.YteflmfifhmlpiaaDoor
namespace Go.Proofs.YteflmfifhmlpiaaDoor

theorem head_filter_range {P : Nat → Bool} {n k : Nat} (hk : k < n) (hp : P k = true) (hb : ∀ j, j < k → P j = false) : ((List.range n).filter P).head? = some k := by
  rw [List.head?_filter, List.find?_range_eq_some]
  exact ⟨hp, by simpa using hk, fun j hj => by simpa using hb j hj⟩
theorem last_filter_range {P : Nat → Bool} : ∀ {n k : Nat}, k < n → P k = true → (∀ j, k < j → j < n → P j = false) → ((List.range n).filter P).getLast? = some k := by
  intro n
  induction n with
  | zero => intro k hk; omega
  | succ n ih =>
    intro k hk hp hb
    rw [List.range_succ, List.filter_append]
    by_cases e : k = n
    · subst e
      simp [hp]
    · have h1 : P n = false := hb n (by omega) (by omega)
      have h2 := ih (by omega) hp fun j hj hjn => hb j hj (by omega)
      simp only [List.filter_cons, List.filter_nil, h1, Bool.false_eq_true, if_false, List.append_nil]
      exact h2

def meetB (a b c d e f g h : Int) : Bool := wholeB a b c d && wholeB e f g h && decide (max a e ≤ min c g ∧ max b f ≤ min d h)
theorem mt_is (a b c d e f g h : Int) : mtL a b c d e f g h = (((List.range 1024).filter fun (j : Nat) => hasB a b c d (atC (j : Int)) (atR (j : Int)) && hasB e f g h (atC (j : Int)) (atR (j : Int))).map fun (j : Nat) => (atC (j : Int), atR (j : Int))) := by
  unfold mtL both cellsTo
  rw [List.filter_map, List.filter_filter]
  refine congrArg (List.map _) (List.filter_congr fun j _ => ?_)
  simp [Function.comp, Bool.and_comm]
theorem hasB_iff (a b c d x y : Int) : hasB a b c d x y = true ↔ wholeB a b c d = true ∧ a ≤ x ∧ x ≤ c ∧ b ≤ y ∧ y ≤ d := by
  unfold hasB; simp
theorem mt_none {a b c d e f g h : Int} (hm : meetB a b c d e f g h = false) : mtL a b c d e f g h = [] := by
  rw [mt_is, List.map_eq_nil_iff, List.filter_eq_nil_iff]
  intro j _ hj
  rw [Bool.and_eq_true, hasB_iff, hasB_iff] at hj
  have : meetB a b c d e f g h = true := by
    unfold meetB
    rw [hj.1.1, hj.2.1]
    simp
    omega
  rw [this] at hm
  cases hm
theorem mt_some {a b c d e f g h : Int} (hm : meetB a b c d e f g h = true) :
    fstOr (mtL a b c d e f g h) = (max a e, max b f) ∧ lstOr (mtL a b c d e f g h) = (min c g, min d h) ∧ someB (mtL a b c d e f g h) = true := by
  unfold meetB at hm
  rw [Bool.and_eq_true, Bool.and_eq_true, decide_eq_true_eq] at hm
  obtain ⟨⟨w1, w2⟩, h1, h2⟩ := hm
  have q1 := (wholeB_iff a b c d).1 w1
  have q2 := (wholeB_iff e f g h).1 w2
  have hP : ∀ j : Nat, j < 1024 → ((hasB a b c d (atC (j : Int)) (atR (j : Int)) && hasB e f g h (atC (j : Int)) (atR (j : Int))) = true ↔ (max a e ≤ (j : Int) % 16 ∧ (j : Int) % 16 ≤ min c g ∧ max b f ≤ (j : Int) / 16 ∧ (j : Int) / 16 ≤ min d h)) := by
    intro j hj
    rw [Bool.and_eq_true, hasB_iff, hasB_iff, atC_of j hj, atR_of j hj]
    simp only [w1, w2, true_and]
    omega
  have hF : ∀ j : Nat, j < 1024 → ¬ (max a e ≤ (j : Int) % 16 ∧ (j : Int) % 16 ≤ min c g ∧ max b f ≤ (j : Int) / 16 ∧ (j : Int) / 16 ≤ min d h) → (hasB a b c d (atC (j : Int)) (atR (j : Int)) && hasB e f g h (atC (j : Int)) (atR (j : Int))) = false := by
    intro j hj hn
    cases hx : (hasB a b c d (atC (j : Int)) (atR (j : Int)) && hasB e f g h (atC (j : Int)) (atR (j : Int))) with
    | false => rfl
    | true => exact absurd ((hP j hj).1 hx) hn
  obtain ⟨k, hk⟩ : ∃ k : Nat, (k : Int) = 16 * max b f + max a e := ⟨(16 * max b f + max a e).toNat, by omega⟩
  obtain ⟨m, hm⟩ : ∃ m : Nat, (m : Int) = 16 * min d h + min c g := ⟨(16 * min d h + min c g).toNat, by omega⟩
  have k1 : k < 1024 := by omega
  have m1 : m < 1024 := by omega
  have H := head_filter_range (P := fun (j : Nat) => hasB a b c d (atC (j : Int)) (atR (j : Int)) && hasB e f g h (atC (j : Int)) (atR (j : Int))) k1 ((hP k k1).2 (by omega)) fun j hj => hF j (by omega) (by omega)
  have T := last_filter_range (P := fun (j : Nat) => hasB a b c d (atC (j : Int)) (atR (j : Int)) && hasB e f g h (atC (j : Int)) (atR (j : Int))) m1 ((hP m m1).2 (by omega)) fun j hj hj2 => hF j hj2 (by omega)
  rw [mt_is]
  refine ⟨?_, ?_, ?_⟩
  · unfold fstOr
    rw [List.head?_map, H]
    simp only [Option.map_some, Option.getD_some, atC_of k k1, atR_of k k1]
    exact Prod.ext (show (k : Int) % 16 = max a e by omega) (show (k : Int) / 16 = max b f by omega)
  · unfold lstOr
    rw [List.getLast?_map, T]
    simp only [Option.map_some, Option.getD_some, atC_of m m1, atR_of m m1]
    exact Prod.ext (show (m : Int) % 16 = min c g by omega) (show (m : Int) / 16 = min d h by omega)
  · unfold someB
    cases hl : (List.range 1024).filter fun (j : Nat) => hasB a b c d (atC (j : Int)) (atR (j : Int)) && hasB e f g h (atC (j : Int)) (atR (j : Int)) with
    | nil => rw [hl] at H; cases H
    | cons x t => rfl
end Go.Proofs.YteflmfifhmlpiaaDoor
namespace Go.Proofs.YteflmfifhmlpiaaDoor
open Go.RowKit

theorem cellsTo_skip {a b c d : Int} {i : Nat} : ∀ n : Nat, (∀ j, i ≤ j → j < i + n → hasB a b c d (atC (j : Int)) (atR (j : Int)) = false) → cellsTo a b c d (i + n) = cellsTo a b c d i
  | 0, _ => rfl
  | n + 1, h => by
    have h1 := cellsTo_skip (a := a) (b := b) (c := c) (d := d) (i := i) n fun j h1 h2 => h j h1 (by omega)
    rw [← h1]
    exact cellsTo_no (h (i + n) (by omega) (by omega))
theorem cellsTo_eq {a b c d : Int} {i k : Nat} (hk : i ≤ k) (h : ∀ j, i ≤ j → j < k → hasB a b c d (atC (j : Int)) (atR (j : Int)) = false) : cellsTo a b c d i = cellsTo a b c d k := by
  obtain ⟨n, rfl⟩ := Nat.exists_eq_add_of_le hk
  exact (cellsTo_skip n h).symm
theorem has_not {a b c d : Int} {j : Nat} (hj : j < 1024) (h : ¬ (a ≤ (j : Int) % 16 ∧ (j : Int) % 16 ≤ c ∧ b ≤ (j : Int) / 16 ∧ (j : Int) / 16 ≤ d)) : hasB a b c d (atC (j : Int)) (atR (j : Int)) = false := by
  rw [atC_of j hj, atR_of j hj]
  cases hx : hasB a b c d ((j : Int) % 16) ((j : Int) / 16) with
  | false => rfl
  | true => exact absurd ((hasB_iff _ _ _ _ _ _).1 hx).2 h
theorem cells_none {a b c d : Int} (hw : wholeB a b c d = false) : cellsTo a b c d 1024 = [] := by
  refine (cellsTo_eq (i := 0) (Nat.zero_le _) fun j _ _ => ?_).symm
  unfold hasB
  rw [hw, Bool.false_and]

set_option maxHeartbeats 400000 in
theorem pcells_no (a b c d : Int) (w : World) (hW : wholeB a b c d = false) :
    Calls Tryd.prog 29 #[.agg #[.int .i64 a, .int .i64 b, .int .i64 c, .int .i64 d]] w fun e w' => ∃ v, e = .returned v ∧
      w'.ownsRow w.heap.size 24 2 v (cellsTo a b c d 1024).length (cells2 (cellsTo a b c d 1024)) ∧ Below w.heap.size w w' := by
  have HC := Lib.hid (cells_none hW)
  have HW := Lib.hid (pwhole_any a b c d)
  rw [hW] at HW
  rw [HC.out]
  clear hW
  go_enter Tryd.func29, Tryd.ntmps29
  go_wp2_with fail
  refine (HW.out _).mono ?_; rintro e w1 ⟨rfl, b1⟩
  have h1 : Below w.heap.size w w1 := ((Below.refl _ _).alloc (Nat.le_refl _) _).trans (b1.mono (by simp))
  clear b1
  go_wp2_with fail
  go_ret
  exact ⟨_, rfl, World.ownsRow_nil _ _ _ _, h1⟩

set_option maxHeartbeats 2000000 in
set_option maxRecDepth 10000 in
theorem pcells_yes (a b c d : Nat) (w : World) (hW : wholeB a b c d = true) :
    Calls Tryd.prog 29 #[.agg #[.int .i64 a, .int .i64 b, .int .i64 c, .int .i64 d]] w fun e w' => ∃ v, e = .returned v ∧
      w'.ownsRow w.heap.size 24 2 v (cellsTo a b c d 1024).length (cells2 (cellsTo a b c d 1024)) ∧ Below w.heap.size w w' := by
  obtain ⟨i0, hi0, hz0, hz1, hz2⟩ := info_parts place_info
  have HI := Lib.hid hi0
  have HZ0 := Lib.hid hz0
  have HZ1 := Lib.hid hz1
  have HZ2 := Lib.hid hz2
  clear hi0 hz0 hz1 hz2
  have HW := Lib.hid (pwhole_any a b c d)
  have hq := (wholeB_iff _ _ _ _).1 hW
  have Hhas : Hid (∀ j : Nat, j < 1024 → (a : Int) ≤ (j : Int) % 16 → (j : Int) % 16 ≤ c → (b : Int) ≤ (j : Int) / 16 → (j : Int) / 16 ≤ d → hasB a b c d (atC (j : Int)) (atR (j : Int)) = true) :=
    Lib.hid fun j hj h1 h2 h3 h4 => by rw [atC_of j hj, atR_of j hj]; exact (hasB_iff _ _ _ _ _ _).2 ⟨hW, h1, h2, h3, h4⟩
  rw [hW] at HW
  clear hW
  have ha : a ≤ 15 := by omega
  have hb : b ≤ 63 := by omega
  have hc : c ≤ 15 := by omega
  have hd : d ≤ 63 := by omega
  have hac : a ≤ c := by omega
  have hbd : b ≤ d := by omega
  clear hq
  have HE0 : Hid (cellsTo a b c d (16 * b) = []) := Lib.hid (cellsTo_eq (i := 0) (Nat.zero_le _) fun j _ h2 => has_not (by omega) (by omega)).symm
  have HEd : Hid (cellsTo a b c d (16 * (d + 1)) = cellsTo a b c d 1024) := Lib.hid (cellsTo_eq (by omega) fun j h1 h2 => has_not (by omega) (by omega))
  have HEs : Hid (∀ row : Nat, b ≤ row → row ≤ d → cellsTo a b c d (16 * row) = cellsTo a b c d (16 * row + a)) := Lib.hid fun row h1 h2 => cellsTo_eq (by omega) fun j h3 h4 => has_not (by omega) (by omega)
  have HEe : Hid (∀ row : Nat, b ≤ row → row ≤ d → cellsTo a b c d (16 * row + (c + 1)) = cellsTo a b c d (16 * (row + 1))) := Lib.hid fun row h1 h2 => cellsTo_eq (by omega) fun j h3 h4 => has_not (by omega) (by omega)
  have HEy : Hid (∀ row col : Nat, b ≤ row → row ≤ d → a ≤ col → col ≤ c → cellsTo a b c d (16 * row + (col + 1)) = cellsTo a b c d (16 * row + col) ++ [((col : Int), (row : Int))]) := Lib.hid fun row col h1 h2 h3 h4 => by
    have hj : 16 * row + col < 1024 := by omega
    have h := cellsTo_yes (Hhas.out (16 * row + col) hj (by omega) (by omega) (by omega) (by omega))
    rw [atC_of _ hj, atR_of _ hj] at h
    have e1 : ((16 * row + col : Nat) : Int) % 16 = (col : Int) := by omega
    have e2 : ((16 * row + col : Nat) : Int) / 16 = (row : Int) := by omega
    rw [e1, e2] at h
    exact h
  clear Hhas
  go_enter Tryd.func29, Tryd.ntmps29
  go_wp2_with fail
  refine (HW.out _).mono ?_; rintro e w1 ⟨rfl, b1⟩
  have j0 := keep_fresh b1 0 (v := .int .i64 a) rfl
  have j1 := keep_fresh b1 1 (v := .int .i64 b) rfl
  have j2 := keep_fresh b1 2 (v := .int .i64 c) rfl
  have j3 := keep_fresh b1 3 (v := .int .i64 d) rfl
  have h1 : Below w.heap.size w w1 := ((Below.refl _ _).alloc (Nat.le_refl _) _).trans (b1.mono (by simp))
  clear b1
  go_wp2_with fail
  go_loopw [3, 4] (fun v n wr => ∃ row : Nat, b ≤ row ∧ row ≤ d + 1 ∧ n = .int .i64 row ∧ wr.ownsRow w1.heap.size 24 2 v (cellsTo a b c d (16 * row)).length (cells2 (cellsTo a b c d (16 * row))) ∧
      Below w1.heap.size w1 wr) (fun _ n _ => leftG n)
  case atStart => exact ⟨b, Nat.le_refl _, by omega, rfl, by rw [HE0.out]; exact World.ownsRow_nil _ _ _ _, Below.refl _ _⟩
  case round =>
    obtain ⟨row, hr0, hr1, rfl, hown, hb0⟩ := hrel
    have HO := Lib.hid hown
    have HB := Lib.hid hb0
    have k0 := keep_cell hb0 j0
    have k2 := keep_cell hb0 j2
    have k3 := keep_cell hb0 j3
    clear hown hb0
    by_cases hlt : row ≤ d
    · have HES := Lib.hid (HEs.out row hr0 hlt)
      have HEE := Lib.hid (HEe.out row hr0 hlt)
      go_wp2_with fail
      go_loopw [3, 5] (fun v n wq => ∃ col : Nat, a ≤ col ∧ col ≤ c + 1 ∧ n = .int .i64 col ∧ wq.ownsRow w1.heap.size 24 2 v (cellsTo a b c d (16 * row + col)).length (cells2 (cellsTo a b c d (16 * row + col))) ∧
          Below w1.heap.size w1 wq) (fun _ n _ => leftG n)
      case atStart => exact ⟨a, Nat.le_refl _, by omega, rfl, by rw [← HES.out]; exact HO.out, HB.out⟩
      case round =>
        obtain ⟨col, hc0, hc1, rfl, hown, hb0⟩ := hrel
        have HO2 := Lib.hid hown
        have HB2 := Lib.hid hb0
        have hlen := cellsTo_le a b c d (16 * row + col)
        have m2 := keep_cell hb0 j2
        have zq := hb0.size
        clear hown hb0
        by_cases hle : col ≤ c
        · have HY := Lib.hid (HEy.out row col hr0 hlt hc0 hle)
          go_wp2_with (at_builtin
                       refine wpList_append_own _ rfl _ _ 37 rfl w1.heap.size 24 i0 (.agg #[.int .i64 0, .int .i64 0]) 2 16 Tryd.underlying37 HI.out HZ0.out HZ1.out HZ2.out rfl (by decide) _ _ _ rfl (HO2.out.alloc _)
                         ⟨wr.heap.size, 0, none⟩ 1 1 [.int .i64 col, .int .i64 row] rfl rfl ?c1 ?c2 ?c3 ?c4 ?c5 ?_)
          case c1 =>
            intro j u hj
            match j, hj with
            | 0, hj => simp at hj; subst hj; simp [Addr.add]
            | 1, hj => simp at hj; subst hj; simp [Addr.add]
          case c2 => intro u hu; simp at hu; rcases hu with rfl | rfl <;> rfl
          case c3 => unfold maxLen; omega
          case c4 => omega
          case c5 => simp; omega
          intro v' w4 hown4 hg4 _
          rw [← cells2_snoc] at hown4
          have e5 : (cellsTo a b c d (16 * row + col)).length + 1 = (cellsTo a b c d (16 * row + (col + 1))).length := by rw [HY.out]; simp
          rw [e5, ← HY.out] at hown4
          have HO4 := Lib.hid hown4
          clear hown4 e5
          have hb4 : Below w1.heap.size w1 w4 := (HB2.out.alloc zq _).grown hg4 (by simp; omega) (fun g hgg => (HO2.out.lt g hgg).1)
          clear hg4
          go_wp2_with fail
          go_roundw
          case rel => exact ⟨col + 1, by omega, by omega, by go_num, HO4.out, hb4⟩
          case measure => simp [leftG, intOf]; omega
        · have hce : col = c + 1 := by omega
          subst hce
          have HO3 : Hid (wr.ownsRow w1.heap.size 24 2 _ (cellsTo a b c d (16 * (row + 1))).length (cells2 (cellsTo a b c d (16 * (row + 1))))) := Lib.hid (by rw [← HEE.out]; exact HO2.out)
          go_wp2_with fail
          go_roundw
          case rel => exact ⟨row + 1, by omega, by omega, by go_num, HO3.out, HB2.out⟩
          case measure => simp [leftG, intOf]; omega
    · have hre : row = d + 1 := by omega
      subst hre
      have HO3 : Hid (wr.ownsRow w1.heap.size 24 2 _ (cellsTo a b c d 1024).length (cells2 (cellsTo a b c d 1024))) := Lib.hid (by rw [← HEd.out]; exact HO.out)
      have h2 := h1.trans (HB.out.mono h1.size)
      have hz := h1.size
      go_wp2_with fail
      go_ret
      exact ⟨_, rfl, HO3.out.mono hz, h2⟩

theorem pcells_any (a b c d : Int) (w : World) :
    Calls Tryd.prog 29 #[.agg #[.int .i64 a, .int .i64 b, .int .i64 c, .int .i64 d]] w fun e w' => ∃ v, e = .returned v ∧
      w'.ownsRow w.heap.size 24 2 v (cellsTo a b c d 1024).length (cells2 (cellsTo a b c d 1024)) ∧ Below w.heap.size w w' := by
  cases hW : wholeB a b c d with
  | false => exact pcells_no a b c d w hW
  | true =>
    have hq := (wholeB_iff _ _ _ _).1 hW
    obtain ⟨a', rfl⟩ := Int.eq_ofNat_of_zero_le hq.1.1
    obtain ⟨b', rfl⟩ := Int.eq_ofNat_of_zero_le hq.1.2.2.1
    obtain ⟨c', rfl⟩ := Int.eq_ofNat_of_zero_le hq.2.1.1
    obtain ⟨d', rfl⟩ := Int.eq_ofNat_of_zero_le hq.2.1.2.2.1
    exact pcells_yes a' b' c' d' w hW
end Go.Proofs.YteflmfifhmlpiaaDoor
