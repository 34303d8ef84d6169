/- Texts joined: ShE, ShG, ShFb, EvE, EwN, EwO. -/
import Derived.Test.YthaoalmhhgllmaaGreatDoorMb07
import Derived.Test.YthaoalmhhgllmaaGreatDoorMb05
import Derived.Deep.RegionWith
import Derived.Test.YthaoalmhhgllmaaGreatDoorMb08
import Derived.Test.YthaoalmhhgllmaaGreatDoorMb12
import Derived.Test.YthaoalmhhgllmaaGreatDoorMb02
import Derived.Test.YthaoalmhhgllmaaGreatDoorMb24
import Derived.Deep.RegionHeld3
set_option linter.all false
namespace Go.Proofs.YthaoalmhhgllmaaGreatDoor
open Go.RowKit
mutual
def cnA (kd : Int) : Tr → Nat
  | .mk k _ _ _ _ _ _ ks => (if kd < 0 ∨ k = kd then 1 else 0) + cnAL kd ks
def cnAL (kd : Int) : List Tr → Nat
  | [] => 0
  | t :: ts => cnA kd t + cnAL kd ts
end
mutual
theorem cnA_kind {kd : Int} (h : 0 ≤ kd) : ∀ t, cnA kd t = cnK kd t
  | .mk k n c r d s w ks => by
    rw [cnA, cnK, cnAL_kind h ks]
    by_cases e : k = kd
    · rw [if_pos (.inr e), if_pos e]
    · rw [if_neg (by omega), if_neg e]
theorem cnAL_kind {kd : Int} (h : 0 ≤ kd) : ∀ l, cnAL kd l = cnKL kd l
  | [] => by rw [cnAL, cnKL]
  | t :: ts => by rw [cnAL, cnKL, cnA_kind h t, cnAL_kind h ts]
end
theorem cnA_eq (kd : Int) (t : Tr) : cnA kd t = (if kd < 0 ∨ t.kind = kd then 1 else 0) + cnAL kd t.kids := by cases t; rw [cnA]; rfl
theorem cnAL_app (kd : Int) : ∀ (a b : List Tr), cnAL kd (a ++ b) = cnAL kd a + cnAL kd b
  | [], b => by rw [List.nil_append, cnAL, Nat.zero_add]
  | t :: ts, b => by rw [List.cons_append, cnAL, cnAL, cnAL_app kd ts b, Nat.add_assoc]
theorem cnAL_take {kd : Int} {ks : List Tr} {i : Nat} {u : Tr} (h : ks[i]? = some u) : cnAL kd (ks.take (i + 1)) = cnAL kd (ks.take i) + cnA kd u := by
  rw [List.take_add_one, h, cnAL_app]
  show _ + cnAL kd [u] = _
  rw [cnAL, cnAL, Nat.add_zero]
theorem cnAL_le (kd : Int) (ks : List Tr) (i : Nat) : cnAL kd (ks.take i) ≤ cnAL kd ks := by
  have := cnAL_app kd (ks.take i) (ks.drop i)
  rw [List.take_append_drop] at this
  omega
def CnC (kd : Int) (t : Tr) : Prop := ∀ (w : World) (P : Nat → Prop) (A : Option Addr) (cap : Nat), KV w P t A →
  Calls Tryz.prog 24 #[.agg #[.int .i64 t.kind, .int .i64 t.num, .int .i64 t.c1, .int .i64 t.r1, .int .i64 t.c2, .int .i64 t.r2, .string ⟨t.word.toArray⟩, .slice A t.kids.length cap], .int .i64 kd] w fun e w' => e = .returned (.int .i64 (cnA kd t : Int)) ∧ Below w.heap.size w w'
set_option maxHeartbeats 2000000 in
set_option maxRecDepth 10000 in
theorem count_level (kd : Int) (t : Tr) (hlen : t.kids.length ≤ maxLen) (hb : cnA kd t ≤ 1000000000) (b1 b2 : Bool) (e1 : decide (kd < 0) = b1) (e2 : (t.kind == kd) = b2) (ih : ∀ u ∈ t.kids, CnC kd u) : CnC kd t := by
  intro w P A cap hk
  have HK := Lib.hid hk
  have HI := Lib.hid ih
  have hE := cnA_eq kd t
  obtain ⟨n0, hn0⟩ : ∃ n0 : Nat, n0 = (if kd < 0 ∨ t.kind = kd then 1 else 0) := ⟨_, rfl⟩
  have hn1 : (n0 : Int) = (if (b1 || b2) = true then 1 else 0) := by
    rw [hn0]
    cases b1
    · have h1 : ¬ kd < 0 := of_decide_eq_false e1
      cases b2
      · rw [beq_eq_false_iff_ne] at e2
        rw [if_neg (by rintro (h | h); exact h1 h; exact e2 h)]; rfl
      · rw [beq_iff_eq] at e2
        rw [if_pos (.inr e2)]; rfl
    · have h1 : kd < 0 := of_decide_eq_true e1
      rw [if_pos (.inl h1)]; rfl
  rw [← hn0] at hE
  have hn2 : n0 ≤ 1 := by rw [hn0]; split <;> omega
  have HE := Lib.hid hE
  have HB : Hid (n0 + cnAL kd t.kids ≤ 1000000000) := Lib.hid (by omega)
  unfold maxLen at hlen
  clear hk ih hb hn0 hE
  cases b1
  all_goals
    cases b2
    all_goals
      simp only [Bool.or_false, Bool.or_true, Bool.false_or, Bool.true_or, if_true, Bool.false_eq_true, if_false] at hn1
      go_enter Tryz.func24, Tryz.ntmps24
      go_wp2_with fail
      go_loopw [5, 6] (fun vn vi wr => ∃ (i : Nat), i ≤ t.kids.length ∧ vn = .int .i64 ((n0 + cnAL kd (t.kids.take i) : Nat) : Int) ∧ vi = .int .i64 (i : Int) ∧ Below w.heap.size w wr ∧ w.heap.size < wr.heap.size ∧ wr.cell? ⟨w.heap.size, 7, none⟩ = some (.slice A t.kids.length cap)) (fun _ vi _ => t.kids.length - (intOf vi).toNat)
      case atStart => exact ⟨0, Nat.zero_le _, by rw [List.take_zero, cnAL, Nat.add_zero, hn1], rfl, (Below.refl _ _).alloc (Nat.le_refl _) _, by simp, by simp [go_sem]⟩
      case round =>
        obtain ⟨i, hi, rfl, rfl, hbel, hsz, c7⟩ := hrel
        by_cases hlt : i < t.kids.length
        · have hu : t.kids[i]? = some (t.kids[i]'hlt) := List.getElem?_eq_getElem hlt
          obtain ⟨g, o, rfl⟩ := HK.out.addr hu
          obtain ⟨hg, A', cap', h8, hkv⟩ := HK.out.kidAt hbel hu
          have hT := cnAL_take (kd := kd) hu
          have hle := cnAL_le kd t.kids (i + 1)
          have hBB := HB.out
          have HT := Lib.hid hT
          have HC := Lib.hid (HI.out _ (List.getElem_mem hlt) wr _ A' cap' hkv)
          generalize t.kids[i]'hlt = u at *
          generalize hq : cnA kd u = q at *
          have hbd : n0 + cnAL kd (t.kids.take i) + q ≤ 1000000000 := by omega
          obtain ⟨p, hp⟩ : ∃ p, p = n0 + cnAL kd (t.kids.take i) := ⟨_, rfl⟩
          rw [← hp] at hbd ⊢
          have HP := Lib.hid hp
          obtain ⟨q0, q1, q2, q3, q4, q5, q6, q7⟩ := h8
          clear hkv hu hT hle hBB hp hq
          go_wp2_with fail
          refine Calls.mono HC.out ?_; rintro e w2 ⟨rfl, b2⟩
          have h2 := hbel.trans (b2.mono hbel.size)
          have k2 := keep_cell b2 c7
          have z2 : w.heap.size < w2.heap.size := Nat.lt_of_lt_of_le hsz b2.size
          clear b2 q0 q1 q2 q3 q4 q5 q6 q7
          go_wp2_with fail
          go_roundw
          case rel => exact ⟨i + 1, by omega, by rw [HT.out, ← Nat.add_assoc, ← HP.out]; go_num, by go_num, h2, z2, k2⟩
          case measure => simp [intOf]; omega
        · have hii : i = t.kids.length := by omega
          subst hii
          rw [List.take_length]
          rw [← HE.out]
          go_wp2_with fail
          go_ret
          exact ⟨rfl, hbel⟩
theorem cnA_kid {kd : Int} {t u : Tr} (h : u ∈ t.kids) : cnA kd u ≤ cnA kd t := by
  rw [cnA_eq kd t]
  obtain ⟨i, hi, rfl⟩ := List.mem_iff_getElem.1 h
  have := cnAL_take (kd := kd) (ks := t.kids) (i := i) (List.getElem?_eq_getElem hi)
  have := cnAL_le kd t.kids (i + 1)
  omega
theorem rcount_any (kd : Int) : ∀ {t : Tr}, Wid t → cnA kd t ≤ 1000000000 → CnC kd t := by
  intro t hW
  induction hW with
  | @mk k n c r d s w ks hl hk ih =>
    intro hb
    exact count_level kd _ hl hb _ _ rfl rfl fun u hu => ih u hu (Nat.le_trans (cnA_kid (t := .mk k n c r d s w ks) hu) hb)
end Go.Proofs.YthaoalmhhgllmaaGreatDoor
namespace Go.Proofs.YthaoalmhhgllmaaGreatDoor
open Go.RowKit
def readsTo (t : Tr) (i : Nat) : List (Int × Int) := ((List.range i).filter fun (j : Nat) => usT (atC (j : Int)) (atR (j : Int)) t).map fun (j : Nat) => (atC (j : Int), atR (j : Int))
theorem readsTo_yes {t : Tr} {i : Nat} (h : usT (atC i) (atR i) t = true) : readsTo t (i + 1) = readsTo t i ++ [(atC i, atR i)] := by
  unfold readsTo; rw [List.range_succ, List.filter_append, List.map_append]; simp [h]
theorem readsTo_no {t : Tr} {i : Nat} (h : usT (atC i) (atR i) t = false) : readsTo t (i + 1) = readsTo t i := by
  unfold readsTo; rw [List.range_succ, List.filter_append, List.map_append]; simp [h]
theorem readsTo_le (t : Tr) (i : Nat) : (readsTo t i).length ≤ i := by
  unfold readsTo; rw [List.length_map]; exact Nat.le_trans (List.length_filter_le _ _) (by simp)
def rdL (t : Tr) : List (Int × Int) := if rightT t = true then readsTo t 1024 else []
set_option maxHeartbeats 2000000 in
set_option maxRecDepth 10000 in
theorem rReads_no (t : Tr) (hR : rightT t = false) (hW : Wid t) (hd : deepT t ≤ 1000000000) (w : World) (A : Option Addr) (ca : Nat) (hA : KV w (fun _ => True) t A) :
    Calls Tryz.prog 10 #[tv t A ca] w fun e w' => ∃ v, e = .returned v ∧ w'.ownsRow w.heap.size 24 2 v (rdL t).length (cells2 (rdL t)) ∧ Below w.heap.size w w' := by
  have hlen := hW.len
  unfold maxLen at hlen
  have H1 := Lib.hid (fun w1 (hb : Below w.heap.size w w1) => rRight_any t hd hW w1 (fun _ => True) A ca (hA.kept (Kept.of_below hb)))
  have HE : Hid (rdL t = []) := Lib.hid (if_neg (by rw [hR]; decide))
  unfold tv at *
  rw [hR] at H1
  clear hA hW hd hR
  go_enter Tryz.func10, Tryz.ntmps10
  go_wp2_with fail
  refine (H1.out _ ((Below.refl _ _).alloc (Nat.le_refl _) _)).mono ?_; rintro e w1 ⟨rfl, b1⟩
  have HB := Lib.hid (((Below.refl _ _).alloc (Nat.le_refl _) _ : Below w.heap.size w (w.alloc _)).trans (b1.mono (by simp)))
  clear b1
  go_wp2_with fail
  go_loopw [3, 5] (fun v n wr => v = .slice none 0 0 ∧ n = .int .i64 0 ∧ wr = w1) (fun _ _ _ => 0)
  case atStart => exact ⟨rfl, rfl, rfl⟩
  case round =>
    obtain ⟨rfl, rfl, rfl⟩ := hrel
    go_wp2_with fail
    go_ret
    exact ⟨_, rfl, by rw [HE.out]; exact World.ownsRow_nil _ _ _ _, HB.out⟩
set_option maxHeartbeats 2000000 in
set_option maxRecDepth 10000 in
theorem rReads_yes (t : Tr) (hR : rightT t = true) (hW : Wid t) (hd : deepT t ≤ 1000000000) (w : World) (A : Option Addr) (ca : Nat) (hA : KV w (fun _ => True) t A) :
    Calls Tryz.prog 10 #[tv t A ca] w fun e w' => ∃ v, e = .returned v ∧ w'.ownsRow w.heap.size 24 2 v (rdL t).length (cells2 (rdL t)) ∧ Below w.heap.size w w' := by
  obtain ⟨i0, hi0, hz0, hz1, hz2⟩ := info_parts place_info
  have HI := Lib.hid hi0
  have HZ0 := Lib.hid hz0
  have HZ1 := Lib.hid hz1
  have HZ2 := Lib.hid hz2
  clear hi0 hz0 hz1 hz2
  have hlen := hW.len
  unfold maxLen at hlen
  have H1 := Lib.hid (fun w1 (hb : Below w.heap.size w w1) => rRight_any t hd hW w1 (fun _ => True) A ca (hA.kept (Kept.of_below hb)))
  have H2 := Lib.hid (fun (x y : Int) w1 (hb : Below w.heap.size w w1) => ruses_any x y hW w1 (fun _ => True) A ca (hA.kept (Kept.of_below hb)))
  have HE : Hid (rdL t = readsTo t 1024) := Lib.hid (if_pos hR)
  unfold tv at *
  rw [hR] at H1
  clear hA hW hd hR
  go_enter Tryz.func10, Tryz.ntmps10
  go_wp2_with fail
  refine (H1.out _ ((Below.refl _ _).alloc (Nat.le_refl _) _)).mono ?_; rintro e w1 ⟨rfl, b1⟩
  have k0 := keep_fresh b1 0 (v := .int .i64 t.kind) rfl
  have k1 := keep_fresh b1 1 (v := .int .i64 t.num) rfl
  have k2 := keep_fresh b1 2 (v := .int .i64 t.c1) rfl
  have k3 := keep_fresh b1 3 (v := .int .i64 t.r1) rfl
  have k4 := keep_fresh b1 4 (v := .int .i64 t.c2) rfl
  have k5 := keep_fresh b1 5 (v := .int .i64 t.r2) rfl
  have k6 := keep_fresh b1 6 (v := .string ⟨t.word.toArray⟩) rfl
  have k7 := keep_fresh b1 7 (v := .slice A t.kids.length ca) rfl
  have HB := Lib.hid (((Below.refl _ _).alloc (Nat.le_refl _) _ : Below w.heap.size w (w.alloc _)).trans (b1.mono (by simp)))
  have z1 : w.heap.size < w1.heap.size := by have := b1.size; simp at this; omega
  clear b1
  have HK := Lib.hid (show C8 w1 w.heap.size (.int .i64 t.kind) (.int .i64 t.num) (.int .i64 t.c1) (.int .i64 t.r1) (.int .i64 t.c2) (.int .i64 t.r2) (.string ⟨t.word.toArray⟩) (.slice A t.kids.length ca) from ⟨k0, k1, k2, k3, k4, k5, k6, k7⟩)
  go_wp2_with fail
  clear k0 k1 k2 k3 k4 k5 k6 k7
  go_loopw [3, 5] (fun v n wr => ∃ i : Nat, i ≤ 1024 ∧ n = .int .i64 i ∧ wr.ownsRow (w.heap.size + 1) 24 2 v (readsTo t i).length (cells2 (readsTo t i)) ∧ Below (w.heap.size + 1) w1 wr) (fun _ n _ => leftG n)
  case atStart => exact ⟨0, by omega, rfl, World.ownsRow_nil _ _ _ _, Below.refl _ _⟩
  case round =>
    obtain ⟨i, hi, rfl, hown, hb⟩ := hrel
    have HO := Lib.hid hown
    have hlen2 := readsTo_le t i
    have z0 : w.heap.size < wr.heap.size := Nat.lt_of_lt_of_le z1 hb.size
    clear hown
    by_cases hlt : i < 1024
    · go_wp2_with fail
      refine (rat_any _ _).mono ?_; rintro e w2 ⟨rfl, b2⟩
      have z2 : w.heap.size < w2.heap.size := by have := b2.size; omega
      have HO2 := Lib.hid (own_below HO.out b2)
      have hb2 := hb.trans (b2.mono (by omega))
      obtain ⟨q0, q1, q2, q3, q4, q5, q6, q7⟩ := c8_lift (w' := w2) (fun j v (hv : w1.cell? ⟨w.heap.size, j, none⟩ = some v) => (hb2.cell (p := ⟨w.heap.size, j, none⟩) (Nat.lt_succ_self _)).trans hv) HK.out.1 HK.out.2.1 HK.out.2.2.1 HK.out.2.2.2.1 HK.out.2.2.2.2.1 HK.out.2.2.2.2.2.1 HK.out.2.2.2.2.2.2.1 HK.out.2.2.2.2.2.2.2
      have HU := Lib.hid (fun ob => H2.out (atC i) (atR i) (w2.alloc ob) (HB.out.trans (((hb2.mono (by omega) : Below w.heap.size w1 w2)).alloc (by omega) ob)))
      clear b2 
      cases hh : usT (atC i) (atR i) t with
      | true =>
        rw [hh] at HU
        have HS := Lib.hid (readsTo_yes hh)
        clear hh
        go_wp2_with fail
        refine Calls.mono (HU.out _) ?_; rintro e w3 ⟨rfl, b3⟩
        have m0 := keep_fresh b3 0 (v := .int .i64 (atC i)) rfl
        have m1 := keep_fresh b3 1 (v := .int .i64 (atR i)) rfl
        have HO3 := Lib.hid (own_below (HO2.out.alloc _) b3)
        have hb3 := (hb2.alloc (by omega) _).trans (b3.mono (by simp; omega))
        have z3 : w.heap.size + 1 ≤ w3.heap.size := by have := b3.size; simp at this; omega
        clear b3 q0 q1 q2 q3 q4 q5 q6 q7
        go_wp2_with (at_builtin
                     refine wpList_append_own _ rfl _ _ 39 rfl (w.heap.size + 1) 24 i0 (.agg #[.int .i64 0, .int .i64 0]) 2 16 Tryz.underlying39 HI.out HZ0.out HZ1.out HZ2.out rfl (by decide) _ _ _ rfl (HO3.out.alloc _)
                       ⟨w3.heap.size, 0, none⟩ 1 1 [.int .i64 (atC i), .int .i64 (atR i)] rfl rfl ?c1 ?c2 ?c3 ?c4 ?c5 ?_)
        case c1 =>
          intro j u hj
          match j, hj with
          | 0, hj => simp at hj; subst hj; simp [Addr.add]
          | 1, hj => simp at hj; subst hj; simp [Addr.add]
        case c2 => intro u hu; simp at hu; rcases hu with rfl | rfl <;> rfl
        case c3 => unfold maxLen; omega
        case c4 => omega
        case c5 => simp; omega
        intro v' w4 hown4 hg4 _
        rw [← cells2_snoc] at hown4
        have e5 : (readsTo t i).length + 1 = (readsTo t (i + 1)).length := by rw [HS.out]; simp
        rw [e5, ← HS.out] at hown4
        have HO4 := Lib.hid hown4
        clear hown4 e5
        have hb4 : Below (w.heap.size + 1) w1 w4 := (hb3.alloc z3 _).grown hg4 (by simp; omega) (fun g hgg => (HO3.out.lt g hgg).1)
        clear hg4
        go_wp2_with fail
        go_roundw
        case rel => exact ⟨i + 1, by omega, by go_num, HO4.out, hb4⟩
        case measure => simp [leftG, intOf]; omega
      | false =>
        rw [hh] at HU
        have HS := Lib.hid (readsTo_no hh)
        clear hh
        go_wp2_with fail
        refine Calls.mono (HU.out _) ?_; rintro e w3 ⟨rfl, b3⟩
        have HO3 := own_below (HO2.out.alloc _) b3
        have hb3 := (hb2.alloc (by omega) _).trans (b3.mono (by simp; omega))
        rw [← HS.out] at HO3
        have HO4 := Lib.hid HO3
        clear HO3 b3 q0 q1 q2 q3 q4 q5 q6 q7
        go_wp2_with fail
        go_roundw
        case rel => exact ⟨i + 1, by omega, by go_num, HO4.out, hb3⟩
        case measure => simp [leftG, intOf]; omega
    · have hi2 : i = 1024 := by omega
      subst hi2
      go_wp2_with fail
      go_ret
      exact ⟨_, rfl, by rw [HE.out]; exact HO.out.mono (by omega), HB.out.trans (hb.mono (by omega))⟩
theorem rReads_any (t : Tr) (hW : Wid t) (hd : deepT t ≤ 1000000000) (w : World) (A : Option Addr) (ca : Nat) (hA : KV w (fun _ => True) t A) :
    Calls Tryz.prog 10 #[tv t A ca] w fun e w' => ∃ v, e = .returned v ∧ w'.ownsRow w.heap.size 24 2 v (rdL t).length (cells2 (rdL t)) ∧ Below w.heap.size w w' := by
  cases hR : rightT t with
  | true => exact rReads_yes t hR hW hd w A ca hA
  | false => exact rReads_no t hR hW hd w A ca hA
end Go.Proofs.YthaoalmhhgllmaaGreatDoor
namespace Go.Proofs.YthaoalmhhgllmaaGreatDoor
open Go.RowKit
set_option maxHeartbeats 1000000 in
set_option maxRecDepth 10000 in
theorem rBads_any (t : Tr) (hW : Wid t) (hd : deepT t ≤ 1000000000) (hc : cnK 2 t ≤ 1000000000) (w : World) (A : Option Addr) (ca : Nat) (hA : KV w (fun _ => True) t A) :
    Calls Tryz.prog 11 #[tv t A ca] w fun e w' => e = .returned (.int .i64 (if rightT t = true then (cnK 2 t : Int) else 0)) ∧ Below w.heap.size w w' := by
  have hlen := hW.len
  unfold maxLen at hlen
  have H1 := Lib.hid (fun w1 (hb : Below w.heap.size w w1) => rRight_any t hd hW w1 (fun _ => True) A ca (hA.kept (Kept.of_below hb)))
  have H2 := Lib.hid (fun w1 (hb : Below w.heap.size w w1) => rcount_any 2 hW (by rw [cnA_kind (by decide)]; exact hc) w1 (fun _ => True) A ca (hA.kept (Kept.of_below hb)))
  rw [cnA_kind (by decide)] at H2
  unfold tv at *
  generalize cnK 2 t = C at *
  clear hA hW hd
  cases hR : rightT t
  all_goals
    rw [hR] at H1
    go_enter Tryz.func11, Tryz.ntmps11
    go_wp2_with fail
    refine (H1.out _ ((Below.refl _ _).alloc (Nat.le_refl _) _)).mono ?_; rintro e w1 ⟨rfl, b1⟩
    have k0 := keep_fresh b1 0 (v := .int .i64 t.kind) rfl
    have k1 := keep_fresh b1 1 (v := .int .i64 t.num) rfl
    have k2 := keep_fresh b1 2 (v := .int .i64 t.c1) rfl
    have k3 := keep_fresh b1 3 (v := .int .i64 t.r1) rfl
    have k4 := keep_fresh b1 4 (v := .int .i64 t.c2) rfl
    have k5 := keep_fresh b1 5 (v := .int .i64 t.r2) rfl
    have k6 := keep_fresh b1 6 (v := .string ⟨t.word.toArray⟩) rfl
    have k7 := keep_fresh b1 7 (v := .slice A t.kids.length ca) rfl
    have h1 : Below w.heap.size w w1 := ((Below.refl _ _).alloc (Nat.le_refl _) _).trans (b1.mono (by simp))
    have HH := Lib.hid h1
    clear b1 h1
    go_wp2_with fail
  · go_ret
    exact ⟨rfl, HH.out⟩
  · refine (H2.out w1 HH.out).mono ?_; rintro e w2 ⟨rfl, b2⟩
    have h2 := HH.out.trans (b2.mono HH.out.size)
    clear b2 k0 k1 k2 k3 k4 k5 k6 k7
    go_wp2_with fail
    go_ret
    exact ⟨rfl, h2⟩
end Go.Proofs.YthaoalmhhgllmaaGreatDoor
namespace Go.Proofs.YthaoalmhhgllmaaGreatDoor
open Go.RowKit
theorem ok_zero : OkF (0, 0) := .inl rfl
theorem ok_add (a b : Int) : OkF (gAdd a b) := ok_told _
theorem ok_low (a b : Int) : OkF (gLow a b) := .inl rfl
theorem ok_top (a b : Int) : OkF (gTop a b) := .inl rfl
theorem ok_get {l : List (Int × Int)} (h : ∀ q ∈ l, OkF q) (i : Nat) : OkF (l.getD i (0, 0)) := by
  rw [List.getD_eq_getElem?_getD]
  cases hi : l[i]? with
  | none => exact ok_zero
  | some v => exact h v (List.mem_of_getElem? hi)
theorem ok_most {G : Int → Int → Int × Int} (hG : ∀ a b, OkF (G a b)) {l : List (Int × Int)} (h : ∀ q ∈ l, OkF q) : OkF (mostV G l) := by
  unfold mostV
  refine ok_all hG l _ ?_ h
  cases l with
  | nil => exact ok_zero
  | cons a b => exact h a (List.mem_cons_self ..)
theorem no_bads : ∀ {ks : List Tr}, cnKL 2 ks = 0 → (ks.any fun u => u.kind == 2) = false
  | [], _ => rfl
  | .mk k n c r d s w us :: ts, h => by
    rw [cnKL, cnK] at h
    have h2 : ¬ k = 2 := fun e => by rw [if_pos e] at h; omega
    rw [List.any_cons, no_bads (ks := ts) (by omega), Bool.or_false]
    exact beq_eq_false_iff_ne.2 h2
mutual
theorem ok_cm {l : List Cel} : ∀ t : Tr, mayB t = true → t.kind ≠ 6 → cnK 2 t = 0 → (∀ x y v, usT x y t = true → cAt x y l = some v → OkF v) → OkF (cmT l t)
  | .mk k n c r d s w ks, hm, h6, hb, h => by
    have h6 : ¬ k = 6 := h6
    rw [cnK] at hb
    have h2 : ¬ k = 2 := fun e => by rw [if_pos e] at hb; omega
    have hb2 : cnKL 2 ks = 0 := by omega
    have hk : ∀ u ∈ ks, mayB u = true := may_kids hm
    by_cases k0 : k = 0
    · rw [cm_num (show (Tr.mk k n c r d s w ks).kind = 0 from k0)]; exact .inl rfl
    · by_cases k1 : k = 1
      · subst k1
        have hw := rdr_whole hm rfl
        rw [cm_read rfl]
        show OkF (cVal c r l)
        unfold cVal
        cases ha : cAt c r l with
        | none => exact ok_zero
        | some v =>
          refine h c r v ?_ ha
          rw [usT, if_pos (.inl rfl)]
          unfold hasP
          have h2 : (rightB c r && rightB d s && (decide (c ≤ d) && decide (r ≤ s))) = true := hw
          rw [h2, Bool.true_and, decide_eq_true_iff]
          simp only [Bool.and_eq_true, decide_eq_true_iff] at h2
          omega
      · have hu : ∀ x y v, usL x y ks = true → cAt x y l = some v → OkF v := fun x y v hx => h x y v (by
          rw [usT, if_neg (by rintro (e | e); exact k1 e; exact h6 e)]; exact hx)
        have hi := ok_itL ks hk hb2 hu
        rw [mayB, if_neg k0, if_neg k1, if_neg h2, if_neg h6] at hm
        by_cases k3 : k = 3
        · rw [if_pos k3, Bool.and_eq_true] at hm
          have hg := ok_cmL ks hk (fun u hv => ((all_mem hm.2 u hv).2.1).resolve_left (by decide)) hb2 hu
          rw [cmT, if_neg k0, if_neg k1, if_pos k3]
          exact ok_do (p := (0, 0)) ok_zero (ok_get hg 0)
        · rw [if_neg k3] at hm
          by_cases k4 : k = 4
          · rw [if_pos k4, Bool.and_eq_true, Bool.and_eq_true] at hm
            have hg := ok_cmL ks hk (fun u hv => ((all_mem hm.2.1 u hv).2.1).resolve_left (by decide)) hb2 hu
            rw [cmT, if_neg k0, if_neg k1, if_neg k3, if_pos k4]
            exact ok_do (ok_get hg 0) (ok_get hg 1)
          · rw [if_neg k4] at hm
            by_cases k5 : k = 5
            · rw [if_pos k5, Bool.and_eq_true, Bool.and_eq_true] at hm
              rw [cmT, if_neg k0, if_neg k1, if_neg k3, if_neg k4, if_pos k5]
              by_cases hw : w = [73, 70]
              · have hg := ok_cmL ks hk (fun u hv => ((all_mem hm.2.1 u hv).2.1).resolve_left (by rw [hw]; decide)) hb2 hu
                rw [if_pos hw]
                repeat' split
                all_goals exact ok_get hg _
              · rw [if_neg hw]
                repeat' split
                all_goals first
                  | exact ok_all ok_add _ _ ok_zero hi
                  | exact ok_most ok_low hi
                  | exact ok_most ok_top hi
                  | exact .inl rfl
                  | (rename_i hn; rw [no_bads hb2] at hn; cases hn)
            · rw [if_neg k5] at hm; cases hm
theorem ok_cmL {l : List Cel} : ∀ ks : List Tr, (∀ u ∈ ks, mayB u = true) → (∀ u ∈ ks, u.kind ≠ 6) → cnKL 2 ks = 0 → (∀ x y v, usL x y ks = true → cAt x y l = some v → OkF v) → ∀ q ∈ cmL l ks, OkF q
  | [], _, _, _, _, q, h => by rw [cmL] at h; cases h
  | t :: ts, hm, h6, hb, hu, q, h => by
    rw [cmL] at h
    rw [cnKL] at hb
    rcases List.mem_cons.1 h with rfl | h
    · exact ok_cm t (hm t (List.mem_cons_self ..)) (h6 t (List.mem_cons_self ..)) (by omega) (fun x y v hx => hu x y v (by rw [usL, hx]; rfl))
    · exact ok_cmL ts (fun u hv => hm u (List.mem_cons_of_mem _ hv)) (fun u hv => h6 u (List.mem_cons_of_mem _ hv)) (by omega) (fun x y v hx => hu x y v (by rw [usL, hx, Bool.or_true])) q h
theorem ok_itL {l : List Cel} : ∀ ks : List Tr, (∀ u ∈ ks, mayB u = true) → cnKL 2 ks = 0 → (∀ x y v, usL x y ks = true → cAt x y l = some v → OkF v) → ∀ q ∈ itL l ks, OkF q
  | [], _, _, _, q, h => by rw [itL] at h; cases h
  | t :: ts, hm, hb, hu, q, h => by
    rw [itL] at h
    rw [cnKL] at hb
    rcases List.mem_append.1 h with h | h
    · by_cases k6 : t.kind = 6
      · rw [if_pos k6] at h
        unfold cIn at h
        obtain ⟨p, hp, ha⟩ := List.mem_filterMap.1 h
        exact hu p.1 p.2 q (by rw [usL, usT_rd (.inr k6), show hasP t.c1 t.r1 t.c2 t.r2 p.1 p.2 = true from mem_cells hp]; rfl) ha
      · rw [if_neg k6] at h
        rw [List.mem_singleton.1 h]
        exact ok_cm t (hm t (List.mem_cons_self ..)) k6 (by omega) (fun x y v hx => hu x y v (by rw [usL, hx]; rfl))
    · exact ok_itL ts (fun u hv => hm u (List.mem_cons_of_mem _ hv)) (by omega) (fun x y v hx => hu x y v (by rw [usL, hx, Bool.or_true])) q h
end
end Go.Proofs.YthaoalmhhgllmaaGreatDoor
namespace Go.Proofs.YthaoalmhhgllmaaGreatDoor
open Go.RowKit
theorem rdL_map {t : Tr} (hr : rightP t = true) : rdL t = (rdI t).map fun z => (z % 16, z / 16) := by
  unfold rdL
  rw [right_same, if_pos hr]
  unfold readsTo rdI
  rw [List.map_map]
  have hk : ∀ j : Nat, j ∈ List.range 1024 → atC (j : Int) = (j : Int) % 16 ∧ atR (j : Int) = (j : Int) / 16 := fun j hj => by
    have := List.mem_range.1 hj
    unfold atC atR
    rw [if_pos (by omega), if_pos (by omega)]
    exact ⟨rfl, rfl⟩
  have hf : ((List.range 1024).filter fun (j : Nat) => usT (atC (j : Int)) (atR (j : Int)) t) = ((List.range 1024).filter fun (j : Nat) => usT ((j : Int) % 16) ((j : Int) / 16) t) := by
    refine List.filter_congr fun j hj => ?_
    rw [(hk j hj).1, (hk j hj).2]
  rw [hf]
  refine List.map_congr_left fun j hj => ?_
  have hj2 := (List.mem_filter.1 hj).1
  show (atC (j : Int), atR (j : Int)) = ((j : Int) % 16, (j : Int) / 16)
  rw [(hk j hj2).1, (hk j hj2).2]
theorem mem_rdL {t : Tr} (hr : rightP t = true) {c r : Int} : (c, r) ∈ rdL t ↔ usT c r t = true := by
  rw [rdL_map hr, List.mem_map]
  constructor
  · rintro ⟨z, hz, he⟩
    obtain ⟨h0, h1, h2⟩ := mem_rdI.1 hz
    have e1 := congrArg Prod.fst he
    have e2 := congrArg Prod.snd he
    simp only at e1 e2
    rw [← e1, ← e2]; exact h2
  · intro h
    have hb := us_right h
    unfold rightB at hb
    simp at hb
    refine ⟨16 * r + c, mem_rdI.2 ⟨by omega, by omega, ?_⟩, ?_⟩
    · rw [show (16 * r + c) % 16 = c from by omega, show (16 * r + c) / 16 = r from by omega]; exact h
    · rw [show (16 * r + c) % 16 = c from by omega, show (16 * r + c) / 16 = r from by omega]
mutual
theorem cnK_cnt (k : Int) : ∀ t, cnK k t ≤ cntT t
  | .mk _ _ _ _ _ _ _ ks => by rw [cnK, cntT]; have := cnKL_cnt k ks; split <;> omega
theorem cnKL_cnt (k : Int) : ∀ l, cnKL k l ≤ cntL l
  | [] => by rw [cnKL]; exact Nat.zero_le _
  | t :: ts => by rw [cnKL, cntL]; have := cnK_cnt k t; have := cnKL_cnt k ts; omega
end
def hasL (L : List (Int × Int)) (x y : Int) : Bool := L.any fun p => p.1 == x && p.2 == y
theorem hasL_iff {L : List (Int × Int)} {x y : Int} : hasL L x y = true ↔ (x, y) ∈ L := by
  unfold hasL
  rw [List.any_eq_true]
  constructor
  · rintro ⟨⟨a, b⟩, h, e⟩
    simp at e
    obtain ⟨rfl, rfl⟩ := e
    exact h
  · intro h; exact ⟨_, h, by simp⟩
theorem hasL_no {L : List (Int × Int)} {i : Nat} {a b x y : Int} (h : L[i]? = some (a, b)) (hp : hasL (L.take i) x y = false) (hq : (a == x && b == y) = false) : hasL (L.take (i + 1)) x y = false := by
  unfold hasL at *
  rw [List.take_add_one, h, List.any_append, hp]
  show (false || ([(a, b)].any _)) = false
  rw [List.any_cons, hq]; rfl
theorem hasL_yes {L : List (Int × Int)} {i : Nat} {a b x y : Int} (h : L[i]? = some (a, b)) (hq : (a == x && b == y) = true) : hasL L x y = true := List.any_eq_true.2 ⟨_, List.mem_of_getElem? h, hq⟩
def PlW (w : World) (A : Option Addr) (L : List (Int × Int)) : Prop := ∀ i, i < L.length → ∃ g, A = some ⟨g, 0, none⟩ ∧ g < w.heap.size ∧ At2 w g L
theorem PlW.below {w w' : World} {A : Option Addr} {L : List (Int × Int)} (h : PlW w A L) (hb : Below w.heap.size w w') : PlW w' A L := fun i hi => by
  obtain ⟨g, e, hg, hat⟩ := h i hi
  exact ⟨g, e, Nat.lt_of_lt_of_le hg hb.size, at2_below hat hb hg⟩
set_option maxHeartbeats 2000000 in
set_option maxRecDepth 10000 in
theorem lhas_any (L : List (Int × Int)) (hl : L.length ≤ 1024) (A : Option Addr) (cap : Nat) (x y : Int) (w : World) (hc : PlW w A L) :
    Calls Tryz.prog 12 #[.slice A L.length cap, .agg #[.int .i64 x, .int .i64 y]] w fun e w' => e = .returned (.bool (hasL L x y)) ∧ Below w.heap.size w w' := by
  have HC := Lib.hid hc
  clear hc
  go_enter Tryz.func12, Tryz.ntmps12
  go_wp2_with fail
  go_loopw [5] (fun vi wr => ∃ i : Nat, i ≤ L.length ∧ vi = .int .i64 (i : Int) ∧ Hid (hasL (L.take i) x y = false) ∧ Below (w.heap.size + 1) (w.alloc (.cells #[.int .i64 x, .int .i64 y] 24)) wr) (fun vi _ => L.length - (intOf vi).toNat)
  case atStart => exact ⟨0, Nat.zero_le _, rfl, Lib.hid (by rw [List.take_zero]; rfl), Below.refl _ _⟩
  case round =>
    obtain ⟨i, hi, rfl, HT, hb⟩ := hrel
    have p0 : wr.cell? ⟨w.heap.size, 0, none⟩ = some (.int .i64 x) := by rw [hb.cell (by simp)]; simp [go_sem]
    have p1 : wr.cell? ⟨w.heap.size, 1, none⟩ = some (.int .i64 y) := by rw [hb.cell (by simp)]; simp [go_sem]
    have b0 : Below w.heap.size w wr := ((Below.refl _ _).alloc (Nat.le_refl _) _).trans (hb.mono (by omega))
    by_cases hlt : i < L.length
    · obtain ⟨a, b, hq⟩ : ∃ a b, L[i]? = some (a, b) := ⟨_, _, List.getElem?_eq_getElem hlt⟩
      obtain ⟨g, rfl, _, hat⟩ := (HC.out.below b0) i hlt
      obtain ⟨c0, c1⟩ := hat i a b hq
      have hG := fun X Y W => guard_place .eql X Y #[.int .i64 a, .int .i64 b] #[.int .i64 x, .int .i64 y] W
      have hE := eql_place a b x y
      have HN := Lib.hid (hasL_no (x := x) (y := y) hq HT.out)
      have HY := Lib.hid (hasL_yes (x := x) (y := y) hq)
      clear hq hat
      generalize (a == x && b == y) = M at *
      cases M with
      | false =>
        have HN2 := Lib.hid (HN.out rfl)
        clear HN HY
        go_wp2_with fail
        try go_quiet (fail)
        try go_wp2_with fail
        go_roundw
        case rel => exact ⟨i + 1, by omega, by go_num, HN2, by first | exact hb | exact below_drewN hb _⟩
        case measure => simp [intOf]; omega
      | true =>
        have HY2 := Lib.hid (HY.out rfl)
        clear HN HY
        go_wp2_with fail
        try go_quiet (fail)
        try go_wp2_with fail
        go_ret
        exact ⟨by rw [HY2.out]; rfl, by first | exact b0 | exact below_drewN b0 _⟩
    · have hii : i = L.length := by omega
      subst hii
      have hz := HT.out
      rw [List.take_length] at hz
      have HZ := Lib.hid hz
      clear hz
      go_wp2_with fail
      go_ret
      exact ⟨by rw [HZ.out]; rfl, b0⟩
def OwnC (base : Nat) (w : World) (v : Value) (L : List Cel) : Prop := w.ownsRow base 44 4 v L.length (L.flatMap celV)
theorem flat_at : ∀ (l : List Cel) (i : Nat) (q : Cel), l[i]? = some q → ∀ (j : Nat) (u : Value), (celV q)[j]? = some u → (l.flatMap celV)[i * 4 + j]? = some u
  | [], i, q, h, _, _, _ => by simp at h
  | p :: t, 0, q, h, j, u, hj => by
    simp at h; subst h
    rw [List.flatMap_cons, Nat.zero_mul, Nat.zero_add, List.getElem?_append_left (by exact (List.getElem?_eq_some_iff.1 hj).1)]
    exact hj
  | p :: t, i + 1, q, h, j, u, hj => by
    have := flat_at t i q (by simpa using h) j u hj
    rw [List.flatMap_cons, List.getElem?_append_right (by show 4 ≤ _; omega)]
    show (t.flatMap celV)[(i + 1) * 4 + j - 4]? = some u
    rw [show (i + 1) * 4 + j - 4 = i * 4 + j from by omega]; exact this
theorem OwnC.shape {w : World} {base : Nat} {v : Value} {L : List Cel} (h : OwnC base w v L) : ∃ (A : Option Addr) (cap : Nat), v = .slice A L.length cap ∧ ListC w A L := by
  have h' := h
  rcases h.2 with ⟨rfl, hl⟩ | ⟨g, cap, cur, rfl, _, hh, _⟩
  · refine ⟨none, 0, by rw [hl], fun hne => ?_⟩
    exact absurd (List.length_eq_zero_iff.1 hl) hne
  · refine ⟨_, cap, rfl, fun _ => ⟨g, 0, rfl, fun i q hi j u hj => ?_⟩⟩
    have hlt : i < L.length := (List.getElem?_eq_some_iff.1 hi).1
    have hj4 : j < 4 := (List.getElem?_eq_some_iff.1 hj).1
    rw [Nat.zero_add]
    exact (World.ownsRow.cellAt h' (i * 4 + j) (by omega)).trans (flat_at L i q hi j u hj)
theorem wpList_append_cell (w : World) {ops : Array Oper} {rest : List Oper} {o : Oper} {a : Act} {Q : Exit → Act → World → Prop} (hg : o.guard = none) (s x : Operand) (ho : o.op = .call { callee := .builtin .append, args := #[s, x], argTypes := #[30, 30] }) {base : Nat} {v : Value} {X : List Cel}
    (hs : a.eval s = v) {w0 : World} {q : Cel} (hw : w = w0.alloc (.cells #[.int .i64 q.c, .int .i64 q.r, .int .i64 q.n, .int .i64 q.f] 44)) (hown : OwnC base w0 v X) (hx : a.eval x = .slice (some ⟨w0.heap.size, 0, none⟩) 1 1) (hlen : X.length ≤ 2000000000) (hbase : base ≤ w0.heap.size)
    (h : ∀ v' w', OwnC base w' v' (X ++ [q]) → w0.grownBy w' v.ownBlock → wpList Tryz.prog ops Q rest (a.put o.dst v') w') : wpList Tryz.prog ops Q (o :: rest) a w := by
  obtain ⟨i0, hi0, hz0, hz1, hz2⟩ := info_parts cell_info
  subst hw
  have hb : (w0.alloc (.cells #[.int .i64 q.c, .int .i64 q.r, .int .i64 q.n, .int .i64 q.f] 44)).heap[w0.heap.size]? = some (.cells #[.int .i64 q.c, .int .i64 q.r, .int .i64 q.n, .int .i64 q.f] 44) := (MapKept.heap_alloc w0 _).1
  refine wpList_append_own _ hg s x 30 ho base 44 i0 (.agg #[.int .i64 0, .int .i64 0, .int .i64 0, .int .i64 0]) 4 32 Tryz.underlying30 hi0 hz0 hz1 hz2 rfl (by decide) v X.length (X.flatMap celV) hs (hown.alloc _) ⟨w0.heap.size, 0, none⟩ 1 1 (celV q) hx rfl ?_ ?_ (by unfold maxLen; omega) (by omega) (by simp; omega) fun v' w' hown' hg' _ => h v' w' ?_ ?_
  · intro j u hj
    exact World.news_of_block (cs := #[.int .i64 q.c, .int .i64 q.r, .int .i64 q.n, .int .i64 q.f]) (t := 44) (fr := (0, 0)) hb j u hj
  · intro u hu
    simp only [celV, List.mem_cons, List.not_mem_nil, or_false] at hu
    rcases hu with rfl | rfl | rfl | rfl <;> rfl
  · unfold OwnC
    rw [List.length_append, List.flatMap_append]
    show w'.ownsRow base _ 4 v' (X.length + 1) (X.flatMap celV ++ celV q)
    exact hown'
  · exact ⟨hg'.os, hg'.tape, hg'.output, Nat.le_trans (by simp) hg'.size, fun k hk hn => (hg'.block k (by simp; omega) hn).trans (Below.heap_alloc w0 _ k hk)⟩
def pickL (f : Cel → Bool) (l : List Cel) (i : Nat) : List Cel := (l.take i).filter f
theorem pick_yes {f : Cel → Bool} {l : List Cel} {i : Nat} {q : Cel} (h : l[i]? = some q) (hf : f q = true) : pickL f l (i + 1) = pickL f l i ++ [q] := by
  unfold pickL; rw [List.take_add_one, h, List.filter_append]
  show _ ++ [q].filter f = _
  rw [List.filter_cons_of_pos hf]; rfl
theorem pick_no {f : Cel → Bool} {l : List Cel} {i : Nat} {q : Cel} (h : l[i]? = some q) (hf : f q = false) : pickL f l (i + 1) = pickL f l i := by
  unfold pickL; rw [List.take_add_one, h, List.filter_append]
  show _ ++ [q].filter f = _
  rw [List.filter_cons_of_neg (by rw [hf]; decide)]; exact List.append_nil _
theorem pick_all (f : Cel → Bool) (l : List Cel) : pickL f l l.length = l.filter f := by unfold pickL; rw [List.take_length]
theorem pick_le (f : Cel → Bool) (l : List Cel) (i : Nat) : (pickL f l i).length ≤ i := by
  unfold pickL
  exact Nat.le_trans (List.length_filter_le _ _) (by rw [List.length_take]; exact Nat.min_le_left _ _)
def fltL (f : Cel → Bool) (l : List Cel) (i : Nat) : Bool := (pickL f l i).any fun q => q.f != 0
end Go.Proofs.YthaoalmhhgllmaaGreatDoor
namespace Go.Proofs.YthaoalmhhgllmaaGreatDoor
open Go.RowKit
theorem anyH_skip {P : Program} {ops : Array Oper} {Q : Exit → Act → World → Prop} {md : Region.Mode} {S : World → Prop} {i d : Nat} {oi : Oper} {fuel : Nat} {listed : Array Bool} {a : Act} {w : World}
    (hi : ops[i]? = some oi) (hd : oi.dst = some d) (hs : Region.noSelect ops = true) (hf : Region.free md ops listed i = true) (hr : (Region.ready md ops listed).contains i = true)
    (hQ : ∀ c a w, Q (.panic c) (a.put oi.dst undef) w → Q (.panic c) a w) (hu : a.tmps[d]? = some undef) (hw : Region.wanted oi (yielded ops a.tmps) = false) (hS : S w)
    (h : wpAnyH P md ops Q S fuel (listed.setIfInBounds i true) a w) : wpAnyH P md ops Q S (fuel + 1) listed a w := by
  refine wpAnyH_take hi hs hf hr hQ (Or.inr ⟨hw, rfl⟩) hS ?_
  have e : a.put oi.dst undef = a := by
    rw [hd]
    obtain ⟨t, df⟩ := a
    obtain ⟨hl, hv⟩ := Array.getElem?_eq_some_iff.1 hu
    simp only at hl hv
    have e2 : t.setIfInBounds d undef = t := by
      apply Array.ext
      · simp
      · intro j h1 h2
        rw [Array.getElem_setIfInBounds]
        split
        · rename_i e; subst e; exact hv.symm
        · rfl
    simp only [Act.put, e2]
  rw [e]
  exact h
theorem neq_value (x y p q : Int) (W : World) : (binOp .neq 35 (.agg #[.int .i64 x, .int .i64 y]) (.agg #[.int .i64 p, .int .i64 q])).run Tryz.prog W = .ok (.bool (!(x == p && y == q))) W := by
  rw [run_neq_struct, run_equalIn_agg W 9999 35 _ _ valueStruct valueStood]
  by_cases h1 : x = p <;> by_cases h2 : y = q <;> simp [go_sem, h1, h2]
theorem flt_yes {f : Cel → Bool} {l : List Cel} {i : Nat} {q : Cel} (h : l[i]? = some q) (hf : f q = true) : fltL f l (i + 1) = (fltL f l i || (q.f != 0)) := by
  unfold fltL; rw [pick_yes h hf, List.any_append]
  show (_ || [q].any _) = _
  rw [List.any_cons, List.any_nil, Bool.or_false]
theorem flt_no {f : Cel → Bool} {l : List Cel} {i : Nat} {q : Cel} (h : l[i]? = some q) (hf : f q = false) : fltL f l (i + 1) = fltL f l i := by unfold fltL; rw [pick_no h hf]
def onlyL (t : Tr) (l m : List Cel) : List Cel := (l.filter fun q => hasL (rdL t) q.c q.r) ++ (m.filter fun q => !hasL (rdL t) q.c q.r)
theorem only_of {t : Tr} {l m : List Cel} (hr : rightP t = true) : ofV (onlyL t l m) t = ofV l t := by
  unfold ofV onlyL
  rw [if_pos hr, if_pos hr]
  exact only_same (f := fun x y => hasL (rdL t) x y) ((right_iff t).1 hr).2.2 fun x y h => hasL_iff.2 ((mem_rdL hr).2 h)
theorem read_ok {t : Tr} {l : List Cel} (hr : rightP t = true) (hb : cnK 2 t = 0) (hf : fltL (fun q => hasL (rdL t) q.c q.r) l l.length = false) : OkF (ofV l t) := by
  unfold ofV
  rw [if_pos hr]
  obtain ⟨h6, _, hm⟩ := (right_iff t).1 hr
  refine ok_cm t hm h6 hb fun x y v hu hv => ?_
  have : ∀ l : List Cel, (∀ q ∈ l, hasL (rdL t) q.c q.r = true → q.f = 0) → cAt x y l = some v → OkF v := by
    intro l
    induction l with
    | nil => intro _ h; cases h
    | cons q l ih =>
      intro hq h
      rw [cAt] at h
      by_cases hp : q.c = x ∧ q.r = y
      · rw [if_pos hp] at h
        cases h
        have h0 := hq q (List.mem_cons_self ..) (by rw [hp.1, hp.2]; exact hasL_iff.2 ((mem_rdL hr).2 hu))
        exact .inl h0
      · rw [if_neg hp] at h
        exact ih (fun p hp => hq p (List.mem_cons_of_mem _ hp)) h
  refine this l (fun q hq hh => ?_) hv
  unfold fltL at hf
  rw [pick_all] at hf
  have := List.any_eq_false.1 hf q (List.mem_filter.2 ⟨hq, hh⟩)
  simpa using this
set_option maxHeartbeats 8000000 in
set_option maxRecDepth 100000 in
theorem evreads_n1 (t : Tr) (l m : List Cel) (hg : GC t l) (hg2 : GC t m) (w : World) (A : Option Addr) (ca : Nat) (LA : Option Addr) (lc : Nat) (MA : Option Addr) (mc : Nat) (hA : KV w (fun _ => True) t A) (hc : ListC w LA l) (hc2 : ListC w MA m) {B : Nat} (hSB : B ≤ w.heap.size) (hSt : Strs B B w) (hno : fitsB t = false) :
    Calls Tryz.prog 4 #[tv t A ca, .slice LA l.length lc, .slice MA m.length mc] w fun e w' => e = .returned (.bool true) ∧ Below w.heap.size w w' := by
  have HK := Lib.hid (fun w' (hb : Below (w.heap.size + 1) (w.alloc (.cells #[.int .i64 t.kind, .int .i64 t.num, .int .i64 t.c1, .int .i64 t.r1, .int .i64 t.c2, .int .i64 t.r2, .string ⟨t.word.toArray⟩, .slice A t.kids.length ca] 29)) w') => show Below w.heap.size w w' from ((Below.refl _ _).alloc (Nat.le_refl _) _).trans (hb.mono (by omega)))
  have HB0 : Hid (Below (w.heap.size + 1) (w.alloc (.cells #[.int .i64 t.kind, .int .i64 t.num, .int .i64 t.c1, .int .i64 t.r1, .int .i64 t.c2, .int .i64 t.r2, .string ⟨t.word.toArray⟩, .slice A t.kids.length ca] 29)) (w.alloc (.cells #[.int .i64 t.kind, .int .i64 t.num, .int .i64 t.c1, .int .i64 t.r1, .int .i64 t.c2, .int .i64 t.r2, .string ⟨t.word.toArray⟩, .slice A t.kids.length ca] 29))) := Lib.hid (Below.refl _ _)
  have HL : Hid (∀ w', Below (w.heap.size + 1) (w.alloc (.cells #[.int .i64 t.kind, .int .i64 t.num, .int .i64 t.c1, .int .i64 t.r1, .int .i64 t.c2, .int .i64 t.r2, .string ⟨t.word.toArray⟩, .slice A t.kids.length ca] 29)) w' → w'.cell? ⟨w.heap.size, 0, none⟩ = some (.int .i64 t.kind) ∧ w'.cell? ⟨w.heap.size, 1, none⟩ = some (.int .i64 t.num) ∧ w'.cell? ⟨w.heap.size, 2, none⟩ = some (.int .i64 t.c1) ∧ w'.cell? ⟨w.heap.size, 3, none⟩ = some (.int .i64 t.r1) ∧ w'.cell? ⟨w.heap.size, 4, none⟩ = some (.int .i64 t.c2) ∧ w'.cell? ⟨w.heap.size, 5, none⟩ = some (.int .i64 t.r2) ∧ w'.cell? ⟨w.heap.size, 6, none⟩ = some (.string ⟨t.word.toArray⟩) ∧ w'.cell? ⟨w.heap.size, 7, none⟩ = some (.slice A t.kids.length ca)) := Lib.hid fun w' hb => by
    have hs := hb.size
    simp at hs
    refine ⟨?_, ?_, ?_, ?_, ?_, ?_, ?_, ?_⟩ <;> (rw [hb.cell (by simp)]; simp [go_sem])
  have HFi := Lib.hid (fun w' (hb : Below (w.heap.size + 1) (w.alloc (.cells #[.int .i64 t.kind, .int .i64 t.num, .int .i64 t.c1, .int .i64 t.r1, .int .i64 t.c2, .int .i64 t.r2, .string ⟨t.word.toArray⟩, .slice A t.kids.length ca] 29)) w') => lfits_any t hg.wid w' A ca (hA.kept (Kept.of_below (HK.out w' hb))))
  have HRi := Lib.hid (fun w' (hb : Below (w.heap.size + 1) (w.alloc (.cells #[.int .i64 t.kind, .int .i64 t.num, .int .i64 t.c1, .int .i64 t.r1, .int .i64 t.c2, .int .i64 t.r2, .string ⟨t.word.toArray⟩, .slice A t.kids.length ca] 29)) w') (hd : deepT t ≤ 1000000000) => rRight_any t hd hg.wid w' (fun _ => True) A ca (hA.kept (Kept.of_below (HK.out w' hb))))
  have HAl := Lib.hid (fun w' (hb : Below (w.heap.size + 1) (w.alloc (.cells #[.int .i64 t.kind, .int .i64 t.num, .int .i64 t.c1, .int .i64 t.r1, .int .i64 t.c2, .int .i64 t.r2, .string ⟨t.word.toArray⟩, .slice A t.kids.length ca] 29)) w') => ealive w' (B := B) (Nat.le_trans hSB (HK.out w' hb).size) (hSt.later hSB (HK.out w' hb)))
  have hlen := hg.wid.len
  have hll := hg.len
  have hlm := hg2.len
  unfold maxLen at hlen hll hlm
  unfold tv at *
  rw [hno] at HFi
  clear hA hc hc2 hSB hSt hg hg2 hno HRi
  go_enter Tryz.func4, Tryz.ntmps4
  go_wp2_with fail
  refine Calls.mono (HFi.out _ HB0.out) ?_; rintro e w1 ⟨rfl, b1⟩
  have HB1 := Lib.hid (HB0.out.trans (b1.mono (by simp)))
  clear b1
  go_wp2_with fail
  refine Calls.mono (HAl.out _ HB1.out) ?_; rintro e w2 ⟨rfl, b2⟩
  have HB2 := Lib.hid (HB1.out.trans (b2.mono (by have := HB1.out.size; simpa using this)))
  clear b2
  go_wp2_with fail
  go_ret
  exact ⟨rfl, HK.out _ HB2.out⟩
set_option maxHeartbeats 8000000 in
set_option maxRecDepth 100000 in
theorem evreads_n2 (t : Tr) (l m : List Cel) (hg : GC t l) (hg2 : GC t m) (w : World) (A : Option Addr) (ca : Nat) (LA : Option Addr) (lc : Nat) (MA : Option Addr) (mc : Nat) (hA : KV w (fun _ => True) t A) (hc : ListC w LA l) (hc2 : ListC w MA m) {B : Nat} (hSB : B ≤ w.heap.size) (hSt : Strs B B w) (hf : fitsB t = true) (hno : rightT t = false) :
    Calls Tryz.prog 4 #[tv t A ca, .slice LA l.length lc, .slice MA m.length mc] w fun e w' => e = .returned (.bool true) ∧ Below w.heap.size w w' := by
  have HK := Lib.hid (fun w' (hb : Below (w.heap.size + 1) (w.alloc (.cells #[.int .i64 t.kind, .int .i64 t.num, .int .i64 t.c1, .int .i64 t.r1, .int .i64 t.c2, .int .i64 t.r2, .string ⟨t.word.toArray⟩, .slice A t.kids.length ca] 29)) w') => show Below w.heap.size w w' from ((Below.refl _ _).alloc (Nat.le_refl _) _).trans (hb.mono (by omega)))
  have HB0 : Hid (Below (w.heap.size + 1) (w.alloc (.cells #[.int .i64 t.kind, .int .i64 t.num, .int .i64 t.c1, .int .i64 t.r1, .int .i64 t.c2, .int .i64 t.r2, .string ⟨t.word.toArray⟩, .slice A t.kids.length ca] 29)) (w.alloc (.cells #[.int .i64 t.kind, .int .i64 t.num, .int .i64 t.c1, .int .i64 t.r1, .int .i64 t.c2, .int .i64 t.r2, .string ⟨t.word.toArray⟩, .slice A t.kids.length ca] 29))) := Lib.hid (Below.refl _ _)
  have HL : Hid (∀ w', Below (w.heap.size + 1) (w.alloc (.cells #[.int .i64 t.kind, .int .i64 t.num, .int .i64 t.c1, .int .i64 t.r1, .int .i64 t.c2, .int .i64 t.r2, .string ⟨t.word.toArray⟩, .slice A t.kids.length ca] 29)) w' → w'.cell? ⟨w.heap.size, 0, none⟩ = some (.int .i64 t.kind) ∧ w'.cell? ⟨w.heap.size, 1, none⟩ = some (.int .i64 t.num) ∧ w'.cell? ⟨w.heap.size, 2, none⟩ = some (.int .i64 t.c1) ∧ w'.cell? ⟨w.heap.size, 3, none⟩ = some (.int .i64 t.r1) ∧ w'.cell? ⟨w.heap.size, 4, none⟩ = some (.int .i64 t.c2) ∧ w'.cell? ⟨w.heap.size, 5, none⟩ = some (.int .i64 t.r2) ∧ w'.cell? ⟨w.heap.size, 6, none⟩ = some (.string ⟨t.word.toArray⟩) ∧ w'.cell? ⟨w.heap.size, 7, none⟩ = some (.slice A t.kids.length ca)) := Lib.hid fun w' hb => by
    have hs := hb.size
    simp at hs
    refine ⟨?_, ?_, ?_, ?_, ?_, ?_, ?_, ?_⟩ <;> (rw [hb.cell (by simp)]; simp [go_sem])
  have HFi := Lib.hid (fun w' (hb : Below (w.heap.size + 1) (w.alloc (.cells #[.int .i64 t.kind, .int .i64 t.num, .int .i64 t.c1, .int .i64 t.r1, .int .i64 t.c2, .int .i64 t.r2, .string ⟨t.word.toArray⟩, .slice A t.kids.length ca] 29)) w') => lfits_any t hg.wid w' A ca (hA.kept (Kept.of_below (HK.out w' hb))))
  have HRi := Lib.hid (fun w' (hb : Below (w.heap.size + 1) (w.alloc (.cells #[.int .i64 t.kind, .int .i64 t.num, .int .i64 t.c1, .int .i64 t.r1, .int .i64 t.c2, .int .i64 t.r2, .string ⟨t.word.toArray⟩, .slice A t.kids.length ca] 29)) w') (hd : deepT t ≤ 1000000000) => rRight_any t hd hg.wid w' (fun _ => True) A ca (hA.kept (Kept.of_below (HK.out w' hb))))
  have HAl := Lib.hid (fun w' (hb : Below (w.heap.size + 1) (w.alloc (.cells #[.int .i64 t.kind, .int .i64 t.num, .int .i64 t.c1, .int .i64 t.r1, .int .i64 t.c2, .int .i64 t.r2, .string ⟨t.word.toArray⟩, .slice A t.kids.length ca] 29)) w') => ealive w' (B := B) (Nat.le_trans hSB (HK.out w' hb).size) (hSt.later hSB (HK.out w' hb)))
  have hlen := hg.wid.len
  have hll := hg.len
  have hlm := hg2.len
  unfold maxLen at hlen hll hlm
  unfold tv at *
  have hd := Nat.le_trans (fits_deep hf) (show 40 ≤ 1000000000 by decide)
  have HR2 := Lib.hid (fun w' hb => HRi.out w' hb hd)
  rw [hf] at HFi
  rw [hno] at HR2
  clear hA hc hc2 hSB hSt hg hg2 hno hf HRi hd
  go_enter Tryz.func4, Tryz.ntmps4
  go_wp2_with fail
  refine Calls.mono (HFi.out _ HB0.out) ?_; rintro e w1 ⟨rfl, b1⟩
  have HB1 := Lib.hid (HB0.out.trans (b1.mono (by simp)))
  clear b1
  obtain ⟨k0, k1, k2, k3, k4, k5, k6, k7⟩ := HL.out w1 HB1.out
  go_wp2_with fail
  refine Calls.mono (HR2.out _ HB1.out) ?_; rintro e w2 ⟨rfl, b2⟩
  have HB2 := Lib.hid (HB1.out.trans (b2.mono (by have := HB1.out.size; simpa using this)))
  clear b2
  clear k0 k1 k2 k3 k4 k5 k6 k7
  go_wp2_with fail
  refine Calls.mono (HAl.out _ HB2.out) ?_; rintro e w3 ⟨rfl, b3⟩
  have HB3 := Lib.hid (HB2.out.trans (b3.mono (by have := HB2.out.size; simpa using this)))
  clear b3
  go_wp2_with fail
  go_ret
  exact ⟨rfl, HK.out _ HB3.out⟩
set_option maxHeartbeats 8000000 in
set_option maxRecDepth 100000 in
theorem evreads_n3 (t : Tr) (l m : List Cel) (hg : GC t l) (hg2 : GC t m) (w : World) (A : Option Addr) (ca : Nat) (LA : Option Addr) (lc : Nat) (MA : Option Addr) (mc : Nat) (hA : KV w (fun _ => True) t A) (hc : ListC w LA l) (hc2 : ListC w MA m) {B : Nat} (hSB : B ≤ w.heap.size) (hSt : Strs B B w) (hf : fitsB t = true) (hr : rightT t = true) (hn : 300 < l.length) :
    Calls Tryz.prog 4 #[tv t A ca, .slice LA l.length lc, .slice MA m.length mc] w fun e w' => e = .returned (.bool true) ∧ Below w.heap.size w w' := by
  have HK := Lib.hid (fun w' (hb : Below (w.heap.size + 1) (w.alloc (.cells #[.int .i64 t.kind, .int .i64 t.num, .int .i64 t.c1, .int .i64 t.r1, .int .i64 t.c2, .int .i64 t.r2, .string ⟨t.word.toArray⟩, .slice A t.kids.length ca] 29)) w') => show Below w.heap.size w w' from ((Below.refl _ _).alloc (Nat.le_refl _) _).trans (hb.mono (by omega)))
  have HB0 : Hid (Below (w.heap.size + 1) (w.alloc (.cells #[.int .i64 t.kind, .int .i64 t.num, .int .i64 t.c1, .int .i64 t.r1, .int .i64 t.c2, .int .i64 t.r2, .string ⟨t.word.toArray⟩, .slice A t.kids.length ca] 29)) (w.alloc (.cells #[.int .i64 t.kind, .int .i64 t.num, .int .i64 t.c1, .int .i64 t.r1, .int .i64 t.c2, .int .i64 t.r2, .string ⟨t.word.toArray⟩, .slice A t.kids.length ca] 29))) := Lib.hid (Below.refl _ _)
  have HL : Hid (∀ w', Below (w.heap.size + 1) (w.alloc (.cells #[.int .i64 t.kind, .int .i64 t.num, .int .i64 t.c1, .int .i64 t.r1, .int .i64 t.c2, .int .i64 t.r2, .string ⟨t.word.toArray⟩, .slice A t.kids.length ca] 29)) w' → w'.cell? ⟨w.heap.size, 0, none⟩ = some (.int .i64 t.kind) ∧ w'.cell? ⟨w.heap.size, 1, none⟩ = some (.int .i64 t.num) ∧ w'.cell? ⟨w.heap.size, 2, none⟩ = some (.int .i64 t.c1) ∧ w'.cell? ⟨w.heap.size, 3, none⟩ = some (.int .i64 t.r1) ∧ w'.cell? ⟨w.heap.size, 4, none⟩ = some (.int .i64 t.c2) ∧ w'.cell? ⟨w.heap.size, 5, none⟩ = some (.int .i64 t.r2) ∧ w'.cell? ⟨w.heap.size, 6, none⟩ = some (.string ⟨t.word.toArray⟩) ∧ w'.cell? ⟨w.heap.size, 7, none⟩ = some (.slice A t.kids.length ca)) := Lib.hid fun w' hb => by
    have hs := hb.size
    simp at hs
    refine ⟨?_, ?_, ?_, ?_, ?_, ?_, ?_, ?_⟩ <;> (rw [hb.cell (by simp)]; simp [go_sem])
  have HFi := Lib.hid (fun w' (hb : Below (w.heap.size + 1) (w.alloc (.cells #[.int .i64 t.kind, .int .i64 t.num, .int .i64 t.c1, .int .i64 t.r1, .int .i64 t.c2, .int .i64 t.r2, .string ⟨t.word.toArray⟩, .slice A t.kids.length ca] 29)) w') => lfits_any t hg.wid w' A ca (hA.kept (Kept.of_below (HK.out w' hb))))
  have HRi := Lib.hid (fun w' (hb : Below (w.heap.size + 1) (w.alloc (.cells #[.int .i64 t.kind, .int .i64 t.num, .int .i64 t.c1, .int .i64 t.r1, .int .i64 t.c2, .int .i64 t.r2, .string ⟨t.word.toArray⟩, .slice A t.kids.length ca] 29)) w') (hd : deepT t ≤ 1000000000) => rRight_any t hd hg.wid w' (fun _ => True) A ca (hA.kept (Kept.of_below (HK.out w' hb))))
  have HAl := Lib.hid (fun w' (hb : Below (w.heap.size + 1) (w.alloc (.cells #[.int .i64 t.kind, .int .i64 t.num, .int .i64 t.c1, .int .i64 t.r1, .int .i64 t.c2, .int .i64 t.r2, .string ⟨t.word.toArray⟩, .slice A t.kids.length ca] 29)) w') => ealive w' (B := B) (Nat.le_trans hSB (HK.out w' hb).size) (hSt.later hSB (HK.out w' hb)))
  have hlen := hg.wid.len
  have hll := hg.len
  have hlm := hg2.len
  unfold maxLen at hlen hll hlm
  unfold tv at *
  have hd := Nat.le_trans (fits_deep hf) (show 40 ≤ 1000000000 by decide)
  have HR2 := Lib.hid (fun w' hb => HRi.out w' hb hd)
  rw [hf] at HFi
  rw [hr] at HR2
  have d1 : decide ((300 : Int) < (l.length : Int)) = true := decide_eq_true (by omega)
  clear hA hc hc2 hSB hSt hg hg2 hr hf HRi hd
  go_enter Tryz.func4, Tryz.ntmps4
  go_wp2_with fail
  refine Calls.mono (HFi.out _ HB0.out) ?_; rintro e w1 ⟨rfl, b1⟩
  have HB1 := Lib.hid (HB0.out.trans (b1.mono (by simp)))
  clear b1
  obtain ⟨k0, k1, k2, k3, k4, k5, k6, k7⟩ := HL.out w1 HB1.out
  go_wp2_with fail
  refine Calls.mono (HR2.out _ HB1.out) ?_; rintro e w2 ⟨rfl, b2⟩
  have HB2 := Lib.hid (HB1.out.trans (b2.mono (by have := HB1.out.size; simpa using this)))
  clear b2
  clear k0 k1 k2 k3 k4 k5 k6 k7
  go_wp2_with fail
  refine Calls.mono (HAl.out _ HB2.out) ?_; rintro e w3 ⟨rfl, b3⟩
  have HB3 := Lib.hid (HB2.out.trans (b3.mono (by have := HB2.out.size; simpa using this)))
  clear b3
  go_wp2_with fail
  go_ret
  exact ⟨rfl, HK.out _ HB3.out⟩
set_option maxHeartbeats 8000000 in
set_option maxRecDepth 100000 in
theorem evreads_n4 (t : Tr) (l m : List Cel) (hg : GC t l) (hg2 : GC t m) (w : World) (A : Option Addr) (ca : Nat) (LA : Option Addr) (lc : Nat) (MA : Option Addr) (mc : Nat) (hA : KV w (fun _ => True) t A) (hc : ListC w LA l) (hc2 : ListC w MA m) {B : Nat} (hSB : B ≤ w.heap.size) (hSt : Strs B B w) (hf : fitsB t = true) (hr : rightT t = true) (hn1 : ¬ 300 < l.length) (hn : 300 < m.length) :
    Calls Tryz.prog 4 #[tv t A ca, .slice LA l.length lc, .slice MA m.length mc] w fun e w' => e = .returned (.bool true) ∧ Below w.heap.size w w' := by
  have HK := Lib.hid (fun w' (hb : Below (w.heap.size + 1) (w.alloc (.cells #[.int .i64 t.kind, .int .i64 t.num, .int .i64 t.c1, .int .i64 t.r1, .int .i64 t.c2, .int .i64 t.r2, .string ⟨t.word.toArray⟩, .slice A t.kids.length ca] 29)) w') => show Below w.heap.size w w' from ((Below.refl _ _).alloc (Nat.le_refl _) _).trans (hb.mono (by omega)))
  have HB0 : Hid (Below (w.heap.size + 1) (w.alloc (.cells #[.int .i64 t.kind, .int .i64 t.num, .int .i64 t.c1, .int .i64 t.r1, .int .i64 t.c2, .int .i64 t.r2, .string ⟨t.word.toArray⟩, .slice A t.kids.length ca] 29)) (w.alloc (.cells #[.int .i64 t.kind, .int .i64 t.num, .int .i64 t.c1, .int .i64 t.r1, .int .i64 t.c2, .int .i64 t.r2, .string ⟨t.word.toArray⟩, .slice A t.kids.length ca] 29))) := Lib.hid (Below.refl _ _)
  have HL : Hid (∀ w', Below (w.heap.size + 1) (w.alloc (.cells #[.int .i64 t.kind, .int .i64 t.num, .int .i64 t.c1, .int .i64 t.r1, .int .i64 t.c2, .int .i64 t.r2, .string ⟨t.word.toArray⟩, .slice A t.kids.length ca] 29)) w' → w'.cell? ⟨w.heap.size, 0, none⟩ = some (.int .i64 t.kind) ∧ w'.cell? ⟨w.heap.size, 1, none⟩ = some (.int .i64 t.num) ∧ w'.cell? ⟨w.heap.size, 2, none⟩ = some (.int .i64 t.c1) ∧ w'.cell? ⟨w.heap.size, 3, none⟩ = some (.int .i64 t.r1) ∧ w'.cell? ⟨w.heap.size, 4, none⟩ = some (.int .i64 t.c2) ∧ w'.cell? ⟨w.heap.size, 5, none⟩ = some (.int .i64 t.r2) ∧ w'.cell? ⟨w.heap.size, 6, none⟩ = some (.string ⟨t.word.toArray⟩) ∧ w'.cell? ⟨w.heap.size, 7, none⟩ = some (.slice A t.kids.length ca)) := Lib.hid fun w' hb => by
    have hs := hb.size
    simp at hs
    refine ⟨?_, ?_, ?_, ?_, ?_, ?_, ?_, ?_⟩ <;> (rw [hb.cell (by simp)]; simp [go_sem])
  have HFi := Lib.hid (fun w' (hb : Below (w.heap.size + 1) (w.alloc (.cells #[.int .i64 t.kind, .int .i64 t.num, .int .i64 t.c1, .int .i64 t.r1, .int .i64 t.c2, .int .i64 t.r2, .string ⟨t.word.toArray⟩, .slice A t.kids.length ca] 29)) w') => lfits_any t hg.wid w' A ca (hA.kept (Kept.of_below (HK.out w' hb))))
  have HRi := Lib.hid (fun w' (hb : Below (w.heap.size + 1) (w.alloc (.cells #[.int .i64 t.kind, .int .i64 t.num, .int .i64 t.c1, .int .i64 t.r1, .int .i64 t.c2, .int .i64 t.r2, .string ⟨t.word.toArray⟩, .slice A t.kids.length ca] 29)) w') (hd : deepT t ≤ 1000000000) => rRight_any t hd hg.wid w' (fun _ => True) A ca (hA.kept (Kept.of_below (HK.out w' hb))))
  have HAl := Lib.hid (fun w' (hb : Below (w.heap.size + 1) (w.alloc (.cells #[.int .i64 t.kind, .int .i64 t.num, .int .i64 t.c1, .int .i64 t.r1, .int .i64 t.c2, .int .i64 t.r2, .string ⟨t.word.toArray⟩, .slice A t.kids.length ca] 29)) w') => ealive w' (B := B) (Nat.le_trans hSB (HK.out w' hb).size) (hSt.later hSB (HK.out w' hb)))
  have hlen := hg.wid.len
  have hll := hg.len
  have hlm := hg2.len
  unfold maxLen at hlen hll hlm
  unfold tv at *
  have hd := Nat.le_trans (fits_deep hf) (show 40 ≤ 1000000000 by decide)
  have HR2 := Lib.hid (fun w' hb => HRi.out w' hb hd)
  rw [hf] at HFi
  rw [hr] at HR2
  have d1 : decide ((300 : Int) < (l.length : Int)) = false := decide_eq_false (by omega)
  have d2 : decide ((300 : Int) < (m.length : Int)) = true := decide_eq_true (by omega)
  clear hA hc hc2 hSB hSt hg hg2 hr hf HRi hd
  go_enter Tryz.func4, Tryz.ntmps4
  go_wp2_with fail
  refine Calls.mono (HFi.out _ HB0.out) ?_; rintro e w1 ⟨rfl, b1⟩
  have HB1 := Lib.hid (HB0.out.trans (b1.mono (by simp)))
  clear b1
  obtain ⟨k0, k1, k2, k3, k4, k5, k6, k7⟩ := HL.out w1 HB1.out
  go_wp2_with fail
  refine Calls.mono (HR2.out _ HB1.out) ?_; rintro e w2 ⟨rfl, b2⟩
  have HB2 := Lib.hid (HB1.out.trans (b2.mono (by have := HB1.out.size; simpa using this)))
  clear b2
  clear k0 k1 k2 k3 k4 k5 k6 k7
  go_wp2_with fail
  refine Calls.mono (HAl.out _ HB2.out) ?_; rintro e w3 ⟨rfl, b3⟩
  have HB3 := Lib.hid (HB2.out.trans (b3.mono (by have := HB2.out.size; simpa using this)))
  clear b3
  go_wp2_with fail
  go_ret
  exact ⟨rfl, HK.out _ HB3.out⟩
end Go.Proofs.YthaoalmhhgllmaaGreatDoor
