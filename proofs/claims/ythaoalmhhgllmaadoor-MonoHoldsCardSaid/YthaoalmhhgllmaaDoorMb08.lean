/- Texts joined: MoB, RefG, RefIa, CeB, UaFp. -/
import Derived.Test.YthaoalmhhgllmaaDoorMb07
import Derived.Test.YthaoalmhhgllmaaDoorMb02
import Derived.OwnWalk
import Derived.Deep.Onto
import Derived.Deep.RegionWith
import Derived.Deep.CutRange
import Derived.Deep.RegionHeld3
import Derived.Deep.AppendLies
import Derived.Test.YthaoalmhhgllmaaDoorMb01
set_option linter.all false
namespace Go.Proofs.YthaoalmhhgllmaaDoor
open Go.RowKit
def Goes (w n m : Int) : Prop := (w = 0 → n = m) ∧ (w = 1 → n ≤ m) ∧ (w = 2 → m ≤ n)
def RelW (w : Int) (p q : Int × Int) : Prop := p.2 = 0 → q.2 = 0 → Goes w p.1 q.1
def SubW (v w : Int) : Prop := ∀ n m, Goes v n m → Goes w n m
theorem goes_any (n m : Int) : Goes 3 n m := ⟨fun h => by omega, fun h => by omega, fun h => by omega⟩
theorem goes_same (w n : Int) : Goes w n n := ⟨fun _ => rfl, fun _ => Int.le_refl _, fun _ => Int.le_refl _⟩
theorem sub_refl (v : Int) : SubW v v := fun _ _ h => h
theorem sub_any (v : Int) : SubW v 3 := fun n m _ => goes_any n m
theorem sub_zero (w : Int) : SubW 0 w := fun n m h => by obtain rfl := h.1 rfl; exact goes_same w n
theorem sub_trans {a b c : Int} (h : SubW a b) (k : SubW b c) : SubW a c := fun n m g => k n m (h n m g)
theorem sub_left {a b : Int} (ha : OkW a) : SubW a (joinW a b) := by
  have hb := ok_clean b
  unfold joinW
  rw [clean_ok ha]
  split
  · rename_i h
    rcases h with h | h
    · subst h; exact sub_zero _
    · rw [← h]; exact sub_refl _
  · split
    · exact sub_refl _
    · exact sub_any _
theorem sub_right {a b : Int} (hb : OkW b) : SubW b (joinW a b) := by
  unfold joinW
  rw [clean_ok hb]
  split
  · exact sub_refl _
  · split
    · rename_i h; rw [h]; exact sub_zero _
    · exact sub_any _
theorem sub_fold : ∀ (l : List Int) (o : Int), OkW o → SubW o (l.foldl joinW o)
  | [], o, _ => sub_refl o
  | a :: l, o, h => sub_trans (sub_left h) (sub_fold l _ (ok_join o a))
theorem sub_mem : ∀ (l : List Int) (o : Int), (∀ v ∈ l, OkW v) → ∀ v ∈ l, SubW v (l.foldl joinW o)
  | [], o, _, v, h => by cases h
  | a :: l, o, hl, v, h => by
    rcases List.mem_cons.1 h with rfl | h
    · exact sub_trans (sub_right (hl v (List.mem_cons_self ..))) (sub_fold l _ (ok_join o v))
    · exact sub_mem l _ (fun u hu => hl u (List.mem_cons_of_mem _ hu)) v h
theorem goes_flip {w n m : Int} (hw : OkW w) (h : Goes w n m) : Goes (flipW w) (-n) (-m) := by
  unfold Goes flipW at *
  rcases hw with rfl | rfl | rfl | rfl <;> simp at h ⊢
  · exact ⟨fun _ => h, fun e => by simp [cleanW] at e, fun e => by simp [cleanW] at e⟩
  · exact h
  · exact h
  · simp [cleanW]
theorem flip_neg {w n m : Int} (hw : OkW w) (h : Goes w (-n) (-m)) : Goes (flipW w) n m := by
  have := goes_flip hw h
  rwa [Int.neg_neg, Int.neg_neg] at this
theorem goes_add {w a b c d : Int} (h : Goes w a b) (k : Goes w c d) : Goes w (a + c) (b + d) :=
  ⟨fun e => by have := h.1 e; have := k.1 e; omega, fun e => by have := h.2.1 e; have := k.2.1 e; omega, fun e => by have := h.2.2 e; have := k.2.2 e; omega⟩
theorem goes_low {w a b c d : Int} (h : Goes w a b) (k : Goes w c d) : Goes w (gLow a c).1 (gLow b d).1 := by
  unfold gLow
  refine ⟨fun e => ?_, fun e => ?_, fun e => ?_⟩
  · have := h.1 e; have := k.1 e; simp only; split <;> split <;> omega
  · have := h.2.1 e; have := k.2.1 e; simp only; split <;> split <;> omega
  · have := h.2.2 e; have := k.2.2 e; simp only; split <;> split <;> omega
theorem goes_top {w a b c d : Int} (h : Goes w a b) (k : Goes w c d) : Goes w (gTop a c).1 (gTop b d).1 := by
  unfold gTop
  refine ⟨fun e => ?_, fun e => ?_, fun e => ?_⟩
  · have := h.1 e; have := k.1 e; simp only; split <;> split <;> omega
  · have := h.2.1 e; have := k.2.1 e; simp only; split <;> split <;> omega
  · have := h.2.2 e; have := k.2.2 e; simp only; split <;> split <;> omega
theorem told_val {n : Int} (h : (vTold n).2 = 0) : (vTold n).1 = n := by
  unfold vTold tFault tNum at *
  cases hi : inI n with
  | false => rw [hi] at h; simp at h
  | true => simp [keep]
inductive All2 (R : Int × Int → Int × Int → Prop) : List (Int × Int) → List (Int × Int) → Prop
  | nil : All2 R [] []
  | cons {a b : Int × Int} {l m : List (Int × Int)} : R a b → All2 R l m → All2 R (a :: l) (b :: m)
theorem All2.len {R : Int × Int → Int × Int → Prop} {l m : List (Int × Int)} (h : All2 R l m) : l.length = m.length := by
  induction h with
  | nil => rfl
  | cons _ _ ih => rw [List.length_cons, List.length_cons, ih]
theorem All2.app {R : Int × Int → Int × Int → Prop} {l m l' m' : List (Int × Int)} (h : All2 R l m) (k : All2 R l' m') : All2 R (l ++ l') (m ++ m') := by
  induction h with
  | nil => exact k
  | cons a _ ih => exact .cons a ih
theorem All2.imp {R S : Int × Int → Int × Int → Prop} {l m : List (Int × Int)} (h : All2 R l m) (hi : ∀ a b, R a b → S a b) : All2 S l m := by
  induction h with
  | nil => exact .nil
  | cons a _ ih => exact .cons (hi _ _ a) ih
def KeepsW (G : Int → Int → Int × Int) : Prop := ∀ w a b c d, Goes w a b → Goes w c d → (G a c).2 = 0 → (G b d).2 = 0 → Goes w (G a c).1 (G b d).1
theorem keeps_add : KeepsW gAdd := fun w a b c d h k e f => by
  unfold gAdd at *
  rw [told_val e, told_val f]; exact goes_add h k
theorem keeps_low : KeepsW gLow := fun w a b c d h k _ _ => goes_low h k
theorem keeps_top : KeepsW gTop := fun w a b c d h k _ _ => goes_top h k
theorem all_holds {G : Int → Int → Int × Int} (hG : KeepsW G) {w : Int} {l m : List (Int × Int)} (h : All2 (RelW w) l m) : ∀ p q, RelW w p q → RelW w (allV G p l) (allV G q m) := by
  induction h with
  | nil => exact fun p q hp => hp
  | @cons a b l m hab _ ih =>
    intro p q hp
    refine ih (stepV G p a) (stepV G q b) ?_
    unfold RelW stepV bothN bothF at *
    intro e f
    simp only at e f ⊢
    by_cases p0 : p.2 = 0
    · by_cases q0 : q.2 = 0
      · by_cases a0 : a.2 = 0
        · by_cases b0 : b.2 = 0
          · rw [if_pos p0, if_pos a0] at e
            rw [if_pos q0, if_pos b0] at f
            rw [if_pos ⟨p0, a0⟩, if_pos ⟨q0, b0⟩]
            exact hG _ _ _ _ _ (hp p0 q0) (hab a0 b0) e f
          · rw [if_pos q0, if_neg b0] at f; exact absurd f b0
        · rw [if_pos p0, if_neg a0] at e; exact absurd e a0
      · rw [if_neg q0] at f; exact absurd f q0
    · rw [if_neg p0] at e; exact absurd e p0
theorem most_holds {G : Int → Int → Int × Int} (hG : KeepsW G) {w : Int} {l m : List (Int × Int)} (h : All2 (RelW w) l m) : RelW w (mostV G l) (mostV G m) := by
  unfold mostV
  refine all_holds hG h _ _ ?_
  cases h with
  | nil => exact fun _ _ => goes_same _ _
  | cons a _ => exact a
theorem mul_goes {w a b c s : Int} (hw : OkW w) (h : Goes w a b) (h1 : s < 0 → c < 0) (h2 : 0 ≤ s → 0 ≤ c) : Goes (byW w s) (a * c) (b * c) := by
  unfold byW
  split
  · rename_i hs
    have hc := h1 hs
    refine flip_neg hw ?_
    rw [← Int.mul_neg, ← Int.mul_neg]
    exact ⟨fun e => by rw [h.1 e], fun e => Int.mul_le_mul_of_nonneg_right (h.2.1 e) (by omega), fun e => Int.mul_le_mul_of_nonneg_right (h.2.2 e) (by omega)⟩
  · rename_i hs
    have hc := h2 (by omega)
    exact ⟨fun e => by rw [h.1 e], fun e => Int.mul_le_mul_of_nonneg_right (h.2.1 e) hc, fun e => Int.mul_le_mul_of_nonneg_right (h.2.2 e) hc⟩
theorem div_goes {w a b c s : Int} (hw : OkW w) (h : Goes w a b) (h1 : s < 0 → c < 0) (h2 : 0 < s → 0 < c) (h0 : s ≠ 0) : Goes (byW w s) (a.tdiv c) (b.tdiv c) := by
  unfold byW
  split
  · rename_i hs
    have hc := h1 hs
    refine flip_neg hw ?_
    rw [← Int.tdiv_neg, ← Int.tdiv_neg]
    exact ⟨fun e => by rw [h.1 e], fun e => Int.tdiv_le_tdiv (by omega) (h.2.1 e), fun e => Int.tdiv_le_tdiv (by omega) (h.2.2 e)⟩
  · rename_i hs
    have hc := h2 (by omega)
    exact ⟨fun e => by rw [h.1 e], fun e => Int.tdiv_le_tdiv hc (h.2.1 e), fun e => Int.tdiv_le_tdiv hc (h.2.2 e)⟩
theorem do_fine {w : List UInt8} {p q : Int × Int} {f : Int} (h : doFault w p.1 p.2 q.1 q.2 = f) (hf : f = 0) (hs : (vOp w p.1 q.1).isSome = true) :
    p.2 = 0 ∧ q.2 = 0 ∧ oFault (vOp w p.1 q.1) = 0 ∧ doNum w p.1 p.2 q.1 q.2 = oNum (vOp w p.1 q.1) := by
  unfold doFault at h
  rw [if_pos hs] at h
  by_cases p0 : p.2 = 0
  · by_cases q0 : q.2 = 0
    · rw [if_pos p0, if_pos q0] at h
      refine ⟨p0, q0, h.trans hf, ?_⟩
      unfold doNum; exact if_pos ⟨p0, q0⟩
    · rw [if_pos p0, if_neg q0] at h; exact absurd (h.trans hf) q0
  · rw [if_neg p0] at h; exact absurd (h.trans hf) p0
theorem op_some (w : List UInt8) (x y x' y' : Int) : (vOp w x y).isSome = (vOp w x' y').isSome := by
  unfold vOp
  by_cases h0 : w = [43]
  · rw [if_pos h0, if_pos h0]; rfl
  rw [if_neg h0, if_neg h0]
  by_cases h1 : w = [45]
  · rw [if_pos h1, if_pos h1]; rfl
  rw [if_neg h1, if_neg h1]
  by_cases h2 : w = [42]
  · rw [if_pos h2, if_pos h2]; rfl
  rw [if_neg h2, if_neg h2]
  by_cases h3 : w = [47]
  · rw [if_pos h3, if_pos h3]; rfl
  rw [if_neg h3, if_neg h3]
  by_cases h4 : w = [60]
  · rw [if_pos h4, if_pos h4]; rfl
  rw [if_neg h4, if_neg h4]
  by_cases h5 : w = [60, 61]
  · rw [if_pos h5, if_pos h5]; rfl
  rw [if_neg h5, if_neg h5]
  by_cases h6 : w = [61]
  · rw [if_pos h6, if_pos h6]; rfl
  rw [if_neg h6, if_neg h6]
  by_cases h7 : w = [60, 62]
  · rw [if_pos h7, if_pos h7]; rfl
  rw [if_neg h7, if_neg h7]
  by_cases h8 : w = [62, 61]
  · rw [if_pos h8, if_pos h8]; rfl
  rw [if_neg h8, if_neg h8]
  by_cases h9 : w = [62]
  · rw [if_pos h9, if_pos h9]; rfl
  rw [if_neg h9, if_neg h9]
mutual
theorem cst_num (l : List Cel) : ∀ (t : Tr) (s : Int), mayB t = true → cstT t = some s → (cmT l t).2 = 0 → ((s < 0 → (cmT l t).1 < 0) ∧ (0 < s → 0 < (cmT l t).1)) ∧ (s = 0 → (cmT l t).1 = 0)
  | .mk k n c r d s' w ks, s, hm, hs, hf => by
    rw [cstT] at hs
    by_cases k0 : k = 0
    · subst k0
      rw [if_pos rfl] at hs
      rw [cm_num rfl]
      rw [mayB, if_pos rfl] at hm
      have h0 : 0 ≤ n := of_decide_eq_true (Bool.and_eq_true _ _ ▸ hm).2
      injection hs with hs
      show ((s < 0 → n < 0) ∧ (0 < s → 0 < n)) ∧ (s = 0 → n = 0)
      omega
    · rw [if_neg k0] at hs
      by_cases k3 : k = 3
      · subst k3
        rw [if_pos rfl] at hs
        match ks, hm, hs, hf with
        | [], _, hs, _ => rw [cstL] at hs; cases hs
        | u :: us, hm, hs, hf =>
          rw [cstL] at hs
          cases hu : cstT u with
          | none => rw [hu] at hs; cases hs
          | some z =>
            rw [hu] at hs
            injection hs with hs
            subst hs
            rw [cm_neg (u := u) rfl rfl] at hf ⊢
            obtain ⟨_, hf0, hf1, hf2⟩ := do_fine (w := [45]) (p := ((0 : Int), (0 : Int))) (q := cmT l u) rfl hf rfl
            have ih := cst_num l u z (may_kids hm u (List.mem_cons_self ..)) hu hf0
            have hv : doNum [45] 0 0 (cmT l u).1 (cmT l u).2 = -(cmT l u).1 := by
              refine hf2.trans ?_
              have := told_val (n := 0 - (cmT l u).1) hf1
              show (vTold (0 - (cmT l u).1)).1 = _
              rw [this, Int.zero_sub]
            show ((-z < 0 → doNum [45] 0 0 (cmT l u).1 (cmT l u).2 < 0) ∧ (0 < -z → 0 < doNum [45] 0 0 (cmT l u).1 (cmT l u).2)) ∧ (-z = 0 → doNum [45] 0 0 (cmT l u).1 (cmT l u).2 = 0)
            rw [hv]
            omega
      · rw [if_neg k3] at hs; cases hs
end
mutual
theorem cst_same (l m : List Cel) : ∀ (t : Tr) (s : Int), cstT t = some s → cmT l t = cmT m t
  | .mk k n c r d s' w ks, s, hs => by
    rw [cstT] at hs
    by_cases k0 : k = 0
    · rw [cm_num (show (Tr.mk k n c r d s' w ks).kind = 0 from k0), cm_num (show (Tr.mk k n c r d s' w ks).kind = 0 from k0)]
    · rw [if_neg k0] at hs
      by_cases k3 : k = 3
      · subst k3
        rw [if_pos rfl] at hs
        match ks, hs with
        | [], hs => rw [cstL] at hs; cases hs
        | u :: us, hs =>
          rw [cstL] at hs
          cases hu : cstT u with
          | none => rw [hu] at hs; cases hs
          | some z => rw [cm_neg (t := Tr.mk 3 n c r d s' w (u :: us)) (l := l) (u := u) rfl rfl, cm_neg (t := Tr.mk 3 n c r d s' w (u :: us)) (l := m) (u := u) rfl rfl, cst_same l m u z hu]
      · rw [if_neg k3] at hs; cases hs
end
theorem do_off {w : List UInt8} {p q : Int × Int} (hs : (vOp w p.1 q.1).isSome = false) : doNum w p.1 p.2 q.1 q.2 = 0 := by
  unfold doNum
  cases h : vOp w p.1 q.1 with
  | none => split <;> rfl
  | some z => rw [h] at hs; cases hs
theorem tru_goes {w : Int} {a b : Bool} (h0 : w = 0 → a = b) (h1 : w = 1 → a = true → b = true) (h2 : w = 2 → b = true → a = true) : Goes w (tru a) (tru b) := by
  unfold tru
  refine ⟨fun e => by rw [h0 e], fun e => ?_, fun e => ?_⟩
  · have := h1 e; cases a <;> cases b <;> simp_all
  · have := h2 e; cases a <;> cases b <;> simp_all
theorem op_holds {w : List UInt8} {a b : Int} {p q : Option Int} {n n' m m' : Int × Int} (oa : OkW a) (ob : OkW b) (ha : RelW a n n') (hb : RelW b m m')
    (hp : ∀ s, p = some s → n.2 = 0 → n = n' ∧ ((s < 0 → n.1 < 0) ∧ (0 < s → 0 < n.1)) ∧ (s = 0 → n.1 = 0))
    (hq : ∀ s, q = some s → m.2 = 0 → m = m' ∧ ((s < 0 → m.1 < 0) ∧ (0 < s → 0 < m.1)) ∧ (s = 0 → m.1 = 0)) :
    RelW (opW w a b p q) (doNum w n.1 n.2 m.1 m.2, doFault w n.1 n.2 m.1 m.2) (doNum w n'.1 n'.2 m'.1 m'.2, doFault w n'.1 n'.2 m'.1 m'.2) := by
  intro e f
  have hso := op_some w
  cases hs : (vOp w n.1 m.1).isSome with
  | false =>
    show Goes _ (doNum w n.1 n.2 m.1 m.2) (doNum w n'.1 n'.2 m'.1 m'.2)
    rw [do_off hs, do_off (by rw [← hso n.1 m.1]; exact hs)]
    exact goes_same _ _
  | true =>
    obtain ⟨n0, m0, v0, hn⟩ := do_fine (p := n) (q := m) (f := 0) e rfl hs
    obtain ⟨n0', m0', v0', hn'⟩ := do_fine (p := n') (q := m') (f := 0) f rfl (by rw [← hso n.1 m.1]; exact hs)
    show Goes _ (doNum w n.1 n.2 m.1 m.2) (doNum w n'.1 n'.2 m'.1 m'.2)
    rw [hn, hn']
    have ga := ha n0 n0'
    have gb := hb m0 m0'
    have hp' := fun s h => hp s h n0
    have hq' := fun s h => hq s h m0
    have still : Goes (stW a b) (oNum (vOp w n.1 m.1)) (oNum (vOp w n'.1 m'.1)) := by
      unfold stW
      split
      · rename_i h
        rw [ga.1 h.1, gb.1 h.2]; exact goes_same _ _
      · exact goes_any _ _
    have jn : Goes (joinW a (flipW b)) (n.1 - m.1) (n'.1 - m'.1) := by
      have h1 := sub_left (b := flipW b) oa _ _ ga
      have h2 := sub_right (a := a) (ok_flip b) _ _ (goes_flip ob gb)
      have := goes_add h1 h2
      rwa [← Int.sub_eq_add_neg, ← Int.sub_eq_add_neg] at this
    have jf : Goes (flipW (joinW a (flipW b))) (m.1 - n.1) (m'.1 - n'.1) := by
      have := goes_flip (ok_join _ _) jn
      rwa [Int.neg_sub, Int.neg_sub] at this
    clear hp hq hs hn hn' ha hb e f
    obtain ⟨n1, n2⟩ := n
    obtain ⟨m1, m2⟩ := m
    obtain ⟨n1', n2'⟩ := n'
    obtain ⟨m1', m2'⟩ := m'
    simp only at *
    unfold opW
    by_cases w1 : w = [43]
    · subst w1
      rw [if_pos rfl]
      have e1 : ∀ x y, vOp [43] x y = some (vTold (x + y)) := fun _ _ => rfl
      rw [e1] at v0 v0' ⊢
      rw [e1] at *
      show Goes _ (vTold (n1 + m1)).1 (vTold (n1' + m1')).1
      rw [told_val v0, told_val v0']
      exact goes_add (sub_left oa _ _ ga) (sub_right ob _ _ gb)
    rw [if_neg w1]
    by_cases w2 : w = [45]
    · subst w2
      rw [if_pos (.inl rfl)]
      have e1 : ∀ x y, vOp [45] x y = some (vTold (x - y)) := fun _ _ => rfl
      rw [e1] at v0 v0' ⊢
      rw [e1] at *
      show Goes _ (vTold (n1 - m1)).1 (vTold (n1' - m1')).1
      rw [told_val v0, told_val v0']
      exact jn
    by_cases w3 : w = [62]
    · subst w3
      rw [if_pos (.inr (.inl rfl))]
      show Goes _ (tru (decide (m1 < n1))) (tru (decide (m1' < n1')))
      refine tru_goes (fun e => ?_) (fun e => ?_) (fun e => ?_)
      · have := jn.1 e; rw [decide_eq_decide]; omega
      · have := jn.2.1 e; rw [decide_eq_true_iff, decide_eq_true_iff]; omega
      · have := jn.2.2 e; rw [decide_eq_true_iff, decide_eq_true_iff]; omega
    by_cases w4 : w = [62, 61]
    · subst w4
      rw [if_pos (.inr (.inr rfl))]
      show Goes _ (tru (decide (m1 ≤ n1))) (tru (decide (m1' ≤ n1')))
      refine tru_goes (fun e => ?_) (fun e => ?_) (fun e => ?_)
      · have := jn.1 e; rw [decide_eq_decide]; omega
      · have := jn.2.1 e; rw [decide_eq_true_iff, decide_eq_true_iff]; omega
      · have := jn.2.2 e; rw [decide_eq_true_iff, decide_eq_true_iff]; omega
    rw [if_neg (by rintro (h | h | h); exact w2 h; exact w3 h; exact w4 h)]
    by_cases w5 : w = [60]
    · subst w5
      rw [if_pos (.inl rfl)]
      show Goes _ (tru (decide (n1 < m1))) (tru (decide (n1' < m1')))
      refine tru_goes (fun e => ?_) (fun e => ?_) (fun e => ?_)
      · have := jf.1 e; rw [decide_eq_decide]; omega
      · have := jf.2.1 e; rw [decide_eq_true_iff, decide_eq_true_iff]; omega
      · have := jf.2.2 e; rw [decide_eq_true_iff, decide_eq_true_iff]; omega
    by_cases w6 : w = [60, 61]
    · subst w6
      rw [if_pos (.inr rfl)]
      show Goes _ (tru (decide (n1 ≤ m1))) (tru (decide (n1' ≤ m1')))
      refine tru_goes (fun e => ?_) (fun e => ?_) (fun e => ?_)
      · have := jf.1 e; rw [decide_eq_decide]; omega
      · have := jf.2.1 e; rw [decide_eq_true_iff, decide_eq_true_iff]; omega
      · have := jf.2.2 e; rw [decide_eq_true_iff, decide_eq_true_iff]; omega
    rw [if_neg (by rintro (h | h); exact w5 h; exact w6 h)]
    by_cases w7 : w = [42]
    · subst w7
      rw [if_pos rfl]
      have e1 : ∀ x y, vOp [42] x y = some (vTold (x * y)) := fun _ _ => rfl
      have v1 : (vTold (n1 * m1)).1 = n1 * m1 := told_val v0
      have v2 : (vTold (n1' * m1')).1 = n1' * m1' := told_val v0'
      cases q with
      | some s =>
        obtain ⟨hm, h1, h2⟩ := hq' s rfl
        injection hm with hm _
        subst hm
        show Goes _ (vTold (n1 * m1)).1 (vTold (n1' * m1)).1
        rw [v1, v2]
        exact mul_goes oa ga h1.1 (fun h => by by_cases hz : s = 0; have := h2 hz; omega; have := h1.2 (by omega); omega)
      | none =>
        cases p with
        | some s =>
          obtain ⟨hm, h1, h2⟩ := hp' s rfl
          injection hm with hm _
          subst hm
          show Goes _ (vTold (n1 * m1)).1 (vTold (n1 * m1')).1
          rw [v1, v2, Int.mul_comm n1 m1, Int.mul_comm n1 m1']
          exact mul_goes ob gb h1.1 (fun h => by by_cases hz : s = 0; have := h2 hz; omega; have := h1.2 (by omega); omega)
        | none => exact still
    rw [if_neg w7]
    by_cases w8 : w = [47]
    · subst w8
      rw [if_pos rfl]
      cases q with
      | some s =>
        obtain ⟨hm, h1, h2⟩ := hq' s rfl
        injection hm with hm _
        subst hm
        show Goes (if s = 0 then _ else _) _ _
        by_cases hs0 : s = 0
        · rw [if_pos hs0]; exact still
        · rw [if_neg hs0]
          have hm0 : m1 ≠ 0 := by
            intro hz
            have ha := h1.1
            have hb := h1.2
            omega
          have e1 : ∀ x, vOp [47] x m1 = some (vTold (x.tdiv m1)) := fun x => by
            show some (if m1 = 0 then ((0 : Int), (2 : Int)) else vTold (x.tdiv m1)) = _
            rw [if_neg hm0]
          rw [e1] at v0 v0'
          rw [e1, e1]
          show Goes _ (vTold (n1.tdiv m1)).1 (vTold (n1'.tdiv m1)).1
          rw [told_val v0, told_val v0']
          exact div_goes oa ga h1.1 h1.2 hs0
      | none => exact still
    · rw [if_neg w8]; exact still
def AgrW (a b : List Cel) (k : List Kno) : Prop := ∀ x y, (cAt x y a = none ∧ cAt x y b = none) ∨ ∃ n m, cAt x y a = some (n, 0) ∧ cAt x y b = some (m, 0) ∧ Goes (wAt x y k) n m
theorem in_holds {a b : List Cel} {k : List Kno} (h : AgrW a b k) {W : Int} : ∀ (l : List (Int × Int)), (∀ p ∈ l, SubW (wAt p.1 p.2 k) W) →
    All2 (RelW W) (l.filterMap fun p => cAt p.1 p.2 a) (l.filterMap fun p => cAt p.1 p.2 b)
  | [], _ => .nil
  | p :: l, hw => by
    have ih := in_holds h l fun q hq => hw q (List.mem_cons_of_mem _ hq)
    rcases h p.1 p.2 with ⟨h1, h2⟩ | ⟨n, m, h1, h2, hg⟩
    · rw [List.filterMap_cons_none (f := fun p : Int × Int => cAt p.1 p.2 a) h1, List.filterMap_cons_none (f := fun p : Int × Int => cAt p.1 p.2 b) h2]; exact ih
    · rw [List.filterMap_cons_some (f := fun p : Int × Int => cAt p.1 p.2 a) h1, List.filterMap_cons_some (f := fun p : Int × Int => cAt p.1 p.2 b) h2]
      exact .cons (fun _ _ => hw p (List.mem_cons_self ..) _ _ hg) ih
theorem cm_k3 (l : List Cel) (n c r d s : Int) (w : List UInt8) (ks : List Tr) : cmT l (.mk 3 n c r d s w ks) = (doNum [45] 0 0 ((cmL l ks).getD 0 (0, 0)).1 ((cmL l ks).getD 0 (0, 0)).2, doFault [45] 0 0 ((cmL l ks).getD 0 (0, 0)).1 ((cmL l ks).getD 0 (0, 0)).2) := by rw [cmT]; rfl
theorem cm_k4 (l : List Cel) (n c r d s : Int) (w : List UInt8) (ks : List Tr) : cmT l (.mk 4 n c r d s w ks) = (doNum w ((cmL l ks).getD 0 (0, 0)).1 ((cmL l ks).getD 0 (0, 0)).2 ((cmL l ks).getD 1 (0, 0)).1 ((cmL l ks).getD 1 (0, 0)).2, doFault w ((cmL l ks).getD 0 (0, 0)).1 ((cmL l ks).getD 0 (0, 0)).2 ((cmL l ks).getD 1 (0, 0)).1 ((cmL l ks).getD 1 (0, 0)).2) := by rw [cmT]; rfl
theorem cm_k5 (l : List Cel) (n c r d s : Int) (w : List UInt8) (ks : List Tr) : cmT l (.mk 5 n c r d s w ks) = if w = [73, 70] then
        if ((cmL l ks).getD 0 (0, 0)).2 ≠ 0 then (cmL l ks).getD 0 (0, 0)
        else if ((cmL l ks).getD 0 (0, 0)).1 ≠ 0 then (cmL l ks).getD 1 (0, 0)
        else (cmL l ks).getD 2 (0, 0)
      else if w = [83, 85, 77] then allV gAdd (0, 0) (itL l ks)
      else if w = [77, 73, 78] then mostV gLow (itL l ks)
      else if w = [77, 65, 88] then mostV gTop (itL l ks)
      else if (ks.any fun u => u.kind == 2) = true then (0, 3)
      else (((itL l ks).length : Int), 0) := by rw [cmT]; rfl
theorem cm_off (l : List Cel) (k n c r d s : Int) (w : List UInt8) (ks : List Tr) (h0 : k ≠ 0) (h1 : k ≠ 1) (h3 : k ≠ 3) (h4 : k ≠ 4) (h5 : k ≠ 5) : cmT l (.mk k n c r d s w ks) = (0, 3) := by rw [cmT, if_neg h0, if_neg h1, if_neg h3, if_neg h4, if_neg h5]
theorem wy_k3 (l : List Kno) (n c r d s : Int) (w : List UInt8) (ks : List Tr) : wyT l (.mk 3 n c r d s w ks) = flipW ((wyL l ks).getD 0 0) := by rw [wyT]; rfl
theorem wy_k4 (l : List Kno) (n c r d s : Int) (w : List UInt8) (ks : List Tr) : wyT l (.mk 4 n c r d s w ks) = opW w ((wyL l ks).getD 0 0) ((wyL l ks).getD 1 0) (cstAt ks 0) (cstAt ks 1) := by rw [wyT]; rfl
theorem wy_k5 (l : List Kno) (n c r d s : Int) (w : List UInt8) (ks : List Tr) : wyT l (.mk 5 n c r d s w ks) = if w = [67, 79, 85, 78, 84] then 0 else if w = [73, 70] ∧ (wyL l ks).getD 0 0 ≠ 0 then 3 else joinL (wyL l ks) := by rw [wyT]; rfl
mutual
theorem holds_cm {a b : List Cel} {k : List Kno} (h : AgrW a b k) : ∀ t, mayB t = true → RelW (wyT k t) (cmT a t) (cmT b t)
  | .mk K n c r d s w ks, hm => by
    have hk : ∀ u ∈ ks, mayB u = true := may_kids hm
    have hL := holds_cmL h ks hk
    have hI := holds_itL h ks hk
    by_cases k0 : K = 0
    · rw [cm_num (l := a) (show (Tr.mk K n c r d s w ks).kind = 0 from k0), cm_num (l := b) (show (Tr.mk K n c r d s w ks).kind = 0 from k0)]
      exact fun _ _ => goes_same _ _
    · by_cases k1 : K = 1
      · subst k1
        rw [cm_read (l := a) rfl, cm_read (l := b) rfl, wy_read rfl]
        show RelW (wAt c r k) (cVal c r a) (cVal c r b)
        unfold cVal
        rcases h c r with ⟨h1, h2⟩ | ⟨n, m, h1, h2, hg⟩
        · rw [h1, h2]; exact fun _ _ => goes_same _ _
        · rw [h1, h2]; exact fun _ _ => hg
      · by_cases k3 : K = 3
        · subst k3
          rw [cm_k3, cm_k3, wy_k3]
          have := op_holds (w := [45]) (a := 0) (b := (wyL k ks).getD 0 0) (p := none) (q := none) (n := (0, 0)) (n' := (0, 0)) (.inl rfl) (okw_get (ok_wyL k ks) 0) (fun _ _ => goes_same _ _) (hL 0) (fun s hs => by cases hs) (fun s hs => by cases hs)
          have e : opW [45] 0 ((wyL k ks).getD 0 0) none none = flipW ((wyL k ks).getD 0 0) := by
            show joinW 0 (flipW _) = _
            unfold joinW
            rw [if_pos (.inl rfl)]
            exact clean_ok (ok_flip _)
          rw [e] at this
          exact this
        · by_cases k4 : K = 4
          · subst k4
            rw [cm_k4, cm_k4, wy_k4]
            have hc : ∀ i s, cstAt ks i = some s → ((cmL a ks).getD i (0, 0)).2 = 0 → (cmL a ks).getD i (0, 0) = (cmL b ks).getD i (0, 0) ∧ ((s < 0 → ((cmL a ks).getD i (0, 0)).1 < 0) ∧ (0 < s → 0 < ((cmL a ks).getD i (0, 0)).1)) ∧ (s = 0 → ((cmL a ks).getD i (0, 0)).1 = 0) := by
              intro i s hs hf
              unfold cstAt at hs
              cases hu : ks[i]? with
              | none => rw [hu] at hs; cases hs
              | some u =>
                rw [hu] at hs
                rw [cmL_at (l := a) hu, cmL_at (l := b) hu] at *
                exact ⟨cst_same a b u s hs, cst_num a u s (hk u (List.mem_of_getElem? hu)) hs hf⟩
            exact op_holds (okw_get (ok_wyL k ks) 0) (okw_get (ok_wyL k ks) 1) (hL 0) (hL 1) (hc 0) (hc 1)
          · by_cases k5 : K = 5
            · subst k5
              rw [cm_k5, cm_k5, wy_k5]
              have hsub : ∀ i, SubW ((wyL k ks).getD i 0) (joinL (wyL k ks)) := fun i => by
                rw [List.getD_eq_getElem?_getD]
                cases hi : (wyL k ks)[i]? with
                | none => exact sub_zero _
                | some v => exact sub_mem _ _ (ok_wyL k ks) v (List.mem_of_getElem? hi)
              have hall := hI (joinL (wyL k ks)) (fun v hv => sub_mem _ _ (ok_wyL k ks) v hv)
              by_cases w1 : w = [73, 70]
              · subst w1
                rw [if_pos rfl, if_pos rfl, if_neg (by decide)]
                intro e f
                by_cases hst : (wyL k ks).getD 0 0 = 0
                · rw [if_neg (fun hh => hh.2 hst)]
                  have h0 := hL 0
                  have h1 := hL 1
                  have h2 := hL 2
                  rw [hst] at h0
                  have s1 := hsub 1
                  have s2 := hsub 2
                  generalize (cmL a ks).getD 0 (0, 0) = A0 at *
                  generalize (cmL b ks).getD 0 (0, 0) = B0 at *
                  generalize (cmL a ks).getD 1 (0, 0) = A1 at *
                  generalize (cmL b ks).getD 1 (0, 0) = B1 at *
                  generalize (cmL a ks).getD 2 (0, 0) = A2 at *
                  generalize (cmL b ks).getD 2 (0, 0) = B2 at *
                  by_cases fa : A0.2 = 0
                  · by_cases fb : B0.2 = 0
                    · have he := (h0 fa fb).1 rfl
                      have na : ¬ A0.2 ≠ 0 := fun hh => hh fa
                      have nb : ¬ B0.2 ≠ 0 := fun hh => hh fb
                      rw [if_neg na] at e ⊢
                      rw [if_neg nb] at f ⊢
                      rw [← he] at f ⊢
                      by_cases hz : A0.1 ≠ 0
                      · rw [if_pos hz] at e f ⊢
                        rw [if_pos hz]
                        exact s1 _ _ (h1 e f)
                      · rw [if_neg hz] at e f ⊢
                        rw [if_neg hz]
                        exact s2 _ _ (h2 e f)
                    · rw [if_pos fb] at f; exact absurd f fb
                  · rw [if_pos fa] at e; exact absurd e fa
                · rw [if_pos ⟨rfl, hst⟩]; exact goes_any _ _
              · rw [if_neg w1, if_neg w1]
                by_cases w5 : w = [67, 79, 85, 78, 84]
                · subst w5
                  have n1 : ¬ ([67, 79, 85, 78, 84] : List UInt8) = [83, 85, 77] := by decide
                  have n2 : ¬ ([67, 79, 85, 78, 84] : List UInt8) = [77, 73, 78] := by decide
                  have n3 : ¬ ([67, 79, 85, 78, 84] : List UInt8) = [77, 65, 88] := by decide
                  rw [if_pos rfl, if_neg n1, if_neg n1, if_neg n2, if_neg n2, if_neg n3, if_neg n3]
                  have hlen := hall.len
                  split
                  · exact fun _ _ => goes_same _ _
                  · exact fun _ _ => by show Goes 0 ((itL a ks).length : Int) ((itL b ks).length : Int); rw [hlen]; exact goes_same _ _
                · rw [if_neg w5, if_neg (fun hh => w1 hh.1)]
                  by_cases w2 : w = [83, 85, 77]
                  · rw [if_pos w2, if_pos w2]; exact all_holds keeps_add hall _ _ (fun _ _ => goes_same _ _)
                  · rw [if_neg w2, if_neg w2]
                    by_cases w3 : w = [77, 73, 78]
                    · rw [if_pos w3, if_pos w3]; exact most_holds keeps_low hall
                    · rw [if_neg w3, if_neg w3]
                      by_cases w4 : w = [77, 65, 88]
                      · rw [if_pos w4, if_pos w4]; exact most_holds keeps_top hall
                      · rw [if_neg w4, if_neg w4]
                        have hlen := hall.len
                        split
                        · exact fun _ _ => goes_same _ _
                        · exact fun _ _ => by show Goes _ ((itL a ks).length : Int) ((itL b ks).length : Int); rw [hlen]; exact goes_same _ _
            · rw [cm_off a K n c r d s w ks k0 k1 k3 k4 k5, cm_off b K n c r d s w ks k0 k1 k3 k4 k5]
              exact fun _ _ => goes_same _ _
theorem holds_cmL {a b : List Cel} {k : List Kno} (h : AgrW a b k) : ∀ ks, (∀ u ∈ ks, mayB u = true) → ∀ i, RelW ((wyL k ks).getD i 0) ((cmL a ks).getD i (0, 0)) ((cmL b ks).getD i (0, 0))
  | [], _, i => by rw [wyL, cmL, cmL]; exact fun _ _ => goes_same _ _
  | t :: ts, hm, i => by
    rw [wyL, cmL, cmL]
    cases i with
    | zero => exact holds_cm h t (hm t (List.mem_cons_self ..))
    | succ i => rw [List.getD_cons_succ, List.getD_cons_succ, List.getD_cons_succ]; exact holds_cmL h ts (fun u hu => hm u (List.mem_cons_of_mem _ hu)) i
theorem holds_itL {a b : List Cel} {k : List Kno} (h : AgrW a b k) : ∀ ks, (∀ u ∈ ks, mayB u = true) → ∀ W, (∀ v ∈ wyL k ks, SubW v W) → All2 (RelW W) (itL a ks) (itL b ks)
  | [], _, W, _ => by rw [itL, itL]; exact .nil
  | t :: ts, hm, W, hw => by
    rw [wyL] at hw
    have h1 := holds_cm h t (hm t (List.mem_cons_self ..))
    have h2 := holds_itL h ts (fun u hu => hm u (List.mem_cons_of_mem _ hu)) W (fun v hv => hw v (List.mem_cons_of_mem _ hv))
    have hs := hw (wyT k t) (List.mem_cons_self ..)
    rw [itL, itL]
    refine All2.app ?_ h2
    by_cases k6 : t.kind = 6
    · rw [if_pos k6, if_pos k6]
      rw [wy_span k6] at hs
      have hs : SubW (joinL ((cellsTo t.c1 t.r1 t.c2 t.r2 1024).map fun p : Int × Int => wAt p.1 p.2 k)) W := hs
      refine in_holds h _ fun p hp => ?_
      have hv : wAt p.1 p.2 k ∈ (cellsTo t.c1 t.r1 t.c2 t.r2 1024).map fun p : Int × Int => wAt p.1 p.2 k := List.mem_map_of_mem hp
      refine sub_trans (sub_mem _ 0 ?_ _ hv) hs
      intro v hv
      obtain ⟨q, _, rfl⟩ := List.mem_map.1 hv
      exact ok_wAt _ _ _
    · rw [if_neg k6, if_neg k6]
      exact .cons (fun e f => hs _ _ (h1 e f)) .nil
end
theorem holds_way {a b : List Cel} {k : List Kno} (h : AgrW a b k) {t : Tr} (hr : mayB t = true) : RelW (wyT k t) (cmT a t) (cmT b t) := holds_cm h t hr
end Go.Proofs.YthaoalmhhgllmaaDoor
namespace Go.Proofs.YthaoalmhhgllmaaDoor
open Go.RowKit
set_option maxHeartbeats 2000000 in
set_option maxRecDepth 10000 in
theorem rcells_any (a b c d : Int) (w : World) :
    Calls Tryd.prog 41 #[.agg #[.int .i64 a, .int .i64 b, .int .i64 c, .int .i64 d]] w fun e w' => ∃ v, e = .returned v ∧
      w'.ownsRow w.heap.size 24 2 v (cellsTo a b c d 1024).length (cells2 (cellsTo a b c d 1024)) ∧ Below w.heap.size w w' := by
  obtain ⟨i0, hi0, hz0, hz1, hz2⟩ := info_parts place_info
  have HI := Lib.hid hi0
  have HZ0 := Lib.hid hz0
  have HZ1 := Lib.hid hz1
  have HZ2 := Lib.hid hz2
  clear hi0 hz0 hz1 hz2
  go_enter Tryd.func41, Tryd.ntmps41
  go_wp2_with fail
  go_loopw [3, 4] (fun v n wr => ∃ i : Nat, i ≤ 1024 ∧ n = .int .i64 i ∧ wr.ownsRow (w.heap.size + 1) 24 2 v (cellsTo a b c d i).length (cells2 (cellsTo a b c d i)) ∧
      Below (w.heap.size + 1) (w.alloc (.cells #[.int .i64 a, .int .i64 b, .int .i64 c, .int .i64 d] 26)) wr) (fun _ n _ => leftG n)
  case atStart => exact ⟨0, by omega, rfl, World.ownsRow_nil _ _ _ _, Below.refl _ _⟩
  case round =>
    obtain ⟨i, hi, rfl, hown, hb⟩ := hrel
    have HO := Lib.hid hown
    have hlen := cellsTo_le a b c d i
    have k0 : wr.cell? ⟨w.heap.size, 0, none⟩ = some (.int .i64 a) := by rw [hb.cell (by simp)]; simp
    have k1 : wr.cell? ⟨w.heap.size, 1, none⟩ = some (.int .i64 b) := by rw [hb.cell (by simp)]; simp
    have k2 : wr.cell? ⟨w.heap.size, 2, none⟩ = some (.int .i64 c) := by rw [hb.cell (by simp)]; simp
    have k3 : wr.cell? ⟨w.heap.size, 3, none⟩ = some (.int .i64 d) := by rw [hb.cell (by simp)]; simp
    have z0 : w.heap.size < wr.heap.size := by have := hb.size; simp at this; omega
    have b0 : Below w.heap.size w wr := ((Below.refl _ _).alloc (Nat.le_refl _) _).trans (hb.mono (by omega))
    clear hown
    by_cases hlt : i < 1024
    · have HH := Lib.hid (rhas_any a b c d (atC i) (atR i))
      go_wp2_with fail
      refine (rat_any _ _).mono ?_; rintro e w2 ⟨rfl, b2⟩
      have q0 := keep_cell b2 k0
      have q1 := keep_cell b2 k1
      have q2 := keep_cell b2 k2
      have q3 := keep_cell b2 k3
      have z2 : w.heap.size < w2.heap.size := by have := b2.size; omega
      have HO2 := Lib.hid (own_below HO.out b2)
      have hb2 := hb.trans (b2.mono (by omega))
      clear k0 k1 k2 k3
      cases hh : hasB a b c d (atC i) (atR i) with
      | true =>
        rw [hh] at HH
        have HS := Lib.hid (cellsTo_yes hh)
        clear hh
        go_wp2_with fail
        refine (HH.out _).mono ?_; rintro e w3 ⟨rfl, b3⟩
        have m0 := keep_fresh b3 0 (v := .int .i64 (atC i)) rfl
        have m1 := keep_fresh b3 1 (v := .int .i64 (atR i)) rfl
        have HO3 := Lib.hid (own_below (HO2.out.alloc _) b3)
        have hb3 := (hb2.alloc (by omega) _).trans (b3.mono (by simp; omega))
        have z3 : w.heap.size + 1 ≤ w3.heap.size := by have := b3.size; simp at this; omega
        have b3' := b0.trans (b2.mono (by omega))
        have b4 := (b3'.alloc (by omega) (.cells #[.int .i64 (atC i), .int .i64 (atR i)] 24)).trans (b3.mono (by simp; omega))
        clear b2 b3 q0 q1 q2 q3
        go_wp2_with (at_builtin
                     refine wpList_append_own _ rfl _ _ 90 rfl (w.heap.size + 1) 24 i0 (.agg #[.int .i64 0, .int .i64 0]) 2 16 Tryd.underlying90 HI.out HZ0.out HZ1.out HZ2.out rfl (by decide) _ _ _ rfl (HO3.out.alloc _)
                       ⟨w3.heap.size, 0, none⟩ 1 1 [.int .i64 (atC i), .int .i64 (atR i)] rfl rfl ?c1 ?c2 ?c3 ?c4 ?c5 ?_)
        case c1 =>
          intro j u hj
          match j, hj with
          | 0, hj => simp at hj; subst hj; simp [Addr.add]
          | 1, hj => simp at hj; subst hj; simp [Addr.add]
        case c2 => intro u hu; simp at hu; rcases hu with rfl | rfl <;> rfl
        case c3 => unfold maxLen; omega
        case c4 => omega
        case c5 => simp; omega
        intro v' w4 hown4 hg4 _
        rw [← cells2_snoc] at hown4
        have e5 : (cellsTo a b c d i).length + 1 = (cellsTo a b c d (i + 1)).length := by rw [HS.out]; simp
        rw [e5, ← HS.out] at hown4
        have HO4 := Lib.hid hown4
        clear hown4 e5
        have hb4 : Below (w.heap.size + 1) (w.alloc (.cells #[.int .i64 a, .int .i64 b, .int .i64 c, .int .i64 d] 26)) w4 := (hb3.alloc z3 _).grown hg4 (by simp; omega) (fun g hgg => (HO3.out.lt g hgg).1)
        clear hg4
        go_wp2_with fail
        go_roundw
        case rel => exact ⟨i + 1, by omega, by go_num, HO4.out, hb4⟩
        case measure => simp [leftG, intOf]; omega
      | false =>
        rw [hh] at HH
        have HS := Lib.hid (cellsTo_no hh)
        clear hh
        go_wp2_with fail
        refine (HH.out _).mono ?_; rintro e w3 ⟨rfl, b3⟩
        have HO3 := own_below (HO2.out.alloc _) b3
        have hb3 := (hb2.alloc (by omega) _).trans (b3.mono (by simp; omega))
        rw [← HS.out] at HO3
        have HO4 := Lib.hid HO3
        clear HO3 b2 b3 q0 q1 q2 q3
        go_wp2_with fail
        go_roundw
        case rel => exact ⟨i + 1, by omega, by go_num, HO4.out, hb3⟩
        case measure => simp [leftG, intOf]; omega
    · have hi2 : i = 1024 := by omega
      subst hi2
      go_wp2_with fail
      go_ret
      exact ⟨_, rfl, HO.out.mono (by omega), b0⟩
end Go.Proofs.YthaoalmhhgllmaaDoor
namespace Go.Proofs.YthaoalmhhgllmaaDoor
open Go.RowKit
def fstOr (l : List (Int × Int)) : Int × Int := l.head?.getD (0, 0)
def lstOr (l : List (Int × Int)) : Int × Int := l.getLast?.getD (0, 0)
theorem fst_snoc (l : List (Int × Int)) (p : Int × Int) : fstOr (l ++ [p]) = if l = [] then p else fstOr l := by
  unfold fstOr; cases l <;> simp
theorem lst_snoc (l : List (Int × Int)) (p : Int × Int) : lstOr (l ++ [p]) = p := by
  unfold lstOr; simp
structure Out4 (w : World) (g : Nat) (l : List (Int × Int)) : Prop where
  c0 : w.cell? ⟨g, 0, none⟩ = some (.int .i64 (fstOr l).1)
  c1 : w.cell? ⟨g, 1, none⟩ = some (.int .i64 (fstOr l).2)
  c2 : w.cell? ⟨g, 2, none⟩ = some (.int .i64 (lstOr l).1)
  c3 : w.cell? ⟨g, 3, none⟩ = some (.int .i64 (lstOr l).2)
  f0 : w.frozen? ⟨g, 0, none⟩ = false
  f1 : w.frozen? ⟨g, 1, none⟩ = false
  f2 : w.frozen? ⟨g, 2, none⟩ = false
  f3 : w.frozen? ⟨g, 3, none⟩ = false
theorem Out4.to {w : World} {o : Nat} {l : List (Int × Int)} (H : Out4 w o l) (hl : l ≠ []) (x y : Int) :
    Out4 ((w.setCell ⟨o, 2, none⟩ (.int .i64 x)).setCell ⟨o, 3, none⟩ (.int .i64 y)) o (l ++ [(x, y)]) := by
  obtain ⟨c0, c1, c2, c3, f0, f1, f2, f3⟩ := H
  have e1 : fstOr (l ++ [(x, y)]) = fstOr l := by rw [fst_snoc, if_neg hl]
  refine ⟨?_, ?_, ?_, ?_, ?_, ?_, ?_, ?_⟩
  · rw [e1]; simp [go_sem, c0]
  · rw [e1]; simp [go_sem, c1]
  · rw [lst_snoc]; simp [go_sem, c2]
  · rw [lst_snoc]; simp [go_sem, c3]
  · simp [go_sem, f0]
  · simp [go_sem, f1]
  · simp [go_sem, f2]
  · simp [go_sem, f3]
theorem at2_below {w w' : World} {B g : Nat} {l : List (Int × Int)} (h : At2 w g l) (hb : Below B w w') (hg : g < B) : At2 w' g l := by
  intro i x y hi
  obtain ⟨h1, h2⟩ := h i x y hi
  exact ⟨by rw [hb.cell (p := ⟨g, i * 2, none⟩) hg]; exact h1, by rw [hb.cell (p := ⟨g, i * 2 + 1, none⟩) hg]; exact h2⟩
end Go.Proofs.YthaoalmhhgllmaaDoor
namespace Go.Proofs.YthaoalmhhgllmaaDoor
open Go.RowKit
def OwnV (base : Nat) (w : World) (v : Value) (L : List (Int × Int)) : Prop := w.ownsRow base 53 2 v L.length (cells2 L)
theorem value_info : (Tryd.prog.info? 53).map (fun i => (i.zero, i.size, i.bytes)) = some (some (.agg #[.int .i64 0, .int .i64 0]), 2, 16) := by kernel_rfl
theorem OwnV.shape {w : World} {base : Nat} {v : Value} {L : List (Int × Int)} (h : OwnV base w v L) :
    ∃ (A : Option Addr) (cap : Nat), v = .slice A L.length cap ∧ ListV w A L := by
  have h' := h
  rcases h.2 with ⟨rfl, hl⟩ | ⟨g, cap, cur, rfl, _, hh, _⟩
  · refine ⟨none, 0, by rw [hl], fun hne => ?_⟩
    exact absurd (List.length_eq_zero_iff.1 hl) hne
  · refine ⟨_, cap, rfl, fun _ => ⟨g, 0, rfl, fun i x y hi => ?_⟩⟩
    have hlt : i < L.length := (List.getElem?_eq_some_iff.1 hi).1
    obtain ⟨h1, h2⟩ := cells2_at L i x y hi
    rw [Nat.zero_add]
    exact ⟨(World.ownsRow.cellAt h' (i * 2) (by omega)).trans h1, (World.ownsRow.cellAt h' (i * 2 + 1) (by omega)).trans h2⟩
theorem own_shapeB {w : World} {base : Nat} {v : Value} {l : List (Int × Int)} (h : w.ownsRow base 24 2 v l.length (cells2 l)) :
    ∃ (A : Option Addr) (cap : Nat), v = .slice A l.length cap ∧ (∀ i, i < l.length → ∃ g, A = some ⟨g, 0, none⟩ ∧ base ≤ g ∧ g < w.heap.size ∧ At2 w g l) := by
  have h' := h
  rcases h.2 with ⟨rfl, hl⟩ | ⟨g, cap, cur, rfl, _, hh, _⟩
  · exact ⟨none, 0, by rw [hl], fun i hi => by omega⟩
  · exact ⟨_, cap, rfl, fun i hi => ⟨g, rfl, (h'.lt g rfl).1, (h'.lt g rfl).2, at2_of_own h'⟩⟩
def fmT (l : List Cel) (C : List (Int × Int)) (k : Nat) : List (Int × Int) := (C.take k).filterMap fun p => cAt p.1 p.2 l
theorem fm_yes {l : List Cel} {C : List (Int × Int)} {k : Nat} {x y : Int} {v : Int × Int} (hi : C[k]? = some (x, y)) (h : cAt x y l = some v) : fmT l C (k + 1) = fmT l C k ++ [v] := by
  unfold fmT
  rw [List.take_add_one, hi, List.filterMap_append]
  show _ ++ [(x, y)].filterMap _ = _
  rw [List.filterMap_cons_some (by exact h)]; rfl
theorem fm_no {l : List Cel} {C : List (Int × Int)} {k : Nat} {x y : Int} (hi : C[k]? = some (x, y)) (h : cAt x y l = none) : fmT l C (k + 1) = fmT l C k := by
  unfold fmT
  rw [List.take_add_one, hi, List.filterMap_append]
  show _ ++ [(x, y)].filterMap _ = _
  rw [List.filterMap_cons_none (by exact h)]; exact List.append_nil _
theorem fm_le (l : List Cel) (C : List (Int × Int)) (k : Nat) : (fmT l C k).length ≤ C.length := by
  unfold fmT
  refine Nat.le_trans (List.length_filterMap_le _ _) ?_
  rw [List.length_take]; exact Nat.min_le_right _ _
def PlA (w : World) (v : Value) (A : Option Addr) (C : List (Int × Int)) : Prop := ∀ i, i < C.length → ∃ g, A = some ⟨g, 0, none⟩ ∧ g < w.heap.size ∧ v.ownBlock ≠ some g ∧ At2 w g C
def ComeC (l : List Cel) (t : Tr) : Prop := ∀ (w : World) (P : Nat → Prop) (A : Option Addr) (cap : Nat) (LA : Option Addr) (lc : Nat), KV w P t A → ListC w LA l →
  Calls Tryd.prog 28 #[.agg #[.int .i64 t.kind, .int .i64 t.num, .int .i64 t.c1, .int .i64 t.r1, .int .i64 t.c2, .int .i64 t.r2, .string ⟨t.word.toArray⟩, .slice A t.kids.length cap], .slice LA l.length lc] w fun e w' => e = .returned (.agg #[.int .i64 (cmT l t).1, .int .i64 (cmT l t).2]) ∧ Below w.heap.size w w'
def ItemsC (l : List Cel) (t : Tr) : Prop := ∀ (w : World) (P : Nat → Prop) (A : Option Addr) (cap : Nat) (LA : Option Addr) (lc : Nat), KV w P t A → ListC w LA l →
  Calls Tryd.prog 65 #[.slice A t.kids.length cap, .slice LA l.length lc] w fun e w' => ∃ v, e = .returned v ∧ OwnV w.heap.size w' v (itL l t.kids) ∧ Below w.heap.size w w'
theorem itL_tk {l : List Cel} {ks : List Tr} {i : Nat} {u : Tr} (hu : ks[i]? = some u) (h6 : u.kind ≠ 6) : itL l (ks.take (i + 1)) = itL l (ks.take i) ++ [cmT l u] := by rw [itL_take hu, if_neg h6]
theorem itL_sp {l : List Cel} {ks : List Tr} {i : Nat} {u : Tr} (hu : ks[i]? = some u) (h6 : u.kind = 6) : itL l (ks.take (i + 1)) = itL l (ks.take i) ++ fmT l (cellsTo u.c1 u.r1 u.c2 u.r2 1024) (cellsTo u.c1 u.r1 u.c2 u.r2 1024).length := by
  rw [itL_take hu, if_pos h6]; unfold fmT; rw [List.take_length]; rfl
theorem cells2_app (a b : List (Int × Int)) : cells2 (a ++ b) = cells2 a ++ cells2 b := by unfold cells2; exact List.flatMap_append
theorem new2_at (w : World) (X : Obj) (a b : Int) (j : Nat) (u : Value) (h : [Value.int .i64 a, Value.int .i64 b][j]? = some u) : ((w.alloc X).alloc (.cells #[.int .i64 a, .int .i64 b] 53)).cell? ((⟨w.heap.size + 1, 0, none⟩ : Addr).add j) = some u := by
  match j, h with
  | 0, h => simp at h; subst h; simp [Addr.add, go_sem]
  | 1, h => simp at h; subst h; simp [Addr.add, go_sem]
theorem new2_one (a b : Int) : ∀ u ∈ [Value.int .i64 a, Value.int .i64 b], u.oneCell' = true := by
  intro x hx; simp at hx; rcases hx with rfl | rfl <;> rfl
def Stop (P : Prop) : Prop := P
theorem of_stop {P : Prop} (h : Stop P) : P := h
theorem stop_of {P : Prop} (h : P) : Stop P := h
set_option maxHeartbeats 4000000 in
set_option maxRecDepth 10000 in
theorem items_of {l : List Cel} (hl : l.length ≤ maxLen) (t : Tr) (hlen : t.kids.length ≤ 1000000) (ih : ∀ u ∈ t.kids, ComeC l u) : ItemsC l t := by
  intro w P A cap LA lc hk hc
  obtain ⟨i0, hi0, hz0, hz1, hz2⟩ := info_parts value_info
  have HI0 := Lib.hid hi0
  have HZ0 := Lib.hid hz0
  have HZ1 := Lib.hid hz1
  have HZ2 := Lib.hid hz2
  clear hi0 hz0 hz1 hz2
  have HK := Lib.hid hk
  have HI := Lib.hid ih
  have HC := Lib.hid hc
  have HLL := Lib.hid hl
  clear hk ih hc hl
  go_enter Tryd.func65, Tryd.ntmps65
  go_wp2_with fail
  go_loopw [5, 6] (fun v n wr => ∃ i : Nat, i ≤ t.kids.length ∧ n = .int .i64 (i : Int) ∧ OwnV w.heap.size wr v (itL l (t.kids.take i)) ∧ Below w.heap.size w wr) (fun _ n _ => t.kids.length - (intOf n).toNat)
  case atStart => exact ⟨0, Nat.zero_le _, rfl, by rw [List.take_zero, itL]; exact World.ownsRow_nil _ _ _ _, Below.refl _ _⟩
  case round =>
    obtain ⟨i, hi, rfl, hown, hbel⟩ := hrel
    have HO := Lib.hid hown
    have hle := itL_le l (t.kids.take i)
    have hlt1 : (t.kids.take i).length ≤ 1000000 := by rw [List.length_take]; omega
    clear hown
    by_cases hlt : i < t.kids.length
    · have hu : t.kids[i]? = some (t.kids[i]'hlt) := List.getElem?_eq_getElem hlt
      obtain ⟨g, o, rfl⟩ := HK.out.addr hu
      obtain ⟨hg, A', cap', h8, hkv⟩ := HK.out.kidAt hbel hu
      have HT1 := Lib.hid (itL_tk (l := l) hu)
      have HT2 := Lib.hid (itL_sp (l := l) hu)
      have HCo := Lib.hid (HI.out _ (List.getElem_mem hlt) wr _ A' cap' LA lc hkv (HC.out.below hbel))
      generalize t.kids[i]'hlt = u at *
      obtain ⟨q0, q1, q2, q3, q4, q5, q6, q7⟩ := h8
      have zg : g < wr.heap.size := Nat.lt_of_lt_of_le hg hbel.size
      have zs := hbel.size
      clear hkv hu
      by_cases h6 : u.kind = 6
      · have d6 : (u.kind != 6) = false := by simpa using h6
        have HT := Lib.hid (HT2.out h6)
        have HCl := Lib.hid (fun w => rcells_any u.c1 u.r1 u.c2 u.r2 w)
        have hcl := cellsTo_le u.c1 u.r1 u.c2 u.r2 1024
        clear HT1 HT2 h6 HCo
        generalize cellsTo u.c1 u.r1 u.c2 u.r2 1024 = C at *
        generalize hX : itL l (t.kids.take i) = X at *
        go_wp2_with fail
        refine (HCl.out _).mono ?_; rintro e w1 ⟨v7, rfl, hown7, b1⟩
        obtain ⟨A7, cap7, rfl, hsh⟩ := own_shapeB hown7
        have HPA : Hid (PlA w1 u5 A7 C) := Lib.hid fun j hj => by
          obtain ⟨g7, e, hb7, hl7, hat⟩ := hsh j hj
          exact ⟨g7, e, hl7, fun e2 => by have := (HO.out.lt g7 e2).2; omega, hat⟩
        have HO1 := Lib.hid (own_below HO.out b1)
        have hb1 := hbel.trans (b1.mono zs)
        clear hsh hown7 b1 q0 q1 q2 q3 q4 q5 q6 q7 HO d6 zg zs hg
        go_wp2_with fail
        go_loopw [5, 8] (fun v n wr => ∃ k : Nat, k ≤ C.length ∧ n = .int .i64 (k : Int) ∧ OwnV w.heap.size wr v (X ++ fmT l C k) ∧ Hid (PlA wr v A7 C) ∧ Below w.heap.size w wr) (fun _ n _ => C.length - (intOf n).toNat)
        case atStart => exact ⟨0, Nat.zero_le _, rfl, by (have e : fmT l C 0 = [] := rfl); rw [e, List.append_nil]; exact HO1.out, HPA, hb1⟩
        case round =>
          clear HO1 HPA hb1 hbel
          obtain ⟨k, hk2, rfl, hown2, HP2, hbel⟩ := hrel
          have HO := Lib.hid hown2
          have hfl := fm_le l C k
          have zs := hbel.size
          clear hown2
          by_cases hlt2 : k < C.length
          · obtain ⟨x, y, hxy⟩ : ∃ x y, C[k]? = some (x, y) := ⟨_, _, List.getElem?_eq_getElem hlt2⟩
            obtain ⟨g7, rfl, hg7, hn7, hat7⟩ := HP2.out k hlt2
            obtain ⟨a0, a1⟩ := hat7 k x y hxy
            clear hat7
            have HA := Lib.hid (fun (w : World) (hc : ListC w LA l) => rAt_any l HLL.out LA lc x y w hc)
            have hlc := HC.out.below hbel
            have HY := Lib.hid (fun v => fm_yes (l := l) (v := v) hxy)
            have HN := Lib.hid (fm_no (l := l) hxy)
            clear hxy
            cases hv : cAt x y l with
            | none =>
              have HN2 := Lib.hid (HN.out hv)
              have HA : Hid (∀ (w : World), ListC w LA l → Calls Tryd.prog 27 #[.slice LA l.length lc, .agg #[.int .i64 x, .int .i64 y]] w fun e w' => e = .returned (.tuple #[.agg #[.int .i64 0, .int .i64 0], .bool false]) ∧ Below w.heap.size w w') := Lib.hid fun w hc => by
                have := HA.out w hc
                rw [hv] at this
                exact this
              clear HN HY hv
              go_wp2_with fail
              refine (HA.out _ hlc).mono ?_; rintro e w2 ⟨rfl, b2⟩
              have HO2 := Lib.hid (own_below HO.out b2)
              have hb2 := hbel.trans (b2.mono zs)
              have HF : Hid (∀ wf, Below w2.heap.size w2 wf → ∃ k2 : Nat, k2 ≤ C.length ∧ Value.int .i64 ((k : Int) + 1) = .int .i64 (k2 : Int) ∧ OwnV w.heap.size wf u5 (X ++ fmT l C k2) ∧ Hid (PlA wf u5 (some ⟨g7, 0, none⟩) C) ∧ Below w.heap.size w wf) := Lib.hid fun wf bf => by
                refine ⟨k + 1, hlt2, by go_num, by rw [HN2.out]; exact own_below HO2.out bf, Lib.hid fun j hj => ?_, hb2.trans (bf.mono hb2.size)⟩
                obtain ⟨g', e, h1, h2, h3⟩ := HP2.out j hj
                exact ⟨g', e, Nat.lt_of_lt_of_le h1 (Nat.le_trans b2.size bf.size), h2, at2_below h3 (b2.trans (bf.mono b2.size)) h1⟩
              clear b2 a0 a1
              go_wp2_with fail
              go_roundw
              case rel => exact HF.out _ (by repeat' (first | with_reducible exact Below.refl _ _ | exact Nat.le_refl _ | with_reducible refine Below.alloc ?_ ?_ _ | with_reducible refine Below.setCell ?_ ?_ _))
              case measure => simp [intOf]; omega
            | some p =>
              have HY2 := Lib.hid (HY.out p hv)
              have HA : Hid (∀ (w : World), ListC w LA l → Calls Tryd.prog 27 #[.slice LA l.length lc, .agg #[.int .i64 x, .int .i64 y]] w fun e w' => e = .returned (.tuple #[.agg #[.int .i64 p.1, .int .i64 p.2], .bool true]) ∧ Below w.heap.size w w') := Lib.hid fun w hc => by
                have := HA.out w hc
                rw [hv] at this
                exact this
              clear HN HY hv
              obtain ⟨pn, pf⟩ := p
              dsimp only at HA
              go_wp2_with fail
              refine (HA.out _ hlc).mono ?_; rintro e w2 ⟨rfl, b2⟩
              have HO2 := Lib.hid (own_below HO.out b2)
              have hb2 := hbel.trans (b2.mono zs)
              have HF : Hid (∀ wf v', wf.ownsRow w.heap.size 53 2 v' ((X ++ fmT l C k).length + 1) (cells2 (X ++ fmT l C k) ++ [.int .i64 pn, .int .i64 pf]) → (∃ w3, Below w2.heap.size w2 w3 ∧ w2.heap.size ≤ w3.heap.size ∧ w3.grownBy wf u5.ownBlock ∧ ∀ q, v'.ownBlock = some q → u5.ownBlock = some q ∨ w2.heap.size ≤ q) → ∃ k2 : Nat, k2 ≤ C.length ∧ Value.int .i64 ((k : Int) + 1) = .int .i64 (k2 : Int) ∧ OwnV w.heap.size wf v' (X ++ fmT l C k2) ∧ Hid (PlA wf v' (some ⟨g7, 0, none⟩) C) ∧ Below w.heap.size w wf) := Lib.hid fun wf v' ho ⟨w3, b3, z3, hg, hq⟩ => by
                refine ⟨k + 1, hlt2, by go_num, ?_, Lib.hid fun j hj => ?_, (hb2.trans (b3.mono hb2.size)).grown hg (by have := hb2.size; omega) (fun q hk => (HO2.out.lt q hk).1)⟩
                · unfold OwnV
                  rw [HY2.out, ← List.append_assoc, List.length_append, cells2_app]
                  exact ho
                · obtain ⟨g', e, h1, h2, h3⟩ := HP2.out j hj
                  have hgl : g' < w3.heap.size := Nat.lt_of_lt_of_le h1 (Nat.le_trans b2.size b3.size)
                  refine ⟨g', e, Nat.lt_of_lt_of_le hgl hg.size, fun e2 => ?_, ?_⟩
                  · rcases hq g' e2 with h4 | h4
                    · exact h2 h4
                    · have := b2.size; omega
                  · have hat := at2_below h3 (b2.trans (b3.mono b2.size)) h1
                    intro a b c hi
                    obtain ⟨s1, s2⟩ := hat a b c hi
                    exact ⟨by rw [hg.cell_far _ hgl (fun e => h2 e.symm)]; exact s1, by rw [hg.cell_far _ hgl (fun e => h2 e.symm)]; exact s2⟩
              clear b2 a0 a1 HP2
              have z2 : w.heap.size ≤ w2.heap.size := hb2.size
              have hlen2 : (X ++ fmT l C k).length + 1 ≤ 2000000000 := by rw [List.length_append]; omega
              go_wp2_with (at_builtin; refine of_stop ?_)
              refine stop_of ?_
              refine wpList_append_lies _ rfl _ _ 113 rfl w.heap.size 53 i0 (.agg #[.int .i64 0, .int .i64 0]) 2 16 Tryd.underlying113 HI0.out HZ0.out HZ1.out HZ2.out rfl (by decide) _ _ _ rfl ((HO2.out.alloc _).alloc _)
                       ⟨w2.heap.size + 1, 0, none⟩ 1 1 [.int .i64 pn, .int .i64 pf] rfl rfl (new2_at w2 _ pn pf) (new2_one pn pf) (by decide) (by unfold maxLen; omega) (by omega) (by simp; omega) (w2.heap.size + 1 + 1) (by simp) ?_
              intro gq cq w4 hown4 hg4 hat4 _
              have hob : ∀ q, (Value.slice (some ⟨gq, 0, none⟩) ((X ++ fmT l C k).length + 1) cq).ownBlock = some q → u5.ownBlock = some q ∨ w2.heap.size ≤ q := fun q hq => by
                have e : gq = q := by simpa [Value.ownBlock] using hq
                subst e
                rcases hat4 with h | h
                · exact .inl h
                · right; omega
              have HR := Lib.hid (HF.out w4 _ hown4 ⟨_, ((Below.refl _ _).alloc (Nat.le_refl _) _).alloc (by simp) _, by simp; omega, hg4, hob⟩)
              clear HF HO2 hown4 hg4 hat4 hob
              go_wp2_with fail
              go_roundw
              case rel => have hr := HR.out; rwa [List.length_append] at hr
              case measure => simp [intOf]; omega
          · have hkk : k = C.length := by omega
            subst hkk
            have hown5 : OwnV w.heap.size wr u5 (itL l (t.kids.take (i + 1))) := by
              rw [HT.out]; exact HO.out
            clear HO
            go_wp2_with fail
            go_roundw
            case rel => exact ⟨i + 1, by omega, by go_num, hown5, hbel⟩
            case measure => simp [intOf]; omega
      · have d6 : (u.kind != 6) = true := by simpa using h6
        have HT := Lib.hid (HT1.out h6)
        clear HT1 HT2 h6
        generalize cmT l u = cu at *
        generalize hX : itL l (t.kids.take i) = X at *
        go_wp2_with fail
        refine Calls.mono HCo.out ?_; rintro e w1 ⟨rfl, b1⟩
        have HO1 := Lib.hid (own_below HO.out b1)
        have zs1 := b1.size
        have hb1 := hbel.trans (b1.mono zs)
        clear b1 q0 q1 q2 q3 q4 q5 q6 q7
        go_wp2_with (at_builtin
                     refine wpList_append_own _ rfl _ _ 113 rfl w.heap.size 53 i0 (.agg #[.int .i64 0, .int .i64 0]) 2 16 Tryd.underlying113 HI0.out HZ0.out HZ1.out HZ2.out rfl (by decide) _ _ _ rfl (HO1.out.alloc _)
                       ⟨w1.heap.size, 0, none⟩ 1 1 [.int .i64 cu.1, .int .i64 cu.2] rfl rfl ?c1 ?c2 ?c3 ?c4 ?c5 ?_)
        case c1 =>
          intro j x hj
          match j, hj with
          | 0, hj => simp at hj; subst hj; simp [Addr.add]
          | 1, hj => simp at hj; subst hj; simp [Addr.add]
        case c2 => intro x hx; simp at hx; rcases hx with rfl | rfl <;> rfl
        case c3 => unfold maxLen; omega
        case c4 => omega
        case c5 => simp; omega
        intro v' w4 hown4 hg4 _
        have hown5 : OwnV w.heap.size w4 v' (itL l (t.kids.take (i + 1))) := by
          unfold OwnV
          rw [HT.out, List.length_append, cells2_app]
          exact hown4
        have hb4 : Below w.heap.size w w4 := (hb1.alloc hb1.size _).grown hg4 (by simp; omega) (fun k hk => (HO1.out.lt k hk).1)
        clear hown4 hg4
        go_wp2_with fail
        go_roundw
        case rel => exact ⟨i + 1, by omega, by go_num, hown5, hb4⟩
        case measure => simp [intOf]; omega
    · have hii : i = t.kids.length := by omega
      subst hii
      go_wp2_with fail
      go_ret
      exact ⟨_, rfl, by have := HO.out; rwa [List.take_length] at this, hbel⟩
end Go.Proofs.YthaoalmhhgllmaaDoor
namespace Go.Proofs.YthaoalmhhgllmaaDoor
open Go.RowKit
theorem do_num {l : List UInt8} {n f m g : Int} {p : Int × Int} (h : vOp l n m = some p) : doNum l n f m g = bothN p f g ∧ doFault l n f m g = bothF p f g ∧ (vOp l n m).isSome = true := by
  unfold doNum doFault bothN bothF
  rw [h]
  exact ⟨rfl, by simp [oFault], rfl⟩
end Go.Proofs.YthaoalmhhgllmaaDoor
