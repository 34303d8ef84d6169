/- Texts joined: NdC, NdFk, NdF, NdGk, NdG, NdH, OwB. -/
import Derived.Test.YtjgadggehpmdkaaGreatDoorTj01
import Derived.Deep.RegionWith
import Derived.StillTactics
import Derived.Deep.QuietTactic
import Derived.BigQuiet
import Derived.Deep.RegionHeld3
import Derived.OwnWalk
import Derived.Deep.Onto
set_option linter.all false
namespace Go.Proofs.YtjgadggehpmdkaaGreatDoor
def pick (n : Nd) (b : Bool) : Option Nd := if b then some n else none
def stOf (nds : List Nd) (bs : List Bool) : Sh := (List.zipWith pick nds bs).drop 1
theorem st_at {nds : List Nd} {bs : List Bool} (i : Nat) {n : Nd} {b : Bool} (hn : nds[i + 1]? = some n) (hb : bs[i + 1]? = some b) : (stOf nds bs)[i]? = some (pick n b) := by
  unfold stOf
  rw [List.getElem?_drop, Nat.add_comm 1 i, List.getElem?_zipWith, hn, hb]
theorem st_len {nds : List Nd} {bs : List Bool} (hl : nds.length = bs.length) : (stOf nds bs).length = bs.length - 1 := by
  unfold stOf
  rw [List.length_drop, List.length_zipWith, hl, Nat.min_self]
theorem st_ext {nds nds' : List Nd} {bs : List Bool} (hl : nds.length = bs.length) (hl' : nds'.length = bs.length) (h : ∀ j : Nat, bs[j]? = some true → nds'[j]? = nds[j]?) : stOf nds' bs = stOf nds bs := by
  apply List.ext_getElem?
  intro i
  by_cases hi : i + 1 < bs.length
  · have h1 := List.getElem?_eq_getElem (l := bs) hi
    have h2 := List.getElem?_eq_getElem (l := nds) (i := i + 1) (by omega)
    have h3 := List.getElem?_eq_getElem (l := nds') (i := i + 1) (by omega)
    rw [st_at i h2 h1, st_at i h3 h1]
    cases hb : bs[i + 1] with
    | false => rfl
    | true =>
      have := h (i + 1) (by rw [h1, hb])
      rw [h2, h3] at this
      rw [Option.some.inj this]
  · rw [List.getElem?_eq_none_iff.2 (by rw [st_len hl']; omega), List.getElem?_eq_none_iff.2 (by rw [st_len hl]; omega)]
theorem st_set (nds : List Nd) (bs : List Bool) (hl : nds.length = bs.length) (i : Nat) (hi : i + 1 < bs.length) (x : Nd) : stOf (nds.set (i + 1) x) (bs.set (i + 1) true) = (stOf nds bs).set i (some x) := by
  apply List.ext_getElem?
  intro j
  by_cases hj : j + 1 < bs.length
  · by_cases e : i = j
    · subst e
      rw [st_at i (n := x) (b := true) (by rw [List.getElem?_set_self (by omega)]) (by rw [List.getElem?_set_self (by omega)]), List.getElem?_set_self (by rw [st_len hl]; omega)]; rfl
    · have h1 := List.getElem?_eq_getElem (l := bs) hj
      have h2 := List.getElem?_eq_getElem (l := nds) (i := j + 1) (by omega)
      rw [st_at j (n := nds[j + 1]) (b := bs[j + 1]) (by rw [List.getElem?_set_ne (by omega)]; exact h2) (by rw [List.getElem?_set_ne (by omega)]; exact h1), List.getElem?_set_ne e, st_at j h2 h1]
  · rw [List.getElem?_eq_none_iff.2 (by rw [st_len (by simpa using hl), List.length_set]; omega), List.getElem?_eq_none_iff.2 (by rw [List.length_set, st_len hl]; omega)]
theorem st_snoc (nds : List Nd) (bs : List Bool) (hl : nds.length = bs.length) (h1 : 1 ≤ bs.length) (d : Nd) : stOf (nds ++ [d]) (bs ++ [false]) = stOf nds bs ++ [none] := by
  unfold stOf
  rw [List.zipWith_append hl]
  simp only [List.zipWith_cons_cons, List.zipWith_nil_left]
  rw [List.drop_append_of_le_length (by rw [List.length_zipWith]; omega)]
  rfl
def tru : Int → List Bool → List Int
  | _, [] => []
  | k, true :: l => k :: tru (k + 1) l
  | k, false :: l => tru (k + 1) l
theorem tru_snoc : ∀ (l : List Bool) (k : Int) (b : Bool), tru k (l ++ [b]) = tru k l ++ (if b then [k + l.length] else [])
  | [], k, b => by cases b <;> simp [tru]
  | true :: l, k, b => by
    rw [List.cons_append, tru, tru, tru_snoc l (k + 1) b, show k + 1 + (l.length : Int) = k + ((true :: l).length : Int) by simp; omega]; rfl
  | false :: l, k, b => by
    rw [List.cons_append, tru, tru, tru_snoc l (k + 1) b, show k + 1 + (l.length : Int) = k + ((false :: l).length : Int) by simp; omega]
theorem tru_take {l : List Bool} {i : Nat} {b : Bool} (h : l[i]? = some b) (k : Int) : tru k (l.take (i + 1)) = tru k (l.take i) ++ (if b then [k + i] else []) := by
  obtain ⟨hl, hb⟩ := List.getElem?_eq_some_iff.1 h
  rw [List.take_add_one, h]
  show tru k (l.take i ++ [b]) = _
  rw [tru_snoc, List.length_take, Nat.min_eq_left (by omega)]
theorem tru_len : ∀ (l : List Bool) (k : Int), (tru k l).length ≤ l.length
  | [], _ => Nat.le_refl _
  | true :: l, k => by rw [tru]; have := tru_len l (k + 1); simp; omega
  | false :: l, k => by rw [tru]; have := tru_len l (k + 1); simp; omega
theorem liveF_tru : ∀ (s : Sh) (k : Int), liveF k s = tru k (s.map Option.isSome)
  | [], _ => rfl
  | none :: s, k => by rw [liveF, liveF_tru s]; rfl
  | some _ :: s, k => by rw [liveF, liveF_tru s]; rfl
theorem st_is {nds : List Nd} {bs : List Bool} (hl : nds.length = bs.length) : (stOf nds bs).map Option.isSome = bs.drop 1 := by
  apply List.ext_getElem?
  intro i
  by_cases hi : i + 1 < bs.length
  · have h1 := List.getElem?_eq_getElem (l := bs) hi
    have h2 := List.getElem?_eq_getElem (l := nds) (i := i + 1) (by omega)
    rw [List.getElem?_map, st_at i h2 h1, List.getElem?_drop, Nat.add_comm 1 i, h1]
    cases bs[i + 1] <;> rfl
  · rw [List.getElem?_eq_none_iff.2 (by rw [List.length_map, st_len hl]; omega), List.getElem?_eq_none_iff.2 (by rw [List.length_drop]; omega)]
theorem st_liveA {nds : List Nd} {bs : List Bool} (hl : nds.length = bs.length) : liveA (stOf nds bs) = tru 1 (bs.drop 1) := by
  unfold liveA; rw [liveF_tru, st_is hl]
theorem st_ndAt {nds : List Nd} {bs : List Bool} (hl : nds.length = bs.length) (h : Nat) (h1 : 1 ≤ h) : ndAt (stOf nds bs) (h : Int) = if bs[h]? = some true then nds[h]? else none := by
  obtain ⟨i, rfl⟩ : ∃ i, h = i + 1 := ⟨h - 1, by omega⟩
  rw [show ((i + 1 : Nat) : Int) = (i : Int) + 1 by omega, ndAt_succ]
  by_cases hi : i + 1 < bs.length
  · have e1 := List.getElem?_eq_getElem (l := bs) hi
    have e2 := List.getElem?_eq_getElem (l := nds) (i := i + 1) (by omega)
    rw [st_at i e2 e1, e1, e2]
    cases bs[i + 1] <;> rfl
  · rw [List.getElem?_eq_none_iff.2 (by rw [st_len hl]; omega), if_neg (by rw [List.getElem?_eq_none_iff.2 (by omega)]; simp)]; rfl
theorem st_live {nds : List Nd} {bs : List Bool} (hl : nds.length = bs.length) (h : Nat) (h1 : 1 ≤ h) : live (stOf nds bs) (h : Int) = true ↔ bs[h]? = some true := by
  unfold live
  rw [st_ndAt hl h h1]
  by_cases e : bs[h]? = some true
  · rw [if_pos e]
    have := (List.getElem?_eq_some_iff.1 e).1
    rw [List.getElem?_eq_getElem (by omega)]
    exact ⟨fun _ => e, fun _ => rfl⟩
  · rw [if_neg e]; exact ⟨fun h => (Bool.false_ne_true h).elim, fun h => absurd h e⟩
theorem st_live' {nds : List Nd} {bs : List Bool} (hl : nds.length = bs.length) (r : Int) : live (stOf nds bs) r = (decide (1 ≤ r) && (decide (r < bs.length) && (bs[r.toNat]?).getD false)) := by
  by_cases h1 : 1 ≤ r
  · obtain ⟨h, rfl⟩ : ∃ h : Nat, r = (h : Int) := ⟨r.toNat, by omega⟩
    rw [Bool.eq_iff_iff, st_live hl h (by omega)]
    by_cases h2 : h < bs.length
    · rw [List.getElem?_eq_getElem h2]; simp [h1, h2]
    · rw [List.getElem?_eq_none_iff.2 (by omega)]; simp [h2]
  · rw [Bool.eq_false_iff.2 fun h => h1 (live_bound h).1, decide_eq_false h1]; rfl
theorem st_left {room : Nat} {nds : List Nd} {bs js : List Bool} (hl : nds.length = bs.length) (hj : js.length = bs.length) {roots : List Int} (hi : Inv room (stOf nds bs)) (h : ∀ i : Nat, 1 ≤ i → (js[i]? = some true ↔ Rch (stOf nds bs) roots (i : Int))) : stOf nds js = leftA (stOf nds bs) roots := by
  refine sh_ext (by unfold leftA; rw [leftF_len, st_len (by omega), st_len hl, hj]) fun x => ?_
  rw [left_at]
  by_cases h1 : 1 ≤ x
  · obtain ⟨k, rfl⟩ : ∃ k : Nat, x = (k : Int) := ⟨x.toNat, by omega⟩
    have hk : 1 ≤ k := by omega
    rw [st_ndAt (by omega) k hk, st_ndAt hl k hk]
    by_cases e : Rch (stOf nds bs) roots (k : Int)
    · have hlv := (st_live hl k hk).1 (rch_live hi e)
      rw [if_pos ((h k hk).2 e), if_pos e, if_pos hlv]
    · rw [if_neg (fun h' => e ((h k hk).1 h')), if_neg e]
  · unfold ndAt
    simp [show ¬ (0 < x) by omega]
theorem st_reach {room : Nat} {nds : List Nd} {bs js : List Bool} (hl : nds.length = bs.length) (hj : js.length = bs.length) {roots : List Int} (hi : Inv room (stOf nds bs)) (h : ∀ i : Nat, 1 ≤ i → (js[i]? = some true ↔ Rch (stOf nds bs) roots (i : Int))) : reachA (stOf nds bs) roots = tru 1 (js.drop 1) := by
  unfold reachA
  rw [← st_left hl hj hi h, st_liveA (by omega)]
theorem rch_marks {nds : List Nd} {bs ins : List Bool} (hl : nds.length = bs.length) {roots : List Int} (hs : ∀ i : Nat, 1 ≤ i → ins[i]? = some true → Rch (stOf nds bs) roots (i : Int))
    (hr : ∀ r ∈ roots, live (stOf nds bs) r = true → ins[r.toNat]? = some true) (hc : ∀ (i : Nat) (n : Nd), 1 ≤ i → ins[i]? = some true → nds[i]? = some n → ∀ r ∈ n.refs, 0 < r → ins[r.toNat]? = some true) :
    ∀ i : Nat, 1 ≤ i → (ins[i]? = some true ↔ Rch (stOf nds bs) roots (i : Int)) := by
  have key : ∀ h : Int, Rch (stOf nds bs) roots h → 1 ≤ h ∧ ins[h.toNat]? = some true := by
    intro h e
    induction e with
    | root r hm hlv => exact ⟨(live_bound hlv).1, hr r hm hlv⟩
    | ref h r n _ hn hm hp ih =>
      refine ⟨hp, hc h.toNat n (by omega) ih.2 ?_ r hm hp⟩
      have e : ((h.toNat : Nat) : Int) = h := by omega
      rw [← e, st_ndAt hl h.toNat (by omega)] at hn
      split at hn
      · exact hn
      · cases hn
  intro i h1
  exact ⟨hs i h1, fun e => by simpa using (key _ e).2⟩
def fls (l : List Bool) : Nat := (l.filter (fun b => !b)).length
theorem fls_set : ∀ (l : List Bool) (i : Nat), l[i]? = some false → fls (l.set i true) + 1 = fls l
  | [], i, h => by simp at h
  | b :: l, 0, h => by
    cases (show b = false by simpa using h)
    simp [fls]
  | b :: l, i + 1, h => by
    have ih := fls_set l i (by simpa using h)
    unfold fls at ih ⊢
    cases b <;> simp at ih ⊢ <;> omega
theorem okRef_not (s : Sh) (i : Nat) (r : Int) : okRef s i r = !((decide (0 < r) && !live s r) || decide (r < -(i : Int))) := by
  unfold okRef
  by_cases h0 : 0 < r
  · have e1 : decide (r = 0) = false := decide_eq_false (by omega)
    have e2 : decide (r < 0) = false := decide_eq_false (by omega)
    have e3 : decide (r < -(i : Int)) = false := decide_eq_false (by omega)
    have e4 : decide (0 < r) = true := decide_eq_true h0
    rw [e1, e2, e3, e4]
    cases live s r <;> rfl
  · have e4 : decide (0 < r) = false := decide_eq_false h0
    have hl : live s r = false := Bool.eq_false_iff.2 fun h => by have := (live_bound h).1; omega
    rw [hl, e4]
    by_cases hz : r = 0
    · subst hz
      have e3 : decide ((0 : Int) < -(i : Int)) = false := decide_eq_false (by omega)
      rw [e3]; rfl
    · have e1 : decide (r = 0) = false := decide_eq_false hz
      have e2 : decide (r < 0) = true := decide_eq_true (by omega)
      rw [e1, e2]
      by_cases h3 : r < -(i : Int)
      · rw [decide_eq_true h3, decide_eq_false (show ¬ (-(i : Int) ≤ r) by omega)]; rfl
      · rw [decide_eq_false h3, decide_eq_true (show -(i : Int) ≤ r by omega)]; rfl
end Go.Proofs.YtjgadggehpmdkaaGreatDoor
namespace Go.Proofs.YtjgadggehpmdkaaGreatDoor
open Go.RowKit
theorem RowI.at {w : World} {P : Nat → Prop} {A : Option Addr} {l : List Int} (h : RowI w P A l) {i : Nat} (hi : i < l.length) : ∃ g o, A = some ⟨g, o, none⟩ ∧ P g ∧ g < w.heap.size ∧ ∀ (i : Nat) (x : Int), l[i]? = some x → w.cell? ⟨g, o + i, none⟩ = some (.int .i64 x) := by
  rcases h with rfl | h
  · simp at hi
  · exact h
end Go.Proofs.YtjgadggehpmdkaaGreatDoor
namespace Go.Proofs.YtjgadggehpmdkaaGreatDoor
open Go.RowKit
theorem takes_next {α : Type} {a b : List α} {i : Nat} {x y : α} (ha : a[i]? = some x) (hb : b[i]? = some y) (h : a.take i = b.take i) (e : x = y) : a.take (i + 1) = b.take (i + 1) := by
  rw [List.take_add_one, List.take_add_one, ha, hb, h, e]
theorem takes_no {α : Type} {a b : List α} {i : Nat} {x y : α} (ha : a[i]? = some x) (hb : b[i]? = some y) (e : x ≠ y) : a ≠ b := fun h => by
  rw [h, hb] at ha; exact e (Option.some.inj ha).symm
set_option maxHeartbeats 2000000 in
set_option maxRecDepth 10000 in
theorem rInts_any (a b : List Int) (A B : Option Addr) (ca cb : Nat) (w : World) (P Q : Nat → Prop) (hA : RowI w P A a) (hB : RowI w Q B b) (hla : a.length ≤ maxLen) :
    Calls Tryz.prog 79 #[.slice A a.length ca, .slice B b.length cb] w fun e w' => e = .returned (.bool (decide (a = b))) ∧ Below w.heap.size w w' := by
  have HA := Lib.hid hA
  have HB := Lib.hid hB
  unfold maxLen at hla
  clear hA hB
  by_cases hl : a.length = b.length
  · have HLL := Lib.hid hl
    have hd : ((a.length : Int) != (b.length : Int)) = false := by rw [hl]; simp
    clear hl
    go_enter Tryz.func79, Tryz.ntmps79
    go_wp2_with fail
    go_loopw [5] (fun vi wr => ∃ i : Nat, i ≤ a.length ∧ vi = .int .i64 (i : Int) ∧ Hid (a.take i = b.take i) ∧ Below w.heap.size w wr) (fun vi _ => a.length - (RowKit.intOf vi).toNat)
    case atStart => exact ⟨0, Nat.zero_le _, rfl, Lib.hid rfl, Below.refl _ _⟩
    case round =>
      obtain ⟨i, hi, rfl, HT, hb⟩ := hrel
      by_cases hlt : i < a.length
      · have hlt2 : i < b.length := HLL.out ▸ hlt
        obtain ⟨g, o, rfl, _, _, hca⟩ := HA.out.at hlt
        obtain ⟨g2, o2, rfl, _, _, hcb⟩ := HB.out.at hlt2
        obtain ⟨x, hx⟩ : ∃ x, a[i]? = some x := ⟨_, List.getElem?_eq_getElem hlt⟩
        obtain ⟨y, hy⟩ : ∃ y, b[i]? = some y := ⟨_, List.getElem?_eq_getElem hlt2⟩
        have q0 := keep_cell hb (hca i x hx)
        have q1 := keep_cell hb (hcb i y hy)
        by_cases hxy : x = y
        · have HN := Lib.hid (takes_next hx hy HT.out hxy)
          subst hxy
          clear hx hy hca hcb
          go_wp2_with fail
          try go_quiet (fail)
          try go_wp2_with fail
          go_roundw
          case rel => exact ⟨i + 1, by omega, by go_num, HN, by first | exact hb | exact below_drewN hb _⟩
          case measure => simp [RowKit.intOf]; omega
        · have HN := Lib.hid (takes_no hx hy hxy)
          have hd2 : (x != y) = true := by simpa using hxy
          clear hx hy hca hcb
          go_wp2_with fail
          try go_quiet (fail)
          try go_wp2_with fail
          go_ret
          exact ⟨by rw [decide_eq_false HN.out]; rfl, by first | exact hb | exact below_drewN hb _⟩
      · have hii : i = a.length := by omega
        subst hii
        have hz := HT.out
        rw [List.take_length, HLL.out, List.take_length] at hz
        have HZ := Lib.hid hz
        clear hz
        go_wp2_with fail
        go_ret
        exact ⟨by rw [decide_eq_true HZ.out]; rfl, hb⟩
  · have hd : ((a.length : Int) != (b.length : Int)) = true := by simp; omega
    have HN : Hid (a ≠ b) := Lib.hid fun h => hl (by rw [h])
    clear hl
    go_enter Tryz.func79, Tryz.ntmps79
    go_wp2_with fail
    go_ret
    exact ⟨by rw [decide_eq_false HN.out]; rfl, Below.refl _ _⟩

theorem same_yes {x y : Nd} (h0 : x.kind = y.kind) (h1 : x.text = y.text) (h2 : x.refs = y.refs) (h3 : x.nums = y.nums) : x = y := by
  cases x; cases y; simp only at h0 h1 h2 h3; subst h0 h1 h2 h3; rfl
theorem same_dec (x y : Nd) : decide (x = y) = ((x.kind == y.kind) && (x.text == y.text) && decide (x.refs = y.refs) && decide (x.nums = y.nums)) := by
  rw [Bool.eq_iff_iff]
  simp only [decide_eq_true_eq, Bool.and_eq_true, beq_iff_eq]
  exact ⟨fun h => by subst h; exact ⟨⟨⟨rfl, rfl⟩, rfl⟩, rfl⟩, fun ⟨⟨⟨h0, h1⟩, h2⟩, h3⟩ => same_yes h0 h1 h2 h3⟩
set_option maxHeartbeats 4000000 in
set_option maxRecDepth 10000 in
theorem rndsame_any (x y : Nd) (A B C D : Option Addr) (ca cb cc cd : Nat) (w : World) (P Q : Nat → Prop) (hA : RowI w P A x.refs) (hB : RowI w P B x.nums) (hC : RowI w Q C y.refs) (hD : RowI w Q D y.nums)
    (h1 : x.refs.length ≤ maxLen) (h2 : x.nums.length ≤ maxLen) :
    Calls Tryz.prog 71 #[ndV x A ca B cb, ndV y C cc D cd] w fun e w' => e = .returned (.bool (decide (x = y))) ∧ Below w.heap.size w w' := by
  have HI1 := Lib.hid (fun w' (hb : Below w.heap.size w w') => rInts_any x.refs y.refs A C ca cc w' P Q (hA.below hb) (hC.below hb) h1)
  have HI2 := Lib.hid (fun w' (hb : Below w.heap.size w w') => rInts_any x.nums y.nums B D cb cd w' P Q (hB.below hb) (hD.below hb) h2)
  have HD := Lib.hid (same_dec x y)
  have hK := Lib.hid (Eq.refl (x.kind == y.kind))
  clear hA hB hC hD h1 h2
  unfold ndV
  have hb0 : Below w.heap.size w ((w.alloc (.cells #[.int .i64 x.kind, .slice A x.refs.length ca, .slice B x.nums.length cb, .string ⟨x.text.toArray⟩] 102)).alloc (.cells #[.int .i64 y.kind, .slice C y.refs.length cc, .slice D y.nums.length cd, .string ⟨y.text.toArray⟩] 102)) := ((Below.refl _ _).alloc (Nat.le_refl _) _).alloc (by simp) _
  generalize decide (x = y) = DD at *
  generalize decide (x.refs = y.refs) = R at *
  generalize decide (x.nums = y.nums) = N at *
  have HB0 := Lib.hid hb0
  clear hb0
  cases hk : x.kind == y.kind
  · rw [hk] at HD
    go_enter Tryz.func71, Tryz.ntmps71
    go_wp2_with fail
    go_ret
    exact ⟨by rw [HD.out]; rfl, HB0.out⟩
  · cases ht : x.text == y.text
    · rw [hk, ht] at HD
      go_enter Tryz.func71, Tryz.ntmps71
      go_wp2_with fail
      go_ret
      exact ⟨by rw [HD.out]; rfl, HB0.out⟩
    · rw [hk, ht] at HD
      cases R with
      | false =>
        go_enter Tryz.func71, Tryz.ntmps71
        go_wp2_with fail
        refine (HI1.out _ HB0.out).mono ?_; rintro e w1 ⟨rfl, b1⟩
        have HB1 := Lib.hid (HB0.out.trans (b1.mono (by simp; omega)))
        clear b1
        go_wp2_with fail
        go_ret
        exact ⟨by rw [HD.out]; rfl, HB1.out⟩
      | true =>
        go_enter Tryz.func71, Tryz.ntmps71
        go_wp2_with fail
        refine (HI1.out _ HB0.out).mono ?_; rintro e w1 ⟨rfl, b1⟩
        have HB1 := Lib.hid (HB0.out.trans (b1.mono (by simp; omega)))
        have p0 : w1.cell? ⟨w.heap.size, 2, none⟩ = some (.slice B x.nums.length cb) := by rw [b1.cell (by simp; omega)]; simp [go_sem]
        have p1 : w1.cell? ⟨w.heap.size + 1, 2, none⟩ = some (.slice D y.nums.length cd) := by rw [b1.cell (by simp)]; simp [go_sem]
        clear b1
        go_wp2_with fail
        refine (HI2.out _ HB1.out).mono ?_; rintro e w2 ⟨rfl, b2⟩
        have HB2 := Lib.hid (HB1.out.trans (b2.mono (HB1.out.size)))
        clear b2
        go_wp2_with fail
        go_ret
        exact ⟨by rw [HD.out]; rfl, HB2.out⟩
end Go.Proofs.YtjgadggehpmdkaaGreatDoor
namespace Go.Proofs.YtjgadggehpmdkaaGreatDoor
open Go.RowKit
theorem Kept.frozen {w w' : World} {P : Nat → Prop} (h : Kept w w' P) {p : Addr} (hp : P p.block) (hl : p.block < w.heap.size) (hv : w.frozen? p = false) : w'.frozen? p = false := by
  rw [World.frozen?_of_block (w := w) (h.block p.block hp hl)]; exact hv
end Go.Proofs.YtjgadggehpmdkaaGreatDoor
namespace Go.Proofs.YtjgadggehpmdkaaGreatDoor
open Go.RowKit
structure RM (w : World) (P : Nat → Prop) (m gN cN gB cB room : Nat) (nds : List Nd) (bs : List Bool) : Prop where
  c0 : w.cell? ⟨m, 0, none⟩ = some (.int .i64 (room : Int))
  c1 : w.cell? ⟨m, 1, none⟩ = some (.slice (some ⟨gN, 0, none⟩) nds.length cN)
  c2 : w.cell? ⟨m, 2, none⟩ = some (.slice (some ⟨gB, 0, none⟩) bs.length cB)
  fM : ∀ j, w.frozen? ⟨m, j, none⟩ = false
  fN : ∀ j, w.frozen? ⟨gN, j, none⟩ = false
  fB : ∀ j, w.frozen? ⟨gB, j, none⟩ = false
  pM : P m
  pN : P gN
  pB : P gB
  nMN : m ≠ gN
  nMB : m ≠ gB
  nNB : gN ≠ gB
  lN : gN < w.heap.size
  lB : gB < w.heap.size
  rows : ∀ (i : Nat) (n : Nd), nds[i]? = some n → ∃ B cb C cc, At4 w gN (i * 4) n B cb C cc ∧ RowI w (fun g => P g ∧ g ≠ m ∧ g ≠ gN ∧ g ≠ gB) B n.refs ∧ RowI w (fun g => P g ∧ g ≠ m ∧ g ≠ gN ∧ g ≠ gB) C n.nums
  bits : ∀ (i : Nat) (b : Bool), bs[i]? = some b → w.cell? ⟨gB, i, none⟩ = some (.bool b)
  len : nds.length = bs.length
  one : 1 ≤ bs.length
  cap : bs.length ≤ room + 1
  small : room ≤ 65536
  wide : ∀ n ∈ nds, n.refs.length ≤ 1000000 ∧ n.nums.length ≤ 1000000
  room' : nds.length ≤ cN
section
variable {w w' : World} {P : Nat → Prop} {m gN cN gB cB room : Nat} {nds : List Nd} {bs : List Bool}
theorem RM.lM (h : RM w P m gN cN gB cB room nds bs) : m < w.heap.size := Lib.lt_of_cell h.c0
theorem RM.kept (h : RM w P m gN cN gB cB room nds bs) (hk : Kept w w' P) : RM w' P m gN cN gB cB room nds bs where
  c0 := hk.cell h.pM h.c0
  c1 := hk.cell h.pM h.c1
  c2 := hk.cell h.pM h.c2
  fM := fun j => hk.frozen h.pM h.lM (h.fM j)
  fN := fun j => hk.frozen h.pN h.lN (h.fN j)
  fB := fun j => hk.frozen h.pB h.lB (h.fB j)
  pM := h.pM
  pN := h.pN
  pB := h.pB
  nMN := h.nMN
  nMB := h.nMB
  nNB := h.nNB
  lN := Nat.lt_of_lt_of_le h.lN hk.size
  lB := Nat.lt_of_lt_of_le h.lB hk.size
  rows := fun i n hi => by
    obtain ⟨B, cb, C, cc, h4, hr, hn⟩ := h.rows i n hi
    have hk' : Kept w w' (fun g => P g ∧ g ≠ m ∧ g ≠ gN ∧ g ≠ gB) := ⟨hk.size, fun g hg hl => hk.block g hg.1 hl⟩
    exact ⟨B, cb, C, cc, h4.kept hk h.pN, hr.kept hk', hn.kept hk'⟩
  bits := fun i b hi => hk.cell h.pB (h.bits i b hi)
  len := h.len
  one := h.one
  cap := h.cap
  small := h.small
  wide := h.wide
  room' := h.room'
theorem RM.below (h : RM w P m gN cN gB cB room nds bs) (hb : Below w.heap.size w w') : RM w' P m gN cN gB cB room nds bs := h.kept (Kept.of_below hb)
set_option maxHeartbeats 2000000 in
set_option maxRecDepth 10000 in
theorem rHas_any (h : RM w P m gN cN gB cB room nds bs) (r : Int) :
    Calls Tryz.prog 54 #[.pointer (some ⟨m, 0, none⟩), .int .i64 r] w fun e w' => e = .returned (.bool (live (stOf nds bs) r)) ∧ w' = w := by
  have HL := Lib.hid (st_live' h.len r)
  have c2 := h.c2
  have hcap := h.cap
  have hsm := h.small
  have HB := Lib.hid h.bits
  generalize live (stOf nds bs) r = V at *
  by_cases h1 : 1 ≤ r
  · have d1 : decide (1 ≤ r) = true := decide_eq_true h1
    by_cases h2 : r < bs.length
    · have d2 : decide (r < (bs.length : Int)) = true := decide_eq_true h2
      obtain ⟨i, rfl⟩ : ∃ i : Nat, r = (i : Int) := ⟨r.toNat, by omega⟩
      have hi : i < bs.length := by omega
      obtain ⟨b, hb⟩ : ∃ b, bs[i]? = some b := ⟨_, List.getElem?_eq_getElem hi⟩
      have q0 := HB.out i b hb
      have hv := HL.out
      rw [d1, d2, show ((i : Int)).toNat = i by omega, hb] at hv
      have HV : Hid (V = b) := Lib.hid hv
      clear hv hb h
      go_enter Tryz.func54, Tryz.ntmps54
      go_wp2_with fail
      go_ret
      exact ⟨by rw [HV.out]; rfl, rfl⟩
    · have d2 : decide (r < (bs.length : Int)) = false := decide_eq_false h2
      have hv := HL.out
      rw [d1, d2] at hv
      have HV : Hid (V = false) := Lib.hid hv
      clear hv h
      go_enter Tryz.func54, Tryz.ntmps54
      go_wp2_with fail
      go_ret
      exact ⟨by rw [HV.out]; rfl, rfl⟩
  · have d1 : decide (1 ≤ r) = false := decide_eq_false h1
    have hv := HL.out
    rw [d1] at hv
    have HV : Hid (V = false) := Lib.hid hv
    clear hv h
    go_enter Tryz.func54, Tryz.ntmps54
    go_wp2_with fail
    go_ret
    exact ⟨by rw [HV.out]; rfl, rfl⟩
end
end Go.Proofs.YtjgadggehpmdkaaGreatDoor
namespace Go.Proofs.YtjgadggehpmdkaaGreatDoor
open Go.RowKit
theorem fnd_not {s : Sh} {x : Nd} {i : Nat} {o : Option Nd} (ho : s[i]? = some o) (h : ∀ j : Nat, j < i → s[j]? ≠ some (some x)) (hn : o ≠ some x) : ∀ j : Nat, j < i + 1 → s[j]? ≠ some (some x) := fun j hj e => by
  by_cases hji : j = i
  · subst hji; rw [ho] at e; exact hn (Option.some.inj e)
  · exact h j (by omega) e
theorem fnd_end {s : Sh} {x : Nd} (h : ∀ j : Nat, j < s.length → s[j]? ≠ some (some x)) : fnd s x = 0 := fnd_none fun j e => h j (List.getElem?_eq_some_iff.1 e).1 e
section
variable {w w' : World} {P : Nat → Prop} {m gN cN gB cB room : Nat} {nds : List Nd} {bs : List Bool}
set_option maxHeartbeats 4000000 in
set_option maxRecDepth 10000 in
theorem rFind_any (h : RM w P m gN cN gB cB room nds bs) (x : Nd) (Q : Nat → Prop) (A B : Option Addr) (ca cb : Nat) (hA : RowI w Q A x.refs) (hB : RowI w Q B x.nums) :
    Calls Tryz.prog 57 #[.pointer (some ⟨m, 0, none⟩), ndV x A ca B cb] w fun e w' => e = .returned (.int .i64 (fnd (stOf nds bs) x : Int)) ∧ Below w.heap.size w w' := by
  have HR := Lib.hid h
  have HA := Lib.hid hA
  have HB := Lib.hid hB
  have hcap := h.cap
  have hsm := h.small
  have hone := h.one
  have HLn := Lib.hid (st_len h.len)
  have hlen := Lib.hid h.len
  clear h hA hB
  unfold ndV
  go_enter Tryz.func57, Tryz.ntmps57
  go_wp2_with fail
  go_loopw [5, 6] (fun vi _ wr => ∃ i : Nat, i + 1 ≤ bs.length ∧ vi = .int .i64 ((i : Int) + 1) ∧ Hid (∀ j : Nat, j < i → (stOf nds bs)[j]? ≠ some (some x)) ∧ Below (w.heap.size + 1) (w.alloc (.cells #[.int .i64 x.kind, .slice A x.refs.length ca, .slice B x.nums.length cb, .string ⟨x.text.toArray⟩] 102)) wr) (fun vi _ _ => bs.length - (RowKit.intOf vi).toNat)
  case atStart => exact ⟨0, by omega, rfl, Lib.hid (fun j hj => absurd hj (by omega)), Below.refl _ _⟩
  case round =>
    obtain ⟨i, hi, rfl, HT, hb⟩ := hrel
    have p0 : wr.cell? ⟨w.heap.size, 0, none⟩ = some (.int .i64 x.kind) := by rw [hb.cell (by simp)]; simp [go_sem]
    have p1 : wr.cell? ⟨w.heap.size, 1, none⟩ = some (.slice A x.refs.length ca) := by rw [hb.cell (by simp)]; simp [go_sem]
    have p2 : wr.cell? ⟨w.heap.size, 2, none⟩ = some (.slice B x.nums.length cb) := by rw [hb.cell (by simp)]; simp [go_sem]
    have p3 : wr.cell? ⟨w.heap.size, 3, none⟩ = some (.string ⟨x.text.toArray⟩) := by rw [hb.cell (by simp)]; simp [go_sem]
    have b0 : Below w.heap.size w wr := ((Below.refl _ _).alloc (Nat.le_refl _) _).trans (hb.mono (by omega))
    have hr := HR.out.below b0
    have c1 := hr.c1
    have c2 := hr.c2
    by_cases hlt : i + 1 < bs.length
    · obtain ⟨b, hbb⟩ : ∃ b, bs[i + 1]? = some b := ⟨_, List.getElem?_eq_getElem hlt⟩
      obtain ⟨y, hy⟩ : ∃ y, nds[i + 1]? = some y := ⟨_, List.getElem?_eq_getElem (hlen.out ▸ hlt)⟩
      have q0 := hr.bits _ _ hbb
      have hst := Lib.hid (st_at i hy hbb)
      cases b with
      | false =>
        have HN := Lib.hid (fnd_not hst.out HT.out (fun e => by cases e))
        clear hbb hy hr
        go_wp2_with fail
        go_roundw
        case rel => exact ⟨i + 1, by omega, by go_num, HN, hb⟩
        case measure => simp [RowKit.intOf]; omega
      | true =>
        obtain ⟨C, cc, D, cd, ⟨r0, r1, r2, r3⟩, hC, hD⟩ := hr.rows _ _ hy
        have hw := hr.wide y (List.mem_of_getElem? hy)
        have HS := Lib.hid (rndsame_any y x C D A B cc cd ca cb wr.drew _ _ (hC.below (Below.drew (Below.refl _ _))) (hD.below (Below.drew (Below.refl _ _))) (HA.out.below (Below.drew b0)) (HB.out.below (Below.drew b0)) (by unfold maxLen; omega) (by unfold maxLen; omega))
        unfold ndV at HS
        have HY : Hid (y = x → (stOf nds bs)[i]? = some (some x)) := Lib.hid fun e => by rw [hst.out, e]; rfl
        have HNo : Hid (y ≠ x → ∀ j : Nat, j < i + 1 → (stOf nds bs)[j]? ≠ some (some x)) := Lib.hid fun e => fnd_not hst.out HT.out (fun e' => e (Option.some.inj e'))
        have HD := Lib.hid (Iff.rfl : y = x ↔ y = x)
        have hltN : i + 1 < nds.length := hlen.out ▸ hlt
        have hltI : (i : Int) + 1 < (nds.length : Int) := by omega
        have hltJ : (0 : Int) ≤ (i : Int) + 1 := by omega
        clear hbb hy hr hC hD hst
        go_wp2_with fail
        go_region_held3 (fun w' => w'.cell? ⟨m, 1, none⟩ = some (.slice (some ⟨gN, 0, none⟩) nds.length cN) ∧ w'.cell? ⟨gN, (i + 1) * 4, none⟩ = some (.int .i64 y.kind) ∧ w'.cell? ⟨gN, (i + 1) * 4 + 1, none⟩ = some (.slice C y.refs.length cc) ∧ w'.cell? ⟨gN, (i + 1) * 4 + 2, none⟩ = some (.slice D y.nums.length cd) ∧ w'.cell? ⟨gN, (i + 1) * 4 + 3, none⟩ = some (.string ⟨y.text.toArray⟩) ∧ w'.cell? ⟨w.heap.size, 0, none⟩ = some (.int .i64 x.kind) ∧ w'.cell? ⟨w.heap.size, 1, none⟩ = some (.slice A x.refs.length ca) ∧ w'.cell? ⟨w.heap.size, 2, none⟩ = some (.slice B x.nums.length cb) ∧ w'.cell? ⟨w.heap.size, 3, none⟩ = some (.string ⟨x.text.toArray⟩))
          (first | (simp only [World.cell?_drew]; with_reducible exact ⟨c1, r0, r1, r2, r3, p0, p1, p2, p3⟩) | with_reducible exact ⟨mc1, mr0, mr1, mr2, mr3, mp0, mp1, mp2, mp3⟩ | fail)
          (first
          | (go_at_call 71; refine HS.out.mono ?_; rintro e w1 ⟨rfl, b1'⟩
             have b1 : Below wr.heap.size wr w1 := (Below.refl _ wr).drew.trans b1'
             have mc1 := keep_cell b1 c1
             have mr0 := keep_cell b1 r0
             have mr1 := keep_cell b1 r1
             have mr2 := keep_cell b1 r2
             have mr3 := keep_cell b1 r3
             have mp0 := keep_cell b1 p0
             have mp1 := keep_cell b1 p1
             have mp2 := keep_cell b1 p2
             have mp3 := keep_cell b1 p3)
          | fail)
        have hb1 := hb.trans (b1.mono (by have := hb.size; simpa using this))
        clear b1 b1' r0 r1 r2 r3 p0 p1 p2 p3 c1 c2 mc1 mr0 mr1 mr2 mr3 mp0 mp1 mp2 mp3
        by_cases e : y = x
        · have HE : Hid (fnd (stOf nds bs) x = i + 1) := Lib.hid (fnd_at (HY.out e) HT.out)
          rw [decide_eq_true e]
          clear e
          go_wp2_with fail
          go_ret
          exact ⟨by rw [HE.out]; rfl, ((Below.refl _ _).alloc (Nat.le_refl _) _).trans (hb1.mono (by omega))⟩
        · have HN := Lib.hid (HNo.out e)
          rw [decide_eq_false e]
          clear e
          go_wp2_with fail
          go_roundw
          case rel => exact ⟨i + 1, by omega, by go_num, HN, hb1⟩
          case measure => simp [RowKit.intOf]; omega
    · have HZ : Hid (fnd (stOf nds bs) x = 0) := Lib.hid (fnd_end fun j hj => HT.out j (by rw [HLn.out] at hj; omega))
      clear hr
      go_wp2_with fail
      go_ret
      exact ⟨by rw [HZ.out]; rfl, b0⟩
end
end Go.Proofs.YtjgadggehpmdkaaGreatDoor
namespace Go.Proofs.YtjgadggehpmdkaaGreatDoor
open Go.RowKit
theorem grown_of_below {w w' : World} (h : Below w.heap.size w w') (row : Option Nat) : w.grownBy w' row := ⟨h.os, h.tape, h.output, h.size, fun i hi _ => h.block i hi⟩
theorem own_below {w w' : World} {base : Nat} {e : TypeId} {size : Nat} {v : Value} {n : Nat} {xs : List Value} (h : w.ownsRow base e size v n xs) (hb : Below w.heap.size w w') : w'.ownsRow base e size v n xs :=
  h.kept (grown_of_below hb none) (by cases v.ownBlock <;> simp)
def Stop (P : Prop) : Prop := P
theorem of_stop {P : Prop} (h : Stop P) : P := h
theorem stop_of {P : Prop} (h : P) : Stop P := h
end Go.Proofs.YtjgadggehpmdkaaGreatDoor
