/- Texts joined: TsC, TsD, NdKk, NdNm, NdOb, NdJm, NdIm, NdYk, TsE. -/
import Derived.Test.YtjgjacihdggimaaGreatDoorDk05
import Derived.Deep.QuietTactic
import Derived.BigQuiet
import Derived.Test.YtjgjacihdggimaaGreatDoorDk04
import Derived.Test.YtjgjacihdggimaaGreatDoorDk03
set_option linter.all false
namespace Go.Proofs.YtjgjacihdggimaaGreatDoor
open Go.RowKit
theorem one_next {x y : En} {r : List En} {i : Nat} (hy : r[i]? = some y) (h : oneH (x :: r.take i) = true) (e : hashK y.key = hashK x.key) : oneH (x :: r.take (i + 1)) = true := by
  show ((r.take (i + 1)).all fun y => decide (hashK y.key = hashK x.key)) = true
  have h : ((r.take i).all fun y => decide (hashK y.key = hashK x.key)) = true := h
  rw [List.take_add_one, hy, List.all_append, h]
  simp [e]
theorem one_not {x y : En} {r : List En} {i : Nat} (hy : r[i]? = some y) (e : hashK y.key ≠ hashK x.key) : oneH (x :: r) = false := by
  show (r.all fun y => decide (hashK y.key = hashK x.key)) = false
  exact List.all_eq_false.2 ⟨y, List.mem_of_getElem? hy, by simpa using e⟩
set_option maxHeartbeats 8000000 in
set_option maxRecDepth 10000 in
theorem rone1_any (x : En) (r : List En) (A : Option Addr) (ca : Nat) (w : World) {Q : Nat → Prop} (hl : RowE w Q A (x :: r)) (hll : (x :: r).length ≤ 1000000) :
    Calls Tryz.prog 55 #[.slice A (x :: r).length ca] w fun e w' => e = .returned (.bool (oneH (x :: r))) ∧ ∃ n, w' = w.drewN n := by
  obtain ⟨g, o, rfl, _, hgl, hat⟩ := hl.at (i := 0) (by simp)
  obtain ⟨q0, _⟩ := hat.two (i := 0) (x := x) rfl
  rw [Nat.zero_mul, Nat.add_zero] at q0
  have HAt := Lib.hid hat
  have HH := Lib.hid (fun k w => rhash_any k w)
  have HLn : Hid ((x :: r).length = r.length + 1) := Lib.hid (by simp)
  have hr : r.length + 1 ≤ 1000000 := by simpa using hll
  have hL0 : (0 : Int) < ((x :: r).length : Int) := by rw [HLn.out]; omega
  clear hat hl hll
  go_enter Tryz.func55, Tryz.ntmps55
  go_wp2_with fail
  go_loopw [3] (fun vi wr => ∃ i : Nat, i ≤ r.length ∧ vi = .int .i64 ((i : Int) + 1) ∧ Hid (oneH (x :: r.take i) = true) ∧ ∃ n, wr = w.drewN n) (fun vi _ => r.length + 1 - (RowKit.intOf vi).toNat)
  case atStart => exact ⟨0, Nat.zero_le _, rfl, Lib.hid (by rw [List.take_zero]; rfl), 0, rfl⟩
  case round =>
    obtain ⟨i, hi, rfl, HO, nd, rfl⟩ := hrel
    by_cases hlt : i < r.length
    · obtain ⟨y, hy⟩ : ∃ y, r[i]? = some y := ⟨_, List.getElem?_eq_getElem hlt⟩
      obtain ⟨q1, _⟩ := HAt.out.two (i := i + 1) (x := y) (by simpa using hy)
      have hI : (i : Int) + 1 < ((x :: r).length : Int) := by rw [HLn.out]; omega
      have hJ : (0 : Int) ≤ (i : Int) + 1 := by omega
      have HN := Lib.hid (one_next hy HO.out)
      have HF := Lib.hid (one_not (x := x) hy)
      clear hy
      generalize y.key = k1 at *
      generalize x.key = k0 at *
      by_cases e : hashK k1 = hashK k0
      · have d0 : (hashK k1 != hashK k0) = false := by simpa using e
        have HN2 := Lib.hid (HN.out e)
        clear e HF HN
        go_wp2_with fail
        go_region_law (first
          | (go_simp; go_at_call 73; refine (HH.out _ _).mono ?_; rintro e w1 ⟨rfl, rfl⟩)
          | fail)
        all_goals
          go_wp2_with fail
          go_roundw
          case rel => exact ⟨i + 1, by omega, by go_num, HN2, nd + 1, by first | rfl | (simp only [World.drewN]; done)⟩
          case measure => simp [RowKit.intOf]; omega
      · have d0 : (hashK k1 != hashK k0) = true := by simpa using e
        have HF2 := Lib.hid (HF.out e)
        clear e HF HN
        go_wp2_with fail
        go_region_law (first
          | (go_simp; go_at_call 73; refine (HH.out _ _).mono ?_; rintro e w1 ⟨rfl, rfl⟩)
          | fail)
        all_goals
          go_wp2_with fail
          go_ret
          exact ⟨by rw [HF2.out]; rfl, nd + 1, by first | rfl | (simp only [World.drewN]; done)⟩
    · have hii : i = r.length := by omega
      subst hii
      have hO := HO.out
      rw [List.take_length] at hO
      have HO2 := Lib.hid hO
      have hI : ¬ ((r.length : Int) + 1 < ((x :: r).length : Int)) := by rw [HLn.out]; omega
      have d1 : decide ((r.length : Int) + 1 < ((x :: r).length : Int)) = false := decide_eq_false hI
      clear hO
      go_wp2_with fail
      go_ret
      exact ⟨by rw [HO2.out]; rfl, nd, rfl⟩
theorem get_next {l : List En} {i : Nat} {x : En} {k : Int} (hx : l[i]? = some x) (e : x.key ≠ k) (h : ∀ y ∈ l.take i, y.key ≠ k) : ∀ y ∈ l.take (i + 1), y.key ≠ k := fun y hy => by
  rw [List.take_add_one, hx] at hy
  rcases List.mem_append.1 hy with q | q
  · exact h y q
  · obtain rfl : y = x := by simpa using q
    exact e
theorem get_at {l : List En} : ∀ {i : Nat} {x : En} {k : Int}, l[i]? = some x → x.key = k → (∀ y ∈ l.take i, y.key ≠ k) → getL l k = some x.text := by
  induction l with
  | nil => intro i x k h; simp at h
  | cons z l ih =>
    intro i x k h e hn
    rw [getL]
    cases i with
    | zero =>
      obtain rfl : z = x := by simpa using h
      rw [if_pos e]
    | succ i =>
      have := hn z (by simp)
      rw [if_neg this]
      exact ih (by simpa using h) e fun y hy => hn y (by simp [hy])
set_option maxHeartbeats 8000000 in
set_option maxRecDepth 10000 in
theorem rgetE_any (l : List En) (A : Option Addr) (ca : Nat) (w : World) {Q : Nat → Prop} (hl : RowE w Q A l) (hll : l.length ≤ 1000000) (k : Int) :
    Calls Tryz.prog 43 #[.slice A l.length ca, .int .i64 k] w fun e w' => e = .returned (.tuple #[.string ⟨((getL l k).getD []).toArray⟩, .bool (getL l k).isSome]) ∧ w' = w := by
  have HL := Lib.hid hl
  clear hl
  go_enter Tryz.func43, Tryz.ntmps43
  go_wp2_with fail
  go_loopw [6] (fun vi wr => ∃ i : Nat, i ≤ l.length ∧ vi = .int .i64 (i : Int) ∧ Hid (∀ y ∈ l.take i, y.key ≠ k) ∧ wr = w) (fun vi _ => l.length - (RowKit.intOf vi).toNat)
  case atStart => exact ⟨0, Nat.zero_le _, rfl, Lib.hid (by simp), rfl⟩
  case round =>
    obtain ⟨i, hi, rfl, HN, rfl⟩ := hrel
    by_cases hlt : i < l.length
    · obtain ⟨x, hx⟩ : ∃ x, l[i]? = some x := ⟨_, List.getElem?_eq_getElem hlt⟩
      obtain ⟨g, o, rfl, _, hgl, hat⟩ := HL.out.at hlt
      obtain ⟨q0, q1⟩ := hat.two hx
      have hI : (i : Int) < (l.length : Int) := by omega
      have hJ : (0 : Int) ≤ (i : Int) := by omega
      by_cases e : x.key = k
      · have d0 : (x.key == k) = true := by simpa using e
        have HG := Lib.hid (get_at hx e HN.out)
        obtain ⟨kx, tx⟩ := x
        clear e hx hat
        go_wp2_with fail
        go_ret2
        exact ⟨by rw [HG.out]; rfl, rfl⟩
      · have d0 : (x.key == k) = false := by simpa using e
        have HN2 := Lib.hid (get_next hx e HN.out)
        obtain ⟨kx, tx⟩ := x
        clear e hx hat
        go_wp2_with fail
        go_roundw
        case rel => exact ⟨i + 1, by omega, by go_num, HN2, trivial⟩
        case measure => simp [RowKit.intOf]; omega
    · have hii : i = l.length := by omega
      subst hii
      have hn := HN.out
      rw [List.take_length] at hn
      have HG := Lib.hid (getL_none.2 hn)
      clear hn
      go_wp2_with fail
      go_ret2
      exact ⟨by rw [HG.out]; rfl, rfl⟩
theorem drop_take {l : List En} {i : Nat} {x : En} (hx : l[i]? = some x) (k : Int) : dropK (l.take (i + 1)) k = dropK (l.take i) k ++ (if x.key = k then [] else [x]) := by
  unfold dropK
  rw [List.take_add_one, hx, List.filter_append]
  congr 1
  by_cases e : x.key = k
  · rw [if_pos e]; simp [e]
  · rw [if_neg e]; simp [e]
set_option maxHeartbeats 8000000 in
set_option maxRecDepth 10000 in
theorem rwithout_any (l : List En) (A : Option Addr) (ca : Nat) (w : World) {Q : Nat → Prop} (hl : RowE w Q A l) (hll : l.length ≤ 1000000) (k : Int) :
    Calls Tryz.prog 44 #[.slice A l.length ca, .int .i64 k] w fun e w' => ∃ O co, e = .returned (.slice O (dropK l k).length co) ∧ OwnR 75 2 enW w.heap.size w' (.slice O (dropK l k).length co) (dropK l k) ∧ Below w.heap.size w w' := by
  obtain ⟨i0, hi0, hz0, hz1, hz2⟩ := info_parts rent_info
  have HL := Lib.hid hl
  clear hl
  go_enter Tryz.func44, Tryz.ntmps44
  go_wp2_with fail
  go_loopw [5, 6] (fun v vi wr => ∃ i : Nat, i ≤ l.length ∧ vi = .int .i64 (i : Int) ∧ Hid (OwnR 75 2 enW w.heap.size wr v (dropK (l.take i) k)) ∧ Below w.heap.size w wr) (fun _ vi _ => l.length - (RowKit.intOf vi).toNat)
  case atStart => exact ⟨0, Nat.zero_le _, rfl, Lib.hid (by rw [List.take_zero]; exact World.ownsRow_nil _ _ _ _), Below.refl _ _⟩
  case round =>
    obtain ⟨i, hi, rfl, HO, hb⟩ := hrel
    by_cases hlt : i < l.length
    · obtain ⟨x, hx⟩ : ∃ x, l[i]? = some x := ⟨_, List.getElem?_eq_getElem hlt⟩
      obtain ⟨g, o, rfl, _, hgl, hat⟩ := HL.out.at hlt
      obtain ⟨q0, q1⟩ := hat.two hx
      have k0 := keep_cell hb q0
      have k1 := keep_cell hb q1
      have hI : (i : Int) < (l.length : Int) := by omega
      have hJ : (0 : Int) ≤ (i : Int) := by omega
      have hbs := hb.size
      have hlen : (dropK (l.take i) k).length ≤ i := by
        unfold dropK
        have := List.length_filter_le (fun x => !decide (x.key = k)) (l.take i)
        rw [List.length_take] at this
        omega
      have HE := Lib.hid (drop_take hx k)
      by_cases e : x.key = k
      · have d0 : (x.key != k) = false := by simpa using e
        have hE := HE.out
        rw [if_pos e, List.append_nil] at hE
        rw [← hE] at HO
        obtain ⟨kx, tx⟩ := x
        clear e hx hat hE HE q0 q1
        go_wp2_with fail
        go_roundw
        case rel => exact ⟨i + 1, by omega, by go_num, HO, hb⟩
        case measure => simp [RowKit.intOf]; omega
      · have d0 : (x.key != k) = true := by simpa using e
        have hE := HE.out
        rw [if_neg e] at hE
        have HE2 := Lib.hid hE
        obtain ⟨kx, tx⟩ := x
        have b0 : Below w.heap.size wr (wr.alloc (.cells (enW ⟨kx, tx⟩).toArray 75)) := (Below.refl _ _).alloc hbs _
        obtain ⟨NN, hNN⟩ : ∃ NN, (dropK (l.take i) k).length = NN := ⟨_, rfl⟩
        rw [hNN] at hlen
        have HNN := Lib.hid hNN
        clear e hx hat hE HE q0 q1 hNN
        go_wp2_with (at_builtin; refine of_stop ?_)
        refine stop_of ?_
        refine wpList_append_rows (f := enW) (n := 2) (E := 75) (nb := 24) (X := dropK (l.take i) k) (base := w.heap.size) rfl _ _ rfl rfl (OwnR.below HO.out (by first | exact (Below.refl _ _).alloc (Nat.le_refl _) _ | exact ((Below.refl _ _).alloc (Nat.le_refl _) _).drew)) (L2 := [(⟨kx, tx⟩ : En)]) rfl (one_row wr (⟨kx, tx⟩ : En)) (by simp) (N := NN + 1) (by rw [HNN.out]; rfl) (Z := dropK (l.take (i + 1)) k) HE2.out.symm Tryz.underlying35 hi0 hz0 hz1 hz2 rfl (by decide) (by decide) (fun _ => rfl) enW_one (by omega) (by simp; omega) ?_
        intro g4 k4 w4 ho4 hg4 hat4 hl4
        have hb4 : Below w.heap.size w w4 := hb.trans (Below.grown (by first | exact b0 | exact b0.drew) hg4 (by simp; omega) (fun k hk => (World.ownsRow.lt HO.out k hk).1))
        have HO4 := Lib.hid ho4
        clear ho4 hg4 hat4 hl4
        go_wp2_with fail
        go_roundw
        case rel => exact ⟨i + 1, by omega, by go_num, HO4, hb4⟩
        case measure => simp [RowKit.intOf]; omega
    · have hii : i = l.length := by omega
      subst hii
      have hO := HO.out
      rw [List.take_length] at hO
      obtain ⟨O, co, hv, _, _⟩ := OwnR.shape (f := enW) (fun _ => rfl) hO
      subst hv
      have HO2 := Lib.hid hO
      clear hO HO
      go_wp2_with fail
      go_ret
      exact ⟨O, co, rfl, HO2.out, hb⟩
end Go.Proofs.YtjgjacihdggimaaGreatDoor
namespace Go.Proofs.YtjgjacihdggimaaGreatDoor
open Go.RowKit
theorem fil_len (n : Nat) : ∀ l : List En, (l.filter (fun x => decide (0 ≤ x.key ∧ x.key < (n : Int)))).length + (l.filter (fun x => decide (x.key = (n : Int)))).length = (l.filter (fun x => decide (0 ≤ x.key ∧ x.key < ((n + 1 : Nat) : Int)))).length
  | [] => rfl
  | x :: l => by
    have ih := fil_len n l
    rw [List.filter_cons, List.filter_cons, List.filter_cons]
    by_cases h1 : x.key = (n : Int)
    · rw [if_neg (by simp; omega), if_pos (by simpa using h1), if_pos (by simp; omega), List.length_cons, List.length_cons]; omega
    · by_cases h2 : 0 ≤ x.key ∧ x.key < (n : Int)
      · rw [if_pos (by simpa using h2), if_neg (by simpa using h1), if_pos (by simp; omega), List.length_cons, List.length_cons]; omega
      · rw [if_neg (by simpa using h2), if_neg (by simpa using h1), if_neg (by simp; omega)]; omega
theorem sortK_fil (l : List En) : ∀ n : Nat, (sortK l n).length = (l.filter (fun x => decide (0 ≤ x.key ∧ x.key < (n : Int)))).length
  | 0 => by
    rw [sortK]
    symm
    rw [List.length_nil, List.length_eq_zero_iff, List.filter_eq_nil_iff]
    intro x _
    simp
  | n + 1 => by rw [sortK, List.length_append, sortK_fil l n, fil_len]
def kyF (l : List En) (n i : Nat) : List En := (l.take i).filter (fun x => decide (x.key = (n : Int)))
theorem kyF_next {l : List En} {n i : Nat} {x : En} (hx : l[i]? = some x) : kyF l n (i + 1) = kyF l n i ++ (if x.key = (n : Int) then [x] else []) := by
  unfold kyF
  rw [List.take_add_one, hx, List.filter_append]
  congr 1
  by_cases e : x.key = (n : Int)
  · rw [if_pos e]; simp [e]
  · rw [if_neg e]; simp [e]
theorem kyF_zero (l : List En) (n : Nat) : kyF l n 0 = [] := by unfold kyF; rw [List.take_zero]; rfl
theorem kyF_all (l : List En) (n : Nat) : sortK l n ++ kyF l n l.length = sortK l (n + 1) := by unfold kyF; rw [List.take_length, sortK]
theorem ky_bound (l : List En) (n i : Nat) : (sortK l n ++ kyF l n i).length ≤ l.length := by
  have h1 := fil_len n l
  have h2 := List.length_filter_le (fun x : En => decide (0 ≤ x.key ∧ x.key < ((n + 1 : Nat) : Int))) l
  have h3 : (kyF l n i).length ≤ (l.filter (fun x => decide (x.key = (n : Int)))).length := by
    unfold kyF
    exact ((List.take_sublist i l).filter _).length_le
  rw [List.length_append, sortK_fil]
  omega
set_option maxHeartbeats 8000000 in
set_option maxRecDepth 10000 in
theorem rsorted_any (l : List En) (A : Option Addr) (ca : Nat) (w : World) {Q : Nat → Prop} (hl : RowE w Q A l) (hll : l.length ≤ 100000) :
    Calls Tryz.prog 29 #[.slice A l.length ca] w fun e w' => ∃ O co, e = .returned (.slice O (sortK l 1024).length co) ∧ (sortK l 1024).length ≤ co ∧ RowE w' (fun g => w.heap.size ≤ g) O (sortK l 1024) ∧ Below w.heap.size w w' := by
  obtain ⟨i0, hi0, hz0, hz1, hz2⟩ := info_parts rent_info
  have HL := Lib.hid hl
  obtain ⟨M, hM⟩ : ∃ M : Nat, M = 1024 := ⟨_, rfl⟩
  have HM := Lib.hid hM
  rw [← hM]
  clear hl
  go_enter Tryz.func29, Tryz.ntmps29
  go_wp2_with fail
  go_loopw [3, 4, 5] (fun v vk _ wr => ∃ n : Nat, n ≤ M ∧ vk = .int .i64 (n : Int) ∧ Hid (OwnR 75 2 enW w.heap.size wr v (sortK l n)) ∧ Below w.heap.size w wr) (fun _ vk _ _ => 1024 - (RowKit.intOf vk).toNat)
  case atStart => exact ⟨0, Nat.zero_le _, rfl, Lib.hid (World.ownsRow_nil _ _ _ _), Below.refl _ _⟩
  case round =>
    obtain ⟨n, hn, rfl, HO, hb⟩ := hrel
    by_cases hnl : n ≤ 1023
    · have hN : (n : Int) ≤ 1023 := by omega
      have HO0 : Hid (OwnR 75 2 enW w.heap.size wr _ (sortK l n ++ kyF l n 0)) := Lib.hid (by rw [kyF_zero, List.append_nil]; exact HO.out)
      clear HO
      go_wp2_with fail
      go_loopw [3, 5] (fun v vi wr2 => ∃ i : Nat, i ≤ l.length ∧ vi = .int .i64 (i : Int) ∧ Hid (OwnR 75 2 enW w.heap.size wr2 v (sortK l n ++ kyF l n i)) ∧ Below w.heap.size w wr2) (fun _ vi _ => l.length - (RowKit.intOf vi).toNat)
      case atStart => exact ⟨0, Nat.zero_le _, rfl, HO0, hb⟩
      case round =>
        clear HO0 hb
        obtain ⟨i, hi, rfl, HO, hb⟩ := hrel
        by_cases hlt : i < l.length
        · obtain ⟨x, hx⟩ : ∃ x, l[i]? = some x := ⟨_, List.getElem?_eq_getElem hlt⟩
          obtain ⟨g, o, rfl, _, hgl, hat⟩ := HL.out.at hlt
          obtain ⟨q0, q1⟩ := hat.two hx
          have k0 := keep_cell hb q0
          have k1 := keep_cell hb q1
          have hI : (i : Int) < (l.length : Int) := by omega
          have hJ : (0 : Int) ≤ (i : Int) := by omega
          have hbs := hb.size
          have hlen := ky_bound l n i
          have HE := Lib.hid (kyF_next (n := n) hx)
          by_cases e : x.key = (n : Int)
          · have d0 : (x.key == (n : Int)) = true := by simpa using e
            have hE := HE.out
            rw [if_pos e] at hE
            have HE2 : Hid ((sortK l n ++ kyF l n i) ++ [x] = sortK l n ++ kyF l n (i + 1)) := Lib.hid (by rw [hE, List.append_assoc])
            obtain ⟨kx, tx⟩ := x
            have b0 : Below w.heap.size wr (wr.alloc (.cells (enW ⟨kx, tx⟩).toArray 75)) := (Below.refl _ _).alloc hbs _
            obtain ⟨NN, hNN⟩ : ∃ NN, (sortK l n ++ kyF l n i).length = NN := ⟨_, rfl⟩
            rw [hNN] at hlen
            have HNN := Lib.hid hNN
            clear e hx hat hE HE q0 q1 hNN
            generalize sortK l n ++ kyF l n i = XX at *
            go_wp2_with (at_builtin; refine of_stop ?_)
            refine stop_of ?_
            refine wpList_append_rows (f := enW) (n := 2) (E := 75) (nb := 24) (X := XX) (base := w.heap.size) rfl _ _ rfl rfl (OwnR.below HO.out (by first | exact (Below.refl _ _).alloc (Nat.le_refl _) _ | exact ((Below.refl _ _).alloc (Nat.le_refl _) _).drew)) (L2 := [(⟨kx, tx⟩ : En)]) rfl (one_row wr (⟨kx, tx⟩ : En)) (by simp) (N := NN + 1) (by rw [HNN.out]; rfl) (Z := sortK l n ++ kyF l n (i + 1)) HE2.out Tryz.underlying35 hi0 hz0 hz1 hz2 rfl (by decide) (by decide) (fun _ => rfl) enW_one (by omega) (by simp; omega) ?_
            intro g4 k4 w4 ho4 hg4 hat4 hl4
            have hb4 : Below w.heap.size w w4 := hb.trans (Below.grown (by first | exact b0 | exact b0.drew) hg4 (by simp; omega) (fun k hk => (World.ownsRow.lt HO.out k hk).1))
            have HO4 := Lib.hid ho4
            clear ho4 hg4 hat4 hl4
            go_wp2_with fail
            go_roundw
            case rel => exact ⟨i + 1, by omega, by go_num, HO4, hb4⟩
            case measure => simp [RowKit.intOf]; omega
          · have d0 : (x.key == (n : Int)) = false := by simpa using e
            have hE := HE.out
            rw [if_neg e, List.append_nil] at hE
            rw [← hE] at HO
            obtain ⟨kx, tx⟩ := x
            clear e hx hat hE HE q0 q1
            go_wp2_with fail
            go_roundw
            case rel => exact ⟨i + 1, by omega, by go_num, HO, hb⟩
            case measure => simp [RowKit.intOf]; omega
        · have hii : i = l.length := by omega
          subst hii
          have hO := HO.out
          rw [kyF_all] at hO
          have HO2 := Lib.hid hO
          clear hO HO
          go_wp2_with fail
          go_roundw
          case rel => exact ⟨n + 1, by have := HM.out; omega, by go_num, HO2, hb⟩
          case measure => simp [RowKit.intOf]; omega
    · obtain rfl : n = M := by have := HM.out; omega
      have hN : (1023 : Int) < (n : Int) := by have := HM.out; omega
      obtain ⟨O, co, hv, hc, hr⟩ := own_rowE HO.out
      subst hv
      have HR := Lib.hid hr
      clear hr HO
      go_wp2_with fail
      go_ret
      exact ⟨O, co, rfl, hc, HR.out, hb⟩
end Go.Proofs.YtjgjacihdggimaaGreatDoor
namespace Go.Proofs.YtjgjacihdggimaaGreatDoor
open Go.RowKit
def set4 (w : World) (g o : Nat) (a b c d : Value) : World := (((w.setCell ⟨g, o, none⟩ a).setCell ⟨g, o + 1, none⟩ b).setCell ⟨g, o + 2, none⟩ c).setCell ⟨g, o + 3, none⟩ d
section
variable {w w' : World} {g o : Nat} {a b c d : Value}
theorem set4_far {p : Addr} (h : ∀ j, j < 4 → p ≠ ⟨g, o + j, none⟩) : (set4 w g o a b c d).cell? p = w.cell? p := by
  unfold set4
  rw [World.cell?_setCell_other _ _ _ _ (h 3 (by decide)).symm, World.cell?_setCell_other _ _ _ _ (h 2 (by decide)).symm, World.cell?_setCell_other _ _ _ _ (h 1 (by decide)).symm, World.cell?_setCell_other _ _ _ _ (show (⟨g, o, none⟩ : Addr) ≠ p from (h 0 (by decide)).symm)]
theorem set4_frozen (p : Addr) : (set4 w g o a b c d).frozen? p = w.frozen? p := by
  unfold set4
  rw [World.frozen?_setCell, World.frozen?_setCell, World.frozen?_setCell, World.frozen?_setCell]
theorem set4_size : (set4 w g o a b c d).heap.size = w.heap.size := by unfold set4; simp
theorem set4_near {u0 u1 u2 u3 : Value} (h0 : w.cell? ⟨g, o, none⟩ = some u0) (h1 : w.cell? ⟨g, o + 1, none⟩ = some u1) (h2 : w.cell? ⟨g, o + 2, none⟩ = some u2) (h3 : w.cell? ⟨g, o + 3, none⟩ = some u3) :
    (set4 w g o a b c d).cell? ⟨g, o, none⟩ = some a ∧ (set4 w g o a b c d).cell? ⟨g, o + 1, none⟩ = some b ∧ (set4 w g o a b c d).cell? ⟨g, o + 2, none⟩ = some c ∧ (set4 w g o a b c d).cell? ⟨g, o + 3, none⟩ = some d := by
  have ne : ∀ i j, i ≠ j → (⟨g, o + i, none⟩ : Addr) ≠ ⟨g, o + j, none⟩ := fun i j h e => h (by have := congrArg Addr.off e; simp at this; exact this)
  have n01 := ne 0 1 (by decide)
  have n02 := ne 0 2 (by decide)
  have n03 := ne 0 3 (by decide)
  have n12 := ne 1 2 (by decide)
  have n13 := ne 1 3 (by decide)
  have n23 := ne 2 3 (by decide)
  rw [Nat.add_zero] at n01 n02 n03
  unfold set4
  refine ⟨?_, ?_, ?_, ?_⟩
  · rw [World.cell?_setCell_other _ _ _ _ n03.symm, World.cell?_setCell_other _ _ _ _ n02.symm, World.cell?_setCell_other _ _ _ _ n01.symm]
    exact World.cell?_setCell_same _ _ _ h0
  · rw [World.cell?_setCell_other _ _ _ _ n13.symm, World.cell?_setCell_other _ _ _ _ n12.symm]
    exact World.cell?_setCell_same _ _ _ (by rw [World.cell?_setCell_other _ _ _ _ n01]; exact h1)
  · rw [World.cell?_setCell_other _ _ _ _ n23.symm]
    exact World.cell?_setCell_same _ _ _ (by rw [World.cell?_setCell_other _ _ _ _ n12, World.cell?_setCell_other _ _ _ _ n02]; exact h2)
  · exact World.cell?_setCell_same _ _ _ (by rw [World.cell?_setCell_other _ _ _ _ n23, World.cell?_setCell_other _ _ _ _ n13, World.cell?_setCell_other _ _ _ _ n03]; exact h3)
theorem ButS.set4 {P : Nat → Prop} {v : World} (h : ButS P v w) (hg : P g ∨ v.heap.size ≤ g) : ButS P v (set4 w g o a b c d) := by
  unfold Go.Proofs.YtjgjacihdggimaaGreatDoor.set4
  exact (((h.setCell (p := ⟨g, o, none⟩) hg a).setCell (p := ⟨g, o + 1, none⟩) hg b).setCell (p := ⟨g, o + 2, none⟩) hg c).setCell (p := ⟨g, o + 3, none⟩) hg d
end
end Go.Proofs.YtjgjacihdggimaaGreatDoor
namespace Go.Proofs.YtjgjacihdggimaaGreatDoor
open Go.RowKit
theorem RowN.at {w : World} {P : Nat → Prop} {A : Option Addr} {l : List Nd} (h : RowN w P A l) {i : Nat} (hi : i < l.length) : ∃ g o, A = some ⟨g, o, none⟩ ∧ P g ∧ g < w.heap.size ∧
    ∀ (i : Nat) (n : Nd), l[i]? = some n → ∃ B cb C cc, At4 w g (o + i * 4) n B cb C cc ∧ RowI w P B n.refs ∧ RowI w P C n.nums := by
  rcases h with rfl | h
  · simp at hi
  · exact h
end Go.Proofs.YtjgjacihdggimaaGreatDoor
namespace Go.Proofs.YtjgjacihdggimaaGreatDoor
open Go.RowKit
theorem OwnR.block {α : Type} {E : TypeId} {n : Nat} {f : α → List Value} {base : Nat} {w w' : World} {v : Value} {L : List α} (h : OwnR E n f base w v L) (hb : ∀ k, v.ownBlock = some k → w'.heap[k]? = w.heap[k]?) : OwnR E n f base w' v L := by
  obtain ⟨h1, h2⟩ := h
  refine ⟨h1, ?_⟩
  rcases h2 with h2 | ⟨g, cap, cur, hv, hbs, hg, rest⟩
  · exact .inl h2
  · exact .inr ⟨g, cap, cur, hv, hbs, (hb g (by rw [hv]; rfl)).trans hg, rest⟩
end Go.Proofs.YtjgjacihdggimaaGreatDoor
namespace Go.Proofs.YtjgjacihdggimaaGreatDoor
open Go.RowKit
theorem atR_row {w : World} {g o : Nat} {l : List Int} (h : AtR inW 1 w g o l) : ∀ (i : Nat) (x : Int), l[i]? = some x → w.cell? ⟨g, o + i, none⟩ = some (.int .i64 x) := fun i b hi => by
  have := h i b hi 0 _ rfl
  rwa [Nat.mul_one, Nat.add_zero] at this
theorem own_rowI {w : World} {base : Nat} {v : Value} {L : List Int} (h : OwnR 3 1 inW base w v L) : ∃ (A : Option Addr) (cap : Nat), v = .slice A L.length cap ∧ RowI w (fun g => base ≤ g) A L := by
  rcases Nat.eq_zero_or_pos L.length with e | e
  · have hn : L = [] := List.length_eq_zero_iff.1 e
    obtain ⟨A, cap, rfl, _, _⟩ := OwnR.shape (f := inW) (fun _ => rfl) h
    exact ⟨A, cap, rfl, .inl hn⟩
  · obtain ⟨g, cap, rfl, hb, hg⟩ := World.ownsRow.form h e
    have ha := OwnR.at (f := inW) (fun _ => rfl) h rfl
    exact ⟨_, cap, rfl, .inr ⟨g, 0, rfl, hb, hg, atR_row ha⟩⟩
end Go.Proofs.YtjgjacihdggimaaGreatDoor
namespace Go.Proofs.YtjgjacihdggimaaGreatDoor
open Go.RowKit
def boV (b : Bool) : List Value := [.bool b]
section
variable {w : World} {bs : List Bool}
theorem atR_bits {g : Nat} (h : ∀ (i : Nat) (b : Bool), bs[i]? = some b → w.cell? ⟨g, i, none⟩ = some (.bool b)) : AtR boV 1 w g 0 bs := fun i b hi j u hj => by
  cases j with
  | succ j => simp [boV] at hj
  | zero =>
    obtain rfl : Value.bool b = u := by simpa [boV] using hj
    have := h i b hi
    rwa [Nat.zero_add, Nat.mul_one, Nat.add_zero]
theorem bits_atR {g : Nat} (h : AtR boV 1 w g 0 bs) : ∀ (i : Nat) (b : Bool), bs[i]? = some b → w.cell? ⟨g, i, none⟩ = some (.bool b) := fun i b hi => by
  have := h i b hi 0 _ rfl
  rwa [Nat.zero_add, Nat.mul_one, Nat.add_zero] at this
theorem atR_rows {g : Nat} {L : List NdM} (h : ∀ (i : Nat) (q : NdM), L[i]? = some q → At4 w g (i * 4) q.n q.A q.ca q.B q.cb) : AtR ndW 4 w g 0 L := fun i q hi j u hj => by
  obtain ⟨h0, h1, h2, h3⟩ := h i q hi
  rw [Nat.zero_add]
  match j with
  | 0 => obtain rfl : _ = u := by simpa [ndW] using hj
         exact h0
  | 1 => obtain rfl : _ = u := by simpa [ndW] using hj
         exact h1
  | 2 => obtain rfl : _ = u := by simpa [ndW] using hj
         exact h2
  | 3 => obtain rfl : _ = u := by simpa [ndW] using hj
         exact h3
  | j + 4 => simp [ndW] at hj
theorem rows_atR {g : Nat} {L : List NdM} (h : AtR ndW 4 w g 0 L) : ∀ (i : Nat) (q : NdM), L[i]? = some q → At4 w g (i * 4) q.n q.A q.ca q.B q.cb := fun i q hi => by
  have h0 := h i q hi 0 _ rfl
  have h1 := h i q hi 1 _ rfl
  have h2 := h i q hi 2 _ rfl
  have h3 := h i q hi 3 _ rfl
  rw [Nat.zero_add] at h0 h1 h2 h3
  exact ⟨h0, h1, h2, h3⟩
end
end Go.Proofs.YtjgjacihdggimaaGreatDoor
namespace Go.Proofs.YtjgjacihdggimaaGreatDoor
open Go.RowKit
theorem rowI_lit {w : World} {g : Nat} {cs : Array Value} {T : TypeId} {Q : Nat → Prop} {l : List Int} (hh : w.heap[g]? = some (.cells cs T (0, 0))) (hc : cs.toList = l.flatMap inW) (hQ : Q g) : RowI w Q (some ⟨g, 0, none⟩) l := by
  refine .inr ⟨g, 0, rfl, hQ, (Array.getElem?_eq_some_iff.1 hh).1, atR_row (fun i q hi j u hj => ?_)⟩
  rw [Nat.zero_add, Lib.cell_of_heap hh (i * 1 + j)]
  have := flatR_at (f := inW) (n := 1) (fun _ => rfl) l i q hi j u hj
  rw [← hc] at this
  simpa using this
end Go.Proofs.YtjgjacihdggimaaGreatDoor
namespace Go.Proofs.YtjgjacihdggimaaGreatDoor
open Go.RowKit
structure OwN (w : World) (base : Nat) (v : Value) (L : List NdM) (R : Nat → Prop) : Prop where
  own : OwnR 110 4 ndW base w v L
  rows : ∀ q ∈ L, RowI w R q.A q.n.refs ∧ RowI w R q.B q.n.nums
  rR : ∀ g, R g → base ≤ g ∧ g < w.heap.size ∧ v.ownBlock ≠ some g
  bs : base ≤ w.heap.size
def ChN (v : Value) (g : Nat) : Prop := v.ownBlock = some g
theorem OwN.below {w w' : World} {base : Nat} {v : Value} {L : List NdM} {R : Nat → Prop} (h : OwN w base v L R) (hb : Below w.heap.size w w') : OwN w' base v L R where
  own := h.own.below hb
  rows := fun q hq => ⟨(h.rows q hq).1.below hb, (h.rows q hq).2.below hb⟩
  rR := fun g hg => ⟨(h.rR g hg).1, Nat.lt_of_lt_of_le (h.rR g hg).2.1 hb.size, (h.rR g hg).2.2⟩
  bs := Nat.le_trans h.bs hb.size
theorem OwN.but {w w' : World} {base : Nat} {v : Value} {L : List NdM} {R S : Nat → Prop} (h : OwN w base v L R) (hb : ButS S w w') (hS : ∀ g, S g → v.ownBlock ≠ some g ∧ ¬ R g) : OwN w' base v L R where
  own := OwnR.block h.own fun k hk => hb.block k (World.ownsRow.lt h.own k hk).2 fun e => (hS k e).1 hk
  rows := fun q hq => by
    have hk : Kept w w' R := hb.keptQ fun g hg e => (hS g e).2 hg
    exact ⟨(h.rows q hq).1.kept hk, (h.rows q hq).2.kept hk⟩
  rR := fun g hg => ⟨(h.rR g hg).1, Nat.lt_of_lt_of_le (h.rR g hg).2.1 hb.size, (h.rR g hg).2.2⟩
  bs := Nat.le_trans h.bs hb.size
theorem OwN.mono {w : World} {base : Nat} {v : Value} {L : List NdM} {R R' : Nat → Prop} (h : OwN w base v L R) (hR : ∀ g, R g → R' g) (hr : ∀ g, R' g → base ≤ g ∧ g < w.heap.size ∧ v.ownBlock ≠ some g) : OwN w base v L R' :=
  { h with rows := fun q hq => ⟨(h.rows q hq).1.mono fun g hg _ => hR g hg, (h.rows q hq).2.mono fun g hg _ => hR g hg⟩, rR := hr }
def NQ (w : World) (base : Nat) (v : Value) (L : List NdM) (R : Nat → Prop) (t : Tr) (e : Ending) (w' : World) : Prop :=
  ∃ v' L' R', e = .returned v' ∧ OwN w' base v' L' R' ∧ L'.map NdM.n = fl t (L.map NdM.n) ∧ (∀ g, R' g → R g ∨ w.heap.size ≤ g) ∧ (v'.ownBlock = v.ownBlock ∨ ∃ k, v'.ownBlock = some k ∧ w.heap.size ≤ k) ∧ ButS (ChN v) w w'
theorem NQ.from {w w1 w' : World} {base : Nat} {v : Value} {L : List NdM} {R : Nat → Prop} {t : Tr} {e : Ending} (hb : Below w.heap.size w w1) (h : NQ w1 base v L R t e w') : NQ w base v L R t e w' := by
  obtain ⟨v', L', R', he, ho, hf, hR, hv, hbu⟩ := h
  have hz := hb.size
  refine ⟨v', L', R', he, ho, hf, fun g hg => (hR g hg).imp id (fun h => by omega), hv.imp id (fun ⟨k, hk, h⟩ => ⟨k, hk, by omega⟩), (ButS.of_below hb).trans hbu⟩
theorem OwN.app {w wx w1 w4 : World} {base : Nat} {v v' v4 : Value} {L L' : List NdM} {R R' : Nat → Prop} {t : Tr} {n : Nd} {A B : Option Addr} {ca cb : Nat} (h : OwN wx base v' L' R') (hA : RowI wx R' A n.refs) (hB : RowI wx R' B n.nums)
    (hf : L'.map NdM.n ++ [n] = fl t (L.map NdM.n)) (hR : ∀ g, R' g → R g ∨ w.heap.size ≤ g) (hv : v'.ownBlock = v.ownBlock ∨ ∃ k, v'.ownBlock = some k ∧ w.heap.size ≤ k) (hbut : ButS (ChN v) w wx)
    (hb1 : Below wx.heap.size wx w1) (ho : OwnR 110 4 ndW base w4 v4 (L' ++ [⟨n, A, ca, B, cb⟩])) (hg : w1.grownBy w4 v'.ownBlock) (hat : v4.ownBlock = v'.ownBlock ∨ ∃ k, v4.ownBlock = some k ∧ w1.heap.size ≤ k) :
    NQ w base v L R t (.returned v4) w4 := by
  have h1 := h.below hb1
  have hsz := hg.size
  have hszx := hb1.size
  have hkR : Kept w1 w4 R' := ⟨hsz, fun g hgR hgl => hg.block g hgl fun e => (h1.rR g hgR).2.2 (by first | exact e | exact e.symm)⟩
  refine ⟨v4, L' ++ [⟨n, A, ca, B, cb⟩], R', rfl, ⟨ho, fun q hq => ?_, fun g hgR => ?_, Nat.le_trans h1.bs hsz⟩, by rw [List.map_append, ← hf]; rfl, hR, ?_, ?_⟩
  · rcases List.mem_append.1 hq with e | e
    · exact ⟨(h1.rows q e).1.kept hkR, (h1.rows q e).2.kept hkR⟩
    · obtain rfl : q = ⟨n, A, ca, B, cb⟩ := by simpa using e
      exact ⟨(hA.below hb1).kept hkR, (hB.below hb1).kept hkR⟩
  · have hr := h1.rR g hgR
    refine ⟨hr.1, by omega, ?_⟩
    rcases hat with e | ⟨k, e, hk⟩
    · rw [e]; exact hr.2.2
    · rw [e]; intro e'; have := Option.some.inj e'; omega
  · rcases hat with e | ⟨k, e, hk⟩
    · rw [e]; exact hv
    · exact .inr ⟨k, e, by have := hbut.size; omega⟩
  · refine (hbut.trans (ButS.of_below hb1)).grown hg fun k hk => ?_
    rcases hv with e | ⟨j, e, hj⟩
    · exact .inl (show v.ownBlock = some k by rw [← e]; exact hk)
    · rw [e] at hk; cases hk; exact .inr hj
theorem fl_leafD (x : En) (out : List Nd) : fl (leafT x) out = out ++ [⟨1, [], [x.key], x.text⟩] := by
  unfold leafT
  rw [fl, flL]
structure LQ (w wr : World) (base : Nat) (v : Value) (L : List NdM) (R : Nat → Prop) (ts : List Tr) (vR : Value) (k : Int) (vN : Value) (v' : Value) (L' : List NdM) (R' : Nat → Prop) : Prop where
  bs : base ≤ w.heap.size
  md : OwN wr base v' L' R'
  eq : L'.map NdM.n = (flL ts (L.map NdM.n) []).1
  own : OwnR 3 1 inW (w.heap.size + 1) wr vR (flL ts (L.map NdM.n) []).2
  apart : ∀ g, vR.ownBlock = some g → v'.ownBlock ≠ some g ∧ ¬ R' g
  rR : ∀ g, R' g → R g ∨ w.heap.size ≤ g
  rX : ¬ R' w.heap.size
  v2 : v'.ownBlock = v.ownBlock ∨ ∃ k, v'.ownBlock = some k ∧ w.heap.size ≤ k
  vX : v'.ownBlock ≠ some w.heap.size
  but : ButS (ChN v) w wr
  x0 : wr.cell? ⟨w.heap.size, 0, none⟩ = some (.int .i64 k)
  x1 : wr.cell? ⟨w.heap.size, 1, none⟩ = some vR
  x2 : wr.cell? ⟨w.heap.size, 2, none⟩ = some vN
  x3 : wr.cell? ⟨w.heap.size, 3, none⟩ = some (.string ⟨#[]⟩)
  fX : ∀ j, wr.frozen? ⟨w.heap.size, j, none⟩ = false
theorem LQ.below {w wr w' : World} {base : Nat} {v : Value} {L : List NdM} {R : Nat → Prop} {ts : List Tr} {vR : Value} {k : Int} {vN v' : Value} {L' : List NdM} {R' : Nat → Prop} (h : LQ w wr base v L R ts vR k vN v' L' R') (hb : Below wr.heap.size wr w') : LQ w w' base v L R ts vR k vN v' L' R' :=
  { h with
    md := h.md.below hb
    own := h.own.below hb
    but := h.but.trans (ButS.of_below hb)
    x0 := keep_cell hb h.x0
    x1 := keep_cell hb h.x1
    x2 := keep_cell hb h.x2
    x3 := keep_cell hb h.x3
    fX := fun j => keep_frozen (p := ⟨w.heap.size, j, none⟩) hb (show w.heap.size < wr.heap.size from Lib.lt_of_cell h.x0) (h.fX j) }
section
variable {w wr w0 w1 w2 w4 : World} {base : Nat} {v : Value} {L : List NdM} {R : Nat → Prop} {ts : List Tr} {vR : Value} {k : Int} {vN v' : Value} {L' : List NdM} {R' : Nat → Prop}
theorem LQ.lt (h : LQ w wr base v L R ts vR k vN v' L' R') : w.heap.size < wr.heap.size := Lib.lt_of_cell h.x0
theorem LQ.call (h : LQ w wr base v L R ts vR k vN v' L' R') (hb0 : Below wr.heap.size wr w0) (hbu : ButS (ChN v') w0 w1) :
    w1.cell? ⟨w.heap.size, 1, none⟩ = some vR ∧ OwnR 3 1 inW (w.heap.size + 1) w1 vR (flL ts (L.map NdM.n) []).2 := by
  have h0 := h.below hb0
  have hX : ¬ ChN v' w.heap.size := h.vX
  exact ⟨hbu.cell (p := ⟨w.heap.size, 1, none⟩) hX h0.x1, OwnR.block h0.own fun g hg => hbu.block g (World.ownsRow.lt h0.own g hg).2 (h.apart g hg).1⟩
theorem LQ.next (h : LQ w wr base v L R ts vR k vN v' L' R')  (hb0 : Below wr.heap.size wr w0) {t : Tr} {v2 : Value} {L2 : List NdM} {R2 : Nat → Prop} (hM2 : OwN w1 base v2 L2 R2) (hf2 : L2.map NdM.n = fl t (L'.map NdM.n))
    (hR2 : ∀ g, R2 g → R' g ∨ w0.heap.size ≤ g) (hv2 : v2.ownBlock = v'.ownBlock ∨ ∃ k, v2.ownBlock = some k ∧ w0.heap.size ≤ k) (hbu : ButS (ChN v') w0 w1) (hb2 : Below w1.heap.size w1 w2)
    {vR4 : Value} (ho : OwnR 3 1 inW (w.heap.size + 1) w4 vR4 ((flL ts (L.map NdM.n) []).2 ++ [-(L2.length : Int)])) (hg : w2.grownBy w4 vR.ownBlock) (hat : vR4.ownBlock = vR.ownBlock ∨ ∃ k, vR4.ownBlock = some k ∧ w2.heap.size ≤ k) :
    LQ w (w4.setCell ⟨w.heap.size, 1, none⟩ vR4) base v L R (ts ++ [t]) vR4 k vN v2 L2 R2 ∧ ButS (fun g => ChN v' g ∨ vR.ownBlock = some g ∨ g = w.heap.size) wr (w4.setCell ⟨w.heap.size, 1, none⟩ vR4) := by
  have h0 := h.below hb0
  have hlt0 := h0.lt
  have hs0 := hb0.size
  have hs1 := hbu.size
  have hs2 := hb2.size
  have hs4 := hg.size
  have hvR := fun g (e : vR.ownBlock = some g) => World.ownsRow.lt h.own g e
  have hbs := h.bs
  -- from the child's call on, all but the Refs' own block and the node's stay
  have hbu4 : ButS (fun g => vR.ownBlock = some g ∨ g = w.heap.size) w1 (w4.setCell ⟨w.heap.size, 1, none⟩ vR4) :=
    ((ButS.of_below hb2).grown hg fun k hk => .inl (.inl hk)).setCell (p := ⟨w.heap.size, 1, none⟩) (.inl (.inr rfl)) _
  have hv2g : ∀ g, g < w0.heap.size → v2.ownBlock = some g → v'.ownBlock = some g := fun g hgl e => by
    rcases hv2 with q | ⟨j, q, hj⟩
    · rw [← q]; exact e
    · rw [q] at e; have := Option.some.inj e; omega
  have hR2g : ∀ g, g < w0.heap.size → R2 g → R' g := fun g hgl e => by
    rcases hR2 g e with q | q
    · exact q
    · omega
  have hM4 : OwN (w4.setCell ⟨w.heap.size, 1, none⟩ vR4) base v2 L2 R2 := hM2.but hbu4 fun g hg => by
    rcases hg with hg | hg
    · have := hvR g hg
      exact ⟨fun e => (h.apart g hg).1 (hv2g g (by omega) e), fun e => (h.apart g hg).2 (hR2g g (by omega) e)⟩
    · subst hg
      exact ⟨fun e => h.vX (hv2g _ (by omega) e), fun e => h.rX (hR2g _ (by omega) e)⟩
  have hX : ¬ ChN v' w.heap.size := h.vX
  have hgX : w4.heap[w.heap.size]? = w1.heap[w.heap.size]? := (hg.block _ (by omega) fun e => by have := (hvR w.heap.size (by first | exact e | exact e.symm)).1; omega).trans (hb2.block _ (by omega))
  have hc : ∀ (j : Nat) (u : Value), w0.cell? ⟨w.heap.size, j, none⟩ = some u → w4.cell? ⟨w.heap.size, j, none⟩ = some u := fun j u hu => by
    rw [World.cell?_of_block (w := w1) hgX]
    exact hbu.cell (p := ⟨w.heap.size, j, none⟩) hX hu
  have hne : ∀ i j : Nat, i ≠ j → (⟨w.heap.size, i, none⟩ : Addr) ≠ ⟨w.heap.size, j, none⟩ := fun i j hij e => hij (by have := congrArg Addr.off e; simpa using this)
  have hall : ButS (fun g => ChN v' g ∨ vR.ownBlock = some g ∨ g = w.heap.size) wr (w4.setCell ⟨w.heap.size, 1, none⟩ vR4) :=
    ((ButS.of_below hb0).trans (hbu.mono fun g hg => .inl hg)).trans (hbu4.mono fun g hg => .inr hg)
  have hv24 : v2.ownBlock = v.ownBlock ∨ ∃ k, v2.ownBlock = some k ∧ w.heap.size ≤ k := by
    rcases hv2 with q | ⟨j, q, hj⟩
    · rw [q]; exact h.v2
    · exact .inr ⟨j, q, by omega⟩
  refine ⟨⟨hbs, hM4, by rw [flL_snoc, hf2, h.eq], ?_, fun g hg4 => ?_, fun g hg2 => ?_, fun e => h.rX (hR2g _ (by omega) e), hv24, fun e => h.vX (hv2g _ (by omega) e), ?_, ?_, ?_, ?_, ?_, fun j => ?_⟩, hall⟩
  · rw [flL_snoc]
    have hl : (fl t (flL ts (L.map NdM.n) []).1).length = L2.length := by
      rw [← h.eq, ← hf2, List.length_map]
    show OwnR _ 1 inW _ _ _ ((flL ts (L.map NdM.n) []).2 ++ [-((fl t (flL ts (L.map NdM.n) []).1).length : Int)])
    rw [hl]
    have hb := (Below.refl 0 w4).setCell (p := (⟨w.heap.size, 1, none⟩ : Addr)) (Nat.zero_le _) vR4
    refine World.ownsRow.kept ho (row := some w.heap.size) ⟨hb.os, hb.tape, hb.output, hb.size, fun k _ hk => Below.heap_setCell w4 _ vR4 k fun e => hk (by rw [e])⟩ (.inr fun e => ?_)
    have := (World.ownsRow.lt ho w.heap.size (by first | exact e | exact e.symm)).1
    omega
  · rcases hat with q | ⟨j, q, hj⟩
    · rw [q] at hg4
      have := hvR g hg4
      exact ⟨fun e => (h.apart g hg4).1 (hv2g g (by omega) e), fun e => (h.apart g hg4).2 (hR2g g (by omega) e)⟩
    · rw [q] at hg4
      obtain rfl := Option.some.inj hg4
      refine ⟨fun e => ?_, fun e => ?_⟩
      · have := (World.ownsRow.lt hM2.own j e).2; omega
      · have := (hM2.rR j e).2.1; omega
  · rcases hR2 g hg2 with q | q
    · exact h.rR g q
    · exact .inr (by omega)
  · refine (h0.but.trans' hbu fun g hgl e => ?_).trans' hbu4 fun g hgl e => ?_
    · have e : v'.ownBlock = some g := e
      rcases h.v2 with q | ⟨j, q, hj⟩
      · exact (show v.ownBlock = some g by rw [← q]; exact e)
      · rw [q] at e; have := Option.some.inj e; omega
    · rcases e with e | e
      · have := hvR g e; omega
      · omega
  · rw [World.cell?_setCell_other _ _ _ _ (hne 1 0 (by decide))]; exact hc 0 _ h0.x0
  · exact World.cell?_setCell_same _ _ _ (hc 1 _ h0.x1)
  · rw [World.cell?_setCell_other _ _ _ _ (hne 1 2 (by decide))]; exact hc 2 _ h0.x2
  · rw [World.cell?_setCell_other _ _ _ _ (hne 1 3 (by decide))]; exact hc 3 _ h0.x3
  · rw [World.frozen?_setCell, World.frozen?_of_block (w := w1) hgX]
    exact hbu.frozen (p := ⟨w.heap.size, j, none⟩) hX hlt0 (h0.fX j)
theorem LQ.grown (h : LQ w wr base v L R ts vR k vN v' L' R') (hb0 : Below wr.heap.size wr w0) (hbu : ButS (ChN v') w0 w1) (hb2 : Below w1.heap.size w1 w2) (hg : w2.grownBy w4 vR.ownBlock) :
    w4.cell? ⟨w.heap.size, 1, none⟩ = some vR ∧ w4.frozen? ⟨w.heap.size, 1, none⟩ = false := by
  have h0 := h.below hb0
  have hlt0 := h0.lt
  have hs0 := hb0.size
  have hs1 := hbu.size
  have hs2 := hb2.size
  have hbs := h.bs
  have hX : ¬ ChN v' w.heap.size := h.vX
  have hgX : w4.heap[w.heap.size]? = w1.heap[w.heap.size]? := (hg.block _ (by omega) fun e => by have := (World.ownsRow.lt h.own w.heap.size (by first | exact e | exact e.symm)).1; omega).trans (hb2.block _ (by omega))
  exact ⟨by rw [World.cell?_of_block (w := w1) hgX]; exact hbu.cell (p := ⟨w.heap.size, 1, none⟩) hX h0.x1, by rw [World.frozen?_of_block (w := w1) hgX]; exact hbu.frozen (p := ⟨w.heap.size, 1, none⟩) hX hlt0 (h0.fX 1)⟩
theorem LQ.start {W1 : World} (hM : OwN w base v L R) (hM1 : OwN W1 base v L R) (hb : Below w.heap.size w W1) (x0 : W1.cell? ⟨w.heap.size, 0, none⟩ = some (.int .i64 k)) (x1 : W1.cell? ⟨w.heap.size, 1, none⟩ = some (.slice none 0 0)) (x2 : W1.cell? ⟨w.heap.size, 2, none⟩ = some vN) (x3 : W1.cell? ⟨w.heap.size, 3, none⟩ = some (.string ⟨#[]⟩)) (hf : ∀ j, W1.frozen? ⟨w.heap.size, j, none⟩ = false) :
    LQ w W1 base v L R [] (.slice none 0 0) k vN v L R where
  bs := hM.bs
  md := hM1
  eq := by rw [flL]
  own := by rw [flL]; exact World.ownsRow_nil _ _ _ _
  apart := fun g hg => by cases hg
  rR := fun g hg => .inl hg
  rX := fun e => by have := (hM.rR _ e).2.1; omega
  v2 := .inl rfl
  vX := fun e => by have := (World.ownsRow.lt hM.own _ e).2; omega
  but := ButS.of_below hb
  x0 := x0
  x1 := x1
  x2 := x2
  x3 := x3
  fX := hf
theorem LQ.kind (h : LQ w wr base v L R ts vR k vN v' L' R') (k' : Int) : LQ w (wr.setCell ⟨w.heap.size, 0, none⟩ (.int .i64 k')) base v L R ts vR k' vN v' L' R' := by
  have hne : ∀ i j : Nat, i ≠ j → (⟨w.heap.size, i, none⟩ : Addr) ≠ ⟨w.heap.size, j, none⟩ := fun i j hij e => hij (by have := congrArg Addr.off e; simpa using this)
  have hbu : ButS (fun g => g = w.heap.size) wr (wr.setCell ⟨w.heap.size, 0, none⟩ (.int .i64 k')) := ButS.setCell (P := fun g => g = w.heap.size) (p := ⟨w.heap.size, 0, none⟩) (ButS.refl _ _) (.inl rfl) _
  exact { h with
    md := h.md.but hbu fun g hg => by subst hg; exact ⟨h.vX, h.rX⟩
    own := OwnR.block h.own fun g hg => hbu.block g (World.ownsRow.lt h.own g hg).2 fun e => by have := (World.ownsRow.lt h.own g hg).1; omega
    but := h.but.trans' hbu fun g hgl e => by omega
    x0 := World.cell?_setCell_same _ _ _ h.x0
    x1 := by rw [World.cell?_setCell_other _ _ _ _ (hne 0 1 (by decide))]; exact h.x1
    x2 := by rw [World.cell?_setCell_other _ _ _ _ (hne 0 2 (by decide))]; exact h.x2
    x3 := by rw [World.cell?_setCell_other _ _ _ _ (hne 0 3 (by decide))]; exact h.x3
    fX := fun j => by rw [World.frozen?_setCell]; exact h.fX j }
theorem LQ.nums (h : LQ w wr base v L R ts vR k vN v' L' R') (u : Value) : LQ w (wr.setCell ⟨w.heap.size, 2, none⟩ u) base v L R ts vR k u v' L' R' := by
  have hne : ∀ i j : Nat, i ≠ j → (⟨w.heap.size, i, none⟩ : Addr) ≠ ⟨w.heap.size, j, none⟩ := fun i j hij e => hij (by have := congrArg Addr.off e; simpa using this)
  have hbu : ButS (fun g => g = w.heap.size) wr (wr.setCell ⟨w.heap.size, 2, none⟩ u) := ButS.setCell (P := fun g => g = w.heap.size) (p := ⟨w.heap.size, 2, none⟩) (ButS.refl _ _) (.inl rfl) _
  exact { h with
    md := h.md.but hbu fun g hg => by subst hg; exact ⟨h.vX, h.rX⟩
    own := OwnR.block h.own fun g hg => hbu.block g (World.ownsRow.lt h.own g hg).2 fun e => by have := (World.ownsRow.lt h.own g hg).1; omega
    but := h.but.trans' hbu fun g hgl e => by omega
    x0 := by rw [World.cell?_setCell_other _ _ _ _ (hne 2 0 (by decide))]; exact h.x0
    x1 := by rw [World.cell?_setCell_other _ _ _ _ (hne 2 1 (by decide))]; exact h.x1
    x2 := World.cell?_setCell_same _ _ _ h.x2
    x3 := by rw [World.cell?_setCell_other _ _ _ _ (hne 2 3 (by decide))]; exact h.x3
    fX := fun j => by rw [World.frozen?_setCell]; exact h.fX j }
theorem LQ.done (h : LQ w wr base v L R ts vR k vN v' L' R') {nums : List Int} {B : Option Addr} {RN : Nat → Prop} (hN : RowI wr RN B nums) (hRN : ∀ g, RN g → g < wr.heap.size → w.heap.size < g ∧ v'.ownBlock ≠ some g) :
    ∃ A ca R2, vR = .slice A (flL ts (L.map NdM.n) []).2.length ca ∧ OwN wr base v' L' R2 ∧ RowI wr R2 A (flL ts (L.map NdM.n) []).2 ∧ RowI wr R2 B nums ∧ (∀ g, R2 g → R g ∨ w.heap.size ≤ g) := by
  obtain ⟨A, ca, rfl, hr⟩ := own_rowI h.own
  have hbs := h.bs
  have hA : RowI wr (fun g => (.slice A (flL ts (L.map NdM.n) []).2.length ca : Value).ownBlock = some g) A (flL ts (L.map NdM.n) []).2 := by
    rcases hr with e | ⟨g, o, rfl, hg, hgl, hc⟩
    · exact .inl e
    · exact .inr ⟨g, o, rfl, rfl, hgl, hc⟩
  refine ⟨A, ca, fun g => R' g ∨ (g < wr.heap.size ∧ ((.slice A (flL ts (L.map NdM.n) []).2.length ca : Value).ownBlock = some g ∨ RN g)), rfl, h.md.mono (fun g hg => .inl hg) fun g hg => ?_, hA.mono fun g hg hl => .inr ⟨hl, .inl hg⟩, hN.mono fun g hg hl => .inr ⟨hl, .inr hg⟩, fun g hg => ?_⟩
  · rcases hg with hg | ⟨hl, hg | hg⟩
    · exact h.md.rR g hg
    · have := World.ownsRow.lt h.own g hg
      exact ⟨by omega, hl, (h.apart g hg).1⟩
    · have := hRN g hg hl
      exact ⟨by omega, hl, this.2⟩
  · rcases hg with hg | ⟨hl, hg | hg⟩
    · exact h.rR g hg
    · have := World.ownsRow.lt h.own g hg
      exact .inr (by omega)
    · have := (hRN g hg hl).1
      exact .inr (by omega)
end
end Go.Proofs.YtjgjacihdggimaaGreatDoor
