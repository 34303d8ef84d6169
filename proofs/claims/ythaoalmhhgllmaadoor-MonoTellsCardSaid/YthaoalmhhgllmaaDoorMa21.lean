/- Texts joined: MoF, MoK, RefJ, PlG, MoL, KvC, MoM. -/
import Derived.Test.YthaoalmhhgllmaaDoorMa20
import Derived.Test.YthaoalmhhgllmaaDoorMa08
import Derived.Test.YthaoalmhhgllmaaDoorMa10
import Derived.Test.YthaoalmhhgllmaaDoorMa19
import Derived.Test.YthaoalmhhgllmaaDoorMa07
import Derived.Test.YthaoalmhhgllmaaDoorMa01
import Derived.Test.YthaoalmhhgllmaaDoorMa05
import Derived.OwnWalk
import Derived.Deep.Onto
import Derived.Test.YthaoalmhhgllmaaDoorMa06
import Derived.Test.YthaoalmhhgllmaaDoorMa04
set_option linter.all false
namespace Go.Proofs.YthaoalmhhgllmaaDoor
open Go.RowKit
set_option maxHeartbeats 4000000 in
set_option maxRecDepth 10000 in
theorem way_no {l : List Kno} (t : Tr) (h1 : t.kind ≠ 1) (h3 : t.kind ≠ 3) (h4 : t.kind ≠ 4) (h5 : t.kind ≠ 5) (h6 : t.kind ≠ 6) : WayC l t := by
  intro w P A cap B lc hk hc
  have HE : Hid (wyT l t = 0) := Lib.hid (wy_rest h1 h3 h4 h5 h6)
  have s1 : (t.kind == 1) = false := by rw [beq_eq_false_iff_ne]; exact h1
  have s3 : (t.kind == 3) = false := by rw [beq_eq_false_iff_ne]; exact h3
  have s4 : (t.kind == 4) = false := by rw [beq_eq_false_iff_ne]; exact h4
  have s5 : (t.kind == 5) = false := by rw [beq_eq_false_iff_ne]; exact h5
  have s6 : (t.kind == 6) = false := by rw [beq_eq_false_iff_ne]; exact h6
  clear h1 h3 h4 h5 h6 hk hc
  go_enter Tryd.func23, Tryd.ntmps23
  go_wp2_with fail
  go_ret
  exact ⟨ret_int HE.out.symm, (Below.refl _ _).alloc (Nat.le_refl _) _⟩
set_option maxHeartbeats 4000000 in
set_option maxRecDepth 10000 in
theorem way_1 {l : List Kno} (hl : l.length ≤ maxLen) (t : Tr) (h : t.kind = 1) : WayC l t := by
  intro w P A cap B lc hk hc
  have HE : Hid (wyT l t = wAt t.c1 t.r1 l) := Lib.hid (wy_read h)
  have s1 : (t.kind == 1) = true := by rw [h]; rfl
  have s3 : (t.kind == 3) = false := by rw [h]; rfl
  have s4 : (t.kind == 4) = false := by rw [h]; rfl
  have s6 : (t.kind == 6) = false := by rw [h]; rfl
  have s5 : (t.kind == 5) = false := by rw [h]; rfl
  have hb0 : Below (w.heap.size + 1) (w.alloc (.cells #[.int .i64 t.kind, .int .i64 t.num, .int .i64 t.c1, .int .i64 t.r1, .int .i64 t.c2, .int .i64 t.r2, .string ⟨t.word.toArray⟩, .slice A t.kids.length cap] 29)) (w.alloc (.cells #[.int .i64 t.kind, .int .i64 t.num, .int .i64 t.c1, .int .i64 t.r1, .int .i64 t.c2, .int .i64 t.r2, .string ⟨t.word.toArray⟩, .slice A t.kids.length cap] 29)) := Below.refl _ _
  obtain ⟨⟨k0, k1, k2, k3, k4, k5, k6, k7⟩, kz, kb⟩ := parT hb0
  have HA := Lib.hid (wat_any l hl B lc t.c1 t.r1 _ (hc.below kb))
  clear h hl hk hc k0 k1 k2 k3 k4 k5 k6 k7 kz
  generalize wAt t.c1 t.r1 l = X at *
  go_enter Tryd.func23, Tryd.ntmps23
  go_wp2_with fail
  refine Calls.mono HA.out ?_; rintro e w1 ⟨rfl, b1⟩
  have hb1 := kb.trans (b1.mono (by simp))
  clear b1 kb hb0
  go_wp2_with fail
  go_ret
  exact ⟨ret_int HE.out.symm, hb1⟩
set_option maxHeartbeats 4000000 in
set_option maxRecDepth 10000 in
theorem way_3 {l : List Kno} (t a : Tr) (h : t.kind = 3) (h0 : t.kids[0]? = some a) (ih : WayC l a) : WayC l t := by
  intro w P A cap B lc hk hc
  have HE : Hid (wyT l t = flipW (wyT l a)) := Lib.hid (wy_neg h h0)
  have s1 : (t.kind == 1) = false := by rw [h]; rfl
  have s3 : (t.kind == 3) = true := by rw [h]; rfl
  have s4 : (t.kind == 4) = false := by rw [h]; rfl
  have s6 : (t.kind == 6) = false := by rw [h]; rfl
  have s5 : (t.kind == 5) = false := by rw [h]; rfl
  obtain ⟨g, o, rfl⟩ := hk.addr h0
  have HK := Lib.hid hk
  have Ha := Lib.hid h0
  have l0 : 0 < t.kids.length := (List.getElem?_eq_some_iff.1 h0).1
  have hb0 : Below (w.heap.size + 1) (w.alloc (.cells #[.int .i64 t.kind, .int .i64 t.num, .int .i64 t.c1, .int .i64 t.r1, .int .i64 t.c2, .int .i64 t.r2, .string ⟨t.word.toArray⟩, .slice (some ⟨g, o, none⟩) t.kids.length cap] 29)) (w.alloc (.cells #[.int .i64 t.kind, .int .i64 t.num, .int .i64 t.c1, .int .i64 t.r1, .int .i64 t.c2, .int .i64 t.r2, .string ⟨t.word.toArray⟩, .slice (some ⟨g, o, none⟩) t.kids.length cap] 29)) := Below.refl _ _
  obtain ⟨⟨k0, k1, k2, k3, k4, k5, k6, k7⟩, kz, kb⟩ := parT hb0
  obtain ⟨hga, Aa, cpa, ⟨q0, q1, q2, q3, q4, q5, q6, q7⟩, hka⟩ := HK.out.kidAt kb Ha.out
  simp only [Nat.zero_mul, Nat.add_zero] at q0 q1 q2 q3 q4 q5 q6 q7
  have HC0 := Lib.hid (ih _ _ Aa cpa B lc hka (hc.below kb))
  have HX := Lib.hid (fun w => wflip_any (wyT l a) w)
  clear hk hc h h0 ih hka hga k0 k1 k2 k3 k4 k5 k6 k7 kz HK Ha
  generalize wyT l t = J at *
  generalize wyT l a = X at *
  generalize flipW X = Y at *
  go_enter Tryd.func23, Tryd.ntmps23
  go_wp2_with fail
  refine Calls.mono HC0.out ?_; rintro e w1 ⟨rfl, b1⟩
  have hb1 := kb.trans (b1.mono (by simp))
  clear b1 kb hb0 q0 q1 q2 q3 q4 q5 q6 q7
  go_wp2_with fail
  refine Calls.mono (HX.out _) ?_; rintro e w2 ⟨rfl, b2⟩
  have hb2 := hb1.trans (b2.mono hb1.size)
  clear b2 hb1
  go_wp2_with fail
  go_ret
  exact ⟨ret_int HE.out.symm, hb2⟩
set_option maxHeartbeats 4000000 in
set_option maxRecDepth 10000 in
theorem way_4 {l : List Kno} (t : Tr) (h : t.kind = 4) (ih : OpC l t (wyT l t)) : WayC l t := by
  intro w P A cap B lc hk hc
  have s1 : (t.kind == 1) = false := by rw [h]; rfl
  have s3 : (t.kind == 3) = false := by rw [h]; rfl
  have s4 : (t.kind == 4) = true := by rw [h]; rfl
  have s6 : (t.kind == 6) = false := by rw [h]; rfl
  have s5 : (t.kind == 5) = false := by rw [h]; rfl
  have hb0 : Below (w.heap.size + 1) (w.alloc (.cells #[.int .i64 t.kind, .int .i64 t.num, .int .i64 t.c1, .int .i64 t.r1, .int .i64 t.c2, .int .i64 t.r2, .string ⟨t.word.toArray⟩, .slice A t.kids.length cap] 29)) (w.alloc (.cells #[.int .i64 t.kind, .int .i64 t.num, .int .i64 t.c1, .int .i64 t.r1, .int .i64 t.c2, .int .i64 t.r2, .string ⟨t.word.toArray⟩, .slice A t.kids.length cap] 29)) := Below.refl _ _
  obtain ⟨⟨k0, k1, k2, k3, k4, k5, k6, k7⟩, kz, kb⟩ := parT hb0
  have HO := Lib.hid (ih _ P A cap B lc (hk.kept (Kept.of_below kb)) (hc.below kb))
  clear hk hc h ih k0 k1 k2 k3 k4 k5 k6 k7 kz
  generalize wyT l t = X at *
  go_enter Tryd.func23, Tryd.ntmps23
  go_wp2_with fail
  refine Calls.mono HO.out ?_; rintro e w1 ⟨rfl, b1⟩
  have hb1 := kb.trans (b1.mono (by simp))
  clear b1 kb hb0
  go_wp2_with fail
  go_ret
  exact ⟨rfl, hb1⟩
theorem joinL_at {l : List Kno} {C : List (Int × Int)} {k : Nat} {x y : Int} (h : C[k]? = some (x, y)) : joinL ((C.take (k + 1)).map fun p => wAt p.1 p.2 l) = joinW (joinL ((C.take k).map fun p => wAt p.1 p.2 l)) (wAt x y l) := by
  rw [List.take_add_one, h, List.map_append]
  exact joinL_snoc _ _
set_option maxHeartbeats 4000000 in
set_option maxRecDepth 10000 in
theorem way_6 {l : List Kno} (hl : l.length ≤ maxLen) (t : Tr) (h : t.kind = 6) : WayC l t := by
  intro w P A cap B lc hk hc
  have HE : Hid (wyT l t = joinL ((cellsTo t.c1 t.r1 t.c2 t.r2 1024).map fun p => wAt p.1 p.2 l)) := Lib.hid (wy_span h)
  have s1 : (t.kind == 1) = false := by rw [h]; rfl
  have s3 : (t.kind == 3) = false := by rw [h]; rfl
  have s4 : (t.kind == 4) = false := by rw [h]; rfl
  have s6 : (t.kind == 6) = true := by rw [h]; rfl
  have s5 : (t.kind == 5) = false := by rw [h]; rfl
  have hb0 : Below (w.heap.size + 1) (w.alloc (.cells #[.int .i64 t.kind, .int .i64 t.num, .int .i64 t.c1, .int .i64 t.r1, .int .i64 t.c2, .int .i64 t.r2, .string ⟨t.word.toArray⟩, .slice A t.kids.length cap] 29)) (w.alloc (.cells #[.int .i64 t.kind, .int .i64 t.num, .int .i64 t.c1, .int .i64 t.r1, .int .i64 t.c2, .int .i64 t.r2, .string ⟨t.word.toArray⟩, .slice A t.kids.length cap] 29)) := Below.refl _ _
  obtain ⟨⟨k0, k1, k2, k3, k4, k5, k6, k7⟩, kz, kb⟩ := parT hb0
  have HL := Lib.hid hl
  have HC := Lib.hid hc
  have HCl := Lib.hid (fun w => rcells_any t.c1 t.r1 t.c2 t.r2 w)
  have hcl := cellsTo_le t.c1 t.r1 t.c2 t.r2 1024
  clear h hl hk hc k0 k1 k2 k3 k4 k5 k6 k7 kz
  generalize wyT l t = J at *
  generalize cellsTo t.c1 t.r1 t.c2 t.r2 1024 = C at *
  go_enter Tryd.func23, Tryd.ntmps23
  go_wp2_with fail
  refine (HCl.out _).mono ?_; rintro e w1 ⟨v6, rfl, hown, b1⟩
  obtain ⟨A6, cap6, rfl, hsh⟩ := own_shapeB hown
  have HS := Lib.hid hsh
  have hb1 := kb.trans (b1.mono (by simp))
  clear hsh hown b1 kb hb0 HCl
  go_wp2_with fail
  go_loopw [5, 7] (fun v n wr => ∃ k : Nat, k ≤ C.length ∧ n = .int .i64 (k : Int) ∧ v = .int .i64 (joinL ((C.take k).map fun p => wAt p.1 p.2 l)) ∧ Below w1.heap.size w1 wr) (fun _ n _ => C.length - (intOf n).toNat)
  case atStart => exact ⟨0, Nat.zero_le _, rfl, by rw [List.take_zero]; rfl, Below.refl _ _⟩
  case round =>
    obtain ⟨k, hk2, rfl, rfl, hb⟩ := hrel
    by_cases hlt : k < C.length
    · obtain ⟨x, y, hxy⟩ : ∃ x y, C[k]? = some (x, y) := ⟨_, _, List.getElem?_eq_getElem hlt⟩
      obtain ⟨g, rfl, hg1, hg2, hat⟩ := HS.out k hlt
      obtain ⟨a0, a1⟩ := at2_below hat hb hg2 k x y hxy
      have HT := Lib.hid (joinL_at (l := l) hxy)
      have HA := Lib.hid (wat_any l HL.out B lc x y wr (HC.out.below (hb1.trans (hb.mono hb1.size))))
      clear hat hxy
      generalize joinL ((C.take k).map fun p => wAt p.1 p.2 l) = Q at *
      generalize wAt x y l = Z at *
      go_wp2_with fail
      refine Calls.mono HA.out ?_; rintro e w2 ⟨rfl, b2⟩
      have hb2 := hb.trans (b2.mono hb.size)
      clear b2 HA
      go_wp2_with fail
      refine Calls.mono (wtwo_any Q Z _) ?_; rintro e w3 ⟨rfl, b3⟩
      have hb3 := hb2.trans (b3.mono hb2.size)
      clear b3 a0 a1 hb2
      go_wp2_with fail
      go_roundw
      case rel => exact ⟨k + 1, by omega, by go_num, by rw [HT.out], hb3⟩
      case measure => simp [intOf]; omega
    · have hkk : k = C.length := by omega
      subst hkk
      have HE2 : Hid (J = joinL ((C.take C.length).map fun p => wAt p.1 p.2 l)) := Lib.hid (by rw [HE.out, List.take_length])
      generalize joinL ((C.take C.length).map fun p => wAt p.1 p.2 l) = Q at *
      go_wp2_with fail
      go_ret
      exact ⟨ret_int HE2.out.symm, hb1.trans (hb.mono hb1.size)⟩
set_option maxHeartbeats 4000000 in
set_option maxRecDepth 10000 in
theorem way_5c {l : List Kno} (t : Tr) (h : t.kind = 5) (hwd : t.word = [67, 79, 85, 78, 84]) : WayC l t := by
  intro w P A cap B lc hk hc
  have HE : Hid (wyT l t = 0) := Lib.hid (by rw [wy_call h, if_pos hwd])
  have xC : (t.word == [67, 79, 85, 78, 84]) = true := by rw [hwd]; rfl
  have s1 : (t.kind == 1) = false := by rw [h]; rfl
  have s3 : (t.kind == 3) = false := by rw [h]; rfl
  have s4 : (t.kind == 4) = false := by rw [h]; rfl
  have s6 : (t.kind == 6) = false := by rw [h]; rfl
  have s5 : (t.kind == 5) = true := by rw [h]; rfl
  have hb0 : Below (w.heap.size + 1) (w.alloc (.cells #[.int .i64 t.kind, .int .i64 t.num, .int .i64 t.c1, .int .i64 t.r1, .int .i64 t.c2, .int .i64 t.r2, .string ⟨t.word.toArray⟩, .slice A t.kids.length cap] 29)) (w.alloc (.cells #[.int .i64 t.kind, .int .i64 t.num, .int .i64 t.c1, .int .i64 t.r1, .int .i64 t.c2, .int .i64 t.r2, .string ⟨t.word.toArray⟩, .slice A t.kids.length cap] 29)) := Below.refl _ _
  obtain ⟨⟨k0, k1, k2, k3, k4, k5, k6, k7⟩, kz, kb⟩ := parT hb0
  clear h hwd hk hc
  go_enter Tryd.func23, Tryd.ntmps23
  go_wp2_with fail
  go_ret
  exact ⟨ret_int HE.out.symm, kb⟩
set_option maxHeartbeats 4000000 in
set_option maxRecDepth 10000 in
theorem way_5 {l : List Kno} (t : Tr) (hlen : t.kids.length ≤ 1000000) (h : t.kind = 5) (hwd : t.word ≠ [67, 79, 85, 78, 84]) (ih : ∀ u ∈ t.kids, WayC l u) : WayC l t := by
  intro w P A cap B lc hk hc
  have HE : Hid (wyT l t = if t.word = [73, 70] ∧ (wyL l t.kids).getD 0 0 ≠ 0 then 3 else joinL (wyL l t.kids)) := Lib.hid (by rw [wy_call h, if_neg hwd])
  have xC : (t.word == [67, 79, 85, 78, 84]) = false := by rw [beq_eq_false_iff_ne]; exact hwd
  have s1 : (t.kind == 1) = false := by rw [h]; rfl
  have s3 : (t.kind == 3) = false := by rw [h]; rfl
  have s4 : (t.kind == 4) = false := by rw [h]; rfl
  have s6 : (t.kind == 6) = false := by rw [h]; rfl
  have s5 : (t.kind == 5) = true := by rw [h]; rfl
  have hb0 : Below (w.heap.size + 1) (w.alloc (.cells #[.int .i64 t.kind, .int .i64 t.num, .int .i64 t.c1, .int .i64 t.r1, .int .i64 t.c2, .int .i64 t.r2, .string ⟨t.word.toArray⟩, .slice A t.kids.length cap] 29)) (w.alloc (.cells #[.int .i64 t.kind, .int .i64 t.num, .int .i64 t.c1, .int .i64 t.r1, .int .i64 t.c2, .int .i64 t.r2, .string ⟨t.word.toArray⟩, .slice A t.kids.length cap] 29)) := Below.refl _ _
  obtain ⟨⟨k0, k1, k2, k3, k4, k5, k6, k7⟩, kz, kb⟩ := parT hb0
  have HK := Lib.hid hk
  have HC := Lib.hid hc
  have HI := Lib.hid ih
  clear h hwd hk hc ih
  generalize wyT l t = J at *
  go_enter Tryd.func23, Tryd.ntmps23
  go_wp2_with fail
  clear k0 k1 k2 k3 k4 k5 k6 k7 kz kb
  go_loopw [8, 9] (fun v n wr => ∃ i : Nat, i ≤ t.kids.length ∧ n = .int .i64 (i : Int) ∧ v = .int .i64 (joinL (wyL l (t.kids.take i))) ∧ Hid (0 < i → ¬ (t.word = [73, 70] ∧ (wyL l t.kids).getD 0 0 ≠ 0)) ∧ Below (w.heap.size + 1) (w.alloc (.cells #[.int .i64 t.kind, .int .i64 t.num, .int .i64 t.c1, .int .i64 t.r1, .int .i64 t.c2, .int .i64 t.r2, .string ⟨t.word.toArray⟩, .slice A t.kids.length cap] 29)) wr) (fun _ n _ => t.kids.length - (intOf n).toNat)
  case atStart => exact ⟨0, Nat.zero_le _, rfl, by rw [List.take_zero, wyL]; rfl, Lib.hid fun h => absurd h (Nat.lt_irrefl 0), Below.refl _ _⟩
  case round =>
    obtain ⟨i, hi, rfl, rfl, HP, hb⟩ := hrel
    obtain ⟨⟨k0, k1, k2, k3, k4, k5, k6, k7⟩, kz, kb⟩ := parT hb
    by_cases hlt : i < t.kids.length
    · have hu : t.kids[i]? = some (t.kids[i]'hlt) := List.getElem?_eq_getElem hlt
      obtain ⟨g, o, rfl⟩ := HK.out.addr hu
      obtain ⟨hg, A', cap', h8, hkv⟩ := HK.out.kidAt kb hu
      have HT := Lib.hid (joinL_take (l := l) hu)
      have HG := Lib.hid (wyL_at (l := l) hu)
      have HW := Lib.hid (HI.out _ (List.getElem_mem hlt) wr _ A' cap' B lc hkv (HC.out.below kb))
      generalize t.kids[i]'hlt = u at *
      obtain ⟨q0, q1, q2, q3, q4, q5, q6, q7⟩ := h8
      clear hkv hu hg
      generalize joinL (wyL l (t.kids.take i)) = Q at *
      generalize wyT l u = Z at *
      go_wp2_with fail
      refine Calls.mono HW.out ?_; rintro e w2 ⟨rfl, b2⟩
      have hb2 := hb.trans (b2.mono (by have := hb.size; simpa using this))
      clear b2 q0 q1 q2 q3 q4 q5 q6 q7 k0 k1 k2 k3 k4 k5 k6 k7 kz kb HW hb
      obtain ⟨⟨k0, k1, k2, k3, k4, k5, k6, k7⟩, kz, kb⟩ := parT hb2
      have HTW := Lib.hid (fun w => wtwo_any Q Z w)
      by_cases hif : t.word = [73, 70] ∧ i = 0 ∧ Z ≠ 0
      · have xI : (t.word == [73, 70]) = true := by rw [hif.1]; rfl
        have xi : ((i : Int) == 0) = true := by rw [hif.2.1]; rfl
        have xZ : (Z == 0) = false := by rw [beq_eq_false_iff_ne]; exact hif.2.2
        have xz : (Z != 0) = true := by simpa using hif.2.2
        have HF : Hid (J = 3) := Lib.hid (by
          have e := HG.out
          rw [hif.2.1] at e
          rw [HE.out, if_pos ⟨hif.1, by rw [e]; exact hif.2.2⟩])
        clear hif HTW
        go_wp2_with fail
        go_ret
        exact ⟨ret_int HF.out.symm, kb⟩
      · have HP2 : Hid (¬ (t.word = [73, 70] ∧ (wyL l t.kids).getD 0 0 ≠ 0)) := Lib.hid fun hc => hif (by
          by_cases hi0 : i = 0
          · have e := HG.out
            rw [hi0] at e
            exact ⟨hc.1, hi0, by rw [← e]; exact hc.2⟩
          · exact absurd hc (HP.out (by omega)))
        have hG : ∀ {p q r : Bool}, p = (t.word == [73, 70]) → q = ((i : Int) == 0) → r = (Z != 0) → (p && q && r) = false := by
          rintro p q r rfl rfl rfl
          cases h1 : (t.word == [73, 70]) with
          | false => rfl
          | true =>
            cases h2 : ((i : Int) == 0) with
            | false => rfl
            | true =>
              cases h3 : (Z != 0) with
              | false => rfl
              | true => exact absurd ⟨by simpa using h1, by simpa using h2, by simpa using h3⟩ hif
        have hH := hG rfl rfl rfl
        clear hG hif
        have HM : Hid ((t.word == [73, 70]) = false ∨ (t.word == [73, 70]) = true ∧ (((i : Int) == 0) = false ∨ ((i : Int) == 0) = true ∧ (Z != 0) = false ∧ (Z == 0) = true)) := Lib.hid (by
          cases h1 : (t.word == [73, 70]) with
          | false => exact .inl rfl
          | true =>
            cases h2 : ((i : Int) == 0) with
            | false => exact .inr ⟨rfl, .inl rfl⟩
            | true =>
              cases h3 : (Z != 0) with
              | false => exact .inr ⟨rfl, .inr ⟨rfl, rfl, by simpa using h3⟩⟩
              | true => rw [h1, h2, h3] at hH; cases hH)
        clear hH
        rcases HM.out with xI | ⟨xI, xi | ⟨xi, xz, xZ⟩⟩
        all_goals
          clear HM
          go_wp2_with fail
          refine Calls.mono (HTW.out _) ?_; rintro e w3 ⟨rfl, b3⟩
          have hb3 := hb2.trans (b3.mono (by have := hb2.size; simpa using this))
          clear b3 k0 k1 k2 k3 k4 k5 k6 k7 kz kb
          go_wp2_with fail
          go_roundw
          case rel => exact ⟨i + 1, by omega, by go_num, by rw [HT.out], Lib.hid fun _ => HP2.out, hb3⟩
          case measure => simp [intOf]; omega
    · have hii : i = t.kids.length := by omega
      subst hii
      have HF : Hid (J = joinL (wyL l (t.kids.take t.kids.length))) := Lib.hid (by
        rw [HE.out, if_neg ?_, List.take_length]
        intro hc
        cases hks : t.kids with
        | nil => rw [hks] at hc; exact hc.2 rfl
        | cons u us => exact HP.out (by rw [hks]; simp) hc)
      generalize joinL (wyL l (t.kids.take t.kids.length)) = Q at *
      go_wp2_with fail
      go_ret
      exact ⟨ret_int HF.out.symm, kb⟩
theorem way_any {l : List Kno} (hl : l.length ≤ maxLen) : ∀ {t : Tr}, Wid t → GE t → WayC l t := by
  intro t hW
  induction hW with
  | @mk k n c r d s w ks hlw hkw ih =>
    intro ge
    by_cases k1 : k = 1
    · exact way_1 hl _ k1
    by_cases k3 : k = 3
    · obtain ⟨a, ha⟩ := kids_3 ge.may (show (Tr.mk k n c r d s w ks).kind = 3 from k3)
      have ha : ks = [a] := ha
      subst ha
      exact way_3 _ a k3 rfl (ih a (by simp) (ge.kid (List.mem_cons_self ..)))
    by_cases k4 : k = 4
    · obtain ⟨a, b, ha⟩ := kids_4 ge.may (show (Tr.mk k n c r d s w ks).kind = 4 from k4)
      have ha : ks = [a, b] := ha
      subst ha
      have ga := ge.kid (u := a) (by simp [Tr.kids])
      have gb := ge.kid (u := b) (by simp [Tr.kids])
      refine way_4 _ k4 ?_
      rw [wy_op (show (Tr.mk k n c r d s w [a, b]).kind = 4 from k4) (show (Tr.mk k n c r d s w [a, b]).kids[0]? = some a from rfl) (show (Tr.mk k n c r d s w [a, b]).kids[1]? = some b from rfl)]
      exact op_any _ a b ge.len rfl rfl (ih a (by simp) ga) (ih b (by simp) gb) (cst_any (hkw a (by simp)) ga) (cst_any (hkw b (by simp)) gb)
    by_cases k6 : k = 6
    · exact way_6 hl _ k6
    by_cases k5 : k = 5
    · by_cases hwd : w = [67, 79, 85, 78, 84]
      · exact way_5c _ k5 hwd
      · exact way_5 _ ge.len k5 hwd fun u hu => ih u hu (ge.kid hu)
    exact way_no _ k1 k3 k4 k5 k6
set_option maxHeartbeats 4000000 in
set_option maxRecDepth 10000 in
theorem wOf_any {l : List Kno} (hl : l.length ≤ maxLen) (t : Tr) (hW : Wid t) (hf : Fit t) (hcn : cntT t ≤ 1000000) (hd : deepT t ≤ 1000000000) (w : World) (A : Option Addr) (ca : Nat) (B : Option Addr) (lc : Nat) (hA : KV w (fun _ => True) t A) (hc : ListK w B l) :
    Calls Tryd.prog 8 #[tv t A ca, .slice B l.length lc] w fun e w' => e = .returned (.int .i64 (owV l t)) ∧ Below w.heap.size w w' := by
  have hlen := hW.len
  unfold maxLen at hlen
  have H1 := Lib.hid (fun w1 (hb : Below w.heap.size w w1) => rRight_any t hd hW w1 (fun _ => True) A ca (hA.kept (Kept.of_below hb)))
  have H2 : Hid (rightT t = true → owV l t = wyT l t ∧ ∀ w1 (hb : Below w.heap.size w w1), Calls Tryd.prog 23 #[.agg #[.int .i64 t.kind, .int .i64 t.num, .int .i64 t.c1, .int .i64 t.r1, .int .i64 t.c2, .int .i64 t.r2, .string ⟨t.word.toArray⟩, .slice A t.kids.length ca], .slice B l.length lc] w1 fun e w' => e = .returned (.int .i64 (wyT l t)) ∧ Below w1.heap.size w1 w') := Lib.hid fun hr => by
    rw [right_same] at hr
    refine ⟨by unfold owV; rw [if_pos hr], fun w1 hb => ?_⟩
    exact way_any hl hW ⟨((right_iff t).1 hr).2.2, hf, hcn⟩ w1 (fun _ => True) A ca B lc (hA.kept (Kept.of_below hb)) (hc.below hb)
  have H3 : Hid (rightT t = false → owV l t = 3) := Lib.hid fun hr => by
    rw [right_same] at hr
    unfold owV; rw [if_neg (by rw [hr]; decide)]
  unfold tv at *
  clear hA hW hd hf hcn hc hl
  have hb0 : Below (w.heap.size + 1) (w.alloc (.cells #[.int .i64 t.kind, .int .i64 t.num, .int .i64 t.c1, .int .i64 t.r1, .int .i64 t.c2, .int .i64 t.r2, .string ⟨t.word.toArray⟩, .slice A t.kids.length ca] 29)) (w.alloc (.cells #[.int .i64 t.kind, .int .i64 t.num, .int .i64 t.c1, .int .i64 t.r1, .int .i64 t.c2, .int .i64 t.r2, .string ⟨t.word.toArray⟩, .slice A t.kids.length ca] 29)) := Below.refl _ _
  obtain ⟨⟨k0, k1, k2, k3, k4, k5, k6, k7⟩, kz, kb⟩ := parT hb0
  cases hR : rightT t
  all_goals
    rw [hR] at H1
  · have HE := Lib.hid (H3.out hR)
    have HC := Lib.hid (H1.out _ kb)
    clear H1 H2 H3 hR k0 k1 k2 k3 k4 k5 k6 k7
    go_enter Tryd.func8, Tryd.ntmps8
    go_wp2_with fail
    refine HC.out.mono ?_; rintro e w1 ⟨rfl, b1⟩
    have hb1 := kb.trans (b1.mono (by simp))
    clear b1 kb hb0
    go_wp2_with fail
    go_ret
    exact ⟨ret_int HE.out.symm, hb1⟩
  · obtain ⟨he, hcm⟩ := H2.out hR
    have HE := Lib.hid he
    have HC := Lib.hid (H1.out _ kb)
    have HW := Lib.hid hcm
    clear H1 H2 H3 hR he hcm k0 k1 k2 k3 k4 k5 k6 k7
    generalize wyT l t = X at *
    generalize owV l t = J at *
    go_enter Tryd.func8, Tryd.ntmps8
    go_wp2_with fail
    refine HC.out.mono ?_; rintro e w1 ⟨rfl, b1⟩
    have hb1 := hb0.trans (b1.mono (by simp))
    obtain ⟨⟨k0, k1, k2, k3, k4, k5, k6, k7⟩, kz1, kb1⟩ := parT hb1
    have HV := Lib.hid (HW.out w1 kb1)
    clear b1 kb hb0 HW
    go_wp2_with fail
    refine HV.out.mono ?_; rintro e w2 ⟨rfl, b2⟩
    have hb2 := kb1.trans (b2.mono kb1.size)
    clear b2 k0 k1 k2 k3 k4 k5 k6 k7
    go_wp2_with fail
    go_ret
    exact ⟨ret_int HE.out.symm, hb2⟩
end Go.Proofs.YthaoalmhhgllmaaDoor
namespace Go.Proofs.YthaoalmhhgllmaaDoor
open Go.RowKit
mutual
def cnT : Tr → Option Int
  | .mk k n _ _ _ _ _ ks => if k = 0 then some n else if k = 3 then (cnL ks).map fun z => -z else none
def cnL : List Tr → Option Int
  | [] => none
  | t :: _ => cnT t
end
def KstC (t : Tr) : Prop := ∀ (w : World) (P : Nat → Prop) (A : Option Addr) (cap : Nat), KV w P t A →
  Calls Tryd.prog 52 #[.agg #[.int .i64 t.kind, .int .i64 t.num, .int .i64 t.c1, .int .i64 t.r1, .int .i64 t.c2, .int .i64 t.r2, .string ⟨t.word.toArray⟩, .slice A t.kids.length cap]] w fun e w' => e = .returned (.tuple #[.int .i64 ((cnT t).getD 0), .bool (cnT t).isSome]) ∧ Below w.heap.size w w'
set_option maxHeartbeats 4000000 in
set_option maxRecDepth 10000 in
theorem kst_0 (t : Tr) (h : t.kind = 0) : KstC t := by
  intro w P A cap _
  have HE : Hid (cnT t = some t.num) := Lib.hid (by obtain ⟨k, n, c, r, d, s, wd, ks⟩ := t; rw [cnT]; exact if_pos h)
  have s0 : (t.kind == 0) = true := by rw [h]; rfl
  clear h
  go_enter Tryd.func52, Tryd.ntmps52
  go_wp2_with fail
  go_ret2
  exact ⟨ret_ib (by rw [HE.out]; rfl) (by rw [HE.out]; rfl), (Below.refl _ _).alloc (Nat.le_refl _) _⟩
set_option maxHeartbeats 4000000 in
set_option maxRecDepth 10000 in
theorem kst_no (t : Tr) (h0 : t.kind ≠ 0) (h3 : t.kind ≠ 3) : KstC t := by
  intro w P A cap _
  have HE : Hid (cnT t = none) := Lib.hid (by obtain ⟨k, n, c, r, d, s, wd, ks⟩ := t; rw [cnT]; rw [if_neg (show ¬ k = 0 from h0)]; exact if_neg h3)
  have s0 : (t.kind == 0) = false := by rw [beq_eq_false_iff_ne]; exact h0
  have s3 : (t.kind == 3) = false := by rw [beq_eq_false_iff_ne]; exact h3
  clear h0 h3
  go_enter Tryd.func52, Tryd.ntmps52
  go_wp2_with fail
  go_ret2
  exact ⟨ret_ib (by rw [HE.out]; rfl) (by rw [HE.out]; rfl), (Below.refl _ _).alloc (Nat.le_refl _) _⟩
theorem kst_b : ∀ (t : Tr) (s : Int), mayB t = true → Fit t → cnT t = some s → -9223372036854775807 ≤ s ∧ s ≤ 9223372036854775807
  | .mk k n c r d s' w ks, s, hm, .mk hn hf, hs => by
    rw [cnT] at hs
    by_cases k0 : k = 0
    · subst k0
      rw [if_pos rfl] at hs
      rw [mayB, if_pos rfl] at hm
      have h0 : 0 ≤ n := of_decide_eq_true (Bool.and_eq_true _ _ ▸ hm).2
      injection hs with hs
      omega
    · rw [if_neg k0] at hs
      by_cases k3 : k = 3
      · subst k3
        rw [if_pos rfl] at hs
        match ks, hm, hs, hf with
        | [], _, hs, _ => rw [cnL] at hs; cases hs
        | u :: us, hm, hs, hf =>
          rw [cnL] at hs
          cases hu : cnT u with
          | none => rw [hu] at hs; cases hs
          | some z =>
            rw [hu] at hs
            have hs : -z = s := Option.some.inj hs
            have := kst_b u z (may_kids hm u (List.mem_cons_self ..)) (hf u (List.mem_cons_self ..)) hu
            omega
      · rw [if_neg k3] at hs; cases hs
set_option maxHeartbeats 4000000 in
set_option maxRecDepth 10000 in
theorem kst_3 (t a : Tr) (hlen : t.kids.length ≤ 1000000) (h : t.kind = 3) (h0 : t.kids[0]? = some a) (hm : mayB a = true) (hf : Fit a) (ih : KstC a) : KstC t := by
  intro w P A cap hk
  have HE : Hid (cnT t = (cnT a).map fun z => -z) := Lib.hid (by
    obtain ⟨k, n, c, r, d, s, wd, ks⟩ := t
    have e : k = 3 := h
    subst e
    match ks, h0 with
    | u :: us, h0 => simp [Tr.kids] at h0; subst h0; rw [cnT, if_neg (by decide), if_pos rfl, cnL])
  have hbd : -9223372036854775807 ≤ (cnT a).getD 0 ∧ (cnT a).getD 0 ≤ 9223372036854775807 := by
    cases hc : cnT a with
    | none => exact ⟨by decide, by decide⟩
    | some z => exact kst_b a z hm hf hc
  have s0 : (t.kind == 0) = false := by rw [h]; rfl
  have s3 : (t.kind == 3) = true := by rw [h]; rfl
  obtain ⟨g, o, rfl⟩ := hk.addr h0
  have HK := Lib.hid hk
  have Ha := Lib.hid h0
  have l0 : 0 < t.kids.length := (List.getElem?_eq_some_iff.1 h0).1
  have hb0 : Below (w.heap.size + 1) (w.alloc (.cells #[.int .i64 t.kind, .int .i64 t.num, .int .i64 t.c1, .int .i64 t.r1, .int .i64 t.c2, .int .i64 t.r2, .string ⟨t.word.toArray⟩, .slice (some ⟨g, o, none⟩) t.kids.length cap] 29)) (w.alloc (.cells #[.int .i64 t.kind, .int .i64 t.num, .int .i64 t.c1, .int .i64 t.r1, .int .i64 t.c2, .int .i64 t.r2, .string ⟨t.word.toArray⟩, .slice (some ⟨g, o, none⟩) t.kids.length cap] 29)) := Below.refl _ _
  obtain ⟨⟨k0, k1, k2, k3, k4, k5, k6, k7⟩, kz, kb⟩ := parT hb0
  obtain ⟨hga, Aa, ca, ⟨q0, q1, q2, q3, q4, q5, q6, q7⟩, hka⟩ := HK.out.kidAt kb Ha.out
  simp only [Nat.zero_mul, Nat.add_zero] at q0 q1 q2 q3 q4 q5 q6 q7
  have HC0 := Lib.hid (ih _ _ Aa ca hka)
  clear hk h h0 ih hka hga hm hf
  clear k0 k1 k2 k3 k4 k5 k6 k7
  have HX : Hid ((cnT t).getD 0 = -((cnT a).getD 0) ∧ (cnT t).isSome = (cnT a).isSome) := Lib.hid (by rw [HE.out]; cases cnT a <;> exact ⟨rfl, rfl⟩)
  generalize (cnT a).getD 0 = X at *
  generalize (cnT a).isSome = Y at *
  go_enter Tryd.func52, Tryd.ntmps52
  go_wp2_with fail
  refine Calls.mono HC0.out ?_; rintro e w1 ⟨rfl, b1⟩
  have hb1 := kb.trans (b1.mono (by simp))
  clear b1 q0 q1 q2 q3 q4 q5 q6 q7 kb kz hb0
  have hw : IntKind.i64.wrap (-X) = -X := IntWalk.i64_in _ (by omega)
  go_wp2_with fail
  go_ret2
  exact ⟨ret_ib HX.out.1.symm HX.out.2.symm, hb1⟩
theorem kst_any : ∀ {t : Tr}, Wid t → GE t → KstC t := by
  intro t hW
  induction hW with
  | @mk k n c r d s w ks hlw _ ih =>
    intro ge
    by_cases k0 : k = 0
    · subst k0
      exact kst_0 _ rfl
    · by_cases k3 : k = 3
      · obtain ⟨a, ha⟩ := kids_3 ge.may (show (Tr.mk k n c r d s w ks).kind = 3 from k3)
        have ha : ks = [a] := ha
        subst ha
        exact kst_3 _ a ge.len k3 rfl (ge.kid (List.mem_cons_self ..)).may (ge.kid (List.mem_cons_self ..)).fit (ih a (by simp) (ge.kid (List.mem_cons_self ..)))
      · exact kst_no _ k0 k3
def SgE : Option Int → Option Int → Prop
  | none, none => True
  | some a, some b => (a < 0 ↔ b < 0) ∧ (a = 0 ↔ b = 0)
  | _, _ => False
theorem sg_cst : ∀ t : Tr, mayB t = true → SgE (cstT t) (cnT t)
  | .mk k n c r d s' w ks, hm => by
    rw [cstT, cnT]
    by_cases k0 : k = 0
    · subst k0
      rw [if_pos rfl, if_pos rfl]
      rw [mayB, if_pos rfl] at hm
      have h0 : 0 ≤ n := of_decide_eq_true (Bool.and_eq_true _ _ ▸ hm).2
      show (min n 1 < 0 ↔ n < 0) ∧ (min n 1 = 0 ↔ n = 0)
      omega
    · rw [if_neg k0, if_neg k0]
      by_cases k3 : k = 3
      · subst k3
        rw [if_pos rfl, if_pos rfl]
        match ks, hm with
        | [], _ => rw [cstL, cnL]; trivial
        | u :: us, hm =>
          have ih := sg_cst u (may_kids hm u (List.mem_cons_self ..))
          have hb := fun z (h : cstT u = some z) => cst_b u z (may_kids hm u (List.mem_cons_self ..)) h
          rw [cstL, cnL]
          cases h1 : cstT u with
          | none =>
            cases h2 : cnT u with
            | none => trivial
            | some b => rw [h1, h2] at ih; exact ih.elim
          | some a =>
            cases h2 : cnT u with
            | none => rw [h1, h2] at ih; exact ih.elim
            | some b =>
              rw [h1, h2] at ih
              have ih : (a < 0 ↔ b < 0) ∧ (a = 0 ↔ b = 0) := ih
              show (-a < 0 ↔ -b < 0) ∧ (-a = 0 ↔ -b = 0)
              omega
      · rw [if_neg k3, if_neg k3]; trivial
theorem sg_by {x a b : Int} (h : a < 0 ↔ b < 0) : byW x a = byW x b := by
  unfold byW
  by_cases ha : a < 0
  · rw [if_pos ha, if_pos (h.1 ha)]
  · rw [if_neg ha, if_neg fun hb => ha (h.2 hb)]
theorem sg_op {w : List UInt8} {x y : Int} {p p' q q' : Option Int} (hp : SgE p p') (hq : SgE q q') : opW w x y p q = opW w x y p' q' := by
  unfold opW
  cases p with
  | none =>
    cases p' with
    | some b => exact hp.elim
    | none =>
      cases q with
      | none =>
        cases q' with
        | some b => exact hq.elim
        | none => rfl
      | some c =>
        cases q' with
        | none => exact hq.elim
        | some d =>
          have hq : (c < 0 ↔ d < 0) ∧ (c = 0 ↔ d = 0) := hq
          have e : byW x c = byW x d := sg_by hq.1
          simp only [e, hq.2]
  | some a =>
    cases p' with
    | none => exact hp.elim
    | some b =>
      have hp : (a < 0 ↔ b < 0) ∧ (a = 0 ↔ b = 0) := hp
      have e1 : byW y a = byW y b := sg_by hp.1
      cases q with
      | none =>
        cases q' with
        | some b => exact hq.elim
        | none => simp only [e1]
      | some c =>
        cases q' with
        | none => exact hq.elim
        | some d =>
          have hq : (c < 0 ↔ d < 0) ∧ (c = 0 ↔ d = 0) := hq
          have e : byW x c = byW x d := sg_by hq.1
          simp only [e, hq.2]
end Go.Proofs.YthaoalmhhgllmaaDoor
namespace Go.Proofs.YthaoalmhhgllmaaDoor
theorem hasB_iff (a b c d x y : Int) : hasB a b c d x y = true ↔ wholeB a b c d = true ∧ a ≤ x ∧ x ≤ c ∧ b ≤ y ∧ y ≤ d := by
  unfold hasB; simp
end Go.Proofs.YthaoalmhhgllmaaDoor
namespace Go.Proofs.YthaoalmhhgllmaaDoor
open Go.RowKit
theorem cellsTo_skip {a b c d : Int} {i : Nat} : ∀ n : Nat, (∀ j, i ≤ j → j < i + n → hasB a b c d (atC (j : Int)) (atR (j : Int)) = false) → cellsTo a b c d (i + n) = cellsTo a b c d i
  | 0, _ => rfl
  | n + 1, h => by
    have h1 := cellsTo_skip (a := a) (b := b) (c := c) (d := d) (i := i) n fun j h1 h2 => h j h1 (by omega)
    rw [← h1]
    exact cellsTo_no (h (i + n) (by omega) (by omega))
theorem cellsTo_eq {a b c d : Int} {i k : Nat} (hk : i ≤ k) (h : ∀ j, i ≤ j → j < k → hasB a b c d (atC (j : Int)) (atR (j : Int)) = false) : cellsTo a b c d i = cellsTo a b c d k := by
  obtain ⟨n, rfl⟩ := Nat.exists_eq_add_of_le hk
  exact (cellsTo_skip n h).symm
theorem has_not {a b c d : Int} {j : Nat} (hj : j < 1024) (h : ¬ (a ≤ (j : Int) % 16 ∧ (j : Int) % 16 ≤ c ∧ b ≤ (j : Int) / 16 ∧ (j : Int) / 16 ≤ d)) : hasB a b c d (atC (j : Int)) (atR (j : Int)) = false := by
  rw [atC_of j hj, atR_of j hj]
  cases hx : hasB a b c d ((j : Int) % 16) ((j : Int) / 16) with
  | false => rfl
  | true => exact absurd ((hasB_iff _ _ _ _ _ _).1 hx).2 h
theorem cells_none {a b c d : Int} (hw : wholeB a b c d = false) : cellsTo a b c d 1024 = [] := by
  refine (cellsTo_eq (i := 0) (Nat.zero_le _) fun j _ _ => ?_).symm
  unfold hasB
  rw [hw, Bool.false_and]

set_option maxHeartbeats 400000 in
theorem pcells_no (a b c d : Int) (w : World) (hW : wholeB a b c d = false) :
    Calls Tryd.prog 51 #[.agg #[.int .i64 a, .int .i64 b, .int .i64 c, .int .i64 d]] w fun e w' => ∃ v, e = .returned v ∧
      w'.ownsRow w.heap.size 24 2 v (cellsTo a b c d 1024).length (cells2 (cellsTo a b c d 1024)) ∧ Below w.heap.size w w' := by
  have HC := Lib.hid (cells_none hW)
  have HW := Lib.hid (pwhole_any a b c d)
  rw [hW] at HW
  rw [HC.out]
  clear hW
  go_enter Tryd.func51, Tryd.ntmps51
  go_wp2_with fail
  refine (HW.out _).mono ?_; rintro e w1 ⟨rfl, b1⟩
  have h1 : Below w.heap.size w w1 := ((Below.refl _ _).alloc (Nat.le_refl _) _).trans (b1.mono (by simp))
  clear b1
  go_wp2_with fail
  go_ret
  exact ⟨_, rfl, World.ownsRow_nil _ _ _ _, h1⟩

set_option maxHeartbeats 2000000 in
set_option maxRecDepth 10000 in
theorem pcells_yes (a b c d : Nat) (w : World) (hW : wholeB a b c d = true) :
    Calls Tryd.prog 51 #[.agg #[.int .i64 a, .int .i64 b, .int .i64 c, .int .i64 d]] w fun e w' => ∃ v, e = .returned v ∧
      w'.ownsRow w.heap.size 24 2 v (cellsTo a b c d 1024).length (cells2 (cellsTo a b c d 1024)) ∧ Below w.heap.size w w' := by
  obtain ⟨i0, hi0, hz0, hz1, hz2⟩ := info_parts place_info
  have HI := Lib.hid hi0
  have HZ0 := Lib.hid hz0
  have HZ1 := Lib.hid hz1
  have HZ2 := Lib.hid hz2
  clear hi0 hz0 hz1 hz2
  have HW := Lib.hid (pwhole_any a b c d)
  have hq := (wholeB_iff _ _ _ _).1 hW
  have Hhas : Hid (∀ j : Nat, j < 1024 → (a : Int) ≤ (j : Int) % 16 → (j : Int) % 16 ≤ c → (b : Int) ≤ (j : Int) / 16 → (j : Int) / 16 ≤ d → hasB a b c d (atC (j : Int)) (atR (j : Int)) = true) :=
    Lib.hid fun j hj h1 h2 h3 h4 => by rw [atC_of j hj, atR_of j hj]; exact (hasB_iff _ _ _ _ _ _).2 ⟨hW, h1, h2, h3, h4⟩
  rw [hW] at HW
  clear hW
  have ha : a ≤ 15 := by omega
  have hb : b ≤ 63 := by omega
  have hc : c ≤ 15 := by omega
  have hd : d ≤ 63 := by omega
  have hac : a ≤ c := by omega
  have hbd : b ≤ d := by omega
  clear hq
  have HE0 : Hid (cellsTo a b c d (16 * b) = []) := Lib.hid (cellsTo_eq (i := 0) (Nat.zero_le _) fun j _ h2 => has_not (by omega) (by omega)).symm
  have HEd : Hid (cellsTo a b c d (16 * (d + 1)) = cellsTo a b c d 1024) := Lib.hid (cellsTo_eq (by omega) fun j h1 h2 => has_not (by omega) (by omega))
  have HEs : Hid (∀ row : Nat, b ≤ row → row ≤ d → cellsTo a b c d (16 * row) = cellsTo a b c d (16 * row + a)) := Lib.hid fun row h1 h2 => cellsTo_eq (by omega) fun j h3 h4 => has_not (by omega) (by omega)
  have HEe : Hid (∀ row : Nat, b ≤ row → row ≤ d → cellsTo a b c d (16 * row + (c + 1)) = cellsTo a b c d (16 * (row + 1))) := Lib.hid fun row h1 h2 => cellsTo_eq (by omega) fun j h3 h4 => has_not (by omega) (by omega)
  have HEy : Hid (∀ row col : Nat, b ≤ row → row ≤ d → a ≤ col → col ≤ c → cellsTo a b c d (16 * row + (col + 1)) = cellsTo a b c d (16 * row + col) ++ [((col : Int), (row : Int))]) := Lib.hid fun row col h1 h2 h3 h4 => by
    have hj : 16 * row + col < 1024 := by omega
    have h := cellsTo_yes (Hhas.out (16 * row + col) hj (by omega) (by omega) (by omega) (by omega))
    rw [atC_of _ hj, atR_of _ hj] at h
    have e1 : ((16 * row + col : Nat) : Int) % 16 = (col : Int) := by omega
    have e2 : ((16 * row + col : Nat) : Int) / 16 = (row : Int) := by omega
    rw [e1, e2] at h
    exact h
  clear Hhas
  go_enter Tryd.func51, Tryd.ntmps51
  go_wp2_with fail
  refine (HW.out _).mono ?_; rintro e w1 ⟨rfl, b1⟩
  have j0 := keep_fresh b1 0 (v := .int .i64 a) rfl
  have j1 := keep_fresh b1 1 (v := .int .i64 b) rfl
  have j2 := keep_fresh b1 2 (v := .int .i64 c) rfl
  have j3 := keep_fresh b1 3 (v := .int .i64 d) rfl
  have h1 : Below w.heap.size w w1 := ((Below.refl _ _).alloc (Nat.le_refl _) _).trans (b1.mono (by simp))
  clear b1
  go_wp2_with fail
  go_loopw [3, 4] (fun v n wr => ∃ row : Nat, b ≤ row ∧ row ≤ d + 1 ∧ n = .int .i64 row ∧ wr.ownsRow w1.heap.size 24 2 v (cellsTo a b c d (16 * row)).length (cells2 (cellsTo a b c d (16 * row))) ∧
      Below w1.heap.size w1 wr) (fun _ n _ => leftG n)
  case atStart => exact ⟨b, Nat.le_refl _, by omega, rfl, by rw [HE0.out]; exact World.ownsRow_nil _ _ _ _, Below.refl _ _⟩
  case round =>
    obtain ⟨row, hr0, hr1, rfl, hown, hb0⟩ := hrel
    have HO := Lib.hid hown
    have HB := Lib.hid hb0
    have k0 := keep_cell hb0 j0
    have k2 := keep_cell hb0 j2
    have k3 := keep_cell hb0 j3
    clear hown hb0
    by_cases hlt : row ≤ d
    · have HES := Lib.hid (HEs.out row hr0 hlt)
      have HEE := Lib.hid (HEe.out row hr0 hlt)
      go_wp2_with fail
      go_loopw [3, 5] (fun v n wq => ∃ col : Nat, a ≤ col ∧ col ≤ c + 1 ∧ n = .int .i64 col ∧ wq.ownsRow w1.heap.size 24 2 v (cellsTo a b c d (16 * row + col)).length (cells2 (cellsTo a b c d (16 * row + col))) ∧
          Below w1.heap.size w1 wq) (fun _ n _ => leftG n)
      case atStart => exact ⟨a, Nat.le_refl _, by omega, rfl, by rw [← HES.out]; exact HO.out, HB.out⟩
      case round =>
        obtain ⟨col, hc0, hc1, rfl, hown, hb0⟩ := hrel
        have HO2 := Lib.hid hown
        have HB2 := Lib.hid hb0
        have hlen := cellsTo_le a b c d (16 * row + col)
        have m2 := keep_cell hb0 j2
        have zq := hb0.size
        clear hown hb0
        by_cases hle : col ≤ c
        · have HY := Lib.hid (HEy.out row col hr0 hlt hc0 hle)
          go_wp2_with (at_builtin
                       refine wpList_append_own _ rfl _ _ 90 rfl w1.heap.size 24 i0 (.agg #[.int .i64 0, .int .i64 0]) 2 16 Tryd.underlying90 HI.out HZ0.out HZ1.out HZ2.out rfl (by decide) _ _ _ rfl (HO2.out.alloc _)
                         ⟨wr.heap.size, 0, none⟩ 1 1 [.int .i64 col, .int .i64 row] rfl rfl ?c1 ?c2 ?c3 ?c4 ?c5 ?_)
          case c1 =>
            intro j u hj
            match j, hj with
            | 0, hj => simp at hj; subst hj; simp [Addr.add]
            | 1, hj => simp at hj; subst hj; simp [Addr.add]
          case c2 => intro u hu; simp at hu; rcases hu with rfl | rfl <;> rfl
          case c3 => unfold maxLen; omega
          case c4 => omega
          case c5 => simp; omega
          intro v' w4 hown4 hg4 _
          rw [← cells2_snoc] at hown4
          have e5 : (cellsTo a b c d (16 * row + col)).length + 1 = (cellsTo a b c d (16 * row + (col + 1))).length := by rw [HY.out]; simp
          rw [e5, ← HY.out] at hown4
          have HO4 := Lib.hid hown4
          clear hown4 e5
          have hb4 : Below w1.heap.size w1 w4 := (HB2.out.alloc zq _).grown hg4 (by simp; omega) (fun g hgg => (HO2.out.lt g hgg).1)
          clear hg4
          go_wp2_with fail
          go_roundw
          case rel => exact ⟨col + 1, by omega, by omega, by go_num, HO4.out, hb4⟩
          case measure => simp [leftG, intOf]; omega
        · have hce : col = c + 1 := by omega
          subst hce
          have HO3 : Hid (wr.ownsRow w1.heap.size 24 2 _ (cellsTo a b c d (16 * (row + 1))).length (cells2 (cellsTo a b c d (16 * (row + 1))))) := Lib.hid (by rw [← HEE.out]; exact HO2.out)
          go_wp2_with fail
          go_roundw
          case rel => exact ⟨row + 1, by omega, by omega, by go_num, HO3.out, HB2.out⟩
          case measure => simp [leftG, intOf]; omega
    · have hre : row = d + 1 := by omega
      subst hre
      have HO3 : Hid (wr.ownsRow w1.heap.size 24 2 _ (cellsTo a b c d 1024).length (cells2 (cellsTo a b c d 1024))) := Lib.hid (by rw [← HEd.out]; exact HO.out)
      have h2 := h1.trans (HB.out.mono h1.size)
      have hz := h1.size
      go_wp2_with fail
      go_ret
      exact ⟨_, rfl, HO3.out.mono hz, h2⟩

theorem pcells_any (a b c d : Int) (w : World) :
    Calls Tryd.prog 51 #[.agg #[.int .i64 a, .int .i64 b, .int .i64 c, .int .i64 d]] w fun e w' => ∃ v, e = .returned v ∧
      w'.ownsRow w.heap.size 24 2 v (cellsTo a b c d 1024).length (cells2 (cellsTo a b c d 1024)) ∧ Below w.heap.size w w' := by
  cases hW : wholeB a b c d with
  | false => exact pcells_no a b c d w hW
  | true =>
    have hq := (wholeB_iff _ _ _ _).1 hW
    obtain ⟨a', rfl⟩ := Int.eq_ofNat_of_zero_le hq.1.1
    obtain ⟨b', rfl⟩ := Int.eq_ofNat_of_zero_le hq.1.2.2.1
    obtain ⟨c', rfl⟩ := Int.eq_ofNat_of_zero_le hq.2.1.1
    obtain ⟨d', rfl⟩ := Int.eq_ofNat_of_zero_le hq.2.1.2.2.1
    exact pcells_yes a' b' c' d' w hW
end Go.Proofs.YthaoalmhhgllmaaDoor
namespace Go.Proofs.YthaoalmhhgllmaaDoor
open Go.RowKit
theorem cells_b64 {a b c d : Int} {n : Nat} (hn : n ≤ 1024) : ∀ p ∈ cellsTo a b c d n, B64 p.1 ∧ B64 p.2 := by
  intro p hp
  unfold cellsTo at hp
  obtain ⟨j, hj, rfl⟩ := List.mem_map.1 hp
  have hj2 := List.mem_range.1 (List.mem_filter.1 hj).1
  unfold atC atR B64
  constructor <;> omega
theorem cells_one {c r : Int} (h : rightB c r = true) : cellsTo c r c r 1024 = [(c, r)] := by
  have hq : 0 ≤ c ∧ c ≤ 15 ∧ 0 ≤ r ∧ r ≤ 63 := of_decide_eq_true h
  obtain ⟨c', rfl⟩ := Int.eq_ofNat_of_zero_le hq.1
  obtain ⟨r', rfl⟩ := Int.eq_ofNat_of_zero_le hq.2.2.1
  have hlt : 16 * r' + c' < 1024 := by omega
  have h0 : cellsTo (c' : Int) r' c' r' 0 = cellsTo (c' : Int) r' c' r' (16 * r' + c') := cellsTo_eq (Nat.zero_le _) fun j _ hj => has_not (by omega) (by omega)
  have h1 : cellsTo (c' : Int) r' c' r' (16 * r' + c' + 1) = cellsTo (c' : Int) r' c' r' 1024 := cellsTo_eq (by omega) fun j hj _ => has_not (by omega) (by omega)
  have ec : atC ((16 * r' + c' : Nat) : Int) = c' := by unfold atC; rw [if_pos (by omega)]; omega
  have er : atR ((16 * r' + c' : Nat) : Int) = r' := by unfold atR; rw [if_pos (by omega)]; omega
  rw [← h1, cellsTo_yes (by
    rw [ec, er]
    unfold hasB wholeB
    rw [h]
    simp), ← h0, cellsTo_zero, ec, er]
  rfl
theorem wIn_one {l : List Kno} {c r : Int} (h : rightB c r = true) : wIn l c r c r = wAt c r l := by
  unfold wIn
  rw [cells_one h]
  show joinW 0 (wAt c r l) = _
  rw [joinW_z rfl]
  exact clean_ok (ok_wAt c r l)
theorem list2 {w : World} {g : Nat} {a b : Int} (h0 : w.cell? ⟨g, 0, none⟩ = some (.int .i64 a)) (h1 : w.cell? ⟨g, 1, none⟩ = some (.int .i64 b)) : ListI w (some ⟨g, 0, none⟩) [a, b] := fun _ => ⟨g, 0, rfl, fun i q hi j u hj => by
  match j, hj with
  | 0, hj =>
    simp at hj; subst hj
    match i, hi with
    | 0, hi => simp at hi; subst hi; simpa using h0
    | 1, hi => simp at hi; subst hi; simpa using h1⟩
theorem mjoin2 (a b : Int) (ha : OkW a) (A : Option Addr) (cap : Nat) (w : World) (hc : ListI w A [a, b]) : Calls Tryd.prog 10 #[.slice A 2 cap] w fun e w' => e = .returned (.int .i64 (joinW a (cleanW b))) ∧ Below w.heap.size w w' := by
  have h := mjoin_any [a, b] (by show 2 ≤ maxLen; unfold maxLen; omega) A cap w hc
  have e : joinL [a, b] = joinW a (cleanW b) := by
    show joinW (joinW 0 a) b = _
    rw [joinW_z rfl, clean_ok ha]
    have hk := clean_ok (ok_clean b)
    unfold joinW
    rw [hk]
  rw [e] at h
  exact h
set_option maxHeartbeats 4000000 in
set_option maxRecDepth 10000 in
theorem mwithin_any (l : List Kno) (b : Nat) (p0 p1 p2 p3 : Int) (w : World) (hm : MapW w b l) :
    Calls Tryd.prog 35 #[.map (some b), .agg #[.int .i64 p0, .int .i64 p1, .int .i64 p2, .int .i64 p3]] w fun e w' => e = .returned (.int .i64 (wIn l p0 p1 p2 p3)) ∧ Below w.heap.size w w' := by
  have HM := Lib.hid hm
  have HCl := Lib.hid (fun w => pcells_any p0 p1 p2 p3 w)
  have hcl := cellsTo_le p0 p1 p2 p3 1024
  have HB := Lib.hid (cells_b64 (a := p0) (b := p1) (c := p2) (d := p3) (n := 1024) (Nat.le_refl _))
  have HE : Hid (wIn l p0 p1 p2 p3 = joinL ((cellsTo p0 p1 p2 p3 1024).map fun p => wAt p.1 p.2 l)) := Lib.hid rfl
  generalize wIn l p0 p1 p2 p3 = R at *
  generalize cellsTo p0 p1 p2 p3 1024 = C at *
  clear hm
  go_enter Tryd.func35, Tryd.ntmps35
  go_wp2_with fail
  refine (HCl.out _).mono ?_; rintro e w1 ⟨v9, rfl, hown9, b1⟩
  obtain ⟨A9, cap9, rfl, hsh⟩ := own_shapeB hown9
  have HS := Lib.hid hsh
  have hb1 : Below w.heap.size w w1 := ((Below.refl _ _).alloc (Nat.le_refl _) _).trans (b1.mono (by simp))
  clear hsh hown9 b1 HCl
  go_wp2_with fail
  go_loopw [5, 11] (fun v n wr => ∃ k : Nat, k ≤ C.length ∧ n = .int .i64 (k : Int) ∧ v = .int .i64 (joinL ((C.take k).map fun p => wAt p.1 p.2 l)) ∧ Below w1.heap.size w1 wr) (fun _ n _ => C.length - (intOf n).toNat)
  case atStart => exact ⟨0, Nat.zero_le _, rfl, by rw [List.take_zero]; rfl, Below.refl _ _⟩
  case round =>
    obtain ⟨k, hk2, rfl, rfl, hb⟩ := hrel
    by_cases hlt : k < C.length
    · obtain ⟨x, y, hxy⟩ : ∃ x y, C[k]? = some (x, y) := ⟨_, _, List.getElem?_eq_getElem hlt⟩
      obtain ⟨g, rfl, hg1, hg2, hat⟩ := HS.out k hlt
      obtain ⟨a0, a1⟩ := at2_below hat hb hg2 k x y hxy
      have HT := Lib.hid (joinL_at (l := l) hxy)
      have HXY := Lib.hid (HB.out (x, y) (List.mem_of_getElem? hxy))
      have ho := ok_joinL ((C.take k).map fun p => wAt p.1 p.2 l)
      have HMw : Hid (∀ w', Below wr.heap.size wr w' → MapW w' b l) := Lib.hid fun w' h => (HM.out.below (hb1.trans (hb.mono hb1.size))).below h
      have HZ := Lib.hid (clean_wR x y l)
      generalize joinL ((C.take k).map fun p => wAt p.1 p.2 l) = Q at *
      have HJ := Lib.hid (fun z A cap w h => mjoin2 Q z ho A cap w h)
      obtain ⟨z, hz⟩ : ∃ z, wR x y l = z := ⟨_, rfl⟩
      rw [hz] at HZ
      have HV := Lib.hid hz
      have zs := hb.size
      clear hat hxy ho hz
      go_wp2_with (at_lookup; refine wpList_ways _ rfl _ _ rfl rfl (HMw.out _ (by repeat' (first | with_reducible exact Below.refl _ _ | with_reducible exact Nat.le_refl _ | with_reducible refine Below.alloc ?_ ?_ _))) HXY.out.1 HXY.out.2 rfl HV.out ?_)
      refine Calls.mono (HJ.out z _ _ _ (list2 (by simp [go_sem]) (by simp [go_sem]))) ?_; rintro e w3 ⟨rfl, b3⟩
      have hb3 : Below w1.heap.size w1 w3 := by
        refine Below.trans ?_ (b3.mono ?_)
        · repeat' (first | with_reducible assumption | exact Nat.le_succ _ | with_reducible refine Below.alloc ?_ ?_ _ | (simp; omega))
        · simp; omega
      clear b3 a0 a1
      go_wp2_with fail
      go_roundw
      case rel => exact ⟨k + 1, by omega, by go_num, by rw [HT.out, HZ.out], hb3⟩
      case measure => simp [intOf]; omega
    · have hkk : k = C.length := by omega
      subst hkk
      have HE2 : Hid (R = joinL ((C.take C.length).map fun p => wAt p.1 p.2 l)) := Lib.hid (by rw [HE.out, List.take_length])
      generalize joinL ((C.take C.length).map fun p => wAt p.1 p.2 l) = Q at *
      go_wp2_with fail
      go_ret
      exact ⟨ret_int HE2.out.symm, hb1.trans (hb.mono hb1.size)⟩
end Go.Proofs.YthaoalmhhgllmaaDoor
namespace Go.Proofs.YthaoalmhhgllmaaDoor
open Go.ChangeShapes Go.WideShapes Go.RowKit Go.Deep
section
variable {H : Type} {enc : TypeId × Value → H} {w : World} {base : Nat} {spare : Nat → Bool} {held : Bool}
set_option maxRecDepth 100000 in
set_option maxHeartbeats 2000000 in
theorem tree_of_trodC : ∀ (fuel : Nat) {cs : List Value} {x : DataW H × List MemPlace}, DataW.trod enc Tryd.prog w base spare held fuel 29 cs = some x →
    ∃ (t : Tr) (A : Option Addr) (cap : Nat), cs = [.int .i64 t.kind, .int .i64 t.num, .int .i64 t.c1, .int .i64 t.r1, .int .i64 t.c2, .int .i64 t.r2, .string ⟨t.word.toArray⟩, .slice A t.kids.length cap] ∧ KVc w (fun _ => True) t A cap ∧ Wid t ∧ Fit t := by
  intro fuel
  induction fuel using Nat.strongRecOn with
  | ind fuel ih =>
  intro cs x h
  obtain ⟨xs, n, rfl, rfl, hcl, hxl, hf⟩ := DataW.trod_struct Tryd.underlying29 h
  rw [cells_tree] at hcl
  obtain ⟨c0, c1, c2, c3, c4, c5, c6, c7, rfl⟩ : ∃ c0 c1 c2 c3 c4 c5 c6 c7, cs = [c0, c1, c2, c3, c4, c5, c6, c7] := by
    match cs, hcl with
    | [a, b, c, d, e, f, g, h], _ => exact ⟨a, b, c, d, e, f, g, h, rfl⟩
  match xs, hxl with
  | [y0, y1, y2, y3, y4], _ =>
  have g0 : DataW.trod enc Tryd.prog w base spare held n 22 [c0] = some y0 := by have := hf 0 _ rfl; rw [show ∀ z : TypeId, z = 22 → Tryd.prog.cellsOf z = 1 from fun z hz => by rw [hz]; exact cells_kind] at this; exact this; rfl
  have g1 : DataW.trod enc Tryd.prog w base spare held n 3 [c1] = some y1 := by have := hf 1 _ rfl; rw [show ∀ z : TypeId, z = 3 → Tryd.prog.cellsOf z = 1 from fun z hz => by rw [hz]; exact cells_int] at this; exact this; rfl
  have g2 : DataW.trod enc Tryd.prog w base spare held n 26 [c2, c3, c4, c5] = some y2 := by have := hf 2 _ rfl; rw [show ∀ z : TypeId, z = 26 → Tryd.prog.cellsOf z = 4 from fun z hz => by rw [hz]; exact cells_range] at this; exact this; rfl
  have g3 : DataW.trod enc Tryd.prog w base spare held n 9 [c6] = some y3 := by have := hf 3 _ rfl; rw [show ∀ z : TypeId, z = 9 → Tryd.prog.cellsOf z = 1 from fun z hz => by rw [hz]; exact cells_str] at this; exact this; rfl
  have g4 : DataW.trod enc Tryd.prog w base spare held n 27 [c7] = some y4 := by have := hf 4 _ rfl; rw [show ∀ z : TypeId, z = 27 → Tryd.prog.cellsOf z = 1 from fun z hz => by rw [hz]; exact cells_kids] at this; exact this; rfl
  clear h hf
  obtain ⟨k, e0, _, _⟩ := DataW.trod_int Tryd.underlying22 g0
  obtain ⟨m, e1, _, wm⟩ := DataW.trod_int Tryd.underlying3 g1
  obtain ⟨p0, p1, n2, _, _, h0, h1⟩ := trod_struct2 Tryd.underlying26 g2
  simp only [cells_place] at h0 h1
  obtain ⟨a, b, e2⟩ := trodPlace rfl h0
  obtain ⟨c, d, e3⟩ := trodPlace rfl h1
  obtain ⟨s, e4, _, _⟩ := DataW.trod_string Tryd.underlying9 g3
  simp at e0 e1 e2 e3 e4
  obtain ⟨rfl, rfl⟩ := e2
  obtain ⟨rfl, rfl⟩ := e3
  subst e0 e1 e4
  have hm := le_of_wf wm
  clear g0 g1 g2 g3 h0 h1
  rcases DataW.trod_slice Tryd.underlying27 g4 with ⟨e5, _⟩ | ⟨ad, len, cap, el, rs, n4, rfl, e5, _, _, hlc, hcm, hel, helem, _, _⟩
  · simp at e5
    subst e5
    exact ⟨.mk k m a b c d s.data.toList [], none, 0, by simp [Tr.kind, Tr.num, Tr.c1, Tr.r1, Tr.c2, Tr.r2, Tr.word, Tr.kids], KVc.mk' (Nat.le_refl _) (.inl rfl), .mk (Nat.zero_le _) (fun t ht => by cases ht), .mk hm (fun t ht => by cases ht)⟩
  · simp at e5
    subst e5
    have key : ∀ i, i < len → ∃ q : Tr × Option Addr × Nat, (w.cell? (ad.add (i * 8)) = some (.int .i64 q.1.kind) ∧ w.cell? (ad.add (i * 8 + 1)) = some (.int .i64 q.1.num) ∧ w.cell? (ad.add (i * 8 + 2)) = some (.int .i64 q.1.c1) ∧ w.cell? (ad.add (i * 8 + 3)) = some (.int .i64 q.1.r1) ∧
        w.cell? (ad.add (i * 8 + 4)) = some (.int .i64 q.1.c2) ∧ w.cell? (ad.add (i * 8 + 5)) = some (.int .i64 q.1.r2) ∧ w.cell? (ad.add (i * 8 + 6)) = some (.string ⟨q.1.word.toArray⟩) ∧ w.cell? (ad.add (i * 8 + 7)) = some (.slice q.2.1 q.1.kids.length q.2.2)) ∧ KVc w (fun _ => True) q.1 q.2.1 q.2.2 ∧ Wid q.1 ∧ Fit q.1 := by
      intro i hi
      have h1 := helem i hi
      rw [cells_tree] at h1
      obtain ⟨y, hy⟩ : ∃ y, el[i]? = some y := ⟨el[i]'(by omega), List.getElem?_eq_getElem (by omega)⟩
      rw [hy] at h1
      obtain ⟨ce, hce, hte⟩ := Option.bind_eq_some_iff.1 h1
      obtain ⟨t, A, ca, rfl, hk, hw, hfi⟩ := ih n4 (by omega) hte
      obtain ⟨_, _, hcell⟩ := World.cells?_some hce
      refine ⟨(t, A, ca), ⟨?_, ?_, ?_, ?_, ?_, ?_, ?_, ?_⟩, hk, hw, hfi⟩
      · have := hcell 0 (by omega); rw [add_add] at this; simpa using this
      · have := hcell 1 (by omega); rw [add_add] at this; simpa using this
      · have := hcell 2 (by omega); rw [add_add] at this; simpa using this
      · have := hcell 3 (by omega); rw [add_add] at this; simpa using this
      · have := hcell 4 (by omega); rw [add_add] at this; simpa using this
      · have := hcell 5 (by omega); rw [add_add] at this; simpa using this
      · have := hcell 6 (by omega); rw [add_add] at this; simpa using this
      · have := hcell 7 (by omega); rw [add_add] at this; simpa using this
    haveI : Inhabited (Tr × Option Addr × Nat) := ⟨(leaf0, none, 0)⟩
    obtain ⟨Q, hQ⟩ := choose_lt key
    have hlen : ((List.range len).map fun i => (Q i).1).length = len := by simp
    refine ⟨.mk k m a b c d s.data.toList ((List.range len).map fun i => (Q i).1), some ad, cap, by simp [Tr.kind, Tr.num, Tr.c1, Tr.r1, Tr.c2, Tr.r2, Tr.word, Tr.kids], KVc.mk' (by show ((List.range len).map fun i => (Q i).1).length ≤ cap; rw [hlen]; exact hlc) ?_, .mk (by rw [hlen]; omega) (fun t ht => ?_), .mk hm (fun t ht => ?_)⟩
    · by_cases hz : len = 0
      · left; subst hz; rfl
      · right
        obtain ⟨g, o, spot⟩ := ad
        have h00 := (hQ 0 (by omega)).1.1
        have hspot : spot = none := by simpa [Addr.add] using World.cell?_spot h00
        subst hspot
        refine ⟨g, o, rfl, trivial, ?_, KLc.of fun i t hi => ?_⟩
        · rw [add_plain] at h00
          exact Lib.lt_of_cell h00
        · have hi' : ((List.range len).map fun i => (Q i).1)[i]? = some t := hi
          have hlt : i < len := by
            have := (List.getElem?_eq_some_iff.1 hi').1
            simpa using this
          have hq : (Q i).1 = t := by simpa [hlt] using hi'
          obtain ⟨⟨q0, q1, q2, q3, q4, q5, q6, q7⟩, hk, _, _⟩ := hQ i hlt
          rw [add_plain] at q0 q1 q2 q3 q4 q5 q6 q7
          rw [hq] at q0 q1 q2 q3 q4 q5 q6 q7 hk
          refine ⟨(Q i).2.1, (Q i).2.2, ?_, hk⟩
          rw [Nat.mul_comm 8 i]
          exact ⟨q0, q1, q2, q3, q4, q5, q6, q7⟩
    · obtain ⟨i, hi, rfl⟩ := List.mem_map.1 ht
      exact (hQ i (by simpa using hi)).2.2.1
    · obtain ⟨i, hi, rfl⟩ := List.mem_map.1 ht
      exact (hQ i (by simpa using hi)).2.2.2
set_option maxRecDepth 100000 in
theorem open_treeC {r : Reach} {b0 : Nat} {v : Value} {d : DataW H} {p : List MemPlace} (hv : Value.okWide Tryd.prog w r b0 29 v) (h : DataW.Trod enc Tryd.prog w base spare held 29 v d p) :
    ∃ (t : Tr) (A : Option Addr) (cap : Nat), v = tv t A cap ∧ KVc w (fun _ => True) t A cap ∧ Wid t ∧ Fit t := by
  obtain ⟨cs, rfl, hsz⟩ := okWide_struct Tryd.underlying29 hv
  obtain ⟨fuel, hf⟩ := h
  obtain ⟨t, A, cap, he, hk, hw, hfi⟩ := tree_of_trodC fuel hf
  refine ⟨t, A, cap, ?_, hk, hw, hfi⟩
  unfold tv
  obtain ⟨l⟩ := cs
  simp [Value.cells] at he
  rw [he]
end
end Go.Proofs.YthaoalmhhgllmaaDoor
namespace Go.Proofs.YthaoalmhhgllmaaDoor
open Go.RowKit
def OfC (l : List Kno) (b : Nat) (t : Tr) : Prop := ∀ (w : World) (P : Nat → Prop) (A : Option Addr) (cap : Nat), KVc w P t A cap → MapW w b l →
  Calls Tryd.prog 21 #[.map (some b), .agg #[.int .i64 t.kind, .int .i64 t.num, .int .i64 t.c1, .int .i64 t.r1, .int .i64 t.c2, .int .i64 t.r2, .string ⟨t.word.toArray⟩, .slice A t.kids.length cap]] w fun e w' => e = .returned (.int .i64 (wyT l t)) ∧ Below w.heap.size w w'
set_option maxHeartbeats 4000000 in
set_option maxRecDepth 10000 in
theorem mall_any {l : List Kno} {b : Nat} (t : Tr) (hlen : t.kids.length ≤ 1000000) (ih : ∀ u ∈ t.kids, OfC l b u) (i0 : Nat) (w : World) (P : Nat → Prop) (g o o' n cap ct : Nat) (hk : KVc w P t (some ⟨g, o, none⟩) ct) (hm : MapW w b l) (ho : o' = o + i0 * 8) (hn : n = (t.kids.drop i0).length) :
    Calls Tryd.prog 54 #[.map (some b), .slice (some ⟨g, o', none⟩) n cap] w fun e w' => e = .returned (.int .i64 (joinL (wyL l (t.kids.drop i0)))) ∧ Below w.heap.size w w' := by
  have HK := Lib.hid hk
  have HM := Lib.hid hm
  have HI := Lib.hid ih
  have HO := Lib.hid ho
  have hL : (t.kids.drop i0).length ≤ 1000000 := by rw [List.length_drop]; omega
  obtain ⟨K, hKd⟩ : ∃ K, t.kids.drop i0 = K := ⟨_, rfl⟩
  have HKd : Hid (∀ (k : Nat) (u : Tr), K[k]? = some u → t.kids[i0 + k]? = some u) := Lib.hid fun k u h => by rw [← hKd, List.getElem?_drop] at h; exact h
  rw [hKd] at hn hL ⊢
  subst hn
  clear hk hm ih ho hlen hKd
  go_enter Tryd.func54, Tryd.ntmps54
  go_wp2_with fail
  go_loopw [5, 10] (fun v m wr => ∃ k : Nat, k ≤ K.length ∧ m = .int .i64 (k : Int) ∧ v = .int .i64 (joinL (wyL l (K.take k))) ∧ Below w.heap.size w wr) (fun _ m _ => K.length - (intOf m).toNat)
  case atStart => exact ⟨0, Nat.zero_le _, rfl, by rw [List.take_zero, wyL]; rfl, Below.refl _ _⟩
  case round =>
    obtain ⟨k, hk2, rfl, rfl, hb⟩ := hrel
    by_cases hlt : k < K.length
    · obtain ⟨u, hu⟩ : ∃ u, K[k]? = some u := ⟨_, List.getElem?_eq_getElem hlt⟩
      have hu2 := HKd.out k u hu
      obtain ⟨hg, A', cap', ⟨q0, q1, q2, q3, q4, q5, q6, q7⟩, hkv⟩ := HK.out.kidAt hb hu2
      have eo : o + (i0 + k) * 8 = o' + k * 8 := by rw [HO.out]; omega
      rw [eo] at q0 q1 q2 q3 q4 q5 q6 q7
      have HT := Lib.hid (joinL_take (l := l) hu)
      have hoq := ok_joinL (wyL l (K.take k))
      have HW : Hid (∀ w', Below wr.heap.size wr w' → Calls Tryd.prog 21 #[.map (some b), .agg #[.int .i64 u.kind, .int .i64 u.num, .int .i64 u.c1, .int .i64 u.r1, .int .i64 u.c2, .int .i64 u.r2, .string ⟨u.word.toArray⟩, .slice A' u.kids.length cap']] w' fun e w2 => e = .returned (.int .i64 (wyT l u)) ∧ Below w'.heap.size w' w2) :=
        Lib.hid fun w' h => HI.out u (List.mem_of_getElem? hu2) w' _ A' cap' (hkv.below h) ((HM.out.below hb).below h)
      have hov := ok_wy l u
      generalize joinL (wyL l (K.take k)) = Q at *
      generalize wyT l u = Z at *
      have HJ := Lib.hid (fun A cap w h => mjoin2 Q Z hoq A cap w h)
      have hcz := clean_ok hov
      rw [hcz] at HJ
      have zs := hb.size
      clear hkv hu hu2 hoq hov hcz hg eo
      go_wp2_with fail
      refine Calls.mono (HW.out _ ((Below.refl _ _).alloc (Nat.le_refl _) _)) ?_; rintro e w2 ⟨rfl, b2⟩
      have hb2 : Below w.heap.size w w2 := hb.trans ((((Below.refl _ _).alloc (Nat.le_refl _) _).trans (b2.mono (by simp))).mono hb.size)
      clear b2 q0 q1 q2 q3 q4 q5 q6 q7
      go_wp2_with fail
      refine Calls.mono (HJ.out _ _ _ (list2 (by simp [go_sem]) (by simp [go_sem]))) ?_; rintro e w3 ⟨rfl, b3⟩
      have hb3 : Below w.heap.size w w3 := (hb2.alloc hb2.size _).trans (b3.mono (by have := hb2.size; simp; omega))
      clear b3
      go_wp2_with fail
      go_roundw
      case rel => exact ⟨k + 1, by omega, by go_num, by rw [HT.out], hb3⟩
      case measure => simp [intOf]; omega
    · have hkk : k = K.length := by omega
      subst hkk
      rw [List.take_length]
      go_wp2_with fail
      go_ret
      exact ⟨rfl, hb⟩
end Go.Proofs.YthaoalmhhgllmaaDoor
