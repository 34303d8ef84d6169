/- Texts joined: MoN, MoO, MoP, MoQ. -/
import Derived.Test.YthaoalmhhgllmaaDoorMb23
import Derived.Test.YthaoalmhhgllmaaDoorMb05
import Derived.Deep.RegionHeld3
set_option linter.all false
namespace Go.Proofs.YthaoalmhhgllmaaDoor
open Go.RowKit
def CallW (l : List Kno) (b : Nat) (t : Tr) : Prop := ∀ (w : World) (P : Nat → Prop) (A : Option Addr) (cap : Nat), KVc w P t A cap → MapW w b l →
  Calls Tryd.prog 37 #[.map (some b), .string ⟨t.word.toArray⟩, .slice A t.kids.length cap] w fun e w' => e = .returned (.int .i64 (wyT l t)) ∧ Below w.heap.size w w'
theorem joinL_zero (l : List Int) : joinL (0 :: l) = joinL l := rfl
set_option maxHeartbeats 4000000 in
set_option maxRecDepth 10000 in
theorem call_c {l : List Kno} {b : Nat} (t : Tr) (h : t.kind = 5) (hwd : t.word = [67, 79, 85, 78, 84]) : CallW l b t := by
  intro w P A cap hk hm
  have HE : Hid (wyT l t = 0) := Lib.hid (by rw [wy_call h, if_pos hwd])
  have xIF : (t.word == [73, 70]) = false := by rw [hwd]; rfl
  have xSUM : (t.word == [83, 85, 77]) = false := by rw [hwd]; rfl
  have xMIN : (t.word == [77, 73, 78]) = false := by rw [hwd]; rfl
  have xMAX : (t.word == [77, 65, 88]) = false := by rw [hwd]; rfl
  clear h hwd hk hm
  go_enter Tryd.func37, Tryd.ntmps37
  go_wp2_with fail
  go_ret
  exact ⟨ret_int HE.out.symm, Below.refl _ _⟩
theorem mall_0 {l : List Kno} {b : Nat} (t : Tr) (hlen : t.kids.length ≤ 1000000) (h0 : 0 < t.kids.length) (ih : ∀ u ∈ t.kids, OfC l b u) (w : World) (P : Nat → Prop) (A : Option Addr) (cap : Nat) (hk : KVc w P t A cap) (hm : MapW w b l) :
    Calls Tryd.prog 54 #[.map (some b), .slice A t.kids.length cap] w fun e w' => e = .returned (.int .i64 (joinL (wyL l t.kids))) ∧ Below w.heap.size w w' := by
  obtain ⟨g, o, rfl⟩ := hk.kv.addr (List.getElem?_eq_getElem h0)
  exact mall_any t hlen ih 0 w P g o o t.kids.length cap cap hk hm (by omega) rfl
set_option maxHeartbeats 4000000 in
set_option maxRecDepth 10000 in
theorem call_sumW {l : List Kno} {b : Nat} (t : Tr) (hlen : t.kids.length ≤ 1000000) (h0 : 0 < t.kids.length) (h : t.kind = 5) (hwd : t.word = [83, 85, 77]) (ih : ∀ u ∈ t.kids, OfC l b u) : CallW l b t := by
  intro w P A cap hk hm
  have HE : Hid (wyT l t = joinL (wyL l t.kids)) := Lib.hid (by rw [wy_call h, if_neg (by rw [hwd]; decide), if_neg (by rintro ⟨e, _⟩; rw [hwd] at e; exact absurd e (by decide))])
  have xIF : (t.word == [73, 70]) = false := by rw [hwd]; rfl
  have xSUM : (t.word == [83, 85, 77]) = true := by rw [hwd]; rfl
  have xMIN : (t.word == [77, 73, 78]) = false := by rw [hwd]; rfl
  have xMAX : (t.word == [77, 65, 88]) = false := by rw [hwd]; rfl
  have HA := Lib.hid (mall_0 t hlen h0 ih w P A cap hk hm)
  clear h hwd hk hm ih
  generalize joinL (wyL l t.kids) = X at *
  go_enter Tryd.func37, Tryd.ntmps37
  go_wp2_with fail
  refine Calls.mono HA.out ?_; rintro e w1 ⟨rfl, b1⟩
  go_wp2_with fail
  go_ret
  exact ⟨ret_int HE.out.symm, b1⟩
set_option maxHeartbeats 4000000 in
set_option maxRecDepth 10000 in
theorem call_minW {l : List Kno} {b : Nat} (t : Tr) (hlen : t.kids.length ≤ 1000000) (h0 : 0 < t.kids.length) (h : t.kind = 5) (hwd : t.word = [77, 73, 78]) (ih : ∀ u ∈ t.kids, OfC l b u) : CallW l b t := by
  intro w P A cap hk hm
  have HE : Hid (wyT l t = joinL (wyL l t.kids)) := Lib.hid (by rw [wy_call h, if_neg (by rw [hwd]; decide), if_neg (by rintro ⟨e, _⟩; rw [hwd] at e; exact absurd e (by decide))])
  have xIF : (t.word == [73, 70]) = false := by rw [hwd]; rfl
  have xSUM : (t.word == [83, 85, 77]) = false := by rw [hwd]; rfl
  have xMIN : (t.word == [77, 73, 78]) = true := by rw [hwd]; rfl
  have xMAX : (t.word == [77, 65, 88]) = false := by rw [hwd]; rfl
  have HA := Lib.hid (mall_0 t hlen h0 ih w P A cap hk hm)
  clear h hwd hk hm ih
  generalize joinL (wyL l t.kids) = X at *
  go_enter Tryd.func37, Tryd.ntmps37
  go_wp2_with fail
  refine Calls.mono HA.out ?_; rintro e w1 ⟨rfl, b1⟩
  go_wp2_with fail
  go_ret
  exact ⟨ret_int HE.out.symm, b1⟩
set_option maxHeartbeats 4000000 in
set_option maxRecDepth 10000 in
theorem call_maxW {l : List Kno} {b : Nat} (t : Tr) (hlen : t.kids.length ≤ 1000000) (h0 : 0 < t.kids.length) (h : t.kind = 5) (hwd : t.word = [77, 65, 88]) (ih : ∀ u ∈ t.kids, OfC l b u) : CallW l b t := by
  intro w P A cap hk hm
  have HE : Hid (wyT l t = joinL (wyL l t.kids)) := Lib.hid (by rw [wy_call h, if_neg (by rw [hwd]; decide), if_neg (by rintro ⟨e, _⟩; rw [hwd] at e; exact absurd e (by decide))])
  have xIF : (t.word == [73, 70]) = false := by rw [hwd]; rfl
  have xSUM : (t.word == [83, 85, 77]) = false := by rw [hwd]; rfl
  have xMIN : (t.word == [77, 73, 78]) = false := by rw [hwd]; rfl
  have xMAX : (t.word == [77, 65, 88]) = true := by rw [hwd]; rfl
  have HA := Lib.hid (mall_0 t hlen h0 ih w P A cap hk hm)
  clear h hwd hk hm ih
  generalize joinL (wyL l t.kids) = X at *
  go_enter Tryd.func37, Tryd.ntmps37
  go_wp2_with fail
  refine Calls.mono HA.out ?_; rintro e w1 ⟨rfl, b1⟩
  go_wp2_with fail
  go_ret
  exact ⟨ret_int HE.out.symm, b1⟩
set_option maxHeartbeats 4000000 in
set_option maxRecDepth 10000 in
theorem call_ifW {l : List Kno} {b : Nat} (t u0 u1 u2 : Tr) (hks : t.kids = [u0, u1, u2]) (h : t.kind = 5) (hwd : t.word = [73, 70]) (ih : ∀ u ∈ t.kids, OfC l b u) : CallW l b t := by
  intro w P A cap hk hm
  have hlen : t.kids.length = 3 := by rw [hks]; rfl
  have h0 : t.kids[0]? = some u0 := by rw [hks]; rfl
  have HE : Hid (wyT l t = if wyT l u0 ≠ 0 then 3 else joinL (wyL l (t.kids.drop 1))) := Lib.hid (by
    rw [wy_call h, if_neg (by rw [hwd]; decide), hks]
    show (if t.word = [73, 70] ∧ (wyL l [u0, u1, u2]).getD 0 0 ≠ 0 then (3 : Int) else joinL (wyL l [u0, u1, u2])) = if wyT l u0 ≠ 0 then 3 else joinL (wyL l [u1, u2])
    rw [wyL]
    show (if t.word = [73, 70] ∧ wyT l u0 ≠ 0 then (3 : Int) else joinL (wyT l u0 :: wyL l [u1, u2])) = _
    by_cases e : wyT l u0 = 0
    · rw [if_neg (fun h => h.2 e), if_neg (fun h => h e), e, joinL_zero]
    · rw [if_pos ⟨hwd, e⟩, if_pos e])
  have xIF : (t.word == [73, 70]) = true := by rw [hwd]; rfl
  have xSUM : (t.word == [83, 85, 77]) = false := by rw [hwd]; rfl
  have xMIN : (t.word == [77, 73, 78]) = false := by rw [hwd]; rfl
  have xMAX : (t.word == [77, 65, 88]) = false := by rw [hwd]; rfl
  obtain ⟨g, o, rfl⟩ := hk.kv.addr h0
  obtain ⟨hga, Aa, cpa, ⟨q0, q1, q2, q3, q4, q5, q6, q7⟩, hka⟩ := hk.kidAt (Below.refl _ w) h0
  simp only [Nat.zero_mul, Nat.add_zero] at q0 q1 q2 q3 q4 q5 q6 q7
  have HC0 := Lib.hid (ih u0 (List.mem_of_getElem? h0) w _ Aa cpa hka hm)
  have HA : Hid (∀ w1, Below w.heap.size w w1 → ∀ o' c', o' = o + 8 → Calls Tryd.prog 54 #[.map (some b), .slice (some ⟨g, o', none⟩) 2 c'] w1 fun e w' => e = .returned (.int .i64 (joinL (wyL l (t.kids.drop 1)))) ∧ Below w1.heap.size w1 w') :=
    Lib.hid fun w1 hb o' c' ho => mall_any t (by omega) ih 1 w1 _ g o o' 2 c' cap (hk.below hb) (hm.below hb) (by omega) (by rw [List.length_drop, hlen])
  have hc1 : ¬ cap = 1 := by have := hk.cap; omega
  have hc3 : 3 ≤ cap := by have := hk.cap; omega
  rw [hlen]
  clear h hwd hk hm ih hka hga h0 hks hlen
  generalize joinL (wyL l (t.kids.drop 1)) = X at *
  generalize wyT l u0 = Z at *
  generalize wyT l t = J at *
  by_cases hz : Z = 0
  · have dz : (Z != 0) = false := by simpa using hz
    have HF : Hid (J = X) := Lib.hid (by rw [HE.out, if_neg (fun h => h hz)])
    clear HE hz
    go_enter Tryd.func37, Tryd.ntmps37
    go_wp2_with fail
    refine Calls.mono HC0.out ?_; rintro e w1 ⟨rfl, b1⟩
    clear q0 q1 q2 q3 q4 q5 q6 q7 HC0
    go_wp2_with fail
    refine Calls.mono (HA.out _ b1 _ _ (by first | rfl | (simp; done) | omega)) ?_; rintro e w2 ⟨rfl, b2⟩
    go_wp2_with fail
    go_ret
    exact ⟨ret_int HF.out.symm, b1.trans (b2.mono b1.size)⟩
  · have dz : (Z != 0) = true := by simpa using hz
    have HF : Hid (J = 3) := Lib.hid (by rw [HE.out, if_pos hz])
    clear HE hz HA
    go_enter Tryd.func37, Tryd.ntmps37
    go_wp2_with fail
    refine Calls.mono HC0.out ?_; rintro e w1 ⟨rfl, b1⟩
    clear q0 q1 q2 q3 q4 q5 q6 q7 HC0
    go_wp2_with fail
    go_ret
    exact ⟨ret_int HF.out.symm, b1⟩
end Go.Proofs.YthaoalmhhgllmaaDoor
namespace Go.Proofs.YthaoalmhhgllmaaDoor
open Go.RowKit
theorem par2T {w w1 : World} {v0 v1 v2 v3 v4 v5 v6 v7 u0 u1 u2 u3 u4 u5 u6 u7 : Value} (hb : Below (w.heap.size + 1 + 1) ((w.alloc (.cells #[v0, v1, v2, v3, v4, v5, v6, v7] 29)).alloc (.cells #[u0, u1, u2, u3, u4, u5, u6, u7] 29)) w1) :
    (w1.cell? ⟨w.heap.size, 0, none⟩ = some v0 ∧ w1.cell? ⟨w.heap.size, 1, none⟩ = some v1 ∧ w1.cell? ⟨w.heap.size, 2, none⟩ = some v2 ∧ w1.cell? ⟨w.heap.size, 3, none⟩ = some v3 ∧ w1.cell? ⟨w.heap.size, 4, none⟩ = some v4 ∧ w1.cell? ⟨w.heap.size, 5, none⟩ = some v5 ∧ w1.cell? ⟨w.heap.size, 6, none⟩ = some v6 ∧ w1.cell? ⟨w.heap.size, 7, none⟩ = some v7) ∧
    (w1.cell? ⟨w.heap.size + 1, 0, none⟩ = some u0 ∧ w1.cell? ⟨w.heap.size + 1, 1, none⟩ = some u1 ∧ w1.cell? ⟨w.heap.size + 1, 2, none⟩ = some u2 ∧ w1.cell? ⟨w.heap.size + 1, 3, none⟩ = some u3 ∧ w1.cell? ⟨w.heap.size + 1, 4, none⟩ = some u4 ∧ w1.cell? ⟨w.heap.size + 1, 5, none⟩ = some u5 ∧ w1.cell? ⟨w.heap.size + 1, 6, none⟩ = some u6 ∧ w1.cell? ⟨w.heap.size + 1, 7, none⟩ = some u7) ∧ w.heap.size + 1 < w1.heap.size ∧ Below w.heap.size w w1 := by
  have hs := hb.size
  simp at hs
  refine ⟨⟨?_, ?_, ?_, ?_, ?_, ?_, ?_, ?_⟩, ⟨?_, ?_, ?_, ?_, ?_, ?_, ?_, ?_⟩, by omega, (((Below.refl _ _).alloc (Nat.le_refl _) _).alloc (by simp) _).trans (hb.mono (by omega))⟩ <;> (rw [hb.cell (by simp; try omega)]; simp [go_sem])
theorem join_less {a b : Int} (ha : OkW a) (hb : OkW b) : joinW b (flipW a) = flipW (joinW a (flipW b)) := by
  rcases ha with rfl | rfl | rfl | rfl <;> rcases hb with rfl | rfl | rfl | rfl <;> decide
set_option maxHeartbeats 16000000 in
set_option maxRecDepth 10000 in
theorem mop_any {l : List Kno} {b : Nat} (wd : List UInt8) (hlv : 1 ≤ lvl wd) (u v : Tr) (iha : OfC l b u) (ihb : OfC l b v) (cu : KstC u) (cv : KstC v) (w : World) (P Q : Nat → Prop) (Aa Ab : Option Addr) (ca cb : Nat) (hku : KVc w P u Aa ca) (hkv : KVc w Q v Ab cb) (hm : MapW w b l) :
    Calls Tryd.prog 36 #[.map (some b), .string ⟨wd.toArray⟩, .agg #[.int .i64 u.kind, .int .i64 u.num, .int .i64 u.c1, .int .i64 u.r1, .int .i64 u.c2, .int .i64 u.r2, .string ⟨u.word.toArray⟩, .slice Aa u.kids.length ca], .agg #[.int .i64 v.kind, .int .i64 v.num, .int .i64 v.c1, .int .i64 v.r1, .int .i64 v.c2, .int .i64 v.r2, .string ⟨v.word.toArray⟩, .slice Ab v.kids.length cb]] w fun e w' => e = .returned (.int .i64 (opW wd (wyT l u) (wyT l v) (cnT u) (cnT v))) ∧ Below w.heap.size w w' := by
  have HE : Hid (opW wd (wyT l u) (wyT l v) (cnT u) (cnT v) = opB wd (wyT l u) (wyT l v) ((cnT u).getD 0) ((cnT v).getD 0) (cnT u).isSome (cnT v).isSome) := Lib.hid (opW_B _ _ _ _ _)
  have hb0 : Below (w.heap.size + 1 + 1) ((w.alloc (.cells #[.int .i64 u.kind, .int .i64 u.num, .int .i64 u.c1, .int .i64 u.r1, .int .i64 u.c2, .int .i64 u.r2, .string ⟨u.word.toArray⟩, .slice Aa u.kids.length ca] 29)).alloc (.cells #[.int .i64 v.kind, .int .i64 v.num, .int .i64 v.c1, .int .i64 v.r1, .int .i64 v.c2, .int .i64 v.r2, .string ⟨v.word.toArray⟩, .slice Ab v.kids.length cb] 29)) ((w.alloc (.cells #[.int .i64 u.kind, .int .i64 u.num, .int .i64 u.c1, .int .i64 u.r1, .int .i64 u.c2, .int .i64 u.r2, .string ⟨u.word.toArray⟩, .slice Aa u.kids.length ca] 29)).alloc (.cells #[.int .i64 v.kind, .int .i64 v.num, .int .i64 v.c1, .int .i64 v.r1, .int .i64 v.c2, .int .i64 v.r2, .string ⟨v.word.toArray⟩, .slice Ab v.kids.length cb] 29)) := Below.refl _ _
  obtain ⟨⟨k0, k1, k2, k3, k4, k5, k6, k7⟩, ⟨i0, i1, i2, i3, i4, i5, i6, i7⟩, kz, kb⟩ := par2T hb0
  have HWA := Lib.hid (fun w1 (hb : Below w.heap.size w w1) => iha w1 _ Aa ca (hku.below hb) (hm.below hb))
  have HWB := Lib.hid (fun w1 (hb : Below w.heap.size w w1) => ihb w1 _ Ab cb (hkv.below hb) (hm.below hb))
  have HCA := Lib.hid (fun w1 (hb : Below w.heap.size w w1) => cu w1 _ Aa ca (hku.below hb).kv)
  have HCB := Lib.hid (fun w1 (hb : Below w.heap.size w w1) => cv w1 _ Ab cb (hkv.below hb).kv)
  have oX := ok_wy l u
  have oY := ok_wy l v
  have HW := Lib.hid (lvl_cases hlv)
  generalize hJ : opW wd (wyT l u) (wyT l v) (cnT u) (cnT v) = J at *
  clear hku hkv hm iha ihb cu cv hJ hlv
  generalize wyT l u = X at *
  generalize wyT l v = Y at *
  generalize (cnT u).getD 0 = M at *
  generalize (cnT u).isSome = m at *
  generalize (cnT v).getD 0 = N at *
  generalize (cnT v).isSome = n at *
  have OX := Lib.hid oX
  have OY := Lib.hid oY
  clear oX oY k0 k1 k2 k3 k4 k5 k6 k7 i0 i1 i2 i3 i4 i5 i6 i7
  have HR : Hid (∀ w', Below ((w.alloc (.cells #[.int .i64 u.kind, .int .i64 u.num, .int .i64 u.c1, .int .i64 u.r1, .int .i64 u.c2, .int .i64 u.r2, .string ⟨u.word.toArray⟩, .slice Aa u.kids.length ca] 29)).alloc (.cells #[.int .i64 v.kind, .int .i64 v.num, .int .i64 v.c1, .int .i64 v.r1, .int .i64 v.c2, .int .i64 v.r2, .string ⟨v.word.toArray⟩, .slice Ab v.kids.length cb] 29)).heap.size ((w.alloc (.cells #[.int .i64 u.kind, .int .i64 u.num, .int .i64 u.c1, .int .i64 u.r1, .int .i64 u.c2, .int .i64 u.r2, .string ⟨u.word.toArray⟩, .slice Aa u.kids.length ca] 29)).alloc (.cells #[.int .i64 v.kind, .int .i64 v.num, .int .i64 v.c1, .int .i64 v.r1, .int .i64 v.c2, .int .i64 v.r2, .string ⟨v.word.toArray⟩, .slice Ab v.kids.length cb] 29)) w' → _) := Lib.hid (fun w' hb => par2T (w := w) (hb.mono (by simp)))
  have HL : Hid (∀ w', Below ((w.alloc (.cells #[.int .i64 u.kind, .int .i64 u.num, .int .i64 u.c1, .int .i64 u.r1, .int .i64 u.c2, .int .i64 u.r2, .string ⟨u.word.toArray⟩, .slice Aa u.kids.length ca] 29)).alloc (.cells #[.int .i64 v.kind, .int .i64 v.num, .int .i64 v.c1, .int .i64 v.r1, .int .i64 v.c2, .int .i64 v.r2, .string ⟨v.word.toArray⟩, .slice Ab v.kids.length cb] 29)).heap.size ((w.alloc (.cells #[.int .i64 u.kind, .int .i64 u.num, .int .i64 u.c1, .int .i64 u.r1, .int .i64 u.c2, .int .i64 u.r2, .string ⟨u.word.toArray⟩, .slice Aa u.kids.length ca] 29)).alloc (.cells #[.int .i64 v.kind, .int .i64 v.num, .int .i64 v.c1, .int .i64 v.r1, .int .i64 v.c2, .int .i64 v.r2, .string ⟨v.word.toArray⟩, .slice Ab v.kids.length cb] 29)) w' → w'.cell? ⟨w.heap.size, 0, none⟩ = some (.int .i64 u.kind) ∧ w'.cell? ⟨w.heap.size, 1, none⟩ = some (.int .i64 u.num) ∧ w'.cell? ⟨w.heap.size, 2, none⟩ = some (.int .i64 u.c1) ∧ w'.cell? ⟨w.heap.size, 3, none⟩ = some (.int .i64 u.r1) ∧ w'.cell? ⟨w.heap.size, 4, none⟩ = some (.int .i64 u.c2) ∧ w'.cell? ⟨w.heap.size, 5, none⟩ = some (.int .i64 u.r2) ∧ w'.cell? ⟨w.heap.size, 6, none⟩ = some (.string ⟨u.word.toArray⟩) ∧ w'.cell? ⟨w.heap.size, 7, none⟩ = some (.slice Aa u.kids.length ca) ∧ w'.cell? ⟨w.heap.size + 1, 0, none⟩ = some (.int .i64 v.kind) ∧ w'.cell? ⟨w.heap.size + 1, 1, none⟩ = some (.int .i64 v.num) ∧ w'.cell? ⟨w.heap.size + 1, 2, none⟩ = some (.int .i64 v.c1) ∧ w'.cell? ⟨w.heap.size + 1, 3, none⟩ = some (.int .i64 v.r1) ∧ w'.cell? ⟨w.heap.size + 1, 4, none⟩ = some (.int .i64 v.c2) ∧ w'.cell? ⟨w.heap.size + 1, 5, none⟩ = some (.int .i64 v.r2) ∧ w'.cell? ⟨w.heap.size + 1, 6, none⟩ = some (.string ⟨v.word.toArray⟩) ∧ w'.cell? ⟨w.heap.size + 1, 7, none⟩ = some (.slice Ab v.kids.length cb)) := Lib.hid fun w' hb => by
    obtain ⟨⟨k0, k1, k2, k3, k4, k5, k6, k7⟩, ⟨i0, i1, i2, i3, i4, i5, i6, i7⟩, _, _⟩ := HR.out w' hb
    exact ⟨k0, k1, k2, k3, k4, k5, k6, k7, i0, i1, i2, i3, i4, i5, i6, i7⟩
  clear kz hb0
  go_enter Tryd.func36, Tryd.ntmps36
  go_wp2_with fail
  generalize ((w.alloc (.cells #[.int .i64 u.kind, .int .i64 u.num, .int .i64 u.c1, .int .i64 u.r1, .int .i64 u.c2, .int .i64 u.r2, .string ⟨u.word.toArray⟩, .slice Aa u.kids.length ca] 29)).alloc (.cells #[.int .i64 v.kind, .int .i64 v.num, .int .i64 v.c1, .int .i64 v.r1, .int .i64 v.c2, .int .i64 v.r2, .string ⟨v.word.toArray⟩, .slice Ab v.kids.length cb] 29)) = W2 at *
  go_region_held3 (fun w' => w'.cell? ⟨w.heap.size, 0, none⟩ = some (.int .i64 u.kind) ∧ w'.cell? ⟨w.heap.size, 1, none⟩ = some (.int .i64 u.num) ∧ w'.cell? ⟨w.heap.size, 2, none⟩ = some (.int .i64 u.c1) ∧ w'.cell? ⟨w.heap.size, 3, none⟩ = some (.int .i64 u.r1) ∧ w'.cell? ⟨w.heap.size, 4, none⟩ = some (.int .i64 u.c2) ∧ w'.cell? ⟨w.heap.size, 5, none⟩ = some (.int .i64 u.r2) ∧ w'.cell? ⟨w.heap.size, 6, none⟩ = some (.string ⟨u.word.toArray⟩) ∧ w'.cell? ⟨w.heap.size, 7, none⟩ = some (.slice Aa u.kids.length ca) ∧ w'.cell? ⟨w.heap.size + 1, 0, none⟩ = some (.int .i64 v.kind) ∧ w'.cell? ⟨w.heap.size + 1, 1, none⟩ = some (.int .i64 v.num) ∧ w'.cell? ⟨w.heap.size + 1, 2, none⟩ = some (.int .i64 v.c1) ∧ w'.cell? ⟨w.heap.size + 1, 3, none⟩ = some (.int .i64 v.r1) ∧ w'.cell? ⟨w.heap.size + 1, 4, none⟩ = some (.int .i64 v.c2) ∧ w'.cell? ⟨w.heap.size + 1, 5, none⟩ = some (.int .i64 v.r2) ∧ w'.cell? ⟨w.heap.size + 1, 6, none⟩ = some (.string ⟨v.word.toArray⟩) ∧ w'.cell? ⟨w.heap.size + 1, 7, none⟩ = some (.slice Ab v.kids.length cb))
    (with_reducible exact HL.out _ (by with_reducible repeat' (first | exact Below.refl _ _ | exact B2 | exact B1 | exact Nat.le_refl _ | exact B2.size | exact B1.size | refine Below.drew ?_ | refine Below.alloc ?_ ?_ _ | refine Below.setCell ?_ ?_ _)))
    (first
    | (have hB := B1; clear hB; go_at_call 21
       refine Calls.mono (HWB.out _ (kb.trans (Below.mono (by with_reducible repeat' (first | exact Below.refl _ _ | exact B2 | exact B1 | exact Nat.le_refl _ | exact B2.size | exact B1.size | refine Below.drew ?_ | refine Below.alloc ?_ ?_ _ | refine Below.setCell ?_ ?_ _)) kb.size))) ?_; rintro e w2 ⟨rfl, b2⟩
       have B2 : Below W2.heap.size W2 w2 := below_up (by with_reducible repeat' (first | exact Below.refl _ _ | exact B2 | exact B1 | exact Nat.le_refl _ | exact B2.size | exact B1.size | refine Below.drew ?_ | refine Below.alloc ?_ ?_ _ | refine Below.setCell ?_ ?_ _)) b2
       clear b2)
    | (go_at_call 21
       refine Calls.mono (HWA.out _ (kb.trans (Below.mono (by with_reducible repeat' (first | exact Below.refl _ _ | exact B2 | exact B1 | exact Nat.le_refl _ | exact B2.size | exact B1.size | refine Below.drew ?_ | refine Below.alloc ?_ ?_ _ | refine Below.setCell ?_ ?_ _)) kb.size))) ?_; rintro e w1 ⟨rfl, b1⟩
       have B1 : Below W2.heap.size W2 w1 := below_up (by with_reducible repeat' (first | exact Below.refl _ _ | exact B2 | exact B1 | exact Nat.le_refl _ | exact B2.size | exact B1.size | refine Below.drew ?_ | refine Below.alloc ?_ ?_ _ | refine Below.setCell ?_ ?_ _)) b1
       clear b1)
    | fail)
  have hb2 := B2
  clear kb B1 B2 HL
  obtain ⟨⟨k0, k1, k2, k3, k4, k5, k6, k7⟩, ⟨i0, i1, i2, i3, i4, i5, i6, i7⟩, kz, kb⟩ := HR.out _ hb2
  clear HWA HWB
  rcases HW.out with hwd | hwd | hwd | hwd | hwd | hwd | hwd | hwd | hwd | hwd
  · have HE1 : Hid (J = opB [60] X Y M N m n) := Lib.hid (by rw [HE.out, hwd])
    have x60 : (wd == [60]) = true := by rw [hwd]; rfl
    have x6061 : (wd == [60, 61]) = false := by rw [hwd]; rfl
    have x45 : (wd == [45]) = false := by rw [hwd]; rfl
    have x62 : (wd == [62]) = false := by rw [hwd]; rfl
    have x6261 : (wd == [62, 61]) = false := by rw [hwd]; rfl
    have x43 : (wd == [43]) = false := by rw [hwd]; rfl
    have x42 : (wd == [42]) = false := by rw [hwd]; rfl
    have x47 : (wd == [47]) = false := by rw [hwd]; rfl
    have x61 : (wd == [61]) = false := by rw [hwd]; rfl
    have x6062 : (wd == [60, 62]) = false := by rw [hwd]; rfl
    clear HW HE hwd
    have HE2 : Hid (J = joinW Y (cleanW (flipW X))) := Lib.hid (by rw [HE1.out, clean_ok (ok_flip X)]; rw [join_less OX.out OY.out]; simp [opB])
    have HJ := Lib.hid (fun z A cap w h => mjoin2 Y z OY.out A cap w h)
    have HFl := Lib.hid (fun w => mflip_any X w)
    clear HE1 HCA HCB
    generalize flipW X = Z at *
    go_wp2_with fail
    refine Calls.mono (HFl.out _) ?_; rintro e w4 ⟨rfl, b4⟩
    have nb4 := kb.trans (b4.mono kb.size)
    clear b4
    go_wp2_with fail
    refine Calls.mono (HJ.out Z _ _ _ (list2 (by simp [go_sem]) (by simp [go_sem]))) ?_; rintro e w5 ⟨rfl, b5⟩
    have nb5 : Below w.heap.size w w5 := (nb4.alloc nb4.size _).trans (b5.mono (by have := nb4.size; simp; omega))
    clear b5
    go_wp2_with fail
    go_ret
    exact ⟨ret_int HE2.out.symm, nb5⟩
  · have HE1 : Hid (J = opB [60, 61] X Y M N m n) := Lib.hid (by rw [HE.out, hwd])
    have x60 : (wd == [60]) = false := by rw [hwd]; rfl
    have x6061 : (wd == [60, 61]) = true := by rw [hwd]; rfl
    have x45 : (wd == [45]) = false := by rw [hwd]; rfl
    have x62 : (wd == [62]) = false := by rw [hwd]; rfl
    have x6261 : (wd == [62, 61]) = false := by rw [hwd]; rfl
    have x43 : (wd == [43]) = false := by rw [hwd]; rfl
    have x42 : (wd == [42]) = false := by rw [hwd]; rfl
    have x47 : (wd == [47]) = false := by rw [hwd]; rfl
    have x61 : (wd == [61]) = false := by rw [hwd]; rfl
    have x6062 : (wd == [60, 62]) = false := by rw [hwd]; rfl
    clear HW HE hwd
    have HE2 : Hid (J = joinW Y (cleanW (flipW X))) := Lib.hid (by rw [HE1.out, clean_ok (ok_flip X)]; rw [join_less OX.out OY.out]; simp [opB])
    have HJ := Lib.hid (fun z A cap w h => mjoin2 Y z OY.out A cap w h)
    have HFl := Lib.hid (fun w => mflip_any X w)
    clear HE1 HCA HCB
    generalize flipW X = Z at *
    go_wp2_with fail
    refine Calls.mono (HFl.out _) ?_; rintro e w4 ⟨rfl, b4⟩
    have nb4 := kb.trans (b4.mono kb.size)
    clear b4
    go_wp2_with fail
    refine Calls.mono (HJ.out Z _ _ _ (list2 (by simp [go_sem]) (by simp [go_sem]))) ?_; rintro e w5 ⟨rfl, b5⟩
    have nb5 : Below w.heap.size w w5 := (nb4.alloc nb4.size _).trans (b5.mono (by have := nb4.size; simp; omega))
    clear b5
    go_wp2_with fail
    go_ret
    exact ⟨ret_int HE2.out.symm, nb5⟩
  · have HE1 : Hid (J = opB [61] X Y M N m n) := Lib.hid (by rw [HE.out, hwd])
    have x60 : (wd == [60]) = false := by rw [hwd]; rfl
    have x6061 : (wd == [60, 61]) = false := by rw [hwd]; rfl
    have x45 : (wd == [45]) = false := by rw [hwd]; rfl
    have x62 : (wd == [62]) = false := by rw [hwd]; rfl
    have x6261 : (wd == [62, 61]) = false := by rw [hwd]; rfl
    have x43 : (wd == [43]) = false := by rw [hwd]; rfl
    have x42 : (wd == [42]) = false := by rw [hwd]; rfl
    have x47 : (wd == [47]) = false := by rw [hwd]; rfl
    have x61 : (wd == [61]) = true := by rw [hwd]; rfl
    have x6062 : (wd == [60, 62]) = false := by rw [hwd]; rfl
    clear HW HE hwd
    have HE2 : Hid (J = stW X Y) := Lib.hid (by rw [HE1.out]; simp [opB])
    clear HE1
    by_cases hx : X = 0
    · have dx : (X == 0) = true := by simpa using hx
      by_cases hy : Y = 0
      · have dy : (Y == 0) = true := by simpa using hy
        have HF : Hid (J = 0) := Lib.hid (by rw [HE2.out]; exact if_pos ⟨hx, hy⟩)
        clear hx hy HE2
        go_wp2_with fail
        go_ret
        exact ⟨ret_int HF.out.symm, kb⟩
      · have dy : (Y == 0) = false := by simpa using hy
        have HF : Hid (J = 3) := Lib.hid (by rw [HE2.out]; exact if_neg fun h => hy h.2)
        clear hx hy HE2
        go_wp2_with fail
        go_ret
        exact ⟨ret_int HF.out.symm, kb⟩
    · have dx : (X == 0) = false := by simpa using hx
      have HF : Hid (J = 3) := Lib.hid (by rw [HE2.out]; exact if_neg fun h => hx h.1)
      clear hx HE2
      by_cases hy : Y = 0
      · have dy : (Y == 0) = true := by simpa using hy
        clear hy
        go_wp2_with fail
        go_ret
        exact ⟨ret_int HF.out.symm, kb⟩
      · have dy : (Y == 0) = false := by simpa using hy
        clear hy
        go_wp2_with fail
        go_ret
        exact ⟨ret_int HF.out.symm, kb⟩
  · have HE1 : Hid (J = opB [60, 62] X Y M N m n) := Lib.hid (by rw [HE.out, hwd])
    have x60 : (wd == [60]) = false := by rw [hwd]; rfl
    have x6061 : (wd == [60, 61]) = false := by rw [hwd]; rfl
    have x45 : (wd == [45]) = false := by rw [hwd]; rfl
    have x62 : (wd == [62]) = false := by rw [hwd]; rfl
    have x6261 : (wd == [62, 61]) = false := by rw [hwd]; rfl
    have x43 : (wd == [43]) = false := by rw [hwd]; rfl
    have x42 : (wd == [42]) = false := by rw [hwd]; rfl
    have x47 : (wd == [47]) = false := by rw [hwd]; rfl
    have x61 : (wd == [61]) = false := by rw [hwd]; rfl
    have x6062 : (wd == [60, 62]) = true := by rw [hwd]; rfl
    clear HW HE hwd
    have HE2 : Hid (J = stW X Y) := Lib.hid (by rw [HE1.out]; simp [opB])
    clear HE1
    by_cases hx : X = 0
    · have dx : (X == 0) = true := by simpa using hx
      by_cases hy : Y = 0
      · have dy : (Y == 0) = true := by simpa using hy
        have HF : Hid (J = 0) := Lib.hid (by rw [HE2.out]; exact if_pos ⟨hx, hy⟩)
        clear hx hy HE2
        go_wp2_with fail
        go_ret
        exact ⟨ret_int HF.out.symm, kb⟩
      · have dy : (Y == 0) = false := by simpa using hy
        have HF : Hid (J = 3) := Lib.hid (by rw [HE2.out]; exact if_neg fun h => hy h.2)
        clear hx hy HE2
        go_wp2_with fail
        go_ret
        exact ⟨ret_int HF.out.symm, kb⟩
    · have dx : (X == 0) = false := by simpa using hx
      have HF : Hid (J = 3) := Lib.hid (by rw [HE2.out]; exact if_neg fun h => hx h.1)
      clear hx HE2
      by_cases hy : Y = 0
      · have dy : (Y == 0) = true := by simpa using hy
        clear hy
        go_wp2_with fail
        go_ret
        exact ⟨ret_int HF.out.symm, kb⟩
      · have dy : (Y == 0) = false := by simpa using hy
        clear hy
        go_wp2_with fail
        go_ret
        exact ⟨ret_int HF.out.symm, kb⟩
  · have HE1 : Hid (J = opB [62, 61] X Y M N m n) := Lib.hid (by rw [HE.out, hwd])
    have x60 : (wd == [60]) = false := by rw [hwd]; rfl
    have x6061 : (wd == [60, 61]) = false := by rw [hwd]; rfl
    have x45 : (wd == [45]) = false := by rw [hwd]; rfl
    have x62 : (wd == [62]) = false := by rw [hwd]; rfl
    have x6261 : (wd == [62, 61]) = true := by rw [hwd]; rfl
    have x43 : (wd == [43]) = false := by rw [hwd]; rfl
    have x42 : (wd == [42]) = false := by rw [hwd]; rfl
    have x47 : (wd == [47]) = false := by rw [hwd]; rfl
    have x61 : (wd == [61]) = false := by rw [hwd]; rfl
    have x6062 : (wd == [60, 62]) = false := by rw [hwd]; rfl
    clear HW HE hwd
    have HE2 : Hid (J = joinW X (cleanW (flipW Y))) := Lib.hid (by rw [HE1.out, clean_ok (ok_flip Y)]; simp [opB])
    have HJ := Lib.hid (fun z A cap w h => mjoin2 X z OX.out A cap w h)
    have HFl := Lib.hid (fun w => mflip_any Y w)
    clear HE1 HCA HCB
    generalize flipW Y = Z at *
    go_wp2_with fail
    refine Calls.mono (HFl.out _) ?_; rintro e w4 ⟨rfl, b4⟩
    have nb4 := kb.trans (b4.mono kb.size)
    clear b4
    go_wp2_with fail
    refine Calls.mono (HJ.out Z _ _ _ (list2 (by simp [go_sem]) (by simp [go_sem]))) ?_; rintro e w5 ⟨rfl, b5⟩
    have nb5 : Below w.heap.size w w5 := (nb4.alloc nb4.size _).trans (b5.mono (by have := nb4.size; simp; omega))
    clear b5
    go_wp2_with fail
    go_ret
    exact ⟨ret_int HE2.out.symm, nb5⟩
  · have HE1 : Hid (J = opB [62] X Y M N m n) := Lib.hid (by rw [HE.out, hwd])
    have x60 : (wd == [60]) = false := by rw [hwd]; rfl
    have x6061 : (wd == [60, 61]) = false := by rw [hwd]; rfl
    have x45 : (wd == [45]) = false := by rw [hwd]; rfl
    have x62 : (wd == [62]) = true := by rw [hwd]; rfl
    have x6261 : (wd == [62, 61]) = false := by rw [hwd]; rfl
    have x43 : (wd == [43]) = false := by rw [hwd]; rfl
    have x42 : (wd == [42]) = false := by rw [hwd]; rfl
    have x47 : (wd == [47]) = false := by rw [hwd]; rfl
    have x61 : (wd == [61]) = false := by rw [hwd]; rfl
    have x6062 : (wd == [60, 62]) = false := by rw [hwd]; rfl
    clear HW HE hwd
    have HE2 : Hid (J = joinW X (cleanW (flipW Y))) := Lib.hid (by rw [HE1.out, clean_ok (ok_flip Y)]; simp [opB])
    have HJ := Lib.hid (fun z A cap w h => mjoin2 X z OX.out A cap w h)
    have HFl := Lib.hid (fun w => mflip_any Y w)
    clear HE1 HCA HCB
    generalize flipW Y = Z at *
    go_wp2_with fail
    refine Calls.mono (HFl.out _) ?_; rintro e w4 ⟨rfl, b4⟩
    have nb4 := kb.trans (b4.mono kb.size)
    clear b4
    go_wp2_with fail
    refine Calls.mono (HJ.out Z _ _ _ (list2 (by simp [go_sem]) (by simp [go_sem]))) ?_; rintro e w5 ⟨rfl, b5⟩
    have nb5 : Below w.heap.size w w5 := (nb4.alloc nb4.size _).trans (b5.mono (by have := nb4.size; simp; omega))
    clear b5
    go_wp2_with fail
    go_ret
    exact ⟨ret_int HE2.out.symm, nb5⟩
  · have HE1 : Hid (J = opB [43] X Y M N m n) := Lib.hid (by rw [HE.out, hwd])
    have x60 : (wd == [60]) = false := by rw [hwd]; rfl
    have x6061 : (wd == [60, 61]) = false := by rw [hwd]; rfl
    have x45 : (wd == [45]) = false := by rw [hwd]; rfl
    have x62 : (wd == [62]) = false := by rw [hwd]; rfl
    have x6261 : (wd == [62, 61]) = false := by rw [hwd]; rfl
    have x43 : (wd == [43]) = true := by rw [hwd]; rfl
    have x42 : (wd == [42]) = false := by rw [hwd]; rfl
    have x47 : (wd == [47]) = false := by rw [hwd]; rfl
    have x61 : (wd == [61]) = false := by rw [hwd]; rfl
    have x6062 : (wd == [60, 62]) = false := by rw [hwd]; rfl
    clear HW HE hwd
    have HE2 : Hid (J = joinW X (cleanW Y)) := Lib.hid (by rw [HE1.out, clean_ok OY.out]; simp [opB])
    have HJ := Lib.hid (fun A cap w h => mjoin2 X Y OX.out A cap w h)
    clear HE1 HCA HCB
    go_wp2_with fail
    refine Calls.mono (HJ.out _ _ _ (list2 (by simp [go_sem]) (by simp [go_sem]))) ?_; rintro e w5 ⟨rfl, b5⟩
    have nb5 : Below w.heap.size w w5 := (kb.alloc kb.size _).trans (b5.mono (by have := kb.size; simp; omega))
    clear b5
    go_wp2_with fail
    go_ret
    exact ⟨ret_int HE2.out.symm, nb5⟩
  · have HE1 : Hid (J = opB [45] X Y M N m n) := Lib.hid (by rw [HE.out, hwd])
    have x60 : (wd == [60]) = false := by rw [hwd]; rfl
    have x6061 : (wd == [60, 61]) = false := by rw [hwd]; rfl
    have x45 : (wd == [45]) = true := by rw [hwd]; rfl
    have x62 : (wd == [62]) = false := by rw [hwd]; rfl
    have x6261 : (wd == [62, 61]) = false := by rw [hwd]; rfl
    have x43 : (wd == [43]) = false := by rw [hwd]; rfl
    have x42 : (wd == [42]) = false := by rw [hwd]; rfl
    have x47 : (wd == [47]) = false := by rw [hwd]; rfl
    have x61 : (wd == [61]) = false := by rw [hwd]; rfl
    have x6062 : (wd == [60, 62]) = false := by rw [hwd]; rfl
    clear HW HE hwd
    have HE2 : Hid (J = joinW X (cleanW (flipW Y))) := Lib.hid (by rw [HE1.out, clean_ok (ok_flip Y)]; simp [opB])
    have HJ := Lib.hid (fun z A cap w h => mjoin2 X z OX.out A cap w h)
    have HFl := Lib.hid (fun w => mflip_any Y w)
    clear HE1 HCA HCB
    generalize flipW Y = Z at *
    go_wp2_with fail
    refine Calls.mono (HFl.out _) ?_; rintro e w4 ⟨rfl, b4⟩
    have nb4 := kb.trans (b4.mono kb.size)
    clear b4
    go_wp2_with fail
    refine Calls.mono (HJ.out Z _ _ _ (list2 (by simp [go_sem]) (by simp [go_sem]))) ?_; rintro e w5 ⟨rfl, b5⟩
    have nb5 : Below w.heap.size w w5 := (nb4.alloc nb4.size _).trans (b5.mono (by have := nb4.size; simp; omega))
    clear b5
    go_wp2_with fail
    go_ret
    exact ⟨ret_int HE2.out.symm, nb5⟩
  · have HE1 : Hid (J = opB [42] X Y M N m n) := Lib.hid (by rw [HE.out, hwd])
    have x60 : (wd == [60]) = false := by rw [hwd]; rfl
    have x6061 : (wd == [60, 61]) = false := by rw [hwd]; rfl
    have x45 : (wd == [45]) = false := by rw [hwd]; rfl
    have x62 : (wd == [62]) = false := by rw [hwd]; rfl
    have x6261 : (wd == [62, 61]) = false := by rw [hwd]; rfl
    have x43 : (wd == [43]) = false := by rw [hwd]; rfl
    have x42 : (wd == [42]) = true := by rw [hwd]; rfl
    have x47 : (wd == [47]) = false := by rw [hwd]; rfl
    have x61 : (wd == [61]) = false := by rw [hwd]; rfl
    have x6062 : (wd == [60, 62]) = false := by rw [hwd]; rfl
    clear HW HE hwd
    cases n with
    | true =>
      have HE2 : Hid (J = byW X N) := Lib.hid (by rw [HE1.out]; simp [opB])
      clear HE1
      go_wp2_with fail
      refine Calls.mono (HCB.out _ kb) ?_; rintro e w3 ⟨rfl, b3⟩
      have hb3 := hb2.trans (b3.mono hb2.size)
      clear b3 k0 k1 k2 k3 k4 k5 k6 k7 i0 i1 i2 i3 i4 i5 i6 i7 kz kb hb2
      obtain ⟨⟨k0, k1, k2, k3, k4, k5, k6, k7⟩, ⟨i0, i1, i2, i3, i4, i5, i6, i7⟩, kz, kb⟩ := HR.out _ hb3
      have HSc := Lib.hid (fun w => mscaled_any X N w)
      go_wp2_with fail
      refine Calls.mono (HSc.out _) ?_; rintro e w4 ⟨rfl, b4⟩
      have nb4 := kb.trans (b4.mono kb.size)
      clear b4
      go_wp2_with fail
      go_ret
      exact ⟨ret_int HE2.out.symm, nb4⟩
    | false =>
      cases m with
      | true =>
        have HE2 : Hid (J = byW Y M) := Lib.hid (by rw [HE1.out]; simp [opB])
        clear HE1
        go_wp2_with fail
        refine Calls.mono (HCB.out _ kb) ?_; rintro e w3 ⟨rfl, b3⟩
        have hb3 := hb2.trans (b3.mono hb2.size)
        clear b3 k0 k1 k2 k3 k4 k5 k6 k7 i0 i1 i2 i3 i4 i5 i6 i7 kz kb hb2
        obtain ⟨⟨k0, k1, k2, k3, k4, k5, k6, k7⟩, ⟨i0, i1, i2, i3, i4, i5, i6, i7⟩, kz, kb⟩ := HR.out _ hb3
        go_wp2_with fail
        refine Calls.mono (HCA.out _ kb) ?_; rintro e w4 ⟨rfl, b4⟩
        have hb4 := hb3.trans (b4.mono hb3.size)
        clear b4 k0 k1 k2 k3 k4 k5 k6 k7 i0 i1 i2 i3 i4 i5 i6 i7 kz kb hb3
        obtain ⟨⟨k0, k1, k2, k3, k4, k5, k6, k7⟩, ⟨i0, i1, i2, i3, i4, i5, i6, i7⟩, kz, kb⟩ := HR.out _ hb4
        have HSc := Lib.hid (fun w => mscaled_any Y M w)
        go_wp2_with fail
        refine Calls.mono (HSc.out _) ?_; rintro e w5 ⟨rfl, b5⟩
        have nb5 := kb.trans (b5.mono kb.size)
        clear b5
        go_wp2_with fail
        go_ret
        exact ⟨ret_int HE2.out.symm, nb5⟩
      | false =>
        have HE2 : Hid (J = stW X Y) := Lib.hid (by rw [HE1.out]; simp [opB])
        clear HE1
        go_wp2_with fail
        refine Calls.mono (HCB.out _ kb) ?_; rintro e w3 ⟨rfl, b3⟩
        have hb3 := hb2.trans (b3.mono hb2.size)
        clear b3 k0 k1 k2 k3 k4 k5 k6 k7 i0 i1 i2 i3 i4 i5 i6 i7 kz kb hb2
        obtain ⟨⟨k0, k1, k2, k3, k4, k5, k6, k7⟩, ⟨i0, i1, i2, i3, i4, i5, i6, i7⟩, kz, kb⟩ := HR.out _ hb3
        go_wp2_with fail
        refine Calls.mono (HCA.out _ kb) ?_; rintro e w4 ⟨rfl, b4⟩
        have hb4 := hb3.trans (b4.mono hb3.size)
        clear b4 k0 k1 k2 k3 k4 k5 k6 k7 i0 i1 i2 i3 i4 i5 i6 i7 kz kb hb3
        obtain ⟨⟨k0, k1, k2, k3, k4, k5, k6, k7⟩, ⟨i0, i1, i2, i3, i4, i5, i6, i7⟩, kz, kb⟩ := HR.out _ hb4
        go_wp2_with fail
        refine Calls.mono (HCB.out _ kb) ?_; rintro e w5 ⟨rfl, b5⟩
        have hb5 := hb4.trans (b5.mono hb4.size)
        clear b5 k0 k1 k2 k3 k4 k5 k6 k7 i0 i1 i2 i3 i4 i5 i6 i7 kz kb hb4
        obtain ⟨⟨k0, k1, k2, k3, k4, k5, k6, k7⟩, ⟨i0, i1, i2, i3, i4, i5, i6, i7⟩, kz, kb⟩ := HR.out _ hb5
        by_cases hx : X = 0
        · have dx : (X == 0) = true := by simpa using hx
          by_cases hy : Y = 0
          · have dy : (Y == 0) = true := by simpa using hy
            have HF : Hid (J = 0) := Lib.hid (by rw [HE2.out]; exact if_pos ⟨hx, hy⟩)
            clear hx hy HE2
            go_wp2_with fail
            go_ret
            exact ⟨ret_int HF.out.symm, kb⟩
          · have dy : (Y == 0) = false := by simpa using hy
            have HF : Hid (J = 3) := Lib.hid (by rw [HE2.out]; exact if_neg fun h => hy h.2)
            clear hx hy HE2
            go_wp2_with fail
            go_ret
            exact ⟨ret_int HF.out.symm, kb⟩
        · have dx : (X == 0) = false := by simpa using hx
          have HF : Hid (J = 3) := Lib.hid (by rw [HE2.out]; exact if_neg fun h => hx h.1)
          clear hx HE2
          by_cases hy : Y = 0
          · have dy : (Y == 0) = true := by simpa using hy
            clear hy
            go_wp2_with fail
            go_ret
            exact ⟨ret_int HF.out.symm, kb⟩
          · have dy : (Y == 0) = false := by simpa using hy
            clear hy
            go_wp2_with fail
            go_ret
            exact ⟨ret_int HF.out.symm, kb⟩
  · have HE1 : Hid (J = opB [47] X Y M N m n) := Lib.hid (by rw [HE.out, hwd])
    have x60 : (wd == [60]) = false := by rw [hwd]; rfl
    have x6061 : (wd == [60, 61]) = false := by rw [hwd]; rfl
    have x45 : (wd == [45]) = false := by rw [hwd]; rfl
    have x62 : (wd == [62]) = false := by rw [hwd]; rfl
    have x6261 : (wd == [62, 61]) = false := by rw [hwd]; rfl
    have x43 : (wd == [43]) = false := by rw [hwd]; rfl
    have x42 : (wd == [42]) = false := by rw [hwd]; rfl
    have x47 : (wd == [47]) = true := by rw [hwd]; rfl
    have x61 : (wd == [61]) = false := by rw [hwd]; rfl
    have x6062 : (wd == [60, 62]) = false := by rw [hwd]; rfl
    clear HW HE hwd
    cases n with
    | true =>
      by_cases hN : N = 0
      · have dn : (N != 0) = false := by simpa using hN
        have HE2 : Hid (J = stW X Y) := Lib.hid (by rw [HE1.out]; simp [opB, hN])
        clear HE1 hN
        go_wp2_with fail
        refine Calls.mono (HCB.out _ kb) ?_; rintro e w3 ⟨rfl, b3⟩
        have hb3 := hb2.trans (b3.mono hb2.size)
        clear b3 k0 k1 k2 k3 k4 k5 k6 k7 i0 i1 i2 i3 i4 i5 i6 i7 kz kb hb2
        obtain ⟨⟨k0, k1, k2, k3, k4, k5, k6, k7⟩, ⟨i0, i1, i2, i3, i4, i5, i6, i7⟩, kz, kb⟩ := HR.out _ hb3
        by_cases hx : X = 0
        · have dx : (X == 0) = true := by simpa using hx
          by_cases hy : Y = 0
          · have dy : (Y == 0) = true := by simpa using hy
            have HF : Hid (J = 0) := Lib.hid (by rw [HE2.out]; exact if_pos ⟨hx, hy⟩)
            clear hx hy HE2
            go_wp2_with fail
            go_ret
            exact ⟨ret_int HF.out.symm, kb⟩
          · have dy : (Y == 0) = false := by simpa using hy
            have HF : Hid (J = 3) := Lib.hid (by rw [HE2.out]; exact if_neg fun h => hy h.2)
            clear hx hy HE2
            go_wp2_with fail
            go_ret
            exact ⟨ret_int HF.out.symm, kb⟩
        · have dx : (X == 0) = false := by simpa using hx
          have HF : Hid (J = 3) := Lib.hid (by rw [HE2.out]; exact if_neg fun h => hx h.1)
          clear hx HE2
          by_cases hy : Y = 0
          · have dy : (Y == 0) = true := by simpa using hy
            clear hy
            go_wp2_with fail
            go_ret
            exact ⟨ret_int HF.out.symm, kb⟩
          · have dy : (Y == 0) = false := by simpa using hy
            clear hy
            go_wp2_with fail
            go_ret
            exact ⟨ret_int HF.out.symm, kb⟩
      · have dn : (N != 0) = true := by simpa using hN
        have HE2 : Hid (J = byW X N) := Lib.hid (by rw [HE1.out]; simp [opB, hN])
        clear HE1 hN
        go_wp2_with fail
        refine Calls.mono (HCB.out _ kb) ?_; rintro e w3 ⟨rfl, b3⟩
        have hb3 := hb2.trans (b3.mono hb2.size)
        clear b3 k0 k1 k2 k3 k4 k5 k6 k7 i0 i1 i2 i3 i4 i5 i6 i7 kz kb hb2
        obtain ⟨⟨k0, k1, k2, k3, k4, k5, k6, k7⟩, ⟨i0, i1, i2, i3, i4, i5, i6, i7⟩, kz, kb⟩ := HR.out _ hb3
        have HSc := Lib.hid (fun w => mscaled_any X N w)
        go_wp2_with fail
        refine Calls.mono (HSc.out _) ?_; rintro e w4 ⟨rfl, b4⟩
        have nb4 := kb.trans (b4.mono kb.size)
        clear b4
        go_wp2_with fail
        go_ret
        exact ⟨ret_int HE2.out.symm, nb4⟩
    | false =>
      have HE2 : Hid (J = stW X Y) := Lib.hid (by rw [HE1.out]; simp [opB])
      clear HE1
      go_wp2_with fail
      refine Calls.mono (HCB.out _ kb) ?_; rintro e w3 ⟨rfl, b3⟩
      have hb3 := hb2.trans (b3.mono hb2.size)
      clear b3 k0 k1 k2 k3 k4 k5 k6 k7 i0 i1 i2 i3 i4 i5 i6 i7 kz kb hb2
      obtain ⟨⟨k0, k1, k2, k3, k4, k5, k6, k7⟩, ⟨i0, i1, i2, i3, i4, i5, i6, i7⟩, kz, kb⟩ := HR.out _ hb3
      by_cases hx : X = 0
      · have dx : (X == 0) = true := by simpa using hx
        by_cases hy : Y = 0
        · have dy : (Y == 0) = true := by simpa using hy
          have HF : Hid (J = 0) := Lib.hid (by rw [HE2.out]; exact if_pos ⟨hx, hy⟩)
          clear hx hy HE2
          go_wp2_with fail
          go_ret
          exact ⟨ret_int HF.out.symm, kb⟩
        · have dy : (Y == 0) = false := by simpa using hy
          have HF : Hid (J = 3) := Lib.hid (by rw [HE2.out]; exact if_neg fun h => hy h.2)
          clear hx hy HE2
          go_wp2_with fail
          go_ret
          exact ⟨ret_int HF.out.symm, kb⟩
      · have dx : (X == 0) = false := by simpa using hx
        have HF : Hid (J = 3) := Lib.hid (by rw [HE2.out]; exact if_neg fun h => hx h.1)
        clear hx HE2
        by_cases hy : Y = 0
        · have dy : (Y == 0) = true := by simpa using hy
          clear hy
          go_wp2_with fail
          go_ret
          exact ⟨ret_int HF.out.symm, kb⟩
        · have dy : (Y == 0) = false := by simpa using hy
          clear hy
          go_wp2_with fail
          go_ret
          exact ⟨ret_int HF.out.symm, kb⟩
end Go.Proofs.YthaoalmhhgllmaaDoor
namespace Go.Proofs.YthaoalmhhgllmaaDoor
open Go.RowKit
set_option maxHeartbeats 4000000 in
set_option maxRecDepth 10000 in
theorem of_no {l : List Kno} {b : Nat} (t : Tr) (h1 : t.kind ≠ 1) (h3 : t.kind ≠ 3) (h4 : t.kind ≠ 4) (h5 : t.kind ≠ 5) (h6 : t.kind ≠ 6) : OfC l b t := by
  intro w P A cap hk hm
  have HE : Hid (wyT l t = 0) := Lib.hid (wy_rest h1 h3 h4 h5 h6)
  have s1 : (t.kind == 1) = false := by rw [beq_eq_false_iff_ne]; exact h1
  have s3 : (t.kind == 3) = false := by rw [beq_eq_false_iff_ne]; exact h3
  have s4 : (t.kind == 4) = false := by rw [beq_eq_false_iff_ne]; exact h4
  have s5 : (t.kind == 5) = false := by rw [beq_eq_false_iff_ne]; exact h5
  have s6 : (t.kind == 6) = false := by rw [beq_eq_false_iff_ne]; exact h6
  clear h1 h3 h4 h5 h6 hk hm
  go_enter Tryd.func21, Tryd.ntmps21
  go_wp2_with fail
  go_ret
  exact ⟨ret_int HE.out.symm, (Below.refl _ _).alloc (Nat.le_refl _) _⟩
set_option maxHeartbeats 4000000 in
set_option maxRecDepth 10000 in
theorem of_1 {l : List Kno} {b : Nat} (t : Tr) (h : t.kind = 1) (hw : wyT l t = wIn l t.c1 t.r1 t.c2 t.r2) : OfC l b t := by
  intro w P A cap hk hm
  have HE := Lib.hid hw
  have s1 : (t.kind == 1) = true := by rw [h]; rfl
  have s6 : (t.kind == 6) = false := by rw [h]; rfl
  have s3 : (t.kind == 3) = false := by rw [h]; rfl
  have s4 : (t.kind == 4) = false := by rw [h]; rfl
  have s5 : (t.kind == 5) = false := by rw [h]; rfl
  have hb0 : Below (w.heap.size + 1) (w.alloc (.cells #[.int .i64 t.kind, .int .i64 t.num, .int .i64 t.c1, .int .i64 t.r1, .int .i64 t.c2, .int .i64 t.r2, .string ⟨t.word.toArray⟩, .slice A t.kids.length cap] 29)) (w.alloc (.cells #[.int .i64 t.kind, .int .i64 t.num, .int .i64 t.c1, .int .i64 t.r1, .int .i64 t.c2, .int .i64 t.r2, .string ⟨t.word.toArray⟩, .slice A t.kids.length cap] 29)) := Below.refl _ _
  obtain ⟨⟨k0, k1, k2, k3, k4, k5, k6, k7⟩, kz, kb⟩ := parT hb0
  have HA := Lib.hid (mwithin_any l b t.c1 t.r1 t.c2 t.r2 _ (hm.below kb))
  clear h hw hk hm k0 k1 k2 k3 k4 k5 k6 k7 kz
  generalize wIn l t.c1 t.r1 t.c2 t.r2 = X at *
  go_enter Tryd.func21, Tryd.ntmps21
  go_wp2_with fail
  refine Calls.mono HA.out ?_; rintro e w1 ⟨rfl, b1⟩
  have hb1 := kb.trans (b1.mono (by simp))
  clear b1 kb hb0
  go_wp2_with fail
  go_ret
  exact ⟨ret_int HE.out.symm, hb1⟩
set_option maxHeartbeats 4000000 in
set_option maxRecDepth 10000 in
theorem of_6 {l : List Kno} {b : Nat} (t : Tr) (h : t.kind = 6) (hw : wyT l t = wIn l t.c1 t.r1 t.c2 t.r2) : OfC l b t := by
  intro w P A cap hk hm
  have HE := Lib.hid hw
  have s1 : (t.kind == 1) = false := by rw [h]; rfl
  have s6 : (t.kind == 6) = true := by rw [h]; rfl
  have s3 : (t.kind == 3) = false := by rw [h]; rfl
  have s4 : (t.kind == 4) = false := by rw [h]; rfl
  have s5 : (t.kind == 5) = false := by rw [h]; rfl
  have hb0 : Below (w.heap.size + 1) (w.alloc (.cells #[.int .i64 t.kind, .int .i64 t.num, .int .i64 t.c1, .int .i64 t.r1, .int .i64 t.c2, .int .i64 t.r2, .string ⟨t.word.toArray⟩, .slice A t.kids.length cap] 29)) (w.alloc (.cells #[.int .i64 t.kind, .int .i64 t.num, .int .i64 t.c1, .int .i64 t.r1, .int .i64 t.c2, .int .i64 t.r2, .string ⟨t.word.toArray⟩, .slice A t.kids.length cap] 29)) := Below.refl _ _
  obtain ⟨⟨k0, k1, k2, k3, k4, k5, k6, k7⟩, kz, kb⟩ := parT hb0
  have HA := Lib.hid (mwithin_any l b t.c1 t.r1 t.c2 t.r2 _ (hm.below kb))
  clear h hw hk hm k0 k1 k2 k3 k4 k5 k6 k7 kz
  generalize wIn l t.c1 t.r1 t.c2 t.r2 = X at *
  go_enter Tryd.func21, Tryd.ntmps21
  go_wp2_with fail
  refine Calls.mono HA.out ?_; rintro e w1 ⟨rfl, b1⟩
  have hb1 := kb.trans (b1.mono (by simp))
  clear b1 kb hb0
  go_wp2_with fail
  go_ret
  exact ⟨ret_int HE.out.symm, hb1⟩
set_option maxHeartbeats 4000000 in
set_option maxRecDepth 10000 in
theorem of_3 {l : List Kno} {b : Nat} (t a : Tr) (h : t.kind = 3) (h0 : t.kids[0]? = some a) (ih : OfC l b a) : OfC l b t := by
  intro w P A cap hk hm
  have HE : Hid (wyT l t = flipW (wyT l a)) := Lib.hid (wy_neg h h0)
  have s1 : (t.kind == 1) = false := by rw [h]; rfl
  have s6 : (t.kind == 6) = false := by rw [h]; rfl
  have s3 : (t.kind == 3) = true := by rw [h]; rfl
  have s4 : (t.kind == 4) = false := by rw [h]; rfl
  have s5 : (t.kind == 5) = false := by rw [h]; rfl
  obtain ⟨g, o, rfl⟩ := hk.kv.addr h0
  have l0 : 0 < t.kids.length := (List.getElem?_eq_some_iff.1 h0).1
  have hb0 : Below (w.heap.size + 1) (w.alloc (.cells #[.int .i64 t.kind, .int .i64 t.num, .int .i64 t.c1, .int .i64 t.r1, .int .i64 t.c2, .int .i64 t.r2, .string ⟨t.word.toArray⟩, .slice (some ⟨g, o, none⟩) t.kids.length cap] 29)) (w.alloc (.cells #[.int .i64 t.kind, .int .i64 t.num, .int .i64 t.c1, .int .i64 t.r1, .int .i64 t.c2, .int .i64 t.r2, .string ⟨t.word.toArray⟩, .slice (some ⟨g, o, none⟩) t.kids.length cap] 29)) := Below.refl _ _
  obtain ⟨⟨k0, k1, k2, k3, k4, k5, k6, k7⟩, kz, kb⟩ := parT hb0
  obtain ⟨hga, Aa, cpa, ⟨q0, q1, q2, q3, q4, q5, q6, q7⟩, hka⟩ := hk.kidAt kb h0
  simp only [Nat.zero_mul, Nat.add_zero] at q0 q1 q2 q3 q4 q5 q6 q7
  have HC0 := Lib.hid (ih _ _ Aa cpa hka (hm.below kb))
  have HX := Lib.hid (fun w => mflip_any (wyT l a) w)
  clear hk hm h h0 ih hka hga k0 k1 k2 k3 k4 k5 k6 k7 kz
  generalize wyT l t = J at *
  generalize wyT l a = X at *
  generalize flipW X = Y at *
  go_enter Tryd.func21, Tryd.ntmps21
  go_wp2_with fail
  refine Calls.mono HC0.out ?_; rintro e w1 ⟨rfl, b1⟩
  have hb1 := kb.trans (b1.mono (by simp))
  clear b1 kb hb0 q0 q1 q2 q3 q4 q5 q6 q7
  go_wp2_with fail
  refine Calls.mono (HX.out _) ?_; rintro e w2 ⟨rfl, b2⟩
  have hb2 := hb1.trans (b2.mono hb1.size)
  clear b2 hb1
  go_wp2_with fail
  go_ret
  exact ⟨ret_int HE.out.symm, hb2⟩
set_option maxHeartbeats 4000000 in
set_option maxRecDepth 10000 in
theorem of_5 {l : List Kno} {b : Nat} (t : Tr) (h : t.kind = 5) (ih : CallW l b t) : OfC l b t := by
  intro w P A cap hk hm
  have s1 : (t.kind == 1) = false := by rw [h]; rfl
  have s6 : (t.kind == 6) = false := by rw [h]; rfl
  have s3 : (t.kind == 3) = false := by rw [h]; rfl
  have s4 : (t.kind == 4) = false := by rw [h]; rfl
  have s5 : (t.kind == 5) = true := by rw [h]; rfl
  have hb0 : Below (w.heap.size + 1) (w.alloc (.cells #[.int .i64 t.kind, .int .i64 t.num, .int .i64 t.c1, .int .i64 t.r1, .int .i64 t.c2, .int .i64 t.r2, .string ⟨t.word.toArray⟩, .slice A t.kids.length cap] 29)) (w.alloc (.cells #[.int .i64 t.kind, .int .i64 t.num, .int .i64 t.c1, .int .i64 t.r1, .int .i64 t.c2, .int .i64 t.r2, .string ⟨t.word.toArray⟩, .slice A t.kids.length cap] 29)) := Below.refl _ _
  obtain ⟨⟨k0, k1, k2, k3, k4, k5, k6, k7⟩, kz, kb⟩ := parT hb0
  have HO := Lib.hid (ih _ _ A cap (hk.below kb) (hm.below kb))
  clear hk hm h ih k0 k1 k2 k3 k4 k5 k6 k7 kz
  generalize wyT l t = X at *
  go_enter Tryd.func21, Tryd.ntmps21
  go_wp2_with fail
  refine Calls.mono HO.out ?_; rintro e w1 ⟨rfl, b1⟩
  have hb1 := kb.trans (b1.mono (by simp))
  clear b1 kb hb0
  go_wp2_with fail
  go_ret
  exact ⟨rfl, hb1⟩
end Go.Proofs.YthaoalmhhgllmaaDoor
namespace Go.Proofs.YthaoalmhhgllmaaDoor
open Go.RowKit
set_option maxHeartbeats 8000000 in
set_option maxRecDepth 10000 in
theorem of_4 {l : List Kno} {b : Nat} (t u v : Tr) (h2 : t.kids.length = 2) (hlv : 1 ≤ lvl t.word) (h : t.kind = 4) (h0 : t.kids[0]? = some u) (h1 : t.kids[1]? = some v) (iha : OfC l b u) (ihb : OfC l b v) (cu : KstC u) (cv : KstC v) (hw : opW t.word (wyT l u) (wyT l v) (cnT u) (cnT v) = wyT l t) : OfC l b t := by
  intro w P A cap hk hm
  have s1 : (t.kind == 1) = false := by rw [h]; rfl
  have s6 : (t.kind == 6) = false := by rw [h]; rfl
  have s3 : (t.kind == 3) = false := by rw [h]; rfl
  have s4 : (t.kind == 4) = true := by rw [h]; rfl
  have s5 : (t.kind == 5) = false := by rw [h]; rfl
  obtain ⟨g, o, rfl⟩ := hk.kv.addr h0
  rw [h2]
  have hb0 : Below (w.heap.size + 1) (w.alloc (.cells #[.int .i64 t.kind, .int .i64 t.num, .int .i64 t.c1, .int .i64 t.r1, .int .i64 t.c2, .int .i64 t.r2, .string ⟨t.word.toArray⟩, .slice (some ⟨g, o, none⟩) 2 cap] 29)) (w.alloc (.cells #[.int .i64 t.kind, .int .i64 t.num, .int .i64 t.c1, .int .i64 t.r1, .int .i64 t.c2, .int .i64 t.r2, .string ⟨t.word.toArray⟩, .slice (some ⟨g, o, none⟩) 2 cap] 29)) := Below.refl _ _
  have kb := (parT hb0).2.2
  obtain ⟨hga, Aa, ca, ⟨q0, q1, q2, q3, q4, q5, q6, q7⟩, hka⟩ := hk.kidAt kb h0
  simp only [Nat.zero_mul, Nat.add_zero] at q0 q1 q2 q3 q4 q5 q6 q7
  obtain ⟨hgb, Ab, cb, ⟨p0, p1, p2, p3, p4, p5, p6, p7⟩, hkb⟩ := hk.kidAt kb h1
  simp only [Nat.one_mul, Nat.add_assoc, Nat.reduceAdd] at p0 p1 p2 p3 p4 p5 p6 p7
  have HL : Hid (∀ w', Below (w.alloc (.cells #[.int .i64 t.kind, .int .i64 t.num, .int .i64 t.c1, .int .i64 t.r1, .int .i64 t.c2, .int .i64 t.r2, .string ⟨t.word.toArray⟩, .slice (some ⟨g, o, none⟩) 2 cap] 29)).heap.size (w.alloc (.cells #[.int .i64 t.kind, .int .i64 t.num, .int .i64 t.c1, .int .i64 t.r1, .int .i64 t.c2, .int .i64 t.r2, .string ⟨t.word.toArray⟩, .slice (some ⟨g, o, none⟩) 2 cap] 29)) w' → w'.cell? ⟨g, o, none⟩ = some (.int .i64 u.kind) ∧ w'.cell? ⟨g, o + 1, none⟩ = some (.int .i64 u.num) ∧ w'.cell? ⟨g, o + 2, none⟩ = some (.int .i64 u.c1) ∧ w'.cell? ⟨g, o + 3, none⟩ = some (.int .i64 u.r1) ∧ w'.cell? ⟨g, o + 4, none⟩ = some (.int .i64 u.c2) ∧ w'.cell? ⟨g, o + 5, none⟩ = some (.int .i64 u.r2) ∧ w'.cell? ⟨g, o + 6, none⟩ = some (.string ⟨u.word.toArray⟩) ∧ w'.cell? ⟨g, o + 7, none⟩ = some (.slice Aa u.kids.length ca) ∧ w'.cell? ⟨g, o + 8, none⟩ = some (.int .i64 v.kind) ∧ w'.cell? ⟨g, o + 9, none⟩ = some (.int .i64 v.num) ∧ w'.cell? ⟨g, o + 10, none⟩ = some (.int .i64 v.c1) ∧ w'.cell? ⟨g, o + 11, none⟩ = some (.int .i64 v.r1) ∧ w'.cell? ⟨g, o + 12, none⟩ = some (.int .i64 v.c2) ∧ w'.cell? ⟨g, o + 13, none⟩ = some (.int .i64 v.r2) ∧ w'.cell? ⟨g, o + 14, none⟩ = some (.string ⟨v.word.toArray⟩) ∧ w'.cell? ⟨g, o + 15, none⟩ = some (.slice Ab v.kids.length cb) ∧ w'.cell? ⟨w.heap.size, 0, none⟩ = some (.int .i64 t.kind) ∧ w'.cell? ⟨w.heap.size, 1, none⟩ = some (.int .i64 t.num) ∧ w'.cell? ⟨w.heap.size, 2, none⟩ = some (.int .i64 t.c1) ∧ w'.cell? ⟨w.heap.size, 3, none⟩ = some (.int .i64 t.r1) ∧ w'.cell? ⟨w.heap.size, 4, none⟩ = some (.int .i64 t.c2) ∧ w'.cell? ⟨w.heap.size, 5, none⟩ = some (.int .i64 t.r2) ∧ w'.cell? ⟨w.heap.size, 6, none⟩ = some (.string ⟨t.word.toArray⟩) ∧ w'.cell? ⟨w.heap.size, 7, none⟩ = some (.slice (some ⟨g, o, none⟩) 2 cap)) := Lib.hid fun w' hb => by
    obtain ⟨⟨k0, k1, k2, k3, k4, k5, k6, k7⟩, _⟩ := parT (hb.mono (by simp))
    exact ⟨keep_cell hb q0, keep_cell hb q1, keep_cell hb q2, keep_cell hb q3, keep_cell hb q4, keep_cell hb q5, keep_cell hb q6, keep_cell hb q7, keep_cell hb p0, keep_cell hb p1, keep_cell hb p2, keep_cell hb p3, keep_cell hb p4, keep_cell hb p5, keep_cell hb p6, keep_cell hb p7, k0, k1, k2, k3, k4, k5, k6, k7⟩
  have HO : Hid (∀ w', Below (w.alloc (.cells #[.int .i64 t.kind, .int .i64 t.num, .int .i64 t.c1, .int .i64 t.r1, .int .i64 t.c2, .int .i64 t.r2, .string ⟨t.word.toArray⟩, .slice (some ⟨g, o, none⟩) 2 cap] 29)).heap.size (w.alloc (.cells #[.int .i64 t.kind, .int .i64 t.num, .int .i64 t.c1, .int .i64 t.r1, .int .i64 t.c2, .int .i64 t.r2, .string ⟨t.word.toArray⟩, .slice (some ⟨g, o, none⟩) 2 cap] 29)) w' → _) := Lib.hid fun w' hb => mop_any t.word hlv u v iha ihb cu cv w' _ _ Aa Ab ca cb (hka.below hb) (hkb.below hb) ((hm.below kb).below hb)
  rw [hw] at HO
  clear hk hm h h0 h1 iha ihb hka hkb hga hgb hb0 q0 q1 q2 q3 q4 q5 q6 q7 p0 p1 p2 p3 p4 p5 p6 p7 cu cv hw hlv
  generalize wyT l t = J at *
  go_enter Tryd.func21, Tryd.ntmps21
  go_wp2_with fail
  generalize (w.alloc (.cells #[.int .i64 t.kind, .int .i64 t.num, .int .i64 t.c1, .int .i64 t.r1, .int .i64 t.c2, .int .i64 t.r2, .string ⟨t.word.toArray⟩, .slice (some ⟨g, o, none⟩) 2 cap] 29)) = W2 at *
  go_region_held3 (fun w' => w'.cell? ⟨g, o, none⟩ = some (.int .i64 u.kind) ∧ w'.cell? ⟨g, o + 1, none⟩ = some (.int .i64 u.num) ∧ w'.cell? ⟨g, o + 2, none⟩ = some (.int .i64 u.c1) ∧ w'.cell? ⟨g, o + 3, none⟩ = some (.int .i64 u.r1) ∧ w'.cell? ⟨g, o + 4, none⟩ = some (.int .i64 u.c2) ∧ w'.cell? ⟨g, o + 5, none⟩ = some (.int .i64 u.r2) ∧ w'.cell? ⟨g, o + 6, none⟩ = some (.string ⟨u.word.toArray⟩) ∧ w'.cell? ⟨g, o + 7, none⟩ = some (.slice Aa u.kids.length ca) ∧ w'.cell? ⟨g, o + 8, none⟩ = some (.int .i64 v.kind) ∧ w'.cell? ⟨g, o + 9, none⟩ = some (.int .i64 v.num) ∧ w'.cell? ⟨g, o + 10, none⟩ = some (.int .i64 v.c1) ∧ w'.cell? ⟨g, o + 11, none⟩ = some (.int .i64 v.r1) ∧ w'.cell? ⟨g, o + 12, none⟩ = some (.int .i64 v.c2) ∧ w'.cell? ⟨g, o + 13, none⟩ = some (.int .i64 v.r2) ∧ w'.cell? ⟨g, o + 14, none⟩ = some (.string ⟨v.word.toArray⟩) ∧ w'.cell? ⟨g, o + 15, none⟩ = some (.slice Ab v.kids.length cb) ∧ w'.cell? ⟨w.heap.size, 0, none⟩ = some (.int .i64 t.kind) ∧ w'.cell? ⟨w.heap.size, 1, none⟩ = some (.int .i64 t.num) ∧ w'.cell? ⟨w.heap.size, 2, none⟩ = some (.int .i64 t.c1) ∧ w'.cell? ⟨w.heap.size, 3, none⟩ = some (.int .i64 t.r1) ∧ w'.cell? ⟨w.heap.size, 4, none⟩ = some (.int .i64 t.c2) ∧ w'.cell? ⟨w.heap.size, 5, none⟩ = some (.int .i64 t.r2) ∧ w'.cell? ⟨w.heap.size, 6, none⟩ = some (.string ⟨t.word.toArray⟩) ∧ w'.cell? ⟨w.heap.size, 7, none⟩ = some (.slice (some ⟨g, o, none⟩) 2 cap))
    (with_reducible exact HL.out _ (by with_reducible repeat' (first | exact Below.refl _ _ | exact B1 | exact Nat.le_refl _ | exact B1.size | refine Below.drew ?_ | refine Below.alloc ?_ ?_ _ | refine Below.setCell ?_ ?_ _)))
    (first
    | (go_at_call 36
       refine Calls.mono (HO.out _ (by with_reducible repeat' (first | exact Below.refl _ _ | exact B1 | exact Nat.le_refl _ | exact B1.size | refine Below.drew ?_ | refine Below.alloc ?_ ?_ _ | refine Below.setCell ?_ ?_ _))) ?_; rintro e w1 ⟨rfl, b1⟩
       have B1 : Below W2.heap.size W2 w1 := below_up (by with_reducible repeat' (first | exact Below.refl _ _ | exact B1 | exact Nat.le_refl _ | exact B1.size | refine Below.drew ?_ | refine Below.alloc ?_ ?_ _ | refine Below.setCell ?_ ?_ _)) b1
       clear b1)
    | fail)
  go_wp2_with fail
  go_ret
  exact ⟨rfl, kb.trans (B1.mono kb.size)⟩
theorem some_kid {t : Tr} (hm : mayB t = true) (h : t.kind = 5) (hn : t.word ≠ [73, 70]) : 0 < t.kids.length := by
  rw [may_5 h, Bool.and_eq_true, Bool.and_eq_true] at hm
  have h2 := hm.2.2
  rw [if_neg hn] at h2
  split at h2
  · exact of_decide_eq_true h2
  · cases h2
theorem of_any {l : List Kno} {b : Nat} : ∀ {t : Tr}, Wid t → GE t → OfC l b t := by
  intro t hW
  induction hW with
  | @mk k n c r d s w ks hlw hkw ih =>
    intro ge
    by_cases k1 : k = 1
    · subst k1
      refine of_1 _ rfl ?_
      have hm := ge.may
      rw [mayB, if_neg (by decide), if_pos rfl] at hm
      simp only [Bool.and_eq_true, beq_iff_eq] at hm
      obtain ⟨_, hr, rfl, rfl⟩ := hm
      rw [wy_read (show (Tr.mk 1 n c r c r w ks).kind = 1 from rfl)]
      exact (wIn_one hr).symm
    by_cases k3 : k = 3
    · obtain ⟨a, ha⟩ := kids_3 ge.may (show (Tr.mk k n c r d s w ks).kind = 3 from k3)
      have ha : ks = [a] := ha
      subst ha
      exact of_3 _ a k3 rfl (ih a (by simp) (ge.kid (List.mem_cons_self ..)))
    by_cases k4 : k = 4
    · obtain ⟨x, y, ha⟩ := kids_4 ge.may (show (Tr.mk k n c r d s w ks).kind = 4 from k4)
      have ha : ks = [x, y] := ha
      subst ha
      have gx := ge.kid (u := x) (by simp [Tr.kids])
      have gy := ge.kid (u := y) (by simp [Tr.kids])
      have hlv : 1 ≤ lvl w := by
        have hm := ge.may
        rw [may_4 (show (Tr.mk k n c r d s w [x, y]).kind = 4 from k4), Bool.and_eq_true, Bool.and_eq_true] at hm
        exact of_decide_eq_true hm.2.2
      refine of_4 _ x y rfl hlv k4 rfl rfl (ih x (by simp) gx) (ih y (by simp) gy) (kst_any (hkw x (by simp)) gx) (kst_any (hkw y (by simp)) gy) ?_
      rw [wy_op (show (Tr.mk k n c r d s w [x, y]).kind = 4 from k4) (show (Tr.mk k n c r d s w [x, y]).kids[0]? = some x from rfl) (show (Tr.mk k n c r d s w [x, y]).kids[1]? = some y from rfl)]
      exact (sg_op (sg_cst x gx.may) (sg_cst y gy.may)).symm
    by_cases k6 : k = 6
    · exact of_6 _ k6 (wy_span k6)
    by_cases k5 : k = 5
    · refine of_5 _ k5 ?_
      have hi : ∀ u ∈ (Tr.mk k n c r d s w ks).kids, OfC l b u := fun u hu => ih u hu (ge.kid hu)
      rcases kids_5 ge.may (show (Tr.mk k n c r d s w ks).kind = 5 from k5) with ⟨hw, x, y, z, hks⟩ | hw | hw | hw | hw
      · exact call_ifW _ x y z hks k5 hw hi
      · exact call_sumW _ ge.len (some_kid ge.may k5 (by show w ≠ _; rw [show w = _ from hw]; decide)) k5 hw hi
      · exact call_minW _ ge.len (some_kid ge.may k5 (by show w ≠ _; rw [show w = _ from hw]; decide)) k5 hw hi
      · exact call_maxW _ ge.len (some_kid ge.may k5 (by show w ≠ _; rw [show w = _ from hw]; decide)) k5 hw hi
      · exact call_c _ k5 hw
    exact of_no _ k1 k3 k4 k5 k6
end Go.Proofs.YthaoalmhhgllmaaDoor
