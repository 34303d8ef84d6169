/- Texts joined: TrAf, TuA, NdS, TsP, TsQ. -/
import Derived.Test.YtjgadggehpmdkaaGreatDoorTj09
import Derived.Test.YtjgadggehpmdkaaGreatDoorTj15
import Derived.Deep.QuietTactic
import Derived.BigQuiet
import Derived.Test.YtjgadggehpmdkaaGreatDoorTj21
import Derived.Test.YtjgadggehpmdkaaGreatDoorTj26
import Derived.BigGuard
import Derived.Test.YtjgadggehpmdkaaGreatDoorTj07
set_option linter.all false
namespace Go.Proofs.YtjgadggehpmdkaaGreatDoor
open Go.RowKit
theorem rentGuard : Tryz.prog.eqGuardType Tryz.prog.depth 68 = false := by kernel_rfl
theorem rentStood : Tryz.prog.stoodInHeld 68 = false := by kernel_rfl
theorem rentStruct : Tryz.prog.underlying 68 = some (.struct (Tryz.prog.fieldsOf 68)) := by kernel_rfl
theorem guard_rent (op : BinOp) (X Y : Operand) (xs ys : Array Value) (W : World) : (eqGuard op 68 X Y (.agg xs) (.agg ys)).run Tryz.prog W = .ok () W := run_eqGuard_agg W op 68 X Y xs ys rentGuard
theorem neq_rent (x y : Int) (s t : List UInt8) (W : World) : (binOp .neq 68 (.agg #[.int .i64 x, .string ⟨s.toArray⟩]) (.agg #[.int .i64 y, .string ⟨t.toArray⟩])).run Tryz.prog W = .ok (.bool (!decide ((⟨x, s⟩ : En) = ⟨y, t⟩))) W := by
  rw [run_neq_struct, run_equalIn_agg W 9999 68 _ _ rentStruct rentStood]
  have e : ∀ s : List UInt8, (⟨s.toArray⟩ : ByteArray).toList = s := fun s => ByteArray.toList_eq _
  by_cases h1 : x = y <;> by_cases h2 : s = t <;> simp [go_sem, h1, h2, e, En.mk.injEq]
set_option maxHeartbeats 4000000 in
set_option maxRecDepth 10000 in
theorem rsameE_any (l m : List En) (A C : Option Addr) (ca cb : Nat) (w : World) {Q R : Nat → Prop} (hl : RowE w Q A l) (hm : RowE w R C m) (hll : l.length ≤ 1000000) :
    Calls Tryz.prog 12 #[.slice A l.length ca, .slice C m.length cb] w fun e w' => e = .returned (.bool (decide (l = m))) ∧ ∃ n, w' = w.drewN n := by
  have HL := Lib.hid hl
  have HM := Lib.hid hm
  clear hl hm
  by_cases hne : l.length = m.length
  · have d0 : ((l.length : Int) != (m.length : Int)) = false := by simp [hne]
    have HN := Lib.hid hne
    clear hne
    go_enter Tryz.func12, Tryz.ntmps12
    go_wp2_with fail
    go_loopw [5] (fun v wr => ∃ i : Nat, i ≤ l.length ∧ v = .int .i64 i ∧ Hid (l.take i = m.take i) ∧ ∃ n, wr = w.drewN n) (fun v _ => l.length - (RowKit.intOf v).toNat)
    case atStart => exact ⟨0, Nat.zero_le _, rfl, Lib.hid (by simp), 0, rfl⟩
    case round =>
      obtain ⟨i, hi, rfl, HU, nd, rfl⟩ := hrel
      by_cases hlt : i < l.length
      · obtain ⟨x, hx⟩ : ∃ x, l[i]? = some x := ⟨_, List.getElem?_eq_getElem hlt⟩
        have hlt2 : i < m.length := by have := HN.out; omega
        obtain ⟨y, hy⟩ : ∃ y, m[i]? = some y := ⟨_, List.getElem?_eq_getElem hlt2⟩
        obtain ⟨g, o, rfl, _, _, ha⟩ := HL.out.at hlt
        obtain ⟨g', o', rfl, _, _, hb⟩ := HM.out.at hlt2
        obtain ⟨a0, a1⟩ := ha.two hx
        obtain ⟨b0, b1⟩ := hb.two hy
        have hI : (i : Int) < (l.length : Int) := by omega
        have hJ : (i : Int) < (m.length : Int) := by omega
        have Hxy := Lib.hid hx
        have Hpq := Lib.hid hy
        obtain ⟨kx, tx⟩ := x
        obtain ⟨ky, ty⟩ := y
        clear hx hy ha hb
        have hG := fun X Y W => guard_rent .neq X Y #[.int .i64 kx, .string ⟨tx.toArray⟩] #[.int .i64 ky, .string ⟨ty.toArray⟩] W
        have hE := neq_rent kx ky tx ty
        cases he : (!decide ((⟨kx, tx⟩ : En) = ⟨ky, ty⟩)) with
        | true =>
          rw [he] at hE
          have HF := Lib.hid (show decide (l = m) = false from decide_eq_false (by
            intro e
            have h1 := Hxy.out
            rw [e, Hpq.out] at h1
            rw [Option.some.inj h1] at he
            simp at he))
          clear he
          go_wp2_with fail
          go_quiet (fail)
          go_wp2_with fail
          go_ret
          exact ⟨ret_bool HF.out.symm, nd + _, by first | exact (World.drewN_drewN _ _ _) | rfl⟩
        | false =>
          rw [he] at hE
          have HS : Hid (l.take (i + 1) = m.take (i + 1)) := Lib.hid (by
            have h2 : (⟨kx, tx⟩ : En) = ⟨ky, ty⟩ := by simpa using he
            rw [List.take_add_one, List.take_add_one, HU.out, Hxy.out, Hpq.out, h2])
          clear he
          go_wp2_with fail
          go_quiet (fail)
          go_wp2_with fail
          go_roundw
          case rel => exact ⟨i + 1, by omega, by go_num, HS, nd + nq, by first | exact (World.drewN_drewN _ _ _) | rfl⟩
          case measure => simp [RowKit.intOf]; omega
      · have HF := Lib.hid (show decide (l = m) = true from decide_eq_true (by
          have h1 := HU.out
          rwa [List.take_of_length_le (by omega), List.take_of_length_le (by have := HN.out; omega)] at h1))
        go_wp2_with fail
        go_ret
        exact ⟨ret_bool HF.out.symm, nd, rfl⟩
  · have d0 : ((l.length : Int) != (m.length : Int)) = true := by simpa using fun h => hne (by omega)
    have HF := Lib.hid (show decide (l = m) = false from decide_eq_false (by rintro rfl; exact hne rfl))
    clear hne
    go_enter Tryz.func12, Tryz.ntmps12
    go_wp2_with fail
    go_ret
    exact ⟨ret_bool HF.out.symm, 0, by simp [World.drewN_zero]⟩
end Go.Proofs.YtjgadggehpmdkaaGreatDoor
namespace Go.Proofs.YtjgadggehpmdkaaGreatDoor
open Go.RowKit Go.Shelf
theorem pentGuard : Tryz.prog.eqGuardType Tryz.prog.depth 55 = false := by kernel_rfl
theorem pentStood : Tryz.prog.stoodInHeld 55 = false := by kernel_rfl
theorem pentStruct : Tryz.prog.underlying 55 = some (.struct (Tryz.prog.fieldsOf 55)) := by kernel_rfl
theorem guard_pent (op : BinOp) (X Y : Operand) (xs ys : Array Value) (W : World) : (eqGuard op 55 X Y (.agg xs) (.agg ys)).run Tryz.prog W = .ok () W := run_eqGuard_agg W op 55 X Y xs ys pentGuard
theorem eql_pent (x : Int) (s : ByteArray) (W : World) : (binOp .eql 55 (.agg #[.int .i64 x, .string s]) (.agg #[.int .i64 x, .string s])).run Tryz.prog W = .ok (.bool true) W := by
  rw [run_eql_struct, run_equalIn_agg W 9999 55 _ _ pentStruct pentStood]
  simp [go_sem]
theorem lf9_up {w w0 w2 : World} {B a room : Nat} {s : Sh} {K K2 : Nat → Prop} (h : Lf9 w B a room s K w2 K2) (h0 : Below B w0 w) : On9 w2 B a room s K2 ∧ Below B w0 w2 := ⟨h.1, h0.trans h.2.2.2⟩
set_option maxHeartbeats 16000000 in
set_option maxRecDepth 10000 in
theorem talive_any (w : World) (hE : TB w.heap.size w) : Calls Tryz.prog 7 #[] w fun e w' => e = .returned (.bool true) ∧ Below w.heap.size w w' := by
  have HE := Lib.hid (o9New w hE 9 (by decide))
  have hI1 : ∀ W, (binOp .eql 55 (.agg #[.int .i64 2, .string ⟨#[121]⟩]) (.agg #[.int .i64 2, .string ⟨#[121]⟩])).run Tryz.prog W = .ok (.bool true) W := eql_pent 2 ⟨#[121]⟩
  have hI2 : ∀ W, (binOp .eql 55 (.agg #[.int .i64 5, .string ⟨#[122]⟩]) (.agg #[.int .i64 5, .string ⟨#[122]⟩])).run Tryz.prog W = .ok (.bool true) W := eql_pent 5 ⟨#[122]⟩
  have hG1 := fun X Y W => guard_pent .eql X Y #[.int .i64 2, .string ⟨#[121]⟩] #[.int .i64 2, .string ⟨#[121]⟩] W
  have hG2 := fun X Y W => guard_pent .eql X Y #[.int .i64 5, .string ⟨#[122]⟩] #[.int .i64 5, .string ⟨#[122]⟩] W
  clear hE
  go_enter Tryz.func7, Tryz.ntmps7
  go_wp2_with fail
  refine HE.out.mono ?_; rintro e w1 ⟨a, K1, rfl, hO1, hK1, hb1⟩
  clear HE
  have hb2 : Below w1.heap.size w1 (w1.alloc (.cells #[.int .i64 5, .string ⟨#[120]⟩, .int .i64 2, .string ⟨#[121]⟩] 55)) := (Below.refl _ _).alloc (Nat.le_refl _) _
  have hO2 := hO1.below hb2
  have hrow : RowE (w1.alloc (.cells #[.int .i64 5, .string ⟨#[120]⟩, .int .i64 2, .string ⟨#[121]⟩] 55)) (fun g => K1 g ∨ (w1.heap.size ≤ g ∧ g < (w1.alloc (.cells #[.int .i64 5, .string ⟨#[120]⟩, .int .i64 2, .string ⟨#[121]⟩] 55)).heap.size)) (some ⟨w1.heap.size, 0, none⟩) alA := by
    refine .inr ⟨_, _, rfl, .inr ⟨Nat.le_refl _, by simp⟩, by simp, ?_⟩
    intro i x hx j u hu
    rw [Lib.cell_of_heap (heap_alloc_new w1 _)]
    rcases i with _ | _ | i
    · obtain rfl : x = ⟨5, [120]⟩ := (Option.some.inj hx).symm
      rcases j with _ | _ | j
      · exact hu
      · exact hu
      · cases hu
    · obtain rfl : x = ⟨2, [121]⟩ := (Option.some.inj hx).symm
      rcases j with _ | _ | j
      · exact hu
      · exact hu
      · cases hu
    · cases hx
  have HBu := Lib.hid (ptbuild_any hO2 alA (some ⟨w1.heap.size, 0, none⟩) 2 hrow (by decide) (by decide))
  have HB2 := Lib.hid (hb1.trans (hb2.mono hb1.size))
  clear hO1 hK1 hb1 hb2 hO2 hrow
  rw [alB] at HBu
  go_wp2_with fail
  refine HBu.out.mono ?_; rintro e w3 ⟨K3, rfl, hl3⟩
  obtain ⟨hO3, hb3⟩ := lf9_up hl3 HB2.out
  have HP := Lib.hid (ptrput_any hO3 3 (by decide) ⟨5, [122]⟩ (by decide))
  have HB3 := Lib.hid hb3
  clear hl3 hO3 hb3 HBu HB2
  rw [show (alS1, (3 : Int), 0).1 = alS1 from rfl, alP] at HP
  unfold enV at HP
  go_wp2_with fail
  refine HP.out.mono ?_; rintro e w4 ⟨K4, rfl, hl4⟩
  obtain ⟨hO4, hb4⟩ := lf9_up hl4 HB3.out
  have HD := Lib.hid (ptrdel_any hO4 5 (by decide) 5)
  have HB4 := Lib.hid hb4
  clear hl4 hO4 hb4 HP HB3
  rw [show (alS2, (5 : Int), 0).1 = alS2 from rfl, alD] at HD
  go_wp2_with fail
  refine HD.out.mono ?_; rintro e w5 ⟨K5, rfl, hl5⟩
  obtain ⟨hO5, hb5⟩ := lf9_up hl5 HB4.out
  have HAl := Lib.hid (pall_any hO5 5 (by decide))
  have HO5 := Lib.hid hO5
  have HB5 := Lib.hid hb5
  clear hl5 hO5 hb5 HD HB4
  rw [show (alS3, (2 : Int), 0).1 = alS3 from rfl, alH2] at HAl
  go_wp2_with fail
  refine HAl.out.mono ?_; rintro e w6 ⟨O, co, rfl, hco, hr6, hb6⟩
  have hO6 := HO5.out.below hb6
  have HGt := Lib.hid (pget_any hO6 3 (by decide) 5)
  have HO6 := Lib.hid hO6
  have HR6 := Lib.hid (hr6.mono (Q := fun g => K5 g ∨ (w5.heap.size ≤ g ∧ g < w6.heap.size)) fun g hg hl => .inr ⟨hg, hl⟩)
  have HB6 := Lib.hid (HB5.out.trans (hb6.mono HO5.out.base))
  clear hO6 hr6 hb6 HO5 HB5 HAl
  rw [alG] at HGt
  go_wp2_with fail
  refine HGt.out.mono ?_; rintro e w7 ⟨rfl, hb7⟩
  have hO7 := HO6.out.below hb7
  have HD2 := Lib.hid (ptrdel_any hO7 2 (by decide) 5)
  have HR7 := Lib.hid ((HR6.out.below hb7).mono (Q := fun g => (K5 g ∨ (w5.heap.size ≤ g ∧ g < w6.heap.size)) ∨ (w6.heap.size ≤ g ∧ g < w7.heap.size)) fun g hg _ => .inl hg)
  have HB7 := Lib.hid (HB6.out.trans (hb7.mono HO6.out.base))
  clear hO7 hb7 HR6 HB6 HO6 HGt
  rw [alE] at HD2
  go_wp2_with fail
  refine HD2.out.mono ?_; rintro e w8 ⟨K8, rfl, hl8⟩
  have hr8 := HR7.out.kept hl8.2.2.1
  obtain ⟨hO8, hb8⟩ := lf9_up hl8 HB7.out
  obtain ⟨g, o, rfl, _, hgl, hat⟩ := hr8.at (i := 0) (by decide)
  obtain ⟨q0, q1⟩ := hat.two (i := 0) (x := ⟨2, [121]⟩) rfl
  obtain ⟨q2, q3⟩ := hat.two (i := 1) (x := ⟨5, [122]⟩) rfl
  have p0 : w8.cell? ⟨g, o, none⟩ = some (.int .i64 2) := q0
  have p1 : w8.cell? ⟨g, o + 1, none⟩ = some (.string ⟨#[121]⟩) := q1
  have p2 : w8.cell? ⟨g, o + 2, none⟩ = some (.int .i64 5) := q2
  have p3 : w8.cell? ⟨g, o + 2 + 1, none⟩ = some (.string ⟨#[122]⟩) := q3
  have hlen : ((alL2.length : Nat) : Int) = 2 := rfl
  clear q0 q1 q2 q3
  have HI2 := Lib.hid (pis_any hO8 2 (by decide))
  have HO8 := Lib.hid hO8
  have HB8 := Lib.hid hb8
  clear hl8 hO8 hb8 HD2 HB7 HR7 hr8 hat
  rw [show (alS3, (0 : Int), 4).1 = alS3 from rfl, alH3] at HI2
  go_wp2_with fail
  refine HI2.out.mono ?_; rintro e w9 ⟨rfl, hb9⟩
  have HI9 := Lib.hid (pis_any (HO8.out.below hb9) 9 (by decide))
  have HB9 := Lib.hid (HB8.out.trans (hb9.mono HO8.out.base))
  clear hb9 HI2 HO8 HB8 p0 p1 p2 p3
  rw [al9] at HI9
  go_wp2_with fail
  refine HI9.out.mono ?_; rintro e w10 ⟨rfl, hb10⟩
  have HBx := Lib.hid (HB9.out.trans (hb10.mono HB9.out.size))
  have HK5 := Lib.hid (phash_any 5 w10)
  have HK25 := Lib.hid (fun w => phash_any 25 w)
  clear hb10 HB9 HI9
  rw [alK5] at HK5
  simp only [alK25] at HK25
  go_wp2_with fail
  refine HK5.out.mono ?_; rintro e w11 ⟨rfl, rfl⟩
  go_wp2_with fail
  refine (HK25.out _).mono ?_; rintro e w12 ⟨rfl, rfl⟩
  go_wp2_with fail
  go_ret
  exact ⟨rfl, HBx.out⟩
end Go.Proofs.YtjgadggehpmdkaaGreatDoor
namespace Go.Proofs.YtjgadggehpmdkaaGreatDoor
open Go.RowKit
theorem make_node (w : World) : (Instr.makeSlice 63 (.int .i64 1) (.int .i64 1)).run Tryz.prog w = .ok (.slice (some ⟨w.heap.size, 0, none⟩) 1 1) (w.alloc (.cells #[.int .i64 0, .slice none 0 0, .slice none 0 0, .string ⟨#[]⟩] 102)) := by
  obtain ⟨i1, hi1, hy0, hy1, hy2⟩ := info_parts rnode_info
  have h := run_make (P := Tryz.prog) w 63 102 i1 _ Tryz.underlying63 hi1 hy0 .i64 .i64 1 1 (by decide) (by decide) (by rw [hy2]; decide) (by decide)
  rw [hy1, show madeCells (Value.agg #[.int .i64 0, .slice none 0 0, .slice none 0 0, .string ⟨#[]⟩]).cells (Int.toNat 1 * 4) = #[.int .i64 0, .slice none 0 0, .slice none 0 0, .string ⟨#[]⟩] by kernel_rfl] at h
  exact h
theorem make_bool (w : World) : (Instr.makeSlice 77 (.int .i64 1) (.int .i64 1)).run Tryz.prog w = .ok (.slice (some ⟨w.heap.size, 0, none⟩) 1 1) (w.alloc (.cells #[.bool false] 4)) := by
  obtain ⟨i1, hi1, hy0, hy1, hy2⟩ := info_parts bool_info
  have h := run_make (P := Tryz.prog) w 77 4 i1 _ Tryz.underlying77 hi1 hy0 .i64 .i64 1 1 (by decide) (by decide) (by rw [hy2]; decide) (by decide)
  rw [hy1, show madeCells (Value.bool false).cells (Int.toNat 1 * 1) = #[.bool false] by kernel_rfl] at h
  exact h
theorem heap3 (w : World) (A B C : Obj) : (((w.alloc A).alloc B).alloc C).heap[w.heap.size]? = some A ∧ (((w.alloc A).alloc B).alloc C).heap[w.heap.size + 1]? = some B ∧ (((w.alloc A).alloc B).alloc C).heap[w.heap.size + 1 + 1]? = some C := by
  refine ⟨?_, ?_, ?_⟩
  · rw [Below.heap_alloc _ C _ (by simp; omega)]; exact heapA_old w A B
  · rw [Below.heap_alloc _ C _ (by simp)]; exact heapA_new w A B
  · have := (MapKept.heap_alloc ((w.alloc A).alloc B) C).1
    simpa using this
theorem rm_begin {w : World} {P : Nat → Prop} {m gN gB room : Nat} {T1 T2 T3 : TypeId} (hm : w.heap[m]? = some (.cells #[.int .i64 (room : Int), .slice (some ⟨gN, 0, none⟩) 1 1, .slice (some ⟨gB, 0, none⟩) 1 1] T1 (0, 0)))
    (hN : w.heap[gN]? = some (.cells #[.int .i64 0, .slice none 0 0, .slice none 0 0, .string ⟨#[]⟩] T2 (0, 0))) (hB : w.heap[gB]? = some (.cells #[.bool false] T3 (0, 0))) (pM : P m) (pN : P gN) (pB : P gB) (n1 : m ≠ gN) (n2 : m ≠ gB) (n3 : gN ≠ gB) (hr : room ≤ 65536) :
    RM w P m gN 1 gB 1 room [nd0] [false] :=
  ⟨Lib.cell_of_heap hm 0, Lib.cell_of_heap hm 1, Lib.cell_of_heap hm 2, frozen_of hm, frozen_of hN, frozen_of hB, pM, pN, pB, n1, n2, n3, (Array.getElem?_eq_some_iff.1 hN).1, (Array.getElem?_eq_some_iff.1 hB).1,
    fun i n hi => by
      cases i with
      | zero =>
        obtain rfl : nd0 = n := by simpa using hi
        exact ⟨none, 0, none, 0, ⟨Lib.cell_of_heap hN 0, Lib.cell_of_heap hN 1, Lib.cell_of_heap hN 2, Lib.cell_of_heap hN 3⟩, .inl rfl, .inl rfl⟩
      | succ i => simp at hi,
    fun i b hi => by
      cases i with
      | zero =>
        obtain rfl : false = b := by simpa using hi
        exact Lib.cell_of_heap hB 0
      | succ i => simp at hi,
    rfl, Nat.le_refl _, by simp, hr, fun n hn => by
      obtain rfl : n = nd0 := by simpa using hn
      exact ⟨by decide, by decide⟩, Nat.le_refl _⟩
set_option maxHeartbeats 4000000 in
set_option maxRecDepth 10000 in
theorem rBegin_any (w : World) (room : Nat) (hr : room ≤ 65536) :
    Calls Tryz.prog 8 #[.int .i64 (room : Int)] w fun e w' => ∃ m gN gB, e = .returned (.pointer (some ⟨m, 0, none⟩)) ∧ RM w' (fun g => w.heap.size ≤ g) m gN 1 gB 1 room [nd0] [false] ∧ Below w.heap.size w w' := by
  have h1 := make_node
  have h2 := make_bool
  go_enter Tryz.func8, Tryz.ntmps8
  go_wp2_with fail
  go_region_held3 (fun _ => True) (exact trivial) (first | fail | fail)
  all_goals
    go_wp2_with fail
    go_ret
    first
    | exact ⟨w.heap.size + 1 + 1, w.heap.size, w.heap.size + 1, rfl, rm_begin (heap3 _ _ _ _).2.2 (heap3 _ _ _ _).1 (heap3 _ _ _ _).2.1 (by omega) (by omega) (by omega) (by omega) (by omega) (by omega) hr, (((Below.refl _ _).alloc (Nat.le_refl _) _).alloc (by simp) _).alloc (by simp; omega) _⟩
    | exact ⟨w.heap.size + 1 + 1, w.heap.size + 1, w.heap.size, rfl, rm_begin (heap3 _ _ _ _).2.2 (heap3 _ _ _ _).2.1 (heap3 _ _ _ _).1 (by omega) (by omega) (by omega) (by omega) (by omega) (by omega) hr, (((Below.refl _ _).alloc (Nat.le_refl _) _).alloc (by simp) _).alloc (by simp; omega) _⟩
    | exact ⟨w.heap.size + 1 + 1, w.heap.size, w.heap.size + 1, rfl, (rm_begin (heap3 _ _ _ _).2.2 (heap3 _ _ _ _).1 (heap3 _ _ _ _).2.1 (by omega) (by omega) (by omega) (by omega) (by omega) (by omega) hr).below (Below.drew (Below.refl _ _)), Below.drew ((((Below.refl _ _).alloc (Nat.le_refl _) _).alloc (by simp) _).alloc (by simp; omega) _)⟩
    | exact ⟨w.heap.size + 1 + 1, w.heap.size + 1, w.heap.size, rfl, (rm_begin (heap3 _ _ _ _).2.2 (heap3 _ _ _ _).2.1 (heap3 _ _ _ _).1 (by omega) (by omega) (by omega) (by omega) (by omega) (by omega) hr).below (Below.drew (Below.refl _ _)), Below.drew ((((Below.refl _ _).alloc (Nat.le_refl _) _).alloc (by simp) _).alloc (by simp; omega) _)⟩
end Go.Proofs.YtjgadggehpmdkaaGreatDoor
namespace Go.Proofs.YtjgadggehpmdkaaGreatDoor
open Go.RowKit Go.Shelf
structure Duo0 (w : World) (B a m room : Nat) (s t : Sh) (T K P : Nat → Prop) (gN cN gB cB : Nat) (nds : List Nd) (bs : List Bool) : Prop where
  on : On9 w B a room s K
  rm : RM w P m gN cN gB cB room nds bs
  st : stOf nds bs = t
  inv : Inv room t
  fit : FitT t
  pk : ∀ g, P g → B ≤ g ∧ g < w.heap.size ∧ K g
  tk : ∀ g, T g → K g ∧ ¬ P g
def Duo (w : World) (B a m room : Nat) (s t : Sh) (T : Nat → Prop) : Prop := ∃ K P gN cN gB cB nds bs, Duo0 w B a m room s t T K P gN cN gB cB nds bs
section
variable {w w1 : World} {B a m room : Nat} {s s' t t' : Sh} {T : Nat → Prop}
theorem Duo.on (h : Duo w B a m room s t T) : ∃ K, On9 w B a room s K := by
  obtain ⟨K, P, gN, cN, gB, cB, nds, bs, h⟩ := h
  exact ⟨K, h.on⟩
theorem Duo.rm (h : Duo w B a m room s t T) : ∃ P gN cN gB cB nds bs, RM w P m gN cN gB cB room nds bs ∧ stOf nds bs = t ∧ Inv room (stOf nds bs) ∧ FitT (stOf nds bs) := by
  obtain ⟨K, P, gN, cN, gB, cB, nds, bs, h⟩ := h
  exact ⟨P, gN, cN, gB, cB, nds, bs, h.rm, h.st, by rw [h.st]; exact h.inv, by rw [h.st]; exact h.fit⟩
theorem Duo.inv (h : Duo w B a m room s t T) : Inv room s := by obtain ⟨K, h⟩ := h.on; exact h.inv
theorem Duo.base (h : Duo w B a m room s t T) : B ≤ w.heap.size := by obtain ⟨K, h⟩ := h.on; exact h.base
theorem Duo.lt (h : Duo w B a m room s t T) {g : Nat} (hg : T g) : g < w.heap.size := by
  obtain ⟨K, P, gN, cN, gB, cB, nds, bs, h⟩ := h
  exact h.on.lt (h.tk g hg).1
theorem Duo.fits (h : Duo w B a m room s t T) : FitT s := by obtain ⟨K, h⟩ := h.on; exact h.fits
theorem Duo.mono (h : Duo w B a m room s t T) {T' : Nat → Prop} (hT : ∀ g, T' g → T g) : Duo w B a m room s t T' := by
  obtain ⟨K, P, gN, cN, gB, cB, nds, bs, h⟩ := h
  exact ⟨K, P, gN, cN, gB, cB, nds, bs, { h with tk := fun g hg => h.tk g (hT g hg) }⟩
theorem Duo.below (h : Duo w B a m room s t T) (hb : Below w.heap.size w w1) : Duo w1 B a m room s t (fun g => T g ∨ (w.heap.size ≤ g ∧ g < w1.heap.size)) := by
  obtain ⟨K, P, gN, cN, gB, cB, nds, bs, h⟩ := h
  have hz := hb.size
  refine ⟨_, P, gN, cN, gB, cB, nds, bs, h.on.below hb, h.rm.below hb, h.st, h.inv, h.fit, fun g hg => ?_, fun g hg => ?_⟩
  · have := h.pk g hg
    exact ⟨this.1, by omega, .inl this.2.2⟩
  · rcases hg with hg | hg
    · exact ⟨.inl (h.tk g hg).1, (h.tk g hg).2⟩
    · exact ⟨.inr hg, fun e => by have := (h.pk g e).2.1; omega⟩
theorem Duo.left (h : Duo w B a m room s t T) {F : FuncId} {args : Array Value} {E : Ending → Prop} (hc : ∀ K, On9 w B a room s K → Calls Tryz.prog F args w fun e w' => ∃ K', E e ∧ Lf9 w B a room s' K w' K') :
    Calls Tryz.prog F args w fun e w' => E e ∧ Duo w' B a m room s' t T ∧ Kept w w' T ∧ Below B w w' := by
  obtain ⟨K, P, gN, cN, gB, cB, nds, bs, h⟩ := h
  refine (hc K h.on).mono fun e w' ⟨K', he, hl⟩ => ⟨he, ⟨K', P, gN, cN, gB, cB, nds, bs, hl.1, ?_, h.st, h.inv, h.fit, fun g hg => ?_, fun g hg => ?_⟩, ?_, hl.2.2.2⟩
  · exact h.rm.kept ⟨hl.2.2.1.size, fun g hg hl' => hl.2.2.1.block g (h.pk g hg).2.2 hl'⟩
  · have := h.pk g hg
    exact ⟨this.1, Nat.lt_of_lt_of_le this.2.1 hl.2.2.1.size, hl.2.1 g this.2.2⟩
  · exact ⟨hl.2.1 g (h.tk g hg).1, (h.tk g hg).2⟩
  · exact ⟨hl.2.2.1.size, fun g hg hl' => hl.2.2.1.block g (h.tk g hg).1 hl'⟩
theorem Duo.right (h : Duo w B a m room s t T) (hi : Inv room t') (hf : FitT t') {F : FuncId} {args : Array Value} {E : Ending → Prop}
    (hc : ∀ P gN cN gB cB nds bs, RM w P m gN cN gB cB room nds bs → stOf nds bs = t → (∀ g, P g → B ≤ g ∧ g < w.heap.size) → (∀ g, T g → ¬ P g) → Calls Tryz.prog F args w fun e w' => ∃ gN' cN' gB' cB' nds' bs', E e ∧ stOf nds' bs' = t' ∧ RM w' (fun g => P g ∨ w.heap.size ≤ g) m gN' cN' gB' cB' room nds' bs' ∧ ButS P w w') :
    Calls Tryz.prog F args w fun e w' => E e ∧ Duo w' B a m room s t' T ∧ Kept w w' T ∧ Below B w w' := by
  obtain ⟨K, P, gN, cN, gB, cB, nds, bs, h⟩ := h
  refine (hc P gN cN gB cB nds bs h.rm h.st (fun g hg => ⟨(h.pk g hg).1, (h.pk g hg).2.1⟩) (fun g hg => (h.tk g hg).2)).mono fun e w' ⟨gN', cN', gB', cB', nds', bs', he, hs, hr, hbu⟩ => ?_
  have hz := hbu.size
  have hbB : Below B w w' := hbu.below (fun k hk e => by have := (h.pk k e).1; omega) h.on.base
  have hB := h.on.base
  refine ⟨he, ⟨_, _, gN', cN', gB', cB', nds', bs', h.on.kept (Q := P) (fun g hg hl => hbu.block g hl hg) hz (fun g hg => .inl (h.pk g hg).2.2) hbB, hr.tight, hs, hi, hf, fun g hg => ?_, fun g hg => ?_⟩, hbu.keptQ fun g hg => (h.tk g hg).2, hbB⟩
  · rcases hg.1 with q | q
    · have := h.pk g q
      exact ⟨this.1, hg.2, .inl this.2.2⟩
    · exact ⟨by omega, hg.2, .inr ⟨q, hg.2⟩⟩
  · refine ⟨.inl (h.tk g hg).1, fun e => ?_⟩
    rcases e.1 with q | q
    · exact (h.tk g hg).2 q
    · have := h.on.lt (h.tk g hg).1
      omega
theorem Duo.begin {K : Nat → Prop} (ho : On9 w B a room [] K) {gN gB : Nat} (hr : RM w1 (fun g => w.heap.size ≤ g) m gN 1 gB 1 room [nd0] [false]) (hb : Below w.heap.size w w1) (hT : ∀ g, T g → K g) : Duo w1 B a m room [] [] T := by
  have hz := hb.size
  have hB := ho.base
  refine ⟨_, _, gN, 1, gB, 1, [nd0], [false], ho.below hb, hr.tight, rfl, inv_nil room, fun h n e => ?_, fun g hg => ⟨by have := hg.1; omega, hg.2, .inr ⟨hg.1, hg.2⟩⟩, fun g hg => ⟨.inl (hT g hg), fun e => by have := ho.lt (hT g hg); have := e.1; omega⟩⟩
  unfold ndAt at e
  split at e <;> simp at e
end
/- acts in memory -/
structure AcT where
  kind : Int
  L : List En
  LA : Option Addr
  lc : Nat
  at_ : Int
deriving Inhabited
def acT (q : AcT) : List Value := [.int .u8 q.kind, .slice q.LA q.L.length q.lc, .int .i64 q.at_]
def RowT (w : World) (P : Nat → Prop) (A : Option Addr) (l : List AcT) : Prop := l = [] ∨ ∃ g o, A = some ⟨g, o, none⟩ ∧ P g ∧ g < w.heap.size ∧
  ∀ (i : Nat) (q : AcT), l[i]? = some q → (w.cell? ⟨g, o + i * 3, none⟩ = some (.int .u8 q.kind) ∧ w.cell? ⟨g, o + i * 3 + 1, none⟩ = some (.slice q.LA q.L.length q.lc) ∧ w.cell? ⟨g, o + i * 3 + 2, none⟩ = some (.int .i64 q.at_)) ∧ RowE w P q.LA q.L
theorem RowT.kept {w w' : World} {P : Nat → Prop} {A : Option Addr} {l : List AcT} (h : RowT w P A l) (hk : Kept w w' P) : RowT w' P A l := by
  rcases h with h | ⟨g, o, rfl, hp, hl, hc⟩
  · exact .inl h
  · refine .inr ⟨g, o, rfl, hp, Nat.lt_of_lt_of_le hl hk.size, fun i q hi => ?_⟩
    obtain ⟨⟨c0, c1, c2⟩, hr⟩ := hc i q hi
    exact ⟨⟨hk.cell hp c0, hk.cell hp c1, hk.cell hp c2⟩, hr.kept hk⟩
theorem RowT.mono {w : World} {P Q : Nat → Prop} {A : Option Addr} {l : List AcT} (h : RowT w P A l) (hpq : ∀ g, P g → g < w.heap.size → Q g) : RowT w Q A l := by
  rcases h with h | ⟨g, o, rfl, hp, hl, hc⟩
  · exact .inl h
  · refine .inr ⟨g, o, rfl, hpq g hp hl, hl, fun i q hi => ?_⟩
    obtain ⟨h3, hr⟩ := hc i q hi
    exact ⟨h3, hr.mono hpq⟩
theorem RowT.below {w w' : World} {P : Nat → Prop} {A : Option Addr} {l : List AcT} (h : RowT w P A l) (hb : Below w.heap.size w w') : RowT w' P A l := h.kept (Kept.of_below hb)
theorem RowT.at {w : World} {P : Nat → Prop} {A : Option Addr} {l : List AcT} (h : RowT w P A l) {i : Nat} (hi : i < l.length) : ∃ g o, A = some ⟨g, o, none⟩ ∧ P g ∧ g < w.heap.size ∧
    ∀ (i : Nat) (q : AcT), l[i]? = some q → (w.cell? ⟨g, o + i * 3, none⟩ = some (.int .u8 q.kind) ∧ w.cell? ⟨g, o + i * 3 + 1, none⟩ = some (.slice q.LA q.L.length q.lc) ∧ w.cell? ⟨g, o + i * 3 + 2, none⟩ = some (.int .i64 q.at_)) ∧ RowE w P q.LA q.L := by
  rcases h with rfl | h
  · simp at hi
  · exact h
def FitAT (q : AcT) : Prop := q.L.length ≤ 60 ∧ ∀ x ∈ q.L, x.text.length ≤ 300
end Go.Proofs.YtjgadggehpmdkaaGreatDoor
namespace Go.Proofs.YtjgadggehpmdkaaGreatDoor
open Go.RowKit Go.Shelf
def FitsT (l : List AcT) (w : World) (e : Ending) (w' : World) : Prop := ∃ b, e = .returned (.bool b) ∧ (b = true → l.length ≤ 60 ∧ ∀ q ∈ l, FitAT q) ∧ w' = w
theorem FitsT.no {l : List AcT} {w : World} {e : Ending} (h : e = .returned (.bool false)) : FitsT l w e w := ⟨false, h, fun e => (by cases e), rfl⟩
theorem FitsT.yes {l : List AcT} {w : World} {e : Ending} (h : e = .returned (.bool true)) (hf : l.length ≤ 60 ∧ ∀ q ∈ l, FitAT q) : FitsT l w e w := ⟨true, h, fun _ => hf, rfl⟩
set_option maxHeartbeats 8000000 in
set_option maxRecDepth 10000 in
theorem lfitsT_any (l : List AcT) (A : Option Addr) (ca : Nat) (w : World) {Q : Nat → Prop} (hl : RowT w Q A l) (hll : l.length ≤ maxLen) (hlm : ∀ q ∈ l, q.L.length ≤ maxLen ∧ ∀ x ∈ q.L, x.text.length ≤ maxLen) :
    Calls Tryz.prog 5 #[.slice A l.length ca] w fun e w' => FitsT l w e w' := by
  have HL := Lib.hid hl
  have HM := Lib.hid hlm
  unfold maxLen at hll
  clear hl hlm
  by_cases hbig : 60 < l.length
  · have hd : decide ((60 : Int) < (l.length : Int)) = true := decide_eq_true (by omega)
    go_enter Tryz.func5, Tryz.ntmps5
    go_wp2_with fail
    go_ret
    exact FitsT.no rfl
  · have hd : decide ((60 : Int) < (l.length : Int)) = false := decide_eq_false (by omega)
    have hl2 : l.length ≤ 60 := by omega
    go_enter Tryz.func5, Tryz.ntmps5
    go_wp2_with fail
    go_loopw [3, 4] (fun vi _ wr => ∃ i : Nat, i ≤ l.length ∧ vi = .int .i64 (i : Int) ∧ Hid (∀ q ∈ l.take i, FitAT q) ∧ wr = w) (fun vi _ _ => l.length - (RowKit.intOf vi).toNat)
    case atStart => exact ⟨0, Nat.zero_le _, rfl, Lib.hid (by simp), rfl⟩
    case round =>
      obtain ⟨i, hi, rfl, HT, rfl⟩ := hrel
      by_cases hlt : i < l.length
      · obtain ⟨q, hq⟩ : ∃ q, l[i]? = some q := ⟨_, List.getElem?_eq_getElem hlt⟩
        obtain ⟨g, o, rfl, _, hgl, hat⟩ := HL.out.at hlt
        obtain ⟨⟨c0, c1, c2⟩, hN⟩ := hat i q hq
        obtain ⟨m1, m2⟩ := HM.out q (List.mem_of_getElem? hq)
        have Hm2 := Lib.hid m2
        have HN := Lib.hid hN
        have HNx := Lib.hid (fun h => take_next9 hq HT.out h)
        have hI : (i : Int) < (l.length : Int) := by omega
        have hJ : (0 : Int) ≤ (i : Int) := by omega
        unfold maxLen at m1
        clear hat hq hN m2
        by_cases hb1 : 60 < q.L.length
        · have hd1 : decide ((60 : Int) < (q.L.length : Int)) = true := decide_eq_true (by omega)
          go_wp2_with fail
          go_ret
          exact FitsT.no rfl
        · have hd1 : decide ((60 : Int) < (q.L.length : Int)) = false := decide_eq_false (by omega)
          have hq60 : q.L.length ≤ 60 := by omega
          have HC1 := Lib.hid c1
          clear hb1
          go_wp2_with fail
          go_loopw [4] (fun vk wr2 => ∃ k : Nat, k ≤ q.L.length ∧ vk = .int .i64 (k : Int) ∧ Hid (∀ x ∈ q.L.take k, x.text.length ≤ 300) ∧ wr2 = wr) (fun vk _ => q.L.length - (RowKit.intOf vk).toNat)
          case atStart => exact ⟨0, Nat.zero_le _, rfl, Lib.hid (by simp), rfl⟩
          case round =>
            obtain ⟨k, hk, rfl, HK, rfl⟩ := hrel
            by_cases hkl : k < q.L.length
            · obtain ⟨x, hx⟩ : ∃ x, q.L[k]? = some x := ⟨_, List.getElem?_eq_getElem hkl⟩
              obtain ⟨g2, o2, hLA, _, _, hat2⟩ := HN.out.at hkl
              obtain ⟨q0, q1⟩ := hat2.two hx
              have hxl := Hm2.out x (List.mem_of_getElem? hx)
              have HK2 := Lib.hid (fun h => take_next9 (p := fun x : En => x.text.length ≤ 300) hx HK.out h)
              have hkI : (k : Int) < (q.L.length : Int) := by omega
              have hkJ : (0 : Int) ≤ (k : Int) := by omega
              unfold maxLen at hxl
              rw [hLA] at c1
              obtain ⟨kx, tx⟩ := x
              change tx.length ≤ _ at hxl
              clear hx hat2 hLA
              by_cases hb2 : 300 < tx.length
              · have hd2 : decide ((300 : Int) < (tx.length : Int)) = true := decide_eq_true (by omega)
                go_wp2_with fail
                go_ret
                exact FitsT.no rfl
              · have hd2 : decide ((300 : Int) < (tx.length : Int)) = false := decide_eq_false (by omega)
                have HK3 := Lib.hid (HK2.out (by show tx.length ≤ 300; omega))
                clear hb2 HK2
                go_wp2_with fail
                go_roundw
                case rel => exact ⟨k + 1, by omega, by go_num, HK3, trivial⟩
                case measure => simp [RowKit.intOf]; omega
            · have hkk : k = q.L.length := by omega
              subst hkk
              have hk2 := HK.out
              rw [List.take_length] at hk2
              have HF := Lib.hid (HNx.out ⟨hq60, hk2⟩)
              clear hk2
              go_wp2_with fail
              go_roundw
              case rel => exact ⟨i + 1, by omega, by go_num, HF, trivial⟩
              case measure => simp [RowKit.intOf]; omega
      · have hii : i = l.length := by omega
        subst hii
        have ht := HT.out
        rw [List.take_length] at ht
        have HF := Lib.hid ht
        clear ht
        go_wp2_with fail
        go_ret
        exact FitsT.yes rfl ⟨hl2, HF.out⟩
def pickI (l : List Int) (i : Int) : Int := if 0 ≤ i then l.getD i.toNat 0 else 0
set_option maxHeartbeats 4000000 in
set_option maxRecDepth 10000 in
theorem lpick_any (l : List Int) (A : Option Addr) (ca : Nat) (w : World) {Q : Nat → Prop} (hl : RowI w Q A l) (hll : l.length ≤ 1000000) (i : Int) :
    Calls Tryz.prog 10 #[.slice A l.length ca, .int .i64 i] w fun e w' => e = .returned (.int .i64 (pickI l i)) ∧ w' = w := by
  by_cases h0 : i < 0
  · have d0 : decide (i < 0) = true := decide_eq_true h0
    have HE : Hid (pickI l i = 0) := Lib.hid (by unfold pickI; rw [if_neg (by omega)])
    generalize pickI l i = P at *
    clear h0 hl
    go_enter Tryz.func10, Tryz.ntmps10
    go_wp2_with fail
    go_ret
    exact ⟨by rw [HE.out]; rfl, rfl⟩
  · have d0 : decide (i < 0) = false := decide_eq_false h0
    by_cases h1 : (l.length : Int) ≤ i
    · have d1 : decide ((l.length : Int) ≤ i) = true := decide_eq_true h1
      have HE : Hid (pickI l i = 0) := Lib.hid (by
        unfold pickI
        rw [if_pos (by omega), List.getD_eq_getElem?_getD, List.getElem?_eq_none_iff.2 (by omega)]; rfl)
      generalize pickI l i = P at *
      clear h0 h1 hl
      go_enter Tryz.func10, Tryz.ntmps10
      go_wp2_with fail
      go_ret
      exact ⟨by rw [HE.out]; rfl, rfl⟩
    · have d1 : decide ((l.length : Int) ≤ i) = false := decide_eq_false h1
      obtain ⟨j, rfl⟩ : ∃ j : Nat, i = (j : Int) := ⟨i.toNat, by omega⟩
      have hj : j < l.length := by omega
      obtain ⟨x, hx⟩ : ∃ x, l[j]? = some x := ⟨_, List.getElem?_eq_getElem hj⟩
      have HE : Hid (pickI l (j : Int) = x) := Lib.hid (by
        unfold pickI
        rw [if_pos (by omega), List.getD_eq_getElem?_getD, show ((j : Int)).toNat = j by omega, hx]; rfl)
      obtain ⟨g, o, rfl, _, _, hc⟩ := hl.at hj
      have c0 := hc j x hx
      have hI : (j : Int) < (l.length : Int) := by omega
      have hJ : (0 : Int) ≤ (j : Int) := by omega
      generalize pickI l (j : Int) = P at *
      clear h0 h1 hl hx hc
      go_enter Tryz.func10, Tryz.ntmps10
      go_wp2_with fail
      go_ret
      exact ⟨by rw [HE.out]; rfl, rfl⟩
def firstE (l : List En) : En := l.headD ⟨0, []⟩
set_option maxHeartbeats 4000000 in
set_option maxRecDepth 10000 in
theorem lfirst_any (l : List En) (A : Option Addr) (ca : Nat) (w : World) {Q : Nat → Prop} (hl : RowE w Q A l) :
    Calls Tryz.prog 31 #[.slice A l.length ca] w fun e w' => e = .returned (.agg #[.int .i64 (firstE l).key, .string ⟨(firstE l).text.toArray⟩]) ∧ Below w.heap.size w w' := by
  cases l with
  | nil =>
    have hz : ([] : List En).length = 0 := rfl
    rw [hz]
    go_enter Tryz.func31, Tryz.ntmps31
    go_wp2_with fail
    exact bodyPost_ret (v := .agg #[.int .i64 0, .string ⟨#[]⟩]) (by simp [results, Tryz.results31, go_sem]) rfl ⟨rfl, by first | exact (Below.refl _ _).alloc (Nat.le_refl _) _ | exact (((Below.refl _ _).alloc (Nat.le_refl _) _).setCell (Nat.le_refl _) _).setCell (Nat.le_refl _) _⟩
  | cons x r =>
    obtain ⟨g, o, rfl, _, hgl, hat⟩ := hl.at (i := 0) (by simp)
    obtain ⟨q0, q1⟩ := hat.two (i := 0) (x := x) rfl
    rw [Nat.zero_mul, Nat.add_zero] at q0
    rw [Nat.zero_mul, Nat.add_zero] at q1
    have hlp : (0 : Int) < ((x :: r).length : Int) := by simp
    have dz : (((x :: r).length : Int) == 0) = false := by rw [beq_eq_false_iff_ne]; omega
    have hf : firstE (x :: r) = x := rfl
    rw [hf]
    obtain ⟨kx, tx⟩ := x
    generalize ((⟨kx, tx⟩ : En) :: r).length = N at *
    clear hl hat hf
    go_enter Tryz.func31, Tryz.ntmps31
    go_wp2_with fail
    exact bodyPost_ret (v := .agg #[.int .i64 kx, .string ⟨tx.toArray⟩]) (by simp [results, Tryz.results31, go_sem]) rfl ⟨rfl, by first | exact (Below.refl _ _).alloc (Nat.le_refl _) _ | exact (((Below.refl _ _).alloc (Nat.le_refl _) _).setCell (Nat.le_refl _) _).setCell (Nat.le_refl _) _⟩
end Go.Proofs.YtjgadggehpmdkaaGreatDoor
