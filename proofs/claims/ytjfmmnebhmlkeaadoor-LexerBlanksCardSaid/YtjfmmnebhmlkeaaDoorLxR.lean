/- The statements' live question on tokens has the answer true, over Scan's contract. -/
import Derived.Test.YtjfmmnebhmlkeaaDoorLxQ
namespace Go.Proofs.YtjfmmnebhmlkeaaDoor
open Go.RowKit

set_option maxHeartbeats 4000000 in
theorem leql_tok (a b c d f : Int) (e : ByteArray) (W : World) : (binOp .eql 37 (.agg #[.int .i64 a, .int .i64 b, .int .i64 c, .int .i64 d, .string e, .int .i64 f]) (.agg #[.int .i64 a, .int .i64 b, .int .i64 c, .int .i64 d, .string e, .int .i64 f])).run Tryd.prog W
    = .ok (.bool true) W := by
  rw [run_eql_struct, run_equalIn_agg W 9999 37 _ _ ltokStruct ltokStood]
  simp [go_sem]
theorem live1_ans (hS : ScanC) (w : World) (hE : EnvL w) : Calls Tryd.prog 6 #[.string ⟨#[32, 66, 50, 60, 61, 48, 48, 55, 32, 35, 82, 69, 70, 32, 83, 85, 77, 40, 81, 49]⟩] w fun e w' => ∃ v, e = .returned (.tuple #[v, .int .i64 0, .int .i64 0]) ∧
    w'.ownsRow w.heap.size 37 6 v liveT.length (toksC liveT) ∧ Below w.heap.size w w' :=
  (hS ⟨#[32, 66, 50, 60, 61, 48, 48, 55, 32, 35, 82, 69, 70, 32, 83, 85, 77, 40, 81, 49]⟩ (by show 20 ≤ 300; omega) w hE).mono fun e w' ⟨v, he, ho, hb⟩ => by
    obtain ⟨h1, h2, h3⟩ := ans_live1
    refine ⟨v, ?_, ?_, hb⟩
    · have a : ansP (⟨#[32, 66, 50, 60, 61, 48, 48, 55, 32, 35, 82, 69, 70, 32, 83, 85, 77, 40, 81, 49]⟩ : ByteArray).data.toList = 0 := h2
      have b : ansE (⟨#[32, 66, 50, 60, 61, 48, 48, 55, 32, 35, 82, 69, 70, 32, 83, 85, 77, 40, 81, 49]⟩ : ByteArray).data.toList = 0 := h3
      rw [he, a, b]
    · have a : ansL (⟨#[32, 66, 50, 60, 61, 48, 48, 55, 32, 35, 82, 69, 70, 32, 83, 85, 77, 40, 81, 49]⟩ : ByteArray).data.toList = liveT := h1
      rwa [a] at ho
theorem live2_ans (hS : ScanC) (w : World) (hE : EnvL w) : Calls Tryd.prog 6 #[.string ⟨#[49, 43, 32, 83, 85, 77, 50]⟩] w fun e w' => ∃ v, e = .returned (.tuple #[v, .int .i64 3, .int .i64 2]) ∧ Below w.heap.size w w' :=
  (hS ⟨#[49, 43, 32, 83, 85, 77, 50]⟩ (by show 7 ≤ 300; omega) w hE).mono fun e w' ⟨v, he, ho, hb⟩ => by
    obtain ⟨h1, h2, h3⟩ := ans_live2
    refine ⟨v, ?_, hb⟩
    have a : ansP (⟨#[49, 43, 32, 83, 85, 77, 50]⟩ : ByteArray).data.toList = 3 := h2
    have b : ansE (⟨#[49, 43, 32, 83, 85, 77, 50]⟩ : ByteArray).data.toList = 2 := h3
    rw [he, a, b]
set_option maxHeartbeats 2000000 in
set_option maxRecDepth 100000 in
theorem lalive_any (hS : ScanC) : AliveC := by
  intro w hE
  have H1 := Lib.hid (live1_ans hS)
  have H2 := Lib.hid (live2_ans hS)
  have HE := Lib.hid hE
  clear hS hE
  go_enter Tryd.func5, Tryd.ntmps5
  go_wp2_with fail
  refine (H1.out _ HE.out).mono ?_; rintro e w1 ⟨v, rfl, ho, b1⟩
  obtain ⟨A, ca, rfl, hA, hm⟩ := tok_shape ho
  obtain ⟨g, rfl, hg, hgb, hT⟩ := hA (by unfold liveT; simp)
  have t0 := hT 0 ⟨2, 0, 1, 1, [], 1⟩ rfl
  have t1 := hT 1 ⟨5, 0, 0, 0, [60, 61], 3⟩ rfl
  have t2 := hT 2 ⟨1, 7, 0, 0, [], 5⟩ rfl
  have t3 := hT 3 ⟨3, 0, 0, 0, [], 9⟩ rfl
  have t4 := hT 4 ⟨4, 0, 0, 0, [83, 85, 77], 14⟩ rfl
  have t6 := hT 6 ⟨3, 0, 0, 0, [], 18⟩ rfl
  simp only at t0 t1 t2 t3 t4 t6
  have hlen : liveT.length = 7 := rfl
  rw [hlen] at *
  have HE1 := Lib.hid (HE.out.below b1)
  clear ho hA hm hT
  go_wp2_with fail
  refine (H2.out _ HE1.out).mono ?_; rintro e w2 ⟨v2, rfl, b2⟩
  obtain ⟨a00, a01, a02, a03, a04, a05⟩ := t0
  obtain ⟨a10, a11, a12, a13, a14, a15⟩ := t1
  obtain ⟨a20, a21, a22, a23, a24, a25⟩ := t2
  obtain ⟨a30, a31, a32, a33, a34, a35⟩ := t3
  obtain ⟨a40, a41, a42, a43, a44, a45⟩ := t4
  obtain ⟨a60, a61, a62, a63, a64, a65⟩ := t6
  have c00 := keep_cell b2 a00
  have c01 := keep_cell b2 a01
  have c02 := keep_cell b2 a02
  have c03 := keep_cell b2 a03
  have c04 := keep_cell b2 a04
  have c05 := keep_cell b2 a05
  have c10 := keep_cell b2 a10
  have c11 := keep_cell b2 a11
  have c12 := keep_cell b2 a12
  have c13 := keep_cell b2 a13
  have c14 := keep_cell b2 a14
  have c15 := keep_cell b2 a15
  have c20 := keep_cell b2 a20
  have c21 := keep_cell b2 a21
  have c22 := keep_cell b2 a22
  have c23 := keep_cell b2 a23
  have c24 := keep_cell b2 a24
  have c25 := keep_cell b2 a25
  have c30 := keep_cell b2 a30
  have c31 := keep_cell b2 a31
  have c32 := keep_cell b2 a32
  have c33 := keep_cell b2 a33
  have c34 := keep_cell b2 a34
  have c35 := keep_cell b2 a35
  have c40 := keep_cell b2 a40
  have c41 := keep_cell b2 a41
  have c42 := keep_cell b2 a42
  have c43 := keep_cell b2 a43
  have c44 := keep_cell b2 a44
  have c45 := keep_cell b2 a45
  have c60 := keep_cell b2 a60
  have c61 := keep_cell b2 a61
  have c62 := keep_cell b2 a62
  have c63 := keep_cell b2 a63
  have c64 := keep_cell b2 a64
  have c65 := keep_cell b2 a65
  have h2 := b1.trans (b2.mono b1.size)
  have zg : g < w2.heap.size := Lib.lt_of_cell c00
  clear a00 a01 a02 a03 a04 a05 a10 a11 a12 a13 a14 a15 a20 a21 a22 a23 a24 a25 a30 a31 a32 a33 a34 a35 a40 a41 a42 a43 a44 a45 a60 a61 a62 a63 a64 a65 b1 b2 hg hgb HE1 H1 H2
  go_wp2_with fail
  go_ret
  exact ⟨rfl, h2⟩
end Go.Proofs.YtjfmmnebhmlkeaaDoor
