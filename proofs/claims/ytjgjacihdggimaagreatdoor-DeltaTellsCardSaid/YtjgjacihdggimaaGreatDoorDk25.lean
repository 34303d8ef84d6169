/- Texts joined: TqI, TqJ. -/
import Derived.Test.YtjgjacihdggimaaGreatDoorDk23
import Derived.Test.YtjgjacihdggimaaGreatDoorDk12
import Derived.Test.YtjgjacihdggimaaGreatDoorDk03
import Derived.Test.YtjgjacihdggimaaGreatDoorDk24
import Derived.Test.YtjgjacihdggimaaGreatDoorDk06
import Derived.Test.YtjgjacihdggimaaGreatDoorDk22
import Derived.Deep.WholeRow
import Derived.Test.YtjgjacihdggimaaGreatDoorDk04
set_option linter.all false
namespace Go.Proofs.YtjgjacihdggimaaGreatDoor
open Go.RowKit Go.Shelf
def ReadQ (s : Sh) (h : Int) (w : World) (e : Ending) (w' : World) : Prop := ∃ f b, e = .returned (.tuple #[.agg (txC f), .bool b]) ∧ OkX f ∧ hasT s h = (if b = true then some (entX f 1024) else none) ∧ Below w.heap.size w w'
theorem reach_len {room : Nat} {s : Sh} (hi : Inv room s) (hr : room ≤ 65536) (l : List Int) : (reachA s l).length ≤ 65536 := by
  have h1 := left_len s l
  have h2 := liveF_len s 1
  have h3 := hi.len
  unfold liveA at h1
  omega
set_option maxHeartbeats 4000000 in
set_option maxRecDepth 10000 in
theorem pstands_l {w : World} {B a room : Nat} {s : Sh} {K : Nat → Prop} (hA : On9 w B a room s K) (h : Int) (hh : -9223372036854775808 ≤ h ∧ h ≤ 9223372036854775807) (l : List En) (hk : KeyIn l) (hll : l.length ≤ 2000) {A : Option Addr} {ca : Nat} {Q : Nat → Prop} (hL : RowN w Q A (nodesL l)) (hca : (nodesL l).length ≤ ca) :
    Calls Tryz.prog 65 #[.pointer (some ⟨a, 0, none⟩), .int .i64 h, .slice A (nodesL l).length ca] w fun e w' => ∃ b, e = .returned (.bool b) ∧ (b = true ↔ (l = [] ∧ h = 0) ∨ (l ≠ [] ∧ At s (trK 2 l) h)) ∧ Below w.heap.size w w' := by
  by_cases hl : l = []
  · have e : nodesL l = [] := by unfold nodesL; rw [if_pos hl]
    have HE : Hid ((h == 0) = true ↔ (l = [] ∧ h = 0) ∨ (l ≠ [] ∧ At s (trK 2 l) h)) := Lib.hid ⟨fun q => .inl ⟨hl, by simpa using q⟩, fun q => by
      rcases q with q | q
      · simp [q.2]
      · exact absurd hl q.1⟩
    rw [e]
    clear e hL hca hA
    generalize hz : (h == 0) = z at *
    go_enter Tryz.func65, Tryz.ntmps65
    go_wp2_with fail
    go_ret
    exact ⟨z, rfl, HE.out, Below.refl _ _⟩
  · have e : nodesL l = fl (trK 2 l) [] := by unfold nodesL; rw [if_neg hl]
    have hlen := nodesL_len hk
    rw [e] at hL hca hlen ⊢
    refine (pstands_any _ (trK 2 l) (Nat.le_refl _) (ok_trK 2 l) hA h hh [] hL hca (by omega)).mono fun e w' ⟨b, he, hb, hw⟩ => ⟨b, he, hb.trans ⟨fun q => .inr ⟨hl, q⟩, fun q => ?_⟩, hw⟩
    rcases q with q | q
    · exact absurd q.1 hl
    · exact q.2
theorem entX_len2 (f : Txs) : (entX f 1024).length ≤ 2000 := Nat.le_trans (entX_len f 1024) (by decide)
set_option maxHeartbeats 16000000 in
set_option maxRecDepth 10000 in
theorem pread_any {w : World} {B a room : Nat} {s : Sh} {K : Nat → Prop} (hA : On9 w B a room s K) (h : Int) (hh : -9223372036854775808 ≤ h ∧ h ≤ 9223372036854775807) :
    Calls Tryz.prog 47 #[.pointer (some ⟨a, 0, none⟩), .int .i64 h] w fun e w' => ReadQ s h w e w' := by
  have hrl := reach_len hA.inv hA.wide [h]
  have HA := Lib.hid hA
  obtain ⟨W2, hW2⟩ : ∃ W2, (w.alloc (.cells Tryz.zeroCells72 72)).alloc (.cells Tryz.zeroCells72 72) = W2 := ⟨_, rfl⟩
  have hb2 : Below w.heap.size w W2 := by rw [← hW2]; exact ((Below.refl _ _).alloc (Nat.le_refl _) _).alloc (by simp) _
  have hz2 : W2.heap.size = w.heap.size + 2 := by rw [← hW2]; simp
  have hT2 : TX W2 (w.heap.size + 1) (fun _ => []) := by
    rw [← hW2]
    have := heap_alloc2_new w (.cells Tryz.zeroCells72 72) (.cells Tryz.zeroCells72 72)
    rw [texts_zero] at this
    exact this
  have hR2 : TX W2 w.heap.size (fun _ => []) := by
    rw [← hW2]
    have := heap_alloc2_old w (.cells Tryz.zeroCells72 72) (.cells Tryz.zeroCells72 72)
    rw [texts_zero] at this
    exact this
  go_enter Tryz.func47, Tryz.ntmps47
  have hb23 : Below W2.heap.size W2 (W2.alloc (.cells #[.int .i64 h] 3)) := (Below.refl _ _).alloc (Nat.le_refl _) _
  have hn3 := heap_alloc_new W2 (.cells #[.int .i64 h] 3)
  have HRe : Hid (Calls Tryz.prog 36 #[.pointer (some ⟨a, 0, none⟩), .slice (some ⟨W2.heap.size, 0, none⟩) 1 1] (W2.alloc (.cells #[.int .i64 h] 3)) fun e w' => ∃ O co, e = .returned (.slice O (reachA s [h]).length co) ∧ RowI w' (fun g => (W2.alloc (.cells #[.int .i64 h] 3)).heap.size ≤ g) O (reachA s [h]) ∧ Below (W2.alloc (.cells #[.int .i64 h] 3)).heap.size (W2.alloc (.cells #[.int .i64 h] 3)) w') :=
    Lib.hid (o9Reach (HA.out.below (hb2.trans (hb23.mono hb2.size))) [h] (some ⟨W2.heap.size, 0, none⟩) 1 (Q := fun _ => True) (rowI_lit hn3 rfl trivial) (by simp) (fun x hx => by rw [List.mem_singleton.1 hx]; exact hh))
  have Hb2 := Lib.hid hb2
  have Hb23 := Lib.hid hb23
  have HT2 := Lib.hid hT2
  have HR2 := Lib.hid hR2
  have HW2 := Lib.hid hW2
  have HS3 : Hid ((W2.alloc (.cells #[.int .i64 h] 3)).heap.size = w.heap.size + 3) := Lib.hid (by simp [hz2])
  clear hb2 hb23 hn3 hT2 hR2
  rw [hz2] at HRe
  go_wp2_with fail
  refine HRe.out.mono ?_; rintro e w4 ⟨O, co, rfl, hrow, hb4⟩
  have hb24 : Below W2.heap.size W2 w4 := Hb23.out.trans (hb4.mono Hb23.out.size)
  have HRow := Lib.hid hrow
  have hs4 : w.heap.size + 3 ≤ w4.heap.size := by have := hb4.size; simp at this; omega
  have HTx4 := Lib.hid (HT2.out.below hb24)
  have HRs4 := Lib.hid (HR2.out.below hb24)
  have Hbw4 := Lib.hid (Hb2.out.trans (hb24.mono Hb2.out.size))
  generalize hL : reachA s [h] = L at *
  have HLL := Lib.hid hL
  clear hrow hb4 hb24 HRe HT2 HR2 Hb2 Hb23 HW2 hW2 hL hz2
  go_wp2_with fail
  go_loopw [20] (fun vi wr => ∃ i : Nat, i ≤ L.length ∧ vi = .int .i64 (i : Int) ∧ Hid (TX wr (w.heap.size + 1) (readX s (L.take i))) ∧ Hid (ButS (fun g => g = w.heap.size + 1) w4 wr)) (fun vi _ => L.length - (RowKit.intOf vi).toNat)
  case atStart => exact ⟨0, Nat.zero_le _, rfl, HTx4, Lib.hid (ButS.refl _ _)⟩
  case round =>
    obtain ⟨i, hi, rfl, HTx, HBu⟩ := hrel
    have hszr := HBu.out.size
    by_cases hlt : i < L.length
    · obtain ⟨x, hx⟩ : ∃ x, L[i]? = some x := ⟨_, List.getElem?_eq_getElem hlt⟩
      obtain ⟨gL, oL, rfl, hgL, hgl, hcL⟩ := HRow.out.at hlt
      have hgL2 : w.heap.size + 3 ≤ gL := by have h1 : (W2.alloc (.cells #[.int .i64 h] 3)).heap.size ≤ gL := hgL; rw [HS3.out] at h1; exact h1
      have c0 := HBu.out.cell (p := ⟨gL, oL + i, none⟩) (fun e => by have e : gL = w.heap.size + 1 := e; omega) (hcL i x hx)
      have hbw : Below w.heap.size w wr := Hbw4.out.trans (HBu.out.below (n := w.heap.size) (fun k hk e => by have e : k = w.heap.size + 1 := e; omega) (by omega))
      have hxm : live s x = true := by
        have h1 := List.mem_of_getElem? hx
        rw [← HLL.out] at h1
        unfold reachA at h1
        exact (by have h2 := liveA_mem.1 h1; rw [left_live HA.out.inv] at h2; exact rch_live HA.out.inv h2)
      have hxb : -9223372036854775808 ≤ x ∧ x ≤ 9223372036854775807 := by
        have := live_bound hxm
        have := HA.out.inv.len
        have := HA.out.wide
        omega
      have HG := Lib.hid (o9Get (HA.out.below hbw) x hxb)
      have hNf : FitK (getN s x) := by
        obtain ⟨n, hn⟩ := live_iff.1 hxm
        have : getN s x = n := by unfold getN; rw [hn]; rfl
        rw [this]; exact HA.out.fits x n hn
      have HRd := Lib.hid (rdE_get s x)
      have HSn : Hid (readX s (L.take (i + 1)) = addR s (readX s (L.take i)) x) := Lib.hid (by rw [List.take_add_one, hx]; exact readX_snoc s _ x)
      have hkI : (i : Int) < (L.length : Int) := by omega
      have zT := HTx.out.lt
      unfold ndV at HG
      clear hcL hx hgL hxm hxb hbw
      generalize getN s x = N at *
      have hnl : N.nums.length ≤ 200 := hNf.1.2.1
      have htl : N.text.length ≤ 5000 := hNf.1.2.2
      go_wp2_with fail
      refine HG.out.mono ?_; rintro e w5 ⟨A1, ca1, B1, cb1, rfl, hr1, hr2, hb5⟩
      have HT5 := Lib.hid (HTx.out.below hb5)
      have HB5 := Lib.hid (HBu.out.trans (ButS.of_below hb5))
      have hsz5 : wr.heap.size ≤ w5.heap.size := hb5.size
      have HR2 := Lib.hid hr2
      clear hr1 hr2 hb5 HG HTx HBu c0
      have hba : Below w5.heap.size w5 (w5.alloc (.cells #[.int .i64 N.kind, .slice A1 N.refs.length ca1, .slice B1 N.nums.length cb1, .string ⟨N.text.toArray⟩] 126)) := (Below.refl _ _).alloc (Nat.le_refl _) _
      have HT6 := Lib.hid (HT5.out.below hba)
      have HB6 := Lib.hid (HB5.out.trans (ButS.of_below hba))
      have HBa := Lib.hid hba
      clear hba
      by_cases hk1 : N.kind = 1
      · by_cases hn1 : N.nums.length = 1
        · have d1 : (N.kind != 1) = false := by rw [hk1]; rfl
          have d2 : ((N.nums.length : Int) != 1) = false := by rw [hn1]; rfl
          obtain ⟨hd, hnums⟩ : ∃ hd, N.nums = [hd] := by
            match hq : N.nums, hn1 with
            | [z], _ => exact ⟨z, rfl⟩
          obtain ⟨gB, oB, rfl, _, hgB, hcB⟩ := HR2.out.at (i := 0) (by omega)
          have b0 := keep_cell HBa.out (hcB 0 hd (by rw [hnums]; rfl))
          rw [Nat.add_zero] at b0
          have zB : gB < (w5.alloc (.cells #[.int .i64 N.kind, .slice A1 N.refs.length ca1, .slice (some ⟨gB, oB, none⟩) N.nums.length cb1, .string ⟨N.text.toArray⟩] 126)).heap.size := Lib.lt_of_cell b0
          have HWr := Lib.hid (fun w' => pwrong_any ⟨hd, N.text⟩ w' (by show N.text.length ≤ maxLen; unfold maxLen; omega))
          have HN : Hid (readX s (L.take (i + 1)) = if rightE ⟨hd, N.text⟩ = true then setX (readX s (L.take i)) hd.toNat N.text else readX s (L.take i)) := Lib.hid (by
            rw [HSn.out]; unfold addR; rw [HRd.out, if_pos ⟨hk1, hn1⟩, hnums]; rfl)
          have y0 : (w5.alloc (.cells #[.int .i64 N.kind, .slice A1 N.refs.length ca1, .slice (some ⟨gB, oB, none⟩) N.nums.length cb1, .string ⟨N.text.toArray⟩] 126)).cell? ⟨w5.heap.size, 0, none⟩ = some (.int .i64 N.kind) := by rw [Lib.cell_of_heap (heap_alloc_new w5 _)]; rfl
          have y2 : (w5.alloc (.cells #[.int .i64 N.kind, .slice A1 N.refs.length ca1, .slice (some ⟨gB, oB, none⟩) N.nums.length cb1, .string ⟨N.text.toArray⟩] 126)).cell? ⟨w5.heap.size, 2, none⟩ = some (.slice (some ⟨gB, oB, none⟩) N.nums.length cb1) := by rw [Lib.cell_of_heap (heap_alloc_new w5 _)]; rfl
          have y3 : (w5.alloc (.cells #[.int .i64 N.kind, .slice A1 N.refs.length ca1, .slice (some ⟨gB, oB, none⟩) N.nums.length cb1, .string ⟨N.text.toArray⟩] 126)).cell? ⟨w5.heap.size, 3, none⟩ = some (.string ⟨N.text.toArray⟩) := by rw [Lib.cell_of_heap (heap_alloc_new w5 _)]; rfl
          have hz6 : w5.heap.size < (w5.alloc (.cells #[.int .i64 N.kind, .slice A1 N.refs.length ca1, .slice (some ⟨gB, oB, none⟩) N.nums.length cb1, .string ⟨N.text.toArray⟩] 126)).heap.size := by simp
          have hnp : (0 : Int) < (N.nums.length : Int) := by omega
          have hnpN : 0 < N.nums.length := by omega
          clear hk1 hn1 hnums hcB HR2 HRd HSn HBa HT5 HB5
          go_wp2_with fail
          generalize w5.alloc (.cells #[.int .i64 N.kind, .slice A1 N.refs.length ca1, .slice (some ⟨gB, oB, none⟩) N.nums.length cb1, .string ⟨N.text.toArray⟩] 126) = W6 at *
          have hba7 : Below W6.heap.size W6 (W6.alloc (.cells #[.int .i64 hd, .string ⟨N.text.toArray⟩] 60)) := (Below.refl _ _).alloc (Nat.le_refl _) _
          have HT7 := Lib.hid (HT6.out.below hba7)
          have HB7 := Lib.hid (HB6.out.trans (ButS.of_below hba7))
          have e0 : (W6.alloc (.cells #[.int .i64 hd, .string ⟨N.text.toArray⟩] 60)).cell? ⟨W6.heap.size, 0, none⟩ = some (.int .i64 hd) := by rw [Lib.cell_of_heap (heap_alloc_new W6 _)]; rfl
          have e1 : (W6.alloc (.cells #[.int .i64 hd, .string ⟨N.text.toArray⟩] 60)).cell? ⟨W6.heap.size, 1, none⟩ = some (.string ⟨N.text.toArray⟩) := by rw [Lib.cell_of_heap (heap_alloc_new W6 _)]; rfl
          have HE0 := Lib.hid e0
          have HE1 := Lib.hid e1
          clear e0 e1 hba7
          go_cut [11] from 39 to 45 (fun s11 wx => s11 = .pointer (some ⟨W6.heap.size, 0, none⟩) ∧ wx = (W6.alloc (.cells #[.int .i64 hd, .string ⟨N.text.toArray⟩] 60)).drew)
          case first =>
            go_region_law (first | fail)
            all_goals
              go_wp2_with fail
              go_meet
              case rel => exact ⟨rfl, rfl⟩
          case rest =>
            obtain ⟨rfl, hwc⟩ := hcut
            have hTc : TX wc (w.heap.size + 1) (readX s (L.take i)) := by rw [hwc]; exact HT7.out
            have hBc : ButS (fun g => g = w.heap.size + 1) w4 wc := by rw [hwc]; exact HB7.out.drew
            have e0 : wc.cell? ⟨W6.heap.size, 0, none⟩ = some (.int .i64 hd) := by rw [hwc]; exact HE0.out
            have e1 : wc.cell? ⟨W6.heap.size, 1, none⟩ = some (.string ⟨N.text.toArray⟩) := by rw [hwc]; exact HE1.out
            have hzc : W6.heap.size < wc.heap.size := Lib.lt_of_cell e0
            have HTc := Lib.hid hTc
            have HBc := Lib.hid hBc
            clear hwc hTc hBc HT6 HB6 HT7 HB7 HE0 HE1 b0 y0 y2 y3 zB hz6
            by_cases hri : rightE ⟨hd, N.text⟩ = true
            · have hrb := (right_iffE.1 hri).1
              have hrc := (right_iffE.1 hri).2.1
              change 0 ≤ hd at hrb
              change hd ≤ 1023 at hrc
              obtain ⟨j, rfl⟩ : ∃ j : Nat, hd = (j : Int) := ⟨hd.toNat, by omega⟩
              have hj : j < 1024 := by omega
              have HN2 := HN.out
              rw [if_pos hri, show ((j : Int)).toNat = j by omega] at HN2
              have HN3 := Lib.hid HN2
              rw [hri] at HWr
              clear hri HN2 HN
              go_wp2_with fail
              refine (HWr.out _).mono ?_; rintro e w8 ⟨rfl, hb8⟩
              have hT8 := HTc.out.below hb8
              have t0 := hT8.cell hj
              have t1 := hT8.frozen j
              have u0 := keep_cell hb8 e0
              have u1 := keep_cell hb8 e1
              have hz8 : w.heap.size + 1 < w8.heap.size := hT8.lt
              have hT9 := hT8.set hj N.text
              rw [← HN3.out] at hT9
              have HT9 := Lib.hid hT9
              have HB9 : Hid (ButS (fun g => g = w.heap.size + 1) w4 (w8.setCell ⟨w.heap.size + 1, j, none⟩ (.string ⟨N.text.toArray⟩))) := Lib.hid ((HBc.out.trans (ButS.of_below hb8)).setCell (p := ⟨w.heap.size + 1, j, none⟩) (.inl rfl) _)
              clear hT8 hT9 hb8 HTc HBc
              go_wp2_with fail
              go_roundw
              case rel => exact ⟨i + 1, by omega, by go_num, HT9, HB9⟩
              case measure => simp [RowKit.intOf]; omega
            · have HN2 := HN.out
              rw [if_neg hri] at HN2
              rw [Bool.eq_false_iff.2 hri] at HWr
              have hTc := HTc.out
              rw [← HN2] at hTc
              have HTd := Lib.hid hTc
              clear hri HN2 HN hTc
              go_wp2_with fail
              refine (HWr.out _).mono ?_; rintro e w8 ⟨rfl, hb8⟩
              have HT9 := Lib.hid (HTd.out.below hb8)
              have HB9 := Lib.hid (HBc.out.trans (ButS.of_below hb8))
              clear hb8 HTc HBc HTd
              go_wp2_with fail
              go_roundw
              case rel => exact ⟨i + 1, by omega, by go_num, HT9, HB9⟩
              case measure => simp [RowKit.intOf]; omega
        · have d1 : (N.kind != 1) = false := by rw [hk1]; rfl
          have d2 : ((N.nums.length : Int) != 1) = true := by rw [bne_iff_ne]; omega
          have HN : Hid (readX s (L.take (i + 1)) = readX s (L.take i)) := Lib.hid (by rw [HSn.out]; unfold addR; rw [HRd.out, if_neg (fun e => hn1 e.2)])
          rw [← HN.out] at HT6
          clear hk1 hn1
          go_wp2_with fail
          go_roundw
          case rel => exact ⟨i + 1, by omega, by go_num, HT6, HB6⟩
          case measure => simp [RowKit.intOf]; omega
      · have d1 : (N.kind != 1) = true := by rw [bne_iff_ne]; exact hk1
        have HN : Hid (readX s (L.take (i + 1)) = readX s (L.take i)) := Lib.hid (by rw [HSn.out]; unfold addR; rw [HRd.out, if_neg (fun e => hk1 e.1)])
        rw [← HN.out] at HT6
        clear hk1
        go_wp2_with fail
        go_roundw
        case rel => exact ⟨i + 1, by omega, by go_num, HT6, HB6⟩
        case measure => simp [RowKit.intOf]; omega
    · have hii : i = L.length := by omega
      subst hii
      have hTx := HTx.out
      rw [List.take_length] at hTx
      have hRs : TX wr w.heap.size (fun _ => []) := HRs4.out.world (HBu.out.block _ (by omega) (fun e => by have e : w.heap.size = w.heap.size + 1 := e; omega))
      have hbw : Below w.heap.size w wr := Hbw4.out.trans (HBu.out.below (n := w.heap.size) (fun k hk e => by have e : k = w.heap.size + 1 := e; omega) (by omega))
      obtain ⟨f, hf⟩ : ∃ f, readX s L = f := ⟨_, rfl⟩
      have hokX : OkX f := by rw [← hf]; exact readX_ok s L
      rw [hf] at hTx
      have HF := Lib.hid hf
      have hokL : OkL (entX f 1024) := entX_ok hokX 1024 (Nat.le_refl _)
      have HEn := Lib.hid (fun w' (hb : Below wr.heap.size wr w') => pentries_any f w' (w.heap.size + 1) (hTx.below hb))
      have HNo := Lib.hid (fun w' {A : Option Addr} {ca : Nat} {Q : Nat → Prop} (hca : (entX f 1024).length ≤ ca) (hl : RowE w' Q A (entX f 1024)) => pnodes_any (entX f 1024) hokL.keys (Nat.le_trans (entX_len2 f) (by omega)) A ca hca w' Q hl)
      have HSt := Lib.hid (fun w' (hb : Below wr.heap.size wr w') {A : Option Addr} {ca : Nat} {Q : Nat → Prop} (hL : RowN w' Q A (nodesL (entX f 1024))) (hca : (nodesL (entX f 1024)).length ≤ ca) => pstands_l (HA.out.below (hbw.trans (hb.mono hbw.size))) h hh (entX f 1024) hokL.keys (entX_len2 f) hL hca)
      have HTx9 := Lib.hid hTx
      have HRs9 := Lib.hid hRs
      have Hbw9 := Lib.hid hbw
      have HokX := Lib.hid hokX
      have HokL := Lib.hid hokL
      have hzt : w.heap.size + 1 < wr.heap.size := hTx.lt
      have hlE : (entX f 1024).length ≤ 2000 := entX_len2 f
      have hlN : (nodesL (entX f 1024)).length ≤ 8000 := by have := nodesL_len hokL.keys; omega
      generalize hEL : entX f 1024 = EL at *
      have HEL := Lib.hid hEL
      clear hEL
      clear hTx hRs hbw hf hokX hokL HTx HBu HRs4 Hbw4 HTx4
      go_wp2_with fail
      go_cut [5] from 55 to 60 (fun s5 wx => ∃ b, s5 = .bool b ∧ (b = true ↔ (EL = [] ∧ h = 0) ∨ (EL ≠ [] ∧ At s (trK 2 EL) h)) ∧ TX wx w.heap.size f ∧ Below w.heap.size w wx)
      case first =>
        refine wp_region_any (by kernel_rfl) ?_
        try (change wpAny _ _ _ _ _ _ _ (World.drew _))
        refine wpAny_take (i := 1) (v := ?_) rfl (by kernel_rfl) (by kernel_rfl) (by kernel_rfl) (fun _ _ _ h => h) (Or.inl ⟨by rfl, ?_⟩) ?_
        rotate_left
        · intro w; go_simp
          try with_reducible rfl
        refine wpAny_take (i := 2) (v := ?_) rfl (by kernel_rfl) (by kernel_rfl) (by kernel_rfl) (fun _ _ _ h => h) (Or.inl ⟨by rfl, ?_⟩) ?_
        rotate_left
        · intro w; go_simp
          try with_reducible rfl
        refine wpAny_ready (rs := [0, 3]) (by kernel_rfl) (by simp) ?_
        refine AllReady.cons rfl (fun K hK => ?_) ?_
        · refine step_load_texts (by rfl) _ (by rfl) (w.heap.size + 1) (by rfl) (f := f) (HTx9.out.below (Below.refl _ _).drew) ?_
          (try go_simp)
          try (refine hK _ _ ?_; clear hK K)
          refine wpAny_ready (rs := [3]) (by kernel_rfl) (by simp) ?_
          refine AllReady.cons rfl (fun K hK => ?_) ?_
          · (go_simp; go_at_call 48)
            refine (HEn.out _ (Below.refl _ _).drew).mono ?_; rintro e w1 ⟨O1, c1, rfl, hc1, hr1, hb1'⟩
            have hb1 : Below wr.heap.size wr w1 := (Below.refl wr.heap.size wr).drew.trans hb1'
            (try go_simp)
            try (refine hK _ _ ?_; clear hK K)
            refine wpAny_ready (rs := [4]) (by kernel_rfl) (by simp) ?_
            refine AllReady.cons rfl (fun K hK => ?_) ?_
            · (go_simp; go_at_call 52)
              refine (HNo.out _ hc1 hr1).mono ?_; rintro e w2 ⟨O2, c2, rfl, hc2, hr2, hb2'⟩
              have hb2 : Below wr.heap.size wr w2 := hb1.trans (hb2'.mono hb1.size)
              (try go_simp)
              try (refine hK _ _ ?_; clear hK K)
              refine wpAny_ready (rs := [5]) (by kernel_rfl) (by simp) ?_
              refine AllReady.cons rfl (fun K hK => ?_) ?_
              · (go_simp; go_at_call 65)
                refine (HSt.out _ hb2 hr2 hc2).mono ?_; rintro e w3 ⟨b, rfl, hbb, hb3'⟩
                have hb3 : Below wr.heap.size wr w3 := hb2.trans (hb3'.mono hb2.size)
                (try go_simp)
                try (refine hK _ _ ?_; clear hK K)
                refine wpAny_ready (rs := [6]) (by kernel_rfl) (by simp) ?_
                refine AllReady.cons rfl (fun K hK => ?_) ?_
                · refine step_store_texts (by rfl) _ _ (by rfl) w.heap.size (by rfl) (f := f) (f0 := fun _ => []) (by rfl) (HRs9.out.below hb3) ?_
                  (try go_simp)
                  try (refine hK _ _ ?_; clear hK K)
                  refine wpAny_ready (rs := [7]) (by kernel_rfl) (by simp) ?_
                  refine AllReady.cons rfl (fun K hK => ?_) ?_
                  · go_simp
                    (try go_simp)
                    try (refine hK _ _ ?_; clear hK K)
                    refine wpAny_done (by kernel_rfl) ?_ _
                    go_wp2_with fail
                    go_meet
                    case rel => exact ⟨b, rfl, hbb, heap_setRow_self (HRs9.out.below hb3) _, below_setRow' (Hbw9.out.trans (hb3.mono Hbw9.out.size)) (Nat.le_refl _) _⟩
                  exact AllReady.nil
                exact AllReady.nil
              exact AllReady.nil
            exact AllReady.nil
          exact AllReady.nil
        refine AllReady.cons rfl (fun K hK => ?_) ?_
        · (go_simp; go_at_call 48)
          refine (HEn.out _ (Below.refl _ _).drew).mono ?_; rintro e w1 ⟨O1, c1, rfl, hc1, hr1, hb1'⟩
          have hb1 : Below wr.heap.size wr w1 := (Below.refl wr.heap.size wr).drew.trans hb1'
          (try go_simp)
          try (refine hK _ _ ?_; clear hK K)
          refine wpAny_ready (rs := [0, 4]) (by kernel_rfl) (by simp) ?_
          refine AllReady.cons rfl (fun K hK => ?_) ?_
          · refine step_load_texts (by rfl) _ (by rfl) (w.heap.size + 1) (by rfl) (f := f) (HTx9.out.below hb1) ?_
            (try go_simp)
            try (refine hK _ _ ?_; clear hK K)
            refine wpAny_ready (rs := [4]) (by kernel_rfl) (by simp) ?_
            refine AllReady.cons rfl (fun K hK => ?_) ?_
            · (go_simp; go_at_call 52)
              refine (HNo.out _ hc1 hr1).mono ?_; rintro e w2 ⟨O2, c2, rfl, hc2, hr2, hb2'⟩
              have hb2 : Below wr.heap.size wr w2 := hb1.trans (hb2'.mono hb1.size)
              (try go_simp)
              try (refine hK _ _ ?_; clear hK K)
              refine wpAny_ready (rs := [5]) (by kernel_rfl) (by simp) ?_
              refine AllReady.cons rfl (fun K hK => ?_) ?_
              · (go_simp; go_at_call 65)
                refine (HSt.out _ hb2 hr2 hc2).mono ?_; rintro e w3 ⟨b, rfl, hbb, hb3'⟩
                have hb3 : Below wr.heap.size wr w3 := hb2.trans (hb3'.mono hb2.size)
                (try go_simp)
                try (refine hK _ _ ?_; clear hK K)
                refine wpAny_ready (rs := [6]) (by kernel_rfl) (by simp) ?_
                refine AllReady.cons rfl (fun K hK => ?_) ?_
                · refine step_store_texts (by rfl) _ _ (by rfl) w.heap.size (by rfl) (f := f) (f0 := fun _ => []) (by rfl) (HRs9.out.below hb3) ?_
                  (try go_simp)
                  try (refine hK _ _ ?_; clear hK K)
                  refine wpAny_ready (rs := [7]) (by kernel_rfl) (by simp) ?_
                  refine AllReady.cons rfl (fun K hK => ?_) ?_
                  · go_simp
                    (try go_simp)
                    try (refine hK _ _ ?_; clear hK K)
                    refine wpAny_done (by kernel_rfl) ?_ _
                    go_wp2_with fail
                    go_meet
                    case rel => exact ⟨b, rfl, hbb, heap_setRow_self (HRs9.out.below hb3) _, below_setRow' (Hbw9.out.trans (hb3.mono Hbw9.out.size)) (Nat.le_refl _) _⟩
                  exact AllReady.nil
                exact AllReady.nil
              exact AllReady.nil
            exact AllReady.nil
          refine AllReady.cons rfl (fun K hK => ?_) ?_
          · (go_simp; go_at_call 52)
            refine (HNo.out _ hc1 hr1).mono ?_; rintro e w2 ⟨O2, c2, rfl, hc2, hr2, hb2'⟩
            have hb2 : Below wr.heap.size wr w2 := hb1.trans (hb2'.mono hb1.size)
            (try go_simp)
            try (refine hK _ _ ?_; clear hK K)
            refine wpAny_ready (rs := [0, 5]) (by kernel_rfl) (by simp) ?_
            refine AllReady.cons rfl (fun K hK => ?_) ?_
            · refine step_load_texts (by rfl) _ (by rfl) (w.heap.size + 1) (by rfl) (f := f) (HTx9.out.below hb2) ?_
              (try go_simp)
              try (refine hK _ _ ?_; clear hK K)
              refine wpAny_ready (rs := [5]) (by kernel_rfl) (by simp) ?_
              refine AllReady.cons rfl (fun K hK => ?_) ?_
              · (go_simp; go_at_call 65)
                refine (HSt.out _ hb2 hr2 hc2).mono ?_; rintro e w3 ⟨b, rfl, hbb, hb3'⟩
                have hb3 : Below wr.heap.size wr w3 := hb2.trans (hb3'.mono hb2.size)
                (try go_simp)
                try (refine hK _ _ ?_; clear hK K)
                refine wpAny_ready (rs := [6]) (by kernel_rfl) (by simp) ?_
                refine AllReady.cons rfl (fun K hK => ?_) ?_
                · refine step_store_texts (by rfl) _ _ (by rfl) w.heap.size (by rfl) (f := f) (f0 := fun _ => []) (by rfl) (HRs9.out.below hb3) ?_
                  (try go_simp)
                  try (refine hK _ _ ?_; clear hK K)
                  refine wpAny_ready (rs := [7]) (by kernel_rfl) (by simp) ?_
                  refine AllReady.cons rfl (fun K hK => ?_) ?_
                  · go_simp
                    (try go_simp)
                    try (refine hK _ _ ?_; clear hK K)
                    refine wpAny_done (by kernel_rfl) ?_ _
                    go_wp2_with fail
                    go_meet
                    case rel => exact ⟨b, rfl, hbb, heap_setRow_self (HRs9.out.below hb3) _, below_setRow' (Hbw9.out.trans (hb3.mono Hbw9.out.size)) (Nat.le_refl _) _⟩
                  exact AllReady.nil
                exact AllReady.nil
              exact AllReady.nil
            refine AllReady.cons rfl (fun K hK => ?_) ?_
            · (go_simp; go_at_call 65)
              refine (HSt.out _ hb2 hr2 hc2).mono ?_; rintro e w3 ⟨b, rfl, hbb, hb3'⟩
              have hb3 : Below wr.heap.size wr w3 := hb2.trans (hb3'.mono hb2.size)
              (try go_simp)
              try (refine hK _ _ ?_; clear hK K)
              refine wpAny_ready (rs := [0]) (by kernel_rfl) (by simp) ?_
              refine AllReady.cons rfl (fun K hK => ?_) ?_
              · refine step_load_texts (by rfl) _ (by rfl) (w.heap.size + 1) (by rfl) (f := f) (HTx9.out.below hb3) ?_
                (try go_simp)
                try (refine hK _ _ ?_; clear hK K)
                refine wpAny_ready (rs := [6]) (by kernel_rfl) (by simp) ?_
                refine AllReady.cons rfl (fun K hK => ?_) ?_
                · refine step_store_texts (by rfl) _ _ (by rfl) w.heap.size (by rfl) (f := f) (f0 := fun _ => []) (by rfl) (HRs9.out.below hb3) ?_
                  (try go_simp)
                  try (refine hK _ _ ?_; clear hK K)
                  refine wpAny_ready (rs := [7]) (by kernel_rfl) (by simp) ?_
                  refine AllReady.cons rfl (fun K hK => ?_) ?_
                  · go_simp
                    (try go_simp)
                    try (refine hK _ _ ?_; clear hK K)
                    refine wpAny_done (by kernel_rfl) ?_ _
                    go_wp2_with fail
                    go_meet
                    case rel => exact ⟨b, rfl, hbb, heap_setRow_self (HRs9.out.below hb3) _, below_setRow' (Hbw9.out.trans (hb3.mono Hbw9.out.size)) (Nat.le_refl _) _⟩
                  exact AllReady.nil
                exact AllReady.nil
              exact AllReady.nil
            exact AllReady.nil
          exact AllReady.nil
        exact AllReady.nil
      case rest =>
        obtain ⟨b, rfl, hbb, hTR, hbl⟩ := hcut
        have HTR := Lib.hid hTR
        have hhas := read_has HA.out.inv (h := h) (f := f) (fun k hk => by rw [HLL.out, HF.out]) HEL.out HokL.out hbb
        have HHas := Lib.hid hhas
        clear hTR hhas
        go_wp2_with fail
        exact bodyPost_ret (v := .tuple #[.agg (txC f), .bool b]) (results_two (p := 4) (q := 5) (by kernel_rfl) _ _ w.heap.size rfl HTR.out) rfl ⟨f, b, rfl, HokX.out, by rw [HEL.out]; exact HHas.out, hbl⟩
end Go.Proofs.YtjgjacihdggimaaGreatDoor
namespace Go.Proofs.YtjgjacihdggimaaGreatDoor
open Go.RowKit Go.Shelf
theorem hold_st {w : World} : (Tryz.zeroCells72).size = 1024 := by rw [texts_zero, txC_size]
set_option maxHeartbeats 4000000 in
set_option maxRecDepth 10000 in
theorem pis_any {w : World} {B a room : Nat} {s : Sh} {K : Nat → Prop} (hA : On9 w B a room s K) (h : Int) (hh : -9223372036854775808 ≤ h ∧ h ≤ 9223372036854775807) :
    Calls Tryz.prog 34 #[.pointer (some ⟨a, 0, none⟩), .int .i64 h] w fun e w' => e = .returned (.bool (hasT s h).isSome) ∧ Below w.heap.size w w' := by
  have HR := Lib.hid (pread_any hA h hh)
  clear hA
  go_enter Tryz.func34, Tryz.ntmps34
  go_wp2_with fail
  refine HR.out.mono ?_; rintro e w1 ⟨f, b, rfl, hok, hhas, hb1⟩
  have HH := Lib.hid hhas
  have Hb1 := Lib.hid hb1
  clear hhas hb1 hok
  go_wp2_with (refine wpList_store_row rfl 72 _ _ rfl w1.heap.size (txC f) rfl rfl 72 _ (heap_alloc_new w1 _) (by rw [txC_size]; exact texts_info) (by rw [txC_size]; first | exact hold_st (w := w1) | rfl) (txC_one f) ?_; rw [World.setRow_alloc_new])
  go_ret
  exact ⟨by rw [HH.out]; cases b <;> rfl, Hb1.out.alloc Hb1.out.size _⟩
set_option maxHeartbeats 4000000 in
set_option maxRecDepth 10000 in
theorem pall_any {w : World} {B a room : Nat} {s : Sh} {K : Nat → Prop} (hA : On9 w B a room s K) (h : Int) (hh : -9223372036854775808 ≤ h ∧ h ≤ 9223372036854775807) :
    Calls Tryz.prog 21 #[.pointer (some ⟨a, 0, none⟩), .int .i64 h] w fun e w' => ∃ O co, e = .returned (.slice O ((hasT s h).getD []).length co) ∧ ((hasT s h).getD []).length ≤ co ∧ RowE w' (fun g => w.heap.size ≤ g) O ((hasT s h).getD []) ∧ Below w.heap.size w w' := by
  have HR := Lib.hid (pread_any hA h hh)
  clear hA
  go_enter Tryz.func21, Tryz.ntmps21
  go_wp2_with fail
  refine HR.out.mono ?_; rintro e w1 ⟨f, b, rfl, hok, hhas, hb1⟩
  have HH := Lib.hid hhas
  have Hb1 := Lib.hid hb1
  clear hhas hb1 hok
  cases b with
  | false =>
    go_wp2_with (refine wpList_store_row rfl 72 _ _ rfl w1.heap.size (txC f) rfl rfl 72 _ (heap_alloc_new w1 _) (by rw [txC_size]; exact texts_info) (by rw [txC_size]; first | exact hold_st (w := w1) | rfl) (txC_one f) ?_; rw [World.setRow_alloc_new])
    go_ret
    rw [HH.out]
    exact ⟨none, 0, rfl, Nat.le_refl _, .inl rfl, Hb1.out.alloc Hb1.out.size _⟩
  | true =>
    have hba : Below w.heap.size w (w1.alloc (.cells (txC f) 72)) := Hb1.out.alloc Hb1.out.size _
    have HEn := Lib.hid (pentries_any f (w1.alloc (.cells (txC f) 72)) w1.heap.size (heap_alloc_new w1 _))
    have HBa := Lib.hid hba
    clear hba
    generalize hE : entX f 1024 = EL at *
    clear hE
    go_wp2_with (refine wpList_store_row rfl 72 _ _ rfl w1.heap.size (txC f) rfl rfl 72 _ (heap_alloc_new w1 _) (by rw [txC_size]; exact texts_info) (by rw [txC_size]; first | exact hold_st (w := w1) | rfl) (txC_one f) ?_; rw [World.setRow_alloc_new])
    refine HEn.out.mono ?_; rintro e w2 ⟨O, co, rfl, hc, hr, hb2⟩
    have HR2 := Lib.hid hr
    have HB2 := Lib.hid (HBa.out.trans (hb2.mono HBa.out.size))
    have hlo : w.heap.size ≤ (w1.alloc (.cells (txC f) 72)).heap.size := HBa.out.size
    clear hr hb2
    go_wp2_with fail
    go_ret
    rw [HH.out]
    exact ⟨O, co, rfl, hc, HR2.out.mono fun g hg _ => Nat.le_trans hlo hg, HB2.out⟩
end Go.Proofs.YtjgjacihdggimaaGreatDoor
