/- Texts joined: TsW, FrameZ. -/
import Derived.Test.YtjgadggehpmdkaaGreatDoorTk25
import Derived.Test.YtjgadggehpmdkaaGreatDoorTk17
import Derived.Test.YtjgadggehpmdkaaGreatDoorTk05
import Derived.Test.YtjgadggehpmdkaaGreatDoorTk01
import Derived.Deep.RegionHeld3
import Derived.Test.YtjgadggehpmdkaaGreatDoorRows
import Derived.WalkKit
import Derived.ProofKit
import Derived.OpenShut
import Derived.Deep.DeepHandedRow
import Derived.Lib.LaidTab
import Derived.Stop.LaidErr
import Derived.Lib.SmallJoins
import Derived.LaidLaws
import Derived.Lib.LaidIn
set_option linter.all false
namespace Go.Proofs.YtjgadggehpmdkaaGreatDoor
open Go.RowKit Go.Shelf
theorem tb_upW {w w' : World} (hE : TB w.heap.size w) (hb : Below w.heap.size w w') : TB w'.heap.size w' := fun w'' hb' => hE w'' (hb.trans (hb'.mono hb.size))
theorem Duo.left' {w : World} {B a m room : Nat} {s s' t : Sh} {T : Nat → Prop} (h : Duo w B a m room s t T) {F : FuncId} {args : Array Value} {E : Ending → Prop} (hc : ∀ K, On9 w B a room s K → (∀ g, T g → K g) → Calls Tryz.prog F args w fun e w' => ∃ K', E e ∧ Lf9 w B a room s' K w' K') :
    Calls Tryz.prog F args w fun e w' => E e ∧ Duo w' B a m room s' t T ∧ Kept w w' T ∧ Below B w w' := by
  obtain ⟨K, P, gN, cN, gB, cB, nds, bs, h⟩ := h
  refine (hc K h.on fun g hg => (h.tk g hg).1).mono fun e w' ⟨K', he, hl⟩ => ⟨he, ⟨K', P, gN, cN, gB, cB, nds, bs, hl.1, ?_, h.st, h.inv, h.fit, fun g hg => ?_, fun g hg => ?_⟩, ?_, hl.2.2.2⟩
  · exact h.rm.kept ⟨hl.2.2.1.size, fun g hg hl' => hl.2.2.1.block g (h.pk g hg).2.2 hl'⟩
  · have := h.pk g hg
    exact ⟨this.1, Nat.lt_of_lt_of_le this.2.1 hl.2.2.1.size, hl.2.1 g this.2.2⟩
  · exact ⟨hl.2.1 g (h.tk g hg).1, (h.tk g hg).2⟩
  · exact ⟨hl.2.2.1.size, fun g hg hl' => hl.2.2.1.block g (h.tk g hg).1 hl'⟩
structure XV (w W : World) (B a m room : Nat) (s t : Sh) (T : Nat → Prop) (X : Nat) (x : En) : Prop where
  duo : Duo W B a m room s t T
  bl : Below B w W
  y0 : W.cell? ⟨X, 0, none⟩ = some (.int .i64 x.key)
  y1 : W.cell? ⟨X, 1, none⟩ = some (.string ⟨x.text.toArray⟩)
  tX : T X
section
variable {w W W1 : World} {B a m room : Nat} {s s' t t' : Sh} {T : Nat → Prop} {X : Nat} {x : En}
theorem XV.below (h : XV w W B a m room s t T X x) (hb : Below W.heap.size W W1) : XV w W1 B a m room s t (fun g => T g ∨ (W.heap.size ≤ g ∧ g < W1.heap.size)) X x :=
  ⟨h.duo.below hb, h.bl.trans (hb.mono h.duo.base), keep_cell hb h.y0, keep_cell hb h.y1, .inl h.tX⟩
theorem XV.op (h : XV w W B a m room s t T X x) (hd : Duo W1 B a m room s' t' T) (hk : Kept W W1 T) (hb : Below B W W1) : XV w W1 B a m room s' t' T X x :=
  ⟨hd, h.bl.trans hb, hk.cell h.tX h.y0, hk.cell h.tX h.y1, h.tX⟩
end
theorem fitK_of {n : Nd} (h : FitN n) (o : OkN n) : FitK n := ⟨h, o.2.2.1, o.2.2.2.2.1, o.2.2.2.2.2.1, o.2.2.2.2.2.2⟩
theorem rowA_one {w : World} {g : Nat} {l : List Nd} {A : Option Addr} {ca : Nat} {T : TypeId} (hh : w.heap[g]? = some (.cells #[.int .u8 0, .slice A l.length ca, .slice none 0 0] T (0, 0))) (hr : RowN w (fun _ => True) A l) : RowA w (fun _ => True) (some ⟨g, 0, none⟩) [⟨0, l, A, ca, [], none, 0⟩] := by
  refine .inr ⟨g, 0, rfl, trivial, (Array.getElem?_eq_some_iff.1 hh).1, fun i q hi => ?_⟩
  cases i with
  | succ i => simp at hi
  | zero =>
    obtain rfl : (⟨0, l, A, ca, [], none, 0⟩ : AcM) = q := by simpa using hi
    exact ⟨⟨Lib.cell_of_heap hh 0, Lib.cell_of_heap hh 1, Lib.cell_of_heap hh 2⟩, hr, .inl rfl⟩
set_option maxHeartbeats 40000000 in
set_option maxRecDepth 10000 in
theorem tis_any (w : World) (hE : TB w.heap.size w) (l : List Nd) (A : Option Addr) (ca : Nat) {Q : Nat → Prop} (hl : RowN w Q A l) (hll : l.length ≤ maxLen) (hln : ∀ n ∈ l, OkN n) (x : En) (hx : x.text.length ≤ maxLen) :
    Calls Tryz.prog 4 #[.slice A l.length ca, .agg #[.int .i64 x.key, .string ⟨x.text.toArray⟩]] w fun e w' => e = .returned (.bool true) ∧ Below w.heap.size w w' := by
  have HEv := Lib.hid (fun w' (hb : Below w.heap.size w w') => talive_any w' (tb_upW hE hb))
  have hbX : Below w.heap.size w (w.alloc (.cells #[.int .i64 x.key, .string ⟨x.text.toArray⟩] 55)) := (Below.refl _ _).alloc (Nat.le_refl _) _
  have hblk := heap_alloc_new w (.cells #[.int .i64 x.key, .string ⟨x.text.toArray⟩] 55)
  have hzX : (w.alloc (.cells #[.int .i64 x.key, .string ⟨x.text.toArray⟩] 55)).heap.size = w.heap.size + 1 := by simp
  have hbA : Below (w.alloc (.cells #[.int .i64 x.key, .string ⟨x.text.toArray⟩] 55)).heap.size (w.alloc (.cells #[.int .i64 x.key, .string ⟨x.text.toArray⟩] 55)) ((w.alloc (.cells #[.int .i64 x.key, .string ⟨x.text.toArray⟩] 55)).alloc (.cells #[.int .u8 0, .slice A l.length ca, .slice none 0 0] 58)) := (Below.refl _ _).alloc (Nat.le_refl _) _
  have hblkA := heap_alloc_new (w.alloc (.cells #[.int .i64 x.key, .string ⟨x.text.toArray⟩] 55)) (.cells #[.int .u8 0, .slice A l.length ca, .slice none 0 0] 58)
  rw [hzX] at hblkA
  have hbW := hbX.trans (hbA.mono hbX.size)
  have y0 := keep_cell hbA (Lib.cell_of_heap hblk 0)
  have y1 := keep_cell hbA (Lib.cell_of_heap hblk 1)
  have HFi : Hid (Calls Tryz.prog 22 #[.slice (some ⟨w.heap.size + 1, 0, none⟩) 1 1] ((w.alloc (.cells #[.int .i64 x.key, .string ⟨x.text.toArray⟩] 55)).alloc (.cells #[.int .u8 0, .slice A l.length ca, .slice none 0 0] 58)) fun e w' => FitsR [⟨0, l, A, ca, [], none, 0⟩] ((w.alloc (.cells #[.int .i64 x.key, .string ⟨x.text.toArray⟩] 55)).alloc (.cells #[.int .u8 0, .slice A l.length ca, .slice none 0 0] 58)) e w') :=
    Lib.hid (lfits_any [⟨0, l, A, ca, [], none, 0⟩] (some ⟨w.heap.size + 1, 0, none⟩) 1 _ (rowA_one hblkA ((hl.below hbW).mono fun _ _ _ => trivial)) (by unfold maxLen; simp) (fun q hq => by
      obtain rfl : q = ⟨0, l, A, ca, [], none, 0⟩ := by simpa using hq
      exact ⟨by simp, hll, fun n hn => ⟨(hln n hn).1, (hln n hn).2.1, (hln n hn).2.2.2.1⟩⟩))
  have HL := Lib.hid hl
  have HOk := Lib.hid hln
  have HBW := Lib.hid hbW
  have HY0 := Lib.hid y0
  have HY1 := Lib.hid y1
  have HTB := Lib.hid (fun w' (hb : Below w.heap.size w w') => tb_upW hE hb)
  unfold maxLen at hx
  clear hE hl hll hln hbX hblk hzX hbA hblkA hbW y0 y1
  go_enter Tryz.func4, Tryz.ntmps4
  go_wp2_with fail
  refine HFi.out.mono ?_; rintro e w1 ⟨b, rfl, hfit, hb1⟩
  have HFt := Lib.hid hfit
  have y0 := keep_cell hb1 HY0.out
  have y1 := keep_cell hb1 HY1.out
  have HB1 := Lib.hid (HBW.out.trans (hb1.mono HBW.out.size))
  clear hfit hb1 HFi HBW HY0 HY1
  cases b with
  | false =>
    go_wp2_with fail
    refine (HEv.out w1 HB1.out).mono ?_; rintro e w3 ⟨rfl, hb3⟩
    have hb4 := HB1.out.trans (hb3.mono HB1.out.size)
    go_wp2_with fail
    go_ret
    exact ⟨rfl, hb4⟩
  | true =>
    have hfa := (HFt.out rfl).2 _ (List.mem_singleton.2 rfl)
    have hl200 : l.length ≤ 200 := hfa.2.1
    have HFn : Hid (∀ n ∈ l, FitN n) := Lib.hid hfa.2.2
    clear hfa HFt
    by_cases h300 : 300 < x.text.length
    · have d3 : decide ((300 : Int) < (x.text.length : Int)) = true := decide_eq_true (by omega)
      go_wp2_with fail
      refine (HEv.out w1 HB1.out).mono ?_; rintro e w3 ⟨rfl, hb3⟩
      have hb4 := HB1.out.trans (hb3.mono HB1.out.size)
      go_wp2_with fail
      go_ret
      exact ⟨rfl, hb4⟩
    · have d3 : decide ((300 : Int) < (x.text.length : Int)) = false := decide_eq_false (by omega)
      have hx3 : x.text.length ≤ 300 := by omega
      have HNw : Hid (Calls Tryz.prog 6 #[.int .i64 500] w1 fun e w' => ∃ a K', e = .returned (.tuple #[.pointer (some ⟨a, 0, none⟩), .int .i64 0]) ∧ On9 w' w1.heap.size a 500 [] K' ∧ (∀ g, g < w1.heap.size → K' g) ∧ Below w1.heap.size w1 w') := Lib.hid (o9New w1 (HTB.out w1 HB1.out) 500 (by decide))
      have HY0 := Lib.hid y0
      have HY1 := Lib.hid y1
      have hX1 : w.heap.size < w1.heap.size := Lib.lt_of_cell y0
      clear h300
      go_wp2_with fail
      refine HNw.out.mono ?_; rintro e w2 ⟨a, K1, rfl, hO1, hK1, hb2⟩
      have HO1 := Lib.hid hO1
      have HK1 := Lib.hid hK1
      have HB2 := Lib.hid hb2
      have HBe : Hid (Calls Tryz.prog 8 #[.int .i64 500] w2 fun e w' => ∃ m gN gB, e = .returned (.pointer (some ⟨m, 0, none⟩)) ∧ RM w' (fun g => w2.heap.size ≤ g) m gN 1 gB 1 500 [nd0] [false] ∧ Below w2.heap.size w2 w') := Lib.hid (rBegin_any w2 500 (by decide))
      clear hO1 hK1 hb2 HNw y0 y1
      go_wp2_with fail
      refine HBe.out.mono ?_; rintro e w3 ⟨m, gN, gB, rfl, hR3, hb3⟩
      have hD3 : Duo w3 w1.heap.size a m 500 [] [] (fun g => g < w1.heap.size) := Duo.begin HO1.out hR3 hb3 HK1.out
      have hb13 := HB2.out.trans (hb3.mono HB2.out.size)
      have hV3 : XV w1 w3 w1.heap.size a m 500 [] [] (fun g => g < w1.heap.size) w.heap.size x := ⟨hD3, hb13, keep_cell hb13 HY0.out, keep_cell hb13 HY1.out, hX1⟩
      have hrow3 : RowN w3 (fun g => g < w1.heap.size) A l := ((HL.out.below HB1.out).mono (Q := fun g => g < w1.heap.size) fun g _ hg => hg).below hb13
      have HV3 := Lib.hid hV3
      have HRo3 := Lib.hid hrow3
      clear hR3 hb3 hD3 hb13 hV3 hrow3 HO1 HK1 HB2 HBe HY0 HY1 HL
      have HPu := Lib.hid (Duo.left' (s' := (putA 500 [] l).1) (E := fun e => ∃ O co, e = .returned (.tuple #[.slice O (putA 500 [] l).2.1.length co, .int .i64 ((putA 500 [] l).2.2 : Int)])) HV3.out.duo fun K hon hTK => (o9Put hon l A ca (HRo3.out.mono fun g hg _ => hTK g hg) (by omega) (fun n hn => fitK_of (HFn.out n hn) (HOk.out n hn))).mono fun e w' ⟨O, co, K', he, _, hlf⟩ => ⟨K', ⟨O, co, he⟩, hlf⟩)
      have HDp : Hid (∀ (W : World) (T0 : Nat → Prop) (s' : Sh), Duo W w1.heap.size a m 500 s' [] T0 → s' = (putA 500 [] l).1 → ∀ (O : Option Addr) (c : Nat), RowN W T0 O l → Calls Tryz.prog 24 #[.pointer (some ⟨m, 0, none⟩), .slice O l.length c] W fun e w' => (∃ O co, e = .returned (.tuple #[.slice O (putA 500 [] l).2.1.length co, .int .i64 ((putA 500 [] l).2.2 : Int)])) ∧ Duo w' w1.heap.size a m 500 s' s' T0 ∧ Kept W w' T0 ∧ Below w1.heap.size W w') := Lib.hid fun W T0 s' hd hs O c hrow =>
        Duo.right (E := fun e => ∃ O co, e = .returned (.tuple #[.slice O (putA 500 [] l).2.1.length co, .int .i64 ((putA 500 [] l).2.2 : Int)])) hd hd.inv hd.fits fun P gN cN gB cB nds bs hrm hst _ hT => (rPut_any hrm l O c hrow hT (by omega) (fun n hn => by have := HFn.out n hn; exact ⟨Nat.le_trans this.1 (by decide), Nat.le_trans this.2.1 (by decide)⟩)).mono fun e w' ⟨O', co, gN', cN', gB', cB', nds', bs', out, c', he, hpa, _, hrm', hbu⟩ => by
          rw [hst] at hpa
          exact ⟨gN', cN', gB', cB', nds', bs', ⟨O', co, by rw [he, hpa]⟩, by rw [hs, hpa], hrm', hbu⟩
      generalize putA 500 [] l = PA at *
      obtain ⟨s', hsS, pc⟩ := PA
      go_wp2_with fail
      refine HPu.out.mono ?_; rintro e w4 ⟨⟨O4, c4, rfl⟩, hd4, hk4, hb4⟩
      have hV4 := HV3.out.op hd4 hk4 hb4
      have hrow4 := HRo3.out.kept hk4
      have HV4 := Lib.hid hV4
      have HNo := Lib.hid (lnodesT_any l A ca w4 hrow4 (by omega))
      clear hd4 hk4 hb4 hV4 hrow4 HPu HV3 HRo3
      go_wp2_with fail
      refine HNo.out.mono ?_; rintro e w5 ⟨O5, c5, rfl, hr5, hb5⟩
      have hV5 := HV4.out.below hb5
      have hrow5 := hr5.mono (Q := fun g => g < w1.heap.size ∨ (w4.heap.size ≤ g ∧ g < w5.heap.size)) fun g hg hl => hg.imp id (fun h => ⟨h, hl⟩)
      have HV5 := Lib.hid hV5
      have HDc := Lib.hid (HDp.out w5 _ _ hV5.duo rfl O5 c5 hrow5)
      clear hr5 hb5 hV5 hrow5 HNo HV4 HDp
      go_wp2_with fail
      refine HDc.out.mono ?_; rintro e w6 ⟨⟨O6, c6, rfl⟩, hd6, hk6, hb6⟩
      have hV6 := HV5.out.op hd6 hk6 hb6
      have HV6 := Lib.hid hV6
      clear hd6 hk6 hb6 HDc HV5
      obtain ⟨K, hon⟩ := hV6.duo.on
      obtain ⟨P, gN2, cN2, gB2, cB2, nds, bs, hrm2, hst, hiv, hft⟩ := hV6.duo.rm
      have hHa := (fun (w' : World) (hb : Below w6.heap.size w6 w') (h : Int) => rhasE_any (hrm2.below hb) hiv hft h)
      rw [hst] at hHa
      unfold BelP at hHa
      have HHa := Lib.hid hHa
      have HAl := Lib.hid (fun (w' : World) (hb : Below w6.heap.size w6 w') (h : Int) hh => pall_any (hon.below hb) h hh)
      have HIs := Lib.hid (fun (w' : World) (hb : Below w6.heap.size w6 w') (h : Int) hh => pis_any (hon.below hb) h hh)
      have HLb : Hid (∀ h : Int, ((hasT s' h).getD []).length ≤ 1024) := Lib.hid fun h => by
        cases e : hasT s' h with
        | none => exact Nat.zero_le _
        | some L => exact okL_len (hasT_is e).1
      clear hV6 hon hrm2 hst hiv hft hHa
      go_wp2_with fail
      go_loopw [13, 14, 15, 16] (fun vh _ _ _ wr => ∃ (j : Nat) (v : Int), j ≤ l.length + 3 ∧ vh = .int .i64 v ∧ v + 1 = (j : Int) ∧ Below w6.heap.size w6 wr) (fun vh _ _ _ _ => l.length + 3 - (RowKit.intOf vh + 1).toNat)
      case atStart => exact ⟨0, -1, by omega, rfl, by omega, Below.refl _ _⟩
      case round =>
        obtain ⟨j, v, hj, rfl, hvj, hb⟩ := hrel
        have hv0 : -1 ≤ v := by omega
        have hv1 : v ≤ 1000 := by omega
        by_cases hlt : v ≤ (l.length : Int) + 1
        · have hHc := HHa.out wr hb v
          have HLv := Lib.hid (HLb.out v)
          have HA1 := Lib.hid (fun w' hb => HAl.out w' hb v (by omega))
          have HI1 := Lib.hid (fun w' hb => HIs.out w' hb v (by omega))
          have HHc := Lib.hid hHc
          have HB := Lib.hid hb
          have HJ := Lib.hid hvj
          clear hHc hb hvj
          generalize hasT s' v = HT at *
          generalize HT.isSome = bs at *
          generalize HT.getD [] = L at *
          go_wp2_with fail
          refine HHc.out.mono ?_; rintro e w11 ⟨O11, c11, rfl, hc11, hr11, hb11⟩
          have HR11 := Lib.hid hr11
          have HB11 := Lib.hid (HB.out.trans (hb11.mono HB.out.size))
          clear hc11 hr11 hb11 HHc
          go_wp2_with fail
          refine (HA1.out w11 HB11.out).mono ?_; rintro e w12 ⟨O12, c12, rfl, hc12, hr12, hb12⟩
          have HOf := Lib.hid (lof_any L O12 c12 w12 hr12 (by have := HLv.out; omega))
          have HB12 := Lib.hid (HB11.out.trans (hb12.mono HB11.out.size))
          have HR12 := Lib.hid (HR11.out.below hb12)
          clear hc12 hr12 hb12 HA1 HB11 HR11
          go_wp2_with fail
          refine HOf.out.mono ?_; rintro e w13 ⟨O13, c13, rfl, hc13, hr13, hb13⟩
          have hSa := rsameE_any L L O13 O11 c13 c11 w13 hr13 (HR12.out.below hb13) (by have := HLv.out; omega)
          rw [decide_eq_true (rfl : L = L)] at hSa
          have HSa := Lib.hid hSa
          have HB13 := Lib.hid (HB12.out.trans (hb13.mono HB12.out.size))
          clear hc13 hr13 hb13 hSa HOf HB12 HR12
          go_wp2_with fail
          refine HSa.out.mono ?_; rintro e w14 ⟨rfl, nd, rfl⟩
          have HB14 := Lib.hid (below_drewN HB13.out nd)
          clear HSa HB13
          generalize w13.drewN nd = w14 at *
          go_wp2_with fail
          refine (HI1.out w14 HB14.out).mono ?_; rintro e w15 ⟨rfl, hb15⟩
          have hb16 := HB14.out.trans (hb15.mono HB14.out.size)
          go_wp2_with fail
          go_roundw
          case rel => exact ⟨j + 1, v + 1, by have := HJ.out; omega, by go_num, by have := HJ.out; omega, hb16⟩
          case measure => have := HJ.out; simp [RowKit.intOf]; omega
        · have hV := HV6.out.below hb
          have y0 := hV.y0
          have y1 := hV.y1
          have HV := Lib.hid hV
          have hL0 : (0 : Int) ≤ (l.length : Int) := by omega
          have hL1 : (l.length : Int) ≤ 200 := by omega
          have hxm : x.text.length ≤ maxLen := Nat.le_trans hx3 (by decide)
          have hIv := hV.duo.inv
          have hFt := hV.duo.fits
          have hP1 := Duo.left (s' := (pPutR 500 s' (l.length : Int) x).1) (E := fun e => e = .returned (.tuple #[.int .i64 (pPutR 500 s' (l.length : Int) x).2.1, .int .i64 ((pPutR 500 s' (l.length : Int) x).2.2 : Int)])) hV.duo fun K hon => (ptrput_any hon (l.length : Int) (by omega) x hxm).mono fun e w' ⟨K', he, hl⟩ => ⟨K', he, hl⟩
          have hR1 := (fun (W : World) (T0 : Nat → Prop) (s1 : Sh) (hd : Duo W w1.heap.size a m 500 s1 s' T0) (hs : s1 = (pPutR 500 s' (l.length : Int) x).1) => Duo.right (t' := s1) (E := fun e => e = .returned (.tuple #[.int .i64 (pPutR 500 s' (l.length : Int) x).2.1, .int .i64 ((pPutR 500 s' (l.length : Int) x).2.2 : Int)])) hd hd.inv hd.fits fun P gN cN gB cB nds bs hrm hst _ _ => (rputE_any hrm (by rw [hst]; exact hIv) (by rw [hst]; exact hFt) (l.length : Int) x hxm).mono fun e w' hbp => by rw [hst] at hbp; rw [hs]; exact hbp)
          have hD1 := (fun (W : World) (T0 : Nat → Prop) (s1 : Sh) (hd : Duo W w1.heap.size a m 500 s1 s1 T0) => Duo.left (s' := (pDelR 500 s1 (l.length : Int) x.key).1) (E := fun e => e = .returned (.tuple #[.int .i64 (pDelR 500 s1 (l.length : Int) x.key).2.1, .int .i64 ((pDelR 500 s1 (l.length : Int) x.key).2.2 : Int)])) hd fun K hon => (ptrdel_any hon (l.length : Int) (by omega) x.key).mono fun e w' ⟨K', he, hl⟩ => ⟨K', he, hl⟩)
          have hE1 := (fun (W : World) (T0 : Nat → Prop) (s1 s2 : Sh) (hd : Duo W w1.heap.size a m 500 s2 s1 T0) (hs : s2 = (pDelR 500 s1 (l.length : Int) x.key).1) (hi : Inv 500 s1) (hf : FitT s1) => Duo.right (t' := s2) (E := fun e => e = .returned (.tuple #[.int .i64 (pDelR 500 s1 (l.length : Int) x.key).2.1, .int .i64 ((pDelR 500 s1 (l.length : Int) x.key).2.2 : Int)])) hd hd.inv hd.fits fun P gN cN gB cB nds bs hrm hst _ _ => (rdelE_any hrm (by rw [hst]; exact hi) (by rw [hst]; exact hf) (l.length : Int) x.key).mono fun e w' hbp => by rw [hst] at hbp; rw [hs]; exact hbp)
          have HP1 := Lib.hid hP1
          have HR1 := Lib.hid hR1
          have HD1 := Lib.hid hD1
          have HE1 := Lib.hid hE1
          clear hV hIv hFt hP1 hR1 hD1 hE1 HHa HAl HIs HLb HV6 hb hx hx3 hxm d3
          unfold enV at HP1
          obtain ⟨kx, tx⟩ := x
          generalize pPutR 500 s' (l.length : Int) ⟨kx, tx⟩ = PR at *
          obtain ⟨s1, p1, c1⟩ := PR
          go_wp2_with fail
          refine HP1.out.mono ?_; rintro e w7 ⟨rfl, hd7, hk7, hb7⟩
          have hV7 := HV.out.op hd7 hk7 hb7
          have z0 := hV7.y0
          have z1 := hV7.y1
          have HR2 := Lib.hid (HR1.out w7 _ _ hV7.duo rfl)
          have HV7 := Lib.hid hV7
          clear hd7 hk7 hb7 hV7 HP1 HR1 HV y0 y1
          go_wp2_with fail
          refine HR2.out.mono ?_; rintro e w8 ⟨rfl, hd8, hk8, hb8⟩
          have hV8 := HV7.out.op hd8 hk8 hb8
          have y0 := hV8.y0
          have y1 := hV8.y1
          have HI8 := Lib.hid hV8.duo.inv
          have HF8 := Lib.hid hV8.duo.fits
          have HD2 := Lib.hid (HD1.out w8 _ _ hV8.duo)
          have HE2 := Lib.hid (fun W T0 s2 hd hs => HE1.out W T0 s1 s2 hd hs HI8.out HF8.out)
          have HV8 := Lib.hid hV8
          clear hd8 hk8 hb8 hV8 HR2 HV7 z0 z1 HD1 HE1
          change Hid (Calls Tryz.prog 28 #[.pointer (some ⟨a, 0, none⟩), .int .i64 (l.length : Int), .int .i64 kx] w8 fun e w' => e = .returned (.tuple #[.int .i64 (pDelR 500 s1 (l.length : Int) kx).2.1, .int .i64 ((pDelR 500 s1 (l.length : Int) kx).2.2 : Int)]) ∧ Duo w' w1.heap.size a m 500 (pDelR 500 s1 (l.length : Int) kx).1 s1 _ ∧ _ ∧ _) at HD2
          change Hid (∀ (W : World) (T0 : Nat → Prop) (s2 : Sh), Duo W w1.heap.size a m 500 s2 s1 T0 → s2 = (pDelR 500 s1 (l.length : Int) kx).1 → Calls Tryz.prog 29 #[.pointer (some ⟨m, 0, none⟩), .int .i64 (l.length : Int), .int .i64 kx] W fun e w' => e = .returned (.tuple #[.int .i64 (pDelR 500 s1 (l.length : Int) kx).2.1, .int .i64 ((pDelR 500 s1 (l.length : Int) kx).2.2 : Int)]) ∧ Duo w' w1.heap.size a m 500 s2 s2 T0 ∧ Kept W w' T0 ∧ Below w1.heap.size W w') at HE2
          generalize pDelR 500 s1 (l.length : Int) kx = PR at *
          obtain ⟨s2, p2, c2⟩ := PR
          go_wp2_with fail
          refine HD2.out.mono ?_; rintro e w9 ⟨rfl, hd9, hk9, hb9⟩
          have hV9 := HV8.out.op hd9 hk9 hb9
          have z0 := hV9.y0
          have HR3 := Lib.hid (HE2.out w9 _ _ hV9.duo rfl)
          have HV9 := Lib.hid hV9
          clear hd9 hk9 hb9 hV9 HD2 HE2 HV8 y0 y1
          go_wp2_with fail
          refine HR3.out.mono ?_; rintro e w10 ⟨rfl, hd10, hk10, hb10⟩
          have hV10 := HV9.out.op hd10 hk10 hb10
          have hbB := HB1.out.trans (hV10.bl.mono HB1.out.size)
          have HBB := Lib.hid hbB
          clear hd10 hk10 hb10 hV10 HR3 HV9 z0 hbB
          go_wp2_with fail
          refine (HEv.out w10 HBB.out).mono ?_; rintro e w11 ⟨rfl, hb11⟩
          have hb12 := HBB.out.trans (hb11.mono HBB.out.size)
          go_wp2_with fail
          go_ret
          exact ⟨rfl, hb12⟩
end Go.Proofs.YtjgadggehpmdkaaGreatDoor
namespace Go.Proofs.YtjgadggehpmdkaaGreatDoor
open Go.ChangeShapes Go.WideShapes Go.ChangeAt Go.RowKit
theorem own : ownKnob Tryz.prog.godebug = none := by kernel_rfl
theorem yTab9 : (Tryz.prog.globals[0]?).map (·.type) = some 177 := by kernel_rfl
theorem cellsTab9 : Tryz.prog.cellsOf 177 = 20 := by kernel_rfl
theorem cellsU64 : Tryz.prog.cellsOf 160 = 1 := by kernel_rfl

theorem tab_of {w : World} (h : laidMet Tryz.prog Rows.triePlaysRow.laid w) : TabE w :=
  Lib.tabIs_of_head (rest := _) gTab9 yTab9 Tryz.underlying177 Tryz.underlying160 cellsU64 cellsTab9 h.tail.tail

def valsOf : DataW Unit → List Value
  | .agg ds => ds.map fun
    | .lit (.int k n) => .int k n
    | _ => .nilIface
  | _ => []
noncomputable def laidWorld (os : Os) : World :=
  let w0 := World.holding Tryz.prog os ⟨#[], #[], []⟩
  let put (h : Array Obj) (g : Nat) (cs : Array Value) : Array Obj := h.modify g fun
    | .cells _ t frozen => .cells cs t frozen
    | o => o
  let h2 := put w0.heap 0 (valsOf Rows.laid_internal_strconv_uint64pow10).toArray
  let h3 := put h2 1 (valsOf Rows.laid_math_bits_deBruijn32tab).toArray
  let h4 := put h3 2 (valsOf Rows.laid_math_bits_deBruijn64tab).toArray
  { w0 with heap := h4 }
theorem laid_met (os : Os) (args : Array Value) : laidMet Tryz.prog Rows.triePlaysRow.laid ((laidWorld os).forCall (fun _ _ => 0) ⟨#[], args, []⟩).memory :=
  laidMet_of_run' 8 (by kernel_rfl) (by kernel_rfl)
theorem cellsIntK : Tryz.prog.cellsOf 3 = 1 := by kernel_rfl
theorem cellsStrK : Tryz.prog.cellsOf 9 = 1 := by kernel_rfl
theorem cellsEntK : Tryz.prog.cellsOf 55 = 2 := by kernel_rfl
section
variable {H : Type} {enc : TypeId × Value → H} {w : World} {base : Nat} {spare : Nat → Bool} {held : Bool}
set_option maxRecDepth 100000 in
theorem open_ents {r : Reach} {b0 : Nat} {v : Value} {d : DataW H} {p : List MemPlace} (hv : Value.okWide Tryz.prog w r b0 35 v) (h : DataW.Trod enc Tryz.prog w base spare held 35 v d p) :
    ∃ (l : List En) (A : Option Addr) (cap : Nat), v = .slice A l.length cap ∧ l.length ≤ maxLen ∧ (∀ q ∈ l, q.text.length ≤ maxLen) ∧ RowE w (fun _ => True) A l := by
  obtain ⟨l, A, cap, e, hl, ho, ha⟩ := open_rows enW (fun q => q.text.length ≤ maxLen) (fun _ => rfl) Tryz.underlying35 cellsEntK (by decide) (fun {fuel cs x} hl ht => by
    match cs, hl with
    | [c0, c1], _ =>
      obtain ⟨y0, y1, n, rfl, _, hy0, hy1⟩ := trod_struct2 Tryz.underlying55 ht
      simp only [cellsIntK, cellsStrK] at hy0 hy1
      obtain ⟨a, e1, _, _⟩ := DataW.trod_int Tryz.underlying3 hy0
      obtain ⟨z, e2, _, hzl⟩ := DataW.trod_string Tryz.underlying9 hy1
      simp at e1 e2
      subst e1 e2
      exact ⟨⟨a, z.data.toList⟩, by simp [enW], by first | exact hzl | simpa using hzl⟩) hv h
  refine ⟨l, A, cap, e, hl, ho, ?_⟩
  by_cases hn : l = []
  · exact .inl hn
  · obtain ⟨g, o, e2, hat⟩ := ha hn
    obtain ⟨x, hx⟩ : ∃ x, l[0]? = some x := by
      cases l with
      | nil => exact absurd rfl hn
      | cons x r => exact ⟨x, rfl⟩
    have q0 := hat 0 x hx 0 _ rfl
    have hlt : g < w.heap.size := Lib.lt_of_cell q0
    exact .inr ⟨g, o, e2, trivial, hlt, hat⟩
set_option maxRecDepth 100000 in
theorem trod_ents {fuel : Nat} {c : Value} {x : DataW H × List MemPlace} (h : DataW.trod enc Tryz.prog w base spare held fuel 35 [c] = some x) :
    ∃ (l : List En) (A : Option Addr) (cap : Nat), c = .slice A l.length cap ∧ l.length ≤ maxLen ∧ (∀ q ∈ l, q.text.length ≤ maxLen) ∧ RowE w (fun _ => True) A l := by
  obtain ⟨l, A, cap, e, hl, ho, ha⟩ := trod_rows enW (fun q => q.text.length ≤ maxLen) (fun _ => rfl) Tryz.underlying35 cellsEntK (by decide) (fun {fuel cs x} hl ht => by
    match cs, hl with
    | [c0, c1], _ =>
      obtain ⟨y0, y1, n, rfl, _, hy0, hy1⟩ := trod_struct2 Tryz.underlying55 ht
      simp only [cellsIntK, cellsStrK] at hy0 hy1
      obtain ⟨a, e1, _, _⟩ := DataW.trod_int Tryz.underlying3 hy0
      obtain ⟨z, e2, _, hzl⟩ := DataW.trod_string Tryz.underlying9 hy1
      simp at e1 e2
      subst e1 e2
      exact ⟨⟨a, z.data.toList⟩, by simp [enW], by first | exact hzl | simpa using hzl⟩) h
  refine ⟨l, A, cap, e, hl, ho, ?_⟩
  cases l with
  | nil => exact .inl rfl
  | cons a l =>
    obtain ⟨g, o, e2, hat⟩ := ha (by simp)
    have hlt : g < w.heap.size := Lib.lt_of_cell (hat 0 a rfl 0 _ rfl)
    exact .inr ⟨g, o, e2, trivial, hlt, hat⟩
def OkT (q : AcT) : Prop := (0 ≤ q.kind ∧ q.kind ≤ 255) ∧ q.L.length ≤ maxLen ∧ ∀ x ∈ q.L, x.text.length ≤ maxLen
theorem cellsActT : Tryz.prog.cellsOf 37 = 3 := by kernel_rfl
theorem cellsEntsT : Tryz.prog.cellsOf 35 = 1 := by kernel_rfl
set_option maxRecDepth 100000 in
theorem open_actsT {r : Reach} {b0 : Nat} {v : Value} {d : DataW H} {p : List MemPlace} (hv : Value.okWide Tryz.prog w r b0 23 v) (h : DataW.Trod enc Tryz.prog w base spare held 23 v d p) :
    ∃ (l : List AcT) (A : Option Addr) (cap : Nat), v = .slice A l.length cap ∧ l.length ≤ maxLen ∧ (∀ q ∈ l, OkT q) ∧ RowT w (fun _ => True) A l := by
  haveI : Inhabited AcT := ⟨⟨0, [], none, 0, 0⟩⟩
  obtain ⟨l, A, cap, e, hl, ho, ha⟩ := open_rows acT (fun q => OkT q ∧ RowE w (fun _ => True) q.LA q.L) (fun _ => rfl) Tryz.underlying23 cellsActT (by decide) (fun {fuel cs x} hl ht => by
    match cs, hl with
    | [c0, c1, c2], _ =>
      obtain ⟨xs, n, rfl, rfl, hcl, hxl, hf⟩ := DataW.trod_struct Tryz.underlying37 ht
      match xs, hxl with
      | [y0, y1, y2], _ =>
      have g0 : DataW.trod enc Tryz.prog w base spare held n 5 [c0] = some y0 := by have := hf 0 _ rfl; rw [show ∀ z : TypeId, z = 5 → Tryz.prog.cellsOf z = 1 from fun z hz => by rw [hz]; exact cellsU] at this; exact this; rfl
      have g1 : DataW.trod enc Tryz.prog w base spare held n 35 [c1] = some y1 := by have := hf 1 _ rfl; rw [show ∀ z : TypeId, z = 35 → Tryz.prog.cellsOf z = 1 from fun z hz => by rw [hz]; exact cellsEntsT] at this; exact this; rfl
      have g2 : DataW.trod enc Tryz.prog w base spare held n 3 [c2] = some y2 := by have := hf 2 _ rfl; rw [show ∀ z : TypeId, z = 3 → Tryz.prog.cellsOf z = 1 from fun z hz => by rw [hz]; exact cellsIntK] at this; exact this; rfl
      obtain ⟨a, h0, _, wa⟩ := DataW.trod_int Tryz.underlying5 g0
      obtain ⟨L, A1, k1, rfl, r1, r2, r3⟩ := trod_ents g1
      obtain ⟨b, h2, _, _⟩ := DataW.trod_int Tryz.underlying3 g2
      simp at h0 h2
      subst h0 h2
      have e1 : IntKind.u8.min = 0 := rfl
      have e2 : IntKind.u8.max = 255 := rfl
      simp [Lit.wf, e1, e2] at wa
      exact ⟨⟨a, L, A1, k1, b⟩, rfl, ⟨wa, r1, r2⟩, r3⟩) hv h
  refine ⟨l, A, cap, e, hl, fun q hq => (ho q hq).1, ?_⟩
  cases l with
  | nil => exact .inl rfl
  | cons a l =>
    obtain ⟨g, o, rfl, hat⟩ := ha (by simp)
    refine .inr ⟨g, o, rfl, trivial, Lib.lt_of_cell (hat 0 a rfl 0 _ rfl), fun i q hi => ?_⟩
    exact ⟨⟨hat i q hi 0 _ rfl, hat i q hi 1 _ rfl, hat i q hi 2 _ rfl⟩, (ho q (List.mem_of_getElem? hi)).2⟩
set_option maxRecDepth 100000 in
theorem open_u16 {r : Reach} {b0 : Nat} {v : Value} {d : DataW H} {p : List MemPlace} (hv : Value.okWide Tryz.prog w r b0 22 v) (h : DataW.Trod enc Tryz.prog w base spare held 22 v d p) : ∃ n : Int, (0 ≤ n ∧ n ≤ 65535) ∧ v = .int .u16 n := by
  obtain ⟨a, e, _, _, wa⟩ := open_int Tryz.underlying22 hv h
  have e1 : IntKind.u16.min = 0 := rfl
  have e2 : IntKind.u16.max = 65535 := rfl
  simp [Lit.wf, e1, e2] at wa
  exact ⟨a, wa, e⟩
set_option maxRecDepth 100000 in
theorem open_nodesT {r : Reach} {b0 : Nat} {v : Value} {d : DataW H} {p : List MemPlace} (hv : Value.okWide Tryz.prog w r b0 53 v) (h : DataW.Trod enc Tryz.prog w base spare held 53 v d p) :
    ∃ (l : List Nd) (A : Option Addr) (cap : Nat), v = .slice A l.length cap ∧ l.length ≤ maxLen ∧ (∀ n ∈ l, OkN n) ∧ RowN w (fun _ => True) A l := by
  obtain ⟨A0, len, cap, rfl⟩ := okWide_slice Tryz.underlying53 hv
  obtain ⟨fuel, hf⟩ := h
  exact trod_nodes hf
set_option maxRecDepth 100000 in
theorem open_entT {r : Reach} {b0 : Nat} {v : Value} {d : DataW H} {p : List MemPlace} (hv : Value.okWide Tryz.prog w r b0 55 v) (h : DataW.Trod enc Tryz.prog w base spare held 55 v d p) :
    ∃ x : En, x.text.length ≤ maxLen ∧ v = .agg #[.int .i64 x.key, .string ⟨x.text.toArray⟩] := by
  obtain ⟨c0, c1, y0, y1, m, rfl, rfl, rfl, hy0, hy1⟩ := Joins.open_agg2 Tryz.underlying55 (by kernel_rfl) cellsEntK hv h
  obtain ⟨a, e1, _, _⟩ := DataW.trod_int Tryz.underlying3 hy0
  obtain ⟨z, e2, _, hzl⟩ := DataW.trod_string Tryz.underlying9 hy1
  simp at e1 e2
  subst e1 e2
  exact ⟨⟨a, z.data.toList⟩, by rw [Array.length_toList]; exact hzl, by simp⟩
end
end Go.Proofs.YtjgadggehpmdkaaGreatDoor
