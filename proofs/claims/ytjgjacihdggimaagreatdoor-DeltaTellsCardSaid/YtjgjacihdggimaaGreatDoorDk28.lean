/- Texts joined: DfV, DfS, TqMg, DvB, DeI, DeC, DeF. -/
import Derived.Test.YtjgjacihdggimaaGreatDoorDk22
import Derived.Test.YtjgjacihdggimaaGreatDoorDk04
import Derived.Deep.LoopGhost
import Derived.Test.YtjgjacihdggimaaGreatDoorDk27
import Derived.Test.YtjgjacihdggimaaGreatDoorDk25
import Derived.Test.YtjgjacihdggimaaGreatDoorDk21
import Derived.BigGuard
import Derived.Test.YtjgjacihdggimaaGreatDoorDk14
import Derived.Deep.QuietTactic
import Derived.BigQuiet
import Derived.Test.YtjgjacihdggimaaGreatDoorDk05
import Derived.Deep.RegionHeld3
import Derived.Test.YtjgjacihdggimaaGreatDoorDk06
set_option linter.all false
namespace Go.Proofs.YtjgjacihdggimaaGreatDoor
open Go.RowKit
theorem RowI.head {w : World} {P : Nat → Prop} {A : Option Addr} {m : List Int} {k : Nat} {y : Int} (h : RowI w P A (m.drop k)) (hy : m[k]? = some y) : ∃ g o, A = some ⟨g, o, none⟩ ∧ w.cell? ⟨g, o, none⟩ = some (.int .i64 y) ∧ g < w.heap.size ∧ RowI w P (some ⟨g, o + 1, none⟩) (m.drop (k + 1)) := by
  obtain ⟨hk, e⟩ := List.getElem?_eq_some_iff.1 hy
  rcases h with h | ⟨g, o, rfl, hp, hl, hc⟩
  · rw [List.drop_eq_nil_iff] at h; omega
  · refine ⟨g, o, rfl, ?_, hl, .inr ⟨g, o + 1, rfl, hp, hl, fun i x hi => ?_⟩⟩
    · have := hc 0 y (by rw [List.getElem?_drop]; exact hy)
      exact this
    · have := hc (i + 1) x (by rw [List.getElem?_drop] at hi ⊢; rw [← hi]; congr 1; omega)
      rwa [show o + (i + 1) = o + 1 + i by omega] at this
theorem both_le {l m : List Int} (hl : l.length ≤ 1000000) (hm : m.length ≤ 1000000) {i k : Nat} {x : Int} : bothC (l.take i) m + (m.take k).count x ≤ 2000000000000 := by
  have h1 := both_len (l.take i) m
  have h2 : (l.take i).length * m.length ≤ 1000000 * 1000000 := Nat.mul_le_mul (by rw [List.length_take]; omega) hm
  have h3 : (m.take k).count x ≤ (m.take k).length := List.count_le_length
  have h4 : (m.take k).length ≤ m.length := by rw [List.length_take]; omega
  omega
set_option maxHeartbeats 8000000 in
set_option maxRecDepth 10000 in
theorem pdboth_any (l m : List Int) (hrl : l.Pairwise (· < ·)) (hrm : m.Pairwise (· < ·)) (A C : Option Addr) (ca cb : Nat) (w : World) {Q R : Nat → Prop} (hA : RowI w Q A l) (hC : RowI w R C m) (hcb : m.length ≤ cb) (hll : l.length ≤ 1000000) (hml : m.length ≤ 1000000) :
    Calls Tryz.prog 35 #[.slice A l.length ca, .slice C m.length cb] w fun e w' => e = .returned (.int .i64 (bothC l m : Nat)) ∧ w' = w := by
  have HA := Lib.hid hA
  have HLe := Lib.hid (fun i k x => both_le (l := l) (m := m) (i := i) (k := k) (x := x) hll hml)
  have HEnd := Lib.hid (fun i k x => both_end (l := l) (m := m) (i := i) (k := k) (x := x) hrm)
  have HAh := Lib.hid (fun i k x => noB_ah (l := l) (m := m) (i := i) (k := k) (x := x) hrl)
  have H0 : Hid (RowI w R C (m.drop 0) ∧ (0 : Nat) = bothC (l.take 0) m ∧ AhB l m 0 0) := Lib.hid ⟨by rw [List.drop_zero]; exact hC, rfl, ahB_zero l m⟩
  clear hA hC hrl hrm
  go_enter Tryz.func35, Tryz.ntmps35
  go_wp2_with fail
  go_step3
  go_wp2_with fail
  go_step3
  go_wp2_with fail
  go_loopg [1, 5, 10] l.length (fun gk vm vn vi wr => ∃ (i k ML N : Nat) (C : Option Addr) (cm : Nat), i + gk = l.length ∧ vi = .int .i64 (i : Int) ∧ k + ML = m.length ∧ vm = .slice C ML cm ∧ vn = .int .i64 (N : Int) ∧ ML ≤ cm ∧ Hid (RowI w R C (m.drop k)) ∧ Hid (N = bothC (l.take i) m) ∧ Hid (AhB l m i k) ∧ wr = w)
  case atStart => exact ⟨0, 0, m.length, 0, C, cb, by omega, rfl, by omega, rfl, rfl, hcb, Lib.hid H0.out.1, Lib.hid H0.out.2.1, Lib.hid H0.out.2.2, rfl⟩
  case round =>
    obtain ⟨i, k0, ML0, N0, C0, cm0, hig, rfl, hkm0, rfl, rfl, hcm0, HR0, HN0, HA0, hw0⟩ := hrel
    have hw1 := hw0.symm
    subst hw1
    clear H0
    cases gk with
    | zero =>
      have hii : i = l.length := by omega
      subst hii
      have hn := HN0.out
      rw [List.take_length] at hn
      have HN := Lib.hid hn
      clear hn HN0 HA0 HR0
      go_wp2_with fail
      try rw [Exit.noGoto_ret]
      go_ret
      exact ⟨by rw [HN.out]; rfl, rfl⟩
    | succ g1 =>
      have hlt : i < l.length := by omega
      obtain ⟨x, hx⟩ : ∃ x, l[i]? = some x := ⟨_, List.getElem?_eq_getElem hlt⟩
      obtain ⟨g, o, rfl, _, hgl, hat⟩ := HA.out.at hlt
      have q0 := hat i x hx
      have hI : (i : Int) < (l.length : Int) := by omega
      have hJ : (0 : Int) ≤ (i : Int) := by omega
      have HX := Lib.hid hx
      have HNo := Lib.hid (ahB_no HA0.out hx)
      have HN1 : Hid (N0 = bothC (l.take i) m + (m.take k0).count x) := Lib.hid (by rw [cnt_ah HA0.out hx]; exact HN0.out)
      clear hat hx HN0 HA0
      go_wp2_with fail
      go_loopg [1, 5] ML0 (fun gk vm vn wr => ∃ (k N : Nat) (C : Option Addr) (cm : Nat), k + gk = m.length ∧ vm = .slice C gk cm ∧ vn = .int .i64 (N : Int) ∧ gk ≤ cm ∧ Hid (RowI w R C (m.drop k)) ∧ Hid (N = bothC (l.take i) m + (m.take k).count x) ∧ Hid (NoB m x k) ∧ wr = w)
      case atStart => exact ⟨k0, N0, C0, cm0, hkm0, rfl, rfl, hcm0, HR0, HN1, HNo, rfl⟩
      case round =>
        clear HR0 HN1 HNo hkm0 hcm0
        obtain ⟨k, N, C1, cm, hkm, rfl, rfl, hcm1, HR, HN, HB, hw0⟩ := hrel
        have hw1 := hw0.symm
        subst hw1
        have hN9 : N ≤ 2000000000000 := by rw [HN.out]; exact HLe.out i k x
        cases gk with
        | zero =>
          have HN2 : Hid (N = bothC (l.take (i + 1)) m) := Lib.hid (by rw [HN.out]; exact HEnd.out i k x HX.out (fun y hy => by have := (List.getElem?_eq_some_iff.1 hy).1; omega))
          have HA2 := Lib.hid (HAh.out i k x HX.out HB.out)
          clear HN HB
          go_wp2_with fail
          go_roundg g1
          case rel => exact ⟨i + 1, k, 0, N, _, cm, by omega, by go_num, hkm, rfl, rfl, hcm1, HR, HN2, HA2, rfl⟩
          case measure => omega
        | succ g2 =>
          obtain ⟨y, hy⟩ : ∃ y, m[k]? = some y := ⟨_, List.getElem?_eq_getElem (by omega)⟩
          obtain ⟨gm, om, rfl, p0, hgm, hR2⟩ := HR.out.head hy
          have HR2 := Lib.hid hR2
          have hz : (0 : Int) < ((g2 + 1 : Nat) : Int) := by omega
          by_cases h1 : x < y
          · have d1 : decide (x < y) = true := decide_eq_true h1
            have HN2 : Hid (N = bothC (l.take (i + 1)) m) := Lib.hid (by rw [HN.out]; exact HEnd.out i k x HX.out (fun y' hy' => by rw [hy] at hy'; cases hy'; exact h1))
            have HA2 := Lib.hid (HAh.out i k x HX.out HB.out)
            clear HN HB hR2 hy h1
            go_wp2_with fail
            go_roundg g1
            case rel => exact ⟨i + 1, k, g2 + 1, N, _, cm, by omega, by go_num, by omega, rfl, rfl, hcm1, HR, HN2, HA2, rfl⟩
            case measure => omega
          · have d1 : decide (x < y) = false := decide_eq_false h1
            have HB2 := Lib.hid (noB_next HB.out hy (by omega))
            by_cases h2 : x = y
            · have d2 : (y == x) = true := by rw [h2]; simp
              have HN2 : Hid (N + 1 = bothC (l.take i) m + (m.take (k + 1)).count x) := Lib.hid (by rw [HN.out, cnt_yes (h2 ▸ hy)]; omega)
              clear HN HB hR2 hy h1 h2
              go_wp2_with fail
              · go_roundg g2
                case rel => exact ⟨k + 1, N + 1, some ⟨gm, om, none⟩, 0, by omega, rfl, by go_num, by omega, Lib.hid (.inl (List.drop_eq_nil_of_le (by omega))), HN2, HB2, rfl⟩
                case measure => omega
              · go_roundg g2
                case rel => exact ⟨k + 1, N + 1, some ⟨gm, om + 1, none⟩, cm - 1, by omega, rfl, by go_num, by omega, HR2, HN2, HB2, rfl⟩
                case measure => omega
            · have d2 : (y == x) = false := by rw [beq_eq_false_iff_ne]; exact fun e => h2 e.symm
              have HN2 : Hid (N = bothC (l.take i) m + (m.take (k + 1)).count x) := Lib.hid (by rw [HN.out, cnt_no hy h2])
              clear HN HB hR2 hy h1 h2
              go_wp2_with fail
              · go_roundg g2
                case rel => exact ⟨k + 1, N, some ⟨gm, om, none⟩, 0, by omega, rfl, rfl, by omega, Lib.hid (.inl (List.drop_eq_nil_of_le (by omega))), HN2, HB2, rfl⟩
                case measure => omega
              · go_roundg g2
                case rel => exact ⟨k + 1, N, some ⟨gm, om + 1, none⟩, cm - 1, by omega, rfl, rfl, by omega, HR2, HN2, HB2, rfl⟩
                case measure => omega
end Go.Proofs.YtjgjacihdggimaaGreatDoor
namespace Go.Proofs.YtjgjacihdggimaaGreatDoor
open Go.RowKit Go.Shelf
set_option maxHeartbeats 8000000 in
set_option maxRecDepth 10000 in
theorem pdshared_any {w : World} {B a room : Nat} {s : Sh} {K : Nat → Prop} (hA : On9 w B a room s K) (x y : Int) (hx : -9223372036854775808 ≤ x ∧ x ≤ 9223372036854775807) (hy : -9223372036854775808 ≤ y ∧ y ≤ 9223372036854775807) :
    Calls Tryz.prog 15 #[.pointer (some ⟨a, 0, none⟩), .int .i64 x, .int .i64 y] w fun e w' => e = .returned (.int .i64 (shR s x y : Nat)) ∧ Below w.heap.size w w' := by
  have HX := Lib.hid (pis_any hA x hx)
  have HY := Lib.hid (fun (w1 : World) (hb : Below w.heap.size w w1) => pis_any (hA.below hb) y hy)
  have HNo := Lib.hid (fun e => shR_no (s := s) (x := x) (y := y) e)
  have HYes := Lib.hid (fun e1 e2 => shR_yes (s := s) (x := x) (y := y) e1 e2)
  have HRe := Lib.hid (fun (W2 : World) (hb : Below w.heap.size w W2) (z : Int) (hz : -9223372036854775808 ≤ z ∧ z ≤ 9223372036854775807) => o9ReachC (hA.below (hb.trans (((Below.refl W2.heap.size W2).alloc (Nat.le_refl _) (.cells #[.int .i64 z] 3)).mono hb.size))) [z] (some ⟨W2.heap.size, 0, none⟩) 1 (Q := fun _ => True) (rowI_lit (heap_alloc_new W2 (.cells #[.int .i64 z] 3)) rfl trivial) (by simp) (fun q hq => by rw [List.mem_singleton.1 hq]; exact hz))
  have HLx := reach_len hA.inv hA.wide [x]
  have HLy := reach_len hA.inv hA.wide [y]
  have HRx := Lib.hid (reach_rise s [x])
  have HRy := Lib.hid (reach_rise s [y])
  clear hA
  generalize (hasT s x).isSome = bx at *
  generalize (hasT s y).isSome = b_y at *
  generalize shR s x y = SR at *
  cases bx with
  | false =>
    have HE := Lib.hid (HNo.out (.inl rfl))
    clear HNo HYes HRe
    go_enter Tryz.func15, Tryz.ntmps15
    go_wp2_with fail
    refine HX.out.mono ?_; rintro e w1 ⟨rfl, hb1⟩
    have HB1 := Lib.hid hb1
    clear hb1
    go_wp2_with fail
    go_ret
    exact ⟨by rw [HE.out]; rfl, HB1.out⟩
  | true =>
    cases b_y with
    | false =>
      have HE := Lib.hid (HNo.out (.inr rfl))
      clear HNo HYes HRe
      go_enter Tryz.func15, Tryz.ntmps15
      go_wp2_with fail
      refine HX.out.mono ?_; rintro e w1 ⟨rfl, hb1⟩
      have HB1 := Lib.hid hb1
      clear hb1
      go_wp2_with fail
      refine (HY.out _ HB1.out).mono ?_; rintro e w2 ⟨rfl, hb2⟩
      have HB2 := Lib.hid (HB1.out.trans (hb2.mono HB1.out.size))
      clear hb2
      go_wp2_with fail
      go_ret
      exact ⟨by rw [HE.out]; rfl, HB2.out⟩
    | true =>
      have HE := Lib.hid (HYes.out rfl rfl)
      clear HNo HYes
      go_enter Tryz.func15, Tryz.ntmps15
      go_wp2_with fail
      refine HX.out.mono ?_; rintro e w1 ⟨rfl, hb1⟩
      have HB1 := Lib.hid hb1
      clear hb1
      go_wp2_with fail
      refine (HY.out _ HB1.out).mono ?_; rintro e w2 ⟨rfl, hb2⟩
      have HB2 := Lib.hid (HB1.out.trans (hb2.mono HB1.out.size))
      have HC := Lib.hid (HRe.out w2 HB2.out x hx)
      have hba : Below w2.heap.size w2 (w2.alloc (.cells #[.int .i64 x] 3)) := (Below.refl _ _).alloc (Nat.le_refl _) _
      have HBa := Lib.hid hba
      clear hb2 hba HX HY
      go_wp2_with fail
      refine HC.out.mono ?_; rintro e w3 ⟨O3, c3, rfl, hr3, hb3, hk3⟩
      have hb23 := HBa.out.trans (hb3.mono HBa.out.size)
      have HB3 := Lib.hid (HB2.out.trans (hb23.mono HB2.out.size))
      have HR3 := Lib.hid hr3
      have HC4 := Lib.hid (HRe.out w3 HB3.out y hy)
      have hbd : Below w3.heap.size w3 (w3.alloc (.cells #[.int .i64 y] 3)) := (Below.refl _ _).alloc (Nat.le_refl _) _
      have HBd := Lib.hid hbd
      clear hr3 hb3 hb23 hk3 hbd HC HBa HRe
      go_wp2_with fail
      refine HC4.out.mono ?_; rintro e w4 ⟨O4, c4, rfl, hr4, hb4, hk4⟩
      have hb34 := HBd.out.trans (hb4.mono HBd.out.size)
      have HB4 := Lib.hid (HB3.out.trans (hb34.mono HB3.out.size))
      have HBo := Lib.hid (pdboth_any _ _ HRx.out HRy.out O3 O4 c3 c4 w4 (HR3.out.below hb34) hr4 hk4 (by omega) (by omega))
      clear hr4 hb4 hb34 hk4 HC4 HBd HR3
      go_wp2_with fail
      refine HBo.out.mono ?_; rintro e w5 ⟨rfl, rfl⟩
      go_wp2_with fail
      go_ret
      exact ⟨by rw [HE.out]; rfl, HB4.out⟩
end Go.Proofs.YtjgjacihdggimaaGreatDoor
namespace Go.Proofs.YtjgjacihdggimaaGreatDoor
open Go.RowKit Go.Shelf
theorem lf9_up {w w0 w2 : World} {B a room : Nat} {s : Sh} {K K2 : Nat → Prop} (h : Lf9 w B a room s K w2 K2) (h0 : Below B w0 w) : On9 w2 B a room s K2 ∧ Below B w0 w2 := ⟨h.1, h0.trans h.2.2.2⟩
theorem tb_up {w w' : World} (hE : TB w.heap.size w) (hb : Below w.heap.size w w') : TB w'.heap.size w' := fun w'' hb' => hE w'' (hb.trans (hb'.mono hb.size))
end Go.Proofs.YtjgjacihdggimaaGreatDoor
namespace Go.Proofs.YtjgjacihdggimaaGreatDoor
open Go.RowKit Go.Shelf
theorem pdchGuard : Tryz.prog.eqGuardType Tryz.prog.depth 57 = false := by kernel_rfl
theorem pdchStood : Tryz.prog.stoodInHeld 57 = false := by kernel_rfl
theorem pdchStruct : Tryz.prog.underlying 57 = some (.struct (Tryz.prog.fieldsOf 57)) := by kernel_rfl
theorem guard_pdch (op : BinOp) (X Y : Operand) (xs ys : Array Value) (W : World) : (eqGuard op 57 X Y (.agg xs) (.agg ys)).run Tryz.prog W = .ok () W := run_eqGuard_agg W op 57 X Y xs ys pdchGuard
theorem eql_pdch (x : Int) (s t : ByteArray) (W : World) : (binOp .eql 57 (.agg #[.int .i64 x, .string s, .string t]) (.agg #[.int .i64 x, .string s, .string t])).run Tryz.prog W = .ok (.bool true) W := by
  rw [run_eql_struct, run_equalIn_agg W 9999 57 _ _ pdchStruct pdchStood]
  simp [go_sem]
theorem row_three (w : World) (K : Nat → Prop) (a b c : En) :
    RowE (w.alloc (.cells #[.int .i64 a.key, .string ⟨a.text.toArray⟩, .int .i64 b.key, .string ⟨b.text.toArray⟩, .int .i64 c.key, .string ⟨c.text.toArray⟩] 60)) (fun g => K g ∨ (w.heap.size ≤ g ∧ g < (w.alloc (.cells #[.int .i64 a.key, .string ⟨a.text.toArray⟩, .int .i64 b.key, .string ⟨b.text.toArray⟩, .int .i64 c.key, .string ⟨c.text.toArray⟩] 60)).heap.size)) (some ⟨w.heap.size, 0, none⟩) [a, b, c] := by
  refine .inr ⟨_, _, rfl, .inr ⟨Nat.le_refl _, by simp⟩, by simp, ?_⟩
  intro i x hx j u hu
  rw [Lib.cell_of_heap (heap_alloc_new w _)]
  rcases i with _ | _ | _ | i
  · obtain rfl : x = a := (Option.some.inj hx).symm
    rcases j with _ | _ | j
    · exact hu
    · exact hu
    · cases hu
  · obtain rfl : x = b := (Option.some.inj hx).symm
    rcases j with _ | _ | j
    · exact hu
    · exact hu
    · cases hu
  · obtain rfl : x = c := (Option.some.inj hx).symm
    rcases j with _ | _ | j
    · exact hu
    · exact hu
    · cases hu
  · cases hx
set_option maxHeartbeats 16000000 in
set_option maxRecDepth 10000 in
theorem ldalive_any (w : World) (hE : TB w.heap.size w) : Calls Tryz.prog 5 #[] w fun e w' => e = .returned (.bool true) ∧ Below w.heap.size w w' := by
  have HE := Lib.hid (o9New w hE 30 (by decide))
  have hI1 : ∀ W, (binOp .eql 57 (.agg #[.int .i64 1, .string ⟨#[97]⟩, .string ⟨#[]⟩]) (.agg #[.int .i64 1, .string ⟨#[97]⟩, .string ⟨#[]⟩])).run Tryz.prog W = .ok (.bool true) W := eql_pdch 1 ⟨#[97]⟩ ⟨#[]⟩
  have hI2 : ∀ W, (binOp .eql 57 (.agg #[.int .i64 7, .string ⟨#[]⟩, .string ⟨#[101]⟩]) (.agg #[.int .i64 7, .string ⟨#[]⟩, .string ⟨#[101]⟩])).run Tryz.prog W = .ok (.bool true) W := eql_pdch 7 ⟨#[]⟩ ⟨#[101]⟩
  have hI3 : ∀ W, (binOp .eql 57 (.agg #[.int .i64 9, .string ⟨#[99]⟩, .string ⟨#[100]⟩]) (.agg #[.int .i64 9, .string ⟨#[99]⟩, .string ⟨#[100]⟩])).run Tryz.prog W = .ok (.bool true) W := eql_pdch 9 ⟨#[99]⟩ ⟨#[100]⟩
  have hG1 := fun X Y W => guard_pdch .eql X Y #[.int .i64 1, .string ⟨#[97]⟩, .string ⟨#[]⟩] #[.int .i64 1, .string ⟨#[97]⟩, .string ⟨#[]⟩] W
  have hG2 := fun X Y W => guard_pdch .eql X Y #[.int .i64 7, .string ⟨#[]⟩, .string ⟨#[101]⟩] #[.int .i64 7, .string ⟨#[]⟩, .string ⟨#[101]⟩] W
  have hG3 := fun X Y W => guard_pdch .eql X Y #[.int .i64 9, .string ⟨#[99]⟩, .string ⟨#[100]⟩] #[.int .i64 9, .string ⟨#[99]⟩, .string ⟨#[100]⟩] W
  clear hE
  go_enter Tryz.func5, Tryz.ntmps5
  go_wp2_with fail
  refine HE.out.mono ?_; rintro e w1 ⟨a, K1, rfl, hO1, hK1, hb1⟩
  clear HE
  have hb2 : Below w1.heap.size w1 (w1.alloc (.cells #[.int .i64 1, .string ⟨#[97]⟩, .int .i64 2, .string ⟨#[98]⟩, .int .i64 9, .string ⟨#[99]⟩] 60)) := (Below.refl _ _).alloc (Nat.le_refl _) _
  have hO2 := hO1.below hb2
  have HBu := Lib.hid (ptbuild_any hO2 dvA (some ⟨w1.heap.size, 0, none⟩) 3 (row_three w1 K1 ⟨1, [97]⟩ ⟨2, [98]⟩ ⟨9, [99]⟩) (by decide) (by decide))
  have HB2 := Lib.hid (hb1.trans (hb2.mono hb1.size))
  clear hO1 hK1 hb1 hb2 hO2
  rw [dvB1] at HBu
  go_wp2_with fail
  refine HBu.out.mono ?_; rintro e w3 ⟨K3, rfl, hl3⟩
  obtain ⟨hO3, hb3⟩ := lf9_up hl3 HB2.out
  have hb4 : Below w3.heap.size w3 (w3.alloc (.cells #[.int .i64 2, .string ⟨#[98]⟩, .int .i64 9, .string ⟨#[100]⟩, .int .i64 7, .string ⟨#[101]⟩] 60)) := (Below.refl _ _).alloc (Nat.le_refl _) _
  have hO4 := hO3.below hb4
  have HBv := Lib.hid (ptbuild_any hO4 dvB (some ⟨w3.heap.size, 0, none⟩) 3 (row_three w3 K3 ⟨2, [98]⟩ ⟨9, [100]⟩ ⟨7, [101]⟩) (by decide) (by decide))
  have HB4 := Lib.hid (hb3.trans (hb4.mono hO3.base))
  clear hl3 hO3 hb3 hb4 hO4 HBu HB2
  rw [show (dvS1, (4 : Int), 0).1 = dvS1 from rfl, dvB2] at HBv
  go_wp2_with fail
  refine HBv.out.mono ?_; rintro e w5 ⟨K5, rfl, hl5⟩
  obtain ⟨hO5, hb5⟩ := lf9_up hl5 HB4.out
  have HOf := Lib.hid (pdOf_any 1024 rfl hO5 4 7 (by decide) (by decide))
  have HO5 := Lib.hid hO5
  have HB5 := Lib.hid hb5
  clear hl5 hO5 hb5 HBv HB4
  rw [show (dvS2, (7 : Int), 0).1 = dvS2 from rfl, dvOf] at HOf
  unfold DofP at HOf
  go_wp2_with fail
  refine HOf.out.mono ?_; rintro e w6 ⟨O, co, rfl, hco, hr6, hb6⟩
  have hO6 := HO5.out.below hb6
  have hco : 3 ≤ co := hco
  have hr6' : RowC w6 (fun g => K5 g ∨ (w5.heap.size ≤ g ∧ g < w6.heap.size)) O dvC := hr6.mono fun g hg hl => .inr ⟨hg, hl⟩
  have HAp : Hid (Calls Tryz.prog 17 #[.pointer (some ⟨a, 0, none⟩), .int .i64 4, .slice O 3 co] w6 fun e w' => TPutQ w6 w.heap.size a 30 dvS2 (fun g => K5 g ∨ (w5.heap.size ≤ g ∧ g < w6.heap.size)) (pAplR 30 dvS2 4 dvC) e w') := Lib.hid (pdapply_any hO6 4 (by decide) dvC O co hr6' (by decide) (by decide))
  have HR6 := Lib.hid hr6'
  have HB6 := Lib.hid (HB5.out.trans (hb6.mono HO5.out.base))
  clear hr6 hr6' hO6 hb6 HO5 HB5 HOf
  rw [dvAp1] at HAp
  rw [show (dvC, (0 : Int)).1.length = 3 from rfl]
  go_wp2_with fail
  refine HAp.out.mono ?_; rintro e w7 ⟨K7, rfl, hl7⟩
  have hr7 := (HR6.out.kept hl7.2.2.1).mono (Q := K7) fun g hg _ => hl7.2.1 g hg
  obtain ⟨hO7, hb7⟩ := lf9_up hl7 HB6.out
  have HA2 : Hid (Calls Tryz.prog 17 #[.pointer (some ⟨a, 0, none⟩), .int .i64 7, .slice O 3 co] w7 fun e w' => TPutQ w7 w.heap.size a 30 dvS2 K7 (pAplR 30 dvS2 7 dvC) e w') := Lib.hid (pdapply_any hO7 7 (by decide) dvC O co hr7 (by decide) (by decide))
  have HR7 := Lib.hid hr7
  have HB7 := Lib.hid hb7
  clear hr7 hl7 hO7 hb7 HR6 HB6 HAp
  rw [dvAp2] at HA2
  go_wp2_with fail
  refine HA2.out.mono ?_; rintro e w8 ⟨K8, rfl, hl8⟩
  have hr8 := HR7.out.kept hl8.2.2.1
  obtain ⟨hO8, hb8⟩ := lf9_up hl8 HB7.out
  obtain ⟨g, o, rfl, _, hgl, hat⟩ := hr8.at (i := 0) (by decide)
  obtain ⟨q0, q1, q2⟩ := hat.three (i := 0) (x := ⟨1, [97], []⟩) rfl
  obtain ⟨q3, q4, q5⟩ := hat.three (i := 1) (x := ⟨7, [], [101]⟩) rfl
  obtain ⟨q6, q7, q8⟩ := hat.three (i := 2) (x := ⟨9, [99], [100]⟩) rfl
  have p0 : w8.cell? ⟨g, o, none⟩ = some (.int .i64 1) := q0
  have p1 : w8.cell? ⟨g, o + 1, none⟩ = some (.string ⟨#[97]⟩) := q1
  have p2 : w8.cell? ⟨g, o + 2, none⟩ = some (.string ⟨#[]⟩) := q2
  have p3 : w8.cell? ⟨g, o + 3, none⟩ = some (.int .i64 7) := q3
  have p4 : w8.cell? ⟨g, o + 3 + 1, none⟩ = some (.string ⟨#[]⟩) := q4
  have p5 : w8.cell? ⟨g, o + 3 + 2, none⟩ = some (.string ⟨#[101]⟩) := q5
  have p6 : w8.cell? ⟨g, o + 6, none⟩ = some (.int .i64 9) := q6
  have p7 : w8.cell? ⟨g, o + 6 + 1, none⟩ = some (.string ⟨#[99]⟩) := q7
  have p8 : w8.cell? ⟨g, o + 6 + 2, none⟩ = some (.string ⟨#[100]⟩) := q8
  clear q0 q1 q2 q3 q4 q5 q6 q7 q8
  have HSh := Lib.hid (pdshared_any hO8 4 7 (by decide) (by decide))
  have HB8 := Lib.hid hb8
  have HZ8 := Lib.hid hO8.base
  clear hl8 hO8 hb8 HA2 HB7 HR7 hr8 hat
  rw [show (dvS2, (0 : Int), 7).1 = dvS2 from rfl, dvSh] at HSh
  go_wp2_with fail
  refine HSh.out.mono ?_; rintro e w9 ⟨rfl, hb9⟩
  have HBx := Lib.hid (HB8.out.trans (hb9.mono HZ8.out))
  clear hb9 HSh HB8 p0 p1 p2 p3 p4 p5 p6 p7 p8
  go_wp2_with fail
  go_ret
  exact ⟨rfl, HBx.out⟩
end Go.Proofs.YtjgjacihdggimaaGreatDoor
namespace Go.Proofs.YtjgjacihdggimaaGreatDoor
open Go.RowKit
theorem both_leD {l m : List Int} (hl : l.length ≤ 1000000) (hm : m.length ≤ 1000000) {i k : Nat} {x : Int} : bothC (l.take i) m + (m.take k).count x ≤ 2000000000000 := by
  have h1 := both_len (l.take i) m
  have h2 : (l.take i).length * m.length ≤ 1000000 * 1000000 := Nat.mul_le_mul (by rw [List.length_take]; omega) hm
  have h3 : (m.take k).count x ≤ (m.take k).length := List.count_le_length
  have h4 : (m.take k).length ≤ m.length := by rw [List.length_take]; omega
  omega
section
variable {w w' : World} {P : Nat → Prop} {m gN cN gB cB room : Nat} {nds : List Nd} {bs : List Bool}
set_option maxHeartbeats 16000000 in
set_option maxRecDepth 10000 in
theorem rDshared_any (h : RM w P m gN cN gB cB room nds bs) (hi : Inv room (stOf nds bs)) (hft : FitT (stOf nds bs)) (x y : Int) :
    Calls Tryz.prog 16 #[.pointer (some ⟨m, 0, none⟩), .int .i64 x, .int .i64 y] w fun e w' => e = .returned (.int .i64 (shR (stOf nds bs) x y : Nat)) ∧ Below w.heap.size w w' := by
  have HX := Lib.hid (rhasE_any h hi hft x)
  have HY := Lib.hid (fun (w1 : World) (hb : Below w.heap.size w w1) => rhasE_any (h.below hb) hi hft y)
  have HRe := Lib.hid (fun (W2 : World) (hb : Below w.heap.size w W2) (z : Int) => rReach_any (h.below (hb.trans (((Below.refl W2.heap.size W2).alloc (Nat.le_refl _) (.cells #[.int .i64 z] 3)).mono hb.size))) hi [z] (some ⟨W2.heap.size, 0, none⟩) 1 (Q := fun _ => True) (rowI_lit (heap_alloc_new W2 (.cells #[.int .i64 z] 3)) rfl trivial) (by simp))
  have HNo := Lib.hid (fun e => shR_no (s := stOf nds bs) (x := x) (y := y) e)
  have HYes := Lib.hid (fun e1 e2 => shR_yes (s := stOf nds bs) (x := x) (y := y) e1 e2)
  have hsm := h.small
  have HLx := Lib.hid (reach_len hi hsm [x])
  have HLy := Lib.hid (reach_len hi hsm [y])
  clear h hft hsm
  unfold BelP at HX HY
  generalize shR (stOf nds bs) x y = SR at *
  cases hx : hasT (stOf nds bs) x with
  | none =>
    rw [hx] at HX HNo
    have HE := Lib.hid (HNo.out (.inl rfl))
    clear HNo HYes HRe hx
    go_enter Tryz.func16, Tryz.ntmps16
    go_wp2_with fail
    refine HX.out.mono ?_; rintro e w1 ⟨O1, c1, rfl, hc1, hr1, hb1⟩
    have HB1 := Lib.hid hb1
    have HYc := Lib.hid (HY.out _ hb1)
    clear hc1 hr1 hb1
    go_wp2_with fail
    refine HYc.out.mono ?_; rintro e w2 ⟨O2, c2, rfl, hc2, hr2, hb2⟩
    have HB2 := Lib.hid (HB1.out.trans (hb2.mono HB1.out.size))
    clear hc2 hr2 hb2
    go_wp2_with fail
    go_ret
    exact ⟨by rw [HE.out]; rfl, HB2.out⟩
  | some l =>
    cases hy : hasT (stOf nds bs) y with
    | none =>
      rw [hx, hy] at HNo
      rw [hx] at HX
      rw [hy] at HY
      have HE := Lib.hid (HNo.out (.inr rfl))
      clear HNo HYes HRe hx hy
      go_enter Tryz.func16, Tryz.ntmps16
      go_wp2_with fail
      refine HX.out.mono ?_; rintro e w1 ⟨O1, c1, rfl, hc1, hr1, hb1⟩
      have HB1 := Lib.hid hb1
      have HYc := Lib.hid (HY.out _ hb1)
      clear hc1 hr1 hb1
      go_wp2_with fail
      refine HYc.out.mono ?_; rintro e w2 ⟨O2, c2, rfl, hc2, hr2, hb2⟩
      have HB2 := Lib.hid (HB1.out.trans (hb2.mono HB1.out.size))
      clear hc2 hr2 hb2
      go_wp2_with fail
      go_ret
      exact ⟨by rw [HE.out]; rfl, HB2.out⟩
    | some m2 =>
      rw [hx, hy] at HYes
      rw [hx] at HX
      rw [hy] at HY
      have HE := Lib.hid (HYes.out rfl rfl)
      clear HNo HYes hx hy
      go_enter Tryz.func16, Tryz.ntmps16
      go_wp2_with fail
      refine HX.out.mono ?_; rintro e w1 ⟨O1, c1, rfl, hc1, hr1, hb1⟩
      have HB1 := Lib.hid hb1
      have HYc := Lib.hid (HY.out _ hb1)
      clear hc1 hr1 hb1
      go_wp2_with fail
      refine HYc.out.mono ?_; rintro e w2 ⟨O2, c2, rfl, hc2, hr2, hb2⟩
      have HB2 := Lib.hid (HB1.out.trans (hb2.mono HB1.out.size))
      have HC := Lib.hid (HRe.out w2 HB2.out x)
      have hba : Below w2.heap.size w2 (w2.alloc (.cells #[.int .i64 x] 3)) := (Below.refl _ _).alloc (Nat.le_refl _) _
      have HBa := Lib.hid hba
      clear hc2 hr2 hb2 hba HX HY HYc
      go_wp2_with fail
      refine HC.out.mono ?_; rintro e w3 ⟨O3, c3, rfl, hr3, hb3⟩
      have hb23 := HBa.out.trans (hb3.mono HBa.out.size)
      have HB3 := Lib.hid (HB2.out.trans (hb23.mono HB2.out.size))
      have HR3 := Lib.hid hr3
      have HC4 := Lib.hid (HRe.out w3 HB3.out y)
      have hbd : Below w3.heap.size w3 (w3.alloc (.cells #[.int .i64 y] 3)) := (Below.refl _ _).alloc (Nat.le_refl _) _
      have HBd := Lib.hid hbd
      clear hr3 hb3 hb23 hbd HC HBa HRe
      go_wp2_with fail
      refine HC4.out.mono ?_; rintro e w4 ⟨O4, c4, rfl, hr4, hb4⟩
      have hb34 := HBd.out.trans (hb4.mono HBd.out.size)
      have HB4 := Lib.hid (HB3.out.trans (hb34.mono HB3.out.size))
      have HR34 := Lib.hid (HR3.out.below hb34)
      have HR4 := Lib.hid hr4
      have hlx := HLx.out
      have hly := HLy.out
      clear hr4 hb4 hb34 HC4 HBd HR3
      generalize reachA (stOf nds bs) [x] = LX at *
      generalize reachA (stOf nds bs) [y] = LY at *
      have HLe := Lib.hid (fun i k z => both_leD (l := LX) (m := LY) (i := i) (k := k) (x := z) (by omega) (by omega))
      go_wp2_with fail
      go_loopw [13, 14] (fun vn vi wr => ∃ (i N : Nat), i ≤ LX.length ∧ vi = .int .i64 (i : Int) ∧ vn = .int .i64 (N : Int) ∧ Hid (N = bothC (LX.take i) LY) ∧ Hid (Below w4.heap.size w4 wr)) (fun _ vi _ => LX.length - (RowKit.intOf vi).toNat)
      case atStart => exact ⟨0, 0, Nat.zero_le _, rfl, rfl, Lib.hid rfl, Lib.hid (Below.refl _ _)⟩
      case round =>
        obtain ⟨i, N, hi, rfl, rfl, HN, HBw⟩ := hrel
        by_cases hlt : i < LX.length
        · obtain ⟨z, hz⟩ : ∃ z, LX[i]? = some z := ⟨_, List.getElem?_eq_getElem hlt⟩
          have HZ := Lib.hid hz
          have HN0 : Hid (N = bothC (LX.take i) LY + (LY.take 0).count z) := Lib.hid (by rw [List.take_zero]; exact HN.out)
          have hI : (i : Int) < (LX.length : Int) := by omega
          have hJ : (0 : Int) ≤ (i : Int) := by omega
          clear hz HN
          go_wp2_with fail
          go_loopw [13, 15] (fun vn vk wr => ∃ (k N : Nat), k ≤ LY.length ∧ vk = .int .i64 (k : Int) ∧ vn = .int .i64 (N : Int) ∧ Hid (N = bothC (LX.take i) LY + (LY.take k).count z) ∧ Hid (Below w4.heap.size w4 wr)) (fun _ vk _ => LY.length - (RowKit.intOf vk).toNat)
          case atStart => exact ⟨0, N, Nat.zero_le _, rfl, rfl, HN0, HBw⟩
          case round =>
            clear HN0 HBw
            obtain ⟨k, N, hk, rfl, rfl, HN, HBw⟩ := hrel
            have hN9 : N ≤ 2000000000000 := by rw [HN.out]; exact HLe.out i k z
            by_cases hkl : k < LY.length
            · obtain ⟨v, hv⟩ : ∃ v, LY[k]? = some v := ⟨_, List.getElem?_eq_getElem hkl⟩
              obtain ⟨g1, o1, rfl, _, _, hat1⟩ := HR34.out.at hlt
              obtain ⟨g2, o2, rfl, _, _, hat2⟩ := HR4.out.at hkl
              have q1 := keep_cell HBw.out (hat1 i z HZ.out)
              have q2 := keep_cell HBw.out (hat2 k v hv)
              have hkI : (k : Int) < (LY.length : Int) := by omega
              have hkJ : (0 : Int) ≤ (k : Int) := by omega
              have HCn := Lib.hid (count_next (x := z) hv)
              clear hat1 hat2 hv
              by_cases e : z = v
              · subst e
                have HN2 : Hid (N + 1 = bothC (LX.take i) LY + (LY.take (k + 1)).count z) := Lib.hid (by have := HN.out; rw [HCn.out, if_pos rfl]; omega)
                clear HN HCn
                go_wp2_with fail
                go_quiet (fail)
                go_wp2_with fail
                go_roundw
                case rel => exact ⟨k + 1, N + 1, by omega, by go_num, by go_num, HN2, Lib.hid (by first | exact below_drewN HBw.out _ | exact HBw.out)⟩
                case measure => simp [RowKit.intOf]; omega
              · have d0 : (z == v) = false := by simpa using e
                have HN2 : Hid (N = bothC (LX.take i) LY + (LY.take (k + 1)).count z) := Lib.hid (by have := HN.out; rw [HCn.out, if_neg e]; omega)
                clear HN HCn e
                go_wp2_with fail
                go_quiet (fail)
                go_wp2_with fail
                go_roundw
                case rel => exact ⟨k + 1, N, by omega, by go_num, rfl, HN2, Lib.hid (by first | exact below_drewN HBw.out _ | exact HBw.out)⟩
                case measure => simp [RowKit.intOf]; omega
            · have hkk : k = LY.length := by omega
              subst hkk
              have HN3 : Hid (N = bothC (LX.take (i + 1)) LY) := Lib.hid (by have := HN.out; rw [List.take_length] at this; rw [both_next HZ.out]; exact this)
              clear HN
              go_wp2_with fail
              go_roundw
              case rel => exact ⟨i + 1, N, by omega, by go_num, rfl, HN3, HBw⟩
              case measure => simp [RowKit.intOf]; omega
        · have hii : i = LX.length := by omega
          subst hii
          have hn := HN.out
          rw [List.take_length] at hn
          have HN2 := Lib.hid hn
          have HBz := Lib.hid (HB4.out.trans (HBw.out.mono HB4.out.size))
          clear hn HN
          go_wp2_with fail
          go_ret
          exact ⟨by rw [HE.out, ← HN2.out]; rfl, HBz.out⟩
end
end Go.Proofs.YtjgjacihdggimaaGreatDoor
namespace Go.Proofs.YtjgjacihdggimaaGreatDoor
open Go.RowKit
theorem rch_info : (Tryz.prog.info? 84).map (fun i => (i.zero, i.size, i.bytes)) = some (some (.agg #[.int .i64 0, .string ⟨#[]⟩, .string ⟨#[]⟩]), 3, 40) := by kernel_rfl
set_option maxHeartbeats 4000000 in
set_option maxRecDepth 10000 in
theorem rcright_any (c : Ch) (w : World) (hl : c.fr.length ≤ maxLen) (hm : c.tt.length ≤ maxLen) : Calls Tryz.prog 42 #[.agg #[.int .i64 c.key, .string ⟨c.fr.toArray⟩, .string ⟨c.tt.toArray⟩]] w fun e w' => e = .returned (.bool (okC c)) ∧ Below w.heap.size w w' := by
  obtain ⟨k, s, t⟩ := c
  have hba : Below w.heap.size w (w.alloc (.cells #[.int .i64 k, .string ⟨s.toArray⟩, .string ⟨t.toArray⟩] 84)) := (Below.refl _ _).alloc (Nat.le_refl _) _
  have HB := Lib.hid hba
  clear hba
  have hl : s.length ≤ maxLen := hl
  have hm : t.length ≤ maxLen := hm
  have HR : Hid (okC ⟨k, s, t⟩ = (decide (0 ≤ k) && (decide (k ≤ 1023) && (decide ((s.length : Int) ≤ 200) && (decide ((t.length : Int) ≤ 200) && !decide (s = t)))))) := Lib.hid (by
    unfold okC
    show (decide (0 ≤ k) && (decide (k ≤ 1023) && (decide (s.length ≤ 200) && (decide (t.length ≤ 200) && !decide (s = t))))) = _
    rw [show decide (s.length ≤ 200) = decide ((s.length : Int) ≤ 200) from decide_eq_decide.2 (by omega), show decide (t.length ≤ 200) = decide ((t.length : Int) ≤ 200) from decide_eq_decide.2 (by omega)])
  cases h0 : decide (0 ≤ k) with
  | false =>
    rw [h0] at HR
    go_enter Tryz.func42, Tryz.ntmps42
    go_wp2_with fail
    go_ret
    exact ⟨by rw [HR.out]; rfl, HB.out⟩
  | true =>
    cases h1 : decide (k ≤ 1023) with
    | false =>
      rw [h0, h1] at HR
      go_enter Tryz.func42, Tryz.ntmps42
      go_wp2_with fail
      go_ret
      exact ⟨by rw [HR.out]; rfl, HB.out⟩
    | true =>
      cases h2 : decide ((s.length : Int) ≤ 200) with
      | false =>
        rw [h0, h1, h2] at HR
        go_enter Tryz.func42, Tryz.ntmps42
        go_wp2_with fail
        go_ret
        exact ⟨by rw [HR.out]; rfl, HB.out⟩
      | true =>
        cases h3 : decide ((t.length : Int) ≤ 200) with
        | false =>
          rw [h0, h1, h2, h3] at HR
          go_enter Tryz.func42, Tryz.ntmps42
          go_wp2_with fail
          go_ret
          exact ⟨by rw [HR.out]; rfl, HB.out⟩
        | true =>
          rw [h0, h1, h2, h3] at HR
          by_cases h4 : s = t
          · subst h4
            rw [decide_eq_true rfl] at HR
            go_enter Tryz.func42, Tryz.ntmps42
            go_wp2_with fail
            go_ret
            exact ⟨by rw [HR.out]; simp, HB.out⟩
          · rw [decide_eq_false h4] at HR
            go_enter Tryz.func42, Tryz.ntmps42
            go_wp2_with fail
            go_ret
            exact ⟨by rw [HR.out]; simp [h4], HB.out⟩
set_option maxHeartbeats 8000000 in
set_option maxRecDepth 10000 in
theorem ldof_any (l : List Ch) (A : Option Addr) (ca : Nat) (w : World) {Q : Nat → Prop} (hl : RowC w Q A l) (hll : l.length ≤ 1000000) :
    Calls Tryz.prog 14 #[.slice A l.length ca] w fun e w' => ∃ O co, e = .returned (.slice O l.length co) ∧ l.length ≤ co ∧ RowC w' (fun g => w.heap.size ≤ g) O l ∧ Below w.heap.size w w' := by
  obtain ⟨i0, hi0, hz0, hz1, hz2⟩ := info_parts rch_info
  have HL := Lib.hid hl
  clear hl
  go_enter Tryz.func14, Tryz.ntmps14
  go_wp2_with fail
  go_loopw [3, 4] (fun v vi wr => ∃ (i : Nat), i ≤ l.length ∧ vi = .int .i64 (i : Int) ∧ Hid (OwnR 84 3 chW w.heap.size wr v (l.take i)) ∧ Below w.heap.size w wr) (fun _ vi _ => l.length - (RowKit.intOf vi).toNat)
  case atStart => exact ⟨0, Nat.zero_le _, rfl, Lib.hid (by rw [List.take_zero]; exact World.ownsRow_nil _ _ _ _), Below.refl _ _⟩
  case round =>
    obtain ⟨i, hi, rfl, HO, hb⟩ := hrel
    by_cases hlt : i < l.length
    · obtain ⟨x, hx⟩ : ∃ x, l[i]? = some x := ⟨_, List.getElem?_eq_getElem hlt⟩
      obtain ⟨g, o, rfl, _, hgl, hat⟩ := HL.out.at hlt
      obtain ⟨q0, q1, q2⟩ := hat.three hx
      have k0 := keep_cell hb q0
      have k1 := keep_cell hb q1
      have k2 := keep_cell hb q2
      have hI : (i : Int) < (l.length : Int) := by omega
      have hbs := hb.size
      have hsp : l.take (i + 1) = l.take i ++ [x] := by rw [List.take_add_one, hx]; rfl
      have HE := Lib.hid hsp
      have hlen : (l.take i).length = i := by rw [List.length_take]; omega
      have HLn := Lib.hid hlen
      obtain ⟨kx, tx, ux⟩ := x
      clear hat q0 q1 q2 hx hsp hlen
      have HB := Lib.hid hb
      have hge : w.heap.size ≤ (wr.alloc (.cells (chW ⟨kx, tx, ux⟩).toArray 84)).heap.size := by simp; omega
      clear hb
      go_wp2_with fail
      go_region_law (first
        | (refine step_append_rows (f := chW) (n := 3) (E := 84) (nb := 40) (X := l.take i) (base := w.heap.size) (by rfl) _ _ (by rfl) (by rfl) (OwnR.below HO.out (by with_reducible repeat' (first | exact Below.refl _ _ | exact Nat.le_refl _ | refine Below.drew ?_ | refine Below.alloc ?_ ?_ _))) (L2 := [(⟨kx, tx, ux⟩ : Ch)]) (by rfl) (by first | exact one_row _ (⟨kx, tx, ux⟩ : Ch) | exact one_row _ _) (by simp) (N := i + 1) (by rw [HLn.out]; rfl) (Z := l.take (i + 1)) HE.out.symm Tryz.underlying39 hi0 hz0 hz1 hz2 (by rfl) (by decide) (by decide) (fun _ => rfl) chW_one (by first | omega | (simp; omega)) (by first | omega | (simp; done) | (simp; omega)) ?_; intro g4 k4 w4 ho4 hg4 hat4 hl4
           have hb4 : Below w.heap.size w w4 := HB.out.trans (Below.grown (by with_reducible repeat' (first | exact Below.refl _ _ | exact Nat.le_refl _ | exact hbs | refine Below.drew ?_ | refine Below.alloc ?_ ?_ _)) hg4 (by first | omega | (simp; done) | (simp; omega)) (fun k hk => (World.ownsRow.lt HO.out k hk).1))
           have HO4 := Lib.hid ho4
           clear ho4 hg4 hat4 hl4)
        | fail)
      all_goals
        go_wp2_with fail
        go_roundw
        case rel => exact ⟨i + 1, by omega, by go_num, HO4, hb4⟩
        case measure => simp [RowKit.intOf]; omega
    · have hii : i = l.length := by omega
      subst hii
      have hO := HO.out
      rw [List.take_length] at hO
      obtain ⟨O, co, hv, hc, hr⟩ := own_rowC hO
      subst hv
      have HR := Lib.hid hr
      clear hr hO
      go_wp2_with fail
      go_ret
      exact ⟨O, co, rfl, hc, HR.out, hb⟩
end Go.Proofs.YtjgjacihdggimaaGreatDoor
namespace Go.Proofs.YtjgjacihdggimaaGreatDoor
open Go.RowKit
theorem rgetX_any (l : List En) (A : Option Addr) (ca : Nat) (w : World) {Q : Nat → Prop} (hl : RowE w Q A l) (hll : l.length ≤ 1000000) (k : Int) :
    Calls Tryz.prog 43 #[.slice A l.length ca, .int .i64 k] w fun e w' => (∃ b, e = .returned (.tuple #[.string ⟨(txE l k).toArray⟩, .bool b])) ∧ w' = w :=
  (rgetE_any l A ca w hl hll k).mono fun _ _ ⟨a, b⟩ => ⟨⟨_, a⟩, b⟩
set_option maxHeartbeats 8000000 in
set_option maxRecDepth 10000 in
theorem rbetween_any (N : Nat) (hN : N = 1024) (l m : List En) (A C : Option Addr) (ca cb : Nat) (w : World) {Q R : Nat → Prop} (hl : RowE w Q A l) (hm : RowE w R C m) (hll : l.length ≤ 1000000) (hml : m.length ≤ 1000000) :
    Calls Tryz.prog 33 #[.slice A l.length ca, .slice C m.length cb] w fun e w' => ∃ O co, e = .returned (.slice O (chN l m N).length co) ∧ OwnR 84 3 chW w.heap.size w' (.slice O (chN l m N).length co) (chN l m N) ∧ Below w.heap.size w w' := by
  obtain ⟨i0, hi0, hz0, hz1, hz2⟩ := info_parts rch_info
  have HG1 := Lib.hid (fun w' (hb : Below w.heap.size w w') k => rgetX_any l A ca w' (hl.below hb) hll k)
  have HG2 := Lib.hid (fun w' (hb : Below w.heap.size w w') k => rgetX_any m C cb w' (hm.below hb) hml k)
  clear hl hm
  go_enter Tryz.func33, Tryz.ntmps33
  go_wp2_with fail
  go_loopw [5, 6] (fun v vi wr => ∃ n : Nat, n ≤ N ∧ vi = .int .i64 (n : Int) ∧ Hid (OwnR 84 3 chW w.heap.size wr v (chN l m n)) ∧ Below w.heap.size w wr) (fun _ vi _ => N - (RowKit.intOf vi).toNat)
  case atStart => exact ⟨0, Nat.zero_le _, rfl, Lib.hid (by rw [chN]; exact World.ownsRow_nil _ _ _ _), Below.refl _ _⟩
  case round =>
    obtain ⟨n, hn, rfl, HO, hb⟩ := hrel
    have hbs := hb.size
    have hlen := chN_len (l := l) (m := m) n
    by_cases hlt : n < N
    · have d1 : decide ((n : Int) ≤ 1023) = true := decide_eq_true (by omega)
      have HB := Lib.hid hb
      obtain ⟨NN, hNN⟩ : ∃ NN, (chN l m n).length = NN := ⟨_, rfl⟩
      rw [hNN] at hlen
      have HNN := Lib.hid hNN
      clear hNN
      by_cases he : txE l (n : Int) = txE m (n : Int)
      · have hE := chN_next_no he
        rw [← hE] at HO
        have HEq := Lib.hid he
        clear hE he
        go_wp2_with fail
        refine (HG1.out _ HB.out _).mono ?_; rintro e w1 ⟨⟨b1, rfl⟩, rfl⟩
        go_wp2_with fail
        refine (HG2.out _ HB.out _).mono ?_; rintro e w2 ⟨⟨b2, rfl⟩, rfl⟩
        rw [HEq.out]
        go_wp2_with fail
        go_roundw
        case rel => exact ⟨n + 1, by omega, by go_num, HO, hb⟩
        case measure => simp [RowKit.intOf]; omega
      · have HE2 := Lib.hid (chN_next_yes he)
        have d2 : (!txE l (n : Int) == txE m (n : Int)) = true := by simpa using he
        have HGa := Lib.hid (HG1.out _ HB.out (n : Int))
        have HGb := Lib.hid (HG2.out _ HB.out (n : Int))
        clear HG1 HG2
        generalize txE l (n : Int) = S at *
        generalize txE m (n : Int) = T at *
        have b0 : Below w.heap.size wr (wr.alloc (.cells (chW ⟨(n : Int), S, T⟩).toArray 84)) := (Below.refl _ _).alloc hbs _
        clear he
        go_wp2_with fail
        refine HGa.out.mono ?_; rintro e w1 ⟨⟨b1, rfl⟩, rfl⟩
        go_wp2_with fail
        refine HGb.out.mono ?_; rintro e w2 ⟨⟨b2, rfl⟩, rfl⟩
        go_wp2_with (at_builtin; refine of_stop ?_)
        refine stop_of ?_
        refine wpList_append_rows (f := chW) (n := 3) (E := 84) (nb := 40) (X := chN l m n) (base := w.heap.size) rfl _ _ rfl rfl (OwnR.below HO.out (by first | exact (Below.refl _ _).alloc (Nat.le_refl _) _ | exact ((Below.refl _ _).alloc (Nat.le_refl _) _).drew)) (L2 := [(⟨(n : Int), S, T⟩ : Ch)]) rfl (one_row _ (⟨(n : Int), S, T⟩ : Ch)) (by simp) (N := NN + 1) (by rw [HNN.out]; rfl) (Z := chN l m (n + 1)) HE2.out.symm Tryz.underlying39 hi0 hz0 hz1 hz2 rfl (by decide) (by decide) (fun _ => rfl) chW_one (by omega) (by simp; omega) ?_
        intro g4 k4 w4 ho4 hg4 hat4 hl4
        have hb4 : Below w.heap.size w w4 := hb.trans (Below.grown (by first | exact b0 | exact b0.drew) hg4 (by simp; omega) (fun k hk => (World.ownsRow.lt HO.out k hk).1))
        have HO4 := Lib.hid ho4
        clear ho4 hg4 hat4 hl4
        go_wp2_with fail
        go_roundw
        case rel => exact ⟨n + 1, by omega, by go_num, HO4, hb4⟩
        case measure => simp [RowKit.intOf]; omega
    · have hii : n = N := by omega
      subst hii
      have d1 : decide ((n : Int) ≤ 1023) = false := decide_eq_false (by omega)
      obtain ⟨O, co, hv, _, _⟩ := OwnR.shape (f := chW) (fun _ => rfl) HO.out
      subst hv
      go_wp2_with fail
      go_ret
      exact ⟨O, co, rfl, HO.out, hb⟩
end Go.Proofs.YtjgjacihdggimaaGreatDoor
