/- Texts joined: DfV, DfS, TqMg, DvB, DeB, DeEf, TqK. -/
import Derived.Test.YthfbhinlgoaajaaDoorDj05
import Derived.Test.YthfbhinlgoaajaaDoorDj03
import Derived.Deep.LoopGhost
import Derived.Test.YthfbhinlgoaajaaDoorDj18
import Derived.Test.YthfbhinlgoaajaaDoorDj16
import Derived.Test.YthfbhinlgoaajaaDoorDj11
import Derived.BigGuard
import Derived.Test.YthfbhinlgoaajaaDoorDj04
import Derived.Test.YthfbhinlgoaajaaDoorDj02
import Derived.Test.YthfbhinlgoaajaaDoorDj17
set_option linter.all false
namespace Go.Proofs.YthfbhinlgoaajaaDoor
open Go.RowKit
theorem RowI.head {w : World} {P : Nat → Prop} {A : Option Addr} {m : List Int} {k : Nat} {y : Int} (h : RowI w P A (m.drop k)) (hy : m[k]? = some y) : ∃ g o, A = some ⟨g, o, none⟩ ∧ w.cell? ⟨g, o, none⟩ = some (.int .i64 y) ∧ g < w.heap.size ∧ RowI w P (some ⟨g, o + 1, none⟩) (m.drop (k + 1)) := by
  obtain ⟨hk, e⟩ := List.getElem?_eq_some_iff.1 hy
  rcases h with h | ⟨g, o, rfl, hp, hl, hc⟩
  · rw [List.drop_eq_nil_iff] at h; omega
  · refine ⟨g, o, rfl, ?_, hl, .inr ⟨g, o + 1, rfl, hp, hl, fun i x hi => ?_⟩⟩
    · have := hc 0 y (by rw [List.getElem?_drop]; exact hy)
      exact this
    · have := hc (i + 1) x (by rw [List.getElem?_drop] at hi ⊢; rw [← hi]; congr 1; omega)
      rwa [show o + (i + 1) = o + 1 + i by omega] at this
theorem both_le {l m : List Int} (hl : l.length ≤ 1000000) (hm : m.length ≤ 1000000) {i k : Nat} {x : Int} : bothC (l.take i) m + (m.take k).count x ≤ 2000000000000 := by
  have h1 := both_len (l.take i) m
  have h2 : (l.take i).length * m.length ≤ 1000000 * 1000000 := Nat.mul_le_mul (by rw [List.length_take]; omega) hm
  have h3 : (m.take k).count x ≤ (m.take k).length := List.count_le_length
  have h4 : (m.take k).length ≤ m.length := by rw [List.length_take]; omega
  omega
set_option maxHeartbeats 8000000 in
set_option maxRecDepth 10000 in
theorem pdboth_any (l m : List Int) (hrl : l.Pairwise (· < ·)) (hrm : m.Pairwise (· < ·)) (A C : Option Addr) (ca cb : Nat) (w : World) {Q R : Nat → Prop} (hA : RowI w Q A l) (hC : RowI w R C m) (hcb : m.length ≤ cb) (hll : l.length ≤ 1000000) (hml : m.length ≤ 1000000) :
    Calls Tryd.prog 24 #[.slice A l.length ca, .slice C m.length cb] w fun e w' => e = .returned (.int .i64 (bothC l m : Nat)) ∧ w' = w := by
  have HA := Lib.hid hA
  have HLe := Lib.hid (fun i k x => both_le (l := l) (m := m) (i := i) (k := k) (x := x) hll hml)
  have HEnd := Lib.hid (fun i k x => both_end (l := l) (m := m) (i := i) (k := k) (x := x) hrm)
  have HAh := Lib.hid (fun i k x => noB_ah (l := l) (m := m) (i := i) (k := k) (x := x) hrl)
  have H0 : Hid (RowI w R C (m.drop 0) ∧ (0 : Nat) = bothC (l.take 0) m ∧ AhB l m 0 0) := Lib.hid ⟨by rw [List.drop_zero]; exact hC, rfl, ahB_zero l m⟩
  clear hA hC hrl hrm
  go_enter Tryd.func24, Tryd.ntmps24
  go_wp2_with fail
  go_step3
  go_wp2_with fail
  go_step3
  go_wp2_with fail
  go_loopg [1, 5, 10] l.length (fun gk vm vn vi wr => ∃ (i k ML N : Nat) (C : Option Addr) (cm : Nat), i + gk = l.length ∧ vi = .int .i64 (i : Int) ∧ k + ML = m.length ∧ vm = .slice C ML cm ∧ vn = .int .i64 (N : Int) ∧ ML ≤ cm ∧ Hid (RowI w R C (m.drop k)) ∧ Hid (N = bothC (l.take i) m) ∧ Hid (AhB l m i k) ∧ wr = w)
  case atStart => exact ⟨0, 0, m.length, 0, C, cb, by omega, rfl, by omega, rfl, rfl, hcb, Lib.hid H0.out.1, Lib.hid H0.out.2.1, Lib.hid H0.out.2.2, rfl⟩
  case round =>
    obtain ⟨i, k0, ML0, N0, C0, cm0, hig, rfl, hkm0, rfl, rfl, hcm0, HR0, HN0, HA0, hw0⟩ := hrel
    have hw1 := hw0.symm
    subst hw1
    clear H0
    cases gk with
    | zero =>
      have hii : i = l.length := by omega
      subst hii
      have hn := HN0.out
      rw [List.take_length] at hn
      have HN := Lib.hid hn
      clear hn HN0 HA0 HR0
      go_wp2_with fail
      try rw [Exit.noGoto_ret]
      go_ret
      exact ⟨by rw [HN.out]; rfl, rfl⟩
    | succ g1 =>
      have hlt : i < l.length := by omega
      obtain ⟨x, hx⟩ : ∃ x, l[i]? = some x := ⟨_, List.getElem?_eq_getElem hlt⟩
      obtain ⟨g, o, rfl, _, hgl, hat⟩ := HA.out.at hlt
      have q0 := hat i x hx
      have hI : (i : Int) < (l.length : Int) := by omega
      have hJ : (0 : Int) ≤ (i : Int) := by omega
      have HX := Lib.hid hx
      have HNo := Lib.hid (ahB_no HA0.out hx)
      have HN1 : Hid (N0 = bothC (l.take i) m + (m.take k0).count x) := Lib.hid (by rw [cnt_ah HA0.out hx]; exact HN0.out)
      clear hat hx HN0 HA0
      go_wp2_with fail
      go_loopg [1, 5] ML0 (fun gk vm vn wr => ∃ (k N : Nat) (C : Option Addr) (cm : Nat), k + gk = m.length ∧ vm = .slice C gk cm ∧ vn = .int .i64 (N : Int) ∧ gk ≤ cm ∧ Hid (RowI w R C (m.drop k)) ∧ Hid (N = bothC (l.take i) m + (m.take k).count x) ∧ Hid (NoB m x k) ∧ wr = w)
      case atStart => exact ⟨k0, N0, C0, cm0, hkm0, rfl, rfl, hcm0, HR0, HN1, HNo, rfl⟩
      case round =>
        clear HR0 HN1 HNo hkm0 hcm0
        obtain ⟨k, N, C1, cm, hkm, rfl, rfl, hcm1, HR, HN, HB, hw0⟩ := hrel
        have hw1 := hw0.symm
        subst hw1
        have hN9 : N ≤ 2000000000000 := by rw [HN.out]; exact HLe.out i k x
        cases gk with
        | zero =>
          have HN2 : Hid (N = bothC (l.take (i + 1)) m) := Lib.hid (by rw [HN.out]; exact HEnd.out i k x HX.out (fun y hy => by have := (List.getElem?_eq_some_iff.1 hy).1; omega))
          have HA2 := Lib.hid (HAh.out i k x HX.out HB.out)
          clear HN HB
          go_wp2_with fail
          go_roundg g1
          case rel => exact ⟨i + 1, k, 0, N, _, cm, by omega, by go_num, hkm, rfl, rfl, hcm1, HR, HN2, HA2, rfl⟩
          case measure => omega
        | succ g2 =>
          obtain ⟨y, hy⟩ : ∃ y, m[k]? = some y := ⟨_, List.getElem?_eq_getElem (by omega)⟩
          obtain ⟨gm, om, rfl, p0, hgm, hR2⟩ := HR.out.head hy
          have HR2 := Lib.hid hR2
          have hz : (0 : Int) < ((g2 + 1 : Nat) : Int) := by omega
          by_cases h1 : x < y
          · have d1 : decide (x < y) = true := decide_eq_true h1
            have HN2 : Hid (N = bothC (l.take (i + 1)) m) := Lib.hid (by rw [HN.out]; exact HEnd.out i k x HX.out (fun y' hy' => by rw [hy] at hy'; cases hy'; exact h1))
            have HA2 := Lib.hid (HAh.out i k x HX.out HB.out)
            clear HN HB hR2 hy h1
            go_wp2_with fail
            go_roundg g1
            case rel => exact ⟨i + 1, k, g2 + 1, N, _, cm, by omega, by go_num, by omega, rfl, rfl, hcm1, HR, HN2, HA2, rfl⟩
            case measure => omega
          · have d1 : decide (x < y) = false := decide_eq_false h1
            have HB2 := Lib.hid (noB_next HB.out hy (by omega))
            by_cases h2 : x = y
            · have d2 : (y == x) = true := by rw [h2]; simp
              have HN2 : Hid (N + 1 = bothC (l.take i) m + (m.take (k + 1)).count x) := Lib.hid (by rw [HN.out, cnt_yes (h2 ▸ hy)]; omega)
              clear HN HB hR2 hy h1 h2
              go_wp2_with fail
              · go_roundg g2
                case rel => exact ⟨k + 1, N + 1, some ⟨gm, om, none⟩, 0, by omega, rfl, by go_num, by omega, Lib.hid (.inl (List.drop_eq_nil_of_le (by omega))), HN2, HB2, rfl⟩
                case measure => omega
              · go_roundg g2
                case rel => exact ⟨k + 1, N + 1, some ⟨gm, om + 1, none⟩, cm - 1, by omega, rfl, by go_num, by omega, HR2, HN2, HB2, rfl⟩
                case measure => omega
            · have d2 : (y == x) = false := by rw [beq_eq_false_iff_ne]; exact fun e => h2 e.symm
              have HN2 : Hid (N = bothC (l.take i) m + (m.take (k + 1)).count x) := Lib.hid (by rw [HN.out, cnt_no hy h2])
              clear HN HB hR2 hy h1 h2
              go_wp2_with fail
              · go_roundg g2
                case rel => exact ⟨k + 1, N, some ⟨gm, om, none⟩, 0, by omega, rfl, rfl, by omega, Lib.hid (.inl (List.drop_eq_nil_of_le (by omega))), HN2, HB2, rfl⟩
                case measure => omega
              · go_roundg g2
                case rel => exact ⟨k + 1, N, some ⟨gm, om + 1, none⟩, cm - 1, by omega, rfl, rfl, by omega, HR2, HN2, HB2, rfl⟩
                case measure => omega
end Go.Proofs.YthfbhinlgoaajaaDoor
namespace Go.Proofs.YthfbhinlgoaajaaDoor
open Go.RowKit Go.Shelf
set_option maxHeartbeats 8000000 in
set_option maxRecDepth 10000 in
theorem pdshared_any {w : World} {B a room : Nat} {s : Sh} {K : Nat → Prop} (hA : On9 w B a room s K) (x y : Int) (hx : -9223372036854775808 ≤ x ∧ x ≤ 9223372036854775807) (hy : -9223372036854775808 ≤ y ∧ y ≤ 9223372036854775807) :
    Calls Tryd.prog 12 #[.pointer (some ⟨a, 0, none⟩), .int .i64 x, .int .i64 y] w fun e w' => e = .returned (.int .i64 (shR s x y : Nat)) ∧ Below w.heap.size w w' := by
  have HX := Lib.hid (pis_any hA x hx)
  have HY := Lib.hid (fun (w1 : World) (hb : Below w.heap.size w w1) => pis_any (hA.below hb) y hy)
  have HNo := Lib.hid (fun e => shR_no (s := s) (x := x) (y := y) e)
  have HYes := Lib.hid (fun e1 e2 => shR_yes (s := s) (x := x) (y := y) e1 e2)
  have HRe := Lib.hid (fun (W2 : World) (hb : Below w.heap.size w W2) (z : Int) (hz : -9223372036854775808 ≤ z ∧ z ≤ 9223372036854775807) => o9ReachC (hA.below (hb.trans (((Below.refl W2.heap.size W2).alloc (Nat.le_refl _) (.cells #[.int .i64 z] 3)).mono hb.size))) [z] (some ⟨W2.heap.size, 0, none⟩) 1 (Q := fun _ => True) (rowI_lit (heap_alloc_new W2 (.cells #[.int .i64 z] 3)) rfl trivial) (by simp) (fun q hq => by rw [List.mem_singleton.1 hq]; exact hz))
  have HLx := reach_len hA.inv hA.wide [x]
  have HLy := reach_len hA.inv hA.wide [y]
  have HRx := Lib.hid (reach_rise s [x])
  have HRy := Lib.hid (reach_rise s [y])
  clear hA
  generalize (hasT s x).isSome = bx at *
  generalize (hasT s y).isSome = b_y at *
  generalize shR s x y = SR at *
  cases bx with
  | false =>
    have HE := Lib.hid (HNo.out (.inl rfl))
    clear HNo HYes HRe
    go_enter Tryd.func12, Tryd.ntmps12
    go_wp2_with fail
    refine HX.out.mono ?_; rintro e w1 ⟨rfl, hb1⟩
    have HB1 := Lib.hid hb1
    clear hb1
    go_wp2_with fail
    go_ret
    exact ⟨by rw [HE.out]; rfl, HB1.out⟩
  | true =>
    cases b_y with
    | false =>
      have HE := Lib.hid (HNo.out (.inr rfl))
      clear HNo HYes HRe
      go_enter Tryd.func12, Tryd.ntmps12
      go_wp2_with fail
      refine HX.out.mono ?_; rintro e w1 ⟨rfl, hb1⟩
      have HB1 := Lib.hid hb1
      clear hb1
      go_wp2_with fail
      refine (HY.out _ HB1.out).mono ?_; rintro e w2 ⟨rfl, hb2⟩
      have HB2 := Lib.hid (HB1.out.trans (hb2.mono HB1.out.size))
      clear hb2
      go_wp2_with fail
      go_ret
      exact ⟨by rw [HE.out]; rfl, HB2.out⟩
    | true =>
      have HE := Lib.hid (HYes.out rfl rfl)
      clear HNo HYes
      go_enter Tryd.func12, Tryd.ntmps12
      go_wp2_with fail
      refine HX.out.mono ?_; rintro e w1 ⟨rfl, hb1⟩
      have HB1 := Lib.hid hb1
      clear hb1
      go_wp2_with fail
      refine (HY.out _ HB1.out).mono ?_; rintro e w2 ⟨rfl, hb2⟩
      have HB2 := Lib.hid (HB1.out.trans (hb2.mono HB1.out.size))
      have HC := Lib.hid (HRe.out w2 HB2.out x hx)
      have hba : Below w2.heap.size w2 (w2.alloc (.cells #[.int .i64 x] 3)) := (Below.refl _ _).alloc (Nat.le_refl _) _
      have HBa := Lib.hid hba
      clear hb2 hba HX HY
      go_wp2_with fail
      refine HC.out.mono ?_; rintro e w3 ⟨O3, c3, rfl, hr3, hb3, hk3⟩
      have hb23 := HBa.out.trans (hb3.mono HBa.out.size)
      have HB3 := Lib.hid (HB2.out.trans (hb23.mono HB2.out.size))
      have HR3 := Lib.hid hr3
      have HC4 := Lib.hid (HRe.out w3 HB3.out y hy)
      have hbd : Below w3.heap.size w3 (w3.alloc (.cells #[.int .i64 y] 3)) := (Below.refl _ _).alloc (Nat.le_refl _) _
      have HBd := Lib.hid hbd
      clear hr3 hb3 hb23 hk3 hbd HC HBa HRe
      go_wp2_with fail
      refine HC4.out.mono ?_; rintro e w4 ⟨O4, c4, rfl, hr4, hb4, hk4⟩
      have hb34 := HBd.out.trans (hb4.mono HBd.out.size)
      have HB4 := Lib.hid (HB3.out.trans (hb34.mono HB3.out.size))
      have HBo := Lib.hid (pdboth_any _ _ HRx.out HRy.out O3 O4 c3 c4 w4 (HR3.out.below hb34) hr4 hk4 (by omega) (by omega))
      clear hr4 hb4 hb34 hk4 HC4 HBd HR3
      go_wp2_with fail
      refine HBo.out.mono ?_; rintro e w5 ⟨rfl, rfl⟩
      go_wp2_with fail
      go_ret
      exact ⟨by rw [HE.out]; rfl, HB4.out⟩
end Go.Proofs.YthfbhinlgoaajaaDoor
namespace Go.Proofs.YthfbhinlgoaajaaDoor
open Go.RowKit Go.Shelf
theorem lf9_up {w w0 w2 : World} {B a room : Nat} {s : Sh} {K K2 : Nat → Prop} (h : Lf9 w B a room s K w2 K2) (h0 : Below B w0 w) : On9 w2 B a room s K2 ∧ Below B w0 w2 := ⟨h.1, h0.trans h.2.2.2⟩
theorem tb_up {w w' : World} (hE : TB w.heap.size w) (hb : Below w.heap.size w w') : TB w'.heap.size w' := fun w'' hb' => hE w'' (hb.trans (hb'.mono hb.size))
end Go.Proofs.YthfbhinlgoaajaaDoor
namespace Go.Proofs.YthfbhinlgoaajaaDoor
open Go.RowKit Go.Shelf
theorem pdchGuard : Tryd.prog.eqGuardType Tryd.prog.depth 39 = false := by kernel_rfl
theorem pdchStood : Tryd.prog.stoodInHeld 39 = false := by kernel_rfl
theorem pdchStruct : Tryd.prog.underlying 39 = some (.struct (Tryd.prog.fieldsOf 39)) := by kernel_rfl
theorem guard_pdch (op : BinOp) (X Y : Operand) (xs ys : Array Value) (W : World) : (eqGuard op 39 X Y (.agg xs) (.agg ys)).run Tryd.prog W = .ok () W := run_eqGuard_agg W op 39 X Y xs ys pdchGuard
theorem eql_pdch (x : Int) (s t : ByteArray) (W : World) : (binOp .eql 39 (.agg #[.int .i64 x, .string s, .string t]) (.agg #[.int .i64 x, .string s, .string t])).run Tryd.prog W = .ok (.bool true) W := by
  rw [run_eql_struct, run_equalIn_agg W 9999 39 _ _ pdchStruct pdchStood]
  simp [go_sem]
theorem row_three (w : World) (K : Nat → Prop) (a b c : En) :
    RowE (w.alloc (.cells #[.int .i64 a.key, .string ⟨a.text.toArray⟩, .int .i64 b.key, .string ⟨b.text.toArray⟩, .int .i64 c.key, .string ⟨c.text.toArray⟩] 42)) (fun g => K g ∨ (w.heap.size ≤ g ∧ g < (w.alloc (.cells #[.int .i64 a.key, .string ⟨a.text.toArray⟩, .int .i64 b.key, .string ⟨b.text.toArray⟩, .int .i64 c.key, .string ⟨c.text.toArray⟩] 42)).heap.size)) (some ⟨w.heap.size, 0, none⟩) [a, b, c] := by
  refine .inr ⟨_, _, rfl, .inr ⟨Nat.le_refl _, by simp⟩, by simp, ?_⟩
  intro i x hx j u hu
  rw [Lib.cell_of_heap (heap_alloc_new w _)]
  rcases i with _ | _ | _ | i
  · obtain rfl : x = a := (Option.some.inj hx).symm
    rcases j with _ | _ | j
    · exact hu
    · exact hu
    · cases hu
  · obtain rfl : x = b := (Option.some.inj hx).symm
    rcases j with _ | _ | j
    · exact hu
    · exact hu
    · cases hu
  · obtain rfl : x = c := (Option.some.inj hx).symm
    rcases j with _ | _ | j
    · exact hu
    · exact hu
    · cases hu
  · cases hx
set_option maxHeartbeats 16000000 in
set_option maxRecDepth 10000 in
theorem ldalive_any (w : World) (hE : TB w.heap.size w) : Calls Tryd.prog 5 #[] w fun e w' => e = .returned (.bool true) ∧ Below w.heap.size w w' := by
  have HE := Lib.hid (o9New w hE 30 (by decide))
  have hI1 : ∀ W, (binOp .eql 39 (.agg #[.int .i64 1, .string ⟨#[97]⟩, .string ⟨#[]⟩]) (.agg #[.int .i64 1, .string ⟨#[97]⟩, .string ⟨#[]⟩])).run Tryd.prog W = .ok (.bool true) W := eql_pdch 1 ⟨#[97]⟩ ⟨#[]⟩
  have hI2 : ∀ W, (binOp .eql 39 (.agg #[.int .i64 7, .string ⟨#[]⟩, .string ⟨#[101]⟩]) (.agg #[.int .i64 7, .string ⟨#[]⟩, .string ⟨#[101]⟩])).run Tryd.prog W = .ok (.bool true) W := eql_pdch 7 ⟨#[]⟩ ⟨#[101]⟩
  have hI3 : ∀ W, (binOp .eql 39 (.agg #[.int .i64 9, .string ⟨#[99]⟩, .string ⟨#[100]⟩]) (.agg #[.int .i64 9, .string ⟨#[99]⟩, .string ⟨#[100]⟩])).run Tryd.prog W = .ok (.bool true) W := eql_pdch 9 ⟨#[99]⟩ ⟨#[100]⟩
  have hG1 := fun X Y W => guard_pdch .eql X Y #[.int .i64 1, .string ⟨#[97]⟩, .string ⟨#[]⟩] #[.int .i64 1, .string ⟨#[97]⟩, .string ⟨#[]⟩] W
  have hG2 := fun X Y W => guard_pdch .eql X Y #[.int .i64 7, .string ⟨#[]⟩, .string ⟨#[101]⟩] #[.int .i64 7, .string ⟨#[]⟩, .string ⟨#[101]⟩] W
  have hG3 := fun X Y W => guard_pdch .eql X Y #[.int .i64 9, .string ⟨#[99]⟩, .string ⟨#[100]⟩] #[.int .i64 9, .string ⟨#[99]⟩, .string ⟨#[100]⟩] W
  clear hE
  go_enter Tryd.func5, Tryd.ntmps5
  go_wp2_with fail
  refine HE.out.mono ?_; rintro e w1 ⟨a, K1, rfl, hO1, hK1, hb1⟩
  clear HE
  have hb2 : Below w1.heap.size w1 (w1.alloc (.cells #[.int .i64 1, .string ⟨#[97]⟩, .int .i64 2, .string ⟨#[98]⟩, .int .i64 9, .string ⟨#[99]⟩] 42)) := (Below.refl _ _).alloc (Nat.le_refl _) _
  have hO2 := hO1.below hb2
  have HBu := Lib.hid (ptbuild_any hO2 dvA (some ⟨w1.heap.size, 0, none⟩) 3 (row_three w1 K1 ⟨1, [97]⟩ ⟨2, [98]⟩ ⟨9, [99]⟩) (by decide) (by decide))
  have HB2 := Lib.hid (hb1.trans (hb2.mono hb1.size))
  clear hO1 hK1 hb1 hb2 hO2
  rw [dvB1] at HBu
  go_wp2_with fail
  refine HBu.out.mono ?_; rintro e w3 ⟨K3, rfl, hl3⟩
  obtain ⟨hO3, hb3⟩ := lf9_up hl3 HB2.out
  have hb4 : Below w3.heap.size w3 (w3.alloc (.cells #[.int .i64 2, .string ⟨#[98]⟩, .int .i64 9, .string ⟨#[100]⟩, .int .i64 7, .string ⟨#[101]⟩] 42)) := (Below.refl _ _).alloc (Nat.le_refl _) _
  have hO4 := hO3.below hb4
  have HBv := Lib.hid (ptbuild_any hO4 dvB (some ⟨w3.heap.size, 0, none⟩) 3 (row_three w3 K3 ⟨2, [98]⟩ ⟨9, [100]⟩ ⟨7, [101]⟩) (by decide) (by decide))
  have HB4 := Lib.hid (hb3.trans (hb4.mono hO3.base))
  clear hl3 hO3 hb3 hb4 hO4 HBu HB2
  rw [show (dvS1, (4 : Int), 0).1 = dvS1 from rfl, dvB2] at HBv
  go_wp2_with fail
  refine HBv.out.mono ?_; rintro e w5 ⟨K5, rfl, hl5⟩
  obtain ⟨hO5, hb5⟩ := lf9_up hl5 HB4.out
  have HOf := Lib.hid (pdOf_any 1024 rfl hO5 4 7 (by decide) (by decide))
  have HO5 := Lib.hid hO5
  have HB5 := Lib.hid hb5
  clear hl5 hO5 hb5 HBv HB4
  rw [show (dvS2, (7 : Int), 0).1 = dvS2 from rfl, dvOf] at HOf
  unfold DofP at HOf
  go_wp2_with fail
  refine HOf.out.mono ?_; rintro e w6 ⟨O, co, rfl, hco, hr6, hb6⟩
  have hO6 := HO5.out.below hb6
  have hco : 3 ≤ co := hco
  have hr6' : RowC w6 (fun g => K5 g ∨ (w5.heap.size ≤ g ∧ g < w6.heap.size)) O dvC := hr6.mono fun g hg hl => .inr ⟨hg, hl⟩
  have HAp : Hid (Calls Tryd.prog 9 #[.pointer (some ⟨a, 0, none⟩), .int .i64 4, .slice O 3 co] w6 fun e w' => TPutQ w6 w.heap.size a 30 dvS2 (fun g => K5 g ∨ (w5.heap.size ≤ g ∧ g < w6.heap.size)) (pAplR 30 dvS2 4 dvC) e w') := Lib.hid (pdapply_any hO6 4 (by decide) dvC O co hr6' (by decide) (by decide))
  have HR6 := Lib.hid hr6'
  have HB6 := Lib.hid (HB5.out.trans (hb6.mono HO5.out.base))
  clear hr6 hr6' hO6 hb6 HO5 HB5 HOf
  rw [dvAp1] at HAp
  rw [show (dvC, (0 : Int)).1.length = 3 from rfl]
  go_wp2_with fail
  refine HAp.out.mono ?_; rintro e w7 ⟨K7, rfl, hl7⟩
  have hr7 := (HR6.out.kept hl7.2.2.1).mono (Q := K7) fun g hg _ => hl7.2.1 g hg
  obtain ⟨hO7, hb7⟩ := lf9_up hl7 HB6.out
  have HA2 : Hid (Calls Tryd.prog 9 #[.pointer (some ⟨a, 0, none⟩), .int .i64 7, .slice O 3 co] w7 fun e w' => TPutQ w7 w.heap.size a 30 dvS2 K7 (pAplR 30 dvS2 7 dvC) e w') := Lib.hid (pdapply_any hO7 7 (by decide) dvC O co hr7 (by decide) (by decide))
  have HR7 := Lib.hid hr7
  have HB7 := Lib.hid hb7
  clear hr7 hl7 hO7 hb7 HR6 HB6 HAp
  rw [dvAp2] at HA2
  go_wp2_with fail
  refine HA2.out.mono ?_; rintro e w8 ⟨K8, rfl, hl8⟩
  have hr8 := HR7.out.kept hl8.2.2.1
  obtain ⟨hO8, hb8⟩ := lf9_up hl8 HB7.out
  obtain ⟨g, o, rfl, _, hgl, hat⟩ := hr8.at (i := 0) (by decide)
  obtain ⟨q0, q1, q2⟩ := hat.three (i := 0) (x := ⟨1, [97], []⟩) rfl
  obtain ⟨q3, q4, q5⟩ := hat.three (i := 1) (x := ⟨7, [], [101]⟩) rfl
  obtain ⟨q6, q7, q8⟩ := hat.three (i := 2) (x := ⟨9, [99], [100]⟩) rfl
  have p0 : w8.cell? ⟨g, o, none⟩ = some (.int .i64 1) := q0
  have p1 : w8.cell? ⟨g, o + 1, none⟩ = some (.string ⟨#[97]⟩) := q1
  have p2 : w8.cell? ⟨g, o + 2, none⟩ = some (.string ⟨#[]⟩) := q2
  have p3 : w8.cell? ⟨g, o + 3, none⟩ = some (.int .i64 7) := q3
  have p4 : w8.cell? ⟨g, o + 3 + 1, none⟩ = some (.string ⟨#[]⟩) := q4
  have p5 : w8.cell? ⟨g, o + 3 + 2, none⟩ = some (.string ⟨#[101]⟩) := q5
  have p6 : w8.cell? ⟨g, o + 6, none⟩ = some (.int .i64 9) := q6
  have p7 : w8.cell? ⟨g, o + 6 + 1, none⟩ = some (.string ⟨#[99]⟩) := q7
  have p8 : w8.cell? ⟨g, o + 6 + 2, none⟩ = some (.string ⟨#[100]⟩) := q8
  clear q0 q1 q2 q3 q4 q5 q6 q7 q8
  have HSh := Lib.hid (pdshared_any hO8 4 7 (by decide) (by decide))
  have HB8 := Lib.hid hb8
  have HZ8 := Lib.hid hO8.base
  clear hl8 hO8 hb8 HA2 HB7 HR7 hr8 hat
  rw [show (dvS2, (0 : Int), 7).1 = dvS2 from rfl, dvSh] at HSh
  go_wp2_with fail
  refine HSh.out.mono ?_; rintro e w9 ⟨rfl, hb9⟩
  have HBx := Lib.hid (HB8.out.trans (hb9.mono HZ8.out))
  clear hb9 HSh HB8 p0 p1 p2 p3 p4 p5 p6 p7 p8
  go_wp2_with fail
  go_ret
  exact ⟨rfl, HBx.out⟩
end Go.Proofs.YthfbhinlgoaajaaDoor
namespace Go.Proofs.YthfbhinlgoaajaaDoor
theorem bld_gen {room : Nat} {s : Sh} {l : List En} (hi : Inv room s) (hl : l.length ≤ 60) (hc : cntS s + 240 ≤ room) :
    (pBldR room s l = (s, 0, 1) ∨ pBldR room s l = (s, 0, 5)) ∨ Rg l ∧ (pBldR room s l).2.2 = 0 ∧ IsT (pBldR room s l).1 (pBldR room s l).2.1 (sortK l 1024) ∧ Inv room (pBldR room s l).1 ∧ Up s (pBldR room s l).1 ∧ cntS (pBldR room s l).1 ≤ cntS s + 240 := by
  by_cases ha : ∀ x ∈ l, rightE x = true
  · by_cases hd : DisK l
    · right
      have ho := sort_ok ha hd
      have hlen : (sortK l 1024).length = l.length := (sortK_perm (keyIn_of ha)).length_eq
      have hcost : sortK l 1024 ≠ [] → cost s (trK 2 (sortK l 1024)) ≤ 240 := fun hne => by
        have h1 := cost_sz s (trK 2 (sortK l 1024))
        have h2 := sz_trK 2 ho.keys hne
        rw [hlen] at h2
        omega
      rw [bld_yes ha hd]
      refine ⟨⟨ha, hd⟩, ?_⟩
      by_cases hne : sortK l 1024 = []
      · have e : putT room s (sortK l 1024) = (s, 0, 0) := by
          unfold putT nodesL
          rw [if_pos hne]
          rfl
        rw [e]
        exact ⟨rfl, ⟨ho, .inl ⟨hne, rfl⟩⟩, hi, Up.refl _, by show cntS s ≤ _; omega⟩
      · have := hcost hne
        obtain ⟨p1, p2, p3, p4, p5, p6⟩ := putT_good hi ho hne (by omega)
        exact ⟨p1, p2, p3, p4, by omega⟩
    · exact .inl (.inr (bld_dup ha hd))
  · obtain ⟨x, hx⟩ := Classical.not_forall.1 ha
    obtain ⟨h1, h2⟩ := Classical.not_imp.1 hx
    exact .inl (.inl (bld_no h1 (by simpa using h2)))
structure BothD (room : Nat) (s : Sh) (x y : Int) (l m : List En) : Prop where
  inv : Inv room s
  fst : IsT s x l
  snd : IsT s y m
  cnt : cntS s ≤ 480
theorem both_of {room : Nat} {g h : List En} (hg : g.length ≤ 60) (hh : h.length ≤ 60) (hr : 2000 ≤ room) (e1 : (pBldR room [] g).2.2 = 0) (e2 : (pBldR room (pBldR room [] g).1 h).2.2 = 0) :
    BothD room (pBldR room (pBldR room [] g).1 h).1 (pBldR room [] g).2.1 (pBldR room (pBldR room [] g).1 h).2.1 (sortK g 1024) (sortK h 1024) := by
  have h0 : cntS [] = 0 := rfl
  rcases bld_gen (inv_nil room) hg (by omega) with (q | q) | ⟨a1, _, a3, a4, _, a6⟩
  · rw [q] at e1; cases e1
  · rw [q] at e1; cases e1
  · rcases bld_gen (l := h) a4 hh (by omega) with (q | q) | ⟨b1, _, b3, b4, b5, b6⟩
    · rw [q] at e2; cases e2
    · rw [q] at e2; cases e2
    · exact ⟨b4, isT_up b5 a3, b3, by omega⟩
theorem BothD.there {room : Nat} {s : Sh} {x y : Int} {l m : List En} (h : BothD room s x y l m) (hr : 2000 ≤ room) {n : Nat} (hn : n = 1024) :
    (pAplR room s x (chN l m n)).2.2 = 0 ∧ (pAplR room s x (chN l m n)).2.1 = y ∧ BothD room (pAplR room s x (chN l m n)).1 x y l m := by
  have hc := h.cnt
  obtain ⟨a, b, c, d, e⟩ := apl_there h.inv h.fst h.snd (by omega) hn
  exact ⟨a, b, c, isT_up d h.fst, isT_up d h.snd, by omega⟩
theorem BothD.back {room : Nat} {s : Sh} {x y : Int} {l m : List En} (h : BothD room s x y l m) (hr : 2000 ≤ room) {n : Nat} (hn : n = 1024) :
    (pAplR room s y ((chN l m n).map turnC)).2.2 = 0 ∧ (pAplR room s y ((chN l m n).map turnC)).2.1 = x ∧ BothD room (pAplR room s y ((chN l m n).map turnC)).1 x y l m := by
  have hc := h.cnt
  rw [chN_turn]
  obtain ⟨a, b, c, d, e⟩ := apl_there h.inv h.snd h.fst (by omega) hn
  exact ⟨a, b, c, isT_up d h.fst, isT_up d h.snd, by omega⟩
theorem BothD.gets {room : Nat} {s : Sh} {x y : Int} {l m : List En} (h : BothD room s x y l m) {n : Nat} {c : Ch} (hc : c ∈ chN l m n) : c.fr ≠ c.tt ∧ (getR s x c.key).getD [] = c.fr ∧ (getR s y c.key).getD [] = c.tt := by
  obtain ⟨k, _, hne, rfl⟩ := chN_mem.1 hc
  refine ⟨hne, ?_, ?_⟩
  · rw [get_is h.fst]; rfl
  · rw [get_is h.snd]; rfl
theorem chN_rise {l m : List En} {n i : Nat} {c d : Ch} (hc : (chN l m n)[i]? = some c) (hd : (chN l m n)[i + 1]? = some d) : c.key < d.key := by
  obtain ⟨h1, rfl⟩ := List.getElem?_eq_some_iff.1 hc
  obtain ⟨h2, rfl⟩ := List.getElem?_eq_some_iff.1 hd
  exact List.pairwise_iff_getElem.1 (chN_lt n) i (i + 1) h1 h2 (by omega)
theorem BothD.same {room : Nat} {s : Sh} {x y : Int} {l m : List En} (h : BothD room s x y l m) {n : Nat} (hn : n = 1024) : x = y ↔ chN l m n = [] := there_same h.inv h.fst h.snd hn
end Go.Proofs.YthfbhinlgoaajaaDoor
namespace Go.Proofs.YthfbhinlgoaajaaDoor
open Go.RowKit
def FitsE (l : List En) (w : World) (e : Ending) (w' : World) : Prop := ∃ b, e = .returned (.bool b) ∧ (b = true → l.length ≤ 60 ∧ ∀ x ∈ l, x.text.length ≤ 300) ∧ w' = w
theorem FitsE.no {l : List En} {w : World} {e : Ending} (h : e = .returned (.bool false)) : FitsE l w e w := ⟨false, h, fun e => (by cases e), rfl⟩
theorem FitsE.yes {l : List En} {w : World} {e : Ending} (h : e = .returned (.bool true)) (hf : l.length ≤ 60 ∧ ∀ x ∈ l, x.text.length ≤ 300) : FitsE l w e w := ⟨true, h, fun _ => hf, rfl⟩
theorem take_next11 {l : List En} {i : Nat} {x : En} (hx : l[i]? = some x) (h : ∀ y ∈ l.take i, y.text.length ≤ 300) (hb : x.text.length ≤ 300) : ∀ y ∈ l.take (i + 1), y.text.length ≤ 300 := fun y hy => by
  rw [List.take_add_one, hx] at hy
  rcases List.mem_append.1 hy with e | e
  · exact h y e
  · obtain rfl : y = x := by simpa using e
    exact hb
set_option maxHeartbeats 8000000 in
set_option maxRecDepth 10000 in
theorem ldfits_any (l : List En) (A : Option Addr) (ca : Nat) (w : World) {Q : Nat → Prop} (hl : RowE w Q A l) (hll : l.length ≤ maxLen) (hlm : ∀ x ∈ l, x.text.length ≤ maxLen) :
    Calls Tryd.prog 4 #[.slice A l.length ca] w fun e w' => FitsE l w e w' := by
  have HL := Lib.hid hl
  have HM := Lib.hid hlm
  unfold maxLen at hll
  clear hl hlm
  by_cases hbig : 60 < l.length
  · have hd : decide ((60 : Int) < (l.length : Int)) = true := decide_eq_true (by omega)
    go_enter Tryd.func4, Tryd.ntmps4
    go_wp2_with fail
    go_ret
    exact FitsE.no rfl
  · have hd : decide ((60 : Int) < (l.length : Int)) = false := decide_eq_false (by omega)
    have hl2 : l.length ≤ 60 := by omega
    go_enter Tryd.func4, Tryd.ntmps4
    go_wp2_with fail
    go_loopw [3] (fun vi wr => ∃ i : Nat, i ≤ l.length ∧ vi = .int .i64 (i : Int) ∧ Hid (∀ x ∈ l.take i, x.text.length ≤ 300) ∧ wr = w) (fun vi _ => l.length - (RowKit.intOf vi).toNat)
    case atStart => exact ⟨0, Nat.zero_le _, rfl, Lib.hid (by simp), rfl⟩
    case round =>
      obtain ⟨i, hi, rfl, HT, rfl⟩ := hrel
      by_cases hlt : i < l.length
      · obtain ⟨x, hx⟩ : ∃ x, l[i]? = some x := ⟨_, List.getElem?_eq_getElem hlt⟩
        obtain ⟨g, o, rfl, _, hgl, hat⟩ := HL.out.at hlt
        obtain ⟨q0, q1⟩ := hat.two hx
        have m1 := HM.out x (List.mem_of_getElem? hx)
        have HNx := Lib.hid (fun h => take_next11 hx HT.out h)
        have hI : (i : Int) < (l.length : Int) := by omega
        have hJ : (0 : Int) ≤ (i : Int) := by omega
        unfold maxLen at m1
        obtain ⟨kx, tx⟩ := x
        have m1 : tx.length ≤ _ := m1
        clear hat hx
        by_cases hb1 : 300 < tx.length
        · have hd1 : decide ((300 : Int) < (tx.length : Int)) = true := decide_eq_true (by omega)
          go_wp2_with fail
          go_ret
          exact FitsE.no rfl
        · have hd1 : decide ((300 : Int) < (tx.length : Int)) = false := decide_eq_false (by omega)
          have HN2 := Lib.hid (HNx.out (by show tx.length ≤ 300; omega))
          clear hb1 HNx
          go_wp2_with fail
          go_roundw
          case rel => exact ⟨i + 1, by omega, by go_num, HN2, trivial⟩
          case measure => simp [RowKit.intOf]; omega
      · have hii : i = l.length := by omega
        subst hii
        have ht := HT.out
        rw [List.take_length] at ht
        have HT2 := Lib.hid ht
        clear ht HT
        go_wp2_with fail
        go_ret
        exact FitsE.yes rfl ⟨hl2, HT2.out⟩
end Go.Proofs.YthfbhinlgoaajaaDoor
namespace Go.Proofs.YthfbhinlgoaajaaDoor
open Go.RowKit Go.Shelf
set_option maxHeartbeats 8000000 in
set_option maxRecDepth 10000 in
theorem pget_any {w : World} {B a room : Nat} {s : Sh} {K : Nat → Prop} (hA : On9 w B a room s K) (h : Int) (hh : -9223372036854775808 ≤ h ∧ h ≤ 9223372036854775807) (k : Int) :
    Calls Tryd.prog 11 #[.pointer (some ⟨a, 0, none⟩), .int .i64 h, .int .i64 k] w fun e w' => e = .returned (.tuple #[.string ⟨((getR s h k).getD []).toArray⟩, .bool (getR s h k).isSome]) ∧ Below w.heap.size w w' := by
  have HR := Lib.hid (pread_any hA h hh)
  have HH := Lib.hid (fun w => phash_any k w)
  clear hA
  go_enter Tryd.func11, Tryd.ntmps11
  go_wp2_with fail
  refine HR.out.mono ?_; rintro e w1 ⟨f, b, rfl, hok, hhas, hb1⟩
  have HS := Lib.hid hhas
  have HOk := Lib.hid hok
  have HBa : Hid (Below w.heap.size w (w1.alloc (.cells (txC f) 51))) := Lib.hid (hb1.alloc hb1.size _)
  have HT : Hid (TX (w1.alloc (.cells (txC f) 51)) w1.heap.size f) := Lib.hid (heap_alloc_new w1 _)
  clear hhas hb1 hok
  cases b with
  | false =>
    have HG : Hid (getR s h k = none) := Lib.hid (getR_none (by rw [HS.out]; rfl))
    go_wp2_with (refine wpList_store_row rfl 51 _ _ rfl w1.heap.size (txC f) rfl rfl 51 _ (heap_alloc_new w1 _) (by rw [txC_size]; exact texts_info) (by rw [txC_size]; first | exact hold_st (w := w1) | rfl) (txC_one f) ?_; rw [World.setRow_alloc_new])
    go_ret2
    rw [HG.out]
    exact ⟨rfl, HBa.out⟩
  | true =>
    by_cases hk : 0 ≤ k ∧ k ≤ 1023
    · have d1 : decide (hashK k < 0) = false := decide_eq_false (by have := hash_bound hk; omega)
      obtain ⟨j, rfl⟩ : ∃ j : Nat, k = (j : Int) := ⟨k.toNat, by omega⟩
      have hj : j < 1024 := by omega
      have HG : Hid (getR s h (j : Int) = if f j = [] then none else some (f j)) := Lib.hid ((getR_some (HS.out.trans (if_pos rfl))).trans (getX HOk.out (Nat.le_refl _) hj))
      have hJ : (j : Int) < 1024 := by omega
      have hJ0 : (0 : Int) ≤ (j : Int) := by omega
      have t0 := HT.out.cell hj
      have zT := HT.out.lt
      generalize hashK (j : Int) = H at *
      generalize hv : f j = V at *
      clear hk
      go_wp2_with (refine wpList_store_row rfl 51 _ _ rfl w1.heap.size (txC f) rfl rfl 51 _ (heap_alloc_new w1 _) (by rw [txC_size]; exact texts_info) (by rw [txC_size]; first | exact hold_st (w := w1) | rfl) (txC_one f) ?_; rw [World.setRow_alloc_new])
      refine (HH.out _).mono ?_; rintro e w2 ⟨rfl, rfl⟩
      cases hV : V.isEmpty with
      | true =>
        have hV0 : V = [] := List.isEmpty_iff.1 hV
        have HG2 := Lib.hid (HG.out.trans (if_pos hV0))
        subst hV0
        go_wp2_with fail
        go_region
        all_goals
          go_wp2_with fail
          go_ret2
          rw [HG2.out]
          exact ⟨rfl, by first | exact HBa.out | exact HBa.out.drew⟩
      | false =>
        have hV0 : V ≠ [] := fun e => by rw [e] at hV; cases hV
        have HG2 := Lib.hid (HG.out.trans (if_neg hV0))
        clear hV0
        go_wp2_with fail
        go_region
        all_goals
          go_wp2_with fail
          go_ret2
          rw [HG2.out]
          exact ⟨rfl, by first | exact HBa.out | exact HBa.out.drew⟩
    · have d1 : decide (hashK k < 0) = true := by unfold hashK; rw [if_neg hk]; rfl
      have HG : Hid (getR s h k = none) := Lib.hid (by
        rw [getR_some (HS.out.trans (if_pos rfl))]
        refine getL_none.2 fun x hx e => hk ?_
        have := (entX_ok HOk.out 1024 (Nat.le_refl _)).keys x hx
        rw [e] at this; exact this)
      generalize hashK k = H at *
      go_wp2_with (refine wpList_store_row rfl 51 _ _ rfl w1.heap.size (txC f) rfl rfl 51 _ (heap_alloc_new w1 _) (by rw [txC_size]; exact texts_info) (by rw [txC_size]; first | exact hold_st (w := w1) | rfl) (txC_one f) ?_; rw [World.setRow_alloc_new])
      refine (HH.out _).mono ?_; rintro e w2 ⟨rfl, rfl⟩
      go_wp2_with fail
      go_ret2
      rw [HG.out]
      exact ⟨rfl, HBa.out⟩
end Go.Proofs.YthfbhinlgoaajaaDoor
