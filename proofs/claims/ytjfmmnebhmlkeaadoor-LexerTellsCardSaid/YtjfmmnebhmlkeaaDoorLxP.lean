/- The walk of the statement on blanks: the long way. -/
import Derived.Test.YtjfmmnebhmlkeaaDoorLxO
import Derived.Laws.Concat
namespace Go.Proofs.YtjfmmnebhmlkeaaDoor
open Go.RowKit

theorem eight_blanks : ∀ K : Fin 9, ((⟨#[32, 32, 32, 32, 32, 32, 32, 32]⟩ : ByteArray).extract 0 K.val).data.toList = List.replicate K.val 32 := by decide +kernel
theorem blanks_text (s : ByteArray) (K : Nat) (hK : K ≤ 8) : ((⟨#[32, 32, 32, 32, 32, 32, 32, 32]⟩ : ByteArray).extract 0 K ++ s ++ (⟨#[32, 32, 32, 32, 32, 32, 32, 32]⟩ : ByteArray).extract 0 K).data.toList = List.replicate K 32 ++ s.data.toList ++ List.replicate K 32 := by
  have h := eight_blanks ⟨K, by omega⟩
  simp only at h
  simp only [ByteArray.data_append, Array.toList_append, h]
theorem ext_sub (s : ByteArray) (p e : Nat) (h : p ≤ e) : (s.extract p e).data.toList = (s.data.toList.drop p).take (e - p) := by
  have := extract_sub s p (e - p)
  rwa [show p + (e - p) = e from by omega] at this
theorem apart_more {l : List UInt8} {ts : List Tok} {i : Nat} {t : Tok} {e : Nat} {B s : ByteArray} (hl : s.data.toList = l) (hB : B.data.toList = apartI l ts i) (ht : ts[i]? = some t) (he : nextP l.length (ts.drop (i + 1)) = e) (hp : t.frm ≤ e) :
    (B ++ s.extract t.frm e ++ (⟨#[32]⟩ : ByteArray)).data.toList = apartI l ts (i + 1) := by
  rw [apartI_succ ht, he, ByteArray.data_append, ByteArray.data_append, Array.toList_append, Array.toList_append, hB, ext_sub s _ _ hp, hl, List.append_assoc]
theorem apartI_le (l : List UInt8) (ts : List Tok) : ∀ (j i : Nat), (apartI l ts i).length ≤ (apartI l ts (i + j)).length
  | 0, _ => Nat.le_refl _
  | j + 1, i => by
    have h := apartI_le l ts j i
    rw [show i + (j + 1) = i + j + 1 from by omega, apartI, List.length_append]
    omega
theorem apartI_small {l : List UInt8} (h : ansE l = 0) (hl : l.length ≤ 90) (i : Nat) (hi : i ≤ (ansL l).length) : (apartI l (ansL l) i).length ≤ 180 := by
  have h0 := ans_ok h (by omega)
  have h3 := apart_len (l := l) h0 (by simp)
  have h4 := lex_len h0
  have h5 := apartI_le l (ansL l) ((ansL l).length - i) i
  rw [show i + ((ansL l).length - i) = (ansL l).length from by omega, apartI_all] at h5
  omega
theorem next_is {l : List UInt8} {ts : List Tok} {i : Nat} : nextP l.length (ts.drop (i + 1)) = match ts[i + 1]? with | some u => u.frm | none => l.length := by
  cases h : ts[i + 1]? with
  | none =>
    have : ts.length ≤ i + 1 := by simpa using h
    rw [List.drop_eq_nil_of_le this]
    rfl
  | some u =>
    obtain ⟨hlt, he⟩ := List.getElem?_eq_some_iff.1 h
    rw [List.drop_eq_getElem_cons hlt, he]
    rfl

theorem at_keep {w w' : World} {g : Nat} {l : List Tok} (h : AtT w g l) (b : Below w.heap.size w w') : AtT w' g l := fun i t hi =>
  have c := h i t hi
  ⟨keep_cell b c.1, keep_cell b c.2.1, keep_cell b c.2.2.1, keep_cell b c.2.2.2.1, keep_cell b c.2.2.2.2.1, keep_cell b c.2.2.2.2.2⟩
theorem ltokGuard : Tryd.prog.eqGuardType Tryd.prog.depth 37 = false := by kernel_rfl
theorem ltokStood : Tryd.prog.stoodInHeld 37 = false := by kernel_rfl
theorem ltokStruct : Tryd.prog.underlying 37 = some (.struct (Tryd.prog.fieldsOf 37)) := by kernel_rfl
theorem guard_ltok (op : BinOp) (X Y : Operand) (xs ys : Array Value) (W : World) : (eqGuard op 37 X Y (.agg xs) (.agg ys)).run Tryd.prog W = .ok () W := run_eqGuard_agg W op 37 X Y xs ys ltokGuard
theorem neq_ltok (a b c d f : Int) (e : ByteArray) (W : World) : (binOp .neq 37 (.agg #[.int .i64 a, .int .i64 b, .int .i64 c, .int .i64 d, .string e, .int .i64 f]) (.agg #[.int .i64 a, .int .i64 b, .int .i64 c, .int .i64 d, .string e, .int .i64 f])).run Tryd.prog W = .ok (.bool false) W := by
  rw [run_neq_struct, run_equalIn_agg W 9999 37 _ _ ltokStruct ltokStood]
  simp [go_sem]

set_option maxHeartbeats 8000000 in
set_option maxRecDepth 100000 in
theorem lblanks_main (hS : ScanC) (hA : AliveC) (s : ByteArray) (u : Int) (hu : 0 ≤ u ∧ u ≤ 255) (hx : ansE s.data.toList = 0) (h9 : s.size ≤ 90) (w : World) (hE : EnvL w) :
    Calls Tryd.prog 4 #[.string s, .int .u8 u] w fun e w' => e = .returned (.bool true) ∧ Below w.heap.size w w' := by
  have hl9 : s.data.toList.length ≤ 90 := by rw [len_of]; exact h9
  have hK : (u % 8).toNat ≤ 8 := by omega
  have h1 := hS s (by omega)
  rw [hx] at h1
  have H1 := Lib.hid h1
  obtain ⟨m1, m2⟩ := ans_blanks hx hl9 hK
  rw [← blanks_text s _ hK] at m1 m2
  have h2 := hS ((⟨#[32, 32, 32, 32, 32, 32, 32, 32]⟩ : ByteArray).extract 0 (u % 8).toNat ++ s ++ (⟨#[32, 32, 32, 32, 32, 32, 32, 32]⟩ : ByteArray).extract 0 (u % 8).toNat) (by
    rw [← len_of, blanks_text s _ hK]; simp; omega)
  rw [m1, m2] at h2
  have H2 := Lib.hid h2
  have HE := Lib.hid hE
  have HA := Lib.hid hA
  have HSC := Lib.hid hS
  have HX := Lib.hid hx
  have HI := Lib.hid fun i hi => apartI_small hx hl9 i hi
  have HR := Lib.hid (lex_rise (ans_ok hx (by omega)))
  have HP := Lib.hid (ans_apart hx hl9)
  have HLL := Lib.hid (len_of s)
  have hLn := ans_len s.data.toList
  have d0 : decide ((300 : Int) < (s.size : Int)) = false := decide_eq_false (by omega)
  have d9 : decide ((90 : Int) < (s.size : Int)) = false := decide_eq_false (by omega)
  generalize ansP s.data.toList = P at *
  generalize ansP ((⟨#[32, 32, 32, 32, 32, 32, 32, 32]⟩ : ByteArray).extract 0 (u % 8).toNat ++ s ++ (⟨#[32, 32, 32, 32, 32, 32, 32, 32]⟩ : ByteArray).extract 0 (u % 8).toNat).data.toList = P2 at *
  generalize hL : ansL s.data.toList = L at *
  obtain ⟨u0, u1⟩ := hu
  clear hA hE hS h1 h2 hx m1 m2 hl9
  go_enter Tryd.func4, Tryd.ntmps4
  go_wp2_with fail
  refine (H1.out _ HE.out).mono ?_; rintro e w1 ⟨v1, rfl, ho1, b1⟩
  have HE1 := Lib.hid (HE.out.below b1)
  have O1 := Lib.hid ho1
  clear ho1
  go_wp2_with fail
  refine (H2.out _ HE1.out).mono ?_; rintro e w2 ⟨v2, rfl, ho2, b2⟩
  have O1' := Lib.hid (own_below' O1.out b2)
  have O2 := Lib.hid ho2
  have h2 := b1.trans (b2.mono b1.size)
  have HE2 := Lib.hid (HE.out.below h2)
  obtain ⟨A1, c1, rfl, hA1, hm1⟩ := tok_shape O1'.out
  have HA1 := Lib.hid hA1
  clear ho2 O1 HE1 H1 H2 hA1 b1 b2
  go_wp2_with fail
  go_loopw [13, 14] (fun a v wr => ∃ (i : Nat) (B : ByteArray), i ≤ L.length ∧ v = .int .i64 i ∧ a = .string B ∧ B.size ≤ 180 ∧ Hid (B.data.toList = apartI s.data.toList L i) ∧ wr = w2) (fun _ v _ => L.length - (intOf v).toNat)
  case atStart => exact ⟨0, ⟨#[]⟩, Nat.zero_le _, rfl, rfl, by decide, Lib.hid rfl, rfl⟩
  case round =>
    obtain ⟨i, B, hi, rfl, rfl, hB, HB, hw⟩ := hrel
    rw [hw]
    clear hw
    by_cases hlt : i < L.length
    · obtain ⟨t, ht⟩ : ∃ t, L[i]? = some t := ⟨_, List.getElem?_eq_getElem hlt⟩
      obtain ⟨g, rfl, hg, _, hat⟩ := HA1.out (by rintro rfl; simp at hlt)
      obtain ⟨_, _, _, _, _, t5⟩ := hat i t ht
      obtain ⟨r1, r2⟩ := HR.out i t ht
      rw [Nat.zero_add] at r1 r2
      have hnx := next_is (l := s.data.toList) (ts := L) (i := i)
      have hI := HI.out (i + 1) (by omega)
      by_cases hn : i + 1 < L.length
      · obtain ⟨v, hv⟩ : ∃ v, L[i + 1]? = some v := ⟨_, List.getElem?_eq_getElem hn⟩
        obtain ⟨_, _, _, _, _, y5⟩ := hat (i + 1) v hv
        rw [hv] at hnx
        simp only at hnx
        have hM := apart_more (s := s) rfl HB.out ht hnx (by omega)
        have hsz : (B ++ s.extract t.frm v.frm ++ (⟨#[32]⟩ : ByteArray)).size ≤ 180 := by rw [← len_of, hM]; exact hI
        have HM := Lib.hid hM
        rw [hnx] at r1 r2
        have r3 : v.frm ≤ s.size := by rw [← HLL.out]; exact r2
        clear hM hnx hI ht hv hat r2
        go_wp2_with fail
        go_roundw
        case rel => exact ⟨i + 1, B ++ s.extract t.frm v.frm ++ (⟨#[32]⟩ : ByteArray), by omega, by go_num, by first | rfl | trivial, hsz, HM, by first | rfl | trivial⟩
        case measure => simp [intOf]; omega
      · have hv : L[i + 1]? = none := by simp; omega
        rw [hv] at hnx
        simp only at hnx
        have hnx2 : nextP s.data.toList.length (L.drop (i + 1)) = s.size := hnx.trans HLL.out
        clear hnx
        rw [hnx2] at r1 r2
        have hM := apart_more (s := s) rfl HB.out ht hnx2 (by omega)
        have hsz : (B ++ s.extract t.frm s.size ++ (⟨#[32]⟩ : ByteArray)).size ≤ 180 := by rw [← len_of, hM]; exact hI
        have HM := Lib.hid hM
        clear hM hnx2 hI ht hv hat r2
        go_wp2_with fail
        go_roundw
        case rel => exact ⟨i + 1, B ++ s.extract t.frm s.size ++ (⟨#[32]⟩ : ByteArray), by omega, by go_num, by first | rfl | trivial, hsz, HM, by first | rfl | trivial⟩
        case measure => simp [intOf]; omega
    · have e10 : i = L.length := by omega
      subst e10
      have hBL := HB.out
      rw [apartI_all] at hBL
      obtain ⟨ts3, p1, p2, p3⟩ := HP.out
      have h3 := HSC.out B (by omega)
      rw [hBL, p1, p2] at h3
      generalize ansP (apartL s.data.toList L) = P3 at h3
      have H3 := Lib.hid h3
      have hl3 : ts3.length = L.length := by have := congrArg List.length p3; simpa using this
      have HP3 := Lib.hid p3
      clear h3 p1 p2 p3 hBL HB HI HP HSC
      go_wp2_with fail
      refine (H3.out _ HE2.out).mono ?_; rintro e w3 ⟨v3, rfl, ho3, b3⟩
      obtain ⟨A2, c2, rfl, hA2, _⟩ := tok_shape (own_below' O2.out b3)
      obtain ⟨A3, c3, rfl, hA3, _⟩ := tok_shape ho3
      have h3 := h2.trans (b3.mono h2.size)
      have hA1 : L ≠ [] → ∃ g, A1 = some ⟨g, 0, none⟩ ∧ g < w3.heap.size ∧ AtT w3 g L := fun hne => by
        obtain ⟨g, e, hg, _, ha⟩ := HA1.out hne
        exact ⟨g, e, Nat.lt_of_lt_of_le hg b3.size, at_keep ha b3⟩
      have HA1' := Lib.hid hA1
      have HA2 := Lib.hid hA2
      have HA3 := Lib.hid hA3
      rw [List.length_map, hl3]
      clear O1' O2 HA1 hA1 hA2 hA3 ho3 H3 b3
      go_wp2_with fail
      go_loopw [19] (fun v wr => ∃ i : Nat, i ≤ L.length ∧ v = .int .i64 i ∧ Below w3.heap.size w3 wr) (fun v _ => L.length - (intOf v).toNat)
      case atStart => exact ⟨0, Nat.zero_le _, rfl, Below.refl _ _⟩
      case round =>
        obtain ⟨i, hi, rfl, hb⟩ := hrel
        by_cases hlt : i < L.length
        · obtain ⟨t, ht⟩ : ∃ t, L[i]? = some t := ⟨_, List.getElem?_eq_getElem hlt⟩
          obtain ⟨z, hz⟩ : ∃ z, ts3[i]? = some z := ⟨_, List.getElem?_eq_getElem (by omega)⟩
          have hne : L ≠ [] := by rintro rfl; simp at hlt
          obtain ⟨g1, e1, hg1, at1⟩ := HA1'.out hne
          obtain ⟨g2, e2, hg2, _, at2⟩ := HA2.out (by simpa using hne)
          obtain ⟨g3, e3, hg3, _, at3⟩ := HA3.out (by rintro rfl; simp at hz)
          obtain ⟨a0, a1, a2, a3, a4, a5⟩ := at_keep at1 hb i t ht
          obtain ⟨b0, b1, b2, b3, b4, b5⟩ := at_keep at2 hb i (onT (u % 8).toNat t) (by simp [ht])
          obtain ⟨z0, z1, z2, z3, z4, z5⟩ := at_keep at3 hb i z hz
          have hzt : bareT z = bareT t := by
            have h1 := congrArg (fun q : List Tok => q[i]?) HP3.out
            simpa [hz, ht] using h1
          obtain ⟨r1, r2⟩ := HR.out i t ht
          rw [Nat.zero_add, HLL.out] at r1 r2
          obtain ⟨kd, nu, co, ro, te, fr⟩ := t
          obtain ⟨kd', nu', co', ro', te', fr'⟩ := z
          simp only [bareT, Tok.mk.injEq, and_true] at hzt
          obtain ⟨rfl, rfl, rfl, rfl, rfl⟩ := hzt
          simp only [onT] at a0 a1 a2 a3 a4 a5 b0 b1 b2 b3 b4 b5 z0 z1 z2 z3 z4 z5
          have hfr : fr ≤ 90 := by simp only at r1; omega
          obtain ⟨FY, hFY⟩ : ∃ FY : Int, FY = ((fr + (u % 8).toNat : Nat) : Int) := ⟨_, rfl⟩
          rw [← hFY] at b5
          have dk : (FY != (fr : Int) + u % 8) = false := by
            rw [hFY, bne_eq_false_iff_eq]; omega
          have q1 : g1 < wr.heap.size := Nat.lt_of_lt_of_le hg1 hb.size
          have q2 : g2 < wr.heap.size := Nat.lt_of_lt_of_le hg2 hb.size
          have q3 : g3 < wr.heap.size := Nat.lt_of_lt_of_le hg3 hb.size
          have hN := neq_ltok kd' nu' co' ro' (fr : Int) ⟨te'.toArray⟩
          have hG := fun op X Y W => guard_ltok op X Y #[.int .i64 kd', .int .i64 nu', .int .i64 co', .int .i64 ro', .string ⟨te'.toArray⟩, .int .i64 (fr : Int)] #[.int .i64 kd', .int .i64 nu', .int .i64 co', .int .i64 ro', .string ⟨te'.toArray⟩, .int .i64 (fr : Int)] W
          clear ht hz at1 at2 at3 r1 r2 hFY hne hg1 hg2 hg3
          rw [e1, e2, e3]
          clear e1 e2 e3
          go_wp2_with fail
          go_roundw
          case rel => exact ⟨i + 1, by omega, by go_num, ((hb.alloc hb.size _).alloc (by simp; have := hb.size; omega) _).alloc (by simp; have := hb.size; omega) _⟩
          case measure => simp [intOf]; omega
        · have h4 := h3.trans (hb.mono h3.size)
          have HE4 := Lib.hid (HE.out.below h4)
          go_wp2_with fail
          refine (HA.out _ HE4.out).mono ?_; rintro e w5 ⟨rfl, b5⟩
          have h5 := h4.trans (b5.mono h4.size)
          go_wp2_with fail
          go_ret
          exact ⟨rfl, h5⟩
theorem lblanks_any (hS : ScanC) (hA : AliveC) (s : ByteArray) (u : Int) (hu : 0 ≤ u ∧ u ≤ 255) (hs : s.size ≤ 9223372036854775807) (w : World) (hE : EnvL w) :
    Calls Tryd.prog 4 #[.string s, .int .u8 u] w fun e w' => e = .returned (.bool true) ∧ Below w.heap.size w w' := by
  by_cases hl : s.size ≤ 300
  · by_cases hx : ansE s.data.toList = 0
    · by_cases h9 : s.size ≤ 90
      · exact lblanks_main hS hA s u hu hx h9 w hE
      · exact lblanks_over hS hA s u hu hl hx (by omega) w hE
    · exact lblanks_err hS hA s u hu hl hx w hE
  · exact lblanks_long hA s u (by omega) hs w hE
end Go.Proofs.YtjfmmnebhmlkeaaDoor
