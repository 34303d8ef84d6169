/- The contract of the document's own Parse. -/
import Derived.Test.YtpnmefkbfonhpaaDoorNumB
import Derived.Test.YtpnmefkbfonhpaaDoorTx
import Derived.Deep.CutRange
import Derived.Lib.IndexBytes
namespace Go.Proofs.YtpnmefkbfonhpaaDoor
open Go.RowKit

theorem head_of (s : ByteArray) (h : 0 < s.size) : s.data.toList.head? = some (s[0]'h) := by
  have h1 : 0 < s.data.toList.length := by rw [Array.length_toList]; exact h
  rw [List.head?_eq_getElem?, List.getElem?_eq_getElem h1]
  rfl
theorem at_of (s : ByteArray) (i : Nat) (h : i < s.size) : s.data.toList[i]? = some (s[i]'h) := by
  have h1 : i < s.data.toList.length := by rw [Array.length_toList]; exact h
  rw [List.getElem?_eq_getElem h1]
  rfl
theorem byte_eq {a b : UInt8} (h : a.toNat = b.toNat) : a = b := UInt8.toNat_inj.1 h
theorem bytes_eq {a b : ByteArray} (h : a.data.toList = b.data.toList) : a = b := by
  obtain ⟨x⟩ := a
  obtain ⟨y⟩ := b
  congr
  exact Array.toList_inj.1 h
theorem size_of (s : ByteArray) : s.data.toList.length = s.size := Array.length_toList

/-- Whether the figures, behind a minus or not, have no number's form, by what stands ahead. -/
def badB (m : Bool) (l : List UInt8) : Bool := decide (l = [] ∨ 19 < l.length ∨ (l.head? = some 48 ∧ (m = true ∨ 1 < l.length)))
theorem badB_is (m : Bool) (D : ByteArray) (h : 0 < D.size) : badB m D.data.toList = (decide (19 < D.size) || (decide ((D[0]'h).toNat = 48) && (m || decide (1 < D.size)))) := by
  apply bool_iff
  unfold badB
  have hn : D.data.toList ≠ [] := by
    intro e
    have := size_of D
    rw [e] at this
    simp at this
    omega
  have h48 : (D[0]'h) = 48 ↔ (D[0]'h).toNat = 48 := ⟨fun e => by rw [e]; rfl, fun e => byte_eq e⟩
  simp only [hn, false_or, size_of, head_of D h, Option.some.injEq, h48, decide_eq_true_eq, Bool.or_eq_true, Bool.and_eq_true]
theorem badB_none (m : Bool) (D : ByteArray) (h : D.size = 0) : badB m D.data.toList = true := by
  have hn : D.data.toList = [] := List.eq_nil_of_length_eq_zero (by rw [size_of]; exact h)
  unfold badB
  exact decide_eq_true (.inl hn)
theorem dec_none {l : List UInt8} {i : Nat} {c : UInt8} (hc : l[i]? = some c) (h : ¬ (48 ≤ c.toNat ∧ c.toNat ≤ 57)) : Lib.decFrom 0 l = none := by
  cases hd : Lib.decFrom 0 l with
  | none => rfl
  | some n =>
    obtain ⟨d, hv⟩ := Lib.digit_of_decFrom l 0 n hd i c hc
    unfold Lib.digitVal at hv
    rw [if_neg h] at hv
    cases hv
theorem dec_step {l : List UInt8} {i u : Nat} {c : UInt8} (hu : Lib.decFrom 0 (l.take i) = some u) (hc : l[i]? = some c) (h : 48 ≤ c.toNat ∧ c.toNat ≤ 57) : Lib.decFrom 0 (l.take (i + 1)) = some (10 * u + (c.toNat - 48)) := by
  have := Lib.decFrom_take l i 0 u c (c.toNat - 48) hu hc (by unfold Lib.digitVal; rw [if_pos h])
  rw [this]; congr 1; omega
theorem dec_small {l : List UInt8} {i u : Nat} (hu : Lib.decFrom 0 (l.take i) = some u) (hi : i < 19) : u ≤ 999999999999999999 := by
  have h1 := Lib.decFrom_lt _ _ _ hu
  have h2 : (l.take i).length ≤ 18 := by have := List.length_take_le i l; omega
  have h3 : 10 ^ (l.take i).length ≤ 10 ^ 18 := Nat.pow_le_pow_right (by decide) h2
  have e18 : (10 : Nat) ^ 18 = 1000000000000000000 := by decide
  omega

set_option maxHeartbeats 2000000 in
theorem rparse_core (s D : ByteArray) (m bad : Bool) (hs : s.size ≤ 300) (h0 : 0 < s.size) (hm : minusB s.data.toList = m) (hD : rest s.data.toList = D.data.toList) (hbad : badB m D.data.toList = bad) (w : World) :
    Calls Tryd.prog 23 #[.string s] w fun e w' => e = .returned (.tuple #[.int .i64 (pV s.data.toList), .bool (pB s.data.toList)]) ∧ w = w' := by
  have Hm := Lib.hid hm
  have HD := Lib.hid hD
  have Hb := Lib.hid hbad
  have hDs : D.size ≤ 300 := by
    rw [← size_of, ← hD]
    unfold rest
    rw [← size_of] at hs
    split
    · rw [List.length_tail]; omega
    · exact hs
  clear hm hD hbad
  go_enter Tryd.func23, Tryd.ntmps23
  go_upto_if 17 with fail
  go_cut [4, 5] from 18 to 19 (fun s4 s5 wx => s4 = .bool m ∧ s5 = .string D ∧ w = wx)
  case first =>
    have hh := Lib.hid (head_of s h0)
    cases m with
    | true =>
      have h45 : (s[0]'h0) = 45 := by
        have h1 := Hm.out
        unfold minusB at h1
        rw [hh.out] at h1
        simpa using h1
      have hz : (((s[0]'h0).toNat : Int) == 45) = true := by rw [h45]; rfl
      clear h45
      have HX : Hid (s.extract 1 s.size = D) := Lib.hid (by
        apply bytes_eq
        rw [Lib.extract_to_end, ← HD.out]
        unfold rest
        rw [if_pos Hm.out, List.drop_one])
      go_wp2_with fail
      go_meet
      exact ⟨congrArg Value.bool hz, congrArg Value.string HX.out, rfl⟩
    | false =>
      have h45 : (s[0]'h0) ≠ 45 := by
        have h1 := Hm.out
        unfold minusB at h1
        rw [hh.out] at h1
        simpa using h1
      have hz : (((s[0]'h0).toNat : Int) == 45) = false := by
        rw [beq_eq_false_iff_ne]
        intro e
        exact h45 (byte_eq (by have e2 : (45 : UInt8).toNat = 45 := rfl; omega))
      clear h45
      have HX : Hid (s = D) := Lib.hid (by
        apply bytes_eq
        rw [← HD.out]
        unfold rest
        rw [if_neg (by rw [Hm.out]; decide)])
      go_wp2_with fail
      go_meet
      exact ⟨congrArg Value.bool hz, congrArg Value.string HX.out, rfl⟩
  case rest =>
    obtain ⟨rfl, rfl, rfl⟩ := hcut
    go_upto_region 5 with fail
    go_cut [40] from 20 to 40 (fun s40 wx => s40 = .bool bad ∧ w = wx)
    case first =>
      by_cases n0 : D.size = 0
      · have HB := Lib.hid ((badB_none m D n0).symm.trans Hb.out)
        have hz : ((D.size : Int) == 0) = true := by rw [n0]; rfl
        clear n0
        go_wp2_with fail
        go_meet
        exact ⟨congrArg Value.bool HB.out, rfl⟩
      · have n1 : 0 < D.size := by omega
        have HB := Lib.hid ((badB_is m D n1).symm.trans Hb.out)
        have hz : ((D.size : Int) == 0) = false := by rw [beq_eq_false_iff_ne]; omega
        clear n0
        by_cases n19 : 19 < D.size
        · have hy : decide (19 < (D.size : Int)) = true := decide_eq_true (by omega)
          have hx : bad = true := by rw [← HB.out, decide_eq_true n19]; rfl
          subst hx
          clear n19
          go_wp2_with fail
          go_meet
          exact ⟨rfl, rfl⟩
        · have hy : decide (19 < (D.size : Int)) = false := decide_eq_false (by omega)
          have HC := HB.out
          rw [decide_eq_false n19, Bool.false_or] at HC
          clear n19
          by_cases h48 : (D[0]'n1).toNat = 48
          · have hv : (((D[0]'n1).toNat : Int) == 48) = true := by rw [h48]; rfl
            rw [decide_eq_true h48, Bool.true_and] at HC
            clear h48
            cases m with
            | true =>
              have hx : bad = true := HC.symm
              subst hx
              clear HC
              go_wp2_with fail
              go_meet
              exact ⟨rfl, rfl⟩
            | false =>
              by_cases n2 : 1 < D.size
              · have ht : decide (1 < (D.size : Int)) = true := decide_eq_true (by omega)
                have hx : bad = true := by rw [← HC, decide_eq_true n2]; rfl
                subst hx
                clear HC n2
                go_wp2_with fail
                go_meet
                exact ⟨rfl, rfl⟩
              · have ht : decide (1 < (D.size : Int)) = false := decide_eq_false (by omega)
                have hx : bad = false := by rw [← HC, decide_eq_false n2]; rfl
                subst hx
                clear HC n2
                go_wp2_with fail
                go_meet
                exact ⟨rfl, rfl⟩
          · have hv : (((D[0]'n1).toNat : Int) == 48) = false := by rw [beq_eq_false_iff_ne]; omega
            have hx : bad = false := by rw [← HC, decide_eq_false h48]; rfl
            subst hx
            clear HC h48
            go_wp2_with fail
            go_meet
            exact ⟨rfl, rfl⟩
    case rest =>
      obtain ⟨rfl, rfl⟩ := hcut
      cases bad with
      | true =>
        have HP : Hid (pV s.data.toList = 0 ∧ pB s.data.toList = false) := Lib.hid (p_bad (by
          have h1 := Hb.out
          unfold badB at h1
          rw [Hm.out, HD.out]
          have h2 := of_decide_eq_true h1
          rcases h2 with h2 | h2 | ⟨h2, h3⟩
          · exact .inl h2
          · exact .inr (.inl h2)
          · exact .inr (.inr (.inl ⟨h2, h3.imp id (by omega)⟩))))
        go_wp2_with fail
        go_ret2
        exact ⟨ret_pair' ⟨HP.out.1.symm, HP.out.2.symm⟩, rfl⟩
      | false =>
        have hf := of_decide_eq_false (show decide _ = false from Hb.out)
        have hlen : D.size ≤ 19 := by
          have := size_of D
          rcases Nat.lt_or_ge 19 D.size with h | h
          · exact absurd (.inr (.inl (by omega))) hf
          · exact h
        have hne : rest s.data.toList ≠ [] := by rw [HD.out]; exact fun h => hf (.inl h)
        have hhd : (rest s.data.toList).head? ≠ some 48 ∨ ((rest s.data.toList).length = 1 ∧ minusB s.data.toList = false) := by
          rw [HD.out, Hm.out]
          by_cases h : D.data.toList.head? = some 48
          · right
            have hnn := hne
            rw [HD.out] at hnn
            have := List.length_pos_iff.2 hnn
            refine ⟨?_, ?_⟩
            · rcases Nat.lt_or_ge 1 D.data.toList.length with h1 | h1
              · exact absurd (.inr (.inr ⟨h, .inr h1⟩)) hf
              · omega
            · cases m with
              | true => exact absurd (.inr (.inr ⟨h, .inl rfl⟩)) hf
              | false => rfl
          · exact .inl h
        have Hne := Lib.hid hne
        have Hhd := Lib.hid hhd
        clear hne hhd hf hs hDs
        go_wp2_with fail
        go_loop [6, 7] (fun v6 v7 => ∃ i u : Nat, i ≤ D.size ∧ v6 = .int .u64 u ∧ v7 = .int .i64 i ∧ Hid (Lib.decFrom 0 (D.data.toList.take i) = some u)) (fun _ v7 => D.size - (intOf v7).toNat)
        case atStart => exact ⟨0, 0, Nat.zero_le _, rfl, rfl, Lib.hid rfl⟩
        case round =>
          obtain ⟨i, u, hi, rfl, rfl, HU⟩ := hrel
          by_cases hlt : i < D.size
          · have hu := dec_small HU.out (by omega)
            have Hc := Lib.hid (at_of D i hlt)
            by_cases hdig : 48 ≤ (D[i]'hlt).toNat ∧ (D[i]'hlt).toNat ≤ 57
            · have HS := Lib.hid (dec_step HU.out Hc.out hdig)
              obtain ⟨g1, g2⟩ := hdig
              have d1 : decide (((D[i]'hlt).toNat : Int) < 48) = false := decide_eq_false (by omega)
              have d2 : decide (57 < ((D[i]'hlt).toNat : Int)) = false := decide_eq_false (by omega)
              go_wp2_with fail
              go_round
              case rel => exact ⟨i + 1, 10 * u + ((D[i]'hlt).toNat - 48), by omega, by go_num, by go_num, HS⟩
              case measure => simp [intOf]; omega
            · have HP : Hid (pV s.data.toList = 0 ∧ pB s.data.toList = false) := Lib.hid (p_bad (.inr (.inr (.inr (by rw [HD.out]; exact dec_none Hc.out hdig)))))
              by_cases h1 : (D[i]'hlt).toNat < 48
              · have d1 : decide (((D[i]'hlt).toNat : Int) < 48) = true := decide_eq_true (by omega)
                clear hdig h1
                go_wp2_with fail
                go_ret2
                exact ⟨ret_pair' ⟨HP.out.1.symm, HP.out.2.symm⟩, rfl⟩
              · have d1 : decide (((D[i]'hlt).toNat : Int) < 48) = false := decide_eq_false (by omega)
                have d2 : decide (57 < ((D[i]'hlt).toNat : Int)) = true := decide_eq_true (by omega)
                clear hdig h1
                go_wp2_with fail
                go_ret2
                exact ⟨ret_pair' ⟨HP.out.1.symm, HP.out.2.symm⟩, rfl⟩
          · have hd : Lib.decFrom 0 (rest s.data.toList) = some u := by
              have h1 := HU.out
              rw [List.take_of_length_le (by rw [size_of]; omega)] at h1
              rw [HD.out]; exact h1
            have HP := Lib.hid (p_form Hne.out Hhd.out hd)
            rw [Hm.out] at HP
            clear hd
            go_wp2_with fail
            refine (signed_any _ _ (by omega) _).mono ?_; rintro e w1 ⟨rfl, rfl⟩
            go_wp2_with fail
            go_ret2
            exact ⟨ret_pair' ⟨HP.out.1.symm, HP.out.2.symm⟩, rfl⟩

set_option maxHeartbeats 400000 in
theorem rparse_empty (w : World) :
    Calls Tryd.prog 23 #[.string ⟨#[]⟩] w fun e w' => e = .returned (.tuple #[.int .i64 0, .bool false]) ∧ w = w' := by
  go_enter Tryd.func23, Tryd.ntmps23
  go_wp2_with fail
  go_ret2
  exact ⟨rfl, rfl⟩
theorem rparse_any (s : ByteArray) (hs : s.size ≤ 300) (w : World) :
    Calls Tryd.prog 23 #[.string s] w fun e w' => e = .returned (.tuple #[.int .i64 (pV s.data.toList), .bool (pB s.data.toList)]) ∧ w = w' := by
  by_cases h0 : 0 < s.size
  · exact rparse_core s ⟨(rest s.data.toList).toArray⟩ _ _ hs h0 rfl (by simp) rfl w
  · have he : s = ⟨#[]⟩ := bytes_eq (List.eq_nil_of_length_eq_zero (by rw [size_of]; omega))
    subst he
    exact rparse_empty w
end Go.Proofs.YtpnmefkbfonhpaaDoor
