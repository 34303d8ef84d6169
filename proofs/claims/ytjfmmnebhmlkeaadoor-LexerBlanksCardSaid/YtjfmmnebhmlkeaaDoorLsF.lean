/- lexer's own Scan. -/
import Derived.Test.YtjfmmnebhmlkeaaDoorLsE
import Derived.Test.YtjfmmnebhmlkeaaDoorLxJ
namespace Go.Proofs.YtjfmmnebhmlkeaaDoor
open Go.RowKit

/-- the token at a place, by the one that the rest begins with -/
theorem uone_rest (l : List UInt8) (p : Nat) : oneT l p = match oneT (l.drop p) 0 with | some (t, n) => some (⟨t.kind, t.num, t.col, t.row, t.text, p⟩, n) | none => none := by
  have e1 : (l.drop p).getD 0 0 = l.getD p 0 := by simp [List.getD_eq_getElem?_getD]
  have e2 : ∀ f, runLen f (l.drop p) 0 = runLen f l p := fun f => by unfold runLen; simp
  have e3 : ∀ n, subL (l.drop p) 0 n = subL l p n := fun n => by unfold subL; simp
  have e4 : markN (l.drop p) 0 = markN l p := by unfold markN; simp [List.getD_eq_getElem?_getD]
  unfold oneT
  simp only [e1, e2, e3, e4]
  by_cases h1 : isFig (l.getD p 0) = true
  · rw [if_pos h1, if_pos h1]
    cases numV (subL l p (runLen isFig l p)) <;> rfl
  · rw [if_neg h1, if_neg h1]
    by_cases h2 : 65 ≤ (l.getD p 0).toNat ∧ (l.getD p 0).toNat ≤ 90
    · rw [if_pos h2, if_pos h2]
      generalize subL l p (runLen isNam l p) = X
      by_cases h3 : wordB X = true
      · rw [if_pos h3, if_pos h3]
      · rw [if_neg h3, if_neg h3]
        by_cases h4 : prE X = 0
        · rw [if_pos h4, if_pos h4]
        · rw [if_neg h4, if_neg h4]
          by_cases h5 : prE X = 4
          · rw [if_pos h5, if_pos h5]
          · rw [if_neg h5, if_neg h5]
    · rw [if_neg h2, if_neg h2]
      by_cases h3 : subL l p 4 = [35, 82, 69, 70]
      · rw [if_pos h3, if_pos h3]
      · rw [if_neg h3, if_neg h3]
        by_cases h4 : markN l p = 0
        · rw [if_pos h4, if_pos h4]
        · rw [if_neg h4, if_neg h4]
theorem utail_size (s : ByteArray) (p : Nat) : (s.extract p s.size).size = s.size - p := by rw [ByteArray.size_extract]; omega
theorem utail_list (s : ByteArray) (p : Nat) (h : p ≤ s.size) : (s.extract p s.size).data.toList = s.data.toList.drop p := by
  have h2 : s.size = p + (s.size - p) := by omega
  have h3 := extract_sub s p (s.size - p)
  rw [← h2] at h3
  rw [h3]
  unfold subL
  exact List.take_of_length_le (by rw [List.length_drop, len_of]; omega)
theorem utok_info : (Tryd.prog.info? 37).map (fun i => (i.zero, i.size, i.bytes)) = some (some (.agg #[.int .i64 0, .int .i64 0, .int .i64 0, .int .i64 0, .string ⟨#[]⟩, .int .i64 0]), 6, 56) := by kernel_rfl

set_option maxHeartbeats 4000000 in
set_option maxRecDepth 100000 in
theorem uscan_short (s : ByteArray) (hs : s.size ≤ 200) (w : World) (hE : EnvL w) :
    Calls Tryd.prog 6 #[.string s] w fun e w' => ∃ v, e = .returned (.tuple #[v, .int .i64 (ansP s.data.toList), .int .i64 (ansE s.data.toList)]) ∧
      w'.ownsRow w.heap.size 37 6 v (ansL s.data.toList).length (toksC (ansL s.data.toList)) ∧ Below w.heap.size w w' := by
  obtain ⟨i0, hi0, hz0, hz1, hz2⟩ := info_parts utok_info
  have HI := Lib.hid hi0
  have HZ0 := Lib.hid hz0
  have HZ1 := Lib.hid hz1
  have HZ2 := Lib.hid hz2
  have HL := Lib.hid (len_of s)
  have HE := Lib.hid hE
  have HN : Hid (¬ 200 < s.data.toList.length) := Lib.hid (by rw [len_of]; omega)
  have d0 : decide ((200 : Int) < (s.size : Int)) = false := decide_eq_false (by omega)
  clear hi0 hz0 hz1 hz2 hE
  go_enter Tryd.func6, Tryd.ntmps6
  go_wp2_with fail
  go_loopw [5, 6] (fun v a wr => ∃ (p k : Nat) (acc : List Tok), p ≤ s.size ∧ a = .int .i64 p ∧ acc.length ≤ p ∧ Hid (scanT s.data.toList = scanF s.data.toList k p acc ∧ s.size < k + p) ∧ wr.ownsRow w.heap.size 37 6 v acc.length (toksC acc) ∧ Below w.heap.size w wr) (fun _ a _ => s.size - (intOf a).toNat)
  case atStart => exact ⟨0, s.data.toList.length + 1, [], Nat.zero_le _, rfl, Nat.zero_le _, Lib.hid ⟨rfl, by rw [len_of]; omega⟩, World.ownsRow_nil _ _ _ _, Below.refl _ _⟩
  case round =>
    obtain ⟨p, k, acc, hp, rfl, hacc, HS, hown, hb⟩ := hrel
    have HO := Lib.hid hown
    clear hown
    by_cases hlt : p < s.size
    · have hk : ∃ k', k = k' + 1 := by
        cases k with
        | zero => have := HS.out.2; omega
        | succ k' => exact ⟨k', rfl⟩
      obtain ⟨k', rfl⟩ := hk
      have g0 := byte_getD s p hlt
      have hk' : s.size < k' + 1 + p := HS.out.2
      have hS : scanT s.data.toList = (if s[p]'hlt = 32 then scanF s.data.toList k' (p + 1) acc else match oneT s.data.toList p with | none => (none, p) | some (t, n) => scanF s.data.toList k' (p + n) (acc ++ [t])) := by
        rw [HS.out.1, scanF, if_pos (by rw [len_of]; exact hlt), g0]; rfl
      clear HS
      by_cases hc : s[p]'hlt = 32
      · rw [if_pos hc] at hS
        have HS' : Hid (scanT s.data.toList = scanF s.data.toList k' (p + 1) acc ∧ s.size < k' + (p + 1)) := Lib.hid ⟨hS, by omega⟩
        have t32 : (((s[p]'hlt).toNat : Int) == 32) = true := byte_eq (k := 32) hc
        clear hS hc g0 hk'
        go_wp2_with fail
        go_roundw
        case rel => exact ⟨p + 1, k', acc, by omega, by go_num, by omega, HS', HO.out, hb⟩
        case measure => simp [intOf]; omega
      · rw [if_neg hc] at hS
        have t32 : (((s[p]'hlt).toNat : Int) == 32) = false := byte_ne (k := 32) hc
        have hx := utail_list s p (by omega)
        have h1 := fun w => utok_any (s.extract p s.size) (by rw [utail_size]; omega) (by rw [utail_size]; omega) w
        rw [hx] at h1
        rw [uone_rest] at hS
        have hnp : ∀ t n, oneT (s.data.toList.drop p) 0 = some (t, n) → 0 < n ∧ n ≤ s.size - p := fun t n h => by
          have := one_pos (s.extract p s.size) (p := 0) (n := n) (t := t) (by rw [utail_size]; omega) (by rw [hx]; exact h)
          rw [utail_size] at this
          omega
        clear hx
        clear hc g0
        cases ho : oneT (s.data.toList.drop p) 0 with
        | none =>
          clear hnp
          rw [ho] at h1 hS
          have HA := Lib.hid (ans_none HN.out hS)
          have H1 := Lib.hid h1
          unfold oneV at H1
          clear ho h1 hS hk'
          go_wp2_with fail
          refine (H1.out _ (HE.out.below hb)).mono ?_; rintro e w1 ⟨rfl, b1⟩
          go_wp2_with fail
          go_ret3
          exact ⟨.slice none 0 0, by rw [HA.out.2.1, HA.out.2.2]; rfl, by rw [HA.out.1]; exact World.ownsRow_nil _ _ _ _, (hb.trans (b1.mono hb.size)).alloc (Nat.le_trans hb.size b1.size) _⟩
        | some r =>
          obtain ⟨⟨kd, nu, co, ro, te, fr⟩, n⟩ := r
          obtain ⟨hn0, hn1⟩ := hnp _ _ ho
          clear hnp
          rw [ho] at h1 hS
          have HS' : Hid (scanT s.data.toList = scanF s.data.toList k' (p + n) (acc ++ [⟨kd, nu, co, ro, te, p⟩]) ∧ s.size < k' + (p + n)) := Lib.hid ⟨hS, by omega⟩
          have H1 := Lib.hid h1
          unfold oneV tokC at H1
          have tn : ((n : Int) == 0) = false := by rw [beq_eq_false_iff_ne]; omega
          clear ho h1 hS hk'
          go_wp2_with fail
          refine (H1.out _ (HE.out.below hb)).mono ?_; rintro e w1 ⟨rfl, b1⟩
          have HO1 := Lib.hid (own_below' HO.out b1)
          have hb1 := hb.trans (b1.mono hb.size)
          have hz := hb1.size
          clear b1
          go_wp2_with (at_builtin
                       refine wpList_append_own _ rfl _ _ 23 rfl w.heap.size 37 i0 (.agg #[.int .i64 0, .int .i64 0, .int .i64 0, .int .i64 0, .string ⟨#[]⟩, .int .i64 0]) 6 56 Tryd.underlying23 HI.out HZ0.out HZ1.out HZ2.out rfl (by decide) _ _ _ rfl ((HO1.out.alloc _).alloc _)
                         ⟨w1.heap.size + 1, 0, none⟩ 1 1 (tokL ⟨kd, nu, co, ro, te, p⟩) rfl rfl ?c1 ?c2 ?c3 ?c4 ?c5 ?_)
          case c1 =>
            intro j u hj
            match j, hj with
            | 0, hj => simp [tokL] at hj; subst hj; simp [Addr.add, go_sem]
            | 1, hj => simp [tokL] at hj; subst hj; simp [Addr.add, go_sem]
            | 2, hj => simp [tokL] at hj; subst hj; simp [Addr.add, go_sem]
            | 3, hj => simp [tokL] at hj; subst hj; simp [Addr.add, go_sem]
            | 4, hj => simp [tokL] at hj; subst hj; simp [Addr.add, go_sem]
            | 5, hj => simp [tokL] at hj; subst hj; simp [Addr.add, go_sem]
          case c2 => intro u hu; simp [tokL] at hu; rcases hu with rfl | rfl | rfl | rfl | rfl | rfl <;> rfl
          case c3 => unfold maxLen; omega
          case c4 => omega
          case c5 => simp; omega
          intro v' w4 hown4 hg4 _
          rw [← toksC_snoc] at hown4
          have e5 : acc.length + 1 = (acc ++ [(⟨kd, nu, co, ro, te, p⟩ : Tok)]).length := by simp
          rw [e5] at hown4
          have HO4 := Lib.hid hown4
          have hb4 : Below w.heap.size w w4 := ((hb1.alloc hz _).alloc (by simp; omega) _).grown hg4 (by simp; omega) (fun g hgg => (HO1.out.lt g hgg).1)
          clear hg4 hown4
          go_wp2_with fail
          go_roundw
          case rel => exact ⟨p + n, k', acc ++ [⟨kd, nu, co, ro, te, p⟩], by omega, by go_num, by simp; omega, HS', HO4.out, hb4⟩
          case measure => simp [intOf]; omega
    · have hpe : ¬ p < s.data.toList.length := by rw [len_of]; exact hlt
      have hS : scanT s.data.toList = (some acc, 0) := by
        cases k with
        | zero => have := HS.out.2; omega
        | succ k' => rw [HS.out.1, scanF, if_neg hpe]
      have HA := Lib.hid (ans_some HN.out hS)
      clear hS hpe HS
      go_wp2_with fail
      go_ret3
      exact ⟨_, by rw [HA.out.2.1, HA.out.2.2]; rfl, by rw [HA.out.1]; exact HO.out, hb⟩
set_option maxHeartbeats 400000 in
theorem uscan_long (s : ByteArray) (hs : 200 < s.size) (hm : s.size ≤ 9223372036854775807) (w : World) :
    Calls Tryd.prog 6 #[.string s] w fun e w' => e = .returned (.tuple #[.slice none 0 0, .int .i64 0, .int .i64 3]) ∧ w = w' := by
  have d0 : decide ((200 : Int) < (s.size : Int)) = true := decide_eq_true (by omega)
  clear hs
  go_enter Tryd.func6, Tryd.ntmps6
  go_wp2_with fail
  go_ret3
  exact ⟨rfl, rfl⟩
/-- SCAN's CONTRACT holds. -/
theorem scanC : ScanC := by
  intro s hs w hE
  by_cases h : s.size ≤ 200
  · exact uscan_short s h w hE
  · have hl : 200 < s.data.toList.length := by rw [len_of]; omega
    have e1 : ansL s.data.toList = [] := if_pos hl
    have e2 : ansP s.data.toList = 0 := if_pos hl
    have e3 : ansE s.data.toList = 3 := if_pos hl
    refine (uscan_long s (by omega) (by omega) w).mono fun e w' ⟨he, hw⟩ => ⟨.slice none 0 0, by rw [he, e2, e3], by rw [e1]; exact World.ownsRow_nil _ _ _ _, hw ▸ Below.refl _ _⟩
end Go.Proofs.YtjfmmnebhmlkeaaDoor
