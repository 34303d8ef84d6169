/- The statements' own test whether two lists of tokens are one. -/
import Derived.Test.YtjfmmnebhmlkeaaDoorLxG
import Derived.Deep.QuietTactic
import Derived.BigQuiet
namespace Go.Proofs.YtjfmmnebhmlkeaaDoor
open Go.RowKit

theorem tokGuard : Tryd.prog.eqGuardType Tryd.prog.depth 42 = false := by kernel_rfl
theorem tokStood : Tryd.prog.stoodInHeld 42 = false := by kernel_rfl
theorem tokStruct : Tryd.prog.underlying 42 = some (.struct (Tryd.prog.fieldsOf 42)) := by kernel_rfl
theorem guard_tok (op : BinOp) (X Y : Operand) (xs ys : Array Value) (W : World) : (eqGuard op 42 X Y (.agg xs) (.agg ys)).run Tryd.prog W = .ok () W := run_eqGuard_agg W op 42 X Y xs ys tokGuard
/-- are two tokens one? -/
def tokB (t u : Tok) : Bool := t.kind == u.kind && (t.num == u.num && (t.col == u.col && t.row == u.row && (t.text == u.text && t.frm == u.frm)))
theorem tokB_iff (t u : Tok) : tokB t u = true ↔ t = u := by
  obtain ⟨a, b, c, d, e, f⟩ := t
  obtain ⟨a', b', c', d', e', f'⟩ := u
  unfold tokB
  simp [Tok.mk.injEq, and_assoc]
set_option maxHeartbeats 4000000 in
theorem neq_tok (a b c d a' b' c' d' f f' : Int) (e e' : ByteArray) (W : World) : (binOp .neq 42 (.agg #[.int .i64 a, .int .i64 b, .int .i64 c, .int .i64 d, .string e, .int .i64 f]) (.agg #[.int .i64 a', .int .i64 b', .int .i64 c', .int .i64 d', .string e', .int .i64 f'])).run Tryd.prog W
    = .ok (.bool (!(a == a' && (b == b' && (c == c' && d == d' && (e.toList == e'.toList && f == f')))))) W := by
  rw [run_neq_struct, run_equalIn_agg W 9999 42 _ _ tokStruct tokStood]
  by_cases h1 : a = a' <;> by_cases h2 : b = b' <;> by_cases h3 : c = c' <;> by_cases h4 : d = d' <;> by_cases h5 : e.toList = e'.toList <;> by_cases h6 : f = f' <;> simp [go_sem, h1, h2, h3, h4, h5, h6]
/-- Where a list of tokens stands: its i-th token is read from these six cells. -/
def AtT (w : World) (g : Nat) (l : List Tok) : Prop := ∀ (i : Nat) (t : Tok), l[i]? = some t → w.cell? ⟨g, i * 6, none⟩ = some (.int .i64 t.kind) ∧ w.cell? ⟨g, i * 6 + 1, none⟩ = some (.int .i64 t.num) ∧ w.cell? ⟨g, i * 6 + 2, none⟩ = some (.int .i64 t.col) ∧
  w.cell? ⟨g, i * 6 + 3, none⟩ = some (.int .i64 t.row) ∧ w.cell? ⟨g, i * 6 + 4, none⟩ = some (.string ⟨t.text.toArray⟩) ∧ w.cell? ⟨g, i * 6 + 5, none⟩ = some (.int .i64 (t.frm : Int))
theorem toks_at : ∀ (l : List Tok) (i k : Nat) (t : Tok), l[i]? = some t → k < 6 → (toksC l)[i * 6 + k]? = (tokL t)[k]?
  | [], i, k, t, h, _ => by simp at h
  | p :: r, 0, k, t, h, hk => by
    simp at h; subst h
    show (tokL p ++ toksC r)[0 * 6 + k]? = _
    rw [Nat.zero_mul, Nat.zero_add, List.getElem?_append_left (by simpa [tokL] using hk)]
  | p :: r, i + 1, k, t, h, hk => by
    have := toks_at r i k t (by simpa using h) hk
    show (tokL p ++ toksC r)[(i + 1) * 6 + k]? = _
    rw [List.getElem?_append_right (by simp [tokL]; omega), show (i + 1) * 6 + k - (tokL p).length = i * 6 + k from by simp [tokL]; omega]
    exact this
theorem atT_of_own {w : World} {base g cap : Nat} {l : List Tok} (h : w.ownsRow base 42 6 (.slice (some ⟨g, 0, none⟩) l.length cap) l.length (toksC l)) : AtT w g l := by
  intro i t hi
  have hlt : i < l.length := (List.getElem?_eq_some_iff.1 hi).1
  have c := fun k (hk : k < 6) => (h.cellAt (i * 6 + k) (by omega)).trans (toks_at l i k t hi hk)
  exact ⟨c 0 (by omega), c 1 (by omega), c 2 (by omega), c 3 (by omega), c 4 (by omega), c 5 (by omega)⟩
theorem tok_cmp (t u : Tok) : (t.kind == u.kind && (t.num == u.num && (t.col == u.col && t.row == u.row && ((⟨t.text.toArray⟩ : ByteArray).toList == (⟨u.text.toArray⟩ : ByteArray).toList && (t.frm : Int) == (u.frm : Int))))) = tokB t u := by
  rw [ByteArray.toList_eq, ByteArray.toList_eq]
  have e : ((t.frm : Int) == (u.frm : Int)) = (t.frm == u.frm) := by rw [Bool.eq_iff_iff, beq_iff_eq, beq_iff_eq]; exact ⟨fun h => by omega, fun h => by omega⟩
  unfold tokB
  rw [e]
set_option maxHeartbeats 2000000 in
theorem lsame_core (l m : List Tok) (g h ca cb : Nat) (w : World) (hl : l.length ≤ maxLen) (hm : m.length ≤ maxLen) (ha : AtT w g l) (hb : AtT w h m) :
    Calls Tryd.prog 8 #[.slice (some ⟨g, 0, none⟩) l.length ca, .slice (some ⟨h, 0, none⟩) m.length cb] w fun e w' => (∃ b, e = .returned (.bool b) ∧ (b = true ↔ l = m)) ∧ ∃ n, w' = w.drewN n := by
  have HA := Lib.hid ha
  have HB := Lib.hid hb
  unfold maxLen at hl hm
  clear ha hb
  by_cases hne : l.length = m.length
  · have d0 : ((l.length : Int) != (m.length : Int)) = false := by simp [hne]
    have HN := Lib.hid hne
    clear hne
    go_enter Tryd.func8, Tryd.ntmps8
    go_wp2_with fail
    go_loopw [5] (fun v wr => ∃ i : Nat, i ≤ l.length ∧ v = .int .i64 i ∧ Hid (l.take i = m.take i) ∧ ∃ n, wr = w.drewN n) (fun v _ => l.length - (intOf v).toNat)
    case atStart => exact ⟨0, Nat.zero_le _, rfl, Lib.hid (by simp), 0, rfl⟩
    case round =>
      obtain ⟨i, hi, rfl, HU, nd, rfl⟩ := hrel
      by_cases hlt : i < l.length
      · obtain ⟨t, ht⟩ : ∃ t, l[i]? = some t := ⟨_, List.getElem?_eq_getElem hlt⟩
        have hlt2 : i < m.length := by have := HN.out; omega
        obtain ⟨u, hu⟩ : ∃ u, m[i]? = some u := ⟨_, List.getElem?_eq_getElem hlt2⟩
        obtain ⟨a0, a1, a2, a3, a4, a5⟩ := HA.out i t ht
        obtain ⟨b0, b1, b2, b3, b4, b5⟩ := HB.out i u hu
        have Ht := Lib.hid ht
        have Hu := Lib.hid hu
        clear ht hu
        have hG := fun X Y W => guard_tok .neq X Y #[.int .i64 t.kind, .int .i64 t.num, .int .i64 t.col, .int .i64 t.row, .string ⟨t.text.toArray⟩, .int .i64 (t.frm : Int)] #[.int .i64 u.kind, .int .i64 u.num, .int .i64 u.col, .int .i64 u.row, .string ⟨u.text.toArray⟩, .int .i64 (u.frm : Int)] W
        have hE := neq_tok t.kind t.num t.col t.row u.kind u.num u.col u.row (t.frm : Int) (u.frm : Int) ⟨t.text.toArray⟩ ⟨u.text.toArray⟩
        rw [tok_cmp] at hE
        cases he : tokB t u with
        | false =>
          rw [he] at hE
          have HF := Lib.hid (show ¬ l = m from by
            rintro rfl
            rw [Ht.out] at Hu
            have := Option.some.inj Hu.out
            rw [(tokB_iff t u).2 this] at he
            cases he)
          clear he
          go_wp2_with fail
          go_quiet (fail)
          go_wp2_with fail
          go_ret
          exact ⟨⟨false, rfl, by simp [HF.out]⟩, nd + _, by first | exact (World.drewN_drewN _ _ _) | rfl⟩
        | true =>
          rw [he] at hE
          have HS : Hid (l.take (i + 1) = m.take (i + 1)) := Lib.hid (by
            have h2 := (tokB_iff t u).1 he
            subst h2
            rw [List.take_add_one, List.take_add_one, HU.out, Ht.out, Hu.out])
          clear he
          go_wp2_with fail
          go_quiet (fail)
          go_wp2_with fail
          go_roundw
          case rel => exact ⟨i + 1, by omega, by go_num, HS, nd + nq, by first | exact (World.drewN_drewN _ _ _) | rfl⟩
          case measure => simp [intOf]; omega
      · have HF := Lib.hid (show l = m from by
          have h1 := HU.out
          rwa [List.take_of_length_le (by omega), List.take_of_length_le (by have := HN.out; omega)] at h1)
        go_wp2_with fail
        go_ret
        exact ⟨⟨true, rfl, by simp [HF.out]⟩, nd, rfl⟩
  · have d0 : ((l.length : Int) != (m.length : Int)) = true := by simpa using fun h => hne (by omega)
    have HF := Lib.hid (show ¬ l = m from fun e => hne (by rw [e]))
    clear hne
    go_enter Tryd.func8, Tryd.ntmps8
    go_wp2_with fail
    go_ret
    exact ⟨⟨false, rfl, by simp [HF.out]⟩, 0, by simp [World.drewN_zero]⟩
end Go.Proofs.YtjfmmnebhmlkeaaDoor
