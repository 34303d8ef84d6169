/- The document's own tokens of a text. -/
import Derived.Test.YtjfmmnebhmlkeaaDoorLxF
import Derived.OwnWalk
import Derived.Deep.Onto
import Derived.WalkKit
namespace Go.Proofs.YtjfmmnebhmlkeaaDoor
open Go.RowKit

theorem grown_of_below' {w w' : World} (h : Below w.heap.size w w') (row : Option Nat) : w.grownBy w' row := ⟨h.os, h.tape, h.output, h.size, fun i hi _ => h.block i hi⟩
/-- A row of the call's own stays behind a call that only lays new blocks. -/
theorem own_below' {w w' : World} {base : Nat} {e : TypeId} {size : Nat} {v : Value} {n : Nat} {xs : List Value} (h : w.ownsRow base e size v n xs) (hb : Below w.heap.size w w') : w'.ownsRow base e size v n xs :=
  h.kept (grown_of_below' hb none) (by cases v.ownBlock <;> simp)
/-- tokens, as the cells of their list -/
def tokL (t : Tok) : List Value := [.int .i64 t.kind, .int .i64 t.num, .int .i64 t.col, .int .i64 t.row, .string ⟨t.text.toArray⟩, .int .i64 (t.frm : Int)]
def toksC (l : List Tok) : List Value := l.flatMap tokL
theorem toksC_snoc (l : List Tok) (t : Tok) : toksC (l ++ [t]) = toksC l ++ tokL t := by
  unfold toksC; rw [List.flatMap_append]; simp
theorem toksC_len (l : List Tok) : (toksC l).length = l.length * 6 := by
  unfold toksC
  induction l with
  | nil => rfl
  | cons a t ih => rw [List.flatMap_cons, List.length_append, ih]; simp [tokL]; omega
/-- the tokens from p on, behind those that are found; with so many rounds -/
def scanF (l : List UInt8) : Nat → Nat → List Tok → Option (List Tok) × Nat
  | 0, p, _ => (none, p)
  | k + 1, p, acc =>
    if p < l.length then
      if l.getD p 0 = 32 then scanF l k (p + 1) acc
      else match oneT l p with
        | none => (none, p)
        | some (t, n) => scanF l k (p + n) (acc ++ [t])
    else (some acc, 0)
def scanT (l : List UInt8) : Option (List Tok) × Nat := scanF l (l.length + 1) 0 []
/-- what Scan answers: the tokens, where, the error -/
def ansL (l : List UInt8) : List Tok := if 200 < l.length then [] else (scanT l).1.getD []
def ansP (l : List UInt8) : Int := if 200 < l.length then 0 else match (scanT l).1 with | some _ => 0 | none => ((scanT l).2 : Int)
def ansE (l : List UInt8) : Int := if 200 < l.length then 3 else match (scanT l).1 with | some _ => 0 | none => 2
theorem ans_some {l : List UInt8} (h : ¬ 200 < l.length) {a : List Tok} (e : scanT l = (some a, 0)) : ansL l = a ∧ ansP l = 0 ∧ ansE l = 0 := by
  unfold ansL ansP ansE
  rw [if_neg h, if_neg h, if_neg h, e]
  exact ⟨rfl, rfl, rfl⟩
theorem ans_none {l : List UInt8} (h : ¬ 200 < l.length) {p : Nat} (e : scanT l = (none, p)) : ansL l = [] ∧ ansP l = (p : Int) ∧ ansE l = 2 := by
  unfold ansL ansP ansE
  rw [if_neg h, if_neg h, if_neg h, e]
  exact ⟨rfl, rfl, rfl⟩
theorem run_pos {f : UInt8 → Bool} {l : List UInt8} {p : Nat} (hp : p < l.length) (h : f (l.getD p 0) = true) : 0 < runLen f l p := by
  have e : l.drop p = l[p] :: l.drop (p + 1) := List.drop_eq_getElem_cons hp
  have hf : f l[p] = true := by simpa [List.getD_eq_getElem?_getD, hp] using h
  unfold runLen
  rw [e, List.takeWhile_cons, hf]
  simp
theorem run_le (f : UInt8 → Bool) (l : List UInt8) (p : Nat) (hp : p ≤ l.length) : p + runLen f l p ≤ l.length := by
  unfold runLen
  have h := (List.takeWhile_prefix f (l := l.drop p)).length_le
  rw [List.length_drop] at h
  omega
theorem one_pos (s : ByteArray) {p n : Nat} {t : Tok} (hp : p < s.size) (h : oneT s.data.toList p = some (t, n)) : 0 < n ∧ p + n ≤ s.size := by
  have hl := len_of s
  unfold oneT at h
  split at h
  · rename_i hf
    split at h
    · simp at h
      rw [← h.2, ← hl]
      exact ⟨run_pos (by rw [hl]; exact hp) hf, run_le _ _ _ (by rw [hl]; omega)⟩
    · cases h
  · split at h
    · rename_i hf hc
      have hN : isNam (s.data.toList.getD p 0) = true := decide_eq_true (.inl hc)
      have hq : 0 < runLen isNam s.data.toList p ∧ p + runLen isNam s.data.toList p ≤ s.size := by
        rw [← hl]
        exact ⟨run_pos (by rw [hl]; exact hp) hN, run_le _ _ _ (by rw [hl]; omega)⟩
      split at h
      · simp at h; rw [← h.2]; exact hq
      · split at h
        · simp at h; rw [← h.2]; exact hq
        · split at h
          · simp at h; rw [← h.2]; exact hq
          · cases h
    · split at h
      · rename_i hr
        simp at h
        have := congrArg List.length hr
        unfold subL at this
        rw [List.length_take, List.length_drop, hl] at this
        simp at this
        omega
      · split at h
        · cases h
        · rename_i hm
          simp at h
          rcases mark_cases s p with h0 | h1 | ⟨h2, h3⟩
          · exact absurd h0 hm
          · rw [h1] at h; have := h.2; simp at this; omega
          · rw [h2] at h; have := h.2; simp at this; omega
theorem tok_info : (Tryd.prog.info? 42).map (fun i => (i.zero, i.size, i.bytes)) = some (some (.agg #[.int .i64 0, .int .i64 0, .int .i64 0, .int .i64 0, .string ⟨#[]⟩, .int .i64 0]), 6, 56) := by kernel_rfl

set_option maxHeartbeats 4000000 in
set_option maxRecDepth 100000 in
theorem lscan_short (s : ByteArray) (hs : s.size ≤ 200) (w : World) :
    Calls Tryd.prog 7 #[.string s] w fun e w' => ∃ v, e = .returned (.tuple #[v, .int .i64 (ansP s.data.toList), .int .i64 (ansE s.data.toList)]) ∧
      w'.ownsRow w.heap.size 42 6 v (ansL s.data.toList).length (toksC (ansL s.data.toList)) ∧ Below w.heap.size w w' := by
  obtain ⟨i0, hi0, hz0, hz1, hz2⟩ := info_parts tok_info
  have HI := Lib.hid hi0
  have HZ0 := Lib.hid hz0
  have HZ1 := Lib.hid hz1
  have HZ2 := Lib.hid hz2
  have HL := Lib.hid (len_of s)
  have HN : Hid (¬ 200 < s.data.toList.length) := Lib.hid (by rw [len_of]; omega)
  have d0 : decide ((200 : Int) < (s.size : Int)) = false := decide_eq_false (by omega)
  clear hi0 hz0 hz1 hz2
  go_enter Tryd.func7, Tryd.ntmps7
  go_wp2_with fail
  go_loopw [5, 6] (fun v a wr => ∃ (p k : Nat) (acc : List Tok), p ≤ s.size ∧ a = .int .i64 p ∧ acc.length ≤ p ∧ Hid (scanT s.data.toList = scanF s.data.toList k p acc ∧ s.size < k + p) ∧ wr.ownsRow w.heap.size 42 6 v acc.length (toksC acc) ∧ Below w.heap.size w wr) (fun _ a _ => s.size - (intOf a).toNat)
  case atStart => exact ⟨0, s.data.toList.length + 1, [], Nat.zero_le _, rfl, Nat.zero_le _, Lib.hid ⟨rfl, by rw [len_of]; omega⟩, World.ownsRow_nil _ _ _ _, Below.refl _ _⟩
  case round =>
    obtain ⟨p, k, acc, hp, rfl, hacc, HS, hown, hb⟩ := hrel
    have HO := Lib.hid hown
    clear hown
    by_cases hlt : p < s.size
    · have hk : ∃ k', k = k' + 1 := by
        cases k with
        | zero => have := HS.out.2; omega
        | succ k' => exact ⟨k', rfl⟩
      obtain ⟨k', rfl⟩ := hk
      have g0 := byte_getD s p hlt
      have hk' : s.size < k' + 1 + p := HS.out.2
      have hS : scanT s.data.toList = (if s[p]'hlt = 32 then scanF s.data.toList k' (p + 1) acc else match oneT s.data.toList p with | none => (none, p) | some (t, n) => scanF s.data.toList k' (p + n) (acc ++ [t])) := by
        rw [HS.out.1, scanF, if_pos (by rw [len_of]; exact hlt), g0]
      clear HS
      by_cases hc : s[p]'hlt = 32
      · rw [if_pos hc] at hS
        have HS' : Hid (scanT s.data.toList = scanF s.data.toList k' (p + 1) acc ∧ s.size < k' + (p + 1)) := Lib.hid ⟨hS, by omega⟩
        have t32 : (((s[p]'hlt).toNat : Int) == 32) = true := byte_eq (k := 32) hc
        clear hS hc g0 hk'
        go_wp2_with fail
        go_roundw
        case rel => exact ⟨p + 1, k', acc, by omega, by go_num, by omega, HS', HO.out, hb⟩
        case measure => simp [intOf]; omega
      · rw [if_neg hc] at hS
        have t32 : (((s[p]'hlt).toNat : Int) == 32) = false := byte_ne (k := 32) hc
        have h1 := lone_any s (by omega) p hlt
        clear hc g0
        cases ho : oneT s.data.toList p with
        | none =>
          rw [ho] at h1 hS
          have HA := Lib.hid (ans_none HN.out hS)
          have H1 := Lib.hid h1
          unfold oneV at H1
          clear ho h1 hS hk'
          go_wp2_with fail
          refine (H1.out _).mono ?_; rintro e w1 ⟨rfl, b1⟩
          go_wp2_with fail
          go_ret3
          exact ⟨.slice none 0 0, by rw [HA.out.2.1, HA.out.2.2]; rfl, by rw [HA.out.1]; exact World.ownsRow_nil _ _ _ _, (hb.trans (b1.mono hb.size)).alloc (Nat.le_trans hb.size b1.size) _⟩
        | some r =>
          obtain ⟨⟨kd, nu, co, ro, te, fr⟩, n⟩ := r
          obtain ⟨hn0, hn1⟩ := one_pos s hlt ho
          rw [ho] at h1 hS
          have HS' : Hid (scanT s.data.toList = scanF s.data.toList k' (p + n) (acc ++ [⟨kd, nu, co, ro, te, fr⟩]) ∧ s.size < k' + (p + n)) := Lib.hid ⟨hS, by omega⟩
          have H1 := Lib.hid h1
          unfold oneV tokC at H1
          have tn : ((n : Int) == 0) = false := by rw [beq_eq_false_iff_ne]; omega
          clear ho h1 hS hk'
          go_wp2_with fail
          refine (H1.out _).mono ?_; rintro e w1 ⟨rfl, b1⟩
          have HO1 := Lib.hid (own_below' HO.out b1)
          have hb1 := hb.trans (b1.mono hb.size)
          have hz := hb1.size
          clear b1
          go_wp2_with (at_builtin
                       refine wpList_append_own _ rfl _ _ 27 rfl w.heap.size 42 i0 (.agg #[.int .i64 0, .int .i64 0, .int .i64 0, .int .i64 0, .string ⟨#[]⟩, .int .i64 0]) 6 56 Tryd.underlying27 HI.out HZ0.out HZ1.out HZ2.out rfl (by decide) _ _ _ rfl ((HO1.out.alloc _).alloc _)
                         ⟨w1.heap.size + 1, 0, none⟩ 1 1 (tokL ⟨kd, nu, co, ro, te, fr⟩) rfl rfl ?c1 ?c2 ?c3 ?c4 ?c5 ?_)
          case c1 =>
            intro j u hj
            match j, hj with
            | 0, hj => simp [tokL] at hj; subst hj; simp [Addr.add, go_sem]
            | 1, hj => simp [tokL] at hj; subst hj; simp [Addr.add, go_sem]
            | 2, hj => simp [tokL] at hj; subst hj; simp [Addr.add, go_sem]
            | 3, hj => simp [tokL] at hj; subst hj; simp [Addr.add, go_sem]
            | 4, hj => simp [tokL] at hj; subst hj; simp [Addr.add, go_sem]
            | 5, hj => simp [tokL] at hj; subst hj; simp [Addr.add, go_sem]
          case c2 => intro u hu; simp [tokL] at hu; rcases hu with rfl | rfl | rfl | rfl | rfl | rfl <;> rfl
          case c3 => unfold maxLen; omega
          case c4 => omega
          case c5 => simp; omega
          intro v' w4 hown4 hg4 _
          rw [← toksC_snoc] at hown4
          have e5 : acc.length + 1 = (acc ++ [(⟨kd, nu, co, ro, te, fr⟩ : Tok)]).length := by simp
          rw [e5] at hown4
          have HO4 := Lib.hid hown4
          have hb4 : Below w.heap.size w w4 := ((hb1.alloc hz _).alloc (by simp; omega) _).grown hg4 (by simp; omega) (fun g hgg => (HO1.out.lt g hgg).1)
          clear hg4 hown4
          go_wp2_with fail
          go_roundw
          case rel => exact ⟨p + n, k', acc ++ [⟨kd, nu, co, ro, te, fr⟩], hn1, by go_num, by simp; omega, HS', HO4.out, hb4⟩
          case measure => simp [intOf]; omega
    · have hpe : ¬ p < s.data.toList.length := by rw [len_of]; exact hlt
      have hS : scanT s.data.toList = (some acc, 0) := by
        cases k with
        | zero => have := HS.out.2; omega
        | succ k' => rw [HS.out.1, scanF, if_neg hpe]
      have HA := Lib.hid (ans_some HN.out hS)
      clear hS hpe HS
      go_wp2_with fail
      go_ret3
      exact ⟨_, by rw [HA.out.2.1, HA.out.2.2]; rfl, by rw [HA.out.1]; exact HO.out, hb⟩
set_option maxHeartbeats 400000 in
theorem lscan_long (s : ByteArray) (hs : 200 < s.size) (hm : s.size ≤ 9223372036854775807) (w : World) :
    Calls Tryd.prog 7 #[.string s] w fun e w' => e = .returned (.tuple #[.slice none 0 0, .int .i64 0, .int .i64 3]) ∧ w = w' := by
  have d0 : decide ((200 : Int) < (s.size : Int)) = true := decide_eq_true (by omega)
  clear hs
  go_enter Tryd.func7, Tryd.ntmps7
  go_wp2_with fail
  go_ret3
  exact ⟨rfl, rfl⟩
/-- What the document's own Scan makes of any text. -/
theorem lscan_any (s : ByteArray) (hm : s.size ≤ 9223372036854775807) (w : World) :
    Calls Tryd.prog 7 #[.string s] w fun e w' => ∃ v, e = .returned (.tuple #[v, .int .i64 (ansP s.data.toList), .int .i64 (ansE s.data.toList)]) ∧
      w'.ownsRow w.heap.size 42 6 v (ansL s.data.toList).length (toksC (ansL s.data.toList)) ∧ Below w.heap.size w w' := by
  by_cases h : s.size ≤ 200
  · exact lscan_short s h w
  · have hl : 200 < s.data.toList.length := by rw [len_of]; omega
    have e1 : ansL s.data.toList = [] := if_pos hl
    have e2 : ansP s.data.toList = 0 := if_pos hl
    have e3 : ansE s.data.toList = 3 := if_pos hl
    refine (lscan_long s (by omega) hm w).mono fun e w' ⟨he, hw⟩ => ⟨.slice none 0 0, by rw [he, e2, e3], by rw [e1]; exact World.ownsRow_nil _ _ _ _, hw ▸ Below.refl _ _⟩
end Go.Proofs.YtjfmmnebhmlkeaaDoor
