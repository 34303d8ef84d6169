/- Texts joined: LxD, LxE. -/
import Derived.Test.YteflmfifhmlpiaaDoorMa02
import Derived.Test.YteflmfifhmlpiaaDoorMa03
set_option linter.all false
set_option linter.unusedVariables false
set_option linter.unusedSimpArgs false
namespace Go.Proofs.YteflmfifhmlpiaaDoor
open Go.RowKit

structure Tok where
  kind : Int
  num : Int
  col : Int
  row : Int
  text : List UInt8
  frm : Nat
def runLen (f : UInt8 → Bool) (l : List UInt8) (p : Nat) : Nat := ((l.drop p).takeWhile f).length
def subL (l : List UInt8) (p n : Nat) : List UInt8 := (l.drop p).take n
def oneT (l : List UInt8) (p : Nat) : Option (Tok × Nat) :=
  if isFig (l.getD p 0) = true then
    match numV (subL l p (runLen isFig l p)) with
    | some u => some (⟨1, (u : Int), 0, 0, [], p⟩, runLen isFig l p)
    | none => none
  else if 65 ≤ (l.getD p 0).toNat ∧ (l.getD p 0).toNat ≤ 90 then
    if wordB (subL l p (runLen isNam l p)) = true then some (⟨4, 0, 0, 0, subL l p (runLen isNam l p), p⟩, runLen isNam l p)
    else if prE (subL l p (runLen isNam l p)) = 0 then some (⟨2, 0, prC (subL l p (runLen isNam l p)), prR (subL l p (runLen isNam l p)), [], p⟩, runLen isNam l p)
    else if prE (subL l p (runLen isNam l p)) = 4 then some (⟨3, 0, 0, 0, [], p⟩, runLen isNam l p) else none
  else if subL l p 4 = [35, 82, 69, 70] then some (⟨3, 0, 0, 0, [], p⟩, 4)
  else if markN l p = 0 then none else some (⟨5, 0, 0, 0, subL l p (markN l p).toNat, p⟩, (markN l p).toNat)
def tokC (t : Tok) : Array Value := #[.int .i64 t.kind, .int .i64 t.num, .int .i64 t.col, .int .i64 t.row, .string ⟨t.text.toArray⟩, .int .i64 (t.frm : Int)]
def oneV (o : Option (Tok × Nat)) : Value := match o with
  | some (t, n) => .tuple #[.agg (tokC t), .int .i64 (n : Int)]
  | none => .tuple #[.agg #[.int .i64 0, .int .i64 0, .int .i64 0, .int .i64 0, .string ⟨#[]⟩, .int .i64 0], .int .i64 0]
theorem run_is {f : UInt8 → Bool} {l : List UInt8} : ∀ {n p : Nat}, (∀ j, j < n → f (l.getD (p + j) 0) = true) → p + n ≤ l.length → (p + n = l.length ∨ f (l.getD (p + n) 0) = false) → runLen f l p = n
  | 0, p, _, h2, h3 => by
    unfold runLen
    by_cases hp : p < l.length
    · have e : l.drop p = l[p] :: l.drop (p + 1) := List.drop_eq_getElem_cons hp
      have hf : f l[p] = false := by
        rcases h3 with h3 | h3
        · omega
        · simpa [List.getD_eq_getElem?_getD, hp] using h3
      rw [e, List.takeWhile_cons, hf]
      rfl
    · rw [List.drop_eq_nil_of_le (by omega)]; rfl
  | n + 1, p, h1, h2, h3 => by
    have hp : p < l.length := by omega
    have e : l.drop p = l[p] :: l.drop (p + 1) := List.drop_eq_getElem_cons hp
    have hf : f l[p] = true := by
      have := h1 0 (by omega)
      simpa [List.getD_eq_getElem?_getD, hp] using this
    have ih := run_is (f := f) (l := l) (n := n) (p := p + 1) (fun j hj => by
      have := h1 (j + 1) (by omega)
      rwa [show p + (j + 1) = p + 1 + j from by omega] at this) (by omega) (by rwa [show p + 1 + n = p + (n + 1) from by omega])
    unfold runLen at ih ⊢
    rw [e, List.takeWhile_cons, hf]
    simp [ih]
theorem extract_sub (s : ByteArray) (p n : Nat) : (s.extract p (p + n)).data.toList = subL s.data.toList p n := by
  unfold subL
  simp [ByteArray.data_extract]
theorem sub_len {l : List UInt8} {p n : Nat} (h : p + n ≤ l.length) : (subL l p n).length = n := by
  unfold subL; simp; omega
theorem sub_getD {l : List UInt8} {p n i : Nat} (hi : i < n) : (subL l p n).getD i 0 = l.getD (p + i) 0 := by
  unfold subL
  simp [List.getD_eq_getElem?_getD, hi]
theorem extract_size (s : ByteArray) (p n : Nat) (h : p + n ≤ s.size) : (s.extract p (p + n)).size = n := by
  rw [← len_of, extract_sub, sub_len (by rw [len_of]; exact h)]
theorem fig_sub (s : ByteArray) (p n : Nat) (hU : ∀ j, j < n → isFig (s.data.toList.getD (p + j) 0) = true) (hn : p + n ≤ s.size) (i : Nat) (h : i < (s.extract p (p + n)).size) : isFig ((s.extract p (p + n))[i]'h) = true := by
  have hi : i < n := by rw [extract_size s p n hn] at h; exact h
  rw [← byte_getD (s.extract p (p + n)) i h, extract_sub, sub_getD hi]
  exact hU i hi
theorem extract_string (s : ByteArray) (p n : Nat) : s.extract p (p + n) = ⟨(subL s.data.toList p n).toArray⟩ := by
  rw [← extract_sub]

set_option maxHeartbeats 1000000 in
theorem lone_fig (s : ByteArray) (hs : s.size ≤ 4611686018427387903) (p : Nat) (h : p < s.size) (hf : isFig (s[p]'h) = true) (w : World) :
    Calls Tryd.prog 60 #[.string s, .int .i64 (p : Int)] w fun e w' => e = .returned (oneV (oneT s.data.toList p)) ∧ Below w.heap.size w w' := by
  have H1 := Lib.hid (lfigure_any (s[p]'h))
  rw [hf] at H1
  have g0 := byte_getD s p h
  have HF := Lib.hid hf
  clear hf
  go_enter Tryd.func60, Tryd.ntmps60
  go_wp2_with fail
  refine (H1.out _).mono ?_; rintro e w1 ⟨rfl, rfl⟩
  go_wp2_with fail
  go_loop [6] (fun v => ∃ n : Nat, p + n ≤ s.size ∧ v = .int .i64 n ∧ Hid (∀ j, j < n → isFig (s.data.toList.getD (p + j) 0) = true)) (fun v => s.size - p - (intOf v).toNat)
  case atStart => exact ⟨0, by omega, rfl, Lib.hid fun j hj => by omega⟩
  case round =>
    obtain ⟨n, hn, rfl, HU⟩ := hrel
    by_cases hlt : p + n < s.size
    · have gn := byte_getD s (p + n) hlt
      by_cases hd : 48 ≤ (s[p + n]'hlt).toNat ∧ (s[p + n]'hlt).toNat ≤ 57
      · have HU' : Hid (∀ j, j < n + 1 → isFig (s.data.toList.getD (p + j) 0) = true) := Lib.hid fun j hj => by
          by_cases e : j = n
          · subst e; rw [gn]; exact decide_eq_true hd
          · exact HU.out j (by omega)
        obtain ⟨d1, d2⟩ := hd
        clear gn
        go_wp2_with fail
        go_round
        case rel => exact ⟨n + 1, by omega, by go_num, HU'⟩
        case measure => simp [intOf]; omega
      · have hR : runLen isFig s.data.toList p = n := run_is HU.out (by rw [len_of]; omega) (.inr (by rw [gn]; exact decide_eq_false hd))
        by_cases d1 : (s[p + n]'hlt).toNat < 48
        · clear hd
          have hO : oneT s.data.toList p = (match numV (subL s.data.toList p n) with | some u => some (⟨1, (u : Int), 0, 0, [], p⟩, n) | none => none) := by
            unfold oneT
            rw [if_pos (by rw [g0]; exact HF.out), hR]
          have hN := lnumber_any (s.extract p (p + n)) (by rw [extract_size s p n hn]; omega) (fig_sub s p n HU.out hn)
          rw [extract_sub] at hN
          have HN := Lib.hid hN
          clear hN hR gn
          cases hv : numV (subL s.data.toList p n) with
          | none =>
            rw [hv] at hO HN
            have HO := Lib.hid (show oneV (oneT s.data.toList p) = .tuple #[.agg #[.int .i64 0, .int .i64 0, .int .i64 0, .int .i64 0, .string ⟨#[]⟩, .int .i64 0], .int .i64 0] from by rw [hO]; rfl)
            clear hO hv
            go_wp2_with fail
            refine (HN.out _).mono ?_; rintro e w2 ⟨rfl, rfl⟩
            go_wp2_with fail
            exact bodyPost_ret (v := .tuple #[.agg #[.int .i64 0, .int .i64 0, .int .i64 0, .int .i64 0, .string ⟨#[]⟩, .int .i64 0], .int .i64 0]) (by simp [results, Tryd.results60, go_sem]) rfl ⟨by rw [HO.out], ((Below.refl _ _).alloc (Nat.le_refl _) _)⟩
          | some u =>
            have hM : numN (subL s.data.toList p n) = (u : Int) := by unfold numN; rw [hv]
            rw [hv] at hO HN
            rw [hM] at HN
            have HO := Lib.hid (show oneV (oneT s.data.toList p) = .tuple #[.agg #[.int .i64 1, .int .i64 (u : Int), .int .i64 0, .int .i64 0, .string ⟨#[]⟩, .int .i64 (p : Int)], .int .i64 (n : Int)] from by rw [hO]; rfl)
            clear hO hM hv
            go_wp2_with fail
            refine (HN.out _).mono ?_; rintro e w2 ⟨rfl, rfl⟩
            go_wp2_with fail
            exact bodyPost_ret (v := .tuple #[.agg #[.int .i64 1, .int .i64 (u : Int), .int .i64 0, .int .i64 0, .string ⟨#[]⟩, .int .i64 (p : Int)], .int .i64 (n : Int)]) (by simp [results, Tryd.results60, go_sem]) rfl ⟨by rw [HO.out], ((Below.refl _ _).alloc (Nat.le_refl _) _)⟩
        · have d2 : 57 < (s[p + n]'hlt).toNat := by omega
          have d3 : 48 ≤ (s[p + n]'hlt).toNat := by omega
          clear hd d1
          have hO : oneT s.data.toList p = (match numV (subL s.data.toList p n) with | some u => some (⟨1, (u : Int), 0, 0, [], p⟩, n) | none => none) := by
            unfold oneT
            rw [if_pos (by rw [g0]; exact HF.out), hR]
          have hN := lnumber_any (s.extract p (p + n)) (by rw [extract_size s p n hn]; omega) (fig_sub s p n HU.out hn)
          rw [extract_sub] at hN
          have HN := Lib.hid hN
          clear hN hR gn
          cases hv : numV (subL s.data.toList p n) with
          | none =>
            rw [hv] at hO HN
            have HO := Lib.hid (show oneV (oneT s.data.toList p) = .tuple #[.agg #[.int .i64 0, .int .i64 0, .int .i64 0, .int .i64 0, .string ⟨#[]⟩, .int .i64 0], .int .i64 0] from by rw [hO]; rfl)
            clear hO hv
            go_wp2_with fail
            refine (HN.out _).mono ?_; rintro e w2 ⟨rfl, rfl⟩
            go_wp2_with fail
            exact bodyPost_ret (v := .tuple #[.agg #[.int .i64 0, .int .i64 0, .int .i64 0, .int .i64 0, .string ⟨#[]⟩, .int .i64 0], .int .i64 0]) (by simp [results, Tryd.results60, go_sem]) rfl ⟨by rw [HO.out], ((Below.refl _ _).alloc (Nat.le_refl _) _)⟩
          | some u =>
            have hM : numN (subL s.data.toList p n) = (u : Int) := by unfold numN; rw [hv]
            rw [hv] at hO HN
            rw [hM] at HN
            have HO := Lib.hid (show oneV (oneT s.data.toList p) = .tuple #[.agg #[.int .i64 1, .int .i64 (u : Int), .int .i64 0, .int .i64 0, .string ⟨#[]⟩, .int .i64 (p : Int)], .int .i64 (n : Int)] from by rw [hO]; rfl)
            clear hO hM hv
            go_wp2_with fail
            refine (HN.out _).mono ?_; rintro e w2 ⟨rfl, rfl⟩
            go_wp2_with fail
            exact bodyPost_ret (v := .tuple #[.agg #[.int .i64 1, .int .i64 (u : Int), .int .i64 0, .int .i64 0, .string ⟨#[]⟩, .int .i64 (p : Int)], .int .i64 (n : Int)]) (by simp [results, Tryd.results60, go_sem]) rfl ⟨by rw [HO.out], ((Below.refl _ _).alloc (Nat.le_refl _) _)⟩
    · have hR : runLen isFig s.data.toList p = n := run_is HU.out (by rw [len_of]; omega) (.inl (by rw [len_of]; omega))
      have hO : oneT s.data.toList p = (match numV (subL s.data.toList p n) with | some u => some (⟨1, (u : Int), 0, 0, [], p⟩, n) | none => none) := by
        unfold oneT
        rw [if_pos (by rw [g0]; exact HF.out), hR]
      have hN := lnumber_any (s.extract p (p + n)) (by rw [extract_size s p n hn]; omega) (fig_sub s p n HU.out hn)
      rw [extract_sub] at hN
      have HN := Lib.hid hN
      clear hN hR 
      cases hv : numV (subL s.data.toList p n) with
      | none =>
        rw [hv] at hO HN
        have HO := Lib.hid (show oneV (oneT s.data.toList p) = .tuple #[.agg #[.int .i64 0, .int .i64 0, .int .i64 0, .int .i64 0, .string ⟨#[]⟩, .int .i64 0], .int .i64 0] from by rw [hO]; rfl)
        clear hO hv
        go_wp2_with fail
        refine (HN.out _).mono ?_; rintro e w2 ⟨rfl, rfl⟩
        go_wp2_with fail
        exact bodyPost_ret (v := .tuple #[.agg #[.int .i64 0, .int .i64 0, .int .i64 0, .int .i64 0, .string ⟨#[]⟩, .int .i64 0], .int .i64 0]) (by simp [results, Tryd.results60, go_sem]) rfl ⟨by rw [HO.out], ((Below.refl _ _).alloc (Nat.le_refl _) _)⟩
      | some u =>
        have hM : numN (subL s.data.toList p n) = (u : Int) := by unfold numN; rw [hv]
        rw [hv] at hO HN
        rw [hM] at HN
        have HO := Lib.hid (show oneV (oneT s.data.toList p) = .tuple #[.agg #[.int .i64 1, .int .i64 (u : Int), .int .i64 0, .int .i64 0, .string ⟨#[]⟩, .int .i64 (p : Int)], .int .i64 (n : Int)] from by rw [hO]; rfl)
        clear hO hM hv
        go_wp2_with fail
        refine (HN.out _).mono ?_; rintro e w2 ⟨rfl, rfl⟩
        go_wp2_with fail
        exact bodyPost_ret (v := .tuple #[.agg #[.int .i64 1, .int .i64 (u : Int), .int .i64 0, .int .i64 0, .string ⟨#[]⟩, .int .i64 (p : Int)], .int .i64 (n : Int)]) (by simp [results, Tryd.results60, go_sem]) rfl ⟨by rw [HO.out], ((Below.refl _ _).alloc (Nat.le_refl _) _)⟩
end Go.Proofs.YteflmfifhmlpiaaDoor
namespace Go.Proofs.YteflmfifhmlpiaaDoor
open Go.RowKit

set_option maxHeartbeats 4000000 in
set_option maxRecDepth 100000 in
theorem lone_name (s : ByteArray) (hs : s.size ≤ 4611686018427387903) (p : Nat) (h : p < s.size) (hf : isFig (s[p]'h) = false) (hl : 65 ≤ (s[p]'h).toNat ∧ (s[p]'h).toNat ≤ 90) (w : World) :
    Calls Tryd.prog 60 #[.string s, .int .i64 (p : Int)] w fun e w' => e = .returned (oneV (oneT s.data.toList p)) ∧ Below w.heap.size w w' := by
  have H1 := Lib.hid (lfigure_any (s[p]'h))
  rw [hf] at H1
  have g0 := byte_getD s p h
  have HF := Lib.hid (And.intro hf hl)
  have l1 : decide ((65 : Int) ≤ ((s[p]'h).toNat : Int)) = true := decide_eq_true (by omega)
  have l2 : decide (((s[p]'h).toNat : Int) ≤ 90) = true := decide_eq_true (by omega)
  clear hf hl
  go_enter Tryd.func60, Tryd.ntmps60
  go_wp2_with fail
  refine (H1.out _).mono ?_; rintro e w1 ⟨rfl, rfl⟩
  go_wp2_with fail
  go_loopw [6] (fun v wr => ∃ n : Nat, p + n ≤ s.size ∧ v = .int .i64 n ∧ Hid (∀ j, j < n → isNam (s.data.toList.getD (p + j) 0) = true) ∧ wr = w.alloc (.cells #[.int .i64 0, .int .i64 0, .int .i64 0, .int .i64 0, .string ⟨#[]⟩, .int .i64 0] 78)) (fun v _ => s.size - p - (intOf v).toNat)
  case atStart => exact ⟨0, by omega, rfl, Lib.hid fun j hj => by omega, rfl⟩
  case round =>
    obtain ⟨n, hn, rfl, HU, rfl⟩ := hrel
    by_cases hlt : p + n < s.size
    · have gn := byte_getD s (p + n) hlt
      have h4 := lnamed_any (s[p + n]'hlt)
      cases hd : isNam (s[p + n]'hlt) with
      | true =>
        rw [hd] at h4
        have H4 := Lib.hid h4
        have HU' : Hid (∀ j, j < n + 1 → isNam (s.data.toList.getD (p + j) 0) = true) := Lib.hid fun j hj => by
          by_cases e : j = n
          · subst e; rw [gn]; exact hd
          · exact HU.out j (by omega)
        clear gn hd h4
        go_wp2_with fail
        refine (H4.out _).mono ?_; rintro e w3 ⟨rfl, rfl⟩
        go_wp2_with fail
        go_roundw
        case rel => exact ⟨n + 1, by omega, by go_num, HU', by first | rfl | trivial⟩
        case measure => simp [intOf]; omega
      | false =>
        rw [hd] at h4
        have H4 := Lib.hid h4
        have hR : runLen isNam s.data.toList p = n := run_is HU.out (by rw [len_of]; omega) (.inr (by rw [gn]; exact hd))
        have hO : oneT s.data.toList p = (if wordB (subL s.data.toList p n) = true then some (⟨4, 0, 0, 0, subL s.data.toList p n, p⟩, n) else if prE (subL s.data.toList p n) = 0 then some (⟨2, 0, prC (subL s.data.toList p n), prR (subL s.data.toList p n), [], p⟩, n) else if prE (subL s.data.toList p n) = 4 then some (⟨3, 0, 0, 0, [], p⟩, n) else none) := by
          unfold oneT
          rw [if_neg (by rw [g0, HF.out.1]; decide), if_pos (by rw [g0]; exact HF.out.2), hR]
        have h2 := rparse2_any (s.extract p (p + n)) (by rw [extract_size s p n hn]; omega)
        have h3 := lword_any (s.extract p (p + n))
        rw [extract_sub] at h2 h3
        have H2 := Lib.hid h2
        have hX := extract_string s p n
        clear h2 hR gn hd h4
        cases hw : wordB (subL s.data.toList p n) with
        | true =>
          rw [hw] at h3
          have H3 := Lib.hid h3
          have HO := Lib.hid (show oneV (oneT s.data.toList p) = .tuple #[.agg #[.int .i64 4, .int .i64 0, .int .i64 0, .int .i64 0, .string (s.extract p (p + n)), .int .i64 (p : Int)], .int .i64 (n : Int)] from by rw [hO, if_pos hw, hX]; rfl)
          clear hO hw h3 hX
          go_wp2_with fail
          refine (H4.out _).mono ?_; rintro e w3 ⟨rfl, rfl⟩
          go_wp2_with fail
          refine (H2.out _).mono ?_; rintro e w1 ⟨rfl, b1⟩
          have k0 := keep_fresh b1 0 (v := .int .i64 0) rfl
          have k1 := keep_fresh b1 1 (v := .int .i64 0) rfl
          have k2 := keep_fresh b1 2 (v := .int .i64 0) rfl
          have k3 := keep_fresh b1 3 (v := .int .i64 0) rfl
          have k4 := keep_fresh b1 4 (v := .string ⟨#[]⟩) rfl
          have k5 := keep_fresh b1 5 (v := .int .i64 0) rfl
          have f0 := fresh_frozen b1 0
          have f1 := fresh_frozen b1 1
          have f2 := fresh_frozen b1 2
          have f3 := fresh_frozen b1 3
          have f4 := fresh_frozen b1 4
          have f5 := fresh_frozen b1 5
          have h1 : Below w.heap.size w w1 := ((Below.refl _ _).alloc (Nat.le_refl _) _).trans (b1.mono (by simp))
          have zz : w.heap.size < w1.heap.size := by have := b1.size; simp at this; omega
          clear b1
          go_wp2_with fail
          refine (H3.out _).mono ?_; rintro e w2 ⟨rfl, rfl⟩
          go_wp2_with fail
          exact bodyPost_ret (v := .tuple #[.agg #[.int .i64 4, .int .i64 0, .int .i64 0, .int .i64 0, .string (s.extract p (p + n)), .int .i64 (p : Int)], .int .i64 (n : Int)]) (by simp [results, Tryd.results60, go_sem, k0, k1, k2, k3, k4, k5, zz]) rfl ⟨by rw [HO.out], by
            repeat' (first | (with_reducible exact h1) | (with_reducible refine Below.alloc ?_ ?_ _) | (with_reducible refine Below.setCell ?_ ?_ _))
            all_goals (first | (simp; done) | (simpa using h1.size))⟩
        | false =>
          rw [hw] at h3
          have H3 := Lib.hid h3
          rw [if_neg (by rw [hw]; decide)] at hO
          clear hw h3 hX
          by_cases e0 : prE (subL s.data.toList p n) = 0
          · rw [if_pos e0] at hO
            have HO := Lib.hid (show oneV (oneT s.data.toList p) = .tuple #[.agg #[.int .i64 2, .int .i64 0, .int .i64 (prC (subL s.data.toList p n)), .int .i64 (prR (subL s.data.toList p n)), .string ⟨#[]⟩, .int .i64 (p : Int)], .int .i64 (n : Int)] from by rw [hO]; rfl)
            clear hO
            generalize prC (subL s.data.toList p n) = PC at *
            generalize prR (subL s.data.toList p n) = PR at *
            generalize prE (subL s.data.toList p n) = PE at *
            have d0 : (PE == 0) = true := by rw [beq_iff_eq]; exact e0
            clear e0
            go_wp2_with fail
            refine (H4.out _).mono ?_; rintro e w3 ⟨rfl, rfl⟩
            go_wp2_with fail
            refine (H2.out _).mono ?_; rintro e w1 ⟨rfl, b1⟩
            have k0 := keep_fresh b1 0 (v := .int .i64 0) rfl
            have k1 := keep_fresh b1 1 (v := .int .i64 0) rfl
            have k2 := keep_fresh b1 2 (v := .int .i64 0) rfl
            have k3 := keep_fresh b1 3 (v := .int .i64 0) rfl
            have k4 := keep_fresh b1 4 (v := .string ⟨#[]⟩) rfl
            have k5 := keep_fresh b1 5 (v := .int .i64 0) rfl
            have f0 := fresh_frozen b1 0
            have f1 := fresh_frozen b1 1
            have f2 := fresh_frozen b1 2
            have f3 := fresh_frozen b1 3
            have f4 := fresh_frozen b1 4
            have f5 := fresh_frozen b1 5
            have h1 : Below w.heap.size w w1 := ((Below.refl _ _).alloc (Nat.le_refl _) _).trans (b1.mono (by simp))
            have zz : w.heap.size < w1.heap.size := by have := b1.size; simp at this; omega
            clear b1
            go_wp2_with fail
            refine (H3.out _).mono ?_; rintro e w2 ⟨rfl, rfl⟩
            go_wp2_with fail
            exact bodyPost_ret (v := .tuple #[.agg #[.int .i64 2, .int .i64 0, .int .i64 PC, .int .i64 PR, .string ⟨#[]⟩, .int .i64 (p : Int)], .int .i64 (n : Int)]) (by simp [results, Tryd.results60, go_sem, k0, k1, k2, k3, k4, k5, zz]) rfl ⟨by rw [HO.out], by
              repeat' (first | (with_reducible exact h1) | (with_reducible refine Below.alloc ?_ ?_ _) | (with_reducible refine Below.setCell ?_ ?_ _))
              all_goals (first | (simp; done) | (simpa using h1.size))⟩
          · rw [if_neg e0] at hO
            by_cases e4 : prE (subL s.data.toList p n) = 4
            · rw [if_pos e4] at hO
              have HO := Lib.hid (show oneV (oneT s.data.toList p) = .tuple #[.agg #[.int .i64 3, .int .i64 0, .int .i64 0, .int .i64 0, .string ⟨#[]⟩, .int .i64 (p : Int)], .int .i64 (n : Int)] from by rw [hO]; rfl)
              clear hO
              generalize prC (subL s.data.toList p n) = PC at *
              generalize prR (subL s.data.toList p n) = PR at *
              generalize prE (subL s.data.toList p n) = PE at *
              have d0 : (PE == 0) = false := by rw [beq_eq_false_iff_ne]; exact e0
              have d4 : (PE == 4) = true := by rw [beq_iff_eq]; exact e4
              clear e0 e4
              go_wp2_with fail
              refine (H4.out _).mono ?_; rintro e w3 ⟨rfl, rfl⟩
              go_wp2_with fail
              refine (H2.out _).mono ?_; rintro e w1 ⟨rfl, b1⟩
              have k0 := keep_fresh b1 0 (v := .int .i64 0) rfl
              have k1 := keep_fresh b1 1 (v := .int .i64 0) rfl
              have k2 := keep_fresh b1 2 (v := .int .i64 0) rfl
              have k3 := keep_fresh b1 3 (v := .int .i64 0) rfl
              have k4 := keep_fresh b1 4 (v := .string ⟨#[]⟩) rfl
              have k5 := keep_fresh b1 5 (v := .int .i64 0) rfl
              have f0 := fresh_frozen b1 0
              have f1 := fresh_frozen b1 1
              have f2 := fresh_frozen b1 2
              have f3 := fresh_frozen b1 3
              have f4 := fresh_frozen b1 4
              have f5 := fresh_frozen b1 5
              have h1 : Below w.heap.size w w1 := ((Below.refl _ _).alloc (Nat.le_refl _) _).trans (b1.mono (by simp))
              have zz : w.heap.size < w1.heap.size := by have := b1.size; simp at this; omega
              clear b1
              go_wp2_with fail
              refine (H3.out _).mono ?_; rintro e w2 ⟨rfl, rfl⟩
              go_wp2_with fail
              exact bodyPost_ret (v := .tuple #[.agg #[.int .i64 3, .int .i64 0, .int .i64 0, .int .i64 0, .string ⟨#[]⟩, .int .i64 (p : Int)], .int .i64 (n : Int)]) (by simp [results, Tryd.results60, go_sem, k0, k1, k2, k3, k4, k5, zz]) rfl ⟨by rw [HO.out], by
                repeat' (first | (with_reducible exact h1) | (with_reducible refine Below.alloc ?_ ?_ _) | (with_reducible refine Below.setCell ?_ ?_ _))
                all_goals (first | (simp; done) | (simpa using h1.size))⟩
            · rw [if_neg e4] at hO
              have HO := Lib.hid (show oneV (oneT s.data.toList p) = .tuple #[.agg #[.int .i64 0, .int .i64 0, .int .i64 0, .int .i64 0, .string ⟨#[]⟩, .int .i64 0], .int .i64 0] from by rw [hO]; rfl)
              clear hO
              generalize prC (subL s.data.toList p n) = PC at *
              generalize prR (subL s.data.toList p n) = PR at *
              generalize prE (subL s.data.toList p n) = PE at *
              have d0 : (PE == 0) = false := by rw [beq_eq_false_iff_ne]; exact e0
              have d4 : (PE == 4) = false := by rw [beq_eq_false_iff_ne]; exact e4
              clear e0 e4
              go_wp2_with fail
              refine (H4.out _).mono ?_; rintro e w3 ⟨rfl, rfl⟩
              go_wp2_with fail
              refine (H2.out _).mono ?_; rintro e w1 ⟨rfl, b1⟩
              have k0 := keep_fresh b1 0 (v := .int .i64 0) rfl
              have k1 := keep_fresh b1 1 (v := .int .i64 0) rfl
              have k2 := keep_fresh b1 2 (v := .int .i64 0) rfl
              have k3 := keep_fresh b1 3 (v := .int .i64 0) rfl
              have k4 := keep_fresh b1 4 (v := .string ⟨#[]⟩) rfl
              have k5 := keep_fresh b1 5 (v := .int .i64 0) rfl
              have f0 := fresh_frozen b1 0
              have f1 := fresh_frozen b1 1
              have f2 := fresh_frozen b1 2
              have f3 := fresh_frozen b1 3
              have f4 := fresh_frozen b1 4
              have f5 := fresh_frozen b1 5
              have h1 : Below w.heap.size w w1 := ((Below.refl _ _).alloc (Nat.le_refl _) _).trans (b1.mono (by simp))
              have zz : w.heap.size < w1.heap.size := by have := b1.size; simp at this; omega
              clear b1
              go_wp2_with fail
              refine (H3.out _).mono ?_; rintro e w2 ⟨rfl, rfl⟩
              go_wp2_with fail
              exact bodyPost_ret (v := .tuple #[.agg #[.int .i64 0, .int .i64 0, .int .i64 0, .int .i64 0, .string ⟨#[]⟩, .int .i64 0], .int .i64 0]) (by simp [results, Tryd.results60, go_sem, k0, k1, k2, k3, k4, k5, zz]) rfl ⟨by rw [HO.out], by
                repeat' (first | (with_reducible exact h1) | (with_reducible refine Below.alloc ?_ ?_ _) | (with_reducible refine Below.setCell ?_ ?_ _))
                all_goals (first | (simp; done) | (simpa using h1.size))⟩
    · have hR : runLen isNam s.data.toList p = n := run_is HU.out (by rw [len_of]; omega) (.inl (by rw [len_of]; omega))
      have hO : oneT s.data.toList p = (if wordB (subL s.data.toList p n) = true then some (⟨4, 0, 0, 0, subL s.data.toList p n, p⟩, n) else if prE (subL s.data.toList p n) = 0 then some (⟨2, 0, prC (subL s.data.toList p n), prR (subL s.data.toList p n), [], p⟩, n) else if prE (subL s.data.toList p n) = 4 then some (⟨3, 0, 0, 0, [], p⟩, n) else none) := by
        unfold oneT
        rw [if_neg (by rw [g0, HF.out.1]; decide), if_pos (by rw [g0]; exact HF.out.2), hR]
      have h2 := rparse2_any (s.extract p (p + n)) (by rw [extract_size s p n hn]; omega)
      have h3 := lword_any (s.extract p (p + n))
      rw [extract_sub] at h2 h3
      have H2 := Lib.hid h2
      have hX := extract_string s p n
      clear h2 hR 
      cases hw : wordB (subL s.data.toList p n) with
      | true =>
        rw [hw] at h3
        have H3 := Lib.hid h3
        have HO := Lib.hid (show oneV (oneT s.data.toList p) = .tuple #[.agg #[.int .i64 4, .int .i64 0, .int .i64 0, .int .i64 0, .string (s.extract p (p + n)), .int .i64 (p : Int)], .int .i64 (n : Int)] from by rw [hO, if_pos hw, hX]; rfl)
        clear hO hw h3 hX
        go_wp2_with fail
        refine (H2.out _).mono ?_; rintro e w1 ⟨rfl, b1⟩
        have k0 := keep_fresh b1 0 (v := .int .i64 0) rfl
        have k1 := keep_fresh b1 1 (v := .int .i64 0) rfl
        have k2 := keep_fresh b1 2 (v := .int .i64 0) rfl
        have k3 := keep_fresh b1 3 (v := .int .i64 0) rfl
        have k4 := keep_fresh b1 4 (v := .string ⟨#[]⟩) rfl
        have k5 := keep_fresh b1 5 (v := .int .i64 0) rfl
        have f0 := fresh_frozen b1 0
        have f1 := fresh_frozen b1 1
        have f2 := fresh_frozen b1 2
        have f3 := fresh_frozen b1 3
        have f4 := fresh_frozen b1 4
        have f5 := fresh_frozen b1 5
        have h1 : Below w.heap.size w w1 := ((Below.refl _ _).alloc (Nat.le_refl _) _).trans (b1.mono (by simp))
        have zz : w.heap.size < w1.heap.size := by have := b1.size; simp at this; omega
        clear b1
        go_wp2_with fail
        refine (H3.out _).mono ?_; rintro e w2 ⟨rfl, rfl⟩
        go_wp2_with fail
        exact bodyPost_ret (v := .tuple #[.agg #[.int .i64 4, .int .i64 0, .int .i64 0, .int .i64 0, .string (s.extract p (p + n)), .int .i64 (p : Int)], .int .i64 (n : Int)]) (by simp [results, Tryd.results60, go_sem, k0, k1, k2, k3, k4, k5, zz]) rfl ⟨by rw [HO.out], by
          repeat' (first | (with_reducible exact h1) | (with_reducible refine Below.alloc ?_ ?_ _) | (with_reducible refine Below.setCell ?_ ?_ _))
          all_goals (first | (simp; done) | (simpa using h1.size))⟩
      | false =>
        rw [hw] at h3
        have H3 := Lib.hid h3
        rw [if_neg (by rw [hw]; decide)] at hO
        clear hw h3 hX
        by_cases e0 : prE (subL s.data.toList p n) = 0
        · rw [if_pos e0] at hO
          have HO := Lib.hid (show oneV (oneT s.data.toList p) = .tuple #[.agg #[.int .i64 2, .int .i64 0, .int .i64 (prC (subL s.data.toList p n)), .int .i64 (prR (subL s.data.toList p n)), .string ⟨#[]⟩, .int .i64 (p : Int)], .int .i64 (n : Int)] from by rw [hO]; rfl)
          clear hO
          generalize prC (subL s.data.toList p n) = PC at *
          generalize prR (subL s.data.toList p n) = PR at *
          generalize prE (subL s.data.toList p n) = PE at *
          have d0 : (PE == 0) = true := by rw [beq_iff_eq]; exact e0
          clear e0
          go_wp2_with fail
          refine (H2.out _).mono ?_; rintro e w1 ⟨rfl, b1⟩
          have k0 := keep_fresh b1 0 (v := .int .i64 0) rfl
          have k1 := keep_fresh b1 1 (v := .int .i64 0) rfl
          have k2 := keep_fresh b1 2 (v := .int .i64 0) rfl
          have k3 := keep_fresh b1 3 (v := .int .i64 0) rfl
          have k4 := keep_fresh b1 4 (v := .string ⟨#[]⟩) rfl
          have k5 := keep_fresh b1 5 (v := .int .i64 0) rfl
          have f0 := fresh_frozen b1 0
          have f1 := fresh_frozen b1 1
          have f2 := fresh_frozen b1 2
          have f3 := fresh_frozen b1 3
          have f4 := fresh_frozen b1 4
          have f5 := fresh_frozen b1 5
          have h1 : Below w.heap.size w w1 := ((Below.refl _ _).alloc (Nat.le_refl _) _).trans (b1.mono (by simp))
          have zz : w.heap.size < w1.heap.size := by have := b1.size; simp at this; omega
          clear b1
          go_wp2_with fail
          refine (H3.out _).mono ?_; rintro e w2 ⟨rfl, rfl⟩
          go_wp2_with fail
          exact bodyPost_ret (v := .tuple #[.agg #[.int .i64 2, .int .i64 0, .int .i64 PC, .int .i64 PR, .string ⟨#[]⟩, .int .i64 (p : Int)], .int .i64 (n : Int)]) (by simp [results, Tryd.results60, go_sem, k0, k1, k2, k3, k4, k5, zz]) rfl ⟨by rw [HO.out], by
            repeat' (first | (with_reducible exact h1) | (with_reducible refine Below.alloc ?_ ?_ _) | (with_reducible refine Below.setCell ?_ ?_ _))
            all_goals (first | (simp; done) | (simpa using h1.size))⟩
        · rw [if_neg e0] at hO
          by_cases e4 : prE (subL s.data.toList p n) = 4
          · rw [if_pos e4] at hO
            have HO := Lib.hid (show oneV (oneT s.data.toList p) = .tuple #[.agg #[.int .i64 3, .int .i64 0, .int .i64 0, .int .i64 0, .string ⟨#[]⟩, .int .i64 (p : Int)], .int .i64 (n : Int)] from by rw [hO]; rfl)
            clear hO
            generalize prC (subL s.data.toList p n) = PC at *
            generalize prR (subL s.data.toList p n) = PR at *
            generalize prE (subL s.data.toList p n) = PE at *
            have d0 : (PE == 0) = false := by rw [beq_eq_false_iff_ne]; exact e0
            have d4 : (PE == 4) = true := by rw [beq_iff_eq]; exact e4
            clear e0 e4
            go_wp2_with fail
            refine (H2.out _).mono ?_; rintro e w1 ⟨rfl, b1⟩
            have k0 := keep_fresh b1 0 (v := .int .i64 0) rfl
            have k1 := keep_fresh b1 1 (v := .int .i64 0) rfl
            have k2 := keep_fresh b1 2 (v := .int .i64 0) rfl
            have k3 := keep_fresh b1 3 (v := .int .i64 0) rfl
            have k4 := keep_fresh b1 4 (v := .string ⟨#[]⟩) rfl
            have k5 := keep_fresh b1 5 (v := .int .i64 0) rfl
            have f0 := fresh_frozen b1 0
            have f1 := fresh_frozen b1 1
            have f2 := fresh_frozen b1 2
            have f3 := fresh_frozen b1 3
            have f4 := fresh_frozen b1 4
            have f5 := fresh_frozen b1 5
            have h1 : Below w.heap.size w w1 := ((Below.refl _ _).alloc (Nat.le_refl _) _).trans (b1.mono (by simp))
            have zz : w.heap.size < w1.heap.size := by have := b1.size; simp at this; omega
            clear b1
            go_wp2_with fail
            refine (H3.out _).mono ?_; rintro e w2 ⟨rfl, rfl⟩
            go_wp2_with fail
            exact bodyPost_ret (v := .tuple #[.agg #[.int .i64 3, .int .i64 0, .int .i64 0, .int .i64 0, .string ⟨#[]⟩, .int .i64 (p : Int)], .int .i64 (n : Int)]) (by simp [results, Tryd.results60, go_sem, k0, k1, k2, k3, k4, k5, zz]) rfl ⟨by rw [HO.out], by
              repeat' (first | (with_reducible exact h1) | (with_reducible refine Below.alloc ?_ ?_ _) | (with_reducible refine Below.setCell ?_ ?_ _))
              all_goals (first | (simp; done) | (simpa using h1.size))⟩
          · rw [if_neg e4] at hO
            have HO := Lib.hid (show oneV (oneT s.data.toList p) = .tuple #[.agg #[.int .i64 0, .int .i64 0, .int .i64 0, .int .i64 0, .string ⟨#[]⟩, .int .i64 0], .int .i64 0] from by rw [hO]; rfl)
            clear hO
            generalize prC (subL s.data.toList p n) = PC at *
            generalize prR (subL s.data.toList p n) = PR at *
            generalize prE (subL s.data.toList p n) = PE at *
            have d0 : (PE == 0) = false := by rw [beq_eq_false_iff_ne]; exact e0
            have d4 : (PE == 4) = false := by rw [beq_eq_false_iff_ne]; exact e4
            clear e0 e4
            go_wp2_with fail
            refine (H2.out _).mono ?_; rintro e w1 ⟨rfl, b1⟩
            have k0 := keep_fresh b1 0 (v := .int .i64 0) rfl
            have k1 := keep_fresh b1 1 (v := .int .i64 0) rfl
            have k2 := keep_fresh b1 2 (v := .int .i64 0) rfl
            have k3 := keep_fresh b1 3 (v := .int .i64 0) rfl
            have k4 := keep_fresh b1 4 (v := .string ⟨#[]⟩) rfl
            have k5 := keep_fresh b1 5 (v := .int .i64 0) rfl
            have f0 := fresh_frozen b1 0
            have f1 := fresh_frozen b1 1
            have f2 := fresh_frozen b1 2
            have f3 := fresh_frozen b1 3
            have f4 := fresh_frozen b1 4
            have f5 := fresh_frozen b1 5
            have h1 : Below w.heap.size w w1 := ((Below.refl _ _).alloc (Nat.le_refl _) _).trans (b1.mono (by simp))
            have zz : w.heap.size < w1.heap.size := by have := b1.size; simp at this; omega
            clear b1
            go_wp2_with fail
            refine (H3.out _).mono ?_; rintro e w2 ⟨rfl, rfl⟩
            go_wp2_with fail
            exact bodyPost_ret (v := .tuple #[.agg #[.int .i64 0, .int .i64 0, .int .i64 0, .int .i64 0, .string ⟨#[]⟩, .int .i64 0], .int .i64 0]) (by simp [results, Tryd.results60, go_sem, k0, k1, k2, k3, k4, k5, zz]) rfl ⟨by rw [HO.out], by
              repeat' (first | (with_reducible exact h1) | (with_reducible refine Below.alloc ?_ ?_ _) | (with_reducible refine Below.setCell ?_ ?_ _))
              all_goals (first | (simp; done) | (simpa using h1.size))⟩
end Go.Proofs.YteflmfifhmlpiaaDoor
