/- place's own Parse. -/
import Derived.Test.YtjfmmnebhmlkeaaDoorPlI
import Derived.Test.YtjfmmnebhmlkeaaDoorPlAr
import Derived.Test.YtjfmmnebhmlkeaaDoorRefK
namespace Go.Proofs.YtjfmmnebhmlkeaaDoor
open Go.RowKit

set_option maxHeartbeats 400000 in
theorem pparse_form (s : ByteArray) (hs : s.size ≤ 9223372036854775807) (w : World) (hf : formedB s.data.toList = false) :
    Calls Tryd.prog 27 #[.string s] w fun e w' => e = .returned (.tuple #[.agg #[.int .i64 (prC s.data.toList), .int .i64 (prR s.data.toList)], .int .i64 (prE s.data.toList)]) ∧ Below w.heap.size w w' := by
  have HF := Lib.hid (pformed_any s hs)
  have HP := Lib.hid (parse_form hf)
  rw [hf] at HF
  clear hf
  go_enter Tryd.func27, Tryd.ntmps27
  go_wp2_with fail
  refine (HF.out _).mono ?_; rintro e w1 ⟨rfl, b1⟩
  have k0 := keep_fresh b1 0 (v := .int .i64 0) rfl
  have k1 := keep_fresh b1 1 (v := .int .i64 0) rfl
  have f0 := keep_frozen b1 (p := ⟨w.heap.size, 0, none⟩) (by simp) (by simp [go_sem])
  have f1 := keep_frozen b1 (p := ⟨w.heap.size, 1, none⟩) (by simp) (by simp [go_sem])
  have h1 : Below w.heap.size w w1 := ((Below.refl _ _).alloc (Nat.le_refl _) _).trans (b1.mono (by simp))
  go_wp2_with fail
  exact bodyPost_ret (v := .tuple #[.agg #[.int .i64 0, .int .i64 0], .int .i64 2]) (by simp [results, Tryd.results27, go_sem, k0, k1]) rfl
    ⟨by rw [HP.out.1, HP.out.2.1, HP.out.2.2], (h1.setCell (by simp) _).setCell (by simp) _⟩

theorem ret_place {a b c d e f : Int} (h : a = b) (k : c = d) (m : e = f) : Ending.returned (.tuple #[.agg #[.int .i64 a, .int .i64 c], .int .i64 e]) = .returned (.tuple #[.agg #[.int .i64 b, .int .i64 d], .int .i64 f]) := by rw [h, k, m]
theorem ds_at {s : ByteArray} {ch : UInt8} {ds : List UInt8} (hl : s.data.toList = ch :: ds) (i : Nat) (h : i < (s.extract 1 s.size).size) : ds[i]? = some ((s.extract 1 s.size)[i]'h) := by
  have h2 : i + 1 < s.size := by rw [behind_size] at h; omega
  rw [behind_at, byte_getD s (i + 1) h2, ← byte_at s (i + 1) h2, hl, List.getElem?_cons_succ]
theorem dig_at {s : ByteArray} (hf : formedB s.data.toList = true) (i : Nat) (h : i < (s.extract 1 s.size).size) : 48 ≤ ((s.extract 1 s.size)[i]'h).toNat ∧ ((s.extract 1 s.size)[i]'h).toNat ≤ 57 := by
  have h2 : i + 1 < s.size := by rw [behind_size] at h; omega
  unfold formedB at hf
  rw [Bool.and_eq_true, decide_eq_true_eq, decide_eq_true_eq] at hf
  have := hf.2 (i + 1) (by rw [len_of]; exact h2) (by omega)
  rw [behind_at]
  exact this

theorem below_two {W w1 : World} {o p : Obj} (b : Below ((W.alloc o).alloc p).heap.size ((W.alloc o).alloc p) w1) : Below W.heap.size W w1 :=
  (((Below.refl _ W).alloc (Nat.le_refl _) o).alloc (by simp) p).trans (b.mono (by simp; omega))

set_option maxHeartbeats 1000000 in
theorem pparse_core (s : ByteArray) (ch : UInt8) (ds : List UInt8) (u : Nat) (w : World) (hf : formedB s.data.toList = true) (hl : s.data.toList = ch :: ds) (h65 : 65 ≤ ch.toNat) (h90 : ch.toNat ≤ 90) (hu1 : 1 ≤ u) (hu9 : u ≤ 999)
    (hu : Lib.decFrom 0 ds = some u) (hsz : s.size ≤ 4) (B : Bool) (hB : rightB ((ch.toNat : Int) - 65) ((u : Int) - 1) = B) :
    Calls Tryd.prog 27 #[.string s] w fun e w' => e = .returned (.tuple #[.agg #[.int .i64 (if B = true then (ch.toNat : Int) - 65 else 0), .int .i64 (if B = true then (u : Int) - 1 else 0)], .int .i64 (if B = true then 0 else 4)]) ∧ Below w.heap.size w w' := by
  have HF := Lib.hid (pformed_any s (by omega))
  rw [hf] at HF
  have HR := Lib.hid (pright_any ((ch.toNat : Int) - 65) ((u : Int) - 1))
  rw [hB] at HR
  have HD := Lib.hid (ds_at hl)
  have HG := Lib.hid (dig_at hf)
  have hlen : ds.length + 1 = s.size := by rw [← len_of, hl]; rfl
  have s0 : 0 < s.size := by omega
  have HC : Hid ((s[0]'s0) = ch) := Lib.hid (by
    have := byte_at s 0 s0
    rw [hl] at this
    exact (Option.some.inj this).symm)
  have hTs := behind_size s
  have HU := Lib.hid hu
  have hds : ds.length ≤ 17 := by omega
  have hT : (s.extract 1 s.size).size = ds.length := by omega
  have HT := Lib.hid hT
  have HL := Lib.hid hl
  have HLn := Lib.hid hlen
  have hs1 : 1 ≤ s.size := by omega
  clear hf hB hl hu hTs hT hlen
  go_enter Tryd.func27, Tryd.ntmps27
  go_wp2_with fail
  refine (HF.out _).mono ?_; rintro e w1 ⟨rfl, b1⟩
  have k0 := keep_fresh b1 0 (v := .int .i64 0) rfl
  have k1 := keep_fresh b1 1 (v := .int .i64 0) rfl
  have f0 := keep_frozen b1 (p := ⟨w.heap.size, 0, none⟩) (by simp) (by simp [go_sem])
  have f1 := keep_frozen b1 (p := ⟨w.heap.size, 1, none⟩) (by simp) (by simp [go_sem])
  have h1 : Below w.heap.size w w1 := ((Below.refl _ _).alloc (Nat.le_refl _) _).trans (b1.mono (by simp))
  have z1 : w.heap.size < w1.heap.size := by have := b1.size; simp at this; omega
  clear b1
  go_wp2_with fail
  generalize s.extract 1 s.size = T at *
  go_loopw [4] (fun v wr => ∃ pos line : Nat, pos ≤ T.size ∧ v = .int .i64 line ∧ wr = w1.iter T pos ∧ Hid (Lib.decFrom 0 (ds.take pos) = some line)) (fun _ wr => T.size - wr.iterPos w1.heap.size)
  case atStart => exact ⟨0, 0, Nat.zero_le _, rfl, rfl, Lib.hid rfl⟩
  case round =>
    obtain ⟨pos, line, hpos, rfl, rfl, HN⟩ := hrel
    have hlt := Lib.decFrom_take_lt (l := ds) HN.out (by have := HT.out; omega)
    by_cases hp : pos < T.size
    · obtain ⟨q1, q2⟩ := HG.out pos hp
      have hnx := fun ty => run_next_ascii (P := Tryd.prog) w1 T pos ty hp (by omega)
      have HS : Hid (Lib.decFrom 0 (ds.take (pos + 1)) = some (line * 10 + ((T[pos]'hp).toNat - 48))) := Lib.hid (Lib.decFrom_take ds pos 0 line (T[pos]'hp) _ HN.out (HD.out pos hp) (by unfold Lib.digitVal; rw [if_pos ⟨q1, q2⟩]))
      generalize (T[pos]'hp).toNat = b at *
      go_wp2_with fail
      go_roundw
      case rel => exact ⟨pos + 1, line * 10 + (b - 48), by omega, by congr 1; omega, rfl, HS⟩
      case measure => simp; omega
    · have hnx := fun ty => run_next_end (P := Tryd.prog) w1 T pos ty hp
      have hpe : ds.take pos = ds := List.take_of_length_le (by have := HT.out; omega)
      have hle : line = u := by
        have := HN.out
        rw [hpe, HU.out] at this
        exact (Option.some.inj this).symm
      clear hpe
      subst hle
      have hch := HC.out
      clear hlt
      cases B with
      | true =>
        go_wp2_with fail
        refine (HR.out _).mono ?_; rintro e w2 ⟨rfl, b2⟩
        have B2 : Below w1.heap.size w1 w2 := below_two b2
        have m0 := keep_cell B2 k0
        have m1 := keep_cell B2 k1
        have g0 := keep_frozen B2 z1 f0
        have g1 := keep_frozen B2 z1 f1
        have p0 : w2.cell? ⟨(w1.iter T pos).heap.size, 0, none⟩ = some (.int .i64 ((ch.toNat : Int) - 65)) := keep_fresh b2 0 rfl
        have p1 : w2.cell? ⟨(w1.iter T pos).heap.size, 1, none⟩ = some (.int .i64 ((line : Int) - 1)) := keep_fresh b2 1 rfl
        have h2 := h1.trans (B2.mono h1.size)
        clear B2 b2 k0 k1 f0 f1
        go_wp2_with fail
        exact bodyPost_ret (v := .tuple #[.agg #[.int .i64 ((ch.toNat : Int) - 65), .int .i64 ((line : Int) - 1)], .int .i64 0]) (by simp [results, Tryd.results27, go_sem, m0, m1]) rfl
          ⟨rfl, (h2.setCell (by simp) _).setCell (by simp) _⟩
      | false =>
        go_wp2_with fail
        refine (HR.out _).mono ?_; rintro e w2 ⟨rfl, b2⟩
        have B2 : Below w1.heap.size w1 w2 := below_two b2
        have m0 := keep_cell B2 k0
        have m1 := keep_cell B2 k1
        have g0 := keep_frozen B2 z1 f0
        have g1 := keep_frozen B2 z1 f1
        have h2 := h1.trans (B2.mono h1.size)
        clear B2 b2 k0 k1 f0 f1
        go_wp2_with fail
        exact bodyPost_ret (v := .tuple #[.agg #[.int .i64 0, .int .i64 0], .int .i64 4]) (by simp [results, Tryd.results27, go_sem, m0, m1]) rfl
          ⟨rfl, (h2.setCell (by simp) _).setCell (by simp) _⟩

theorem pparse_any (s : ByteArray) (hs : s.size ≤ 9223372036854775807) (w : World) :
    Calls Tryd.prog 27 #[.string s] w fun e w' => e = .returned (.tuple #[.agg #[.int .i64 (prC s.data.toList), .int .i64 (prR s.data.toList)], .int .i64 (prE s.data.toList)]) ∧ Below w.heap.size w w' := by
  cases hf : formedB s.data.toList with
  | false => exact pparse_form s hs w hf
  | true =>
    obtain ⟨ch, ds, u, hl, h65, h90, hu1, hu9, hd, hu⟩ := formed_parts hf
    have hsz : s.size ≤ 4 := by
      unfold formedB at hf
      rw [Bool.and_eq_true, decide_eq_true_eq, len_of] at hf
      exact hf.1.2.1
    have hf2 := hf
    rw [hl] at hf2
    cases hB : rightB ((ch.toNat : Int) - 65) ((u : Int) - 1) with
    | true =>
      have hb := (rightB_iff _ _).1 hB
      obtain ⟨e1, e2, e3⟩ := parse_yes hf2 h65 (by omega) hu1 (by omega) hd
      rw [hl, e1, e2, e3]
      exact pparse_core s ch ds u w hf hl h65 h90 hu1 hu9 hu hsz true hB
    | false =>
      have hb := (rightB_not _ _).1 hB
      obtain ⟨e1, e2, e3⟩ := parse_no hf2 (by omega) hd
      rw [hl, e1, e2, e3]
      exact pparse_core s ch ds u w hf hl h65 h90 hu1 hu9 hu hsz false hB
end Go.Proofs.YtjfmmnebhmlkeaaDoor
