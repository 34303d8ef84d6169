/- The document's own Parse of places: the first index whose place has that text. -/
import Derived.Test.YtjfmmnebhmlkeaaDoorRefD
namespace Go.Proofs.YtjfmmnebhmlkeaaDoor
open Go.RowKit

/-- the text of the place with an index -/
def textAt (i : Nat) : List UInt8 := placeText (atC i) (atR i)
/-- the first index whose place has that text, if there is one -/
def findP (l : List UInt8) : Option Nat := (List.range 1024).find? fun i => textAt i == l
/-- what Parse comes to -/
def prC (l : List UInt8) : Int := if formedB l = true then match findP l with | some i => atC i | none => 0 else 0
def prR (l : List UInt8) : Int := if formedB l = true then match findP l with | some i => atR i | none => 0 else 0
def prE (l : List UInt8) : Int := if formedB l = true then match findP l with | some _ => 0 | none => 4 else 2
theorem find_some {l : List UInt8} {i : Nat} (hi : i < 1024) (h : textAt i = l) (hb : ∀ j, j < i → textAt j ≠ l) : findP l = some i := by
  unfold findP
  rw [List.find?_range_eq_some]
  refine ⟨by simpa using h, by simpa using hi, fun j hj => by simpa using hb j hj⟩
theorem find_none {l : List UInt8} (hb : ∀ j, j < 1024 → textAt j ≠ l) : findP l = none := by
  unfold findP
  rw [List.find?_eq_none]
  intro j hj
  have := hb j (by simpa using hj)
  simpa using this

/-- how many indexes are left -/
def leftP (v : Value) : Nat := 1024 - (intOf v).toNat
set_option maxHeartbeats 1000000 in
set_option maxRecDepth 10000 in
theorem rparse2_any (s : ByteArray) (hs : s.size ≤ 9223372036854775807) (w : World) :
    Calls Tryd.prog 23 #[.string s] w fun e w' => e = .returned (.tuple #[.agg #[.int .i64 (prC s.data.toList), .int .i64 (prR s.data.toList)], .int .i64 (prE s.data.toList)]) ∧ Below w.heap.size w w' := by
  have HF := Lib.hid (rformed_any s hs)
  cases hf : formedB s.data.toList with
  | false =>
    have e1 := Lib.hid (show prC s.data.toList = 0 from if_neg (by rw [hf]; decide))
    have e2 := Lib.hid (show prR s.data.toList = 0 from if_neg (by rw [hf]; decide))
    have e3 := Lib.hid (show prE s.data.toList = 2 from if_neg (by rw [hf]; decide))
    rw [hf] at HF
    clear hf
    go_enter Tryd.func23, Tryd.ntmps23
    go_wp2_with fail
    refine (HF.out _).mono ?_; rintro e w1 ⟨rfl, rfl⟩
    go_wp2_with fail
    exact bodyPost_ret (v := .tuple #[.agg #[.int .i64 0, .int .i64 0], .int .i64 2]) (by simp [results, Tryd.results23, go_sem]) rfl
      ⟨by rw [e1.out, e2.out, e3.out], (Below.refl _ _).alloc (Nat.le_refl _) _⟩
  | true =>
    have Hf := Lib.hid hf
    rw [hf] at HF
    clear hf
    go_enter Tryd.func23, Tryd.ntmps23
    go_wp2_with fail
    refine (HF.out _).mono ?_; rintro e w1 ⟨rfl, rfl⟩
    go_wp2_with fail
    go_loopw [5] (fun v wr => ∃ i : Nat, i ≤ 1024 ∧ v = .int .i64 i ∧ Hid (∀ j, j < i → textAt j ≠ s.data.toList) ∧ Below (w.heap.size + 1) (w.alloc (.cells #[.int .i64 0, .int .i64 0] 35)) wr) (fun v _ => leftP v)
    case atStart => exact ⟨0, by omega, rfl, Lib.hid fun j hj => by omega, Below.refl _ _⟩
    case round =>
      obtain ⟨i, hi, rfl, HU, hb⟩ := hrel
      have k0 : wr.cell? ⟨w.heap.size, 0, none⟩ = some (.int .i64 0) := by rw [hb.cell (by simp)]; simp
      have k1 : wr.cell? ⟨w.heap.size, 1, none⟩ = some (.int .i64 0) := by rw [hb.cell (by simp)]; simp
      have f0 : wr.frozen? ⟨w.heap.size, 0, none⟩ = false := by rw [hb.frozen (by simp)]; simp
      have f1 : wr.frozen? ⟨w.heap.size, 1, none⟩ = false := by rw [hb.frozen (by simp)]; simp
      have z0 : w.heap.size < wr.heap.size := by have := hb.size; simp at this; omega
      have b0 : Below w.heap.size w wr := ((Below.refl _ _).alloc (Nat.le_refl _) _).trans (hb.mono (by omega))
      by_cases hlt : i < 1024
      · by_cases he : textAt i = s.data.toList
        · have ht : (placeText (atC i) (atR i) == s.toList) = true := by rw [ByteArray.toList_eq]; simpa [textAt] using he
          have hfd := find_some hlt he HU.out
          have e1 := Lib.hid (show prC s.data.toList = atC i from by unfold prC; rw [if_pos Hf.out, hfd])
          have e2 := Lib.hid (show prR s.data.toList = atR i from by unfold prR; rw [if_pos Hf.out, hfd])
          have e3 := Lib.hid (show prE s.data.toList = 0 from by unfold prE; rw [if_pos Hf.out, hfd])
          clear hfd he
          go_wp2_with fail
          refine (rat_any _ _).mono ?_; rintro e w2 ⟨rfl, b2⟩
          have q0 := keep_cell b2 k0
          have q1 := keep_cell b2 k1
          have p0 := keep_frozen b2 (by simpa using z0) f0
          have p1 := keep_frozen b2 (by simpa using z0) f1
          have z2 : w.heap.size < w2.heap.size := by have := b2.size; omega
          clear k0 k1 f0 f1
          go_wp2_with fail
          refine (rtext2_any _ _ _).mono ?_; rintro e w3 ⟨rfl, b3⟩
          have m0 := keep_fresh b3 0 (v := .int .i64 (atC i)) rfl
          have m1 := keep_fresh b3 1 (v := .int .i64 (atR i)) rfl
          have n0 := keep_cell b3 (p := ⟨w.heap.size, 0, none⟩) (v := .int .i64 0) (by simp [go_sem, z2, q0])
          have n1 := keep_cell b3 (p := ⟨w.heap.size, 1, none⟩) (v := .int .i64 0) (by simp [go_sem, z2, q1])
          have g0 := keep_frozen b3 (p := ⟨w.heap.size, 0, none⟩) (by simp; omega) (by simp [go_sem, z2, p0])
          have g1 := keep_frozen b3 (p := ⟨w.heap.size, 1, none⟩) (by simp; omega) (by simp [go_sem, z2, p1])
          have h2 := b0.trans (b2.mono (by omega))
          have h3 : Below w.heap.size w w3 := (h2.alloc (by omega) _).trans (b3.mono (by simp; omega))
          clear q0 q1 p0 p1 b2 b3
          go_wp2_with fail
          exact bodyPost_ret (v := .tuple #[.agg #[.int .i64 (atC i), .int .i64 (atR i)], .int .i64 0]) (by simp [results, Tryd.results23, go_sem, n0, n1]) rfl
            ⟨by rw [e1.out, e2.out, e3.out], (h3.setCell (by simp) _).setCell (by simp) _⟩
        · have ht : (placeText (atC i) (atR i) == s.toList) = false := by rw [ByteArray.toList_eq]; simpa [textAt] using he
          have HU' : Hid (∀ j, j < i + 1 → textAt j ≠ s.data.toList) := Lib.hid fun j hj => by
            by_cases e : j = i
            · subst e; exact he
            · exact HU.out j (by omega)
          clear he
          go_wp2_with fail
          refine (rat_any _ _).mono ?_; rintro e w2 ⟨rfl, b2⟩
          have h2 := hb.trans (b2.mono (by omega))
          go_wp2_with fail
          refine (rtext2_any _ _ _).mono ?_; rintro e w3 ⟨rfl, b3⟩
          have z2 : w.heap.size + 1 ≤ w2.heap.size := by have := b2.size; omega
          have h3 : Below (w.heap.size + 1) (w.alloc (.cells #[.int .i64 0, .int .i64 0] 35)) w3 := (h2.alloc z2 _).trans (b3.mono (by simp; omega))
          clear k0 k1 f0 f1 b2 b3
          go_wp2_with fail
          go_roundw
          case rel => exact ⟨i + 1, by omega, by go_num, HU', h3⟩
          case measure => simp [leftP, intOf]; omega
      · have hfd := find_none (l := s.data.toList) fun j hj => HU.out j (by omega)
        have e1 := Lib.hid (show prC s.data.toList = 0 from by unfold prC; rw [if_pos Hf.out, hfd])
        have e2 := Lib.hid (show prR s.data.toList = 0 from by unfold prR; rw [if_pos Hf.out, hfd])
        have e3 := Lib.hid (show prE s.data.toList = 4 from by unfold prE; rw [if_pos Hf.out, hfd])
        clear hfd
        go_wp2_with fail
        exact bodyPost_ret (v := .tuple #[.agg #[.int .i64 0, .int .i64 0], .int .i64 4]) (by simp [results, Tryd.results23, go_sem, k0, k1]) rfl
          ⟨by rw [e1.out, e2.out, e3.out], (b0.setCell (by simp) _).setCell (by simp) _⟩
end Go.Proofs.YtjfmmnebhmlkeaaDoor
