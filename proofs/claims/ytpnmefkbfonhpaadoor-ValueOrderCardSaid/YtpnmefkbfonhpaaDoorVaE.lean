/- The document's own Parse of values. -/
import Derived.Test.YtpnmefkbfonhpaaDoorVaD
import Derived.Test.YtpnmefkbfonhpaaDoorNumE
import Derived.Deep.CutRange
namespace Go.Proofs.YtpnmefkbfonhpaaDoor
open Go.RowKit

/-- the fault whose text it is; 0, if it is none's -/
def vpF (l : List UInt8) : Int :=
  if l = [35, 79, 86, 69, 82] then 1 else if l = [35, 68, 73, 86] then 2 else if l = [35, 82, 69, 70] then 3 else if l = [35, 67, 89, 67, 76, 69] then 4 else 0
def vpN (l : List UInt8) : Int := if vpF l = 0 then pV l else 0
def vpB (l : List UInt8) : Bool := if vpF l = 0 then pB l else true
theorem vpF_yes {l : List UInt8} {i : Nat} (h0 : 1 ≤ i) (h1 : i ≤ 4) (h : vText 0 (i : Int) = l) : vpF l = i := by
  have : i = 1 ∨ i = 2 ∨ i = 3 ∨ i = 4 := by omega
  rcases this with rfl | rfl | rfl | rfl <;> (subst h; decide)
theorem vpF_no {l : List UInt8} (h : ∀ j : Nat, 1 ≤ j → j < 5 → vText 0 (j : Int) ≠ l) : vpF l = 0 := by
  have h1 := h 1 (by omega) (by omega)
  have h2 := h 2 (by omega) (by omega)
  have h3 := h 3 (by omega) (by omega)
  have h4 := h 4 (by omega) (by omega)
  unfold vpF
  rw [if_neg fun e => h1 e.symm, if_neg fun e => h2 e.symm, if_neg fun e => h3 e.symm, if_neg fun e => h4 e.symm]
/-- how many are left -/
def leftV (v : Value) : Nat := 5 - (intOf v).toNat
set_option maxHeartbeats 1000000 in
theorem vparse_any (s : ByteArray) (hs : s.size ≤ 300) (w : World) :
    Calls Tryd.prog 8 #[.string s] w fun e w' => e = .returned (.tuple #[.agg #[.int .i64 (vpN s.data.toList), .int .i64 (vpF s.data.toList)], .bool (vpB s.data.toList)]) ∧ Below w.heap.size w w' := by
  have HR := Lib.hid (rparse_any s hs)
  go_enter Tryd.func8, Tryd.ntmps8
  go_wp2_with fail
  go_loopw [4] (fun v wr => ∃ i : Nat, 1 ≤ i ∧ i ≤ 5 ∧ v = .int .i64 i ∧ Hid (∀ j : Nat, 1 ≤ j → j < i → vText 0 (j : Int) ≠ s.data.toList) ∧ Below (w.heap.size + 1) (w.alloc (.cells #[.int .i64 0, .int .i64 0] 24)) wr) (fun v _ => leftV v)
  case atStart => exact ⟨1, by omega, by omega, rfl, Lib.hid fun j h1 h2 => by omega, Below.refl _ _⟩
  case round =>
    obtain ⟨i, hi0, hi1, rfl, HU, hb⟩ := hrel
    have k0 : wr.cell? ⟨w.heap.size, 0, none⟩ = some (.int .i64 0) := by rw [hb.cell (by simp)]; simp
    have k1 : wr.cell? ⟨w.heap.size, 1, none⟩ = some (.int .i64 0) := by rw [hb.cell (by simp)]; simp
    have f0 : wr.frozen? ⟨w.heap.size, 0, none⟩ = false := by rw [hb.frozen (by simp)]; simp
    have f1 : wr.frozen? ⟨w.heap.size, 1, none⟩ = false := by rw [hb.frozen (by simp)]; simp
    have z0 : w.heap.size < wr.heap.size := by have := hb.size; simp at this; omega
    have b0 : Below w.heap.size w wr := ((Below.refl _ _).alloc (Nat.le_refl _) _).trans (hb.mono (by omega))
    by_cases hlt : i ≤ 4
    · have HT := Lib.hid (vtext_any 0 (i : Int) (by unfold B64; omega))
      by_cases he : vText 0 (i : Int) = s.data.toList
      · have hF := vpF_yes hi0 hlt he
        have e1 := Lib.hid (show vpN s.data.toList = 0 from if_neg (by rw [hF]; omega))
        have e3 := Lib.hid (show vpB s.data.toList = true from if_neg (by rw [hF]; omega))
        have e2 := Lib.hid hF
        have ht : (vText 0 (i : Int) == s.toList) = true := by rw [ByteArray.toList_eq]; simpa using he
        clear he hF
        go_wp2_with fail
        refine (HT.out _).mono ?_; rintro e w2 ⟨rfl, b2⟩
        have q0 := keep_cell b2 k0
        have q1 := keep_cell b2 k1
        have p0 := keep_frozen b2 (by simpa using z0) f0
        have p1 := keep_frozen b2 (by simpa using z0) f1
        have h2 := b0.trans (b2.mono (by omega))
        clear k0 k1 f0 f1 b2
        go_wp2_with fail
        exact bodyPost_ret (v := .tuple #[.agg #[.int .i64 0, .int .i64 i], .bool true]) (by simp [results, Tryd.results8, go_sem, q0, q1]) rfl
          ⟨by rw [e1.out, e2.out, e3.out], (h2.setCell (by simp) _).setCell (by simp) _⟩
      · have ht : (vText 0 (i : Int) == s.toList) = false := by rw [ByteArray.toList_eq]; simpa using he
        have HU' : Hid (∀ j : Nat, 1 ≤ j → j < i + 1 → vText 0 (j : Int) ≠ s.data.toList) := Lib.hid fun j h1 h2 => by
          by_cases e : j = i
          · subst e; exact he
          · exact HU.out j h1 (by omega)
        clear he
        go_wp2_with fail
        refine (HT.out _).mono ?_; rintro e w2 ⟨rfl, b2⟩
        have h2 := hb.trans (b2.mono (by omega))
        clear k0 k1 f0 f1 b2
        go_wp2_with fail
        go_roundw
        case rel => exact ⟨i + 1, by omega, by omega, by go_num, HU', h2⟩
        case measure => simp [leftV, intOf]; omega
    · have hF := vpF_no fun j h1 h2 => HU.out j h1 (by omega)
      have e1 := Lib.hid (show vpN s.data.toList = pV s.data.toList from if_pos hF)
      have e3 := Lib.hid (show vpB s.data.toList = pB s.data.toList from if_pos hF)
      have e2 := Lib.hid hF
      clear hF
      go_wp2_with fail
      refine (HR.out _).mono ?_; rintro e w2 ⟨rfl, rfl⟩
      go_wp2_with fail
      exact bodyPost_ret (v := .tuple #[.agg #[.int .i64 (pV s.data.toList), .int .i64 0], .bool (pB s.data.toList)]) (by simp [results, Tryd.results8, go_sem, k0, k1]) rfl
        ⟨by rw [e1.out, e2.out, e3.out], (b0.setCell (by simp) _).setCell (by simp) _⟩
end Go.Proofs.YtpnmefkbfonhpaaDoor
