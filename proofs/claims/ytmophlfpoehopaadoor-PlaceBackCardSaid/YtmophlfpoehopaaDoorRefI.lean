/- The document's own range of the places that two ranges both have. -/
import Derived.Test.YtmophlfpoehopaaDoorRefH
import Derived.Deep.RegionWith
import Derived.Deep.CutRange
namespace Go.Proofs.YtmophlfpoehopaaDoor
open Go.RowKit

/-- of a list's places those that a range has -/
def both (a b c d : Int) (l : List (Int × Int)) : List (Int × Int) := l.filter fun p => hasB a b c d p.1 p.2
def fstOr (l : List (Int × Int)) : Int × Int := l.head?.getD (0, 0)
def lstOr (l : List (Int × Int)) : Int × Int := l.getLast?.getD (0, 0)
theorem both_yes {a b c d x y : Int} {l : List (Int × Int)} {i : Nat} (hi : l[i]? = some (x, y)) (h : hasB a b c d x y = true) : both a b c d (l.take (i + 1)) = both a b c d (l.take i) ++ [(x, y)] := by
  unfold both; rw [List.take_add_one, hi, List.filter_append]; simp [h]
theorem both_no {a b c d x y : Int} {l : List (Int × Int)} {i : Nat} (hi : l[i]? = some (x, y)) (h : hasB a b c d x y = false) : both a b c d (l.take (i + 1)) = both a b c d (l.take i) := by
  unfold both; rw [List.take_add_one, hi, List.filter_append]; simp [h]
theorem fst_snoc (l : List (Int × Int)) (p : Int × Int) : fstOr (l ++ [p]) = if l = [] then p else fstOr l := by
  unfold fstOr; cases l <;> simp
theorem lst_snoc (l : List (Int × Int)) (p : Int × Int) : lstOr (l ++ [p]) = p := by
  unfold lstOr; simp
/-- is there one? -/
def someB (l : List (Int × Int)) : Bool := !l.isEmpty
/-- the cells of the range from the first to the last -/
structure Out4 (w : World) (g : Nat) (l : List (Int × Int)) : Prop where
  c0 : w.cell? ⟨g, 0, none⟩ = some (.int .i64 (fstOr l).1)
  c1 : w.cell? ⟨g, 1, none⟩ = some (.int .i64 (fstOr l).2)
  c2 : w.cell? ⟨g, 2, none⟩ = some (.int .i64 (lstOr l).1)
  c3 : w.cell? ⟨g, 3, none⟩ = some (.int .i64 (lstOr l).2)
  f0 : w.frozen? ⟨g, 0, none⟩ = false
  f1 : w.frozen? ⟨g, 1, none⟩ = false
  f2 : w.frozen? ⟨g, 2, none⟩ = false
  f3 : w.frozen? ⟨g, 3, none⟩ = false
theorem Out4.to {w : World} {o : Nat} {l : List (Int × Int)} (H : Out4 w o l) (hl : l ≠ []) (x y : Int) :
    Out4 ((w.setCell ⟨o, 2, none⟩ (.int .i64 x)).setCell ⟨o, 3, none⟩ (.int .i64 y)) o (l ++ [(x, y)]) := by
  obtain ⟨c0, c1, c2, c3, f0, f1, f2, f3⟩ := H
  have e1 : fstOr (l ++ [(x, y)]) = fstOr l := by rw [fst_snoc, if_neg hl]
  refine ⟨?_, ?_, ?_, ?_, ?_, ?_, ?_, ?_⟩
  · rw [e1]; simp [go_sem, c0]
  · rw [e1]; simp [go_sem, c1]
  · rw [lst_snoc]; simp [go_sem, c2]
  · rw [lst_snoc]; simp [go_sem, c3]
  · simp [go_sem, f0]
  · simp [go_sem, f1]
  · simp [go_sem, f2]
  · simp [go_sem, f3]
theorem Out4.from_ {w : World} {o : Nat} (H : Out4 w o []) (x y : Int) :
    Out4 ((((w.setCell ⟨o, 0, none⟩ (.int .i64 x)).setCell ⟨o, 1, none⟩ (.int .i64 y)).setCell ⟨o, 2, none⟩ (.int .i64 x)).setCell ⟨o, 3, none⟩ (.int .i64 y)) o [(x, y)] := by
  obtain ⟨c0, c1, c2, c3, f0, f1, f2, f3⟩ := H
  refine ⟨?_, ?_, ?_, ?_, ?_, ?_, ?_, ?_⟩
  · show _ = some (Value.int .i64 x); simp [go_sem, c0]
  · show _ = some (Value.int .i64 y); simp [go_sem, c1]
  · show _ = some (Value.int .i64 x); simp [go_sem, c2]
  · show _ = some (Value.int .i64 y); simp [go_sem, c3]
  · simp [go_sem, f0]
  · simp [go_sem, f1]
  · simp [go_sem, f2]
  · simp [go_sem, f3]
/-- A list's value, and where it stands. -/
theorem own_shape {w : World} {base : Nat} {v : Value} {l : List (Int × Int)} (h : w.ownsRow base 23 2 v l.length (cells2 l)) :
    ∃ (A : Option Addr) (cap : Nat), v = .slice A l.length cap ∧ (∀ i, i < l.length → ∃ g, A = some ⟨g, 0, none⟩ ∧ g < w.heap.size ∧ At2 w g l) := by
  have h' := h
  rcases h.2 with ⟨rfl, hl⟩ | ⟨g, cap, cur, rfl, _, hh, _⟩
  · exact ⟨none, 0, by rw [hl], fun i hi => by omega⟩
  · refine ⟨_, cap, rfl, fun i hi => ⟨g, rfl, ?_, at2_of_own h'⟩⟩
    exact (h'.lt g rfl).2
theorem at2_below {w w' : World} {B g : Nat} {l : List (Int × Int)} (h : At2 w g l) (hb : Below B w w') (hg : g < B) : At2 w' g l := by
  intro i x y hi
  obtain ⟨h1, h2⟩ := h i x y hi
  exact ⟨by rw [hb.cell (p := ⟨g, i * 2, none⟩) hg]; exact h1, by rw [hb.cell (p := ⟨g, i * 2 + 1, none⟩) hg]; exact h2⟩
/-- how many are left -/
def leftI (n : Nat) (v : Value) : Nat := n - (intOf v).toNat

/-- what the range of both comes to -/
def mtL (a b c d e f g h : Int) : List (Int × Int) := both e f g h (cellsTo a b c d 1024)

set_option maxHeartbeats 2000000 in
set_option maxRecDepth 10000 in
theorem rmeet_any (a b c d e f g h : Int) (w : World) :
    Calls Tryd.prog 24 #[.agg #[.int .i64 a, .int .i64 b, .int .i64 c, .int .i64 d], .agg #[.int .i64 e, .int .i64 f, .int .i64 g, .int .i64 h]] w fun x w' =>
      x = .returned (.tuple #[.agg #[.int .i64 (fstOr (mtL a b c d e f g h)).1, .int .i64 (fstOr (mtL a b c d e f g h)).2, .int .i64 (lstOr (mtL a b c d e f g h)).1, .int .i64 (lstOr (mtL a b c d e f g h)).2], .bool (someB (mtL a b c d e f g h))]) ∧ Below w.heap.size w w' := by
  go_enter Tryd.func24, Tryd.ntmps24
  go_wp2_with fail
  refine (rcells_any _ _ _ _ _).mono ?_; rintro x w1 ⟨v, rfl, hown, b1⟩
  have k0 := keep_cell b1 (p := ⟨w.heap.size + 1, 0, none⟩) (v := .int .i64 e) (by simp [go_sem])
  have k1 := keep_cell b1 (p := ⟨w.heap.size + 1, 1, none⟩) (v := .int .i64 f) (by simp [go_sem])
  have k2 := keep_cell b1 (p := ⟨w.heap.size + 1, 2, none⟩) (v := .int .i64 g) (by simp [go_sem])
  have k3 := keep_cell b1 (p := ⟨w.heap.size + 1, 3, none⟩) (v := .int .i64 h) (by simp [go_sem])
  have r0 := keep_cell b1 (p := ⟨w.heap.size + 1 + 1, 0, none⟩) (v := .int .i64 0) (by simp [go_sem])
  have r1 := keep_cell b1 (p := ⟨w.heap.size + 1 + 1, 1, none⟩) (v := .int .i64 0) (by simp [go_sem])
  have r2 := keep_cell b1 (p := ⟨w.heap.size + 1 + 1, 2, none⟩) (v := .int .i64 0) (by simp [go_sem])
  have r3 := keep_cell b1 (p := ⟨w.heap.size + 1 + 1, 3, none⟩) (v := .int .i64 0) (by simp [go_sem])
  have f0 := keep_frozen b1 (p := ⟨w.heap.size + 1 + 1, 0, none⟩) (by simp) (by simp [go_sem])
  have f1 := keep_frozen b1 (p := ⟨w.heap.size + 1 + 1, 1, none⟩) (by simp) (by simp [go_sem])
  have f2 := keep_frozen b1 (p := ⟨w.heap.size + 1 + 1, 2, none⟩) (by simp) (by simp [go_sem])
  have f3 := keep_frozen b1 (p := ⟨w.heap.size + 1 + 1, 3, none⟩) (by simp) (by simp [go_sem])
  obtain ⟨L, hLe⟩ : ∃ L, L = cellsTo a b c d 1024 := ⟨_, rfl⟩
  have HM := Lib.hid (show mtL a b c d e f g h = both e f g h L from by unfold mtL; rw [hLe])
  have hL := cellsTo_le a b c d 1024
  rw [← hLe] at hown hL
  obtain ⟨A, cap, rfl, hsh⟩ := own_shape hown
  have HA := Lib.hid hsh
  have z1 : w.heap.size + 1 + 1 < w1.heap.size := by have := b1.size; simp at this; omega
  have h1 : Below w.heap.size w w1 := ((((Below.refl _ _).alloc (Nat.le_refl _) _).alloc (by simp) _).alloc (by simp; omega) _).trans (b1.mono (by simp; omega))
  clear hown hLe b1 hsh
  have K := Lib.hid (And.intro k0 (And.intro k1 (And.intro k2 k3)))
  have R := Lib.hid (And.intro r0 (And.intro r1 (And.intro r2 r3)))
  have F := Lib.hid (And.intro f0 (And.intro f1 (And.intro f2 f3)))
  clear k0 k1 k2 k3 r0 r1 r2 r3 f0 f1 f2 f3
  go_wp2_with fail
  go_loopw [7, 9] (fun v7 v9 wr => ∃ i : Nat, i ≤ L.length ∧ v9 = .int .i64 i ∧ v7 = .bool (someB (both e f g h (L.take i))) ∧ Out4 wr w1.heap.size (both e f g h (L.take i)) ∧ w1.heap.size < wr.heap.size ∧
      Below w1.heap.size w1 wr) (fun _ v9 _ => leftI L.length v9)
  case atStart => exact ⟨0, Nat.zero_le _, rfl, rfl, ⟨by simp; rfl, by simp; rfl, by simp; rfl, by simp; rfl, by simp, by simp, by simp, by simp⟩, by simp, (Below.refl _ _).alloc (Nat.le_refl _) _⟩
  case round =>
    obtain ⟨i, hi, rfl, rfl, HO4, z2, hb⟩ := hrel
    have HOUT := Lib.hid HO4
    have HB := Lib.hid hb
    obtain ⟨ka, kb, kc, kd⟩ := K.out
    have k0 : wr.cell? ⟨w.heap.size + 1, 0, none⟩ = some (.int .i64 e) := by rw [hb.cell (p := ⟨w.heap.size + 1, 0, none⟩) (by show w.heap.size + 1 < _; omega)]; exact ka
    have k1 : wr.cell? ⟨w.heap.size + 1, 1, none⟩ = some (.int .i64 f) := by rw [hb.cell (p := ⟨w.heap.size + 1, 1, none⟩) (by show w.heap.size + 1 < _; omega)]; exact kb
    have k2 : wr.cell? ⟨w.heap.size + 1, 2, none⟩ = some (.int .i64 g) := by rw [hb.cell (p := ⟨w.heap.size + 1, 2, none⟩) (by show w.heap.size + 1 < _; omega)]; exact kc
    have k3 : wr.cell? ⟨w.heap.size + 1, 3, none⟩ = some (.int .i64 h) := by rw [hb.cell (p := ⟨w.heap.size + 1, 3, none⟩) (by show w.heap.size + 1 < _; omega)]; exact kd
    clear ka kb kc kd HO4 hb
    by_cases hlt : i < L.length
    · obtain ⟨G, rfl, hG, hat⟩ := HA.out i hlt
      obtain ⟨x, y, hxy⟩ : ∃ x y, L[i]? = some (x, y) := ⟨_, _, List.getElem?_eq_getElem hlt⟩
      obtain ⟨a0, a1⟩ := at2_below hat HB.out hG i x y hxy
      have Hxy := Lib.hid hxy
      have HH := Lib.hid (rhas_any e f g h x y)
      clear hxy hat
      go_upto_region 7 with fail
      go_cut [10] from 20 to 25 (fun s10 wx => s10 = .bool (hasB e f g h x y) ∧ Below wr.heap.size wr wx)
      case first =>
        go_region_with ((go_at_call 31; refine (HH.out _).mono ?_; rintro x w3 ⟨rfl, b3⟩))
        all_goals
          go_wp2_with fail
          go_meet
          exact ⟨rfl, (Below.refl _ wr).drew.trans b3⟩
      case rest =>
        obtain ⟨rfl, hbx⟩ := hcut
        have o0 := keep_cell hbx HOUT.out.c0
        have o1 := keep_cell hbx HOUT.out.c1
        have o2 := keep_cell hbx HOUT.out.c2
        have o3 := keep_cell hbx HOUT.out.c3
        have p0 := keep_frozen hbx z2 HOUT.out.f0
        have p1 := keep_frozen hbx z2 HOUT.out.f1
        have p2 := keep_frozen hbx z2 HOUT.out.f2
        have p3 := keep_frozen hbx z2 HOUT.out.f3
        have m0 := keep_cell hbx a0
        have m1 := keep_cell hbx a1
        have z3 : w1.heap.size < wc.heap.size := by have := hbx.size; omega
        have HBX := Lib.hid (HB.out.trans (hbx.mono (by omega)))
        clear hbx k0 k1 k2 k3 a0 a1
        cases hh : hasB e f g h x y with
        | false =>
          have HS := Lib.hid (both_no Hxy.out hh)
          clear hh
          go_wp2_with fail
          go_roundw
          case rel => exact ⟨i + 1, by omega, by go_num, by rw [HS.out], by rw [HS.out]; exact ⟨o0, o1, o2, o3, p0, p1, p2, p3⟩, z3, HBX.out⟩
          case measure => simp [leftI, intOf]; omega
        | true =>
          have HS := Lib.hid (both_yes Hxy.out hh)
          clear hh
          cases hs : someB (both e f g h (L.take i)) with
          | false =>
            have HE : Hid (both e f g h (L.take i) = []) := Lib.hid (by unfold someB at hs; simpa using hs)
            clear hs
            go_wp2_with fail
            go_roundw
            case rel =>
              refine ⟨i + 1, by omega, by go_num, by rw [HS.out]; simp [someB], ?_, by simpa using z3, ?_⟩
              · rw [HS.out, HE.out]
                have h0 : Out4 wc w1.heap.size [] := HE.out ▸ ⟨o0, o1, o2, o3, p0, p1, p2, p3⟩
                exact h0.from_ x y
              · exact (((HBX.out.setCell (Nat.le_refl _) _).setCell (Nat.le_refl _) _).setCell (Nat.le_refl _) _).setCell (Nat.le_refl _) _
            case measure => simp [leftI, intOf]; omega
          | true =>
            have HE : Hid (both e f g h (L.take i) ≠ []) := Lib.hid (by unfold someB at hs; simpa using hs)
            clear hs
            go_wp2_with fail
            go_roundw
            case rel =>
              refine ⟨i + 1, by omega, by go_num, by rw [HS.out]; simp [someB], ?_, by simpa using z3, ?_⟩
              · rw [HS.out]
                exact Out4.to ⟨o0, o1, o2, o3, p0, p1, p2, p3⟩ HE.out x y
              · exact (HBX.out.setCell (Nat.le_refl _) _).setCell (Nat.le_refl _) _
            case measure => simp [leftI, intOf]; omega
    · have hiL : L.take i = L := List.take_of_length_le (by omega)
      rw [hiL] at HOUT ⊢
      have o0 := HOUT.out.c0
      have o1 := HOUT.out.c1
      have o2 := HOUT.out.c2
      have o3 := HOUT.out.c3
      obtain ⟨ra, rb, rc, rd⟩ := R.out
      obtain ⟨fa, fb, fc, fd⟩ := F.out
      have hz : w.heap.size + 1 + 1 < w1.heap.size := z1
      have s0 : wr.cell? ⟨w.heap.size + 1 + 1, 0, none⟩ = some (.int .i64 0) := by rw [HB.out.cell (p := ⟨w.heap.size + 1 + 1, 0, none⟩) hz]; exact ra
      have s1 : wr.cell? ⟨w.heap.size + 1 + 1, 1, none⟩ = some (.int .i64 0) := by rw [HB.out.cell (p := ⟨w.heap.size + 1 + 1, 1, none⟩) hz]; exact rb
      have s2 : wr.cell? ⟨w.heap.size + 1 + 1, 2, none⟩ = some (.int .i64 0) := by rw [HB.out.cell (p := ⟨w.heap.size + 1 + 1, 2, none⟩) hz]; exact rc
      have s3 : wr.cell? ⟨w.heap.size + 1 + 1, 3, none⟩ = some (.int .i64 0) := by rw [HB.out.cell (p := ⟨w.heap.size + 1 + 1, 3, none⟩) hz]; exact rd
      have t0 : wr.frozen? ⟨w.heap.size + 1 + 1, 0, none⟩ = false := by rw [HB.out.frozen (p := ⟨w.heap.size + 1 + 1, 0, none⟩) hz]; exact fa
      have t1 : wr.frozen? ⟨w.heap.size + 1 + 1, 1, none⟩ = false := by rw [HB.out.frozen (p := ⟨w.heap.size + 1 + 1, 1, none⟩) hz]; exact fb
      have t2 : wr.frozen? ⟨w.heap.size + 1 + 1, 2, none⟩ = false := by rw [HB.out.frozen (p := ⟨w.heap.size + 1 + 1, 2, none⟩) hz]; exact fc
      have t3 : wr.frozen? ⟨w.heap.size + 1 + 1, 3, none⟩ = false := by rw [HB.out.frozen (p := ⟨w.heap.size + 1 + 1, 3, none⟩) hz]; exact fd
      have h2 : Below w.heap.size w wr := h1.trans (HB.out.mono (by omega))
      clear ra rb rc rd fa fb fc fd k0 k1 k2 k3 hiL hz
      go_wp2_with fail
      exact bodyPost_ret (v := .tuple #[.agg #[.int .i64 (fstOr (both e f g h L)).1, .int .i64 (fstOr (both e f g h L)).2, .int .i64 (lstOr (both e f g h L)).1, .int .i64 (lstOr (both e f g h L)).2], .bool (someB (both e f g h L))])
        (by simp [results, Tryd.results24, go_sem, s0, s1, s2, s3]) rfl
        ⟨by rw [HM.out], (((h2.setCell (by simp; omega) _).setCell (by simp; omega) _).setCell (by simp; omega) _).setCell (by simp; omega) _⟩
end Go.Proofs.YtmophlfpoehopaaDoor
