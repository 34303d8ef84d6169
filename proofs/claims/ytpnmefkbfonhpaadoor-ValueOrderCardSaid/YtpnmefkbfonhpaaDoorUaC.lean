/- What package value makes of a list of values, by an act: all. -/
import Derived.Test.YtpnmefkbfonhpaaDoorUaB
namespace Go.Proofs.YtpnmefkbfonhpaaDoor
open Go.RowKit

/-- Where a list of values stands: its i-th value is read from these two cells. -/
def AtV (w : World) (g o : Nat) (l : List (Int × Int)) : Prop := ∀ (i : Nat) (x y : Int), l[i]? = some (x, y) → w.cell? ⟨g, o + i * 2, none⟩ = some (.int .i64 x) ∧ w.cell? ⟨g, o + i * 2 + 1, none⟩ = some (.int .i64 y)
theorem AtV.below {w w' : World} {g o : Nat} {l : List (Int × Int)} (h : AtV w g o l) (hb : Below w.heap.size w w') : AtV w' g o l := fun i x y hi => ⟨keep_cell hb (h i x y hi).1, keep_cell hb (h i x y hi).2⟩
/-- one step: what an act makes of two values -/
def stepV (G : Int → Int → Int × Int) (p q : Int × Int) : Int × Int := (bothN (G p.1 q.1) p.2 q.2, bothF (G p.1 q.1) p.2 q.2)
/-- what becomes of a first value and a list -/
def allV (G : Int → Int → Int × Int) (p : Int × Int) (l : List (Int × Int)) : Int × Int := l.foldl (stepV G) p
/-- an act keeps to int -/
def StaysV (G : Int → Int → Int × Int) : Prop := ∀ a b, B64 a → B64 b → B64 (G a b).1
theorem step_b64 {G : Int → Int → Int × Int} (hG : StaysV G) {p q : Int × Int} (hp : B64 p.1) (hq : B64 q.1) : B64 (stepV G p q).1 := by
  unfold stepV bothN
  simp only
  split
  · exact hG _ _ hp hq
  · unfold B64; omega
theorem all_b64 {G : Int → Int → Int × Int} (hG : StaysV G) : ∀ (l : List (Int × Int)) (p : Int × Int), B64 p.1 → (∀ q ∈ l, B64 q.1) → B64 (allV G p l).1
  | [], _, hp, _ => hp
  | q :: r, p, hp, hl => all_b64 hG r (stepV G p q) (step_b64 hG hp (hl q (by simp))) (fun x hx => hl x (by simp [hx]))
theorem all_snoc {G : Int → Int → Int × Int} {p : Int × Int} {l : List (Int × Int)} {i : Nat} {x y : Int} (h : l[i]? = some (x, y)) : allV G p (l.take (i + 1)) = stepV G (allV G p (l.take i)) (x, y) := by
  unfold allV
  rw [List.take_add_one, h]
  simp
/-- how many are left -/
def leftC (n : Nat) (v : Value) : Nat := n - (intOf v).toNat

set_option maxHeartbeats 400000 in
theorem uall_nil {F : Nat} (A : Option Addr) (cap : Nat) (n f : Int) (w : World) :
    Calls Tryd.prog 33 #[.agg #[.int .i64 n, .int .i64 f], .slice A 0 cap, .func (.func F) #[] #[]] w fun e w' => e = .returned (.agg #[.int .i64 n, .int .i64 f]) ∧ Below w.heap.size w w' := by
  go_enter Tryd.func33, Tryd.ntmps33
  go_wp2_with fail
  go_loopw [11] (fun v wr => v = .int .i64 0 ∧ wr = (w.alloc (.cells #[.int .i64 n, .int .i64 f] 24)).alloc (.cells #[.int .i64 0, .int .i64 0] 24)) (fun _ _ => 0)
  case atStart => exact ⟨rfl, rfl⟩
  case round =>
    obtain ⟨rfl, rfl⟩ := hrel
    go_wp2_with fail
    exact bodyPost_ret (v := .agg #[.int .i64 n, .int .i64 f]) (by simp [results, Tryd.results33, go_sem]) rfl
      ⟨rfl, by first | exact (((Below.refl _ _).alloc (Nat.le_refl _) _).alloc (by simp) _) | exact (((((Below.refl _ _).alloc (Nat.le_refl _) _).alloc (by simp) _).setCell (by simp) _).setCell (by simp) _)⟩

set_option maxHeartbeats 1000000 in
theorem uall_some {F : Nat} {G : Int → Int → Int × Int} (hA : ActC F G) (hG : StaysV G) (l : List (Int × Int)) (hl : l.length ≤ maxLen) (hlb : ∀ q ∈ l, B64 q.1) (n f : Int) (hn : B64 n) (g o cap : Nat) (w : World) (hc : AtV w g o l) :
    Calls Tryd.prog 33 #[.agg #[.int .i64 n, .int .i64 f], .slice (some ⟨g, o, none⟩) l.length cap, .func (.func F) #[] #[]] w fun e w' =>
      e = .returned (.agg #[.int .i64 (allV G (n, f) l).1, .int .i64 (allV G (n, f) l).2]) ∧ Below w.heap.size w w' := by
  have HC := Lib.hid hc
  have HL := Lib.hid hlb
  have HN := Lib.hid hn
  have HG := Lib.hid hG
  have HA := Lib.hid hA
  unfold maxLen at hl
  clear hc hlb hn hG hA
  go_enter Tryd.func33, Tryd.ntmps33
  go_wp2_with fail
  go_loopw [11] (fun v wr => ∃ i : Nat, ∃ a b : Int, i ≤ l.length ∧ v = .int .i64 i ∧ Hid (allV G (n, f) (l.take i) = (a, b)) ∧ Hid (B64 a) ∧ Below w.heap.size w wr ∧ w.heap.size + 1 < wr.heap.size ∧
      wr.cell? ⟨w.heap.size, 0, none⟩ = some (.int .i64 a) ∧ wr.cell? ⟨w.heap.size, 1, none⟩ = some (.int .i64 b) ∧ wr.frozen? ⟨w.heap.size, 0, none⟩ = false ∧ wr.frozen? ⟨w.heap.size, 1, none⟩ = false ∧
      wr.cell? ⟨w.heap.size + 1, 0, none⟩ = some (.int .i64 0) ∧ wr.cell? ⟨w.heap.size + 1, 1, none⟩ = some (.int .i64 0) ∧ wr.frozen? ⟨w.heap.size + 1, 0, none⟩ = false ∧ wr.frozen? ⟨w.heap.size + 1, 1, none⟩ = false) (fun v _ => leftC l.length v)
  case atStart =>
    exact ⟨0, n, f, Nat.zero_le _, rfl, Lib.hid (by simp [allV]), HN, ((Below.refl _ _).alloc (Nat.le_refl _) _).alloc (by simp) _, by simp, by simp [go_sem], by simp [go_sem], by simp [go_sem], by simp [go_sem], by simp [go_sem], by simp [go_sem], by simp [go_sem], by simp [go_sem]⟩
  case round =>
    obtain ⟨i, a, b, hi, rfl, HP, HB, hb, z1, c0, c1, f0, f1, k0, k1, g0, g1⟩ := hrel
    have z0 : w.heap.size < wr.heap.size := by omega
    by_cases hlt : i < l.length
    · obtain ⟨x, y, hxy⟩ : ∃ x y, l[i]? = some (x, y) := ⟨_, _, List.getElem?_eq_getElem hlt⟩
      have hx : B64 x := HL.out (x, y) (List.mem_of_getElem? hxy)
      obtain ⟨a0, a1⟩ := (HC.out.below hb) i x y hxy
      have hS := all_snoc (G := G) (p := (n, f)) hxy
      rw [HP.out] at hS
      have HS := Lib.hid hS
      have HB2 := Lib.hid (step_b64 HG.out (p := (a, b)) (q := (x, y)) HB.out hx)
      have HM := Lib.hid (uboth_any HA.out a b x y HB.out hx)
      have zg : g < wr.heap.size := Lib.lt_of_cell a0
      clear hxy hx hS
      go_wp2_with fail
      refine (HM.out _).mono ?_; rintro e w1 ⟨rfl, b1⟩
      have p0 := keep_cell b1 (p := ⟨w.heap.size, 0, none⟩) (v := .int .i64 a) (by simp [go_sem, c0, z0])
      have p1 := keep_cell b1 (p := ⟨w.heap.size, 1, none⟩) (v := .int .i64 b) (by simp [go_sem, c1, z0])
      have q0 := keep_frozen b1 (p := ⟨w.heap.size, 0, none⟩) (by simp; omega) (by simp [go_sem, f0, z0])
      have q1 := keep_frozen b1 (p := ⟨w.heap.size, 1, none⟩) (by simp; omega) (by simp [go_sem, f1, z0])
      have r0 := keep_cell b1 (p := ⟨w.heap.size + 1, 0, none⟩) (v := .int .i64 0) (by simp [go_sem, k0, z1])
      have r1 := keep_cell b1 (p := ⟨w.heap.size + 1, 1, none⟩) (v := .int .i64 0) (by simp [go_sem, k1, z1])
      have s0 := keep_frozen b1 (p := ⟨w.heap.size + 1, 0, none⟩) (by simp; omega) (by simp [go_sem, g0, z1])
      have s1 := keep_frozen b1 (p := ⟨w.heap.size + 1, 1, none⟩) (by simp; omega) (by simp [go_sem, g1, z1])
      have h2 := (hb.alloc hb.size _).trans (b1.mono (by have := hb.size; simp; omega))
      have z2 : w.heap.size + 1 < w1.heap.size := Lib.lt_of_cell r0
      clear c0 c1 f0 f1 k0 k1 g0 g1 a0 a1 b1 hb
      go_wp2_with fail
      go_roundw
      case rel =>
        refine ⟨i + 1, (stepV G (a, b) (x, y)).1, (stepV G (a, b) (x, y)).2, by omega, by go_num, HS, HB2, (h2.setCell (by simp) _).setCell (by simp) _, ?_⟩
        refine ⟨by simp; omega, by simp [go_sem, stepV, p0], by simp [go_sem, stepV, p1], by simp [go_sem, q0], by simp [go_sem, q1], by simp [go_sem, r0], by simp [go_sem, r1], by simp [go_sem, s0], by simp [go_sem, s1]⟩
      case measure => simp [leftC, intOf]; omega
    · have hE := HP.out
      rw [List.take_of_length_le (by omega)] at hE
      have HE := Lib.hid hE
      clear hE
      go_wp2_with fail
      exact bodyPost_ret (v := .agg #[.int .i64 a, .int .i64 b]) (by simp [results, Tryd.results33, go_sem, k0, k1]) rfl
        ⟨by rw [HE.out], (hb.setCell (by simp) _).setCell (by simp) _⟩
theorem uall_any {F : Nat} {G : Int → Int → Int × Int} (hA : ActC F G) (hG : StaysV G) (l : List (Int × Int)) (hl : l.length ≤ maxLen) (hlb : ∀ q ∈ l, B64 q.1) (n f : Int) (hn : B64 n) (A : Option Addr) (cap : Nat) (w : World)
    (hc : l ≠ [] → ∃ g o, A = some ⟨g, o, none⟩ ∧ AtV w g o l) :
    Calls Tryd.prog 33 #[.agg #[.int .i64 n, .int .i64 f], .slice A l.length cap, .func (.func F) #[] #[]] w fun e w' =>
      e = .returned (.agg #[.int .i64 (allV G (n, f) l).1, .int .i64 (allV G (n, f) l).2]) ∧ Below w.heap.size w w' := by
  by_cases h : l = []
  · subst h
    exact uall_nil A cap n f w
  · obtain ⟨g, o, rfl, ha⟩ := hc h
    exact uall_some hA hG l hl hlb n f hn g o cap w ha
end Go.Proofs.YtpnmefkbfonhpaaDoor
