/- What package value does with two values, by an act: both. -/
import Derived.Test.YtpnmefkbfonhpaaDoorUaA
namespace Go.Proofs.YtpnmefkbfonhpaaDoor
open Go.RowKit

/-- what is done with two values, of which an act makes p -/
def bothN (p : Int × Int) (f g : Int) : Int := if f = 0 ∧ g = 0 then p.1 else 0
def bothF (p : Int × Int) (f g : Int) : Int := if f = 0 then (if g = 0 then p.2 else g) else f
def leftU (v : Value) : Nat := 2 - (intOf v).toNat

set_option maxHeartbeats 1000000 in
set_option maxRecDepth 10000 in
theorem uboth_any {F : Nat} {G : Int → Int → Int × Int} (hA : ActC F G) (n f m g : Int) (hn : B64 n) (hm : B64 m) (w : World) :
    Calls Tryd.prog 26 #[.agg #[.int .i64 n, .int .i64 f], .agg #[.int .i64 m, .int .i64 g], .func (.func F) #[] #[]] w fun e w' =>
      e = .returned (.agg #[.int .i64 (bothN (G n m) f g), .int .i64 (bothF (G n m) f g)]) ∧ Below w.heap.size w w' := by
  have H := Lib.hid (hA.runs n m hn hm)
  have hE := hA.enters
  clear hn hm
  generalize G n m = X at *
  have x0 : ∀ w : World, (Instr.index 66 (.agg #[.int .i64 n, .int .i64 f, .int .i64 m, .int .i64 g]) (.int .i64 0)).run Tryd.prog w = .ok (.agg #[.int .i64 n, .int .i64 f]) w := fun _ => by kernel_rfl
  have x1 : ∀ w : World, (Instr.index 66 (.agg #[.int .i64 n, .int .i64 f, .int .i64 m, .int .i64 g]) (.int .i64 1)).run Tryd.prog w = .ok (.agg #[.int .i64 m, .int .i64 g]) w := fun _ => by kernel_rfl
  go_enter Tryd.func26, Tryd.ntmps26
  go_wp2_with fail
  go_loopw [12] (fun v wr => ∃ i : Nat, i ≤ 2 ∧ v = .int .i64 i ∧ Hid ((1 ≤ i → f = 0) ∧ (2 ≤ i → g = 0)) ∧ Below (w.heap.size + 1 + 1 + 1) (((w.alloc (.cells #[.int .i64 n, .int .i64 f] 24)).alloc (.cells #[.int .i64 m, .int .i64 g] 24)).alloc (.cells #[.int .i64 0, .int .i64 0] 24)) wr) (fun v _ => leftU v)
  case atStart => exact ⟨0, by omega, rfl, Lib.hid ⟨fun h => by omega, fun h => by omega⟩, Below.refl _ _⟩
  case round =>
    obtain ⟨i, hi, rfl, HU, hb⟩ := hrel
    have a0 : wr.cell? ⟨w.heap.size, 0, none⟩ = some (.int .i64 n) := by rw [hb.cell (by simp; omega)]; simp [go_sem]
    have a1 : wr.cell? ⟨w.heap.size, 1, none⟩ = some (.int .i64 f) := by rw [hb.cell (by simp; omega)]; simp [go_sem]
    have c0 : wr.cell? ⟨w.heap.size + 1, 0, none⟩ = some (.int .i64 m) := by rw [hb.cell (by simp)]; simp [go_sem]
    have c1 : wr.cell? ⟨w.heap.size + 1, 1, none⟩ = some (.int .i64 g) := by rw [hb.cell (by simp)]; simp [go_sem]
    have k0 : wr.cell? ⟨w.heap.size + 1 + 1, 0, none⟩ = some (.int .i64 0) := by rw [hb.cell (by simp)]; simp [go_sem]
    have k1 : wr.cell? ⟨w.heap.size + 1 + 1, 1, none⟩ = some (.int .i64 0) := by rw [hb.cell (by simp)]; simp [go_sem]
    have f0 : wr.frozen? ⟨w.heap.size + 1 + 1, 0, none⟩ = false := by rw [hb.frozen (by simp)]; simp [go_sem]
    have f1 : wr.frozen? ⟨w.heap.size + 1 + 1, 1, none⟩ = false := by rw [hb.frozen (by simp)]; simp [go_sem]
    have z0 : w.heap.size + 1 + 1 < wr.heap.size := by have := hb.size; simp at this; omega
    have z1 : w.heap.size + 1 < wr.heap.size := by omega
    have z2 : w.heap.size < wr.heap.size := by omega
    have b0 : Below w.heap.size w wr := ((((Below.refl _ _).alloc (Nat.le_refl _) _).alloc (by simp) _).alloc (by simp; omega) _).trans (hb.mono (by omega))
    have hq : i = 0 ∨ i = 1 ∨ i = 2 := by omega
    clear hi
    rcases hq with rfl | rfl | rfl
    · by_cases hf : f = 0
      · have HU' : Hid ((1 ≤ 0 + 1 → f = 0) ∧ (2 ≤ 0 + 1 → g = 0)) := Lib.hid ⟨fun _ => hf, fun h => by omega⟩
        have d1 : (f != 0) = false := by simpa using hf
        clear hf HU
        go_wp2_with fail
        go_roundw
        case rel => exact ⟨0 + 1, by omega, by go_num, HU', hb.alloc (by omega) _⟩
        case measure => simp [leftU, intOf]
      · have d1 : (f != 0) = true := by simpa using hf
        have e1 : bothN X f g = 0 := if_neg (by omega)
        have e2 : bothF X f g = f := if_neg hf
        have E := Lib.hid (And.intro e1 e2)
        clear hf HU e1 e2
        go_wp2_with fail
        exact bodyPost_ret (v := .agg #[.int .i64 0, .int .i64 f]) (by simp [results, Tryd.results26, go_sem, k0, k1, z0]) rfl
          ⟨by rw [E.out.1, E.out.2], ((b0.setCell (by simp; omega) _).setCell (by simp; omega) _).alloc (by simpa using b0.size) _⟩
    · have hf : f = 0 := HU.out.1 (by omega)
      by_cases hg : g = 0
      · have HU' : Hid ((1 ≤ 1 + 1 → f = 0) ∧ (2 ≤ 1 + 1 → g = 0)) := Lib.hid ⟨fun _ => hf, fun h => hg⟩
        have d1 : (g != 0) = false := by simpa using hg
        clear hf hg HU
        go_wp2_with fail
        go_roundw
        case rel => exact ⟨1 + 1, by omega, by go_num, HU', hb.alloc (by omega) _⟩
        case measure => simp [leftU, intOf]
      · have d1 : (g != 0) = true := by simpa using hg
        have e1 : bothN X f g = 0 := if_neg (by omega)
        have e2 : bothF X f g = g := by unfold bothF; rw [if_pos hf, if_neg hg]
        have E := Lib.hid (And.intro e1 e2)
        clear hf hg HU e1 e2
        go_wp2_with fail
        exact bodyPost_ret (v := .agg #[.int .i64 0, .int .i64 g]) (by simp [results, Tryd.results26, go_sem, k0, k1, z0]) rfl
          ⟨by rw [E.out.1, E.out.2], ((b0.setCell (by simp; omega) _).setCell (by simp; omega) _).alloc (by simpa using b0.size) _⟩
    · have hf : f = 0 := HU.out.1 (by omega)
      have hg : g = 0 := HU.out.2 (by omega)
      subst hf hg
      clear HU hb
      go_wp2_with fail
      refine (H.out _).mono ?_; rintro e w1 ⟨rfl, b1⟩
      have q0 := keep_cell b1 k0
      have q1 := keep_cell b1 k1
      have p0 := keep_frozen b1 (by simpa using z0) f0
      have p1 := keep_frozen b1 (by simpa using z0) f1
      have h2 := b0.trans (b1.mono b0.size)
      clear a0 a1 c0 c1 k0 k1 f0 f1 b1
      go_wp2_with fail
      exact bodyPost_ret (v := .agg #[.int .i64 X.1, .int .i64 X.2]) (by simp [results, Tryd.results26, go_sem, q0, q1]) rfl
        ⟨rfl, (h2.setCell (by simp; omega) _).setCell (by simp; omega) _⟩
end Go.Proofs.YtpnmefkbfonhpaaDoor
