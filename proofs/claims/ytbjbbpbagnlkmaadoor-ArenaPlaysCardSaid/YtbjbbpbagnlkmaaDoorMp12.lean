/- Texts joined: NdW, NdX. -/
import Derived.Test.YtbjbbpbagnlkmaaDoorMp11
set_option linter.all false
namespace Go.Proofs.YtbjbbpbagnlkmaaDoor
open Go.RowKit
structure ActB (w : World) (B : Nat) (q : AcM) : Prop where
  rowN : RowN w (fun g => g < B) q.LA q.L
  rowI : RowI w (fun g => g < B) q.RA q.roots
  fit : FitA q
  nodes : ∀ n ∈ q.L, FitB n
  ints : B64s q.roots
  kind : 0 ≤ q.kind ∧ q.kind ≤ 255
theorem ActB.below {w w' : World} {B : Nat} {q : AcM} (h : ActB w B q) (hb : Below B w w') : ActB w' B q :=
  ⟨h.rowN.kept ⟨hb.size, fun g hg _ => hb.block g hg⟩, h.rowI.kept ⟨hb.size, fun g hg _ => hb.block g hg⟩, h.fit, h.nodes, h.ints, h.kind⟩
def StepP (AP : World → (Nat → Prop) → Nat → Nat → Sh → Prop) (w : World) (B a m room : Nat) (e : Ending) (w' : World) : Prop := e = .returned (.bool true) ∧ (∃ s', Both AP w' B a m room s') ∧ Below B w w'
theorem parA {w w1 : World} {v0 v1 v2 : Value} (hb : Below (w.heap.size + 1) (w.alloc (.cells #[v0, v1, v2] 35)) w1) :
    w1.cell? ⟨w.heap.size, 0, none⟩ = some v0 ∧ w1.cell? ⟨w.heap.size, 1, none⟩ = some v1 ∧ w1.cell? ⟨w.heap.size, 2, none⟩ = some v2 := by
  refine ⟨?_, ?_, ?_⟩ <;> (rw [hb.cell (by simp)]; simp [go_sem])
theorem RM.getW {w : World} {P : Nat → Prop} {m gN cN gB cB room : Nat} {nds : List Nd} {bs : List Bool} (h : RM w P m gN cN gB cB room nds bs) (r : Int) : (getN (stOf nds bs) r).refs.length ≤ 1000000 ∧ (getN (stOf nds bs) r).nums.length ≤ 1000000 := by
  unfold getN
  cases e : ndAt (stOf nds bs) r with
  | none => exact ⟨by decide, by decide⟩
  | some n =>
    have hl := (live_bound (live_iff.2 ⟨n, e⟩)).1
    obtain ⟨i, rfl⟩ : ∃ i : Nat, r = (i : Int) := ⟨r.toNat, by omega⟩
    rw [st_ndAt h.len i (by omega)] at e
    split at e
    · exact h.wide n (List.mem_of_getElem? e)
    · cases e
section
variable {EV : World → Prop} {AP : World → (Nat → Prop) → Nat → Nat → Sh → Prop} {w : World} {B a m room : Nat} {s : Sh}
set_option maxHeartbeats 16000000 in
set_option maxRecDepth 10000 in
theorem lstep_sweep (hC : AC B EV AP) (hBo : Both AP w B a m room s) (q : AcM) (hq : ActB w B q) (hk5 : q.kind % 8 = 5) :
    Calls Tryd.prog 9 #[.pointer (some ⟨a, 0, none⟩), .pointer (some ⟨m, 0, none⟩), .agg #[.int .u8 q.kind, .slice q.LA q.L.length q.lc, .slice q.RA q.roots.length q.rc]] w fun e w' => StepP AP w B a m room e w' := by
  obtain ⟨F, P, gN, cN, gB, cB, nds, bs, hS, hA, hR, hst, hI, hB⟩ := hBo
  have hb0 : Below w.heap.size w (w.alloc (.cells #[.int .u8 q.kind, .slice q.LA q.L.length q.lc, .slice q.RA q.roots.length q.rc] 35)) := (Below.refl _ _).alloc (Nat.le_refl _) _
  obtain ⟨hS0, hA0, hR0⟩ := sepN hC hS hA hR hb0
  have hq0 := hq.below (hb0.mono hB)
  have HX := Lib.hid (fun w' (hb : Below (w.heap.size + 1) (w.alloc (.cells #[.int .u8 q.kind, .slice q.LA q.L.length q.lc, .slice q.RA q.roots.length q.rc] 35)) w') => parA hb)
  have hs0 : (w.alloc (.cells #[.int .u8 q.kind, .slice q.LA q.L.length q.lc, .slice q.RA q.roots.length q.rc] 35)).heap.size = w.heap.size + 1 := by simp
  have hk := hq.kind
  have hfr := hq.fit.1
  subst hst
  have HS0 := Lib.hid hS0
  have HA0 := Lib.hid hA0
  have HR0 := Lib.hid hR0
  have HQ0 := Lib.hid hq0
  have HI := Lib.hid hI
  have HB0 := Lib.hid hb0
  have HC := Lib.hid hC
  have HSw := Lib.hid hS
  have HSz := Lib.hid hs0
  have hB0 : B ≤ (w.alloc (.cells #[.int .u8 q.kind, .slice q.LA q.L.length q.lc, .slice q.RA q.roots.length q.rc] 35)).heap.size := by omega
  clear hS hA hR hI hS0 hA0 hR0 hq hq0 hb0 hC
  go_enter Tryd.func9, Tryd.ntmps9
  go_wp2_with fail
  obtain ⟨x0, x1, x2⟩ := HX.out _ ((Below.refl _ _).mono (Nat.le_of_eq HSz.out.symm))
  generalize w.alloc (.cells #[.int .u8 q.kind, .slice q.LA q.L.length q.lc, .slice q.RA q.roots.length q.rc] 35) = W0 at *
  refine (HC.out.sweep HA0.out HI.out q.roots q.RA q.rc HQ0.out.rowI (fun g hg hf => by have := HS0.out.left g hf; omega) (by omega) HQ0.out.ints).mono ?_; rintro e w1 ⟨rfl, F', haf⟩
  obtain ⟨hS1, hA1, hR1, hb1⟩ := sepL HC.out HS0.out HR0.out hB0 haf
  have y2 := haf.2.2.cell (p := ⟨w.heap.size, 2, none⟩) (fun hf => by have := HSw.out.left w.heap.size hf; omega) x2
  have HS1 := Lib.hid hS1
  have HA1 := Lib.hid hA1
  have HQ1 := Lib.hid (HQ0.out.below hb1)
  have hB1 : B ≤ w1.heap.size := Nat.le_trans hB0 hb1.size
  have HSwp := Lib.hid (rSweep_any hR1 HI.out q.roots q.RA q.rc HQ1.out.rowI (by omega))
  have HB1 := Lib.hid (HB0.out.mono hB |>.trans hb1)
  clear haf hS1 hA1 hR1 hb1 x0 x1 x2
  go_wp2_with fail
  refine HSwp.out.mono ?_; rintro e w2 ⟨gB', cB', bs', n, c, rfl, hsw, hR2, hbut⟩
  obtain ⟨P2, hS2, hA2, hR2', hb2⟩ := sepR HC.out HS1.out HA1.out hB1 hR2 hbut
  have hI2 := inv_sweep HI.out q.roots
  rw [hsw] at hA2 hI2
  have HF : Hid (Both AP w2 B a m room (stOf nds bs')) := Lib.hid ⟨_, P2, gN, cN, gB', cB', nds, bs', hS2, hA2, hR2', rfl, hI2, Nat.le_trans hB1 hb2.size⟩
  have HB2 := Lib.hid (HB1.out.trans hb2)
  clear hR2 hbut hS2 hA2 hR2' hb2 hI2 y2
  simp only [hsw]
  go_wp2_with fail
  go_ret
  exact ⟨rfl, ⟨_, HF.out⟩, HB2.out⟩
set_option maxHeartbeats 16000000 in
set_option maxRecDepth 10000 in
theorem lstep_get (hC : AC B EV AP) (hBo : Both AP w B a m room s) (q : AcM) (hq : ActB w B q) (hk5 : q.kind % 8 = 7) (hne : q.roots ≠ []) :
    Calls Tryd.prog 9 #[.pointer (some ⟨a, 0, none⟩), .pointer (some ⟨m, 0, none⟩), .agg #[.int .u8 q.kind, .slice q.LA q.L.length q.lc, .slice q.RA q.roots.length q.rc]] w fun e w' => StepP AP w B a m room e w' := by
  obtain ⟨F, P, gN, cN, gB, cB, nds, bs, hS, hA, hR, hst, hI, hB⟩ := hBo
  have hb0 : Below w.heap.size w (w.alloc (.cells #[.int .u8 q.kind, .slice q.LA q.L.length q.lc, .slice q.RA q.roots.length q.rc] 35)) := (Below.refl _ _).alloc (Nat.le_refl _) _
  obtain ⟨hS0, hA0, hR0⟩ := sepN hC hS hA hR hb0
  have hq0 := hq.below (hb0.mono hB)
  have HX := Lib.hid (fun w' (hb : Below (w.heap.size + 1) (w.alloc (.cells #[.int .u8 q.kind, .slice q.LA q.L.length q.lc, .slice q.RA q.roots.length q.rc] 35)) w') => parA hb)
  have hs0 : (w.alloc (.cells #[.int .u8 q.kind, .slice q.LA q.L.length q.lc, .slice q.RA q.roots.length q.rc] 35)).heap.size = w.heap.size + 1 := by simp
  have hk := hq.kind
  have hfr := hq.fit.1
  subst hst
  have HS0 := Lib.hid hS0
  have HA0 := Lib.hid hA0
  have HR0 := Lib.hid hR0
  have HQ0 := Lib.hid hq0
  have HI := Lib.hid hI
  have HB0 := Lib.hid hb0
  have HC := Lib.hid hC
  have HSw := Lib.hid hS
  have HSz := Lib.hid hs0
  have hB0 : B ≤ (w.alloc (.cells #[.int .u8 q.kind, .slice q.LA q.L.length q.lc, .slice q.RA q.roots.length q.rc] 35)).heap.size := by omega
  clear hS hA hR hI hS0 hA0 hR0 hq hq0 hb0 hC
  obtain ⟨h, T, hrt⟩ : ∃ h T, q.roots = h :: T := by
    cases e : q.roots with
    | nil => exact absurd e hne
    | cons h T => exact ⟨h, T, rfl⟩
  have Hrt := Lib.hid hrt
  have hhB := HQ0.out.ints h (by rw [hrt]; exact List.mem_cons_self)
  clear hrt hne
  go_enter Tryd.func9, Tryd.ntmps9
  go_upto_region 10 with fail
  obtain ⟨x0, x1, x2⟩ := HX.out _ ((Below.refl _ _).mono (Nat.le_of_eq HSz.out.symm))
  generalize w.alloc (.cells #[.int .u8 q.kind, .slice q.LA q.L.length q.lc, .slice q.RA q.roots.length q.rc] 35) = W0 at *
  obtain ⟨g, o, hRA, _, _, hat⟩ := HQ0.out.rowI.at (i := 0) (by rw [Hrt.out]; simp)
  have hc0 : W0.cell? ⟨g, o, none⟩ = some (.int .i64 h) := hat 0 h (by rw [Hrt.out]; rfl)
  have hlenN : 0 < q.roots.length := by rw [Hrt.out]; simp
  have hdl : decide (0 < q.roots.length) = true := decide_eq_true hlenN
  have hdi : decide ((0 : Int) < (q.roots.length : Int)) = true := decide_eq_true (by omega)
  clear hat
  go_wp2_with fail
  refine (HC.out.get HA0.out HI.out h hhB).mono ?_; rintro e w1 ⟨A1, k1, A2, k2, rfl, F', r1, r2, haf⟩
  obtain ⟨hS1, hA1, hR1, hb1⟩ := sepL HC.out HS0.out HR0.out hB0 haf
  have HHG := Lib.hid (hR1.getW h)
  have hal : Below w1.heap.size w1 (w1.alloc (.cells #[.int .i64 (getN (stOf nds bs) h).kind, .slice A1 (getN (stOf nds bs) h).refs.length k1, .slice A2 (getN (stOf nds bs) h).nums.length k2, .string ⟨(getN (stOf nds bs) h).text.toArray⟩] 40)) := (Below.refl _ _).alloc (Nat.le_refl _) _
  obtain ⟨hS1', hA1', hR1'⟩ := sepN HC.out hS1 hA1 hR1 hal
  have HS1 := Lib.hid hS1'
  have HA1 := Lib.hid hA1'
  have HR1 := Lib.hid hR1'
  have hz1 : B ≤ w1.heap.size := Nat.le_trans hB0 hb1.size
  have HB1 : Hid (Below B w _) := Lib.hid ((HB0.out.mono hB |>.trans hb1).trans (hal.mono hz1))
  have HG := Lib.hid (rGet_any hR1' h)
  have HR12 := Lib.hid (And.intro (r1.below hal) (r2.below hal))
  have hq4 : w1.cell? ⟨w1.heap.size, 0, none⟩ = none ∨ True := .inr trivial
  have HP4 := Lib.hid (fun w' (hb : Below (w1.alloc (.cells #[.int .i64 (getN (stOf nds bs) h).kind, .slice A1 (getN (stOf nds bs) h).refs.length k1, .slice A2 (getN (stOf nds bs) h).nums.length k2, .string ⟨(getN (stOf nds bs) h).text.toArray⟩] 40)).heap.size (w1.alloc (.cells #[.int .i64 (getN (stOf nds bs) h).kind, .slice A1 (getN (stOf nds bs) h).refs.length k1, .slice A2 (getN (stOf nds bs) h).nums.length k2, .string ⟨(getN (stOf nds bs) h).text.toArray⟩] 40)) w') =>
    (show (w'.cell? ⟨w1.heap.size, 0, none⟩ = some (.int .i64 (getN (stOf nds bs) h).kind) ∧ w'.cell? ⟨w1.heap.size, 1, none⟩ = some (.slice A1 (getN (stOf nds bs) h).refs.length k1) ∧ w'.cell? ⟨w1.heap.size, 2, none⟩ = some (.slice A2 (getN (stOf nds bs) h).nums.length k2) ∧ w'.cell? ⟨w1.heap.size, 3, none⟩ = some (.string ⟨(getN (stOf nds bs) h).text.toArray⟩)) from ⟨keep_fresh hb 0 rfl, keep_fresh hb 1 rfl, keep_fresh hb 2 rfl, keep_fresh hb 3 rfl⟩))
  have hsz1 : w1.heap.size < (w1.alloc (.cells #[.int .i64 (getN (stOf nds bs) h).kind, .slice A1 (getN (stOf nds bs) h).refs.length k1, .slice A2 (getN (stOf nds bs) h).nums.length k2, .string ⟨(getN (stOf nds bs) h).text.toArray⟩] 40)).heap.size := by simp
  have HZ1 := Lib.hid hsz1
  have HZ2 := Lib.hid hz1
  clear r1 r2 haf hS1 hA1 hR1 hb1 hal hS1' hA1' hR1' hq4 hsz1 hz1 x0 x1 x2
  unfold ndV at HG
  unfold ndV
  generalize hNe : getN (stOf nds bs) h = N at *
  generalize hEe : getE (stOf nds bs) h = E at *
  clear hNe hEe
  go_wp2_with fail
  generalize w1.alloc (.cells #[.int .i64 N.kind, .slice A1 N.refs.length k1, .slice A2 N.nums.length k2, .string ⟨N.text.toArray⟩] 40) = W1 at *
  refine HG.out.mono ?_; rintro e w2 ⟨A3, k3, A4, k4, rfl, r3, r4, hb2⟩
  have hal : Below w2.heap.size w2 (w2.alloc (.cells #[.int .i64 N.kind, .slice A3 N.refs.length k3, .slice A4 N.nums.length k4, .string ⟨N.text.toArray⟩] 43)) := (Below.refl _ _).alloc (Nat.le_refl _) _
  have hb3 := hb2.trans (hal.mono hb2.size)
  obtain ⟨hS2, hA2, hR2⟩ := sepN HC.out HS1.out HA1.out HR1.out hb3
  obtain ⟨p0, p1, p2, p3⟩ := HP4.out _ hb3
  have HSm := Lib.hid (lndsame_any N N A1 A2 A3 A4 k1 k2 k3 k4 _ _ _ (HR12.out.1.below hb3) (HR12.out.2.below hb3) (r3.below hal) (r4.below hal) (by have := HHG.out.1; unfold maxLen; omega) (by have := HHG.out.2; unfold maxLen; omega))
  rw [decide_eq_true (rfl : N = N)] at HSm
  have HS2 := Lib.hid hS2
  have HA2 := Lib.hid hA2
  have HR2 := Lib.hid hR2
  have hzz := hb2.size
  have hz3 : w1.heap.size < w2.heap.size := by have := HZ1.out; omega
  have hB2z : B ≤ W1.heap.size := by have := HZ1.out; have := HZ2.out; omega
  have HB2 : Hid (Below B w _) := Lib.hid (HB1.out.trans (hb3.mono hB2z))
  clear r3 r4 hb2 hal hS2 hA2 hR2
  unfold ndV at HSm
  go_wp2_with fail
  refine HSm.out.mono ?_; rintro e w3 ⟨rfl, hb4⟩
  obtain ⟨hS3, hA3, hR3⟩ := sepN HC.out HS2.out HA2.out HR2.out hb4
  have hB3z : B ≤ w3.heap.size := by have := hb4.size; have h2 := hb3.size; omega
  have HF : Hid (Both AP w3 B a m room (stOf nds bs)) := Lib.hid ⟨_, _, _, _, _, _, _, _, hS3, hA3, hR3, rfl, HI.out, hB3z⟩
  have HB3 := Lib.hid (HB2.out.trans (hb4.mono (by have h2 := hb3.size; omega)))
  clear hb4 hS3 hA3 hR3 hb3 p0 p1 p2 p3
  go_wp2_with fail
  go_ret
  exact ⟨rfl, ⟨_, HF.out⟩, HB3.out⟩
set_option maxHeartbeats 16000000 in
set_option maxRecDepth 10000 in
theorem lstep_get0 (hC : AC B EV AP) (hBo : Both AP w B a m room s) (q : AcM) (hq : ActB w B q) (hk5 : q.kind % 8 = 7) (hne : q.roots = []) :
    Calls Tryd.prog 9 #[.pointer (some ⟨a, 0, none⟩), .pointer (some ⟨m, 0, none⟩), .agg #[.int .u8 q.kind, .slice q.LA q.L.length q.lc, .slice q.RA q.roots.length q.rc]] w fun e w' => StepP AP w B a m room e w' := by
  obtain ⟨F, P, gN, cN, gB, cB, nds, bs, hS, hA, hR, hst, hI, hB⟩ := hBo
  have hb0 : Below w.heap.size w (w.alloc (.cells #[.int .u8 q.kind, .slice q.LA q.L.length q.lc, .slice q.RA q.roots.length q.rc] 35)) := (Below.refl _ _).alloc (Nat.le_refl _) _
  obtain ⟨hS0, hA0, hR0⟩ := sepN hC hS hA hR hb0
  have hq0 := hq.below (hb0.mono hB)
  have HX := Lib.hid (fun w' (hb : Below (w.heap.size + 1) (w.alloc (.cells #[.int .u8 q.kind, .slice q.LA q.L.length q.lc, .slice q.RA q.roots.length q.rc] 35)) w') => parA hb)
  have hs0 : (w.alloc (.cells #[.int .u8 q.kind, .slice q.LA q.L.length q.lc, .slice q.RA q.roots.length q.rc] 35)).heap.size = w.heap.size + 1 := by simp
  have hk := hq.kind
  have hfr := hq.fit.1
  subst hst
  have HS0 := Lib.hid hS0
  have HA0 := Lib.hid hA0
  have HR0 := Lib.hid hR0
  have HQ0 := Lib.hid hq0
  have HI := Lib.hid hI
  have HB0 := Lib.hid hb0
  have HC := Lib.hid hC
  have HSw := Lib.hid hS
  have HSz := Lib.hid hs0
  have hB0 : B ≤ (w.alloc (.cells #[.int .u8 q.kind, .slice q.LA q.L.length q.lc, .slice q.RA q.roots.length q.rc] 35)).heap.size := by omega
  clear hS hA hR hI hS0 hA0 hR0 hq hq0 hb0 hC
  have hhB : -9223372036854775808 ≤ (0 : Int) ∧ (0 : Int) ≤ 9223372036854775807 := by omega
  have Hln : Hid (q.roots.length = 0) := Lib.hid (by rw [hne]; rfl)
  clear hne
  go_enter Tryd.func9, Tryd.ntmps9
  go_upto_region 10 with fail
  obtain ⟨x0, x1, x2⟩ := HX.out _ ((Below.refl _ _).mono (Nat.le_of_eq HSz.out.symm))
  generalize w.alloc (.cells #[.int .u8 q.kind, .slice q.LA q.L.length q.lc, .slice q.RA q.roots.length q.rc] 35) = W0 at *
  have hln := Hln.out
  go_wp2_with fail
  refine (HC.out.get HA0.out HI.out 0 hhB).mono ?_; rintro e w1 ⟨A1, k1, A2, k2, rfl, F', r1, r2, haf⟩
  obtain ⟨hS1, hA1, hR1, hb1⟩ := sepL HC.out HS0.out HR0.out hB0 haf
  have HHG := Lib.hid (hR1.getW 0)
  have hal : Below w1.heap.size w1 (w1.alloc (.cells #[.int .i64 (getN (stOf nds bs) 0).kind, .slice A1 (getN (stOf nds bs) 0).refs.length k1, .slice A2 (getN (stOf nds bs) 0).nums.length k2, .string ⟨(getN (stOf nds bs) 0).text.toArray⟩] 40)) := (Below.refl _ _).alloc (Nat.le_refl _) _
  obtain ⟨hS1', hA1', hR1'⟩ := sepN HC.out hS1 hA1 hR1 hal
  have HS1 := Lib.hid hS1'
  have HA1 := Lib.hid hA1'
  have HR1 := Lib.hid hR1'
  have hz1 : B ≤ w1.heap.size := Nat.le_trans hB0 hb1.size
  have HB1 : Hid (Below B w _) := Lib.hid ((HB0.out.mono hB |>.trans hb1).trans (hal.mono hz1))
  have HG := Lib.hid (rGet_any hR1' 0)
  have HR12 := Lib.hid (And.intro (r1.below hal) (r2.below hal))
  have hq4 : w1.cell? ⟨w1.heap.size, 0, none⟩ = none ∨ True := .inr trivial
  have HP4 := Lib.hid (fun w' (hb : Below (w1.alloc (.cells #[.int .i64 (getN (stOf nds bs) 0).kind, .slice A1 (getN (stOf nds bs) 0).refs.length k1, .slice A2 (getN (stOf nds bs) 0).nums.length k2, .string ⟨(getN (stOf nds bs) 0).text.toArray⟩] 40)).heap.size (w1.alloc (.cells #[.int .i64 (getN (stOf nds bs) 0).kind, .slice A1 (getN (stOf nds bs) 0).refs.length k1, .slice A2 (getN (stOf nds bs) 0).nums.length k2, .string ⟨(getN (stOf nds bs) 0).text.toArray⟩] 40)) w') =>
    (show (w'.cell? ⟨w1.heap.size, 0, none⟩ = some (.int .i64 (getN (stOf nds bs) 0).kind) ∧ w'.cell? ⟨w1.heap.size, 1, none⟩ = some (.slice A1 (getN (stOf nds bs) 0).refs.length k1) ∧ w'.cell? ⟨w1.heap.size, 2, none⟩ = some (.slice A2 (getN (stOf nds bs) 0).nums.length k2) ∧ w'.cell? ⟨w1.heap.size, 3, none⟩ = some (.string ⟨(getN (stOf nds bs) 0).text.toArray⟩)) from ⟨keep_fresh hb 0 rfl, keep_fresh hb 1 rfl, keep_fresh hb 2 rfl, keep_fresh hb 3 rfl⟩))
  have hsz1 : w1.heap.size < (w1.alloc (.cells #[.int .i64 (getN (stOf nds bs) 0).kind, .slice A1 (getN (stOf nds bs) 0).refs.length k1, .slice A2 (getN (stOf nds bs) 0).nums.length k2, .string ⟨(getN (stOf nds bs) 0).text.toArray⟩] 40)).heap.size := by simp
  have HZ1 := Lib.hid hsz1
  have HZ2 := Lib.hid hz1
  clear r1 r2 haf hS1 hA1 hR1 hb1 hal hS1' hA1' hR1' hq4 hsz1 hz1 x0 x1 x2
  unfold ndV at HG
  unfold ndV
  generalize hNe : getN (stOf nds bs) 0 = N at *
  generalize hEe : getE (stOf nds bs) 0 = E at *
  clear hNe hEe
  go_wp2_with fail
  generalize w1.alloc (.cells #[.int .i64 N.kind, .slice A1 N.refs.length k1, .slice A2 N.nums.length k2, .string ⟨N.text.toArray⟩] 40) = W1 at *
  refine HG.out.mono ?_; rintro e w2 ⟨A3, k3, A4, k4, rfl, r3, r4, hb2⟩
  have hal : Below w2.heap.size w2 (w2.alloc (.cells #[.int .i64 N.kind, .slice A3 N.refs.length k3, .slice A4 N.nums.length k4, .string ⟨N.text.toArray⟩] 43)) := (Below.refl _ _).alloc (Nat.le_refl _) _
  have hb3 := hb2.trans (hal.mono hb2.size)
  obtain ⟨hS2, hA2, hR2⟩ := sepN HC.out HS1.out HA1.out HR1.out hb3
  obtain ⟨p0, p1, p2, p3⟩ := HP4.out _ hb3
  have HSm := Lib.hid (lndsame_any N N A1 A2 A3 A4 k1 k2 k3 k4 _ _ _ (HR12.out.1.below hb3) (HR12.out.2.below hb3) (r3.below hal) (r4.below hal) (by have := HHG.out.1; unfold maxLen; omega) (by have := HHG.out.2; unfold maxLen; omega))
  rw [decide_eq_true (rfl : N = N)] at HSm
  have HS2 := Lib.hid hS2
  have HA2 := Lib.hid hA2
  have HR2 := Lib.hid hR2
  have hzz := hb2.size
  have hz3 : w1.heap.size < w2.heap.size := by have := HZ1.out; omega
  have hB2z : B ≤ W1.heap.size := by have := HZ1.out; have := HZ2.out; omega
  have HB2 : Hid (Below B w _) := Lib.hid (HB1.out.trans (hb3.mono hB2z))
  clear r3 r4 hb2 hal hS2 hA2 hR2
  unfold ndV at HSm
  go_wp2_with fail
  refine HSm.out.mono ?_; rintro e w3 ⟨rfl, hb4⟩
  obtain ⟨hS3, hA3, hR3⟩ := sepN HC.out HS2.out HA2.out HR2.out hb4
  have hB3z : B ≤ w3.heap.size := by have := hb4.size; have h2 := hb3.size; omega
  have HF : Hid (Both AP w3 B a m room (stOf nds bs)) := Lib.hid ⟨_, _, _, _, _, _, _, _, hS3, hA3, hR3, rfl, HI.out, hB3z⟩
  have HB3 := Lib.hid (HB2.out.trans (hb4.mono (by have h2 := hb3.size; omega)))
  clear hb4 hS3 hA3 hR3 hb3 p0 p1 p2 p3
  go_wp2_with fail
  go_ret
  exact ⟨rfl, ⟨_, HF.out⟩, HB3.out⟩
set_option maxHeartbeats 16000000 in
set_option maxRecDepth 10000 in
theorem lstep_put (hC : AC B EV AP) (hBo : Both AP w B a m room s) (q : AcM) (hq : ActB w B q) (h5 : q.kind % 8 ≠ 5) (h6 : q.kind % 8 ≠ 6) (h7 : q.kind % 8 ≠ 7) :
    Calls Tryd.prog 9 #[.pointer (some ⟨a, 0, none⟩), .pointer (some ⟨m, 0, none⟩), .agg #[.int .u8 q.kind, .slice q.LA q.L.length q.lc, .slice q.RA q.roots.length q.rc]] w fun e w' => StepP AP w B a m room e w' := by
  obtain ⟨F, P, gN, cN, gB, cB, nds, bs, hS, hA, hR, hst, hI, hB⟩ := hBo
  have hb0 : Below w.heap.size w (w.alloc (.cells #[.int .u8 q.kind, .slice q.LA q.L.length q.lc, .slice q.RA q.roots.length q.rc] 35)) := (Below.refl _ _).alloc (Nat.le_refl _) _
  obtain ⟨hS0, hA0, hR0⟩ := sepN hC hS hA hR hb0
  have hq0 := hq.below (hb0.mono hB)
  have HX := Lib.hid (fun w' (hb : Below (w.heap.size + 1) (w.alloc (.cells #[.int .u8 q.kind, .slice q.LA q.L.length q.lc, .slice q.RA q.roots.length q.rc] 35)) w') => parA hb)
  have hs0 : (w.alloc (.cells #[.int .u8 q.kind, .slice q.LA q.L.length q.lc, .slice q.RA q.roots.length q.rc] 35)).heap.size = w.heap.size + 1 := by simp
  have hk := hq.kind
  have hfr := hq.fit.1
  subst hst
  have HS0 := Lib.hid hS0
  have HA0 := Lib.hid hA0
  have HR0 := Lib.hid hR0
  have HQ0 := Lib.hid hq0
  have HI := Lib.hid hI
  have HB0 := Lib.hid hb0
  have HC := Lib.hid hC
  have HSw := Lib.hid hS
  have HSz := Lib.hid hs0
  have hB0 : B ≤ (w.alloc (.cells #[.int .u8 q.kind, .slice q.LA q.L.length q.lc, .slice q.RA q.roots.length q.rc] 35)).heap.size := by omega
  clear hS hA hR hI hS0 hA0 hR0 hq hq0 hb0 hC
  have k5 : (q.kind % 8 == 5) = false := beq_eq_false_iff_ne.2 h5
  have k6 : (q.kind % 8 == 6) = false := beq_eq_false_iff_ne.2 h6
  have k7 : (q.kind % 8 == 7) = false := beq_eq_false_iff_ne.2 h7
  clear h5 h6 h7
  obtain ⟨⟨s1, out, c⟩, hput⟩ : ∃ t, putA room (stOf nds bs) q.L = t := ⟨_, rfl⟩
  have HPt := Lib.hid hput
  have HI2 : Hid (Inv room s1) := Lib.hid (by have := (inv_put HI.out q.L).1; rw [hput] at this; exact this)
  have hol : out.length ≤ 1000000 := by
    rcases Nat.eq_zero_or_pos c with e | e
    · have := (put_ok (room := room) (s := stOf nds bs) (l := q.L) (by rw [hput]; exact e)).1
      rw [hput] at this
      have h2 := HQ0.out.fit.2.1
      have h3 : out.length = q.L.length := this
      omega
    · have := (put_no (room := room) (s := stOf nds bs) (l := q.L) (by rw [hput]; exact fun e2 => by have e3 : c = 0 := e2; omega)).1
      rw [hput] at this
      have h3 : out = [] := this
      rw [h3]; simp
  clear hput
  go_enter Tryd.func9, Tryd.ntmps9
  go_wp2_with fail
  obtain ⟨x0, x1, x2⟩ := HX.out _ ((Below.refl _ _).mono (Nat.le_of_eq HSz.out.symm))
  generalize w.alloc (.cells #[.int .u8 q.kind, .slice q.LA q.L.length q.lc, .slice q.RA q.roots.length q.rc] 35) = W0 at *
  have HP1 := Lib.hid (HC.out.put HA0.out HI.out q.L q.LA q.lc HQ0.out.rowN (fun g hg hf => by have := HS0.out.left g hf; omega) HQ0.out.fit.2.1 HQ0.out.nodes)
  rw [HPt.out] at HP1
  refine HP1.out.mono ?_; rintro e w1 ⟨O, co, rfl, F', rO, haf⟩
  obtain ⟨hS1, hA1, hR1, hb1⟩ := sepL HC.out HS0.out HR0.out hB0 haf
  have y1 := haf.2.2.cell (p := ⟨w.heap.size, 1, none⟩) (fun hf => by have := HSw.out.left w.heap.size hf; omega) x1
  have HS1 := Lib.hid hS1
  have HA1 := Lib.hid hA1
  have HR1 := Lib.hid hR1
  have HQ1 := Lib.hid (HQ0.out.below hb1)
  have hB1 : B ≤ w1.heap.size := Nat.le_trans hB0 hb1.size
  have HN := Lib.hid (lnodes_any q.L q.LA q.lc w1 HQ1.out.rowN (by have := HQ1.out.fit.2.1; omega))
  have HB1 := Lib.hid (HB0.out.mono hB |>.trans hb1)
  have hFP := HS0.out
  have HrO : Hid (RowI w1 (fun g => ¬ P g) O out) := Lib.hid (rO.mono fun g hg _ hp => by have := hFP.right g hp; omega)
  clear haf hS1 hA1 hR1 hb1 x0 x1 x2 rO hFP HP1
  go_wp2_with fail
  refine HN.out.mono ?_; rintro e w2 ⟨O2, co2, rfl, rN, hb2⟩
  obtain ⟨hS2, hA2, hR2⟩ := sepN HC.out HS1.out HA1.out HR1.out hb2
  have hS1' := HS1.out
  have HPu := Lib.hid (rPut_any (room := room) hR2 q.L O2 co2 rN (fun g hg hp => by have := hS1'.right g hp; rcases hg with hg | hg; omega; omega) (by have := HQ1.out.fit.2.1; omega) (fun n hn => by have := HQ1.out.fit.2.2 n hn; exact ⟨by have := this.1; omega, by have := this.2.1; omega⟩))
  have HS2 := Lib.hid hS2
  have HA2 := Lib.hid hA2
  have HB2 := Lib.hid (HB1.out.trans (hb2.mono hB1))
  have hB2 : B ≤ w2.heap.size := Nat.le_trans hB1 hb2.size
  have HrO2 := Lib.hid (HrO.out.below hb2)
  clear rN hb2 hS2 hA2 hR2 hS1' y1 HN
  go_wp2_with fail
  refine HPu.out.mono ?_; rintro e w3 ⟨O3, co3, gN', cN', gB', cB', nds', bs', out', c', rfl, hpu, rO3, hR3, hbut⟩
  obtain ⟨P3, hS3, hA3, hR3', hb3⟩ := sepR HC.out HS2.out HA2.out hB2 hR3 hbut
  rw [HPt.out] at hpu
  simp only [Prod.mk.injEq] at hpu
  obtain ⟨rfl, rfl, rfl⟩ := hpu
  have HIn := Lib.hid (rInts_any out out O O3 co co3 w3 _ _ (HrO2.out.kept (hbut.keptQ fun g hg => hg)) rO3 (by unfold maxLen; omega))
  rw [decide_eq_true (rfl : out = out)] at HIn
  have HS3 := Lib.hid hS3
  have HA3 := Lib.hid hA3
  have HR3 := Lib.hid hR3'
  have HB3 := Lib.hid (HB2.out.trans hb3)
  have hB3 : B ≤ w3.heap.size := Nat.le_trans hB2 hb3.size
  clear rO3 hR3 hbut hS3 hA3 hR3' hb3
  go_wp2_with fail
  refine HIn.out.mono ?_; rintro e w4 ⟨rfl, hb4⟩
  obtain ⟨hS4, hA4, hR4⟩ := sepN HC.out HS3.out HA3.out HR3.out hb4
  have HF : Hid (Both AP w4 B a m room (stOf nds' bs')) := Lib.hid ⟨_, _, _, _, _, _, _, _, hS4, hA4, hR4, rfl, HI2.out, Nat.le_trans hB3 hb4.size⟩
  have HB4 := Lib.hid (HB3.out.trans (hb4.mono hB3))
  clear hb4 hS4 hA4 hR4
  go_wp2_with fail
  go_ret
  exact ⟨rfl, ⟨_, HF.out⟩, HB4.out⟩
set_option maxHeartbeats 16000000 in
set_option maxRecDepth 10000 in
theorem lstep_reach (hC : AC B EV AP) (hBo : Both AP w B a m room s) (q : AcM) (hq : ActB w B q) (hk5 : q.kind % 8 = 6) :
    Calls Tryd.prog 9 #[.pointer (some ⟨a, 0, none⟩), .pointer (some ⟨m, 0, none⟩), .agg #[.int .u8 q.kind, .slice q.LA q.L.length q.lc, .slice q.RA q.roots.length q.rc]] w fun e w' => StepP AP w B a m room e w' := by
  obtain ⟨F, P, gN, cN, gB, cB, nds, bs, hS, hA, hR, hst, hI, hB⟩ := hBo
  have hb0 : Below w.heap.size w (w.alloc (.cells #[.int .u8 q.kind, .slice q.LA q.L.length q.lc, .slice q.RA q.roots.length q.rc] 35)) := (Below.refl _ _).alloc (Nat.le_refl _) _
  obtain ⟨hS0, hA0, hR0⟩ := sepN hC hS hA hR hb0
  have hq0 := hq.below (hb0.mono hB)
  have HX := Lib.hid (fun w' (hb : Below (w.heap.size + 1) (w.alloc (.cells #[.int .u8 q.kind, .slice q.LA q.L.length q.lc, .slice q.RA q.roots.length q.rc] 35)) w') => parA hb)
  have hs0 : (w.alloc (.cells #[.int .u8 q.kind, .slice q.LA q.L.length q.lc, .slice q.RA q.roots.length q.rc] 35)).heap.size = w.heap.size + 1 := by simp
  have hk := hq.kind
  have hfr := hq.fit.1
  subst hst
  have HS0 := Lib.hid hS0
  have HA0 := Lib.hid hA0
  have HR0 := Lib.hid hR0
  have HQ0 := Lib.hid hq0
  have HI := Lib.hid hI
  have HB0 := Lib.hid hb0
  have HC := Lib.hid hC
  have HSw := Lib.hid hS
  have HSz := Lib.hid hs0
  have hB0 : B ≤ (w.alloc (.cells #[.int .u8 q.kind, .slice q.LA q.L.length q.lc, .slice q.RA q.roots.length q.rc] 35)).heap.size := by omega
  clear hS hA hR hI hS0 hA0 hR0 hq hq0 hb0 hC
  go_enter Tryd.func9, Tryd.ntmps9
  go_upto_region 7 with fail
  obtain ⟨x0, x1, x2⟩ := HX.out _ ((Below.refl _ _).mono (Nat.le_of_eq HSz.out.symm))
  generalize w.alloc (.cells #[.int .u8 q.kind, .slice q.LA q.L.length q.lc, .slice q.RA q.roots.length q.rc] 35) = W0 at *
  have HG0 := Lib.hid (fun w' (hb : Below W0.heap.size W0 w') => sepN HC.out HS0.out HA0.out HR0.out hb)
  have hrl : (reachA (stOf nds bs) q.roots).length ≤ 1000000 := by
    have h1 := left_len (stOf nds bs) q.roots
    have h2 := liveF_len (stOf nds bs) 1
    have h3 := HI.out.len
    have h4 := HR0.out.small
    unfold liveA at h1
    omega
  have HRl := Lib.hid hrl
  have HQg := Lib.hid (fun w' (hb : Below W0.heap.size W0 w') => HQ0.out.below (hb.mono hB0))
  have Hx2 := Lib.hid (fun w' (hb : Below W0.heap.size W0 w') => keep_cell hb x2)
  have HzB := Lib.hid hB0
  have hfr2 : q.roots.length ≤ 1000 := by omega
  have HFP := HS0
  have HRc := Lib.hid (fun w' (hb : Below W0.heap.size W0 w') => HC.out.reach (HG0.out w' hb).2.1 HI.out q.roots q.RA q.rc (HQg.out w' hb).rowI (fun g hg hf => by have := HFP.out.left g hf; omega) hfr2 (HQg.out w' hb).ints)
  have HBw := Lib.hid (HB0.out.mono hB)
  clear HS0 HA0 HR0 HQ0 x0 x1 x2 hrl
  go_region_held3 (fun w' => w'.cell? ⟨w.heap.size, 2, none⟩ = some (.slice q.RA q.roots.length q.rc))
    (first | with_reducible exact Hx2.out _ (by with_reducible repeat' (first | exact Below.refl _ _ | refine Below.drew ?_)) | with_reducible exact Hy2.out _ (by with_reducible repeat' (first | exact Below.refl _ _ | refine Below.drew ?_)) | with_reducible exact Hz2.out _ (by with_reducible repeat' (first | exact Below.refl _ _ | refine Below.drew ?_)) | with_reducible exact Hu2.out _ (by with_reducible repeat' (first | exact Below.refl _ _ | refine Below.drew ?_)) | fail)
    (first
    | (have hG := HG0; clear HG0; go_at_call 20
       refine (HRc.out _ (by with_reducible repeat' (first | exact Below.refl _ _ | refine Below.drew ?_))).mono ?_
       obtain ⟨hS0', hA0', hR0'⟩ := hG.out W0.drew (by with_reducible repeat' (first | exact Below.refl _ _ | refine Below.drew ?_))
       have hq0' := HQg.out W0.drew (by with_reducible repeat' (first | exact Below.refl _ _ | refine Below.drew ?_))
       rintro e w1 ⟨O, co, rfl, F', rO, haf⟩
       obtain ⟨hS1, hA1, hR1, hb1⟩ := sepL HC.out hS0' hR0' (Nat.le_trans HzB.out (Nat.le_refl _)) haf
       have HG1 := Lib.hid (fun w' (hb : Below w1.heap.size w1 w') => sepN HC.out hS1 hA1 hR1 hb)
       have hqq := hq0'.below hb1
       have hB1 : B ≤ w1.heap.size := Nat.le_trans HzB.out hb1.size
       have HQ1 := Lib.hid (fun w' (hb : Below w1.heap.size w1 w') => hqq.below (hb.mono hB1))
       have hy := haf.2.2.cell (p := ⟨w.heap.size, 2, none⟩) (fun hf => by have := HSw.out.left w.heap.size hf; omega) (Hx2.out W0.drew (by with_reducible repeat' (first | exact Below.refl _ _ | refine Below.drew ?_)))
       have Hy2 := Lib.hid (fun w' (hb : Below w1.heap.size w1 w') => keep_cell hb hy)
       have hrO : RowI w1 (fun g => ¬ P g) O (reachA (stOf nds bs) q.roots) := rO.mono fun g hg _ hp => by
         have h1 := HFP.out.right g hp
         have h2 : W0.heap.size ≤ g := hg.1
         omega
       have HrO1 := Lib.hid (fun w' (hb : Below w1.heap.size w1 w') => hrO.below hb)
       have HRd := Lib.hid (fun w' (hb : Below w1.heap.size w1 w') => rReach_any (HG1.out w' hb).2.2 HI.out q.roots q.RA q.rc (HQ1.out w' hb).rowI (by omega))
       have HB1 := Lib.hid (HBw.out.trans ((Below.drew (Below.refl B W0)).trans hb1))
       have HzB1 := Lib.hid hB1
       clear hG haf hS0' hA0' hR0' hq0' hS1 hA1 hR1 hb1 hqq hy rO hrO hB1 Hx2)
    | (have hG := HG1; clear HG1; go_at_call 23
       refine (HRd.out _ (by with_reducible repeat' (first | exact Below.refl _ _ | refine Below.drew ?_))).mono ?_; rintro e w2 ⟨O2, co2, rfl, rO2, hb2'⟩
       have hb2 : Below w1.heap.size w1 w2 := by first | exact hb2' | exact (Below.drew (Below.refl w1.heap.size w1)).trans hb2'
       obtain ⟨hS2, hA2, hR2⟩ := hG.out _ hb2
       have HrO2 := Lib.hid (HrO1.out _ hb2)
       have HIn := Lib.hid (fun w' (hb : Below w2.heap.size w2 w') => rInts_any _ _ O O2 co co2 w' _ _ (HrO2.out.below hb) (rO2.below hb) (by have := HRl.out; unfold maxLen; omega))
       have HG2 := Lib.hid (fun w' (hb : Below w2.heap.size w2 w') => sepN HC.out hS2 hA2 hR2 hb)
       have Hz2 := Lib.hid (fun w' (hb : Below w2.heap.size w2 w') => keep_cell hb (Hy2.out _ hb2))
       have HB2 := Lib.hid (HB1.out.trans (hb2.mono HzB1.out))
       have HzB2 := Lib.hid (Nat.le_trans HzB1.out hb2.size)
       clear hG hb2' hS2 hA2 hR2 rO2 hb2 Hy2)
    | (have hG := HG2; clear HG2; go_at_call 10
       refine (HIn.out _ (by with_reducible repeat' (first | exact Below.refl _ _ | refine Below.drew ?_))).mono ?_; rintro e w3 ⟨rfl, hb3'⟩
       have hb3 : Below w2.heap.size w2 w3 := by first | exact hb3' | exact (Below.drew (Below.refl w2.heap.size w2)).trans hb3'
       obtain ⟨hS3, hA3, hR3⟩ := hG.out _ hb3
       have HF : Hid (Both AP w3 B a m room (stOf nds bs)) := Lib.hid ⟨_, _, _, _, _, _, _, _, hS3, hA3, hR3, rfl, HI.out, Nat.le_trans HzB2.out hb3.size⟩
       have HB3 := Lib.hid (HB2.out.trans (hb3.mono HzB2.out))
       have Hu2 := Lib.hid (fun w' (hb : Below w3.heap.size w3 w') => keep_cell hb (Hz2.out _ hb3))
       clear hG hb3' hb3 hS3 hA3 hR3 Hz2)
    | fail)
  go_wp2_with fail
  go_ret
  exact ⟨rfl, ⟨_, HF.out⟩, HB3.out⟩
theorem lstep_any (hC : AC B EV AP) (hBo : Both AP w B a m room s) (q : AcM) (hq : ActB w B q) :
    Calls Tryd.prog 9 #[.pointer (some ⟨a, 0, none⟩), .pointer (some ⟨m, 0, none⟩), .agg #[.int .u8 q.kind, .slice q.LA q.L.length q.lc, .slice q.RA q.roots.length q.rc]] w fun e w' => StepP AP w B a m room e w' := by
  by_cases h5 : q.kind % 8 = 5
  · exact lstep_sweep hC hBo q hq h5
  · by_cases h6 : q.kind % 8 = 6
    · exact lstep_reach hC hBo q hq h6
    · by_cases h7 : q.kind % 8 = 7
      · by_cases hne : q.roots = []
        · exact lstep_get0 hC hBo q hq h7 hne
        · exact lstep_get hC hBo q hq h7 hne
      · exact lstep_put hC hBo q hq h5 h6 h7
end
end Go.Proofs.YtbjbbpbagnlkmaaDoor
namespace Go.Proofs.YtbjbbpbagnlkmaaDoor
open Go.RowKit
structure ActsA (w : World) (l : List AcM) (A : Option Addr) : Prop where
  row : RowA w (fun g => g < w.heap.size) A l
  len : l.length ≤ maxLen
  ok : ∀ q ∈ l, (0 ≤ q.kind ∧ q.kind ≤ 255) ∧ (q.roots.length ≤ maxLen ∧ q.L.length ≤ maxLen) ∧ B64s q.roots ∧ ∀ n ∈ q.L, (n.refs.length ≤ maxLen ∧ n.nums.length ≤ maxLen ∧ n.text.length ≤ maxLen) ∧ B64s n.refs ∧ B64s n.nums ∧ -9223372036854775808 ≤ n.kind ∧ n.kind ≤ 9223372036854775807
theorem ActsA.fits {w : World} {l : List AcM} {A : Option Addr} (h : ActsA w l A) (hf : ∀ q ∈ l, FitA q) : ∀ q ∈ l, FitA q ∧ (∀ n ∈ q.L, FitB n) ∧ B64s q.roots ∧ (0 ≤ q.kind ∧ q.kind ≤ 255) := fun q hq =>
  ⟨hf q hq, fun n hn => ⟨(hf q hq).2.2 n hn, ((h.ok q hq).2.2.2 n hn).2⟩, (h.ok q hq).2.2.1, (h.ok q hq).1⟩
def AliveC (w : World) : Prop := ∀ w1 : World, Below w.heap.size w w1 → Calls Tryd.prog 6 #[] w1 fun e w' => e = .returned (.bool true) ∧ Below w1.heap.size w1 w'
section
variable {EV : World → Prop} {AP : World → (Nat → Prop) → Nat → Nat → Sh → Prop}
theorem both_begin {w w1 w2 : World} (hC : AC w.heap.size EV AP) {a m gN gB room : Nat} (hA : AP w1 (fun g => w.heap.size ≤ g) a room []) (hb1 : Below w.heap.size w w1) (hR : RM w2 (fun g => w1.heap.size ≤ g) m gN 1 gB 1 room [nd0] [false]) (hb2 : Below w1.heap.size w1 w2) : Both AP w2 w.heap.size a m room [] := by
  have h1 := hb1.size
  have h2 := hb2.size
  refine ⟨fun g => w.heap.size ≤ g ∧ g < w1.heap.size, fun g => w1.heap.size ≤ g ∧ g < w2.heap.size, gN, 1, gB, 1, [nd0], [false], ⟨fun g h h' => by omega, fun g h => by omega, fun g h => by omega, by omega⟩, hC.mono (hC.kept (hC.mono hA (G := fun g => w.heap.size ≤ g ∧ g < w1.heap.size) fun g h hl => ⟨h, hl⟩) (Kept.of_below hb2) (hb2.mono hb1.size)) fun g h _ => h, hR.tight, rfl, inv_nil room, by omega⟩
theorem bLive {w : World} {B a m room : Nat} {s : Sh} (hC : AC B EV AP) (h : Both AP w B a m room s) : Calls Tryd.prog 11 #[.pointer (some ⟨a, 0, none⟩)] w fun e w' => ∃ O co G, e = .returned (.slice O (liveA s).length co) ∧ RowI w' G O (liveA s) ∧ Both AP w' B a m room s ∧ Below B w w' := by
  obtain ⟨F, P, gN, cN, gB, cB, nds, bs, hS, hA, hR, hst, hI, hB⟩ := h
  refine (hC.live hA hI).mono fun e w' ⟨O, co, he, F', hr, haf⟩ => ?_
  obtain ⟨hS1, hA1, hR1, hb1⟩ := sepL hC hS hR hB haf
  exact ⟨O, co, _, he, hr, ⟨_, P, gN, cN, gB, cB, nds, bs, hS1, hA1, hR1, hst, hI, Nat.le_trans hB hb1.size⟩, hb1⟩
theorem bLen {w : World} {B a m room : Nat} {s : Sh} (hC : AC B EV AP) (h : Both AP w B a m room s) : Calls Tryd.prog 13 #[.pointer (some ⟨a, 0, none⟩)] w fun e w' => e = .returned (.int .i64 ((liveA s).length : Int)) ∧ Both AP w' B a m room s ∧ Below B w w' := by
  obtain ⟨F, P, gN, cN, gB, cB, nds, bs, hS, hA, hR, hst, hI, hB⟩ := h
  refine (hC.size hA hI).mono fun e w' ⟨he, F', haf⟩ => ?_
  obtain ⟨hS1, hA1, hR1, hb1⟩ := sepL hC hS hR hB haf
  exact ⟨he, ⟨_, P, gN, cN, gB, cB, nds, bs, hS1, hA1, hR1, hst, hI, Nat.le_trans hB hb1.size⟩, hb1⟩
theorem bRoom {w : World} {B a m room : Nat} {s : Sh} (hC : AC B EV AP) (h : Both AP w B a m room s) : Calls Tryd.prog 14 #[.pointer (some ⟨a, 0, none⟩)] w fun e w' => e = .returned (.int .i64 (room : Int)) ∧ Both AP w' B a m room s ∧ Below B w w' := by
  obtain ⟨F, P, gN, cN, gB, cB, nds, bs, hS, hA, hR, hst, hI, hB⟩ := h
  refine (hC.room hA hI).mono fun e w' ⟨he, F', haf⟩ => ?_
  obtain ⟨hS1, hA1, hR1, hb1⟩ := sepL hC hS hR hB haf
  exact ⟨he, ⟨_, P, gN, cN, gB, cB, nds, bs, hS1, hA1, hR1, hst, hI, Nat.le_trans hB hb1.size⟩, hb1⟩
theorem bGet {w : World} {B a m room : Nat} {s : Sh} (hC : AC B EV AP) (h : Both AP w B a m room s) (x : Int) (hx : -9223372036854775808 ≤ x ∧ x ≤ 9223372036854775807) : Calls Tryd.prog 15 #[.pointer (some ⟨a, 0, none⟩), .int .i64 x] w fun e w' => ∃ A ca C cc G, e = .returned (.tuple #[ndV (getN s x) A ca C cc, .int .i64 (getE s x)]) ∧ RowI w' G A (getN s x).refs ∧ RowI w' G C (getN s x).nums ∧ Both AP w' B a m room s ∧ Below B w w' := by
  obtain ⟨F, P, gN, cN, gB, cB, nds, bs, hS, hA, hR, hst, hI, hB⟩ := h
  refine (hC.get hA hI x hx).mono fun e w' ⟨A, ca, C, cc, he, F', r1, r2, haf⟩ => ?_
  obtain ⟨hS1, hA1, hR1, hb1⟩ := sepL hC hS hR hB haf
  exact ⟨A, ca, C, cc, _, he, r1, r2, ⟨_, P, gN, cN, gB, cB, nds, bs, hS1, hA1, hR1, hst, hI, Nat.le_trans hB hb1.size⟩, hb1⟩
theorem bBelow {w w' : World} {B a m room : Nat} {s : Sh} (hC : AC B EV AP) (h : Both AP w B a m room s) (hb : Below w.heap.size w w') : Both AP w' B a m room s := by
  obtain ⟨F, P, gN, cN, gB, cB, nds, bs, hS, hA, hR, hst, hI, hB⟩ := h
  obtain ⟨hS1, hA1, hR1⟩ := sepN hC hS hA hR hb
  exact ⟨F, P, gN, cN, gB, cB, nds, bs, hS1, hA1, hR1, hst, hI, Nat.le_trans hB hb.size⟩
theorem bBase {w : World} {B a m room : Nat} {s : Sh} (h : Both AP w B a m room s) : B ≤ w.heap.size := by
  obtain ⟨F, P, gN, cN, gB, cB, nds, bs, hS, hA, hR, hst, hI, hB⟩ := h
  exact hB
theorem bSmall {w : World} {B a m room : Nat} {s : Sh} (h : Both AP w B a m room s) : Inv room s ∧ room ≤ 65536 ∧ (liveA s).length ≤ 65536 ∧ ∀ x, (getN s x).refs.length ≤ 1000000 ∧ (getN s x).nums.length ≤ 1000000 := by
  obtain ⟨F, P, gN, cN, gB, cB, nds, bs, hS, hA, hR, rfl, hI, hB⟩ := h
  have h1 := liveF_len (stOf nds bs) 1
  have h2 := hI.len
  have h3 := hR.small
  exact ⟨hI, hR.small, by unfold liveA; omega, fun x => hR.getW x⟩
theorem mLive {w : World} {B a m room : Nat} {s : Sh} (hC : AC B EV AP) (h : Both AP w B a m room s) : Calls Tryd.prog 12 #[.pointer (some ⟨m, 0, none⟩)] w fun e w' => ∃ O co G, e = .returned (.slice O (liveA s).length co) ∧ RowI w' G O (liveA s) ∧ Both AP w' B a m room s ∧ Below w.heap.size w w' := by
  have hh := h
  obtain ⟨F, P, gN, cN, gB, cB, nds, bs, hS, hA, hR, rfl, hI, hB⟩ := h
  exact (rLive_any hR).mono fun e w' ⟨O, co, he, hr, hb⟩ => ⟨O, co, _, he, hr, bBelow hC hh hb, hb⟩
theorem mGet {w : World} {B a m room : Nat} {s : Sh} (hC : AC B EV AP) (h : Both AP w B a m room s) (x : Int) : Calls Tryd.prog 16 #[.pointer (some ⟨m, 0, none⟩), .int .i64 x] w fun e w' => ∃ A ca C cc G, e = .returned (.tuple #[ndV (getN s x) A ca C cc, .int .i64 (getE s x)]) ∧ RowI w' G A (getN s x).refs ∧ RowI w' G C (getN s x).nums ∧ Both AP w' B a m room s ∧ Below w.heap.size w w' := by
  have hh := h
  obtain ⟨F, P, gN, cN, gB, cB, nds, bs, hS, hA, hR, rfl, hI, hB⟩ := h
  exact (rGet_any hR x).mono fun e w' ⟨A, ca, C, cc, he, r1, r2, hb⟩ => ⟨A, ca, C, cc, _, he, r1, r2, bBelow hC hh hb, hb⟩
def BothK (AP : World → (Nat → Prop) → Nat → Nat → Sh → Prop) (w : World) (B a m room : Nat) (s : Sh) (K : Nat → Prop) : Prop :=
  ∃ F P gN cN gB cB nds bs, Sep B w.heap.size F P ∧ AP w F a room s ∧ RM w P m gN cN gB cB room nds bs ∧ stOf nds bs = s ∧ Inv room s ∧ B ≤ w.heap.size ∧ ∀ g, K g → g < w.heap.size ∧ ¬ F g ∧ ¬ P g
theorem BothK.both {w : World} {B a m room : Nat} {s : Sh} {K : Nat → Prop} (h : BothK AP w B a m room s K) : Both AP w B a m room s := by
  obtain ⟨F, P, gN, cN, gB, cB, nds, bs, hS, hA, hR, hst, hI, hB, hK⟩ := h
  exact ⟨F, P, gN, cN, gB, cB, nds, bs, hS, hA, hR, hst, hI, hB⟩
theorem kBelow {w w' : World} {B a m room : Nat} {s : Sh} {K : Nat → Prop} (hC : AC B EV AP) (h : BothK AP w B a m room s K) (hb : Below w.heap.size w w') : BothK AP w' B a m room s K := by
  obtain ⟨F, P, gN, cN, gB, cB, nds, bs, hS, hA, hR, hst, hI, hB, hK⟩ := h
  obtain ⟨hS1, hA1, hR1⟩ := sepN hC hS hA hR hb
  exact ⟨F, P, gN, cN, gB, cB, nds, bs, hS1, hA1, hR1, hst, hI, Nat.le_trans hB hb.size, fun g hg => ⟨Nat.lt_of_lt_of_le (hK g hg).1 hb.size, (hK g hg).2⟩⟩
theorem kGet {w : World} {B a m room : Nat} {s : Sh} {K : Nat → Prop} (hC : AC B EV AP) (h : BothK AP w B a m room s K) (x : Int) (hx : -9223372036854775808 ≤ x ∧ x ≤ 9223372036854775807) : Calls Tryd.prog 15 #[.pointer (some ⟨a, 0, none⟩), .int .i64 x] w fun e w' => ∃ A ca C cc G, e = .returned (.tuple #[ndV (getN s x) A ca C cc, .int .i64 (getE s x)]) ∧ RowI w' G A (getN s x).refs ∧ RowI w' G C (getN s x).nums ∧ BothK AP w' B a m room s K ∧ Kept w w' K ∧ Below B w w' := by
  obtain ⟨F, P, gN, cN, gB, cB, nds, bs, hS, hA, hR, hst, hI, hB, hK⟩ := h
  refine (hC.get hA hI x hx).mono fun e w' ⟨A, ca, C, cc, he, F', r1, r2, haf⟩ => ?_
  have hkk := haf.2.2.keptQ (Q := K) fun g hg => (hK g hg).2.1
  obtain ⟨hS1, hA1, hR1, hb1⟩ := sepL hC hS hR hB haf
  refine ⟨A, ca, C, cc, _, he, r1, r2, ⟨_, P, gN, cN, gB, cB, nds, bs, hS1, hA1, hR1, hst, hI, Nat.le_trans hB hb1.size, fun g hg => ⟨Nat.lt_of_lt_of_le (hK g hg).1 haf.2.2.size, fun e => ?_, (hK g hg).2.2⟩⟩, hkk, hb1⟩
  rcases haf.2.1 g e.1 with q | q
  · exact (hK g hg).2.1 q
  · have := (hK g hg).1; omega
theorem mGetK {w : World} {B a m room : Nat} {s : Sh} {K : Nat → Prop} (hC : AC B EV AP) (h : BothK AP w B a m room s K) (x : Int) : Calls Tryd.prog 16 #[.pointer (some ⟨m, 0, none⟩), .int .i64 x] w fun e w' => ∃ A ca C cc G, e = .returned (.tuple #[ndV (getN s x) A ca C cc, .int .i64 (getE s x)]) ∧ RowI w' G A (getN s x).refs ∧ RowI w' G C (getN s x).nums ∧ BothK AP w' B a m room s K ∧ Below w.heap.size w w' := by
  have hh := h
  obtain ⟨F, P, gN, cN, gB, cB, nds, bs, hS, hA, hR, rfl, hI, hB, hK⟩ := h
  exact (rGet_any hR x).mono fun e w' ⟨A, ca, C, cc, he, r1, r2, hb⟩ => ⟨A, ca, C, cc, _, he, r1, r2, kBelow hC hh hb, hb⟩
theorem mLiveK {w : World} {B a m room : Nat} {s : Sh} (hC : AC B EV AP) (h : Both AP w B a m room s) : Calls Tryd.prog 12 #[.pointer (some ⟨m, 0, none⟩)] w fun e w' => ∃ O co, e = .returned (.slice O (liveA s).length co) ∧ RowI w' (fun g => w.heap.size ≤ g ∧ g < w'.heap.size) O (liveA s) ∧ BothK AP w' B a m room s (fun g => w.heap.size ≤ g ∧ g < w'.heap.size) ∧ Below w.heap.size w w' := by
  obtain ⟨F, P, gN, cN, gB, cB, nds, bs, hS, hA, hR, rfl, hI, hB⟩ := h
  refine (rLive_any hR).mono fun e w' ⟨O, co, he, hr, hb⟩ => ?_
  obtain ⟨hS1, hA1, hR1⟩ := sepN hC hS hA hR hb
  exact ⟨O, co, he, hr.mono fun g hg hl => ⟨hg, hl⟩, ⟨F, P, gN, cN, gB, cB, nds, bs, hS1, hA1, hR1, rfl, hI, Nat.le_trans hB hb.size, fun g hg => ⟨hg.2, fun hf => by have := hS.left g hf; omega, fun hp => by have := hS.right g hp; omega⟩⟩, hb⟩
theorem getE_live {s : Sh} {x : Int} (h : live s x = true) : getE s x = 0 := by unfold getE; rw [if_pos h]
set_option maxHeartbeats 16000000 in
set_option maxRecDepth 10000 in
theorem lplays_any (w : World) (hC : AC w.heap.size EV AP) (hE : EV w) (hAl : AliveC w) (r : Int) (l : List AcM) (A : Option Addr) (ca : Nat) (hl : ActsA w l A) :
    Calls Tryd.prog 3 #[.int .i64 r, .slice A l.length ca] w fun e w' => e = .returned (.bool true) ∧ Below w.heap.size w w' := by
  have HC0 := Lib.hid hC
  have HC := Lib.hid hC
  have HAl := Lib.hid hAl
  have HL := Lib.hid hl
  have HF := Lib.hid (lfits_any l A ca w hl.row hl.len (fun q hq => ⟨(hl.ok q hq).2.1.1, (hl.ok q hq).2.1.2, fun n hn => ((hl.ok q hq).2.2.2 n hn).1⟩))
  have HE := Lib.hid hE
  clear hC hAl hl hE
  go_enter Tryd.func3, Tryd.ntmps3
  go_wp2_with fail
  refine HF.out.mono ?_; rintro e w0 ⟨b, rfl, hfit, hb0⟩
  have HB0 := Lib.hid hb0
  have HC := Lib.hid (HC.out.up hb0.size)
  have HFit := Lib.hid hfit
  clear hb0 hfit HF
  cases b with
  | false =>
    go_wp2_with fail
    refine (HAl.out _ HB0.out).mono ?_; rintro e w1 ⟨rfl, hb1⟩
    have HB1 := Lib.hid (HB0.out.trans (hb1.mono HB0.out.size))
    clear hb1
    go_wp2_with fail
    go_ret
    exact ⟨rfl, HB1.out⟩
  | true =>
    obtain ⟨hll, hfa⟩ := HFit.out rfl
    have HFa := Lib.hid (HL.out.fits hfa)
    clear hfa HFit
    by_cases hr : 0 ≤ r ∧ r ≤ 65536
    · have d1 : decide (r < 0) = false := decide_eq_false (by omega)
      have d2 : decide (65536 < r) = false := decide_eq_false (by omega)
      obtain ⟨room, rfl⟩ : ∃ room : Nat, r = (room : Int) := ⟨r.toNat, by omega⟩
      have hrm : room ≤ 65536 := by omega
      go_wp2_with fail
      refine (HC.out.new _ _ (HC0.out.on HE.out HB0.out) (Nat.le_refl _)).mono ?_; rintro e w1 ⟨hyes, _, hb1⟩
      obtain ⟨a, rfl, hA1⟩ := hyes hr
      have hA1 : AP w1 (fun g => w0.heap.size ≤ g) a room [] := by simpa using hA1
      have HA1 := Lib.hid hA1
      have HB1 := Lib.hid hb1
      clear hyes hb1 hA1
      go_wp2_with fail
      refine (rBegin_any _ room hrm).mono ?_; rintro e w2 ⟨m, gN, gB, rfl, hR2, hb2⟩
      have HBo := Lib.hid (both_begin HC.out HA1.out HB1.out hR2 hb2)
      have HB2 := Lib.hid (HB0.out.trans ((HB1.out.trans (hb2.mono HB1.out.size)).mono HB0.out.size))
      have hbw0 : Below w0.heap.size w0 w2 := HB1.out.trans (hb2.mono HB1.out.size)
      clear hR2 hb2
      have hsz := HB0.out.size
      have HBw0 := Lib.hid hbw0
      clear hbw0
      go_wp2_with fail
      go_loopw [9, 10, 11] (fun vi _ _ wr => ∃ (i : Nat) (s : Sh), i ≤ l.length ∧ vi = .int .i64 (i : Int) ∧ Hid (Both AP wr w0.heap.size a m room s) ∧ Hid (Below w0.heap.size w0 wr)) (fun vi _ _ _ => l.length - (RowKit.intOf vi).toNat)
      case atStart => exact ⟨0, [], Nat.zero_le _, rfl, HBo, HBw0⟩
      case round =>
        obtain ⟨i, s, hi, rfl, HBo, HBw⟩ := hrel
        by_cases hlt : i < l.length
        · obtain ⟨q, hq⟩ : ∃ q, l[i]? = some q := ⟨_, List.getElem?_eq_getElem hlt⟩
          have hbw : Below w.heap.size w wr := HB0.out.trans (HBw.out.mono hsz)
          obtain ⟨g, o, hAe, hgl, _, hat⟩ := ((HL.out.row.below hbw).mono (Q := fun g => g < w0.heap.size) (fun g hg _ => by omega)).at hlt
          obtain ⟨⟨c0, c1, c2⟩, hN, hI⟩ := hat i q hq
          obtain ⟨f1, f2, f3, f4⟩ := HFa.out q (List.mem_of_getElem? hq)
          have HS := Lib.hid (lstep_any HC.out HBo.out q ⟨hN, hI, f1, f2, f3, f4⟩)
          subst hAe
          clear hat hN hI hq hbw f1 f2 f3 f4
          go_wp2_with fail
          refine HS.out.mono ?_; rintro e w3 ⟨rfl, ⟨s3, hBo3⟩, hb3⟩
          have HBo3 := Lib.hid hBo3
          have HBw3 := Lib.hid (HBw.out.trans hb3)
          clear hBo3 hb3 HS c0 c1 c2
          go_wp2_with fail
          refine (bLive HC.out HBo3.out).mono ?_; rintro e w4 ⟨O, co, G, rfl, rO, hBo4, hb4⟩
          have HBo4 := Lib.hid hBo4
          have HBw4 := Lib.hid (HBw3.out.trans hb4)
          have HrO := Lib.hid rO
          clear hBo4 hb4 rO
          go_wp2_with fail
          refine (mLive HC.out HBo4.out).mono ?_; rintro e w5 ⟨O2, co2, G2, rfl, rO2, hBo5, hb5⟩
          have HIn := Lib.hid (rInts_any _ _ O O2 co co2 w5 _ _ (HrO.out.below hb5) rO2 (by have := (bSmall HBo4.out).2.2.1; unfold maxLen; omega))
          rw [decide_eq_true (rfl : liveA s3 = liveA s3)] at HIn
          have HBo5 := Lib.hid hBo5
          have HBw5 := Lib.hid (HBw4.out.trans (hb5.mono (bBase HBo4.out)))
          clear hBo5 hb5 rO2
          go_wp2_with fail
          refine HIn.out.mono ?_; rintro e w6 ⟨rfl, hb6⟩
          have HBo6 := Lib.hid (bBelow HC.out HBo5.out hb6)
          have HBw6 := Lib.hid (HBw5.out.trans (hb6.mono (bBase HBo5.out)))
          clear hb6 HIn
          go_wp2_with fail
          refine (bLen HC.out HBo6.out).mono ?_; rintro e w7 ⟨rfl, hBo7, hb7⟩
          have HBo7 := Lib.hid hBo7
          have HBw7 := Lib.hid (HBw6.out.trans hb7)
          clear hBo7 hb7
          go_wp2_with fail
          refine (mLive HC.out HBo7.out).mono ?_; rintro e w8 ⟨O3, co3, G3, rfl, _, hBo8, hb8⟩
          have HBo8 := Lib.hid hBo8
          have HBw8 := Lib.hid (HBw7.out.trans (hb8.mono (bBase HBo7.out)))
          clear hBo8 hb8
          go_wp2_with fail
          refine (bRoom HC.out HBo8.out).mono ?_; rintro e w9 ⟨rfl, hBo9, hb9⟩
          have HBo9 := Lib.hid hBo9
          have HBw9 := Lib.hid (HBw8.out.trans hb9)
          clear hBo9 hb9
          go_wp2_with fail
          go_roundw
          case rel => exact ⟨i + 1, s3, by omega, by go_num, HBo9, HBw9⟩
          case measure => simp [RowKit.intOf]; omega
        · have hii : i = l.length := by omega
          subst hii
          go_wp2_with fail
          refine (mLiveK HC.out HBo.out).mono ?_; rintro e w3 ⟨O, co, rfl, rO, hBo3, hb3⟩
          have HBw3 := Lib.hid (HBw.out.trans (hb3.mono (bBase HBo.out)))
          generalize (fun g => wr.heap.size ≤ g ∧ g < w3.heap.size) = K at *
          have HBo3 := Lib.hid hBo3
          have HrO := Lib.hid rO
          have hsm := bSmall HBo.out
          have HSm := Lib.hid hsm
          have hlv := hsm.2.2.1
          clear hBo3 hb3 rO
          have HLv := Lib.hid (fun x (hx : x ∈ liveA s) => (show live s x = true ∧ (-9223372036854775808 ≤ x ∧ x ≤ 9223372036854775807) from ⟨liveA_mem.1 hx, by have h1 := live_bound (liveA_mem.1 hx); have h2 := hsm.1.len; have h3 := hsm.2.1; omega⟩))
          clear hsm
          generalize hLe : liveA s = LV at *
          clear hLe
          go_wp2_with fail
          go_loopw [13, 14, 15, 16, 17, 18] (fun vi _ _ _ _ _ wr => ∃ i : Nat, i ≤ LV.length ∧ vi = .int .i64 (i : Int) ∧ Hid (BothK AP wr w0.heap.size a m room s K) ∧ Hid (RowI wr K O LV) ∧ Hid (Below w0.heap.size w0 wr)) (fun vi _ _ _ _ _ _ => LV.length - (RowKit.intOf vi).toNat)
          case atStart => exact ⟨0, Nat.zero_le _, rfl, HBo3, HrO, HBw3⟩
          case round =>
            obtain ⟨i, hi, rfl, HBo, HrO, HBw⟩ := hrel
            by_cases hlt : i < LV.length
            · obtain ⟨x, hx⟩ : ∃ x, LV[i]? = some x := ⟨_, List.getElem?_eq_getElem hlt⟩
              obtain ⟨g, o, rfl, hgK, hgl, hat⟩ := HrO.out.at hlt
              have c0 := hat i x hx
              obtain ⟨hlx, hxb⟩ := HLv.out x (List.mem_of_getElem? hx)
              have HLx := Lib.hid hx
              have hEx := getE_live hlx
              have HNw := Lib.hid ((bSmall HBo.out.both).2.2.2 x)
              clear hx hlx
              have HK := Lib.hid (kGet HC.out HBo.out x hxb)
              rw [hEx] at HK
              have HEx := Lib.hid hEx
              clear hEx hat
              unfold ndV at HK
              generalize hNe : getN s x = N at *
              have HNe := Lib.hid hNe
              clear hNe
              go_wp2_with fail
              refine HK.out.mono ?_; rintro e w4 ⟨A1, k1, A2, k2, G1, rfl, r1, r2, hBo4, hk4, hb4⟩
              have hal : Below w4.heap.size w4 (w4.alloc (.cells #[.int .i64 N.kind, .slice A1 N.refs.length k1, .slice A2 N.nums.length k2, .string ⟨N.text.toArray⟩] 40)) := (Below.refl _ _).alloc (Nat.le_refl _) _
              have HBo5 := Lib.hid (kBelow HC.out hBo4 hal)
              have HrO5 := Lib.hid ((HrO.out.kept hk4).below hal)
              have HBw5 : Hid (Below w0.heap.size w0 (w4.alloc (.cells #[.int .i64 N.kind, .slice A1 N.refs.length k1, .slice A2 N.nums.length k2, .string ⟨N.text.toArray⟩] 40))) := Lib.hid ((HBw.out.trans hb4).trans (hal.mono (bBase hBo4.both)))
              have HR12 := Lib.hid (And.intro (r1.below hal) (r2.below hal))
              have HP4 := Lib.hid (fun w' (hb : Below (w4.alloc (.cells #[.int .i64 N.kind, .slice A1 N.refs.length k1, .slice A2 N.nums.length k2, .string ⟨N.text.toArray⟩] 40)).heap.size (w4.alloc (.cells #[.int .i64 N.kind, .slice A1 N.refs.length k1, .slice A2 N.nums.length k2, .string ⟨N.text.toArray⟩] 40)) w') => (show (w'.cell? ⟨w4.heap.size, 0, none⟩ = some (.int .i64 N.kind) ∧ w'.cell? ⟨w4.heap.size, 1, none⟩ = some (.slice A1 N.refs.length k1) ∧ w'.cell? ⟨w4.heap.size, 2, none⟩ = some (.slice A2 N.nums.length k2) ∧ w'.cell? ⟨w4.heap.size, 3, none⟩ = some (.string ⟨N.text.toArray⟩)) from ⟨keep_fresh hb 0 rfl, keep_fresh hb 1 rfl, keep_fresh hb 2 rfl, keep_fresh hb 3 rfl⟩))
              have HZ1 : Hid (w4.heap.size < (w4.alloc (.cells #[.int .i64 N.kind, .slice A1 N.refs.length k1, .slice A2 N.nums.length k2, .string ⟨N.text.toArray⟩] 40)).heap.size) := Lib.hid (by simp)
              have c1 : (w4.alloc (.cells #[.int .i64 N.kind, .slice A1 N.refs.length k1, .slice A2 N.nums.length k2, .string ⟨N.text.toArray⟩] 40)).cell? ⟨g, o + i, none⟩ = some (.int .i64 x) := by
                rcases HrO5.out with e | ⟨g', o', e', _, _, hc⟩
                · rw [e] at hlt; simp at hlt
                · cases e'; exact hc i x HLx.out
              have HG := Lib.hid (mGetK HC.out HBo5.out x)
              rw [HEx.out] at HG
              rw [HNe.out] at HG
              unfold ndV at HG
              have zg : g < w4.heap.size := by have := hk4.size; omega
              clear r1 r2 hBo4 hk4 hb4 hal HK
              go_wp2_with fail
              generalize w4.alloc (.cells #[.int .i64 N.kind, .slice A1 N.refs.length k1, .slice A2 N.nums.length k2, .string ⟨N.text.toArray⟩] 40) = W5 at *
              refine HG.out.mono ?_; rintro e w6 ⟨A3, k3, A4, k4, G2, rfl, r3, r4, hBo6, hb6⟩
              have hal : Below w6.heap.size w6 (w6.alloc (.cells #[.int .i64 N.kind, .slice A3 N.refs.length k3, .slice A4 N.nums.length k4, .string ⟨N.text.toArray⟩] 43)) := (Below.refl _ _).alloc (Nat.le_refl _) _
              have hb7 := hb6.trans (hal.mono hb6.size)
              obtain ⟨p0, p1, p2, p3⟩ := HP4.out _ hb7
              have HSm := Lib.hid (lndsame_any N N A1 A2 A3 A4 k1 k2 k3 k4 _ _ _ (HR12.out.1.below hb7) (HR12.out.2.below hb7) (r3.below hal) (r4.below hal) (by have := HNw.out.1; unfold maxLen; omega) (by have := HNw.out.2; unfold maxLen; omega))
              rw [decide_eq_true (rfl : N = N)] at HSm
              have HBo7 := Lib.hid (kBelow HC.out hBo6 hal)
              have HrO7 := Lib.hid (HrO5.out.below hb7)
              have HBw7 : Hid (Below w0.heap.size w0 _) := Lib.hid (HBw5.out.trans (hb7.mono (bBase HBo5.out.both)))
              have hzz := hb6.size
              have hz3 : w4.heap.size < w6.heap.size := by have := HZ1.out; omega
              clear r3 r4 hb6 hal hBo6 HP4 HR12 hb7
              unfold ndV at HSm
              go_wp2_with fail
              refine HSm.out.mono ?_; rintro e w8 ⟨rfl, hb8⟩
              have HBo8 := Lib.hid (kBelow HC.out HBo7.out hb8)
              have HrO8 := Lib.hid (HrO7.out.below hb8)
              have HBw8 := Lib.hid (HBw7.out.trans (hb8.mono (bBase HBo7.out.both)))
              clear hb8 p0 p1 p2 p3 HSm HBo7 HrO7 HBw7
              go_wp2_with fail
              go_roundw
              case rel => exact ⟨i + 1, by omega, by go_num, HBo8, HrO8, HBw8⟩
              case measure => simp [RowKit.intOf]; omega
            · have hii : i = LV.length := by omega
              subst hii
              have HBx := Lib.hid (HB0.out.trans (HBw.out.mono hsz))
              have hzx := HBx.out.size
              clear HBo HrO HBw
              go_wp2_with fail
              refine (HC.out.nPut _).mono ?_; rintro e v1 ⟨rfl, hv1⟩
              have HV1 := Lib.hid (HBx.out.trans (hv1.mono HBx.out.size))
              clear hv1
              go_wp2_with fail
              refine (HC.out.nSweep _).mono ?_; rintro e v2 ⟨rfl, hv2⟩
              have HV2 := Lib.hid (HV1.out.trans (hv2.mono HV1.out.size))
              clear hv2
              go_wp2_with fail
              refine (HC.out.nGet _ _).mono ?_; rintro e v3 ⟨nn, rfl, hv3⟩
              unfold ndV
              have hal : Below v3.heap.size v3 (v3.alloc (.cells #[.int .i64 nn.kind, .slice none nn.refs.length 0, .slice none nn.nums.length 0, .string ⟨nn.text.toArray⟩] 40)) := (Below.refl _ _).alloc (Nat.le_refl _) _
              have HV3 := Lib.hid (HV2.out.trans (hv3.mono HV2.out.size))
              have HV3' := Lib.hid (HV3.out.trans (hal.mono HV3.out.size))
              clear hv3 hal
              go_wp2_with fail
              refine (HAl.out _ HV3'.out).mono ?_; rintro e v4 ⟨rfl, hv4⟩
              have HV4 := Lib.hid (HV3'.out.trans (hv4.mono HV3'.out.size))
              clear hv4
              go_wp2_with fail
              refine (HC.out.nLen _).mono ?_; rintro e v5 ⟨rfl, hv5⟩
              have HV5 := Lib.hid (HV4.out.trans (hv5.mono HV4.out.size))
              clear hv5
              go_wp2_with fail
              refine (HC.out.nRoom _).mono ?_; rintro e v6 ⟨rfl, hv6⟩
              have HV6 := Lib.hid (HV5.out.trans (hv6.mono HV5.out.size))
              clear hv6
              go_wp2_with fail
              refine (HC.out.nLive _).mono ?_; rintro e v7 ⟨⟨O7, c7, rfl⟩, hv7⟩
              have HV7 := Lib.hid (HV6.out.trans (hv7.mono HV6.out.size))
              clear hv7
              go_wp2_with fail
              refine (HC.out.nReach _ _ _ _).mono ?_; rintro e v8 ⟨⟨O8, c8, rfl⟩, hv8⟩
              have HV8 : Hid (Below w.heap.size w v8) := Lib.hid ((HV7.out.alloc HV7.out.size _).trans (hv8.mono (by have := HV7.out.size; simp; omega)))
              clear hv8
              go_wp2_with fail
              go_ret
              exact ⟨rfl, HV8.out⟩
    · go_wp2_with fail
      refine (HC.out.new _ _ (HC0.out.on HE.out HB0.out) (Nat.le_refl _)).mono ?_; rintro e w1 ⟨_, hno, hb1⟩
      obtain rfl := hno hr
      have HB1 := Lib.hid (HB0.out.trans (hb1.mono HB0.out.size))
      clear hno hb1
      by_cases h : r < 0
      · have d1 : decide (r < 0) = true := decide_eq_true h
        go_wp2_with fail
        refine (HAl.out _ HB1.out).mono ?_; rintro e w2 ⟨rfl, hb2⟩
        have HB2 := Lib.hid (HB1.out.trans (hb2.mono HB1.out.size))
        clear hb2
        go_wp2_with fail
        go_ret
        exact ⟨rfl, HB2.out⟩
      · have d1 : decide (r < 0) = false := decide_eq_false h
        have d2 : decide (65536 < r) = true := decide_eq_true (by omega)
        go_wp2_with fail
        refine (HAl.out _ HB1.out).mono ?_; rintro e w2 ⟨rfl, hb2⟩
        have HB2 := Lib.hid (HB1.out.trans (hb2.mono HB1.out.size))
        clear hb2
        go_wp2_with fail
        go_ret
        exact ⟨rfl, HB2.out⟩
end
end Go.Proofs.YtbjbbpbagnlkmaaDoor
