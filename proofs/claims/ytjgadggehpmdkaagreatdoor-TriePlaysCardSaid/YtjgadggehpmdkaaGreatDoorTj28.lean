/- Texts joined: TsR, TsS, TsT. -/
import Derived.Test.YtjgadggehpmdkaaGreatDoorTj27
import Derived.Test.YtjgadggehpmdkaaGreatDoorTj19
set_option linter.all false
namespace Go.Proofs.YtjgadggehpmdkaaGreatDoor
open Go.RowKit Go.Shelf
structure Run (w W : World) (B a m room : Nat) (s t : Sh) (T T0 : Nat → Prop) : Prop where
  duo : Duo W B a m room s t T0
  kp : Kept w W T
  bl : Below B w W
  tt : ∀ g, T g → T0 g
section
variable {w W W1 : World} {B a m room : Nat} {s s' t t' : Sh} {T T0 : Nat → Prop}
theorem Run.below (h : Run w W B a m room s t T T0) (hb : Below W.heap.size W W1) : Run w W1 B a m room s t T (fun g => T0 g ∨ (W.heap.size ≤ g ∧ g < W1.heap.size)) :=
  ⟨h.duo.below hb, h.kp.trans (Kept.of_below hb), h.bl.trans (hb.mono h.duo.base), fun g hg => .inl (h.tt g hg)⟩
theorem Run.op (h : Run w W B a m room s t T T0) (hd : Duo W1 B a m room s' t' T0) (hk : Kept W W1 T0) (hb : Below B W W1) : Run w W1 B a m room s' t' T T0 :=
  ⟨hd, h.kp.trans ⟨hk.size, fun g hg hl => hk.block g (h.tt g hg) hl⟩, h.bl.trans hb, h.tt⟩
theorem Run.start (h : Duo w B a m room s t T) : Run w w B a m room s t T T := ⟨h, Kept.refl _ _, Below.refl _ _, fun _ h => h⟩
end
def StepQ (w : World) (B a m room : Nat) (s' : Sh) (p : Int) (T : Nat → Prop) (e : Ending) (w' : World) : Prop := e = .returned (.tuple #[.int .i64 p, .int .i64 p, .bool true]) ∧ Duo w' B a m room s' s' T ∧ Kept w w' T ∧ Below B w w'
theorem Run.done {w W : World} {B a m room : Nat} {s : Sh} {p : Int} {T T0 : Nat → Prop} (h : Run w W B a m room s s T T0) : StepQ w B a m room s p T (.returned (.tuple #[.int .i64 p, .int .i64 p, .bool true])) W := ⟨rfl, h.duo.mono h.tt, h.kp, h.bl⟩
structure ActT (w : World) (T : Nat → Prop) (q : AcT) : Prop where
  row : RowE w T q.LA q.L
  fit : FitAT q
  kind : 0 ≤ q.kind ∧ q.kind ≤ 255
theorem first_fit {q : AcT} (h : FitAT q) : (firstE q.L).text.length ≤ 300 := by
  unfold firstE
  cases hl : q.L with
  | nil => exact Nat.zero_le _
  | cons x r => exact h.2 x (by rw [hl]; simp)
def actW (w : World) (q : AcT) : World := w.alloc (.cells #[.int .u8 q.kind, .slice q.LA q.L.length q.lc, .int .i64 q.at_] 37)
structure StV (w W : World) (B a m room : Nat) (s t : Sh) (T T0 : Nat → Prop) (X Y : Nat) (q : AcT) (y : En) : Prop where
  run : Run w W B a m room s t T T0
  x0 : W.cell? ⟨X, 0, none⟩ = some (.int .u8 q.kind)
  x1 : W.cell? ⟨X, 1, none⟩ = some (.slice q.LA q.L.length q.lc)
  y0 : W.cell? ⟨Y, 0, none⟩ = some (.int .i64 y.key)
  y1 : W.cell? ⟨Y, 1, none⟩ = some (.string ⟨y.text.toArray⟩)
  z0 : W.cell? ⟨Y + 1, 0, none⟩ = some (.int .i64 y.key)
  z1 : W.cell? ⟨Y + 1, 1, none⟩ = some (.string ⟨y.text.toArray⟩)
  pX : T0 X
  pY : T0 Y
  pZ : T0 (Y + 1)
  row : RowE W T0 q.LA q.L
section
variable {w W W1 : World} {B a m room : Nat} {s s' t t' : Sh} {T T0 : Nat → Prop} {X Y : Nat} {q : AcT} {y : En}
theorem StV.below (h : StV w W B a m room s t T T0 X Y q y) (hb : Below W.heap.size W W1) : StV w W1 B a m room s t T (fun g => T0 g ∨ (W.heap.size ≤ g ∧ g < W1.heap.size)) X Y q y :=
  ⟨h.run.below hb, keep_cell hb h.x0, keep_cell hb h.x1, keep_cell hb h.y0, keep_cell hb h.y1, keep_cell hb h.z0, keep_cell hb h.z1, .inl h.pX, .inl h.pY, .inl h.pZ, (h.row.below hb).mono fun _ hg _ => .inl hg⟩
theorem StV.op (h : StV w W B a m room s t T T0 X Y q y) (hd : Duo W1 B a m room s' t' T0) (hk : Kept W W1 T0) (hb : Below B W W1) : StV w W1 B a m room s' t' T T0 X Y q y :=
  ⟨h.run.op hd hk hb, hk.cell h.pX h.x0, hk.cell h.pX h.x1, hk.cell h.pY h.y0, hk.cell h.pY h.y1, hk.cell h.pZ h.z0, hk.cell h.pZ h.z1, h.pX, h.pY, h.pZ, h.row.kept hk⟩
theorem StV.begin (hD : Duo w B a m room s s T) (hq : RowE w T q.LA q.L) {w1 : World} (hb : Below (actW w q).heap.size (actW w q) w1) :
    StV w ((w1.alloc (.cells #[.int .i64 y.key, .string ⟨y.text.toArray⟩] 55)).alloc (.cells #[.int .i64 y.key, .string ⟨y.text.toArray⟩] 68)) B a m room s s T (fun g => T g ∨ (w.heap.size ≤ g ∧ g < ((w1.alloc (.cells #[.int .i64 y.key, .string ⟨y.text.toArray⟩] 55)).alloc (.cells #[.int .i64 y.key, .string ⟨y.text.toArray⟩] 68)).heap.size)) w.heap.size w1.heap.size q y := by
  have hb0 : Below w.heap.size w (actW w q) := (Below.refl _ _).alloc (Nat.le_refl _) _
  have hz0 : (actW w q).heap.size = w.heap.size + 1 := by unfold actW; simp
  have hz1 := hb.size
  have hblk : (actW w q).heap[w.heap.size]? = some (.cells #[.int .u8 q.kind, .slice q.LA q.L.length q.lc, .int .i64 q.at_] 37 (0, 0)) := heap_alloc_new w _
  have hby := heap_alloc_new w1 (.cells #[.int .i64 y.key, .string ⟨y.text.toArray⟩] 55)
  have hz2 : (w1.alloc (.cells #[.int .i64 y.key, .string ⟨y.text.toArray⟩] 55)).heap.size = w1.heap.size + 1 := by simp
  have hbz := heap_alloc_new (w1.alloc (.cells #[.int .i64 y.key, .string ⟨y.text.toArray⟩] 55)) (.cells #[.int .i64 y.key, .string ⟨y.text.toArray⟩] 68)
  rw [hz2] at hbz
  have hb1 : Below w1.heap.size w1 (w1.alloc (.cells #[.int .i64 y.key, .string ⟨y.text.toArray⟩] 55)) := (Below.refl _ _).alloc (Nat.le_refl _) _
  have hb2 : Below (w1.alloc (.cells #[.int .i64 y.key, .string ⟨y.text.toArray⟩] 55)).heap.size (w1.alloc (.cells #[.int .i64 y.key, .string ⟨y.text.toArray⟩] 55)) ((w1.alloc (.cells #[.int .i64 y.key, .string ⟨y.text.toArray⟩] 55)).alloc (.cells #[.int .i64 y.key, .string ⟨y.text.toArray⟩] 68)) := (Below.refl _ _).alloc (Nat.le_refl _) _
  have hz3 : ((w1.alloc (.cells #[.int .i64 y.key, .string ⟨y.text.toArray⟩] 55)).alloc (.cells #[.int .i64 y.key, .string ⟨y.text.toArray⟩] 68)).heap.size = w1.heap.size + 1 + 1 := by simp
  generalize (w1.alloc (.cells #[.int .i64 y.key, .string ⟨y.text.toArray⟩] 55)) = W1 at *
  generalize (W1.alloc (.cells #[.int .i64 y.key, .string ⟨y.text.toArray⟩] 68)) = W2 at *
  have hb12 : Below w1.heap.size w1 W2 := hb1.trans (hb2.mono hb1.size)
  have hba : Below (actW w q).heap.size (actW w q) W2 := hb.trans (hb12.mono hb.size)
  have hbw : Below w.heap.size w W2 := hb0.trans (hba.mono hb0.size)
  have hX : w.heap.size < (actW w q).heap.size := by omega
  refine ⟨(Run.start hD).below hbw, keep_cell hba (Lib.cell_of_heap hblk 0), keep_cell hba (Lib.cell_of_heap hblk 1), keep_cell hb2 (Lib.cell_of_heap hby 0), keep_cell hb2 (Lib.cell_of_heap hby 1), Lib.cell_of_heap hbz 0, Lib.cell_of_heap hbz 1, .inr ⟨Nat.le_refl _, by omega⟩, .inr ⟨by omega, by omega⟩, .inr ⟨by omega, by omega⟩, (hq.below hbw).mono fun _ hg _ => .inl hg⟩
end
section
variable {w : World} {B a m room : Nat} {s : Sh} {T : Nat → Prop}
set_option maxHeartbeats 16000000 in
set_option maxRecDepth 10000 in
theorem lstep_bld (hD : Duo w B a m room s s T) (q : AcT) (hq : ActT w T q) (h : Int) (hk : q.kind % 8 = 0 ∨ q.kind % 8 = 1) :
    Calls Tryz.prog 9 #[.pointer (some ⟨a, 0, none⟩), .pointer (some ⟨m, 0, none⟩), .agg #[.int .u8 q.kind, .slice q.LA q.L.length q.lc, .int .i64 q.at_], .int .i64 h, .int .i64 h] w fun e w' => StepQ w B a m room (pBldR room s q.L).1 (pBldR room s q.L).2.1 T e w' := by
  have HBg := Lib.hid (fun (y : En) (w1 : World) (hb : Below (actW w q).heap.size (actW w q) w1) => StV.begin (y := y) hD hq.row hb)
  have HFi := Lib.hid (lfirst_any q.L q.LA q.lc (actW w q) (hq.row.below ((Below.refl _ _).alloc (Nat.le_refl _) _)))
  have hk0 := hq.kind.1
  have hk1 := hq.kind.2
  have HFt := Lib.hid hq.fit
  have HPr := Lib.hid (fun (W : World) (T0 : Nat → Prop) (hd : Duo W B a m room s s T0) (hr : RowE W T0 q.LA q.L) => Duo.left (s' := (pBldR room s q.L).1) (E := fun e => e = .returned (.tuple #[.int .i64 (pBldR room s q.L).2.1, .int .i64 ((pBldR room s q.L).2.2 : Int)])) hd fun K hon => (ptbuild_any hon q.L q.LA q.lc hr (by have := hq.fit.1; omega) (fun x hx => Nat.le_trans (hq.fit.2 x hx) (by decide))).mono fun e w' ⟨K', he, hl⟩ => ⟨K', he, hl⟩)
  have HDr := Lib.hid (fun (W : World) (T0 : Nat → Prop) (s' : Sh) (hd : Duo W B a m room s' s T0) (hs : s' = (pBldR room s q.L).1) (A : Option Addr) (ca : Nat) (Q : Nat → Prop) (hr : RowE W Q A q.L) => Duo.right (t' := s') (E := fun e => e = .returned (.tuple #[.int .i64 (pBldR room s q.L).2.1, .int .i64 ((pBldR room s q.L).2.2 : Int)])) hd hd.inv hd.fits fun P gN cN gB cB nds bs hrm hst _ _ => (rbuildE_any hrm q.L A ca hr (by have := hq.fit.1; omega) (fun x hx => Nat.le_trans (hq.fit.2 x hx) (by decide))).mono fun e w' hbp => by rw [hst] at hbp; rw [hs]; exact hbp)
  clear hD hq
  generalize pBldR room s q.L = PR at *
  generalize firstE q.L = y at *
  rcases hk with hk | hk
  all_goals
    go_enter Tryz.func9, Tryz.ntmps9
    go_wp2_with fail
    refine HFi.out.mono ?_; rintro e w1 ⟨rfl, hb1⟩
    have hV := HBg.out y w1 hb1
    have x0 := hV.x0
    have x1 := hV.x1
    have HV := Lib.hid hV
    have HP := Lib.hid (HPr.out _ _ hV.run.duo hV.row)
    clear hb1 hV
    generalize (fun g => T g ∨ (w.heap.size ≤ g ∧ g < ((w1.alloc (.cells #[.int .i64 y.key, .string ⟨y.text.toArray⟩] 55)).alloc (.cells #[.int .i64 y.key, .string ⟨y.text.toArray⟩] 68)).heap.size)) = T0 at *
    go_wp2_with fail
    refine HP.out.mono ?_; rintro e w3 ⟨rfl, hd3, hk3, hb3⟩
    have hV3 := HV.out.op hd3 hk3 hb3
    have a0 := hV3.x0
    have a1 := hV3.x1
    have HV3 := Lib.hid hV3
    have HOf := Lib.hid (lof_any q.L q.LA q.lc w3 hV3.row (by have := HFt.out.1; omega))
    clear hd3 hk3 hb3 hV3 HP HV x0 x1
    go_wp2_with fail
    refine HOf.out.mono ?_; rintro e w4 ⟨O4, c4, rfl, hc4, hr4, hb4⟩
    have hV4 := HV3.out.below hb4
    have HV4 := Lib.hid hV4
    have HR := Lib.hid (HDr.out w4 _ _ hV4.run.duo rfl O4 c4 _ hr4)
    clear hc4 hr4 hb4 hV4 HOf HV3 a0 a1
    go_wp2_with fail
    refine HR.out.mono ?_; rintro e w5 ⟨rfl, hd5, hk5, hb5⟩
    have hV5 := HV4.out.op hd5 hk5 hb5
    have HV5 := Lib.hid hV5
    clear hd5 hk5 hb5 hV5 HV4 HR
    go_wp2_with fail
    go_ret3
    exact Run.done HV5.out.run
set_option maxHeartbeats 16000000 in
set_option maxRecDepth 10000 in
theorem lstep_del (hD : Duo w B a m room s s T) (q : AcT) (hq : ActT w T q) (h : Int) (hh : -9223372036854775808 ≤ h ∧ h ≤ 9223372036854775807) (hk : q.kind % 8 = 5 ∨ q.kind % 8 = 6) :
    Calls Tryz.prog 9 #[.pointer (some ⟨a, 0, none⟩), .pointer (some ⟨m, 0, none⟩), .agg #[.int .u8 q.kind, .slice q.LA q.L.length q.lc, .int .i64 q.at_], .int .i64 h, .int .i64 h] w fun e w' => StepQ w B a m room (pDelR room s h (firstE q.L).key).1 (pDelR room s h (firstE q.L).key).2.1 T e w' := by
  have HBg := Lib.hid (fun (y : En) (w1 : World) (hb : Below (actW w q).heap.size (actW w q) w1) => StV.begin (y := y) hD hq.row hb)
  have HFi := Lib.hid (lfirst_any q.L q.LA q.lc (actW w q) (hq.row.below ((Below.refl _ _).alloc (Nat.le_refl _) _)))
  have hk0 := hq.kind.1
  have hk1 := hq.kind.2
  have HPr := Lib.hid (fun (W : World) (T0 : Nat → Prop) (hd : Duo W B a m room s s T0) => Duo.left (s' := (pDelR room s h (firstE q.L).key).1) (E := fun e => e = .returned (.tuple #[.int .i64 (pDelR room s h (firstE q.L).key).2.1, .int .i64 ((pDelR room s h (firstE q.L).key).2.2 : Int)])) hd fun K hon => (ptrdel_any hon h hh (firstE q.L).key).mono fun e w' ⟨K', he, hl⟩ => ⟨K', he, hl⟩)
  have HDr := Lib.hid (fun (W : World) (T0 : Nat → Prop) (s' : Sh) (hd : Duo W B a m room s' s T0) (hs : s' = (pDelR room s h (firstE q.L).key).1) (hi : Inv room s) (hft : FitT s) => Duo.right (t' := s') (E := fun e => e = .returned (.tuple #[.int .i64 (pDelR room s h (firstE q.L).key).2.1, .int .i64 ((pDelR room s h (firstE q.L).key).2.2 : Int)])) hd hd.inv hd.fits fun P gN cN gB cB nds bs hrm hst _ _ => (rdelE_any hrm (by rw [hst]; exact hi) (by rw [hst]; exact hft) h (firstE q.L).key).mono fun e w' hbp => by rw [hst] at hbp; rw [hs]; exact hbp)
  have HI := Lib.hid hD.inv
  have HF := Lib.hid hD.fits
  clear hD hq
  generalize firstE q.L = y at *
  generalize pDelR room s h y.key = PR at *
  rcases hk with hk | hk
  all_goals
    go_enter Tryz.func9, Tryz.ntmps9
    go_wp2_with fail
    refine HFi.out.mono ?_; rintro e w1 ⟨rfl, hb1⟩
    have hV := HBg.out y w1 hb1
    have x0 := hV.x0
    have y0 := hV.y0
    have HV := Lib.hid hV
    have HP := Lib.hid (HPr.out _ _ hV.run.duo)
    clear hb1 hV
    generalize (fun g => T g ∨ (w.heap.size ≤ g ∧ g < ((w1.alloc (.cells #[.int .i64 y.key, .string ⟨y.text.toArray⟩] 55)).alloc (.cells #[.int .i64 y.key, .string ⟨y.text.toArray⟩] 68)).heap.size)) = T0 at *
    go_wp2_with fail
    refine HP.out.mono ?_; rintro e w3 ⟨rfl, hd3, hk3, hb3⟩
    have hV3 := HV.out.op hd3 hk3 hb3
    have b0 := hV3.y0
    have HV3 := Lib.hid hV3
    have HR := Lib.hid (HDr.out w3 _ _ hV3.run.duo rfl HI.out HF.out)
    clear hd3 hk3 hb3 hV3 HP HV x0 y0
    go_wp2_with fail
    refine HR.out.mono ?_; rintro e w5 ⟨rfl, hd5, hk5, hb5⟩
    have hV5 := HV3.out.op hd5 hk5 hb5
    have HV5 := Lib.hid hV5
    clear hd5 hk5 hb5 hV5 HV3 HR
    go_wp2_with fail
    go_ret3
    exact Run.done HV5.out.run
set_option maxHeartbeats 16000000 in
set_option maxRecDepth 10000 in
theorem lstep_put (hD : Duo w B a m room s s T) (q : AcT) (hq : ActT w T q) (h : Int) (hh : -9223372036854775808 ≤ h ∧ h ≤ 9223372036854775807) (hk : q.kind % 8 = 2 ∨ q.kind % 8 = 3 ∨ q.kind % 8 = 4) :
    Calls Tryz.prog 9 #[.pointer (some ⟨a, 0, none⟩), .pointer (some ⟨m, 0, none⟩), .agg #[.int .u8 q.kind, .slice q.LA q.L.length q.lc, .int .i64 q.at_], .int .i64 h, .int .i64 h] w fun e w' => StepQ w B a m room (pPutR room s h (firstE q.L)).1 (pPutR room s h (firstE q.L)).2.1 T e w' := by
  have HBg := Lib.hid (fun (y : En) (w1 : World) (hb : Below (actW w q).heap.size (actW w q) w1) => StV.begin (y := y) hD hq.row hb)
  have HFi := Lib.hid (lfirst_any q.L q.LA q.lc (actW w q) (hq.row.below ((Below.refl _ _).alloc (Nat.le_refl _) _)))
  have hk0 := hq.kind.1
  have hk1 := hq.kind.2
  have hfl : (firstE q.L).text.length ≤ maxLen := Nat.le_trans (first_fit hq.fit) (by decide)
  have HPr := Lib.hid (fun (W : World) (T0 : Nat → Prop) (hd : Duo W B a m room s s T0) => Duo.left (s' := (pPutR room s h (firstE q.L)).1) (E := fun e => e = .returned (.tuple #[.int .i64 (pPutR room s h (firstE q.L)).2.1, .int .i64 ((pPutR room s h (firstE q.L)).2.2 : Int)])) hd fun K hon => (ptrput_any hon h hh (firstE q.L) hfl).mono fun e w' ⟨K', he, hl⟩ => ⟨K', he, hl⟩)
  have HDr := Lib.hid (fun (W : World) (T0 : Nat → Prop) (s' : Sh) (hd : Duo W B a m room s' s T0) (hs : s' = (pPutR room s h (firstE q.L)).1) (hi : Inv room s) (hft : FitT s) => Duo.right (t' := s') (E := fun e => e = .returned (.tuple #[.int .i64 (pPutR room s h (firstE q.L)).2.1, .int .i64 ((pPutR room s h (firstE q.L)).2.2 : Int)])) hd hd.inv hd.fits fun P gN cN gB cB nds bs hrm hst _ _ => (rputE_any hrm (by rw [hst]; exact hi) (by rw [hst]; exact hft) h (firstE q.L) hfl).mono fun e w' hbp => by rw [hst] at hbp; rw [hs]; exact hbp)
  have HI := Lib.hid hD.inv
  have HF := Lib.hid hD.fits
  clear hD hq hfl
  unfold enV at HPr
  generalize firstE q.L = y at *
  generalize pPutR room s h y = PR at *
  rcases hk with hk | hk | hk
  all_goals
    go_enter Tryz.func9, Tryz.ntmps9
    go_wp2_with fail
    refine HFi.out.mono ?_; rintro e w1 ⟨rfl, hb1⟩
    have hV := HBg.out y w1 hb1
    have x0 := hV.x0
    have y0 := hV.y0
    have y1 := hV.y1
    have HV := Lib.hid hV
    have HP := Lib.hid (HPr.out _ _ hV.run.duo)
    clear hb1 hV
    generalize (fun g => T g ∨ (w.heap.size ≤ g ∧ g < ((w1.alloc (.cells #[.int .i64 y.key, .string ⟨y.text.toArray⟩] 55)).alloc (.cells #[.int .i64 y.key, .string ⟨y.text.toArray⟩] 68)).heap.size)) = T0 at *
    go_wp2_with fail
    refine HP.out.mono ?_; rintro e w3 ⟨rfl, hd3, hk3, hb3⟩
    have hV3 := HV.out.op hd3 hk3 hb3
    have b0 := hV3.z0
    have b1 := hV3.z1
    have HV3 := Lib.hid hV3
    have HR := Lib.hid (HDr.out w3 _ _ hV3.run.duo rfl HI.out HF.out)
    clear hd3 hk3 hb3 hV3 HP HV x0 y0 y1
    go_wp2_with fail
    refine HR.out.mono ?_; rintro e w5 ⟨rfl, hd5, hk5, hb5⟩
    have hV5 := HV3.out.op hd5 hk5 hb5
    have HV5 := Lib.hid hV5
    clear hd5 hk5 hb5 hV5 HV3 HR
    go_wp2_with fail
    go_ret3
    exact Run.done HV5.out.run
set_option maxHeartbeats 16000000 in
set_option maxRecDepth 10000 in
theorem lstep_swp (hD : Duo w B a m room s s T) (q : AcT) (hq : ActT w T q) (h : Int) (hh : -9223372036854775808 ≤ h ∧ h ≤ 9223372036854775807) (hk : q.kind % 8 = 7) :
    Calls Tryz.prog 9 #[.pointer (some ⟨a, 0, none⟩), .pointer (some ⟨m, 0, none⟩), .agg #[.int .u8 q.kind, .slice q.LA q.L.length q.lc, .int .i64 q.at_], .int .i64 h, .int .i64 h] w fun e w' => StepQ w B a m room (sweepA s [h]).1 h T e w' := by
  have HBg := Lib.hid (fun (y : En) (w1 : World) (hb : Below (actW w q).heap.size (actW w q) w1) => StV.begin (y := y) hD hq.row hb)
  have HFi := Lib.hid (lfirst_any q.L q.LA q.lc (actW w q) (hq.row.below ((Below.refl _ _).alloc (Nat.le_refl _) _)))
  have hk0 := hq.kind.1
  have hk1 := hq.kind.2
  have HPr : Hid (∀ (W : World) (T0 : Nat → Prop), Duo W B a m room s s T0 → ∀ (A : Option Addr) (Q : Nat → Prop), RowI W Q A [h] → Calls Tryz.prog 33 #[.pointer (some ⟨a, 0, none⟩), .slice A 1 1] W fun e w' => e = .returned (.tuple #[.int .i64 ((sweepA s [h]).2.1 : Int), .int .i64 ((sweepA s [h]).2.2 : Int)]) ∧ Duo w' B a m room (sweepA s [h]).1 s T0 ∧ Kept W w' T0 ∧ Below B W w') := Lib.hid fun W T0 hd A Q hr => Duo.left (E := fun e => e = .returned (.tuple #[.int .i64 ((sweepA s [h]).2.1 : Int), .int .i64 ((sweepA s [h]).2.2 : Int)])) hd fun K hon => (o9Sweep hon [h] A 1 hr (by simp) (fun x hx => by rw [List.mem_singleton.1 hx]; exact hh)).mono fun e w' ⟨K', he, hl⟩ => ⟨K', he, hl⟩
  have HDr : Hid (∀ (W : World) (T0 : Nat → Prop) (s' : Sh), Duo W B a m room s' s T0 → s' = (sweepA s [h]).1 → Inv room s → ∀ (A : Option Addr) (Q : Nat → Prop), RowI W Q A [h] → Calls Tryz.prog 34 #[.pointer (some ⟨m, 0, none⟩), .slice A 1 1] W fun e w' => e = .returned (.tuple #[.int .i64 ((sweepA s [h]).2.1 : Int), .int .i64 ((sweepA s [h]).2.2 : Int)]) ∧ Duo w' B a m room s' s' T0 ∧ Kept W w' T0 ∧ Below B W w') := Lib.hid fun W T0 s' hd hs hi A Q hr => Duo.right (E := fun e => e = .returned (.tuple #[.int .i64 ((sweepA s [h]).2.1 : Int), .int .i64 ((sweepA s [h]).2.2 : Int)])) hd hd.inv hd.fits fun P gN cN gB cB nds bs hrm hst _ _ => (rSweep_any hrm (by rw [hst]; exact hi) [h] A 1 hr (by simp)).mono fun e w' ⟨gB', cB', bs', n, c, he, hsw, hrm', hbu⟩ => by
    rw [hst] at hsw
    exact ⟨gN, cN, gB', cB', nds, bs', by rw [he, hsw], by rw [hs, hsw], hrm', hbu⟩
  have HI := Lib.hid hD.inv
  clear hD hq
  generalize firstE q.L = y at *
  generalize hSW : sweepA s [h] = SW at *
  clear hSW
  go_enter Tryz.func9, Tryz.ntmps9
  go_wp2_with fail
  refine HFi.out.mono ?_; rintro e w1 ⟨rfl, hb1⟩
  have hV := HBg.out y w1 hb1
  have x0 := hV.x0
  have HV := Lib.hid hV
  clear hb1 hV
  generalize (fun g => T g ∨ (w.heap.size ≤ g ∧ g < ((w1.alloc (.cells #[.int .i64 y.key, .string ⟨y.text.toArray⟩] 55)).alloc (.cells #[.int .i64 y.key, .string ⟨y.text.toArray⟩] 68)).heap.size)) = T0 at *
  have hz : ((w1.alloc (.cells #[.int .i64 y.key, .string ⟨y.text.toArray⟩] 55)).alloc (.cells #[.int .i64 y.key, .string ⟨y.text.toArray⟩] 68)).heap.size = w1.heap.size + 1 + 1 := by simp
  have HZ := Lib.hid hz
  clear hz
  go_wp2_with fail
  generalize ((w1.alloc (.cells #[.int .i64 y.key, .string ⟨y.text.toArray⟩] 55)).alloc (.cells #[.int .i64 y.key, .string ⟨y.text.toArray⟩] 68)) = W2 at *
  have hn := heap_alloc_new W2 (.cells #[.int .i64 h] 3)
  rw [HZ.out] at hn
  have hb2 : Below W2.heap.size W2 (W2.alloc (.cells #[.int .i64 h] 3)) := (Below.refl _ _).alloc (Nat.le_refl _) _
  have hV2 := HV.out.below hb2
  have HV2 := Lib.hid hV2
  refine (HPr.out _ _ hV2.run.duo (some ⟨w1.heap.size + 1 + 1, 0, none⟩) (fun _ => True) (rowI_lit hn rfl trivial)).mono ?_; rintro e w3 ⟨rfl, hd3, hk3, hb3⟩
  have hV3 := HV2.out.op hd3 hk3 hb3
  have hn3 := heap_alloc_new w3 (.cells #[.int .i64 h] 3)
  have hb4 : Below w3.heap.size w3 (w3.alloc (.cells #[.int .i64 h] 3)) := (Below.refl _ _).alloc (Nat.le_refl _) _
  have hV4 := hV3.below hb4
  have HV4 := Lib.hid hV4
  have HR := Lib.hid (HDr.out _ _ _ hV4.run.duo rfl HI.out (some ⟨w3.heap.size, 0, none⟩) (fun _ => True) (rowI_lit hn3 rfl trivial))
  clear hd3 hk3 hb3 hV3 hV2 hn hn3 hb2 hb4 HV HV2 hV4 x0
  go_wp2_with fail
  refine HR.out.mono ?_; rintro e w5 ⟨rfl, hd5, hk5, hb5⟩
  have hV5 := HV4.out.op hd5 hk5 hb5
  have HV5 := Lib.hid hV5
  clear hd5 hk5 hb5 hV5 HV4 HR
  go_wp2_with fail
  go_ret3
  exact Run.done HV5.out.run
end
end Go.Proofs.YtjgadggehpmdkaaGreatDoor
namespace Go.Proofs.YtjgadggehpmdkaaGreatDoor
open Go.RowKit Go.Shelf
noncomputable def stepT (room : Nat) (s : Sh) (h : Int) (q : AcT) : Sh × Int :=
  if q.kind % 8 = 0 ∨ q.kind % 8 = 1 then ((pBldR room s q.L).1, (pBldR room s q.L).2.1)
  else if q.kind % 8 = 5 ∨ q.kind % 8 = 6 then ((pDelR room s h (firstE q.L).key).1, (pDelR room s h (firstE q.L).key).2.1)
  else if q.kind % 8 = 7 then ((sweepA s [h]).1, h) else ((pPutR room s h (firstE q.L)).1, (pPutR room s h (firstE q.L)).2.1)
theorem lstep_any {w : World} {B a m room : Nat} {s : Sh} {T : Nat → Prop} (hD : Duo w B a m room s s T) (q : AcT) (hq : ActT w T q) (h : Int) (hh : -9223372036854775808 ≤ h ∧ h ≤ 9223372036854775807) :
    Calls Tryz.prog 9 #[.pointer (some ⟨a, 0, none⟩), .pointer (some ⟨m, 0, none⟩), .agg #[.int .u8 q.kind, .slice q.LA q.L.length q.lc, .int .i64 q.at_], .int .i64 h, .int .i64 h] w fun e w' => StepQ w B a m room (stepT room s h q).1 (stepT room s h q).2 T e w' := by
  unfold stepT
  by_cases h0 : q.kind % 8 = 0 ∨ q.kind % 8 = 1
  · simp only [if_pos h0]
    exact lstep_bld hD q hq h h0
  · simp only [if_neg h0]
    by_cases h1 : q.kind % 8 = 5 ∨ q.kind % 8 = 6
    · simp only [if_pos h1]
      exact lstep_del hD q hq h hh h1
    · simp only [if_neg h1]
      by_cases h2 : q.kind % 8 = 7
      · simp only [if_pos h2]
        exact lstep_swp hD q hq h hh h2
      · simp only [if_neg h2]
        exact lstep_put hD q hq h hh (by have := hq.kind; omega)
theorem putT_bound {room : Nat} {s : Sh} (hi : Inv room s) (l : List En) : 0 ≤ (putT room s l).2.1 ∧ (putT room s l).2.1 ≤ (room : Int) := by
  unfold putT
  show 0 ≤ (putA room s (nodesL l)).2.1.getLastD 0 ∧ (putA room s (nodesL l)).2.1.getLastD 0 ≤ (room : Int)
  have key : ∀ x ∈ (putA room s (nodesL l)).2.1, 0 ≤ x ∧ x ≤ (room : Int) := by
    unfold putA
    split
    · intro x hx; cases hx
    · rename_i hw
      split
      · intro x hx; cases hx
      · rename_i s' out e
        intro x hx
        have h1 := inv_putL (s0 := s) (out := []) hi (Up.refl _) (fun _ h => by cases h) (by simpa using hw) e
        have h2 := live_bound (h1.2 x hx)
        have h3 := h1.1.len
        omega
  cases hl : (putA room s (nodesL l)).2.1.getLast? with
  | none => rw [List.getLastD_eq_getLast?, hl]; exact ⟨Int.le_refl _, by show (0 : Int) ≤ (room : Int); omega⟩
  | some y =>
    rw [List.getLastD_eq_getLast?, hl]
    exact key y (List.mem_of_getLast? hl)
theorem bldR_bound {room : Nat} {s : Sh} (hi : Inv room s) (l : List En) : 0 ≤ (pBldR room s l).2.1 ∧ (pBldR room s l).2.1 ≤ (room : Int) := by
  unfold pBldR
  split
  · exact ⟨Int.le_refl _, by show (0 : Int) ≤ (room : Int); omega⟩
  · split
    · exact ⟨Int.le_refl _, by show (0 : Int) ≤ (room : Int); omega⟩
    · exact putT_bound hi _
theorem putR_bound {room : Nat} {s : Sh} (hi : Inv room s) (h : Int) (x : En) : 0 ≤ (pPutR room s h x).2.1 ∧ (pPutR room s h x).2.1 ≤ (room : Int) := by
  cases hh : hasT s h with
  | none => rw [pPutR_none hh]; exact ⟨Int.le_refl _, by show (0 : Int) ≤ (room : Int); omega⟩
  | some l =>
    by_cases hr : rightE x = true
    · rw [put_bld hh hr]; exact bldR_bound hi _
    · rw [pPutR_no hr]; exact ⟨Int.le_refl _, by show (0 : Int) ≤ (room : Int); omega⟩
theorem delR_bound {room : Nat} {s : Sh} (hi : Inv room s) (h k : Int) : 0 ≤ (pDelR room s h k).2.1 ∧ (pDelR room s h k).2.1 ≤ (room : Int) := by
  cases hh : hasT s h with
  | none => rw [pDelR_none hh]; exact ⟨Int.le_refl _, by show (0 : Int) ≤ (room : Int); omega⟩
  | some l =>
    by_cases hk : 0 ≤ k ∧ k ≤ 1023
    · cases hg : getL l k with
      | none => rw [pDelR_lack hh hk hg]; exact ⟨Int.le_refl _, by show (0 : Int) ≤ (room : Int); omega⟩
      | some v => rw [del_bld hh hk hg]; exact bldR_bound hi _
    · rw [pDelR_no hk]; exact ⟨Int.le_refl _, by show (0 : Int) ≤ (room : Int); omega⟩
theorem stepT_bound {room : Nat} {s : Sh} (hi : Inv room s) (hr : room ≤ 65536) {h : Int} (hh : 0 ≤ h ∧ h ≤ 65536) (q : AcT) : 0 ≤ (stepT room s h q).2 ∧ (stepT room s h q).2 ≤ 65536 := by
  unfold stepT
  split
  · have := bldR_bound hi q.L
    exact ⟨this.1, by show (pBldR room s q.L).2.1 ≤ 65536; omega⟩
  · split
    · have := delR_bound hi h (firstE q.L).key
      exact ⟨this.1, by show (pDelR room s h (firstE q.L).key).2.1 ≤ 65536; omega⟩
    · split
      · exact hh
      · have := putR_bound hi h (firstE q.L)
        exact ⟨this.1, by show (pPutR room s h (firstE q.L)).2.1 ≤ 65536; omega⟩
theorem pick_bound {l : List Int} (h : ∀ x ∈ l, 0 ≤ x ∧ x ≤ 65536) (i : Int) : 0 ≤ pickI l i ∧ pickI l i ≤ 65536 := by
  unfold pickI
  split
  · rw [List.getD_eq_getElem?_getD]
    cases e : l[i.toNat]? with
    | none => exact ⟨Int.le_refl _, by decide⟩
    | some x => exact h x (List.mem_of_getElem? e)
  · exact ⟨Int.le_refl _, by decide⟩
theorem getR_get (s : Sh) (h k : Int) : getR s h k = getL ((hasT s h).getD []) k := by
  unfold getR
  cases hasT s h with
  | none => rfl
  | some l => rfl
set_option maxHeartbeats 4000000 in
set_option maxRecDepth 10000 in
theorem pread_nil (w : World) (h : Int) : Calls Tryz.prog 40 #[.pointer none, .int .i64 h] w fun e w' => ∃ f, e = .returned (.tuple #[.agg (txC f), .bool false]) ∧ Below w.heap.size w w' := by
  obtain ⟨W2, hW2⟩ : ∃ W2, (w.alloc (.cells Tryz.zeroCells90 90)).alloc (.cells Tryz.zeroCells90 90) = W2 := ⟨_, rfl⟩
  have hb2 : Below w.heap.size w W2 := by rw [← hW2]; exact ((Below.refl _ _).alloc (Nat.le_refl _) _).alloc (by simp) _
  have hT2 : TX W2 (w.heap.size + 1) (fun _ => []) := by
    rw [← hW2]
    have := heap_alloc2_new w (.cells Tryz.zeroCells90 90) (.cells Tryz.zeroCells90 90)
    rw [texts_zero] at this
    exact this
  have hR2 : TX W2 w.heap.size (fun _ => []) := by
    rw [← hW2]
    have := heap_alloc2_old w (.cells Tryz.zeroCells90 90) (.cells Tryz.zeroCells90 90)
    rw [texts_zero] at this
    exact this
  go_enter Tryz.func40, Tryz.ntmps40
  go_upto_region 3 with fail
  have HT := Lib.hid hT2
  have HR := Lib.hid hR2
  have HB := Lib.hid hb2
  clear hT2 hR2 hb2 hW2
  go_wp2_with (first
    | (refine wpList_load_texts rfl _ rfl (w.heap.size + 1) rfl HT.out ?_)
    | (refine wpList_store_row rfl 90 _ _ rfl w.heap.size (txC (fun _ => [])) rfl rfl 90 _ HR.out (by rw [txC_size]; exact texts_info) rfl (txC_one _) ?_))
  exact bodyPost_ret (v := .tuple #[.agg (txC (fun _ => [])), .bool false]) (results_two (p := 4) (q := 5) (by kernel_rfl) _ _ w.heap.size rfl (heap_setRow_self HR.out _)) rfl ⟨_, rfl, below_setRow' HB.out (Nat.le_refl _) _⟩
theorem pis_nil (w : World) (h : Int) : Calls Tryz.prog 17 #[.pointer none, .int .i64 h] w fun e w' => e = .returned (.bool false) ∧ Below w.heap.size w w' := by
  have HR := Lib.hid (pread_nil w h)
  go_enter Tryz.func17, Tryz.ntmps17
  go_wp2_with fail
  refine HR.out.mono ?_; rintro e w1 ⟨f, rfl, hb1⟩
  have Hb1 := Lib.hid hb1
  clear hb1
  go_wp2_with (refine wpList_store_row rfl 90 _ _ rfl w1.heap.size (txC f) rfl rfl 90 _ (heap_alloc_new w1 _) (by rw [txC_size]; exact texts_info) (by rw [txC_size]; first | exact hold_st (w := w1) | rfl) (txC_one f) ?_; rw [World.setRow_alloc_new])
  go_ret
  exact ⟨rfl, Hb1.out.alloc Hb1.out.size _⟩
end Go.Proofs.YtjgadggehpmdkaaGreatDoor
namespace Go.Proofs.YtjgadggehpmdkaaGreatDoor
open Go.RowKit Go.Shelf
theorem Duo.grown {w w1 : World} {B a m room : Nat} {s t : Sh} {T : Nat → Prop} {row : Option Nat} (h : Duo w B a m room s t T) (hg : w.grownBy w1 row) (hr : ∀ g, row = some g → (T g ∧ B ≤ g) ∨ w.heap.size ≤ g) : Duo w1 B a m room s t (fun g => T g ∨ (w.heap.size ≤ g ∧ g < w1.heap.size)) := by
  obtain ⟨K, P, gN, cN, gB, cB, nds, bs, h⟩ := h
  have hz := hg.size
  have hB := h.on.base
  have hb : Below B w w1 := ⟨hg.os, hg.tape, hg.output, hg.size, fun k hk => hg.block k (by omega) fun e => by
    rcases hr k e.symm with q | q
    · omega
    · omega⟩
  have hk : ∀ g, ¬ (some g = row) → g < w.heap.size → w1.heap[g]? = w.heap[g]? := fun g hn hl => hg.block g hl hn
  refine ⟨_, P, gN, cN, gB, cB, nds, bs, h.on.kept (Q := fun g => some g = row) (fun g hn hl => hk g hn hl) hz (fun g e => (hr g e.symm).imp (fun q => (h.tk g q.1).1) id) hb, h.rm.kept ⟨hz, fun g hp hl => hk g (fun e => by
    rcases hr g e.symm with q | q
    · exact (h.tk g q.1).2 hp
    · have := (h.pk g hp).2.1; omega) hl⟩, h.st, h.inv, h.fit, fun g hg' => ?_, fun g hg' => ?_⟩
  · have := h.pk g hg'
    exact ⟨this.1, by omega, .inl this.2.2⟩
  · rcases hg' with q | q
    · exact ⟨.inl (h.tk g q).1, (h.tk g q).2⟩
    · exact ⟨.inr q, fun e => by have := (h.pk g e).2.1; omega⟩
structure PV (w wr : World) (a m room : Nat) (s : Sh) (T : Nat → Prop) (vh vk : Value) (hs : List Int) : Prop where
  duo : Duo wr w.heap.size a m room s s T
  bl : Below w.heap.size w wr
  oh : OwnR 3 1 inW w.heap.size wr vh hs
  ok : OwnR 3 1 inW w.heap.size wr vk hs
  th : ∀ g, vh.ownBlock = some g → T g
  tk : ∀ g, vk.ownBlock = some g → T g
  ap : ∀ g, vh.ownBlock = some g → vk.ownBlock ≠ some g
  tb : ∀ g, g < w.heap.size → T g
section
variable {w wr w1 : World} {a m room : Nat} {s s' : Sh} {T : Nat → Prop} {vh vk : Value} {hs : List Int}
theorem PV.below (h : PV w wr a m room s T vh vk hs) (hb : Below wr.heap.size wr w1) : PV w w1 a m room s (fun g => T g ∨ (wr.heap.size ≤ g ∧ g < w1.heap.size)) vh vk hs :=
  ⟨h.duo.below hb, h.bl.trans (hb.mono h.bl.size), h.oh.below hb, h.ok.below hb, fun g hg => .inl (h.th g hg), fun g hg => .inl (h.tk g hg), h.ap, fun g hg => .inl (h.tb g hg)⟩
theorem PV.op (h : PV w wr a m room s T vh vk hs) (hd : Duo w1 w.heap.size a m room s' s' T) (hk : Kept wr w1 T) (hb : Below w.heap.size wr w1) : PV w w1 a m room s' T vh vk hs :=
  ⟨hd, h.bl.trans hb, OwnR.block h.oh fun k hk' => hk.block k (h.th k hk') (World.ownsRow.lt h.oh k hk').2, OwnR.block h.ok fun k hk' => hk.block k (h.tk k hk') (World.ownsRow.lt h.ok k hk').2, h.th, h.tk, h.ap, h.tb⟩
theorem PV.growH (h : PV w wr a m room s T vh vk hs) {v4 : Value} {L : List Int} (ho : OwnR 3 1 inW w.heap.size w1 v4 L) (hg : wr.grownBy w1 vh.ownBlock) (hat : v4.ownBlock = vh.ownBlock ∨ ∃ k, v4.ownBlock = some k ∧ wr.heap.size ≤ k ∧ k < w1.heap.size) :
    Duo w1 w.heap.size a m room s s (fun g => T g ∨ (wr.heap.size ≤ g ∧ g < w1.heap.size)) ∧ Below w.heap.size w w1 ∧ OwnR 3 1 inW w.heap.size w1 v4 L ∧ OwnR 3 1 inW w.heap.size w1 vk hs ∧ (∀ g, v4.ownBlock = some g → T g ∨ (wr.heap.size ≤ g ∧ g < w1.heap.size)) ∧ (∀ g, vk.ownBlock = some g → T g ∨ (wr.heap.size ≤ g ∧ g < w1.heap.size)) ∧ (∀ g, v4.ownBlock = some g → vk.ownBlock ≠ some g) := by
  have hsz := hg.size
  refine ⟨h.duo.grown hg fun g e => .inl ⟨h.th g e, (World.ownsRow.lt h.oh g e).1⟩, h.bl.grown hg h.bl.size (fun k hk => (World.ownsRow.lt h.oh k hk).1), ho, OwnR.block h.ok fun k hk => hg.block k (World.ownsRow.lt h.ok k hk).2 fun e => h.ap k e.symm hk, fun g e => ?_, fun g e => .inl (h.tk g e), fun g e e2 => ?_⟩
  · rcases hat with q | ⟨k, q, hk⟩
    · exact .inl (h.th g (by rw [← q]; exact e))
    · rw [q] at e; cases e; exact .inr hk
  · rcases hat with q | ⟨k, q, hk⟩
    · exact h.ap g (by rw [← q]; exact e) e2
    · rw [q] at e; cases e
      have := (World.ownsRow.lt h.ok g e2).2; omega
theorem PV.both {T' : Nat → Prop} {w2 : World} {v4 v5 : Value} {L : List Int} (hd : Duo w1 w.heap.size a m room s s T') (hb : Below w.heap.size w w1) (oh : OwnR 3 1 inW w.heap.size w1 v4 L) (ok : OwnR 3 1 inW w.heap.size w1 vk hs) (th : ∀ g, v4.ownBlock = some g → T' g) (tk : ∀ g, vk.ownBlock = some g → T' g) (ap : ∀ g, v4.ownBlock = some g → vk.ownBlock ≠ some g) (tb : ∀ g, g < w.heap.size → T' g)
    (ho : OwnR 3 1 inW w.heap.size w2 v5 L) (hg : w1.grownBy w2 vk.ownBlock) (hat : v5.ownBlock = vk.ownBlock ∨ ∃ k, v5.ownBlock = some k ∧ w1.heap.size ≤ k ∧ k < w2.heap.size) :
    PV w w2 a m room s (fun g => T' g ∨ (w1.heap.size ≤ g ∧ g < w2.heap.size)) v4 v5 L := by
  have hsz := hg.size
  refine ⟨hd.grown hg fun g e => .inl ⟨tk g e, (World.ownsRow.lt ok g e).1⟩, hb.grown hg hb.size (fun k hk => (World.ownsRow.lt ok k hk).1), OwnR.block oh fun k hk => hg.block k (World.ownsRow.lt oh k hk).2 fun e => ap k hk e.symm, ho, fun g e => .inl (th g e), fun g e => ?_, fun g e e2 => ?_, fun g hg' => .inl (tb g hg')⟩
  · rcases hat with q | ⟨k, q, hk⟩
    · exact .inl (tk g (by rw [← q]; exact e))
    · rw [q] at e; cases e; exact .inr hk
  · rcases hat with q | ⟨k, q, hk⟩
    · exact ap g e (by rw [← q]; exact e2)
    · rw [q] at e2; cases e2
      have := (World.ownsRow.lt oh g e).2; omega
theorem own_len (A : Option Addr) (n n' c : Nat) : (Value.slice A n c).ownBlock = (Value.slice A n' c).ownBlock := by
  cases A with
  | none => rfl
  | some p => rfl
theorem PV.cut {A1 A2 : Option Addr} {c1 c2 N : Nat} (h : PV w wr a m room s T (.slice A1 N c1) (.slice A2 N c2) hs) (hp : 0 < hs.length) : PV w wr a m room s T (.slice A1 0 c1) (.slice A2 0 c2) [] where
  duo := h.duo
  bl := h.bl
  oh := OwnR.cut (f := inW) (n := 1) (fun _ => rfl) h.oh hp 0 (Nat.zero_le _)
  ok := OwnR.cut (f := inW) (n := 1) (fun _ => rfl) h.ok hp 0 (Nat.zero_le _)
  th := fun g e => h.th g (by rw [own_len A1 N 0 c1]; exact e)
  tk := fun g e => h.tk g (by rw [own_len A2 N 0 c2]; exact e)
  ap := fun g e e2 => h.ap g (by rw [own_len A1 N 0 c1]; exact e) (by rw [own_len A2 N 0 c2]; exact e2)
  tb := h.tb
end
end Go.Proofs.YtjgadggehpmdkaaGreatDoor
