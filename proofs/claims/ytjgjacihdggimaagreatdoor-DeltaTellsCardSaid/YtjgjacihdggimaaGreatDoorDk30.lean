/- Texts joined: TrAf, NfLn, OaL, DtA, DtB, FrameE. -/
import Derived.Test.YtjgjacihdggimaaGreatDoorDk05
import Derived.Deep.QuietTactic
import Derived.BigQuiet
import Derived.Test.YtjgjacihdggimaaGreatDoorDk20
import Derived.Test.YtjgjacihdggimaaGreatDoorDk21
import Derived.Test.YtjgjacihdggimaaGreatDoorDk22
import Derived.Test.YtjgjacihdggimaaGreatDoorDk28
import Derived.Test.YtjgjacihdggimaaGreatDoorDk29
import Derived.Test.YtjgjacihdggimaaGreatDoorDk13
import Derived.Deep.RegionHeld3
import Derived.Test.YtjgjacihdggimaaGreatDoorRows
import Derived.Test.YtjgjacihdggimaaGreatDoorDk01
import Derived.Deep.Strs
import Derived.WalkKit
import Derived.ProofKit
import Derived.OpenShut
import Derived.Deep.DeepHandedRow
import Derived.Lib.LaidTab
import Derived.Stop.LaidErr
import Derived.Lib.SmallJoins
import Derived.LaidLaws
import Derived.Lib.LaidIn
set_option linter.all false
namespace Go.Proofs.YtjgjacihdggimaaGreatDoor
open Go.RowKit
theorem rentGuard : Tryz.prog.eqGuardType Tryz.prog.depth 75 = false := by kernel_rfl
theorem rentStood : Tryz.prog.stoodInHeld 75 = false := by kernel_rfl
theorem rentStruct : Tryz.prog.underlying 75 = some (.struct (Tryz.prog.fieldsOf 75)) := by kernel_rfl
theorem guard_rent (op : BinOp) (X Y : Operand) (xs ys : Array Value) (W : World) : (eqGuard op 75 X Y (.agg xs) (.agg ys)).run Tryz.prog W = .ok () W := run_eqGuard_agg W op 75 X Y xs ys rentGuard
theorem neq_rent (x y : Int) (s t : List UInt8) (W : World) : (binOp .neq 75 (.agg #[.int .i64 x, .string ⟨s.toArray⟩]) (.agg #[.int .i64 y, .string ⟨t.toArray⟩])).run Tryz.prog W = .ok (.bool (!decide ((⟨x, s⟩ : En) = ⟨y, t⟩))) W := by
  rw [run_neq_struct, run_equalIn_agg W 9999 75 _ _ rentStruct rentStood]
  have e : ∀ s : List UInt8, (⟨s.toArray⟩ : ByteArray).toList = s := fun s => ByteArray.toList_eq _
  by_cases h1 : x = y <;> by_cases h2 : s = t <;> simp [go_sem, h1, h2, e, En.mk.injEq]
set_option maxHeartbeats 4000000 in
set_option maxRecDepth 10000 in
theorem rsameE_any (l m : List En) (A C : Option Addr) (ca cb : Nat) (w : World) {Q R : Nat → Prop} (hl : RowE w Q A l) (hm : RowE w R C m) (hll : l.length ≤ 1000000) :
    Calls Tryz.prog 20 #[.slice A l.length ca, .slice C m.length cb] w fun e w' => e = .returned (.bool (decide (l = m))) ∧ ∃ n, w' = w.drewN n := by
  have HL := Lib.hid hl
  have HM := Lib.hid hm
  clear hl hm
  by_cases hne : l.length = m.length
  · have d0 : ((l.length : Int) != (m.length : Int)) = false := by simp [hne]
    have HN := Lib.hid hne
    clear hne
    go_enter Tryz.func20, Tryz.ntmps20
    go_wp2_with fail
    go_loopw [5] (fun v wr => ∃ i : Nat, i ≤ l.length ∧ v = .int .i64 i ∧ Hid (l.take i = m.take i) ∧ ∃ n, wr = w.drewN n) (fun v _ => l.length - (RowKit.intOf v).toNat)
    case atStart => exact ⟨0, Nat.zero_le _, rfl, Lib.hid (by simp), 0, rfl⟩
    case round =>
      obtain ⟨i, hi, rfl, HU, nd, rfl⟩ := hrel
      by_cases hlt : i < l.length
      · obtain ⟨x, hx⟩ : ∃ x, l[i]? = some x := ⟨_, List.getElem?_eq_getElem hlt⟩
        have hlt2 : i < m.length := by have := HN.out; omega
        obtain ⟨y, hy⟩ : ∃ y, m[i]? = some y := ⟨_, List.getElem?_eq_getElem hlt2⟩
        obtain ⟨g, o, rfl, _, _, ha⟩ := HL.out.at hlt
        obtain ⟨g', o', rfl, _, _, hb⟩ := HM.out.at hlt2
        obtain ⟨a0, a1⟩ := ha.two hx
        obtain ⟨b0, b1⟩ := hb.two hy
        have hI : (i : Int) < (l.length : Int) := by omega
        have hJ : (i : Int) < (m.length : Int) := by omega
        have Hxy := Lib.hid hx
        have Hpq := Lib.hid hy
        obtain ⟨kx, tx⟩ := x
        obtain ⟨ky, ty⟩ := y
        clear hx hy ha hb
        have hG := fun X Y W => guard_rent .neq X Y #[.int .i64 kx, .string ⟨tx.toArray⟩] #[.int .i64 ky, .string ⟨ty.toArray⟩] W
        have hE := neq_rent kx ky tx ty
        cases he : (!decide ((⟨kx, tx⟩ : En) = ⟨ky, ty⟩)) with
        | true =>
          rw [he] at hE
          have HF := Lib.hid (show decide (l = m) = false from decide_eq_false (by
            intro e
            have h1 := Hxy.out
            rw [e, Hpq.out] at h1
            rw [Option.some.inj h1] at he
            simp at he))
          clear he
          go_wp2_with fail
          go_quiet (fail)
          go_wp2_with fail
          go_ret
          exact ⟨ret_bool HF.out.symm, nd + _, by first | exact (World.drewN_drewN _ _ _) | rfl⟩
        | false =>
          rw [he] at hE
          have HS : Hid (l.take (i + 1) = m.take (i + 1)) := Lib.hid (by
            have h2 : (⟨kx, tx⟩ : En) = ⟨ky, ty⟩ := by simpa using he
            rw [List.take_add_one, List.take_add_one, HU.out, Hxy.out, Hpq.out, h2])
          clear he
          go_wp2_with fail
          go_quiet (fail)
          go_wp2_with fail
          go_roundw
          case rel => exact ⟨i + 1, by omega, by go_num, HS, nd + nq, by first | exact (World.drewN_drewN _ _ _) | rfl⟩
          case measure => simp [RowKit.intOf]; omega
      · have HF := Lib.hid (show decide (l = m) = true from decide_eq_true (by
          have h1 := HU.out
          rwa [List.take_of_length_le (by omega), List.take_of_length_le (by have := HN.out; omega)] at h1))
        go_wp2_with fail
        go_ret
        exact ⟨ret_bool HF.out.symm, nd, rfl⟩
  · have d0 : ((l.length : Int) != (m.length : Int)) = true := by simpa using fun h => hne (by omega)
    have HF := Lib.hid (show decide (l = m) = false from decide_eq_false (by rintro rfl; exact hne rfl))
    clear hne
    go_enter Tryz.func20, Tryz.ntmps20
    go_wp2_with fail
    go_ret
    exact ⟨ret_bool HF.out.symm, 0, by simp [World.drewN_zero]⟩
end Go.Proofs.YtjgjacihdggimaaGreatDoor
namespace Go.Proofs.YtjgjacihdggimaaGreatDoor
open Go.RowKit Go.Maps
section
variable {w : World} {K : Nat → Prop} {a room cS bK low : Nat} {ps : List (Option Nat)} {t tm : Sh} {SA : Option Addr}
set_option maxHeartbeats 4000000 in
set_option maxRecDepth 10000 in
theorem pLen_any (h : AR w K a room ps t tm SA cS bK low) : Calls Tryz.prog 23 #[.pointer (some ⟨a, 0, none⟩)] w fun e w' => e = .returned (.int .i64 ((liveA tm).length : Int)) ∧ w' = w := by
  have c2 := h.c2
  have hm : (Builtin.len_ #[61] 3 #[.map (some bK)]).run Tryz.prog w = .ok (.int .i64 ((liveA tm).length : Int)) w := h.map.len 3
  generalize (liveA tm).length = N at *
  clear h
  go_enter Tryz.func23, Tryz.ntmps23
  go_wp2_with fail
  go_ret
  exact ⟨rfl, rfl⟩
end
end Go.Proofs.YtjgjacihdggimaaGreatDoor
namespace Go.Proofs.YtjgjacihdggimaaGreatDoor
open Go.RowKit Go.Maps
theorem o9Len {w : World} {B a room : Nat} {K : Nat → Prop} {s : Sh} (h : On9 w B a room s K) :
    Calls Tryz.prog 23 #[.pointer (some ⟨a, 0, none⟩)] w fun e w' => e = .returned (.int .i64 ((liveA s).length : Int)) ∧ w' = w := by
  obtain ⟨F, h⟩ := h
  obtain ⟨K, ps, t, A, cS, bK, low, hA, hL, hF, hE, hO, hC, hB, hT⟩ := h.ap
  refine (pLen_any hA).mono fun e w' ⟨he, hw⟩ => ?_
  rw [hE.liveAE] at he
  exact ⟨he, hw⟩
end Go.Proofs.YtjgjacihdggimaaGreatDoor
namespace Go.Proofs.YtjgjacihdggimaaGreatDoor
open Go.RowKit Go.Shelf
theorem aplR_bound {room : Nat} {s : Sh} (hi : Inv room s) (h : Int) (cs : List Ch) : 0 ≤ (pAplR room s h cs).2.1 ∧ (pAplR room s h cs).2.1 ≤ (room : Int) := by
  cases e : hasT s h with
  | none => rw [apl_none e]; exact ⟨Int.le_refl _, by show (0 : Int) ≤ (room : Int); omega⟩
  | some l =>
    by_cases hc : ∀ c ∈ cs, okC c = true
    · by_cases hd : DisC cs
      · cases hr : runC l cs with
        | none => rw [apl_clash e hc hd hr]; exact ⟨Int.le_refl _, by show (0 : Int) ≤ (room : Int); omega⟩
        | some m => rw [apl_bld e hc hd hr]; exact bldR_bound hi _
      · rw [apl_dup e hc hd]; exact ⟨Int.le_refl _, by show (0 : Int) ≤ (room : Int); omega⟩
    · obtain ⟨c, hx⟩ := Classical.not_forall.1 hc
      obtain ⟨h1, h2⟩ := Classical.not_imp.1 hx
      rw [apl_bad e h1 (by simpa using h2)]; exact ⟨Int.le_refl _, by show (0 : Int) ≤ (room : Int); omega⟩
theorem ofR_len {N : Nat} (r q : Option (List En)) : (ofR N r q).1.length ≤ N := by
  cases r with
  | none => exact Nat.zero_le _
  | some l => cases q with
    | none => exact Nat.zero_le _
    | some m => exact chN_len N
section
variable {w W W1 : World} {B a m room : Nat} {s s' t t' : Sh} {T : Nat → Prop}
theorem duo_bld (hd : Duo W B a m room s t T) (l : List En) (A : Option Addr) (ca : Nat) {Q : Nat → Prop} (hl : RowE W Q A l) (hll : l.length ≤ 1000000) (hlt : ∀ x ∈ l, x.text.length ≤ maxLen) :
    Calls Tryz.prog 8 #[.pointer (some ⟨a, 0, none⟩), .slice A l.length ca] W fun e w' => e = .returned (.tuple #[.int .i64 (pBldR room s l).2.1, .int .i64 ((pBldR room s l).2.2 : Int)]) ∧ Duo w' B a m room (pBldR room s l).1 t T ∧ Kept W w' T ∧ Below B W w' :=
  Duo.left (E := fun e => e = .returned (.tuple #[.int .i64 (pBldR room s l).2.1, .int .i64 ((pBldR room s l).2.2 : Int)])) hd fun K hon => (ptbuild_any hon l A ca hl hll hlt).mono fun e w' ⟨K', he, hl⟩ => ⟨K', he, hl⟩
theorem duo_rbld (hd : Duo W B a m room s t T) (l : List En) (hi : Inv room (pBldR room t l).1) (hf : FitT (pBldR room t l).1) (A : Option Addr) (ca : Nat) {Q : Nat → Prop} (hl : RowE W Q A l) (hll : l.length ≤ 100000) (hlt : ∀ x ∈ l, x.text.length ≤ maxLen) :
    Calls Tryz.prog 9 #[.pointer (some ⟨m, 0, none⟩), .slice A l.length ca] W fun e w' => e = .returned (.tuple #[.int .i64 (pBldR room t l).2.1, .int .i64 ((pBldR room t l).2.2 : Int)]) ∧ Duo w' B a m room s (pBldR room t l).1 T ∧ Kept W w' T ∧ Below B W w' :=
  Duo.right (E := fun e => e = .returned (.tuple #[.int .i64 (pBldR room t l).2.1, .int .i64 ((pBldR room t l).2.2 : Int)])) hd hi hf fun P gN cN gB cB nds bs hrm hst _ _ => (rbuildE_any hrm l A ca hl hll hlt).mono fun e w' hbp => by rw [hst] at hbp; exact hbp
theorem duo_apl (hd : Duo W B a m room s t T) (h : Int) (hh : -9223372036854775808 ≤ h ∧ h ≤ 9223372036854775807) (cs : List Ch) (C : Option Addr) (cc : Nat) {Q : Nat → Prop} (hcs : RowC W Q C cs) (hcl : cs.length ≤ 1000000) (hct : ∀ c ∈ cs, c.fr.length ≤ maxLen ∧ c.tt.length ≤ maxLen) :
    Calls Tryz.prog 17 #[.pointer (some ⟨a, 0, none⟩), .int .i64 h, .slice C cs.length cc] W fun e w' => e = .returned (.tuple #[.int .i64 (pAplR room s h cs).2.1, .int .i64 ((pAplR room s h cs).2.2 : Int)]) ∧ Duo w' B a m room (pAplR room s h cs).1 t T ∧ Kept W w' T ∧ Below B W w' :=
  Duo.left (E := fun e => e = .returned (.tuple #[.int .i64 (pAplR room s h cs).2.1, .int .i64 ((pAplR room s h cs).2.2 : Int)])) hd fun K hon => (pdapply_any hon h hh cs C cc hcs hcl hct).mono fun e w' ⟨K', he, hl⟩ => ⟨K', he, hl⟩
theorem duo_rapl (hd : Duo W B a m room s t T) (h : Int) (cs : List Ch) (hi : Inv room (pAplR room t h cs).1) (hf : FitT (pAplR room t h cs).1) (C : Option Addr) (cc : Nat) {Q : Nat → Prop} (hcs : RowC W Q C cs) (hcl : cs.length ≤ 1000) (hct : ∀ c ∈ cs, c.fr.length ≤ maxLen ∧ c.tt.length ≤ maxLen) :
    Calls Tryz.prog 18 #[.pointer (some ⟨m, 0, none⟩), .int .i64 h, .slice C cs.length cc] W fun e w' => e = .returned (.tuple #[.int .i64 (pAplR room t h cs).2.1, .int .i64 ((pAplR room t h cs).2.2 : Int)]) ∧ Duo w' B a m room s (pAplR room t h cs).1 T ∧ Kept W w' T ∧ Below B W w' := by
  obtain ⟨P0, gN0, cN0, gB0, cB0, nds0, bs0, hrm0, hst0, hi0, hf0⟩ := hd.rm
  rw [hst0] at hi0 hf0
  exact Duo.right (E := fun e => e = .returned (.tuple #[.int .i64 (pAplR room t h cs).2.1, .int .i64 ((pAplR room t h cs).2.2 : Int)])) hd hi hf fun P gN cN gB cB nds bs hrm hst _ _ => (rDapply_any hrm (by rw [hst]; exact hi0) (by rw [hst]; exact hf0) h cs C cc hcs hcl hct).mono fun e w' hbp => by rw [hst] at hbp; exact hbp
theorem duo_of (hd : Duo W B a m room s t T) (N : Nat) (hN : N = 1024) (x y : Int) (hx : -9223372036854775808 ≤ x ∧ x ≤ 9223372036854775807) (hy : -9223372036854775808 ≤ y ∧ y ≤ 9223372036854775807) :
    Calls Tryz.prog 11 #[.pointer (some ⟨a, 0, none⟩), .int .i64 x, .int .i64 y] W fun e w' => DofP W (ofR N (hasT s x) (hasT s y)) e w' := by
  obtain ⟨K, hon⟩ := hd.on
  exact pdOf_any N hN hon x y hx hy
theorem duo_rof (hd : Duo W B a m room s t T) (N : Nat) (hN : N = 1024) (x y : Int) :
    Calls Tryz.prog 12 #[.pointer (some ⟨m, 0, none⟩), .int .i64 x, .int .i64 y] W fun e w' => DofP W (ofR N (hasT t x) (hasT t y)) e w' := by
  obtain ⟨P, gN, cN, gB, cB, nds, bs, hrm, hst, hi, hf⟩ := hd.rm
  have h := rDof_any N hN hrm hi hf x y
  rwa [hst] at h
theorem duo_shared (hd : Duo W B a m room s t T) (x y : Int) (hx : -9223372036854775808 ≤ x ∧ x ≤ 9223372036854775807) (hy : -9223372036854775808 ≤ y ∧ y ≤ 9223372036854775807) :
    Calls Tryz.prog 15 #[.pointer (some ⟨a, 0, none⟩), .int .i64 x, .int .i64 y] W fun e w' => e = .returned (.int .i64 (shR s x y : Nat)) ∧ Below W.heap.size W w' := by
  obtain ⟨K, hon⟩ := hd.on
  exact pdshared_any hon x y hx hy
theorem duo_rshared (hd : Duo W B a m room s t T) (x y : Int) :
    Calls Tryz.prog 16 #[.pointer (some ⟨m, 0, none⟩), .int .i64 x, .int .i64 y] W fun e w' => e = .returned (.int .i64 (shR t x y : Nat)) ∧ Below W.heap.size W w' := by
  obtain ⟨P, gN, cN, gB, cB, nds, bs, hrm, hst, hi, hf⟩ := hd.rm
  have h := rDshared_any hrm hi hf x y
  rwa [hst] at h
theorem duo_all (hd : Duo W B a m room s t T) (h : Int) (hh : -9223372036854775808 ≤ h ∧ h ≤ 9223372036854775807) :
    Calls Tryz.prog 21 #[.pointer (some ⟨a, 0, none⟩), .int .i64 h] W fun e w' => ∃ O co, e = .returned (.slice O ((hasT s h).getD []).length co) ∧ ((hasT s h).getD []).length ≤ co ∧ RowE w' (fun g => W.heap.size ≤ g) O ((hasT s h).getD []) ∧ Below W.heap.size W w' := by
  obtain ⟨K, hon⟩ := hd.on
  exact pall_any hon h hh
theorem duo_rhas (hd : Duo W B a m room s t T) (h : Int) :
    Calls Tryz.prog 19 #[.pointer (some ⟨m, 0, none⟩), .int .i64 h] W fun e w' => BelP W (hasT t h) e w' := by
  obtain ⟨P, gN, cN, gB, cB, nds, bs, hrm, hst, hi, hf⟩ := hd.rm
  have hq := rhasE_any hrm hi hf h
  rwa [hst] at hq
theorem duo_len (hd : Duo W B a m room s t T) :
    Calls Tryz.prog 23 #[.pointer (some ⟨a, 0, none⟩)] W fun e w' => e = .returned (.int .i64 ((liveA s).length : Int)) ∧ w' = W := by
  obtain ⟨K, hon⟩ := hd.on
  exact o9Len hon
theorem duo_rlive (hd : Duo W B a m room s t T) :
    Calls Tryz.prog 24 #[.pointer (some ⟨m, 0, none⟩)] W fun e w' => ∃ A ca, e = .returned (.slice A (liveA t).length ca) ∧ Below W.heap.size W w' := by
  obtain ⟨P, gN, cN, gB, cB, nds, bs, hrm, hst, hi, hf⟩ := hd.rm
  have hq := rLive_any hrm
  rw [hst] at hq
  exact hq.mono fun e w' ⟨A, ca, he, _, hb⟩ => ⟨A, ca, he, hb⟩
structure DV (w W : World) (a m room : Nat) (s t : Sh) (T : Nat → Prop) (A1 A2 C : Option Addr) (g h : List En) (l : List Ch) : Prop where
  duo : Duo W w.heap.size a m room s t T
  bl : Below w.heap.size w W
  r1 : RowE W T A1 g
  r2 : RowE W T A2 h
  rc : RowC W T C l
theorem DV.below {A1 A2 C : Option Addr} {g h : List En} {l : List Ch} (v : DV w W a m room s t T A1 A2 C g h l) (hb : Below W.heap.size W W1) : DV w W1 a m room s t (fun g => T g ∨ (W.heap.size ≤ g ∧ g < W1.heap.size)) A1 A2 C g h l :=
  ⟨v.duo.below hb, v.bl.trans (hb.mono v.duo.base), (v.r1.below hb).mono fun _ hg _ => .inl hg, (v.r2.below hb).mono fun _ hg _ => .inl hg, (v.rc.below hb).mono fun _ hg _ => .inl hg⟩
theorem DV.op {A1 A2 C : Option Addr} {g h : List En} {l : List Ch} (v : DV w W a m room s t T A1 A2 C g h l) (hd : Duo W1 w.heap.size a m room s' t' T) (hk : Kept W W1 T) (hb : Below w.heap.size W W1) : DV w W1 a m room s' t' T A1 A2 C g h l :=
  ⟨hd, v.bl.trans hb, v.r1.kept hk, v.r2.kept hk, v.rc.kept hk⟩
theorem DV.begin {w1 W : World} {A1 A2 C : Option Addr} {g h : List En} {l : List Ch} {K Q R S : Nat → Prop} (ho : On9 w1 w.heap.size a room [] K) (hk : ∀ g, g < w.heap.size → K g) (hb1 : Below w.heap.size w w1) {gN gB : Nat} (hr : RM W (fun g => w1.heap.size ≤ g) m gN 1 gB 1 room [nd0] [false]) (hb : Below w1.heap.size w1 W) (h1 : RowE w Q A1 g) (h2 : RowE w R A2 h) (h3 : RowC w S C l) :
    DV w W a m room [] [] (fun g => g < w.heap.size) A1 A2 C g h l :=
  have hbw := hb1.trans (hb.mono hb1.size)
  ⟨Duo.begin ho hr hb hk, hbw, RowE.below (h1.mono fun _ _ hl => hl) hbw, RowE.below (h2.mono fun _ _ hl => hl) hbw, RowC.below (h3.mono fun _ _ hl => hl) hbw⟩
end
end Go.Proofs.YtjgjacihdggimaaGreatDoor
namespace Go.Proofs.YtjgjacihdggimaaGreatDoor
open Go.RowKit Go.Shelf
theorem neq_pdch (x : Int) (s t : ByteArray) (W : World) : (binOp .neq 57 (.agg #[.int .i64 x, .string s, .string t]) (.agg #[.int .i64 x, .string s, .string t])).run Tryz.prog W = .ok (.bool false) W := by
  rw [run_neq_struct, run_equalIn_agg W 9999 57 _ _ pdchStruct pdchStood]
  simp [go_sem]
set_option maxHeartbeats 60000000 in
set_option maxRecDepth 10000 in
theorem deltatells_any (w : World) (hE : TB w.heap.size w) (g h : List En) (l : List Ch) (A1 A2 C : Option Addr) (ca cb cc : Nat) {Q R S : Nat → Prop} (hg : RowE w Q A1 g) (hh : RowE w R A2 h) (hl : RowC w S C l) (hgx : ∀ x ∈ g, x.text.length ≤ maxLen) (hhx : ∀ x ∈ h, x.text.length ≤ maxLen) (hlx : ∀ c ∈ l, c.fr.length ≤ maxLen ∧ c.tt.length ≤ maxLen) (hgn : g.length ≤ maxLen) (hhn : h.length ≤ maxLen) (hln : l.length ≤ maxLen) :
    Calls Tryz.prog 3 #[.slice A1 g.length ca, .slice A2 h.length cb, .slice C l.length cc] w fun e w' => e = .returned (.bool true) ∧ Below w.heap.size w w' := by
  have HEv := Lib.hid (fun w' (hb : Below w.heap.size w w') => ldalive_any w' (tb_up hE hb))
  have HNw := Lib.hid (o9New w hE 300 (by decide))
  have HF1 := Lib.hid (ldfits_any g A1 ca w hg hgn hgx)
  have HF2 := Lib.hid (ldfits_any h A2 cb w hh hhn hhx)
  have HR1 := Lib.hid hg
  have HR2 := Lib.hid hh
  have HR3 := Lib.hid hl
  have HX1 := Lib.hid hgx
  have HX2 := Lib.hid hhx
  have HX3 := Lib.hid hlx
  unfold maxLen at hln
  clear hE hg hh hl hgx hhx hlx hgn hhn
  unfold FitsE at HF1 HF2
  go_enter Tryz.func3, Tryz.ntmps3
  go_wp2_with fail
  refine HF1.out.mono ?_; rintro e w1 ⟨b1, rfl, hf1, hw1⟩
  have hw1' := hw1.symm
  subst hw1'
  have HG1 := Lib.hid hf1
  clear hf1 hw1 HF1
  go_wp2_with fail
  refine HF2.out.mono ?_; rintro e w1 ⟨b2, rfl, hf2, hw2⟩
  have hw2' := hw2.symm
  subst hw2'
  have HG2 := Lib.hid hf2
  clear hf2 hw2 HF2
  cases b1 with
  | false =>
    go_wp2_with fail
    refine (HEv.out _ (Below.refl _ _)).mono ?_; rintro e w1 ⟨rfl, hb1⟩
    go_wp2_with fail
    go_ret
    exact ⟨rfl, hb1⟩
  | true =>
  cases b2 with
  | false =>
    go_wp2_with fail
    refine (HEv.out _ (Below.refl _ _)).mono ?_; rintro e w1 ⟨rfl, hb1⟩
    go_wp2_with fail
    go_ret
    exact ⟨rfl, hb1⟩
  | true =>
  by_cases h60 : (60 : Int) < (l.length : Int)
  · have d1 : decide ((60 : Int) < (l.length : Int)) = true := decide_eq_true h60
    clear h60
    go_wp2_with fail
    refine (HEv.out _ (Below.refl _ _)).mono ?_; rintro e w1 ⟨rfl, hb1⟩
    go_wp2_with fail
    go_ret
    exact ⟨rfl, hb1⟩
  have d1 : decide ((60 : Int) < (l.length : Int)) = false := decide_eq_false h60
  have hg60 : g.length ≤ 60 := (HG1.out rfl).1
  have hh60 : h.length ≤ 60 := (HG2.out rfl).1
  have hl60 : l.length ≤ 60 := by omega
  clear HG1 HG2 h60 hln
  go_wp2_with fail
  refine HNw.out.mono ?_; rintro e w1 ⟨a, K1, rfl, hO1, hK1, hb1⟩
  have HO1 := Lib.hid hO1
  have HK1 := Lib.hid hK1
  have HB1 := Lib.hid hb1
  have HBe : Hid (Calls Tryz.prog 7 #[.int .i64 300] w1 fun e w' => ∃ m gN gB, e = .returned (.pointer (some ⟨m, 0, none⟩)) ∧ RM w' (fun g => w1.heap.size ≤ g) m gN 1 gB 1 300 [nd0] [false] ∧ Below w1.heap.size w1 w') := Lib.hid (rBegin_any w1 300 (by decide))
  clear hO1 hK1 hb1 HNw
  go_wp2_with fail
  refine HBe.out.mono ?_; rintro e w2 ⟨m, gN, gB, rfl, hR2, hb2⟩
  have hV2 : DV w w2 a m 300 [] [] (fun g => g < w.heap.size) A1 A2 C g h l := DV.begin HO1.out HK1.out HB1.out hR2 hb2 HR1.out HR2.out HR3.out
  have HBu := Lib.hid (duo_bld hV2.duo g A1 ca hV2.r1 (by omega) HX1.out)
  have hx := bldR_bound hV2.duo.inv g
  have HV2 := Lib.hid hV2
  have HP1 : Hid (∀ (W : World) (T0 : Nat → Prop) (s : Sh), Duo W w.heap.size a m 300 s [] T0 → Inv 300 (pBldR 300 [] g).1 → FitT (pBldR 300 [] g).1 → ∀ (A : Option Addr) (c : Nat) (Q : Nat → Prop), RowE W Q A g → Calls Tryz.prog 9 #[.pointer (some ⟨m, 0, none⟩), .slice A g.length c] W fun e w' => e = .returned (.tuple #[.int .i64 (pBldR 300 [] g).2.1, .int .i64 ((pBldR 300 [] g).2.2 : Int)]) ∧ Duo w' w.heap.size a m 300 s (pBldR 300 [] g).1 T0 ∧ Kept W w' T0 ∧ Below w.heap.size W w') :=
    Lib.hid fun W T0 s hd hi hf A c Q hr => duo_rbld hd g hi hf A c hr (by omega) HX1.out
  clear hR2 hb2 hV2 HBe HO1 HK1 HB1 HR1 HR2 HR3
  generalize pBldR 300 [] g = r at *
  obtain ⟨s1, x, e1⟩ := r
  obtain ⟨hx0, hx1⟩ := hx
  have hx0 : 0 ≤ x := hx0
  have hx1 : x ≤ 300 := hx1
  try dsimp only at HP1
  go_wp2_with fail
  refine HBu.out.mono ?_; rintro e w3 ⟨rfl, hd3, hk3, hb3⟩
  have hV3 := HV2.out.op hd3 hk3 hb3
  have HI1 := Lib.hid hV3.duo.inv
  have HF1 := Lib.hid hV3.duo.fits
  have HBv := Lib.hid (duo_bld hV3.duo h A2 cb hV3.r2 (by omega) HX2.out)
  have hy := bldR_bound hV3.duo.inv h
  have HV3 := Lib.hid hV3
  have HP2 : Hid (∀ (W : World) (T0 : Nat → Prop) (s : Sh), Duo W w.heap.size a m 300 s s1 T0 → Inv 300 (pBldR 300 s1 h).1 → FitT (pBldR 300 s1 h).1 → ∀ (A : Option Addr) (c : Nat) (Q : Nat → Prop), RowE W Q A h → Calls Tryz.prog 9 #[.pointer (some ⟨m, 0, none⟩), .slice A h.length c] W fun e w' => e = .returned (.tuple #[.int .i64 (pBldR 300 s1 h).2.1, .int .i64 ((pBldR 300 s1 h).2.2 : Int)]) ∧ Duo w' w.heap.size a m 300 s (pBldR 300 s1 h).1 T0 ∧ Kept W w' T0 ∧ Below w.heap.size W w') :=
    Lib.hid fun W T0 s hd hi hf A c Q hr => duo_rbld hd h hi hf A c hr (by omega) HX2.out
  clear hd3 hk3 hb3 hV3 HBu HV2
  try dsimp only at HBv
  try dsimp only at hy
  generalize pBldR 300 s1 h = r at *
  obtain ⟨s2, y, e2⟩ := r
  obtain ⟨hy0, hy1⟩ := hy
  have hy0 : 0 ≤ y := hy0
  have hy1 : y ≤ 300 := hy1
  try dsimp only at HP2
  go_wp2_with fail
  refine HBv.out.mono ?_; rintro e w4 ⟨rfl, hd4, hk4, hb4⟩
  have hV4 := HV3.out.op hd4 hk4 hb4
  have HI2 := Lib.hid hV4.duo.inv
  have HF2 := Lib.hid hV4.duo.fits
  have HOg := Lib.hid (ldofE_any g A1 ca w4 hV4.r1 (by omega))
  have HV4 := Lib.hid hV4
  clear hd4 hk4 hb4 hV4 HBv HV3
  go_wp2_with fail
  refine HOg.out.mono ?_; rintro e w5 ⟨O5, c5, rfl, hc5, hr5, hb5⟩
  have hV5 := HV4.out.below hb5
  have HRb := Lib.hid (HP1.out w5 _ _ hV5.duo HI1.out HF1.out O5 c5 _ hr5)
  have HV5 := Lib.hid hV5
  clear hc5 hr5 hb5 hV5 HOg HV4 HP1
  go_wp2_with fail
  refine HRb.out.mono ?_; rintro e w6 ⟨rfl, hd6, hk6, hb6⟩
  have hV6 := HV5.out.op hd6 hk6 hb6
  have HOh := Lib.hid (ldofE_any h A2 cb w6 hV6.r2 (by omega))
  have HV6 := Lib.hid hV6
  clear hd6 hk6 hb6 hV6 HRb HV5
  go_wp2_with fail
  refine HOh.out.mono ?_; rintro e w7 ⟨O7, c7, rfl, hc7, hr7, hb7⟩
  have hV7 := HV6.out.below hb7
  have HRb := Lib.hid (HP2.out w7 _ _ hV7.duo HI2.out HF2.out O7 c7 _ hr7)
  have HV7 := Lib.hid hV7
  clear hc7 hr7 hb7 hV7 HOh HV6 HP2
  go_wp2_with fail
  refine HRb.out.mono ?_; rintro e w8 ⟨rfl, hd8, hk8, hb8⟩
  have hV8 := HV7.out.op hd8 hk8 hb8
  clear HRb HV7 hd8 hk8 hb8
  obtain ⟨N, hN⟩ : ∃ N : Nat, N = 1024 := ⟨1024, rfl⟩
  have HN := Lib.hid hN
  have HOf := Lib.hid (duo_of hV8.duo N hN x y (by omega) (by omega))
  have HDf : Hid (∀ (W : World) (T0 : Nat → Prop), Duo W w.heap.size a m 300 s2 s2 T0 → Calls Tryz.prog 12 #[.pointer (some ⟨m, 0, none⟩), .int .i64 x, .int .i64 y] W fun e w' => DofP W (ofR N (hasT s2 x) (hasT s2 y)) e w') := Lib.hid fun W T0 hd => duo_rof hd N HN.out x y
  have hcl : (ofR N (hasT s2 x) (hasT s2 y)).1.length ≤ 1024 := by have := ofR_len (N := N) (hasT s2 x) (hasT s2 y); omega
  have HV8 := Lib.hid hV8
  clear hV8 hN
  generalize ofR N (hasT s2 x) (hasT s2 y) = cr at *
  obtain ⟨cL, cE⟩ := cr
  unfold DofP at HOf HDf
  try dsimp only at HOf
  try dsimp only at HDf
  try dsimp only at hcl
  go_wp2_with fail
  refine HOf.out.mono ?_; rintro e w9 ⟨O9, c9, rfl, hc9, hr9, hb9⟩
  have hV9 := HV8.out.below hb9
  have HRo := Lib.hid (HDf.out w9 _ hV9.duo)
  have HC9 := Lib.hid hr9
  have HV9 := Lib.hid hV9
  clear hc9 hr9 hb9 hV9 HOf HDf HV8
  go_wp2_with fail
  refine HRo.out.mono ?_; rintro e w10 ⟨O10, c10, rfl, hc10, hr10, hb10⟩
  have hV10 := HV9.out.below hb10
  have HLo := Lib.hid (ldof_any cL O9 c9 w10 (HC9.out.below hb10) (by omega))
  have HD10 := Lib.hid hr10
  have HV10 := Lib.hid hV10
  clear hc10 hr10 hb10 hV10 HRo HV9 HC9
  go_wp2_with fail
  refine HLo.out.mono ?_; rintro e w11 ⟨O11, c11, rfl, hc11, hr11, hb11⟩
  have hV11 := HV10.out.below hb11
  have hSa := rsameC_any cL cL O11 O10 c11 c10 w11 hr11 (HD10.out.below hb11) (by omega)
  rw [decide_eq_true (rfl : cL = cL)] at hSa
  have HSa := Lib.hid hSa
  have HV11 := Lib.hid hV11
  clear hc11 hr11 hb11 hV11 hSa HLo HV10 HD10
  go_wp2_with fail
  refine HSa.out.mono ?_; rintro e w12 ⟨rfl, nd, rfl⟩
  have hV12 := HV11.out.below (below_drewN (Below.refl _ _) nd)
  have HSh := Lib.hid (duo_shared hV12.duo x y (by omega) (by omega))
  have HDs : Hid (∀ (W : World) (T0 : Nat → Prop), Duo W w.heap.size a m 300 s2 s2 T0 → Calls Tryz.prog 16 #[.pointer (some ⟨m, 0, none⟩), .int .i64 x, .int .i64 y] W fun e w' => e = .returned (.int .i64 (shR s2 x y : Nat)) ∧ Below W.heap.size W w') := Lib.hid fun W T0 hd => duo_rshared hd x y
  have HV12 := Lib.hid hV12
  clear hV12 HSa HV11
  generalize shR s2 x y = SR at *
  generalize w11.drewN nd = w12 at *
  go_wp2_with fail
  refine HSh.out.mono ?_; rintro e w13 ⟨rfl, hb13⟩
  have hV13 := HV12.out.below hb13
  have HDt := Lib.hid (HDs.out w13 _ hV13.duo)
  have HV13 := Lib.hid hV13
  clear hb13 hV13 HSh HDs HV12
  go_wp2_with fail
  refine HDt.out.mono ?_; rintro e w14 ⟨rfl, hb14⟩
  have hV14 := HV13.out.below hb14
  have HAp := Lib.hid (duo_apl hV14.duo x (by omega) l C cc hV14.rc (by omega) HX3.out)
  have hz := aplR_bound hV14.duo.inv x l
  have HDa : Hid (∀ (W : World) (T0 : Nat → Prop) (s : Sh), Duo W w.heap.size a m 300 s s2 T0 → Inv 300 (pAplR 300 s2 x l).1 → FitT (pAplR 300 s2 x l).1 → ∀ (O : Option Addr) (c : Nat) (Q : Nat → Prop), RowC W Q O l → Calls Tryz.prog 18 #[.pointer (some ⟨m, 0, none⟩), .int .i64 x, .slice O l.length c] W fun e w' => e = .returned (.tuple #[.int .i64 (pAplR 300 s2 x l).2.1, .int .i64 ((pAplR 300 s2 x l).2.2 : Int)]) ∧ Duo w' w.heap.size a m 300 s (pAplR 300 s2 x l).1 T0 ∧ Kept W w' T0 ∧ Below w.heap.size W w') :=
    Lib.hid fun W T0 s hd hi hf O c Q hr => duo_rapl hd x l hi hf O c hr (by omega) HX3.out
  have HV14 := Lib.hid hV14
  clear hb14 hV14 HDt HV13
  generalize pAplR 300 s2 x l = r at *
  obtain ⟨s3, z, e3⟩ := r
  obtain ⟨hz0, hz1⟩ := hz
  have hz0 : 0 ≤ z := hz0
  have hz1 : z ≤ 300 := hz1
  try dsimp only at HDa
  go_wp2_with fail
  refine HAp.out.mono ?_; rintro e w15 ⟨rfl, hd15, hk15, hb15⟩
  have hV15 := HV14.out.op hd15 hk15 hb15
  have HI3 := Lib.hid hV15.duo.inv
  have HF3 := Lib.hid hV15.duo.fits
  have HLo := Lib.hid (ldof_any l C cc w15 hV15.rc (by omega))
  have HV15 := Lib.hid hV15
  clear hd15 hk15 hb15 hV15 HAp HV14
  go_wp2_with fail
  refine HLo.out.mono ?_; rintro e w16 ⟨O16, c16, rfl, hc16, hr16, hb16⟩
  have hV16 := HV15.out.below hb16
  have HRa := Lib.hid (HDa.out w16 _ _ hV16.duo HI3.out HF3.out O16 c16 _ hr16)
  have HV16 := Lib.hid hV16
  clear hc16 hr16 hb16 hV16 HLo HV15 HDa
  go_wp2_with fail
  refine HRa.out.mono ?_; rintro e w17 ⟨rfl, hd17, hk17, hb17⟩
  have hV17 := HV16.out.op hd17 hk17 hb17
  have HHa := Lib.hid (duo_rhas hV17.duo z)
  have HAl : Hid (∀ (W : World) (T0 : Nat → Prop), Duo W w.heap.size a m 300 s3 s3 T0 → Calls Tryz.prog 21 #[.pointer (some ⟨a, 0, none⟩), .int .i64 z] W fun e w' => ∃ O co, e = .returned (.slice O ((hasT s3 z).getD []).length co) ∧ ((hasT s3 z).getD []).length ≤ co ∧ RowE w' (fun g => W.heap.size ≤ g) O ((hasT s3 z).getD []) ∧ Below W.heap.size W w') := Lib.hid fun W T0 hd => duo_all hd z (by omega)
  have hLl := has_len s3 z
  have HV17 := Lib.hid hV17
  unfold BelP at HHa
  clear hd17 hk17 hb17 hV17 HRa HV16
  generalize (hasT s3 z).getD [] = L at *
  generalize (hasT s3 z).isSome = bs at *
  go_wp2_with fail
  refine HHa.out.mono ?_; rintro e w18 ⟨O18, c18, rfl, hc18, hr18, hb18⟩
  have hV18 := HV17.out.below hb18
  have HAc := Lib.hid (HAl.out w18 _ hV18.duo)
  have HR18 := Lib.hid hr18
  have HV18 := Lib.hid hV18
  clear hc18 hr18 hb18 hV18 HHa HAl HV17
  go_wp2_with fail
  refine HAc.out.mono ?_; rintro e w19 ⟨O19, c19, rfl, hc19, hr19, hb19⟩
  have hV19 := HV18.out.below hb19
  have HLe := Lib.hid (ldofE_any L O19 c19 w19 hr19 (by omega))
  have HR19 := Lib.hid (HR18.out.below hb19)
  have HV19 := Lib.hid hV19
  clear hc19 hr19 hb19 hV19 HAc HV18 HR18
  go_wp2_with fail
  refine HLe.out.mono ?_; rintro e w20 ⟨O20, c20, rfl, hc20, hr20, hb20⟩
  have hV20 := HV19.out.below hb20
  have hSa := rsameE_any L L O20 O18 c20 c18 w20 hr20 (HR19.out.below hb20) (by omega)
  rw [decide_eq_true (rfl : L = L)] at hSa
  have HSa := Lib.hid hSa
  have HV20 := Lib.hid hV20
  clear hc20 hr20 hb20 hV20 hSa HLe HV19 HR19
  go_wp2_with fail
  refine HSa.out.mono ?_; rintro e w21 ⟨rfl, ne, rfl⟩
  have hV21 := HV20.out.below (below_drewN (Below.refl _ _) ne)
  have HTu := Lib.hid (pdturn_any l C cc _ hV21.rc (by omega))
  have HV21 := Lib.hid hV21
  clear hV21 HSa HV20
  generalize w20.drewN ne = w21 at *
  go_wp2_with fail
  refine HTu.out.mono ?_; rintro e w22 ⟨O22, c22, rfl, hc22, hr22, hb22⟩
  have hV22 := HV21.out.below hb22
  have HLn := Lib.hid (duo_len hV22.duo)
  have HLv := Lib.hid (duo_rlive hV22.duo)
  have HV22 := Lib.hid hV22
  have HT22 := Lib.hid hr22
  clear hc22 hr22 hb22 hV22 HTu HV21
  generalize (liveA s3).length = NL at *
  go_wp2_with fail
  refine HLn.out.mono ?_; rintro e w23 ⟨rfl, hw23⟩
  have hw23' := hw23.symm
  subst hw23'
  clear hw23 HLn
  go_wp2_with fail
  refine HLv.out.mono ?_; rintro e w23 ⟨O23, c23, rfl, hb23⟩
  have hV23 := HV22.out.below hb23
  have HT23 := Lib.hid (HT22.out.below hb23)
  have HV23 := Lib.hid hV23
  clear hb23 hV23 HLv HV22 HT22
  have HNo : Hid (hasT s3 301 = none) := Lib.hid (hasT_none fun q hq => by have := isT_bound HV23.out.duo.inv hq; omega)
  go_wp2_with fail
  go_loopw [33] (fun vi wr => ∃ i : Nat, i ≤ l.length ∧ vi = .int .i64 (i : Int) ∧ Hid (Below w23.heap.size w23 wr)) (fun vi _ => l.length - (RowKit.intOf vi).toNat)
  case atStart => exact ⟨0, Nat.zero_le _, rfl, Lib.hid (Below.refl _ _)⟩
  case round =>
    obtain ⟨i, hi, rfl, HB⟩ := hrel
    by_cases hlt : i < l.length
    · obtain ⟨c, hc⟩ : ∃ c, l[i]? = some c := ⟨_, List.getElem?_eq_getElem hlt⟩
      have hcm : (l.map turnC)[i]? = some (turnC c) := by rw [List.getElem?_map, hc]; rfl
      obtain ⟨g1, o1, hA1, _, hg1, hat1⟩ := HV23.out.rc.at hlt
      obtain ⟨g2, o2, hA2, _, hg2, hat2⟩ := HT23.out.at (i := i) (by rw [List.length_map]; exact hlt)
      obtain ⟨p0, p1, p2⟩ := hat1.three hc
      obtain ⟨q0, q1, q2⟩ := hat2.three hcm
      have k0 := keep_cell HB.out p0
      have k1 := keep_cell HB.out p1
      have k2 := keep_cell HB.out p2
      have n0 := keep_cell HB.out q0
      have n1 := keep_cell HB.out q1
      have n2 := keep_cell HB.out q2
      subst hA1 hA2
      have hI : (i : Int) < (l.length : Int) := by omega
      have hJ : (0 : Int) ≤ (i : Int) := by omega
      obtain ⟨kc, fc, tc⟩ := c
      have l0 : wr.cell? ⟨g2, o2 + i * 3, none⟩ = some (.int .i64 kc) := n0
      have l1 : wr.cell? ⟨g2, o2 + i * 3 + 1, none⟩ = some (.string ⟨tc.toArray⟩) := n1
      have l2 : wr.cell? ⟨g2, o2 + i * 3 + 2, none⟩ = some (.string ⟨fc.toArray⟩) := n2
      have hG := fun X Y W => guard_pdch .neq X Y #[.int .i64 kc, .string ⟨tc.toArray⟩, .string ⟨fc.toArray⟩] #[.int .i64 kc, .string ⟨tc.toArray⟩, .string ⟨fc.toArray⟩] W
      have hE := neq_pdch kc ⟨tc.toArray⟩ ⟨fc.toArray⟩
      clear hat1 hat2 hc hcm p0 p1 p2 q0 q1 q2 n0 n1 n2
      go_wp2_with fail
      go_quiet (fail)
      go_wp2_with fail
      go_roundw
      case rel => exact ⟨i + 1, by omega, by go_num, Lib.hid (by first | exact below_drewN HB.out _ | exact HB.out)⟩
      case measure => simp [RowKit.intOf]; omega
    · have hii : i = l.length := by omega
      subst hii
      have hV := HV23.out.below HB.out
      have HOl := Lib.hid (duo_of hV.duo N HN.out 301 0 (by decide) (by decide))
      rw [HNo.out, ofR_none (.inl rfl)] at HOl
      unfold DofP at HOl
      have HV := Lib.hid hV
      clear hV HB HV23 HT23 HNo
      go_wp2_with fail
      refine HOl.out.mono ?_; rintro e w24 ⟨O24, c24, rfl, _, _, hb24⟩
      have hV24 := HV.out.below hb24
      have HAn := Lib.hid (pdapply_nil w24)
      have HV24 := Lib.hid hV24
      clear hb24 hV24 HOl HV
      go_wp2_with fail
      refine HAn.out.mono ?_; rintro e w25 ⟨rfl, hb25⟩
      have hV25 := HV24.out.below hb25
      have HEc := Lib.hid (HEv.out w25 hV25.bl)
      have HB25 := Lib.hid hV25.bl
      clear hb25 hV25 HAn HV24
      go_wp2_with fail
      refine HEc.out.mono ?_; rintro e w26 ⟨rfl, hb26⟩
      have HSn := Lib.hid (pdshared_nil w26)
      have HB26 := Lib.hid (HB25.out.trans (hb26.mono HB25.out.size))
      clear hb26 HEc HB25
      go_wp2_with fail
      refine HSn.out.mono ?_; rintro e w27 ⟨rfl, hb27⟩
      have HB27 := Lib.hid (HB26.out.trans (hb27.mono HB26.out.size))
      clear hb27 HSn HB26
      go_wp2_with fail
      go_ret
      exact ⟨rfl, HB27.out⟩
end Go.Proofs.YtjgjacihdggimaaGreatDoor
namespace Go.Proofs.YtjgjacihdggimaaGreatDoor
open Go.ChangeShapes Go.WideShapes Go.ChangeAt Go.RowKit
theorem own : ownKnob Tryz.prog.godebug = none := by kernel_rfl
theorem yTab9 : (Tryz.prog.globals[0]?).map (·.type) = some 183 := by kernel_rfl
theorem cellsTab9 : Tryz.prog.cellsOf 183 = 20 := by kernel_rfl
theorem cellsU64 : Tryz.prog.cellsOf 164 = 1 := by kernel_rfl

theorem tab_of {w : World} (h : laidMet Tryz.prog Rows.deltaTellsRow.laid w) : TabE w :=
  Lib.tabIs_of_head (rest := _) gTab9 yTab9 Tryz.underlying183 Tryz.underlying164 cellsU64 cellsTab9 h.tail.tail

def valsOf : DataW Unit → List Value
  | .agg ds => ds.map fun
    | .lit (.int k n) => .int k n
    | _ => .nilIface
  | _ => []
noncomputable def laidWorld (os : Os) : World :=
  let w0 := World.holding Tryz.prog os ⟨#[], #[], []⟩
  let put (h : Array Obj) (g : Nat) (cs : Array Value) : Array Obj := h.modify g fun
    | .cells _ t frozen => .cells cs t frozen
    | o => o
  let h2 := put w0.heap 0 (valsOf Rows.laid_internal_strconv_uint64pow10).toArray
  let h3 := put h2 1 (valsOf Rows.laid_math_bits_deBruijn32tab).toArray
  let h4 := put h3 2 (valsOf Rows.laid_math_bits_deBruijn64tab).toArray
  { w0 with heap := h4 }
theorem laid_met (os : Os) (args : Array Value) : laidMet Tryz.prog Rows.deltaTellsRow.laid ((laidWorld os).forCall (fun _ _ => 0) ⟨#[], args, []⟩).memory :=
  laidMet_of_run' 8 (by kernel_rfl) (by kernel_rfl)
theorem cellsIntK : Tryz.prog.cellsOf 3 = 1 := by kernel_rfl
theorem cellsStrK : Tryz.prog.cellsOf 9 = 1 := by kernel_rfl
theorem cellsChK : Tryz.prog.cellsOf 57 = 3 := by kernel_rfl
theorem cellsEntK : Tryz.prog.cellsOf 60 = 2 := by kernel_rfl
section
variable {H : Type} {enc : TypeId × Value → H} {w : World} {base : Nat} {spare : Nat → Bool} {held : Bool}
set_option maxRecDepth 100000 in
theorem open_ents {r : Reach} {b0 : Nat} {v : Value} {d : DataW H} {p : List MemPlace} (hv : Value.okWide Tryz.prog w r b0 22 v) (h : DataW.Trod enc Tryz.prog w base spare held 22 v d p) :
    ∃ (l : List En) (A : Option Addr) (cap : Nat), v = .slice A l.length cap ∧ l.length ≤ maxLen ∧ (∀ q ∈ l, q.text.length ≤ maxLen) ∧ RowE w (fun _ => True) A l := by
  obtain ⟨l, A, cap, e, hl, ho, ha⟩ := open_rows enW (fun q => q.text.length ≤ maxLen) (fun _ => rfl) Tryz.underlying22 cellsEntK (by decide) (fun {fuel cs x} hl ht => by
    match cs, hl with
    | [c0, c1], _ =>
      obtain ⟨y0, y1, n, rfl, _, hy0, hy1⟩ := trod_struct2 Tryz.underlying60 ht
      simp only [cellsIntK, cellsStrK] at hy0 hy1
      obtain ⟨a, e1, _, _⟩ := DataW.trod_int Tryz.underlying3 hy0
      obtain ⟨z, e2, _, hzl⟩ := DataW.trod_string Tryz.underlying9 hy1
      simp at e1 e2
      subst e1 e2
      exact ⟨⟨a, z.data.toList⟩, by simp [enW], by first | exact hzl | simpa using hzl⟩) hv h
  refine ⟨l, A, cap, e, hl, ho, ?_⟩
  by_cases hn : l = []
  · exact .inl hn
  · obtain ⟨g, o, e2, hat⟩ := ha hn
    obtain ⟨x, hx⟩ : ∃ x, l[0]? = some x := by
      cases l with
      | nil => exact absurd rfl hn
      | cons x r => exact ⟨x, rfl⟩
    have q0 := hat 0 x hx 0 _ rfl
    have hlt : g < w.heap.size := Lib.lt_of_cell q0
    exact .inr ⟨g, o, e2, trivial, hlt, hat⟩
set_option maxRecDepth 100000 in
theorem open_changes {r : Reach} {b0 : Nat} {v : Value} {d : DataW H} {p : List MemPlace} (hv : Value.okWide Tryz.prog w r b0 23 v) (h : DataW.Trod enc Tryz.prog w base spare held 23 v d p) :
    ∃ (l : List Ch) (A : Option Addr) (cap : Nat), v = .slice A l.length cap ∧ l.length ≤ maxLen ∧ (∀ q ∈ l, q.fr.length ≤ maxLen ∧ q.tt.length ≤ maxLen) ∧ RowC w (fun _ => True) A l := by
  obtain ⟨l, A, cap, e, hl, ho, ha⟩ := open_rows chW (fun q => q.fr.length ≤ maxLen ∧ q.tt.length ≤ maxLen) (fun _ => rfl) Tryz.underlying23 cellsChK (by decide) (fun {fuel cs x} hl ht => by
    match cs, hl with
    | [c0, c1, c2], _ =>
      obtain ⟨y0, y1, y2, n, rfl, _, hy0, hy1, hy2⟩ := Go.Deep.trod_struct3 Tryz.underlying57 ht
      simp only [cellsIntK, cellsStrK] at hy0 hy1 hy2
      obtain ⟨a, e1, _, _⟩ := DataW.trod_int Tryz.underlying3 hy0
      obtain ⟨z, e2, _, hzl⟩ := DataW.trod_string Tryz.underlying9 hy1
      obtain ⟨u, e3, _, hul⟩ := DataW.trod_string Tryz.underlying9 hy2
      simp at e1 e2 e3
      subst e1 e2 e3
      exact ⟨⟨a, z.data.toList, u.data.toList⟩, by simp [chW], by first | exact ⟨hzl, hul⟩ | simpa using ⟨hzl, hul⟩⟩) hv h
  refine ⟨l, A, cap, e, hl, ho, ?_⟩
  by_cases hn : l = []
  · exact .inl hn
  · obtain ⟨g, o, e2, hat⟩ := ha hn
    obtain ⟨x, hx⟩ : ∃ x, l[0]? = some x := by
      cases l with
      | nil => exact absurd rfl hn
      | cons x r => exact ⟨x, rfl⟩
    have q0 := hat 0 x hx 0 _ rfl
    have hlt : g < w.heap.size := Lib.lt_of_cell q0
    exact .inr ⟨g, o, e2, trivial, hlt, hat⟩
end
end Go.Proofs.YtjgjacihdggimaaGreatDoor
