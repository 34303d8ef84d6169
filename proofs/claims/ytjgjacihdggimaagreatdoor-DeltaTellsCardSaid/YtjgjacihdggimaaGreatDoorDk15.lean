/- Texts joined: NdP, TsM, NfC. -/
import Derived.Test.YtjgjacihdggimaaGreatDoorDk14
import Derived.Test.YtjgjacihdggimaaGreatDoorDk04
import Derived.Lib.SlKeysI
import Derived.Maps.Range
set_option linter.all false
namespace Go.Proofs.YtjgjacihdggimaaGreatDoor
open Go.RowKit
section
variable {w w' : World} {P Q : Nat → Prop} {m gN cN gB cB room : Nat} {nds : List Nd} {bs : List Bool}
set_option maxHeartbeats 16000000 in
set_option maxRecDepth 10000 in
theorem rPut_any (h : RM w P m gN cN gB cB room nds bs) (l : List Nd) (A : Option Addr) (ca : Nat) (hl : RowN w Q A l) (hQP : ∀ g, Q g → ¬ P g) (hll : l.length ≤ 1000000) (hlr : ∀ n ∈ l, n.refs.length ≤ 1000000 ∧ n.nums.length ≤ 1000000) :
    Calls Tryz.prog 30 #[.pointer (some ⟨m, 0, none⟩), .slice A l.length ca] w fun e w' => PutP w P m room nds bs l e w' := by
  obtain ⟨i0, hi0, hz0, hz1, hz2⟩ := info_parts int_info
  obtain ⟨i1, hi1, hy0, hy1, hy2⟩ := info_parts bool_info
  have HR := Lib.hid h
  have HL := Lib.hid hl
  have HQ := Lib.hid hQP
  have HLr := Lib.hid hlr
  have HWr := Lib.hid (rwrong_any h l Q A ca hl hll (fun n hn => (hlr n hn).1))
  have hone := h.one
  have hcap := h.cap
  have hsm := h.small
  have hlM := h.lM
  clear h hl hQP hlr
  cases hwf : wrongF (stOf nds bs) 0 l with
  | true =>
    have HP := Lib.hid (put_wrong (room := room) hwf)
    rw [hwf] at HWr
    clear hwf
    go_enter Tryz.func30, Tryz.ntmps30
    go_wp2_with fail
    refine HWr.out.mono ?_; rintro e w1 ⟨rfl, rfl⟩
    go_wp2_with fail
    go_ret2
    exact ⟨none, 0, gN, cN, gB, cB, nds, bs, [], 1, rfl, HP.out, .inl rfl, HR.out.mono fun _ h => .inl h, ButS.refl _ _⟩
  | false =>
    have HWf := Lib.hid hwf
    rw [hwf] at HWr
    have c2 := HR.out.c2
    have HB1 := Lib.hid (atR_bits HR.out.bits)
    have HBB : Hid (Below w.heap.size w (w.alloc (.cells #[] 4))) := Lib.hid ((Below.refl _ _).alloc (Nat.le_refl _) _)
    clear hwf
    go_enter Tryz.func30, Tryz.ntmps30
    go_wp2_with fail
    refine HWr.out.mono ?_; rintro e w1 ⟨rfl, rfl⟩
    go_wp2_with (at_builtin; refine of_stop ?_)
    refine stop_of ?_
    refine wpList_append_rows (f := boV) (n := 1) (E := 4) (nb := 1) (X := ([] : List Bool)) (base := w1.heap.size) rfl _ _ rfl rfl (own_lit0 w1 w1.heap.size (Nat.le_refl _)) (L2 := bs) rfl (fun i b hi j u hj => keep_cell HBB.out (HB1.out i b hi j u hj)) (by omega) (N := bs.length) (by simp) (Z := bs) rfl Tryz.underlying66 hi1 hy0 hy1 hy2 rfl (by decide) (by decide) (fun _ => rfl) boV_one (by omega) (by simp) ?_
    intro gW kW w2 ho2 hg2 hat2 hl2
    have hzW : w1.heap.size ≤ gW := by rcases hat2 with e | e; exact Nat.le_of_eq (own_of (g := w1.heap.size) rfl e).symm; simp at e; omega
    have hb2 : Below w1.heap.size w1 w2 := HBB.out.grown hg2 (by simp) (fun k hk => by have := own_of (g := w1.heap.size) rfl hk; omega)
    have hLP0 : LoopP w1 w2 P m room nds bs gW w2.heap.size [] (.slice none 0 0) gN cN gB cB nds bs :=
      ⟨((HR.out.tight).below hb2).mono fun g hg => ⟨.inl hg, fun e => by cases e⟩, Grew.refl _ _, ButS.of_below hb2, World.ownsRow_nil _ _ _ _, OwnR.at (fun _ => rfl) ho2 rfl, World.ownsRow.frozenAt ho2, hzW, hl2, Nat.le_refl _⟩
    have HLP := Lib.hid hLP0
    clear hLP0 ho2 hg2 hat2 c2
    go_wp2_with fail
    go_loopw [8, 9, 10, 11] (fun v vi _ _ wr => ∃ (i : Nat) (out : List Int) (gN1 cN1 gB1 cB1 : Nat) (nds1 : List Nd) (bs1 : List Bool), i ≤ l.length ∧ vi = .int .i64 (i : Int) ∧ Hid (putL room (stOf nds bs) [] l = putL room (stOf nds1 bs1) out (l.drop i)) ∧ Hid (out.length = i) ∧ Hid (LoopP w1 wr P m room nds bs gW w2.heap.size out v gN1 cN1 gB1 cB1 nds1 bs1)) (fun _ vi _ _ _ => l.length - (RowKit.intOf vi).toNat)
    case atStart => exact ⟨0, [], gN, cN, gB, cB, nds, bs, Nat.zero_le _, rfl, Lib.hid (by rw [List.drop_zero]), Lib.hid rfl, HLP⟩
    case round =>
      obtain ⟨i, out, gN1, cN1, gB1, cB1, nds1, bs1, hi, rfl, HT, Hol, HLp⟩ := hrel
      obtain ⟨O, co, hv, hO⟩ := own_rowI HLp.out.own
      by_cases hlt : i < l.length
      · obtain ⟨n, hn⟩ : ∃ n, l[i]? = some n := ⟨_, List.getElem?_eq_getElem hlt⟩
        obtain ⟨g, o, rfl, _, _, hat⟩ := (HL.out.kept (HLp.out.but.keptQ HQ.out)).at hlt
        obtain ⟨B, cb, C, cc, ⟨q0, q1, q2, q3⟩, hB, hC⟩ := hat i n hn
        have hwd := HLr.out n (List.mem_of_getElem? hn)
        have hrf : ∀ r ∈ n.refs, -(out.length : Int) ≤ r := fun r hr => by
          have := List.all_eq_true.1 (wrong_refs HWf.out hn) r hr
          rw [Hol.out]
          rw [Nat.zero_add] at this
          exact okRef_low this
        have HO := Lib.hid (rone_any HLp.out.rm n (fun _ => True) B C cb cc (hB.mono fun _ _ _ => trivial) (hC.mono fun _ _ _ => trivial) hwd.2 hwd.1 out O co (hO.mono fun _ _ _ => trivial) (by rw [Hol.out]; omega) hrf)
        have HNx := Lib.hid (fun k s' => putL_next (room := room) (s := stOf nds1 bs1) (out := out) (k := k) (s' := s') hn)
        have HSt := Lib.hid (putL_stop (room := room) (s := stOf nds1 bs1) (out := out) hn)
        have Hhv := Lib.hid hv
        unfold ndV at HO
        subst hv
        clear hat hB hC hO hrf hn hwd
        go_wp2_with fail
        refine HO.out.mono ?_; rintro e w3 hone1
        rcases hone1 with ⟨k, gN2, cN2, gB2, cB2, nds2, bs2, h1, rfl, hR2, hG2, hbut, _, _⟩ | ⟨h1, rfl, hb3⟩
        · have HL3 := Lib.hid (HLp.out.one hR2 hG2 hbut)
          have HT3 := Lib.hid (HT.out.trans (HNx.out k _ h1))
          clear h1 hR2 hG2 hbut HO
          have hsz3 := HL3.out.size
          go_wp2_with (at_builtin; refine of_stop ?_)
          refine stop_of ?_
          refine wpList_append_rows (f := inW) (n := 1) (E := 3) (nb := 8) (X := out) (base := w2.heap.size) rfl _ _ rfl rfl (OwnR.below HL3.out.own ((Below.refl _ _).alloc (Nat.le_refl _) _)) (L2 := [k]) rfl (one_row w3 k) (by simp) (N := i + 1) (by rw [Hol.out]; rfl) (Z := out ++ [k]) rfl Tryz.underlying54 hi0 hz0 hz1 hz2 rfl (by decide) (by decide) (fun _ => rfl) inW_one (by omega) (by simp; omega) ?_
          intro g4 k4 w4 ho4 hg4 hat4 hl4
          have HL4 := Lib.hid (HL3.out.app hg4 ho4 hat4)
          clear ho4 hg4 hat4 hl4
          go_wp2_with fail
          go_roundw
          case rel => exact ⟨i + 1, out ++ [k], gN2, cN2, gB2, cB2, nds2, bs2, by omega, by go_num, HT3, Lib.hid (by rw [List.length_append, Hol.out]; rfl), HL4⟩
          case measure => simp [RowKit.intOf]; omega
        · have HT3 := Lib.hid (HT.out.trans (HSt.out h1))
          have hR3 := HLp.out.rm.below hb3
          have HR3 := Lib.hid hR3
          have c1 := hR3.c1
          have f1 := hR3.fM 1
          have f2 := hR3.fM 2
          have hc2 := hR3.c2
          have hk := hR3.room'
          have hgl := HLp.out.grew.len
          have hln := hR3.len
          have Hb3 := Lib.hid hb3
          have hbk : bs.length ≤ cN1 := by omega
          have zm := hR3.lM
          clear hR3 h1 hb3 HO
          go_wp2_with fail
          go_ret2
          have hst : stOf (nds1.take bs.length) bs = stOf nds bs := st_ext HR.out.len (by rw [List.length_take]; omega) fun j hj => by
            have hjl := (List.getElem?_eq_some_iff.1 hj).1
            rw [List.getElem?_take, if_pos hjl]
            exact (HLp.out.grew.same j hj).2
          have hWl : ¬ LPr w1 P gW (.slice O out.length co) gW := fun e => (e.ne HLp.out.loW) rfl
          have hW3 : AtR boV 1 w3 gW 0 bs := fun i q hi j u hj => keep_cell Hb3.out (HLp.out.was i q hi j u hj)
          have hWlt : gW < w3.heap.size := by have := HLp.out.hiW; have := HLp.out.size; have := Hb3.out.size; omega
          have hWlt2 : gW < _ := Nat.lt_of_lt_of_le HLp.out.hiW HLp.out.size
          have hF3 : ∀ j, w3.frozen? ⟨gW, j, none⟩ = false := fun j => keep_frozen Hb3.out hWlt2 (HLp.out.froz j)
          have hcut := HR3.out.cut (kW := kW) hgl hone hW3 hF3 hWl hWlt
          have hpm := HLp.out.rm.pM
          refine ⟨none, 0, gN1, cN1, gW, kW, nds1.take bs.length, bs, [], 3, rfl, by rw [hst]; exact put_full HWf.out HT3.out, .inl rfl, hcut.mono (fun g hg => ?_), ?_⟩
          · rcases hg with hg | hg
            · rcases hg.1 with q | q
              · exact .inl q.1
              · exact .inr q.1
            · exact .inr (by rw [hg]; exact HLp.out.loW)
          · exact ((HLp.out.but.trans (ButS.of_below Hb3.out)).setCell (p := ⟨m, 2, none⟩) (.inl (hpm.old hlM)) _).setCell (p := ⟨m, 1, none⟩) (.inl (hpm.old hlM)) _
      · have hii : i = l.length := by omega
        subst hii
        have HP := Lib.hid (put_good HWf.out (by have := HT.out; rw [List.drop_length, putL] at this; exact this))
        have HOr := Lib.hid hO
        subst hv
        clear hO
        go_wp2_with fail
        go_ret2
        exact ⟨O, co, gN1, cN1, gB1, cB1, nds1, bs1, out, 0, rfl, HP.out, HOr.out.mono (fun g hg _ => by have := HLp.out.loW; have := HLp.out.hiW; omega), HLp.out.rm.mono (fun g hg => by rcases hg.1 with q | q; exact .inl q.1; exact .inr q.1), HLp.out.but⟩
end
end Go.Proofs.YtjgjacihdggimaaGreatDoor
namespace Go.Proofs.YtjgjacihdggimaaGreatDoor
open Go.RowKit
theorem putA_err {room : Nat} {s s' : Sh} {l : List Nd} {out : List Int} {c : Nat} (h : putA room s l = (s', out, c)) (hc : c ≠ 0) : out = [] := by
  unfold putA at h
  split at h
  · simp only [Prod.mk.injEq] at h; exact h.2.1.symm
  · split at h
    · simp only [Prod.mk.injEq] at h; exact h.2.1.symm
    · simp only [Prod.mk.injEq] at h; exact absurd h.2.2.symm hc
theorem putA_len {room : Nat} {s s' : Sh} {l : List Nd} {out : List Int} {c : Nat} (h : putA room s l = (s', out, c)) : out.length ≤ l.length := by
  by_cases hc : c = 0
  · have := (put_ok (room := room) (s := s) (l := l) (by rw [h]; exact hc)).1
    rw [h] at this
    exact Nat.le_of_eq this
  · rw [putA_err h hc]; exact Nat.zero_le _
def BldP (w : World) (P : Nat → Prop) (m room : Nat) (r : Sh × Int × Nat) (e : Ending) (w' : World) : Prop :=
  ∃ gN cN gB cB nds bs, e = .returned (.tuple #[.int .i64 r.2.1, .int .i64 (r.2.2 : Int)]) ∧ stOf nds bs = r.1 ∧ RM w' (fun g => P g ∨ w.heap.size ≤ g) m gN cN gB cB room nds bs ∧ ButS P w w'
section
variable {w w' : World} {P : Nat → Prop} {m gN cN gB cB room : Nat} {nds : List Nd} {bs : List Bool}
theorem BldP.same (h : RM w P m gN cN gB cB room nds bs) {w1 : World} (hb : Below w.heap.size w w1) {x : Int} {c : Nat} : BldP w P m room (stOf nds bs, x, c) (.returned (.tuple #[.int .i64 x, .int .i64 (c : Int)])) w1 :=
  ⟨gN, cN, gB, cB, nds, bs, rfl, rfl, (h.below hb).mono fun _ hg => .inl hg, ButS.of_below hb⟩
theorem BldP.from {w1 : World} {r : Sh × Int × Nat} {e : Ending} (hb : Below w.heap.size w w1) (h : BldP w1 P m room r e w') : BldP w P m room r e w' := by
  obtain ⟨gN, cN, gB, cB, nds, bs, he, hs, hr, hbu⟩ := h
  have hz := hb.size
  exact ⟨gN, cN, gB, cB, nds, bs, he, hs, hr.mono fun g hg => hg.imp id (fun h => Nat.le_trans hz h), (ButS.of_below hb).trans hbu⟩
set_option maxHeartbeats 16000000 in
set_option maxRecDepth 10000 in
theorem rbuildE_any (h : RM w P m gN cN gB cB room nds bs) (l : List En) (A : Option Addr) (ca : Nat) {Q : Nat → Prop} (hl : RowE w Q A l) (hll : l.length ≤ 100000) (hlt : ∀ x ∈ l, x.text.length ≤ maxLen) :
    Calls Tryz.prog 9 #[.pointer (some ⟨m, 0, none⟩), .slice A l.length ca] w fun e w' => BldP w P m room (pBldR room (stOf nds bs) l) e w' := by
  have HR := Lib.hid h
  have HL := Lib.hid hl
  have HT := Lib.hid hlt
  have HNo := Lib.hid (fun (x : En) (hx : x ∈ l) hr => bld_no (room := room) (s := stOf nds bs) hx hr)
  have HDu := Lib.hid (fun hr hd => bld_dup (room := room) (s := stOf nds bs) (l := l) hr hd)
  have HYe := Lib.hid (fun hr hd => bld_yes (room := room) (s := stOf nds bs) (l := l) hr hd)
  clear h hl hlt
  generalize pBldR room (stOf nds bs) l = PR at *
  go_enter Tryz.func9, Tryz.ntmps9
  go_wp2_with fail
  go_loopw [6, 7] (fun vi _ wr => ∃ i : Nat, i ≤ l.length ∧ vi = .int .i64 (i : Int) ∧ Hid (∀ x ∈ l.take i, rightE x = true) ∧ Below w.heap.size w wr) (fun vi _ _ => l.length - (RowKit.intOf vi).toNat)
  case atStart => exact ⟨0, Nat.zero_le _, rfl, Lib.hid (by simp), Below.refl _ _⟩
  case round =>
    obtain ⟨i, hi, rfl, HRt, hb⟩ := hrel
    by_cases hlt : i < l.length
    · obtain ⟨x, hx⟩ : ∃ x, l[i]? = some x := ⟨_, List.getElem?_eq_getElem hlt⟩
      obtain ⟨g, o, rfl, _, hgl, hat⟩ := HL.out.at hlt
      obtain ⟨q0, q1⟩ := hat.two hx
      have k0 := keep_cell hb q0
      have k1 := keep_cell hb q1
      have hI : (i : Int) < (l.length : Int) := by omega
      have hJ : (0 : Int) ≤ (i : Int) := by omega
      have hm := List.mem_of_getElem? hx
      have HRi := Lib.hid (fun w' => rright_any x w' (HT.out x hm))
      have HBd := Lib.hid (fun hr => HNo.out x hm hr)
      have HRn := Lib.hid (fun hr : rightE x = true => take_next9 hx HRt.out hr)
      obtain ⟨kx, tx⟩ := x
      clear hat q0 q1 hx hm HRt
      cases hr : rightE ⟨kx, tx⟩ with
      | false =>
        have HE := Lib.hid (HBd.out hr)
        rw [hr] at HRi
        clear hr HBd HRn
        go_wp2_with fail
        refine (HRi.out _).mono ?_; rintro e w2 ⟨rfl, hb2⟩
        have hb3 := hb.trans (hb2.mono hb.size)
        go_wp2_with fail
        go_ret2
        rw [HE.out]
        exact BldP.same HR.out hb3
      | true =>
        have HRn2 := Lib.hid (HRn.out hr)
        rw [hr] at HRi
        clear hr HBd HRn
        go_wp2_with fail
        refine (HRi.out _).mono ?_; rintro e w2 ⟨rfl, hb2⟩
        have hb3 := hb.trans (hb2.mono hb.size)
        clear hb2 k0 k1 HRi
        go_wp2_with fail
        go_roundw
        case rel => exact ⟨i + 1, by omega, by go_num, HRn2, hb3⟩
        case measure => simp [RowKit.intOf]; omega
    · have hii : i = l.length := by omega
      subst hii
      have hr := HRt.out
      rw [List.take_length] at hr
      have HSo := Lib.hid (rsorted_any l A ca wr (HL.out.below hb) hll)
      have HDu2 := Lib.hid (HDu.out hr)
      have HYe2 := Lib.hid (HYe.out hr)
      have HAd := Lib.hid (sort_adj hr)
      have HNt := Lib.hid (fun j x y h1 h2 e => sort_not (l := l) hr (j := j) (x := x) (y := y) h1 h2 e)
      have HOk := Lib.hid (fun hd => sort_ok hr hd)
      have HKy := Lib.hid (sortK_perm (keyIn_of hr))
      have Hb := Lib.hid hb
      clear hr HRt HNo HDu HYe HT HL hb
      generalize sortK l 1024 = S at *
      have hsl : S.length ≤ 100000 := by rw [HKy.out.length_eq]; exact hll
      go_wp2_with fail
      refine HSo.out.mono ?_; rintro e w2 ⟨O3, co3, rfl, hc3, hr3, hb3⟩
      have HR3 := Lib.hid hr3
      have HB3 := Lib.hid (Hb.out.trans (hb3.mono Hb.out.size))
      have HC3 := Lib.hid hc3
      clear hr3 hb3 hc3 HSo Hb
      go_wp2_with fail
      go_loopw [9] (fun vi wr2 => ∃ i : Nat, (i + 1 ≤ S.length ∨ i = 0) ∧ vi = .int .i64 ((i : Int) + 1) ∧ Hid (∀ (j : Nat) (x y : En), j < i → S[j]? = some x → S[j + 1]? = some y → y.key ≠ x.key) ∧ Below w2.heap.size w2 wr2) (fun vi _ => S.length - (RowKit.intOf vi).toNat)
      case atStart => exact ⟨0, .inr rfl, rfl, Lib.hid (fun j x y hj => by omega), Below.refl _ _⟩
      case round =>
        obtain ⟨i, hi, rfl, HN, hb⟩ := hrel
        have Hbw := Lib.hid (HB3.out.trans (hb.mono HB3.out.size))
        by_cases hlt : i + 1 < S.length
        · obtain ⟨x, hx⟩ : ∃ x, S[i]? = some x := ⟨_, List.getElem?_eq_getElem (by omega)⟩
          obtain ⟨y, hy⟩ : ∃ y, S[i + 1]? = some y := ⟨_, List.getElem?_eq_getElem hlt⟩
          obtain ⟨g, o, rfl, _, hgl, hat⟩ := HR3.out.at hlt
          obtain ⟨q0, _⟩ := hat.two hx
          obtain ⟨q1, _⟩ := hat.two hy
          have k0 := keep_cell hb q0
          have k1 := keep_cell hb q1
          have hI : (i : Int) + 1 < (S.length : Int) := by omega
          have hJ : (0 : Int) ≤ (i : Int) + 1 := by omega
          have hK : (0 : Int) ≤ (i : Int) := by omega
          have hL : (i : Int) < (S.length : Int) := by omega
          have hwi : IntKind.i64.wrap (i : Int) = (i : Int) := by rw [IntKind.wrap_i64]; omega
          have HD := Lib.hid (fun e => HDu2.out (HNt.out i x y hx hy e))
          have HNn : Hid (y.key ≠ x.key → ∀ (j : Nat) (a b : En), j < i + 1 → S[j]? = some a → S[j + 1]? = some b → b.key ≠ a.key) := Lib.hid fun e j a b hj ha hb' => by
            by_cases hji : j = i
            · subst hji
              rw [hx] at ha
              rw [hy] at hb'
              rw [← Option.some.inj ha, ← Option.some.inj hb']
              exact e
            · exact HN.out j a b (by omega) ha hb'
          obtain ⟨kx, tx⟩ := x
          obtain ⟨ky, ty⟩ := y
          clear hx hy hat q0 q1
          by_cases e : ky = kx
          · have d1 : (ky == kx) = true := by simpa using e
            have HE := Lib.hid (HD.out e)
            clear e HD HNn
            go_wp2_with fail
            go_region_law (first | fail)
            all_goals
              go_wp2_with fail
              go_ret2
              rw [HE.out]
              exact BldP.same HR.out (by first | exact Hbw.out.drew | exact Hbw.out)
          · have d1 : (ky == kx) = false := by simpa using e
            have HN2 := Lib.hid (HNn.out e)
            clear e HD HNn
            go_wp2_with fail
            go_region_law (first | fail)
            all_goals
              go_wp2_with fail
              go_roundw
              case rel => exact ⟨i + 1, .inl (by omega), by go_num, HN2, by first | exact hb.drew | exact hb⟩
              case measure => simp [RowKit.intOf]; omega
        · have hdis := HAd.out (fun j x y hx hy => HN.out j x y (by have := (List.getElem?_eq_some_iff.1 hy).1; omega) hx hy)
          have HE := Lib.hid (HYe2.out hdis)
          have HOk2 := Lib.hid (HOk.out hdis)
          have hI : ¬ ((i : Int) + 1 < (S.length : Int)) := by omega
          have d1 : decide ((i : Int) + 1 < (S.length : Int)) = false := decide_eq_false hI
          have HNo := Lib.hid (rnodes_any S HOk2.out.keys hsl O3 co3 HC3.out wr _ (HR3.out.below hb))
          clear hdis HDu2 HYe2 HAd HNt HOk HN hI
          go_wp2_with fail
          refine HNo.out.mono ?_; rintro e w3 ⟨O4, co4, rfl, hr4, hb5⟩
          have hb6 := Hbw.out.trans (hb5.mono Hbw.out.size)
          have HB6 := Lib.hid hb6
          have hzz := Hbw.out.size
          have HPu := Lib.hid (rPut_any (HR.out.tight.below hb6) (nodesL S) O4 co4 hr4 (fun g hg e => by have := e.2; omega) (by have := nodesL_len HOk2.out.keys; omega) (fun n hn => by have := (nodesL_fit HOk2.out hsl n hn).1; omega))
          clear hb5 hb6 hr4 HNo
          generalize hns : nodesL S = ns at *
          have HNs := Lib.hid hns
          clear hns
          go_wp2_with fail
          refine HPu.out.mono ?_; rintro e w4 ⟨O5, co5, gN5, cN5, gB5, cB5, nds5, bs5, out, c, rfl, hpa, hro, hrm, hbu⟩
          have hE : PR = (stOf nds5 bs5, out.getLastD 0, if out = [] then c else 0) := by
            rw [HE.out]
            unfold putT
            rw [HNs.out, hpa]
          have HErr := Lib.hid (putA_err hpa)
          have HOl : Hid (out.length ≤ 1000000) := Lib.hid (Nat.le_trans (putA_len hpa) (by rw [← HNs.out]; have := nodesL_len HOk2.out.keys; omega))
          have HE2 := Lib.hid hE
          have hrm2 : RM w4 (fun g => P g ∨ w3.heap.size ≤ g) m gN5 cN5 gB5 cB5 room nds5 bs5 := hrm.mono fun g hg => hg.imp And.left id
          have hbu2 : ButS P w3 w4 := hbu.mono fun g hg => hg.1
          have HRM := Lib.hid hrm2
          have HBu := Lib.hid hbu2
          have HRo := Lib.hid hro
          clear hpa hrm hbu hE hro hrm2 hbu2 HE HPu
          by_cases ho : out = []
          · subst ho
            by_cases hc : c = 0
            · subst hc
              clear HErr
              go_wp2_with fail
              go_ret2
              rw [HE2.out]
              exact BldP.from HB6.out ⟨_, _, _, _, _, _, rfl, rfl, HRM.out, HBu.out⟩
            · have dc : ((c : Int) != 0) = true := by simpa using hc
              clear HErr hc
              go_wp2_with fail
              go_ret2
              rw [HE2.out]
              exact BldP.from HB6.out ⟨_, _, _, _, _, _, rfl, rfl, HRM.out, HBu.out⟩
          · have hc : c = 0 := by
              by_cases hc : c = 0
              · exact hc
              · exact absurd (HErr.out hc) ho
            subst hc
            have hp := List.length_pos_iff.2 ho
            have HE3 : Hid (PR = (stOf nds5 bs5, out.getLastD 0, 0)) := Lib.hid (by rw [HE2.out, if_neg ho])
            obtain ⟨y, hy⟩ : ∃ y, out[out.length - 1]? = some y := ⟨_, List.getElem?_eq_getElem (by omega)⟩
            have hyl : out.getLastD 0 = y := by rw [List.getLastD_eq_getLast?, List.getLast?_eq_getElem?, hy]; rfl
            rw [hyl] at HE3
            obtain ⟨g, o, rfl, _, _, hcc⟩ := HRo.out.at (i := out.length - 1) (by omega)
            have c0 := hcc _ y hy
            have hol : out.length ≤ 1000000 := HOl.out
            obtain ⟨N, hN⟩ : ∃ N, out.length = N + 1 := ⟨out.length - 1, by omega⟩
            rw [hN, show N + 1 - 1 = N by omega] at c0
            have hNl : N ≤ 1000000 := by omega
            rw [hN]
            have dz : (((N + 1 : Nat) : Int) == 0) = false := by rw [beq_eq_false_iff_ne]; omega
            have hwi : IntKind.i64.wrap (N : Int) = (N : Int) := by rw [IntKind.wrap_i64]; omega
            clear hy hyl hcc hN hol ho hp HErr HE2
            go_wp2_with fail
            go_ret2
            rw [HE3.out]
            exact BldP.from HB6.out ⟨_, _, _, _, _, _, rfl, rfl, HRM.out, HBu.out⟩
end
end Go.Proofs.YtjgjacihdggimaaGreatDoor
namespace Go.Proofs.YtjgjacihdggimaaGreatDoor
open Go.RowKit Go.Maps Go.MapKept Go.ChangeMaps
theorem liveF_up : ∀ (s : Sh) (k : Int), (liveF k s).Pairwise (· < ·) ∧ ∀ x ∈ liveF k s, k ≤ x
  | [], _ => ⟨List.Pairwise.nil, fun x h => by cases h⟩
  | none :: s, k => by
    obtain ⟨h1, h2⟩ := liveF_up s (k + 1)
    exact ⟨h1, fun x hx => by have := h2 x hx; omega⟩
  | some _ :: s, k => by
    obtain ⟨h1, h2⟩ := liveF_up s (k + 1)
    refine ⟨List.pairwise_cons.2 ⟨fun x hx => by have := h2 x hx; omega, h1⟩, fun x hx => ?_⟩
    rcases List.mem_cons.1 hx with rfl | hx
    · exact Int.le_refl _
    · have := h2 x hx; omega
def litI (d : DataW Unit) : Int := match d with
  | .lit (.int _ h) => h
  | _ => 0
def hsK (D : DataW Unit) : List Int := match D with
  | .map es => es.map fun p => litI (D.atKey p.1 (hV 0))
  | _ => []
theorem hs_perm {D : DataW Unit} {t : Sh} {es : List (Lit × DataW Unit)} (hD : D = .map es) (hp : es.Pairwise (fun p q => p.1 ≠ q.1)) (hk : ∀ p ∈ es, WideAt.IsKeyLit p.1) (h : Maps9 D t) : (hsK D).Perm (liveA t) := by
  have hh : ∀ p ∈ es, ∃ k n, ndAt t k = some n ∧ p.1 = kN n ∧ litI (D.atKey p.1 (hV 0)) = k := fun p hp => by
    have e : has D p.1 = true := by
      rw [hD, has_eq, List.any_eq_true]
      exact ⟨p, hp, WideAt.sameKey_self (hk p hp)⟩
    obtain ⟨k, n, hn, e⟩ := h.only _ e
    exact ⟨k, n, hn, e, by rw [e, (h.at_ k n hn).1]; rfl⟩
  have e0 : hsK D = es.map fun p => litI (D.atKey p.1 (hV 0)) := by rw [hD]; rfl
  rw [e0]
  refine (List.perm_ext_iff_of_nodup ?_ ((liveF_up t 1).1.imp fun {a b} hab => by omega)).2 fun x => ?_
  · refine List.pairwise_map.2 (hp.imp_of_mem fun {p q} hp' hq' hne e => hne ?_)
    obtain ⟨k, n, hn, e1, e2⟩ := hh p hp'
    obtain ⟨j, m, hm, e3, e4⟩ := hh q hq'
    rw [e2, e4] at e
    subst e
    rw [hn] at hm
    cases hm
    rw [e1, e3]
  · show _ ↔ x ∈ liveA t
    rw [liveA_mem, List.mem_map, live_iff]
    constructor
    · rintro ⟨p, hp', rfl⟩
      obtain ⟨k, n, hn, _, e2⟩ := hh p hp'
      rw [e2]; exact ⟨n, hn⟩
    · rintro ⟨n, hn⟩
      have e := (h.at_ x n hn).2
      rw [hD, has_eq, List.any_eq_true] at e
      obtain ⟨p, hp', hs⟩ := e
      exact ⟨p, hp', by rw [WideAt.sameKey_eq hs, (h.at_ x n hn).1]; rfl⟩
theorem MapA.size {w : World} {b : Nat} {t : Sh} {D : DataW Unit} {n : Nat} (h1 : w.ownsMap Tryz.prog 144 (plainElem Tryz.prog 3) b n D) (h : Maps9 D t) : Maps.size D = (liveA t).length ∧ (hsK D).Perm (liveA t) := by
  obtain ⟨es, hD, hp, hk⟩ := h1.entries lookKeyed
  have hP := hs_perm hD hp hk h
  refine ⟨?_, hP⟩
  rw [← hP.length_eq, hD]
  show es.length = (es.map _).length
  rw [List.length_map]
theorem sorted_live {l : List Int} {t : Sh} (h : l.Perm (liveA t)) : l.mergeSort (fun x y => decide (x ≤ y)) = liveA t := by
  have e := mergeSort_of_perm_i h
  refine e.trans (List.mergeSort_of_pairwise ((liveF_up t 1).1.imp fun {a b} hab => ?_))
  simp only [leI, decide_eq_true_eq]
  omega
/- asking -/
theorem MapA.len {w : World} {b : Nat} {t : Sh} (h : MapA w b t) (ty : TypeId) : (Builtin.len_ #[61] ty #[.map (some b)]).run Tryz.prog w = .ok (.int .i64 ((liveA t).length : Int)) w := by
  obtain ⟨D, h1, h2⟩ := h
  rw [h1.len Tryz.underlying61 ty, (MapA.size h1 h2).1]
theorem MapA.look {w : World} {b : Nat} {t : Sh} (h : MapA w b t) (hf : FitT t) (h1 : ∀ h k n, ndAt t h = some n → ndAt t k = some n → h = k) {x : Nd} (hx : FitK x) :
    (Instr.lookup 61 (.map (some b)) (lookV x) true).run Tryz.prog w = .ok (.tuple #[.int .i64 (fnd t x : Int), .bool (decide (fnd t x ≠ 0))]) w := by
  obtain ⟨D, h2, h3⟩ := h
  obtain ⟨v, ps, hrun, hv⟩ := h2.look_ok lookKeyed Tryz.underlying61 (intZero9 w) (zd := hV 0) (zp := []) (plainElem_int Tryz.underlying3 (by decide)) (key_look hx)
  by_cases e : fnd t x = 0
  · have hm := h3.miss hf hx fun k hk => by
      obtain ⟨i, rfl, hi⟩ := ndAt_some hk
      exact fnd_zero e i hi
    rw [atKey_of_not_has hm] at hv
    obtain ⟨a, rfl, hz, _⟩ := plainElem_int_inv Tryz.underlying3 hv
    cases hz
    rw [hrun, hm, e]; rfl
  · have hp := fnd_pos e
    obtain ⟨e1, e2⟩ := h3.at_ _ _ hp
    rw [e1] at hv
    obtain ⟨a, rfl, hz, _⟩ := plainElem_int_inv Tryz.underlying3 hv
    cases hz
    rw [hrun, e2, decide_eq_true e]
theorem MapA.put {w : World} {b : Nat} {t t' : Sh} (h : MapA w b t) (hf : FitT t) (hsz : (liveA t).length < maxLen) {x : Nd} {k : Int} (hx : FitK x) (hk64 : 0 ≤ k ∧ k ≤ 1000000) (h0 : ∀ k, ndAt t k ≠ some x) (ht : ∀ j, ndAt t' j = if j = k then some x else ndAt t j) (hk : ndAt t k = none) :
    ∃ w', (Instr.mapUpdate 61 (.map (some b)) (lookV x) (.int .i64 k)).run Tryz.prog w = .ok () w' ∧ MapA w' b t' ∧ w.grownBy w' (some b) ∧ w'.heap.size = w.heap.size ∧ ∀ a, w'.frozen? a = w.frozen? a := by
  obtain ⟨D, h2, h3⟩ := h
  have hs := (MapA.size h2 h3).1
  obtain ⟨w', hrun, r1, r2⟩ := h2.store lookKeyed Tryz.underlying61 (by omega) (key_look hx) (plainElem_int Tryz.underlying3 (a := k) (wf64' (by omega)))
  exact ⟨w', hrun, ⟨_, own_tight r1, h3.put h2.isMap hf hx h0 ht hk⟩, r2.grown, by obtain ⟨es, clock, es', clock', hb, rfl⟩ := r2; simp [setBlock], r2.frozen⟩
theorem MapA.del {w : World} {b : Nat} {t t' : Sh} (h : MapA w b t) (hf : FitT t) (h1 : ∀ h k n, ndAt t h = some n → ndAt t k = some n → h = k) {x : Nd} {k : Int} (hx : ndAt t k = some x) (ht : ∀ j, ndAt t' j = if j = k then none else ndAt t j) (ty : TypeId) :
    ∃ w', (Builtin.delete_ #[61, 144] ty #[.map (some b), lookV x]).run Tryz.prog w = .ok (.tuple #[]) w' ∧ MapA w' b t' ∧ w.grownBy w' (some b) ∧ w'.heap.size = w.heap.size ∧ ∀ a, w'.frozen? a = w.frozen? a := by
  obtain ⟨D, h2, h3⟩ := h
  obtain ⟨w', hrun, r1, r2⟩ := h2.drop lookKeyed Tryz.underlying61 (key_look (hf k x hx)) ty
  exact ⟨w', hrun, ⟨_, own_tight r1, h3.del hf h1 hx ht⟩, r2.grown, by obtain ⟨es, clock, es', clock', hb, rfl⟩ := r2; simp [setBlock], r2.frozen⟩
end Go.Proofs.YtjgjacihdggimaaGreatDoor
